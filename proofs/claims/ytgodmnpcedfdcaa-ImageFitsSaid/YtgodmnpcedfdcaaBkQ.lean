/- Package block: Assign. -/
import Derived.Test.YtgodmnpcedfdcaaBkQa
namespace Go.Proofs.Ytgodmnpcedfdcaa
open Go.RowKit
set_option maxRecDepth 100000 in
set_option maxHeartbeats 8000000 in
theorem assign_bad (b : BlkS) (fv av : Value) (n : Int) (a : PA) (w : World) (hf : Sees w fv b.free) (ha : SeesA w av b.attrs) (hw : BWf b) (h1 : a.1.size ≤ maxLen) (h2 : a.2.size ≤ maxLen) (hno : (rightB b && (mayP a && decide (0 ≤ n))) = false) :
    Calls Try.prog 15 #[.agg (blkL b fv av).toArray, .int .i64 n, atV a] w fun e w' => e = .returned (.tuple #[.agg (blkL zB NS NS).toArray, NS, .int .i64 1]) ∧ Below w.heap.size w w' := by
  obtain ⟨W, hW⟩ : ∃ W, W = ((w.alloc (blkO b fv av)).alloc (atO a)).alloc (blkO zB NS NS) := ⟨_, rfl⟩
  obtain ⟨hb0, hA, hT, hR, hsz⟩ := three_newB w (blkO b fv av) (atO a) (blkO zB NS NS)
  rw [← hW] at hb0 hA hT hR hsz
  have HX0 : Hid (BlkAt W w.heap.size b fv av) := Lib.hid hA
  have HA0 := Lib.hid hT
  have HZ0 : Hid (BlkAt W (w.heap.size + 2) zB NS NS) := Lib.hid hR
  have HB0 := Lib.hid hb0
  have HSZ := Lib.hid hsz
  have HW := Lib.hid hW
  have HRB := Lib.hid (rightBlk_any (blkL b fv av).toArray b W ⟨fv, av, rfl, hf.keep hb0, ha.below hb0, hw⟩)
  have HMB := Lib.hid (fun w => mayBe_any a h1 h2 w)
  have hl := hw.2.1
  cases hr : rightB b with
  | false =>
    rw [hr] at HRB
    clear hW hb0 hA hT hR hsz hf ha hw hno
    go_enter Try.func15, Try.ntmps15
    go_upto_region 1 with fail
    change Code.wp _ _ _ _ (((w.alloc (blkO b fv av)).alloc (atO a)).alloc (blkO zB NS NS))
    rw [← HW.out]
    clear HW
    go_wp2_with (refine wpLdB rfl _ rfl rfl HX0.out hl ?_)
    refine HRB.out.mono ?_; rintro e w1 ⟨rfl, hb1⟩
    have HX1 := Lib.hid (HX0.out.below hb1)
    have HZ1 := Lib.hid (HZ0.out.below hb1)
    have HA1 := Lib.hid ((hb1.block _ (heap_lt HA0.out)).trans HA0.out)
    have HB1 := Lib.hid (HB0.out.trans (hb1.mono HB0.out.size))
    have HS1 := Lib.hid (Nat.le_trans (Nat.le_of_eq HSZ.out.symm) hb1.size)
    clear hb1
    go_wp2_with (refine wpStB (b := zB) (fv := NS) (av := NS) rfl _ _ rfl rfl rfl HZ1.out zB_len zB_len rfl rfl ?_; intro w7 hx7 hg7)
    exact bodyPost_ret (resB3 Try.results15 rfl (loadVarB hx7 zB_len)) rfl ⟨rfl, HB1.out.grown hg7 HB1.out.size (fun k hk => by cases hk; omega)⟩
  | true =>
    rw [hr] at HRB
    cases hm : mayP a with
    | false =>
      rw [hm] at HMB
      clear hW hb0 hA hT hR hsz hf ha hw hno
      go_enter Try.func15, Try.ntmps15
      go_upto_region 1 with fail
      change Code.wp _ _ _ _ (((w.alloc (blkO b fv av)).alloc (atO a)).alloc (blkO zB NS NS))
      rw [← HW.out]
      clear HW
      go_wp2_with (refine wpLdB rfl _ rfl rfl HX0.out hl ?_)
      refine HRB.out.mono ?_; rintro e w1 ⟨rfl, hb1⟩
      have HX1 := Lib.hid (HX0.out.below hb1)
      have HZ1 := Lib.hid (HZ0.out.below hb1)
      have HA1 := Lib.hid ((hb1.block _ (heap_lt HA0.out)).trans HA0.out)
      have HB1 := Lib.hid (HB0.out.trans (hb1.mono HB0.out.size))
      have HS1 := Lib.hid (Nat.le_trans (Nat.le_of_eq HSZ.out.symm) hb1.size)
      clear hb1
      have k0 := (cells2 HA1.out).1
      have k1 := (cells2 HA1.out).2
      go_wp2_with fail
      refine (HMB.out _).mono ?_; rintro e w2 ⟨rfl, hb2⟩
      have HX2 := Lib.hid (HX1.out.below hb2)
      have HZ2 := Lib.hid (HZ1.out.below hb2)
      have HA2 := Lib.hid ((hb2.block _ (heap_lt HA1.out)).trans HA1.out)
      have HB2 := Lib.hid (HB1.out.trans (hb2.mono HB1.out.size))
      have HSW := Lib.hid (Nat.le_trans HS1.out hb2.size)
      clear hb2 HS1 k0 k1 HX1 HA1 HB1 HZ1
      go_wp2_with (refine wpStB (b := zB) (fv := NS) (av := NS) rfl _ _ rfl rfl rfl HZ2.out zB_len zB_len rfl rfl ?_; intro w7 hx7 hg7)
      exact bodyPost_ret (resB3 Try.results15 rfl (loadVarB hx7 zB_len)) rfl ⟨rfl, HB2.out.grown hg7 HB2.out.size (fun k hk => by cases hk; omega)⟩
    | true =>
      have hn : n < 0 := by
        rw [hr, hm] at hno
        simpa using hno
      have dn : decide (n < 0) = true := decide_eq_true hn
      rw [hm] at HMB
      clear hW hb0 hA hT hR hsz hf ha hw hno
      go_enter Try.func15, Try.ntmps15
      go_upto_region 1 with fail
      change Code.wp _ _ _ _ (((w.alloc (blkO b fv av)).alloc (atO a)).alloc (blkO zB NS NS))
      rw [← HW.out]
      clear HW
      go_wp2_with (refine wpLdB rfl _ rfl rfl HX0.out hl ?_)
      refine HRB.out.mono ?_; rintro e w1 ⟨rfl, hb1⟩
      have HX1 := Lib.hid (HX0.out.below hb1)
      have HZ1 := Lib.hid (HZ0.out.below hb1)
      have HA1 := Lib.hid ((hb1.block _ (heap_lt HA0.out)).trans HA0.out)
      have HB1 := Lib.hid (HB0.out.trans (hb1.mono HB0.out.size))
      have HS1 := Lib.hid (Nat.le_trans (Nat.le_of_eq HSZ.out.symm) hb1.size)
      clear hb1
      have k0 := (cells2 HA1.out).1
      have k1 := (cells2 HA1.out).2
      go_wp2_with fail
      refine (HMB.out _).mono ?_; rintro e w2 ⟨rfl, hb2⟩
      have HX2 := Lib.hid (HX1.out.below hb2)
      have HZ2 := Lib.hid (HZ1.out.below hb2)
      have HA2 := Lib.hid ((hb2.block _ (heap_lt HA1.out)).trans HA1.out)
      have HB2 := Lib.hid (HB1.out.trans (hb2.mono HB1.out.size))
      have HSW := Lib.hid (Nat.le_trans HS1.out hb2.size)
      clear hb2 HS1 k0 k1 HX1 HA1 HB1 HZ1
      go_wp2_with (refine wpStB (b := zB) (fv := NS) (av := NS) rfl _ _ rfl rfl rfl HZ2.out zB_len zB_len rfl rfl ?_; intro w7 hx7 hg7)
      exact bodyPost_ret (resB3 Try.results15 rfl (loadVarB hx7 zB_len)) rfl ⟨rfl, HB2.out.grown hg7 HB2.out.size (fun k hk => by cases hk; omega)⟩
set_option maxRecDepth 100000 in
set_option maxHeartbeats 8000000 in
theorem assign_any (b : BlkS) (fv av : Value) (n : Int) (a : PA) (w : World) (hf : Sees w fv b.free) (ha : SeesA w av b.attrs) (hw : BWf b) (h1 : a.1.size ≤ maxLen) (h2 : a.2.size ≤ maxLen) (hr : rightB b = true) (hm : mayP a = true) (hn : 0 ≤ n) :
    Calls Try.prog 15 #[.agg (blkL b fv av).toArray, .int .i64 n, atV a] w fun e w' => ∃ fv' av' tv, e = .returned (.tuple #[.agg (blkL (givS b (b.free.take n.toNat) a) fv' av').toArray, tv, .int .i64 0]) ∧ BlkRet w w' (givS b (b.free.take n.toNat) a) fv' av' ∧ OwnsU w' w.heap.size tv (adrs b (b.free.take n.toNat)) := by
  obtain ⟨W, hW⟩ : ∃ W, W = ((w.alloc (blkO b fv av)).alloc (atO a)).alloc (blkO zB NS NS) := ⟨_, rfl⟩
  obtain ⟨hb0, hA, hT, hR, hsz⟩ := three_newB w (blkO b fv av) (atO a) (blkO zB NS NS)
  rw [← hW] at hb0 hA hT hR hsz
  have HX0 : Hid (BlkAt W w.heap.size b fv av) := Lib.hid hA
  have HA0 := Lib.hid hT
  have HZ0 : Hid (BlkAt W (w.heap.size + 2) zB NS NS) := Lib.hid hR
  have HB0 := Lib.hid hb0
  have HSZ := Lib.hid hsz
  have HW := Lib.hid hW
  have HRB := Lib.hid (rightBlk_any (blkL b fv av).toArray b W ⟨fv, av, rfl, hf.keep hb0, ha.below hb0, hw⟩)
  have HMB := Lib.hid (fun w => mayBe_any a h1 h2 w)
  have hl := hw.2.1
  obtain ⟨h64, _, hal, _⟩ := right_bd hw hr
  obtain ⟨hfo, _, hfl⟩ := right_free hr
  obtain ⟨K, hK⟩ : ∃ K : Nat, K = min n.toNat b.free.length := ⟨_, rfl⟩
  have hKl : K ≤ b.free.length := by omega
  have htk : b.free.take n.toNat = b.free.take K := by
    rw [hK]
    rcases Nat.le_total n.toNat b.free.length with h | h
    · rw [Nat.min_eq_left h]
    · rw [Nat.min_eq_right h, List.take_of_length_le h, List.take_of_length_le (Nat.le_refl _)]
  rw [htk]
  have hlk : (b.free.take K).length = K := by rw [List.length_take]; omega
  obtain ⟨fo, fc, rfl, hfc, hfn, hfv⟩ := id hf
  have hmin : ∀ (ts : Array TypeId) (t : TypeId) (W : World), (Builtin.min_ ts t #[.int .i64 n, .int .i64 (b.free.length : Int)]).run Try.prog W = .ok (.int .i64 (K : Int)) W := fun ts t W => by
    have e : (if (b.free.length : Int) < n then (b.free.length : Int) else n) = (K : Int) := by split <;> omega
    simp [Builtin.min_, Builtin.min2]
    omega
  have HT : Hid (∀ W, Below w.heap.size w W → Sees W (.slice fo K fc) (b.free.take K)) := Lib.hid (fun W hb => sees_take (hf.keep hb) hKl)
  have HAD := Lib.hid (fun i w => adr_any b (.slice fo b.free.length fc) av i w hw.1 h64)
  have HGV : Hid (∀ W, Below w.heap.size w W → _) := Lib.hid (fun W hb => given_any b (.slice fo b.free.length fc) av (.slice fo K fc) (b.free.take K) a W (hf.keep hb) (ha.below hb) hl hal (by omega) (sees_take (hf.keep hb) hKl) (fun x hx => hfo x (List.mem_of_mem_take hx)) hfo (by omega))
  have HFO := Lib.hid hfo
  have hkc : K ≤ fc := by omega
  have hmx : K ≤ 64 := by omega
  have dn : decide (n < 0) = false := by simp; omega
  rw [hr] at HRB
  rw [hm] at HMB
  clear hW hb0 hA hT hR hsz hf ha hw hr hm hfo hfl htk hK hfv hfn hal h64
  go_enter Try.func15, Try.ntmps15
  go_upto_region 1 with fail
  change Code.wp _ _ _ _ (((w.alloc (blkO b (.slice fo b.free.length fc) av)).alloc (atO a)).alloc (blkO zB NS NS))
  rw [← HW.out]
  clear HW
  go_wp2_with (refine wpLdB rfl _ rfl rfl HX0.out hl ?_)
  refine HRB.out.mono ?_; rintro e w1 ⟨rfl, hb1⟩
  have HX1 := Lib.hid (HX0.out.below hb1)
  have HZ1 := Lib.hid (HZ0.out.below hb1)
  have HA1 := Lib.hid ((hb1.block _ (heap_lt HA0.out)).trans HA0.out)
  have HB1 := Lib.hid (HB0.out.trans (hb1.mono HB0.out.size))
  have HS1 := Lib.hid (Nat.le_trans (Nat.le_of_eq HSZ.out.symm) hb1.size)
  clear hb1
  have k0 := (cells2 HA1.out).1
  have k1 := (cells2 HA1.out).2
  go_wp2_with fail
  refine (HMB.out _).mono ?_; rintro e w2 ⟨rfl, hb2⟩
  have HX2 := Lib.hid (HX1.out.below hb2)
  have HZ2 := Lib.hid (HZ1.out.below hb2)
  have HA2 := Lib.hid ((hb2.block _ (heap_lt HA1.out)).trans HA1.out)
  have HB2 := Lib.hid (HB1.out.trans (hb2.mono HB1.out.size))
  have HSW := Lib.hid (Nat.le_trans HS1.out hb2.size)
  clear hb2 HS1 k0 k1 HX1 HA1 HB1 HZ1
  have c66 := HX2.out.free hl
  go_upto_region 4 with fail
  clear c66
  go_wp2_with fail
  go_loopw [10, 36] (fun t j wr => ∃ i : Nat, i ≤ K ∧ j = .int .i64 i ∧ Hid (OwnsU wr w2.heap.size t (adrs b ((b.free.take K).take i)) ∧ Below w2.heap.size w2 wr)) (fun _ j _ => K - (intOf j).toNat)
  case atStart => exact ⟨0, Nat.zero_le _, rfl, Lib.hid ⟨OwnsU.nil _ _, Below.refl _ _⟩⟩
  case round =>
    obtain ⟨i, hi, rfl, HI⟩ := hrel
    obtain ⟨ho, hbw⟩ := HI.out
    have hsz := hbw.size
    have HXr := Lib.hid (HX2.out.below hbw)
    have HBr := Lib.hid hbw
    have hol : (adrs b ((b.free.take K).take i)).length = i := by rw [adrs_len, List.length_take, hlk]; omega
    have HOr : Hid (wr.ownsRow w2.heap.size 22 1 _ i (cellsU (adrs b ((b.free.take K).take i)))) := Lib.hid (by have h := ho; unfold OwnsU at h; rw [hol] at h; exact h)
    by_cases hlt : i < K
    · obtain ⟨fo', fc', e0, -, hln, hlc⟩ := HT.out wr (HB2.out.trans (hbw.mono HB2.out.size))
      obtain ⟨rfl, rfl⟩ : fo = fo' ∧ fc = fc' := by rw [hlk] at e0; cases e0; exact ⟨rfl, rfl⟩
      obtain ⟨fa, rfl⟩ : ∃ fa, fo = some fa := by
        cases fo with
        | none => rw [hln rfl] at hlk; simp at hlk; omega
        | some fa => exact ⟨fa, rfl⟩
      have q0 := hlc fa rfl i (by omega)
      have hm := HFO.out ((b.free.take K).getD i 0) (by
        rw [List.getD_eq_getElem?_getD, List.getElem?_eq_getElem (by omega)]
        exact List.mem_of_mem_take (List.getElem_mem _))
      have HSN := Lib.hid (adrs_snoc b (b.free.take K) i (by omega))
      have HLT := Lib.hid hlt
      have hii : i ≤ 1000001 := by omega
      have HSr := Lib.hid hsz
      obtain ⟨y, hy⟩ := Int.eq_ofNat_of_zero_le hm.1
      rw [hy] at q0 HSN hm
      have HD := Lib.hid (fun w => HAD.out (y : Int) w hm.1 hm.2)
      have y0 : (0 : Int) ≤ (y : Int) := by omega
      have y1 : (y : Int) < 64 := by omega
      have b0 : (0 : Int) ≤ (i : Int) := by omega
      have b1 : (i : Int) < (K : Int) := by omega
      have d1 : decide ((i : Int) < (K : Int)) = true := by simp; omega
      clear ho hbw hsz hlt hm hlc hln hy e0 hol HI
      go_wp2_with (refine wpLdB rfl _ rfl rfl HXr.out hl ?_)
      refine (HD.out _).mono ?_; rintro e w5 ⟨rfl, hb5⟩
      have HX5 := Lib.hid (HBr.out.trans (hb5.mono HSr.out))
      have HO5 := Lib.hid (own_keep HOr.out hb5)
      have HS5 := Lib.hid (Nat.le_trans HSr.out hb5.size)
      clear hb5 q0
      go_wp2_with (at_builtin; refine wpList_push1 (w0 := w5) Try.underlying41 infoU rfl (by decide) rfl (.tmp 40) (.tmp 45) rfl w2.heap.size _ i _ (.int .u32 (b.addr + (y : Int))) w5.heap.size rfl rfl rfl HO5.out hii HS5.out rfl ?_; intro v' w6 ho6 hb6 _; have HO6 := Lib.hid ho6; have HB6 := Lib.hid (HX5.out.trans hb6); clear ho6 hb6)
      go_roundw
      case rel =>
        refine ⟨i + 1, HLT.out, by go_num, Lib.hid ⟨?_, HB6.out⟩⟩
        have := HO6.out
        rw [← HSN.out] at this
        have e : (adrs b ((b.free.take K).take (i + 1))).length = i + 1 := by rw [adrs_len, List.length_take, hlk]; have := HLT.out; omega
        show World.ownsRow _ _ _ _ _ _ _
        rw [e]
        exact this
      case measure => simp [intOf]; have := HLT.out; omega
    · obtain rfl : i = K := by omega
      have d1 : decide ((i : Int) < (i : Int)) = false := by simp
      have HA3 := Lib.hid ((hbw.block _ (heap_lt HA2.out)).trans HA2.out)
      have HZ3 := Lib.hid (HZ2.out.below hbw)
      have HB3 := Lib.hid (HB2.out.trans (hbw.mono HB2.out.size))
      have HG3 := Lib.hid (HGV.out wr HB3.out)
      have k0 := (cells2 HA3.out).1
      have k1 := (cells2 HA3.out).2
      have htt : (b.free.take i).take i = b.free.take i := by rw [List.take_take, Nat.min_self]
      rw [htt] at HOr
      obtain ⟨too, tn, tc, rfl⟩ := own_form HOr.out
      have HSr := Lib.hid hsz
      clear ho hbw hsz hlt hol HI htt
      go_wp2_with (refine wpLdB rfl _ rfl rfl HXr.out hl ?_)
      refine HG3.out.mono ?_; rintro e w5 ⟨fv', av', rfl, HR⟩
      obtain ⟨gf, ga, gb⟩ := HR
      have HF5 := Lib.hid gf
      have HGA5 := Lib.hid ga
      have HB5 := Lib.hid gb
      have HZ5 := Lib.hid (HZ3.out.below gb)
      have HO5 := Lib.hid (own_keep HOr.out gb)
      have hlG : (givS b (b.free.take i) a).sl.length = 64 := (givSl_len' _ _ _).trans hl
      obtain ⟨f5, n5, c5, rfl⟩ := own_form gf
      obtain ⟨a5, m5, d5, rfl⟩ := own_form ga
      clear gf ga gb
      go_wp2_with (refine wpStB rfl _ _ rfl rfl rfl HZ5.out zB_len hlG rfl rfl ?_; intro w7 hx7 hg7)
      have HS3 : Hid (w.heap.size + 3 ≤ wr.heap.size) := Lib.hid (Nat.le_trans HSW.out HSr.out)
      refine bodyPost_ret (resB3 Try.results15 rfl (loadVarB hx7 hlG)) rfl ⟨_, _, _, rfl, ⟨?_, ?_, ?_⟩, ?_⟩
      · exact own_le (own_grown HF5.out hg7 (by have := HS3.out; omega)) (by have := HS3.out; omega)
      · exact own_le (own_grown HGA5.out hg7 (by have := HS3.out; omega)) (by have := HS3.out; omega)
      · have h5 := HB3.out.trans (HB5.out.mono HB3.out.size)
        exact h5.grown hg7 h5.size (fun k hk => by cases hk; omega)
      · have e : (adrs b (b.free.take i)).length = i := by rw [adrs_len, hlk]
        show World.ownsRow _ _ _ _ _ _ _
        rw [e]
        exact own_le (own_grown HO5.out hg7 (by have := HSW.out; omega)) (by have := HSW.out; omega)
end Go.Proofs.Ytgodmnpcedfdcaa
