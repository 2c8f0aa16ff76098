/- Package block: slots given under an attribute. -/
import Derived.Test.YtgodmnpcedfdcaaGreatJM
namespace Go.Proofs.YtgodmnpcedfdcaaGreat
open Go.RowKit
def slS (b : BlkS) (sl : List Int) : BlkS := { b with sl := sl }
def givSl (sl l : List Int) (x : Int) : List Int := l.foldl (fun s i => s.set i.toNat x) sl
theorem givSl_len (l : List Int) (x : Int) : ∀ sl : List Int, (givSl sl l x).length = sl.length := by
  unfold givSl
  induction l with
  | nil => intro sl; rfl
  | cons i l ih => intro sl; rw [List.foldl_cons, ih, List.length_set]
theorem givSl_len' (sl l : List Int) (x : Int) : (givSl sl l x).length = sl.length := givSl_len l x sl
theorem givSl_snoc (sl l : List Int) (x : Int) (i : Nat) (h : i < l.length) : givSl sl (l.take (i + 1)) x = (givSl sl (l.take i) x).set (l.getD i 0).toNat x := by
  unfold givSl
  rw [List.take_add_one, List.getD_eq_getElem?_getD, List.getElem?_eq_getElem h, Option.toList_some, List.foldl_append]
  rfl
/-- The number of the attribute that is given. -/
def givK (b : BlkS) (l : List Int) (a : PA) : Int := if a ∈ b.attrs then (ixA a b.attrs : Int) else if l = [] then -1 else b.attrs.length
def givA (b : BlkS) (l : List Int) (a : PA) : List PA := if a ∈ b.attrs ∨ l = [] then b.attrs else b.attrs ++ [a]
/-- The slots l given under a. -/
def givS (b : BlkS) (l : List Int) (a : PA) : BlkS := { b with sl := givSl b.sl l (givK b l a + 1), free := kp (givSl b.sl l (givK b l a + 1)) b.free, attrs := givA b l a }
theorem three_newB (w : World) (o p q : Obj) : Below w.heap.size w (((w.alloc o).alloc p).alloc q) ∧ (((w.alloc o).alloc p).alloc q).heap[w.heap.size]? = some o ∧ (((w.alloc o).alloc p).alloc q).heap[w.heap.size + 1]? = some p ∧ (((w.alloc o).alloc p).alloc q).heap[w.heap.size + 2]? = some q ∧ (((w.alloc o).alloc p).alloc q).heap.size = w.heap.size + 3 := by
  obtain ⟨h1, h2, h3, h4⟩ := two_newB w o p
  have hb := belNew ((w.alloc o).alloc p) q
  refine ⟨bel h1 hb, (hb.block _ (heap_lt h2)).trans h2, (hb.block _ (heap_lt h3)).trans h3, ?_, ?_⟩
  · have := heap_new ((w.alloc o).alloc p) q
    rwa [h4] at this
  · show (((w.alloc o).alloc p).heap.push _).size = _
    simp [h4]
set_option maxRecDepth 100000 in
set_option maxHeartbeats 16000000 in
theorem given_any (b : BlkS) (fv av lv : Value) (l : List Int) (a : PA) (w : World) (hf : Sees w fv b.free) (ha : SeesA w av b.attrs) (hl : b.sl.length = 64) (hal : b.attrs.length ≤ 64) (hfl : b.free.length ≤ 1000) (hls : Sees w lv l) (hlo : ∀ x ∈ l, 0 ≤ x ∧ x < 64) (hfo : ∀ x ∈ b.free, 0 ≤ x ∧ x < 64) (hll : l.length ≤ 1000) :
    Calls Tryz.prog 48 #[.agg (blkL b fv av).toArray, lv, atV a] w fun e w' => ∃ fv' av', e = .returned (.agg (blkL (givS b l a) fv' av').toArray) ∧ BlkRet w w' (givS b l a) fv' av' := by
  obtain ⟨W, hW⟩ : ∃ W, W = ((w.alloc (blkO b fv av)).alloc (atO a)).alloc (blkO zB NS NS) := ⟨_, rfl⟩
  obtain ⟨hb0, hA, hT, hR, hsz⟩ := three_newB w (blkO b fv av) (atO a) (blkO zB NS NS)
  rw [← hW] at hb0 hA hT hR hsz
  have HX0 : Hid (BlkAt W w.heap.size b fv av) := Lib.hid hA
  have HA0 := Lib.hid hT
  have HZ0 : Hid (BlkAt W (w.heap.size + 2) zB NS NS) := Lib.hid hR
  have HB0 := Lib.hid hb0
  have HSZ := Lib.hid hsz
  have HW := Lib.hid hW
  have HCO := Lib.hid (copied_any b fv av W (hf.keep hb0) (ha.below hb0) hl (by omega) (by omega))
  have HLS := Lib.hid hls
  obtain ⟨lo, lc, rfl, -⟩ := hls
  have HLO := Lib.hid hlo
  have HFO := Lib.hid hfo
  have hal2 : b.attrs.length ≤ 1000001 := by omega
  have HIX0 := Lib.hid (fun v w (h : SeesA w v b.attrs) => index_any v b.attrs a w h (by unfold maxLen; omega))
  by_cases hin : a ∈ b.attrs
  · have HGK : Hid (givK b l a = ixI a b.attrs) := Lib.hid (by unfold givK ixI; rw [if_pos hin, if_pos hin])
    have HGA : Hid ((givS b l a).attrs = b.attrs) := Lib.hid (by show givA b l a = _; unfold givA; rw [if_pos (Or.inl hin)])
    have hK : 0 ≤ ixI a b.attrs ∧ ixI a b.attrs ≤ 64 := by
      unfold ixI; rw [if_pos hin]
      have := ixA_le a b.attrs
      omega
    generalize ixI a b.attrs = K at *
    have dk : decide (K < 0) = false := by simp; omega
    have hwk1 : IntKind.i64.wrap (K + 1) = K + 1 := IntWalk.i64_in _ (by omega)
    have hwk2 : IntKind.u8.wrap (K + 1) = K + 1 := by rw [IntKind.wrap_u8]; omega
    clear hW hb0 hA hT hR hsz hf ha hlo hfo hin hK
    go_enter Tryz.func48, Tryz.ntmps48
    go_upto_region 1 with fail
    change Code.wp _ _ _ _ (((w.alloc (blkO b fv av)).alloc (atO a)).alloc (blkO zB NS NS))
    rw [← HW.out]
    clear HW
    go_wp2_with (refine wpLdB rfl _ rfl rfl HX0.out hl ?_)
    refine HCO.out.mono ?_; rintro e w1 ⟨f1, a1, rfl, hof, hoa, hb1⟩
    have HX1 := Lib.hid (HX0.out.below hb1)
    have HZ1 := Lib.hid (HZ0.out.below hb1)
    have HA1 := Lib.hid ((hb1.block _ (heap_lt HA0.out)).trans HA0.out)
    have HB1 := Lib.hid (HB0.out.trans (hb1.mono HB0.out.size))
    have HS1 := Lib.hid (Nat.le_trans (Nat.le_of_eq HSZ.out.symm) hb1.size)
    have HOF1 := Lib.hid (own_le hof (Nat.le_of_eq HSZ.out.symm))
    have HOA1 := Lib.hid (own_le hoa (Nat.le_of_eq HSZ.out.symm))
    obtain ⟨fo, fn, fc, rfl⟩ := own_form hof
    obtain ⟨ao, ac, rfl, -⟩ := RowA.sees hoa
    clear hof hoa hb1
    go_upto_region 2 with (refine wpStB rfl _ _ rfl rfl rfl HX1.out hl hl rfl rfl ?_; intro w2 hx2 hg2; have HX2 := Lib.hid hx2; have HG2 := Lib.hid hg2; clear hx2 hg2)
    have HZ2 := Lib.hid (show BlkAt w2 (w.heap.size + 2) zB NS NS from (HG2.out.block _ (heap_lt HZ1.out) (fun e => by have := Option.some.inj e; omega)).trans HZ1.out)
    have HA2 := Lib.hid ((HG2.out.block _ (heap_lt HA1.out) (fun e => by have := Option.some.inj e; omega)).trans HA1.out)
    have HB2 := Lib.hid (HB1.out.grown HG2.out HB1.out.size (fun k hk => by cases hk; exact Nat.le_refl _))
    have HS2 := Lib.hid (Nat.le_trans HS1.out HG2.out.size)
    have HOF2 := Lib.hid (own_grown HOF1.out HG2.out (by omega))
    have HOA2 := Lib.hid (own_grown HOA1.out HG2.out (by omega))
    have HIX := Lib.hid (HIX0.out (.slice ao b.attrs.length ac) w2 (RowA.sees HOA2.out))
    have c67 := HX2.out.attrs hl
    have k0 := (cells2 HA2.out).1
    have k1 := (cells2 HA2.out).2
    clear HX1 HZ1 HA1 HB1 HS1 HOF1 HOA1 HG2
    go_wp2_with fail
    refine HIX.out.mono ?_; rintro e w3 ⟨rfl, hb3⟩
    have HX := Lib.hid (HX2.out.below hb3)
    have HZ := Lib.hid (HZ2.out.below hb3)
    have HA := Lib.hid ((hb3.block _ (heap_lt HA2.out)).trans HA2.out)
    have HB := Lib.hid (HB2.out.trans (hb3.mono HB2.out.size))
    have HSC := Lib.hid (Nat.le_trans HS2.out hb3.size)
    have HOF := Lib.hid (own_keep HOF2.out hb3)
    have HOA := Lib.hid (own_keep HOA2.out hb3)
    clear hb3 c67 k0 k1 HX2 HZ2 HA2 HB2 HS2 HOF2 HOA2 HIX
    go_wp2_with fail
    go_loopw [34] (fun j wr => ∃ i : Nat, i ≤ l.length ∧ j = .int .i64 i ∧ Hid (BlkAt wr w.heap.size (slS b (givSl b.sl (l.take i) (K + 1))) (.slice fo fn fc) (.slice ao b.attrs.length ac) ∧ World.ownsRow wr (w.heap.size + 3) 5 1 (.slice fo fn fc) b.free.length (cells8 b.free) ∧ RowA EAt wr (w.heap.size + 3) (.slice ao b.attrs.length ac) b.attrs ∧ BlkAt wr (w.heap.size + 2) zB NS NS ∧ Below w.heap.size w wr ∧ w.heap.size + 3 ≤ (wr).heap.size)) (fun j _ => l.length - (intOf j).toNat)
    case atStart => exact ⟨0, Nat.zero_le _, rfl, Lib.hid ⟨HX.out, HOF.out, HOA.out, HZ.out, HB.out, HSC.out⟩⟩
    case round =>
      obtain ⟨i, hi, rfl, HI⟩ := hrel
      obtain ⟨hx, hof, hoa, hz, hb, hsc⟩ := HI.out
      by_cases hlt : i < l.length
      · obtain ⟨lo', lc', e0, -, hln, hlc⟩ := HLS.out.keep hb
        obtain ⟨rfl, rfl⟩ : lo = lo' ∧ lc = lc' := by cases e0; exact ⟨rfl, rfl⟩
        obtain ⟨la, rfl⟩ : ∃ la, lo = some la := by
          cases lo with
          | none => rw [hln rfl] at hlt; simp at hlt
          | some la => exact ⟨la, rfl⟩
        have q0 := hlc la rfl i hlt
        have hm := HLO.out (l.getD i 0) (by
          rw [List.getD_eq_getElem?_getD, List.getElem?_eq_getElem hlt]
          exact List.getElem_mem hlt)
        have HSN := Lib.hid (givSl_snoc b.sl l (K + 1) i hlt)
        obtain ⟨y, hy⟩ := Int.eq_ofNat_of_zero_le hm.1
        rw [hy] at q0 HSN hm
        rw [Int.toNat_natCast] at HSN
        have b0 : (0 : Int) ≤ (i : Int) := by omega
        have b1 : (i : Int) < (l.length : Int) := by omega
        have d1 : decide ((i : Int) < (l.length : Int)) = true := by simp; omega
        have y0 : (0 : Int) ≤ (y : Int) := by omega
        have y1 : (y : Int) < 64 := by omega
        have hsl : (givSl b.sl (l.take i) (K + 1)).length = 64 := by rw [givSl_len']; exact hl
        have hyl : y < (givSl b.sl (l.take i) (K + 1)).length := by omega
        have k1 := hx.slot (get64 hsl (show y < 64 by omega))
        have k2 := hx.froz (y + 2)
        rw [Nat.add_comm] at k1 k2
        have HN : Hid (BlkAt (wr.setCell ⟨w.heap.size, 2 + y, none⟩ (.int .u8 (K + 1))) w.heap.size (slS b (givSl b.sl (l.take (i + 1)) (K + 1))) (.slice fo fn fc) (.slice ao b.attrs.length ac) ∧ World.ownsRow (wr.setCell ⟨w.heap.size, 2 + y, none⟩ (.int .u8 (K + 1))) (w.heap.size + 3) 5 1 (.slice fo fn fc) b.free.length (cells8 b.free) ∧ RowA EAt (wr.setCell ⟨w.heap.size, 2 + y, none⟩ (.int .u8 (K + 1))) (w.heap.size + 3) (.slice ao b.attrs.length ac) b.attrs ∧ BlkAt (wr.setCell ⟨w.heap.size, 2 + y, none⟩ (.int .u8 (K + 1))) (w.heap.size + 2) zB NS NS ∧ Below w.heap.size w (wr.setCell ⟨w.heap.size, 2 + y, none⟩ (.int .u8 (K + 1))) ∧ w.heap.size + 3 ≤ ((wr.setCell ⟨w.heap.size, 2 + y, none⟩ (.int .u8 (K + 1)))).heap.size) := Lib.hid (by
          refine ⟨?_, own_set hof (a := ⟨w.heap.size, 2 + y, none⟩) (by show w.heap.size < w.heap.size + 3; omega) _, own_set hoa (a := ⟨w.heap.size, 2 + y, none⟩) (by show w.heap.size < w.heap.size + 3; omega) _, blk_setO hz (a := ⟨w.heap.size, 2 + y, none⟩) (by show w.heap.size + 2 ≠ w.heap.size; omega) _, hb.setCell (p := ⟨w.heap.size, 2 + y, none⟩) (Nat.le_refl _) _, size_set hsc _ _⟩
          rw [HSN.out, Nat.add_comm 2 y]
          exact hx.setSlot y hyl (K + 1))
        have HLT := Lib.hid hlt
        clear hx hof hoa hz hb hsc hlt hm hlc hln hy hsl hyl e0
        go_wp2_with fail
        clear q0 k1 k2
        go_roundw
        case rel => exact ⟨i + 1, HLT.out, by go_num, HN⟩
        case measure => simp [intOf]; have := HLT.out; omega
      · obtain rfl : i = l.length := by omega
        have d1 : decide ((l.length : Int) < (l.length : Int)) = false := by simp
        rw [List.take_length] at hx
        have hlS : (slS b (givSl b.sl l (K + 1))).sl.length = 64 := (givSl_len' _ _ _).trans hl
        have hsS : (slS b (givSl b.sl l (K + 1))).sl = givSl b.sl l (K + 1) := rfl
        have HBQ : Hid (∀ f v, blkL (slS b (givSl b.sl l (K + 1))) f v = blkL (givS b l a) f v) := Lib.hid (fun f v => by unfold givS; rw [HGK.out]; rfl)
        have HFR : Hid ((givS b l a).free = kp (slS b (givSl b.sl l (K + 1))).sl b.free) := Lib.hid (by unfold givS; rw [HGK.out]; rfl)
        generalize slS b (givSl b.sl l (K + 1)) = bS at *
        have c66 := hx.free hlS
        have HDF := Lib.hid (deleteF_any (w.heap.size + 3) (.slice fo fn fc) b.free w.heap.size bS (.slice fo fn fc) (.slice ao b.attrs.length ac) wr hof hx (by omega) hlS (by omega) HFO.out hsc)
        have HX3 := Lib.hid hx
        have HZ3 := Lib.hid hz
        have HB3 := Lib.hid hb
        have HOA3 := Lib.hid hoa
        have HSC3 := Lib.hid hsc
        have HNE3 := Lib.hid (own_ne hoa hof (by decide))
        clear hx hof hoa hz hb hsc hlt hsS
        go_upto_region 12 with (first
          | (go_at_call 79; refine HDF.out.mono ?_; rintro e w5 ⟨v5, rfl, ho5, hb5, hg5⟩; have HO5 := Lib.hid ho5; have HX5 := Lib.hid (HX3.out.keepB hb5 (by omega)); have HZ5 := Lib.hid (HZ3.out.keepB hb5 (by omega)); have HB5 := Lib.hid (HB3.out.trans (hb5.mono (by omega))); have HOA5 := Lib.hid (own_grownO HOA3.out hg5 (fun k hk => HNE3.out k hk)); have HSC5 := Lib.hid (Nat.le_trans HSC3.out hb5.size); obtain ⟨fo5, fn5, fc5, rfl⟩ := own_form ho5; have k1 := HX5.out.free hlS; have k2 := HX5.out.froz 66; clear ho5 hb5 hg5))
        obtain ⟨w6, hw6⟩ : ∃ w6, w6 = w5.setCell ⟨w.heap.size, 66, none⟩ (.slice fo5 fn5 fc5) := ⟨_, rfl⟩
        have HX6 : Hid (BlkAt w6 w.heap.size bS (.slice fo5 fn5 fc5) (.slice ao b.attrs.length ac)) := Lib.hid (by rw [hw6]; exact HX5.out.setFree hlS _)
        have HZ6 : Hid (BlkAt w6 (w.heap.size + 2) zB NS NS) := Lib.hid (by rw [hw6]; exact blk_setO HZ5.out (a := ⟨w.heap.size, 66, none⟩) (by show w.heap.size + 2 ≠ w.heap.size; omega) _)
        have HO6 : Hid (Owns w6 (w.heap.size + 3) (.slice fo5 fn5 fc5) (kp bS.sl b.free)) := Lib.hid (by rw [hw6]; exact own_set HO5.out (a := ⟨w.heap.size, 66, none⟩) (by show w.heap.size < w.heap.size + 3; omega) _)
        have HOA6 : Hid (RowA EAt w6 (w.heap.size + 3) (.slice ao b.attrs.length ac) b.attrs) := Lib.hid (by rw [hw6]; exact own_set HOA5.out (a := ⟨w.heap.size, 66, none⟩) (by show w.heap.size < w.heap.size + 3; omega) _)
        have HB6 : Hid (Below w.heap.size w w6) := Lib.hid (by rw [hw6]; exact HB5.out.setCell (p := ⟨w.heap.size, 66, none⟩) (Nat.le_refl _) _)
        rw [← hw6]
        clear hw6 k1 k2 c66
        go_wp2_with (first
          | (refine wpLdB rfl _ rfl rfl HX6.out hlS ?_)
          | (refine wpStB rfl _ _ rfl rfl rfl HZ6.out zB_len hlS rfl rfl ?_; intro w7 hx7 hg7))
        refine bodyPost_ret (resB1 Tryz.results48 rfl (loadVarB hx7 hlS)) rfl ⟨_, _, by rw [HBQ.out], ?_, ?_, HB6.out.grown hg7 HB6.out.size (fun k hk => by cases hk; omega)⟩
        · rw [HFR.out]
          exact own_le (own_grown HO6.out hg7 (by omega)) (by omega)
        · rw [HGA.out]
          exact own_le (own_grown HOA6.out hg7 (by omega)) (by omega)
  · have hIX : ixI a b.attrs = -1 := by unfold ixI; rw [if_neg hin]
    rw [hIX] at HIX0
    by_cases hle : l = []
    · have HGK : Hid (givK b l a = -1) := Lib.hid (by unfold givK; rw [if_neg hin, if_pos hle])
      have HGA : Hid ((givS b l a).attrs = b.attrs) := Lib.hid (by show givA b l a = _; unfold givA; rw [if_pos (Or.inr hle)])
      obtain ⟨K, hK⟩ : ∃ K : Int, K = -1 := ⟨_, rfl⟩
      rw [← hK] at HGK HIX0
      have dk : decide (K < 0) = true := by simp; omega
      have dl : decide ((0 : Int) < (l.length : Int)) = false := by rw [hle]; rfl
      have dln : decide (0 < l.length) = false := by rw [hle]; rfl
      have hwk1 : IntKind.i64.wrap (K + 1) = K + 1 := IntWalk.i64_in _ (by omega)
      have hwk2 : IntKind.u8.wrap (K + 1) = K + 1 := by rw [IntKind.wrap_u8]; omega
      clear hW hb0 hA hT hR hsz hf ha hlo hfo hin hK hIX hle
      go_enter Tryz.func48, Tryz.ntmps48
      go_upto_region 1 with fail
      change Code.wp _ _ _ _ (((w.alloc (blkO b fv av)).alloc (atO a)).alloc (blkO zB NS NS))
      rw [← HW.out]
      clear HW
      go_wp2_with (refine wpLdB rfl _ rfl rfl HX0.out hl ?_)
      refine HCO.out.mono ?_; rintro e w1 ⟨f1, a1, rfl, hof, hoa, hb1⟩
      have HX1 := Lib.hid (HX0.out.below hb1)
      have HZ1 := Lib.hid (HZ0.out.below hb1)
      have HA1 := Lib.hid ((hb1.block _ (heap_lt HA0.out)).trans HA0.out)
      have HB1 := Lib.hid (HB0.out.trans (hb1.mono HB0.out.size))
      have HS1 := Lib.hid (Nat.le_trans (Nat.le_of_eq HSZ.out.symm) hb1.size)
      have HOF1 := Lib.hid (own_le hof (Nat.le_of_eq HSZ.out.symm))
      have HOA1 := Lib.hid (own_le hoa (Nat.le_of_eq HSZ.out.symm))
      obtain ⟨fo, fn, fc, rfl⟩ := own_form hof
      obtain ⟨ao, ac, rfl, -⟩ := RowA.sees hoa
      clear hof hoa hb1
      go_upto_region 2 with (refine wpStB rfl _ _ rfl rfl rfl HX1.out hl hl rfl rfl ?_; intro w2 hx2 hg2; have HX2 := Lib.hid hx2; have HG2 := Lib.hid hg2; clear hx2 hg2)
      have HZ2 := Lib.hid (show BlkAt w2 (w.heap.size + 2) zB NS NS from (HG2.out.block _ (heap_lt HZ1.out) (fun e => by have := Option.some.inj e; omega)).trans HZ1.out)
      have HA2 := Lib.hid ((HG2.out.block _ (heap_lt HA1.out) (fun e => by have := Option.some.inj e; omega)).trans HA1.out)
      have HB2 := Lib.hid (HB1.out.grown HG2.out HB1.out.size (fun k hk => by cases hk; exact Nat.le_refl _))
      have HS2 := Lib.hid (Nat.le_trans HS1.out HG2.out.size)
      have HOF2 := Lib.hid (own_grown HOF1.out HG2.out (by omega))
      have HOA2 := Lib.hid (own_grown HOA1.out HG2.out (by omega))
      have HIX := Lib.hid (HIX0.out (.slice ao b.attrs.length ac) w2 (RowA.sees HOA2.out))
      have c67 := HX2.out.attrs hl
      have k0 := (cells2 HA2.out).1
      have k1 := (cells2 HA2.out).2
      clear HX1 HZ1 HA1 HB1 HS1 HOF1 HOA1 HG2
      go_wp2_with fail
      refine HIX.out.mono ?_; rintro e w3 ⟨rfl, hb3⟩
      have HX := Lib.hid (HX2.out.below hb3)
      have HZ := Lib.hid (HZ2.out.below hb3)
      have HA := Lib.hid ((hb3.block _ (heap_lt HA2.out)).trans HA2.out)
      have HB := Lib.hid (HB2.out.trans (hb3.mono HB2.out.size))
      have HSC := Lib.hid (Nat.le_trans HS2.out hb3.size)
      have HOF := Lib.hid (own_keep HOF2.out hb3)
      have HOA := Lib.hid (own_keep HOA2.out hb3)
      clear hb3 c67 k0 k1 HX2 HZ2 HA2 HB2 HS2 HOF2 HOA2 HIX
      go_wp2_with fail
      go_loopw [34] (fun j wr => ∃ i : Nat, i ≤ l.length ∧ j = .int .i64 i ∧ Hid (BlkAt wr w.heap.size (slS b (givSl b.sl (l.take i) (K + 1))) (.slice fo fn fc) (.slice ao b.attrs.length ac) ∧ World.ownsRow wr (w.heap.size + 3) 5 1 (.slice fo fn fc) b.free.length (cells8 b.free) ∧ RowA EAt wr (w.heap.size + 3) (.slice ao b.attrs.length ac) b.attrs ∧ BlkAt wr (w.heap.size + 2) zB NS NS ∧ Below w.heap.size w wr ∧ w.heap.size + 3 ≤ (wr).heap.size)) (fun j _ => l.length - (intOf j).toNat)
      case atStart => exact ⟨0, Nat.zero_le _, rfl, Lib.hid ⟨HX.out, HOF.out, HOA.out, HZ.out, HB.out, HSC.out⟩⟩
      case round =>
        obtain ⟨i, hi, rfl, HI⟩ := hrel
        obtain ⟨hx, hof, hoa, hz, hb, hsc⟩ := HI.out
        by_cases hlt : i < l.length
        · obtain ⟨lo', lc', e0, -, hln, hlc⟩ := HLS.out.keep hb
          obtain ⟨rfl, rfl⟩ : lo = lo' ∧ lc = lc' := by cases e0; exact ⟨rfl, rfl⟩
          obtain ⟨la, rfl⟩ : ∃ la, lo = some la := by
            cases lo with
            | none => rw [hln rfl] at hlt; simp at hlt
            | some la => exact ⟨la, rfl⟩
          have q0 := hlc la rfl i hlt
          have hm := HLO.out (l.getD i 0) (by
            rw [List.getD_eq_getElem?_getD, List.getElem?_eq_getElem hlt]
            exact List.getElem_mem hlt)
          have HSN := Lib.hid (givSl_snoc b.sl l (K + 1) i hlt)
          obtain ⟨y, hy⟩ := Int.eq_ofNat_of_zero_le hm.1
          rw [hy] at q0 HSN hm
          rw [Int.toNat_natCast] at HSN
          have b0 : (0 : Int) ≤ (i : Int) := by omega
          have b1 : (i : Int) < (l.length : Int) := by omega
          have d1 : decide ((i : Int) < (l.length : Int)) = true := by simp; omega
          have y0 : (0 : Int) ≤ (y : Int) := by omega
          have y1 : (y : Int) < 64 := by omega
          have hsl : (givSl b.sl (l.take i) (K + 1)).length = 64 := by rw [givSl_len']; exact hl
          have hyl : y < (givSl b.sl (l.take i) (K + 1)).length := by omega
          have k1 := hx.slot (get64 hsl (show y < 64 by omega))
          have k2 := hx.froz (y + 2)
          rw [Nat.add_comm] at k1 k2
          have HN : Hid (BlkAt (wr.setCell ⟨w.heap.size, 2 + y, none⟩ (.int .u8 (K + 1))) w.heap.size (slS b (givSl b.sl (l.take (i + 1)) (K + 1))) (.slice fo fn fc) (.slice ao b.attrs.length ac) ∧ World.ownsRow (wr.setCell ⟨w.heap.size, 2 + y, none⟩ (.int .u8 (K + 1))) (w.heap.size + 3) 5 1 (.slice fo fn fc) b.free.length (cells8 b.free) ∧ RowA EAt (wr.setCell ⟨w.heap.size, 2 + y, none⟩ (.int .u8 (K + 1))) (w.heap.size + 3) (.slice ao b.attrs.length ac) b.attrs ∧ BlkAt (wr.setCell ⟨w.heap.size, 2 + y, none⟩ (.int .u8 (K + 1))) (w.heap.size + 2) zB NS NS ∧ Below w.heap.size w (wr.setCell ⟨w.heap.size, 2 + y, none⟩ (.int .u8 (K + 1))) ∧ w.heap.size + 3 ≤ ((wr.setCell ⟨w.heap.size, 2 + y, none⟩ (.int .u8 (K + 1)))).heap.size) := Lib.hid (by
            refine ⟨?_, own_set hof (a := ⟨w.heap.size, 2 + y, none⟩) (by show w.heap.size < w.heap.size + 3; omega) _, own_set hoa (a := ⟨w.heap.size, 2 + y, none⟩) (by show w.heap.size < w.heap.size + 3; omega) _, blk_setO hz (a := ⟨w.heap.size, 2 + y, none⟩) (by show w.heap.size + 2 ≠ w.heap.size; omega) _, hb.setCell (p := ⟨w.heap.size, 2 + y, none⟩) (Nat.le_refl _) _, size_set hsc _ _⟩
            rw [HSN.out, Nat.add_comm 2 y]
            exact hx.setSlot y hyl (K + 1))
          have HLT := Lib.hid hlt
          clear hx hof hoa hz hb hsc hlt hm hlc hln hy hsl hyl e0
          go_wp2_with fail
          clear q0 k1 k2
          go_roundw
          case rel => exact ⟨i + 1, HLT.out, by go_num, HN⟩
          case measure => simp [intOf]; have := HLT.out; omega
        · obtain rfl : i = l.length := by omega
          have d1 : decide ((l.length : Int) < (l.length : Int)) = false := by simp
          rw [List.take_length] at hx
          have hlS : (slS b (givSl b.sl l (K + 1))).sl.length = 64 := (givSl_len' _ _ _).trans hl
          have hsS : (slS b (givSl b.sl l (K + 1))).sl = givSl b.sl l (K + 1) := rfl
          have HBQ : Hid (∀ f v, blkL (slS b (givSl b.sl l (K + 1))) f v = blkL (givS b l a) f v) := Lib.hid (fun f v => by unfold givS; rw [HGK.out]; rfl)
          have HFR : Hid ((givS b l a).free = kp (slS b (givSl b.sl l (K + 1))).sl b.free) := Lib.hid (by unfold givS; rw [HGK.out]; rfl)
          generalize slS b (givSl b.sl l (K + 1)) = bS at *
          have c66 := hx.free hlS
          have HDF := Lib.hid (deleteF_any (w.heap.size + 3) (.slice fo fn fc) b.free w.heap.size bS (.slice fo fn fc) (.slice ao b.attrs.length ac) wr hof hx (by omega) hlS (by omega) HFO.out hsc)
          have HX3 := Lib.hid hx
          have HZ3 := Lib.hid hz
          have HB3 := Lib.hid hb
          have HOA3 := Lib.hid hoa
          have HSC3 := Lib.hid hsc
          have HNE3 := Lib.hid (own_ne hoa hof (by decide))
          clear hx hof hoa hz hb hsc hlt hsS
          go_upto_region 12 with (first
            | (go_at_call 79; refine HDF.out.mono ?_; rintro e w5 ⟨v5, rfl, ho5, hb5, hg5⟩; have HO5 := Lib.hid ho5; have HX5 := Lib.hid (HX3.out.keepB hb5 (by omega)); have HZ5 := Lib.hid (HZ3.out.keepB hb5 (by omega)); have HB5 := Lib.hid (HB3.out.trans (hb5.mono (by omega))); have HOA5 := Lib.hid (own_grownO HOA3.out hg5 (fun k hk => HNE3.out k hk)); have HSC5 := Lib.hid (Nat.le_trans HSC3.out hb5.size); obtain ⟨fo5, fn5, fc5, rfl⟩ := own_form ho5; have k1 := HX5.out.free hlS; have k2 := HX5.out.froz 66; clear ho5 hb5 hg5))
          obtain ⟨w6, hw6⟩ : ∃ w6, w6 = w5.setCell ⟨w.heap.size, 66, none⟩ (.slice fo5 fn5 fc5) := ⟨_, rfl⟩
          have HX6 : Hid (BlkAt w6 w.heap.size bS (.slice fo5 fn5 fc5) (.slice ao b.attrs.length ac)) := Lib.hid (by rw [hw6]; exact HX5.out.setFree hlS _)
          have HZ6 : Hid (BlkAt w6 (w.heap.size + 2) zB NS NS) := Lib.hid (by rw [hw6]; exact blk_setO HZ5.out (a := ⟨w.heap.size, 66, none⟩) (by show w.heap.size + 2 ≠ w.heap.size; omega) _)
          have HO6 : Hid (Owns w6 (w.heap.size + 3) (.slice fo5 fn5 fc5) (kp bS.sl b.free)) := Lib.hid (by rw [hw6]; exact own_set HO5.out (a := ⟨w.heap.size, 66, none⟩) (by show w.heap.size < w.heap.size + 3; omega) _)
          have HOA6 : Hid (RowA EAt w6 (w.heap.size + 3) (.slice ao b.attrs.length ac) b.attrs) := Lib.hid (by rw [hw6]; exact own_set HOA5.out (a := ⟨w.heap.size, 66, none⟩) (by show w.heap.size < w.heap.size + 3; omega) _)
          have HB6 : Hid (Below w.heap.size w w6) := Lib.hid (by rw [hw6]; exact HB5.out.setCell (p := ⟨w.heap.size, 66, none⟩) (Nat.le_refl _) _)
          rw [← hw6]
          clear hw6 k1 k2 c66
          go_wp2_with (first
            | (refine wpLdB rfl _ rfl rfl HX6.out hlS ?_)
            | (refine wpStB rfl _ _ rfl rfl rfl HZ6.out zB_len hlS rfl rfl ?_; intro w7 hx7 hg7))
          refine bodyPost_ret (resB1 Tryz.results48 rfl (loadVarB hx7 hlS)) rfl ⟨_, _, by rw [HBQ.out], ?_, ?_, HB6.out.grown hg7 HB6.out.size (fun k hk => by cases hk; omega)⟩
          · rw [HFR.out]
            exact own_le (own_grown HO6.out hg7 (by omega)) (by omega)
          · rw [HGA.out]
            exact own_le (own_grown HOA6.out hg7 (by omega)) (by omega)
    · have HGK : Hid (givK b l a = (b.attrs.length : Int)) := Lib.hid (by unfold givK; rw [if_neg hin, if_neg hle])
      have HGA : Hid ((givS b l a).attrs = b.attrs ++ [a]) := Lib.hid (by show givA b l a = _; unfold givA; rw [if_neg (by rintro (h | h); exact hin h; exact hle h)])
      have hlp : 0 < l.length := List.length_pos_iff.2 hle
      have dl : decide ((0 : Int) < (l.length : Int)) = true := by simp; omega
      have dln : decide (0 < l.length) = true := by simpa using hlp
      have hwk1 : IntKind.i64.wrap ((b.attrs.length : Int) + 1) = (b.attrs.length : Int) + 1 := IntWalk.i64_in _ (by omega)
      have hwk2 : IntKind.u8.wrap ((b.attrs.length : Int) + 1) = (b.attrs.length : Int) + 1 := by rw [IntKind.wrap_u8]; omega
      clear hW hb0 hA hT hR hsz hf ha hlo hfo hin hIX hle hlp
      go_enter Tryz.func48, Tryz.ntmps48
      go_upto_region 1 with fail
      change Code.wp _ _ _ _ (((w.alloc (blkO b fv av)).alloc (atO a)).alloc (blkO zB NS NS))
      rw [← HW.out]
      clear HW
      go_wp2_with (refine wpLdB rfl _ rfl rfl HX0.out hl ?_)
      refine HCO.out.mono ?_; rintro e w1 ⟨f1, a1, rfl, hof, hoa, hb1⟩
      have HX1 := Lib.hid (HX0.out.below hb1)
      have HZ1 := Lib.hid (HZ0.out.below hb1)
      have HA1 := Lib.hid ((hb1.block _ (heap_lt HA0.out)).trans HA0.out)
      have HB1 := Lib.hid (HB0.out.trans (hb1.mono HB0.out.size))
      have HS1 := Lib.hid (Nat.le_trans (Nat.le_of_eq HSZ.out.symm) hb1.size)
      have HOF1 := Lib.hid (own_le hof (Nat.le_of_eq HSZ.out.symm))
      have HOA1 := Lib.hid (own_le hoa (Nat.le_of_eq HSZ.out.symm))
      obtain ⟨fo, fn, fc, rfl⟩ := own_form hof
      obtain ⟨ao, ac, rfl, -⟩ := RowA.sees hoa
      clear hof hoa hb1
      go_upto_region 2 with (refine wpStB rfl _ _ rfl rfl rfl HX1.out hl hl rfl rfl ?_; intro w2 hx2 hg2; have HX2 := Lib.hid hx2; have HG2 := Lib.hid hg2; clear hx2 hg2)
      have HZ2 := Lib.hid (show BlkAt w2 (w.heap.size + 2) zB NS NS from (HG2.out.block _ (heap_lt HZ1.out) (fun e => by have := Option.some.inj e; omega)).trans HZ1.out)
      have HA2 := Lib.hid ((HG2.out.block _ (heap_lt HA1.out) (fun e => by have := Option.some.inj e; omega)).trans HA1.out)
      have HB2 := Lib.hid (HB1.out.grown HG2.out HB1.out.size (fun k hk => by cases hk; exact Nat.le_refl _))
      have HS2 := Lib.hid (Nat.le_trans HS1.out HG2.out.size)
      have HOF2 := Lib.hid (own_grown HOF1.out HG2.out (by omega))
      have HOA2 := Lib.hid (own_grown HOA1.out HG2.out (by omega))
      have HIX := Lib.hid (HIX0.out (.slice ao b.attrs.length ac) w2 (RowA.sees HOA2.out))
      have c67 := HX2.out.attrs hl
      have k0 := (cells2 HA2.out).1
      have k1 := (cells2 HA2.out).2
      clear HX1 HZ1 HA1 HB1 HS1 HOF1 HOA1 HG2
      go_wp2_with fail
      refine HIX.out.mono ?_; rintro e w3 ⟨rfl, hb3⟩
      have HX := Lib.hid (HX2.out.below hb3)
      have HZ := Lib.hid (HZ2.out.below hb3)
      have HA := Lib.hid ((hb3.block _ (heap_lt HA2.out)).trans HA2.out)
      have HB := Lib.hid (HB2.out.trans (hb3.mono HB2.out.size))
      have HSC := Lib.hid (Nat.le_trans HS2.out hb3.size)
      have HOF := Lib.hid (own_keep HOF2.out hb3)
      have HOA := Lib.hid (own_keep HOA2.out hb3)
      clear hb3 c67 k0 k1 HX2 HZ2 HA2 HB2 HS2 HOF2 HOA2 HIX
      have HX3 := HX
      have HZ3 := HZ
      have HA3 := HA
      have HB3 := HB
      have HSC3 := HSC
      have HOF3 := HOF
      have HOA3 := HOA
      clear HX HZ HA HB HSC HOF HOA
      have c67 := HX3.out.attrs hl
      have k0 := (cells2 HA3.out).1
      have k1 := (cells2 HA3.out).2
      have HNE3 := Lib.hid (own_ne HOF3.out HOA3.out (by decide))
      go_upto_region 6 with (at_builtin; refine wpList_pushA (w0 := w3) Tryz.underlying26 infoA rfl (.tmp 27) (.tmp 29) rfl (w.heap.size + 3) _ b.attrs a w3.heap.size rfl rfl rfl HOA3.out hal2 HSC3.out ?_; intro v5 w5 ho5 hb5 hg5; have HO5 := Lib.hid ho5; have HX5 := Lib.hid (HX3.out.keepB hb5 (by omega)); have HZ5 := Lib.hid (HZ3.out.keepB hb5 (by omega)); have HB5 := Lib.hid (HB3.out.trans (hb5.mono (by omega))); have HOF5 := Lib.hid (own_grownO HOF3.out hg5 (fun k hk => HNE3.out k hk)); have HSC5 := Lib.hid (Nat.le_trans HSC3.out hb5.size); obtain ⟨ao5, an5, ac5, rfl⟩ := own_form ho5; have j1 := HX5.out.attrs hl; have j2 := HX5.out.froz 67; clear ho5 hb5 hg5)
      obtain ⟨w6, hw6⟩ : ∃ w6, w6 = w5.setCell ⟨w.heap.size, 67, none⟩ (.slice ao5 an5 ac5) := ⟨_, rfl⟩
      have HX : Hid (BlkAt w6 w.heap.size b (.slice fo fn fc) (.slice ao5 an5 ac5)) := Lib.hid (by rw [hw6]; exact HX5.out.setAttrs hl _)
      have HZ : Hid (BlkAt w6 (w.heap.size + 2) zB NS NS) := Lib.hid (by rw [hw6]; exact blk_setO HZ5.out (a := ⟨w.heap.size, 67, none⟩) (by show w.heap.size + 2 ≠ w.heap.size; omega) _)
      have HOF : Hid (w6.ownsRow (w.heap.size + 3) 5 1 (.slice fo fn fc) b.free.length (cells8 b.free)) := Lib.hid (by rw [hw6]; exact own_set HOF5.out (a := ⟨w.heap.size, 67, none⟩) (by show w.heap.size < w.heap.size + 3; omega) _)
      have HOA : Hid (RowA EAt w6 (w.heap.size + 3) (.slice ao5 an5 ac5) (b.attrs ++ [a])) := Lib.hid (by rw [hw6]; exact own_set HO5.out (a := ⟨w.heap.size, 67, none⟩) (by show w.heap.size < w.heap.size + 3; omega) _)
      have HB : Hid (Below w.heap.size w w6) := Lib.hid (by rw [hw6]; exact HB5.out.setCell (p := ⟨w.heap.size, 67, none⟩) (Nat.le_refl _) _)
      have HSC : Hid (w.heap.size + 3 ≤ w6.heap.size) := Lib.hid (by rw [hw6]; exact size_set HSC5.out _ _)
      rw [← hw6]
      clear hw6 j1 j2 c67 k0 k1
      go_wp2_with fail
      go_loopw [34] (fun j wr => ∃ i : Nat, i ≤ l.length ∧ j = .int .i64 i ∧ Hid (BlkAt wr w.heap.size (slS b (givSl b.sl (l.take i) ((b.attrs.length : Int) + 1))) (.slice fo fn fc) (.slice ao5 an5 ac5) ∧ World.ownsRow wr (w.heap.size + 3) 5 1 (.slice fo fn fc) b.free.length (cells8 b.free) ∧ RowA EAt wr (w.heap.size + 3) (.slice ao5 an5 ac5) (b.attrs ++ [a]) ∧ BlkAt wr (w.heap.size + 2) zB NS NS ∧ Below w.heap.size w wr ∧ w.heap.size + 3 ≤ (wr).heap.size)) (fun j _ => l.length - (intOf j).toNat)
      case atStart => exact ⟨0, Nat.zero_le _, rfl, Lib.hid ⟨HX.out, HOF.out, HOA.out, HZ.out, HB.out, HSC.out⟩⟩
      case round =>
        obtain ⟨i, hi, rfl, HI⟩ := hrel
        obtain ⟨hx, hof, hoa, hz, hb, hsc⟩ := HI.out
        by_cases hlt : i < l.length
        · obtain ⟨lo', lc', e0, -, hln, hlc⟩ := HLS.out.keep hb
          obtain ⟨rfl, rfl⟩ : lo = lo' ∧ lc = lc' := by cases e0; exact ⟨rfl, rfl⟩
          obtain ⟨la, rfl⟩ : ∃ la, lo = some la := by
            cases lo with
            | none => rw [hln rfl] at hlt; simp at hlt
            | some la => exact ⟨la, rfl⟩
          have q0 := hlc la rfl i hlt
          have hm := HLO.out (l.getD i 0) (by
            rw [List.getD_eq_getElem?_getD, List.getElem?_eq_getElem hlt]
            exact List.getElem_mem hlt)
          have HSN := Lib.hid (givSl_snoc b.sl l ((b.attrs.length : Int) + 1) i hlt)
          obtain ⟨y, hy⟩ := Int.eq_ofNat_of_zero_le hm.1
          rw [hy] at q0 HSN hm
          rw [Int.toNat_natCast] at HSN
          have b0 : (0 : Int) ≤ (i : Int) := by omega
          have b1 : (i : Int) < (l.length : Int) := by omega
          have d1 : decide ((i : Int) < (l.length : Int)) = true := by simp; omega
          have y0 : (0 : Int) ≤ (y : Int) := by omega
          have y1 : (y : Int) < 64 := by omega
          have hsl : (givSl b.sl (l.take i) ((b.attrs.length : Int) + 1)).length = 64 := by rw [givSl_len']; exact hl
          have hyl : y < (givSl b.sl (l.take i) ((b.attrs.length : Int) + 1)).length := by omega
          have k1 := hx.slot (get64 hsl (show y < 64 by omega))
          have k2 := hx.froz (y + 2)
          rw [Nat.add_comm] at k1 k2
          have HN : Hid (BlkAt (wr.setCell ⟨w.heap.size, 2 + y, none⟩ (.int .u8 ((b.attrs.length : Int) + 1))) w.heap.size (slS b (givSl b.sl (l.take (i + 1)) ((b.attrs.length : Int) + 1))) (.slice fo fn fc) (.slice ao5 an5 ac5) ∧ World.ownsRow (wr.setCell ⟨w.heap.size, 2 + y, none⟩ (.int .u8 ((b.attrs.length : Int) + 1))) (w.heap.size + 3) 5 1 (.slice fo fn fc) b.free.length (cells8 b.free) ∧ RowA EAt (wr.setCell ⟨w.heap.size, 2 + y, none⟩ (.int .u8 ((b.attrs.length : Int) + 1))) (w.heap.size + 3) (.slice ao5 an5 ac5) (b.attrs ++ [a]) ∧ BlkAt (wr.setCell ⟨w.heap.size, 2 + y, none⟩ (.int .u8 ((b.attrs.length : Int) + 1))) (w.heap.size + 2) zB NS NS ∧ Below w.heap.size w (wr.setCell ⟨w.heap.size, 2 + y, none⟩ (.int .u8 ((b.attrs.length : Int) + 1))) ∧ w.heap.size + 3 ≤ ((wr.setCell ⟨w.heap.size, 2 + y, none⟩ (.int .u8 ((b.attrs.length : Int) + 1)))).heap.size) := Lib.hid (by
            refine ⟨?_, own_set hof (a := ⟨w.heap.size, 2 + y, none⟩) (by show w.heap.size < w.heap.size + 3; omega) _, own_set hoa (a := ⟨w.heap.size, 2 + y, none⟩) (by show w.heap.size < w.heap.size + 3; omega) _, blk_setO hz (a := ⟨w.heap.size, 2 + y, none⟩) (by show w.heap.size + 2 ≠ w.heap.size; omega) _, hb.setCell (p := ⟨w.heap.size, 2 + y, none⟩) (Nat.le_refl _) _, size_set hsc _ _⟩
            rw [HSN.out, Nat.add_comm 2 y]
            exact hx.setSlot y hyl ((b.attrs.length : Int) + 1))
          have HLT := Lib.hid hlt
          clear hx hof hoa hz hb hsc hlt hm hlc hln hy hsl hyl e0
          go_wp2_with fail
          clear q0 k1 k2
          go_roundw
          case rel => exact ⟨i + 1, HLT.out, by go_num, HN⟩
          case measure => simp [intOf]; have := HLT.out; omega
        · obtain rfl : i = l.length := by omega
          have d1 : decide ((l.length : Int) < (l.length : Int)) = false := by simp
          rw [List.take_length] at hx
          have hlS : (slS b (givSl b.sl l ((b.attrs.length : Int) + 1))).sl.length = 64 := (givSl_len' _ _ _).trans hl
          have hsS : (slS b (givSl b.sl l ((b.attrs.length : Int) + 1))).sl = givSl b.sl l ((b.attrs.length : Int) + 1) := rfl
          have HBQ : Hid (∀ f v, blkL (slS b (givSl b.sl l ((b.attrs.length : Int) + 1))) f v = blkL (givS b l a) f v) := Lib.hid (fun f v => by unfold givS; rw [HGK.out]; rfl)
          have HFR : Hid ((givS b l a).free = kp (slS b (givSl b.sl l ((b.attrs.length : Int) + 1))).sl b.free) := Lib.hid (by unfold givS; rw [HGK.out]; rfl)
          generalize slS b (givSl b.sl l ((b.attrs.length : Int) + 1)) = bS at *
          have c66 := hx.free hlS
          have HDF := Lib.hid (deleteF_any (w.heap.size + 3) (.slice fo fn fc) b.free w.heap.size bS (.slice fo fn fc) (.slice ao5 an5 ac5) wr hof hx (by omega) hlS (by omega) HFO.out hsc)
          have HX3 := Lib.hid hx
          have HZ3 := Lib.hid hz
          have HB3 := Lib.hid hb
          have HOA3 := Lib.hid hoa
          have HSC3 := Lib.hid hsc
          have HNE3 := Lib.hid (own_ne hoa hof (by decide))
          clear hx hof hoa hz hb hsc hlt hsS
          go_upto_region 12 with (first
            | (go_at_call 79; refine HDF.out.mono ?_; rintro e w5 ⟨v5, rfl, ho5, hb5, hg5⟩; have HO5 := Lib.hid ho5; have HX5 := Lib.hid (HX3.out.keepB hb5 (by omega)); have HZ5 := Lib.hid (HZ3.out.keepB hb5 (by omega)); have HB5 := Lib.hid (HB3.out.trans (hb5.mono (by omega))); have HOA5 := Lib.hid (own_grownO HOA3.out hg5 (fun k hk => HNE3.out k hk)); have HSC5 := Lib.hid (Nat.le_trans HSC3.out hb5.size); obtain ⟨fo5, fn5, fc5, rfl⟩ := own_form ho5; have k1 := HX5.out.free hlS; have k2 := HX5.out.froz 66; clear ho5 hb5 hg5))
          obtain ⟨w6, hw6⟩ : ∃ w6, w6 = w5.setCell ⟨w.heap.size, 66, none⟩ (.slice fo5 fn5 fc5) := ⟨_, rfl⟩
          have HX6 : Hid (BlkAt w6 w.heap.size bS (.slice fo5 fn5 fc5) (.slice ao5 an5 ac5)) := Lib.hid (by rw [hw6]; exact HX5.out.setFree hlS _)
          have HZ6 : Hid (BlkAt w6 (w.heap.size + 2) zB NS NS) := Lib.hid (by rw [hw6]; exact blk_setO HZ5.out (a := ⟨w.heap.size, 66, none⟩) (by show w.heap.size + 2 ≠ w.heap.size; omega) _)
          have HO6 : Hid (Owns w6 (w.heap.size + 3) (.slice fo5 fn5 fc5) (kp bS.sl b.free)) := Lib.hid (by rw [hw6]; exact own_set HO5.out (a := ⟨w.heap.size, 66, none⟩) (by show w.heap.size < w.heap.size + 3; omega) _)
          have HOA6 : Hid (RowA EAt w6 (w.heap.size + 3) (.slice ao5 an5 ac5) (b.attrs ++ [a])) := Lib.hid (by rw [hw6]; exact own_set HOA5.out (a := ⟨w.heap.size, 66, none⟩) (by show w.heap.size < w.heap.size + 3; omega) _)
          have HB6 : Hid (Below w.heap.size w w6) := Lib.hid (by rw [hw6]; exact HB5.out.setCell (p := ⟨w.heap.size, 66, none⟩) (Nat.le_refl _) _)
          rw [← hw6]
          clear hw6 k1 k2 c66
          go_wp2_with (first
            | (refine wpLdB rfl _ rfl rfl HX6.out hlS ?_)
            | (refine wpStB rfl _ _ rfl rfl rfl HZ6.out zB_len hlS rfl rfl ?_; intro w7 hx7 hg7))
          refine bodyPost_ret (resB1 Tryz.results48 rfl (loadVarB hx7 hlS)) rfl ⟨_, _, by rw [HBQ.out], ?_, ?_, HB6.out.grown hg7 HB6.out.size (fun k hk => by cases hk; omega)⟩
          · rw [HFR.out]
            exact own_le (own_grown HO6.out hg7 (by omega)) (by omega)
          · rw [HGA.out]
            exact own_le (own_grown HOA6.out hg7 (by omega)) (by omega)
end Go.Proofs.YtgodmnpcedfdcaaGreat
