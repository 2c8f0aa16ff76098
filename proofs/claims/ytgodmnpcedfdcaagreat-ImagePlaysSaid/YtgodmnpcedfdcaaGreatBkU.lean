/- Package block: release. -/
import Derived.Test.YtgodmnpcedfdcaaGreatJS
namespace Go.Proofs.YtgodmnpcedfdcaaGreat
open Go.RowKit
/-- Is x given under what is meant? -/
def hitR (M : PA → Bool) (b : BlkS) (x : Int) : Bool := (undP b x).2 && M (undP b x).1
def drpS (b : BlkS) (x : Int) : BlkS := { b with sl := b.sl.set (x - b.addr).toNat 0, free := b.free ++ [x - b.addr] }
/-- What release comes to over the first n of l. -/
def relN (M : PA → Bool) (b : BlkS) (l : List Int) : Nat → BlkS × List Int
  | 0 => (b, [])
  | n + 1 => if hitR M (relN M b l n).1 (l.getD n 0) = true then (drpS (relN M b l n).1 (l.getD n 0), (relN M b l n).2 ++ [l.getD n 0]) else relN M b l n
def nzN (l : List Int) : Nat := (l.filter (fun x => x != 0)).length
theorem nzN_set : ∀ (l : List Int) (i : Nat), l.getD i 0 ≠ 0 → nzN (l.set i 0) + 1 = nzN l
  | [], i, h => by simp at h
  | a :: l, 0, h => by
    have h' : a ≠ 0 := by simpa using h
    unfold nzN
    rw [List.set_cons_zero, List.filter_cons_of_neg (by simp), List.filter_cons_of_pos (by simpa using h')]
    simp
  | a :: l, i + 1, h => by
    have ih := nzN_set l i (by simpa using h)
    unfold nzN at ih ⊢
    rw [List.set_cons_succ]
    by_cases ha : a = 0
    · rw [List.filter_cons_of_neg (by simp [ha]), List.filter_cons_of_neg (by simp [ha])]
      exact ih
    · rw [List.filter_cons_of_pos (by simpa using ha), List.filter_cons_of_pos (by simpa using ha)]
      simp only [List.length_cons]
      omega
theorem und_in {b : BlkS} {x : Int} (h : (undP b x).2 = true) : inB b.addr x = true ∧ b.sl.getD (x - b.addr).toNat 0 ≠ 0 := by
  unfold undP at h
  by_cases hc : inB b.addr x = true ∧ b.sl.getD (x - b.addr).toNat 0 ≠ 0
  · exact hc
  · rw [if_neg hc] at h; cases h
theorem relN_inv (M : PA → Bool) (b : BlkS) (l : List Int) (hl : b.sl.length = 64) (hsl : ∀ i, 0 ≤ b.sl.getD i 0 ∧ b.sl.getD i 0 ≤ b.attrs.length) : ∀ n, (relN M b l n).1.addr = b.addr ∧ (relN M b l n).1.aff = b.aff ∧ (relN M b l n).1.attrs = b.attrs ∧ (relN M b l n).1.sl.length = 64 ∧ (∀ i, 0 ≤ (relN M b l n).1.sl.getD i 0 ∧ (relN M b l n).1.sl.getD i 0 ≤ b.attrs.length) ∧ (relN M b l n).1.free.length = b.free.length + (relN M b l n).2.length ∧ (relN M b l n).2.length + nzN (relN M b l n).1.sl = nzN b.sl
  | 0 => ⟨rfl, rfl, rfl, hl, hsl, rfl, by show 0 + _ = _; rw [Nat.zero_add]; rfl⟩
  | n + 1 => by
    have ih := relN_inv M b l hl hsl n
    unfold relN
    by_cases hh : hitR M (relN M b l n).1 (l.getD n 0) = true
    · rw [if_pos hh]
      obtain ⟨h1, h2, h3, h4, h5, h6, h7⟩ := ih
      have hu : (undP (relN M b l n).1 (l.getD n 0)).2 = true := by
        unfold hitR at hh
        rw [Bool.and_eq_true] at hh
        exact hh.1
      have hz := (und_in hu).2
      refine ⟨h1, h2, h3, by show (List.set _ _ _).length = 64; rw [List.length_set]; exact h4, fun i => ?_, ?_, ?_⟩
      · show 0 ≤ (List.set _ _ _).getD i 0 ∧ (List.set _ _ _).getD i 0 ≤ _
        rw [List.getD_eq_getElem?_getD, List.getElem?_set]
        split
        · split
          · simp
          · simp
        · rw [← List.getD_eq_getElem?_getD]; exact h5 i
      · show (_ ++ [_]).length = _ + (_ ++ [_]).length
        simp [h6]; omega
      · show (_ ++ [_]).length + nzN (List.set _ _ _) = _
        have := nzN_set _ _ hz
        simp only [List.length_append, List.length_singleton]
        omega
    · rw [if_neg hh]; exact ih
theorem nzN_le (l : List Int) : nzN l ≤ l.length := List.length_filter_le _ _
set_option maxRecDepth 100000 in
set_option maxHeartbeats 16000000 in
theorem release_any (b : BlkS) (fv av lv : Value) (l : List Int) (w : World) (hf : Sees w fv b.free) (ha : SeesA w av b.attrs) (hw : BWf b) (M : PA → Bool) (hls : SeesU w lv l) (hlx : ∀ x ∈ l, 0 ≤ x ∧ x < 4294967296) (hll : l.length ≤ maxLen) (hr : rightB b = true) (hM : ∀ (p : PA) (W : World), Below w.heap.size w W → Calls Tryz.prog 56 #[atV p] W fun e w' => e = .returned (.bool (M p)) ∧ Below W.heap.size W w') :
    Calls Tryz.prog 55 #[.agg (blkL b fv av).toArray, lv, .func (.func 56) #[] #[]] w fun e w' => ∃ fv' av' tv, e = .returned (.tuple #[.agg (blkL (tidS (relN M b l l.length).1) fv' av').toArray, tv, .int .i64 0]) ∧ BlkRet w w' (tidS (relN M b l l.length).1) fv' av' ∧ OwnsU w' w.heap.size tv (relN M b l l.length).2 := by
  obtain ⟨W, hW⟩ : ∃ W, W = (w.alloc (blkO b fv av)).alloc (blkO zB NS NS) := ⟨_, rfl⟩
  obtain ⟨hb0, hA, hR, hsz⟩ := two_newB w (blkO b fv av) (blkO zB NS NS)
  rw [← hW] at hb0 hA hR hsz
  have HXc : Hid (BlkAt W w.heap.size b fv av) := Lib.hid hA
  have HZc : Hid (BlkAt W (w.heap.size + 1) zB NS NS) := Lib.hid hR
  have HBc := Lib.hid hb0
  have HSZ := Lib.hid hsz
  have HW := Lib.hid hW
  have HRB := Lib.hid (rightBlk_any (blkL b fv av).toArray b W ⟨fv, av, rfl, hf.keep hb0, ha.below hb0, hw⟩)
  have hl := hw.2.1
  obtain ⟨h64, _, hal, hsl⟩ := right_bd hw hr
  obtain ⟨hfo, _, hfl⟩ := right_free hr
  have HINV := Lib.hid (relN_inv M b l hl hsl)
  have hnz : nzN b.sl ≤ 64 := by have := nzN_le b.sl; omega
  have HCO := Lib.hid (fun w1 (hb : Below W.heap.size W w1) => copied_any b fv av w1 ((hf.keep hb0).keep hb) ((ha.below hb0).below hb) hl (by omega) (by omega))
  rw [hr] at HRB
  have HAD := Lib.hid hw.1
  have HLS := Lib.hid hls
  have HLX := Lib.hid hlx
  have HM := Lib.hid hM
  have HFL := Lib.hid hfl
  have hll2 : l.length ≤ 9223372036854775807 := by unfold maxLen at hll; omega
  obtain ⟨lo, lc, rfl, -⟩ := id hls
  clear hW hb0 hA hR hsz hf ha hw hr h64 hfo hls hlx hM hfl hll
  go_enter Tryz.func55, Tryz.ntmps55
  go_upto_region 1 with fail
  change Code.wp _ _ _ _ ((w.alloc (blkO b fv av)).alloc (blkO zB NS NS))
  rw [← HW.out]
  clear HW
  go_wp2_with (refine wpLdB rfl _ rfl rfl HXc.out hl ?_)
  refine HRB.out.mono ?_; rintro e w1 ⟨rfl, hb1⟩
  have HB1 := Lib.hid hb1
  have HX1 := Lib.hid (HXc.out.below hb1)
  clear hb1
  go_wp2_with (refine wpLdB rfl _ rfl rfl HX1.out hl ?_)
  refine (HCO.out _ HB1.out).mono ?_; rintro e w3 ⟨fv3, av3, rfl, hof, hoa, hb3⟩
  have HB3 := Lib.hid (HBc.out.trans ((bel HB1.out hb3).mono HBc.out.size))
  have HX3 := Lib.hid (HX1.out.below hb3)
  have HZ3 := Lib.hid (HZc.out.below (bel HB1.out hb3))
  have HS1 : Hid (w.heap.size + 2 ≤ w1.heap.size) := Lib.hid (by have := HSZ.out; have := HB1.out.size; omega)
  have HOF3 := Lib.hid (own_le hof HS1.out)
  have HOA3 := Lib.hid (own_le hoa HS1.out)
  have HS3 := Lib.hid (Nat.le_trans HS1.out hb3.size)
  obtain ⟨fo0, fn0, fc0, rfl⟩ := own_form hof
  obtain ⟨ao, an, ac, rfl⟩ := own_form hoa
  clear hof hoa hb3
  go_upto_region 4 with (refine wpStB rfl _ _ rfl rfl rfl HX3.out hl hl rfl rfl ?_; intro w4 hx4 hg4; have HX4 := Lib.hid hx4; have HG4 := Lib.hid hg4; clear hx4 hg4)
  have HZ4 := Lib.hid (show BlkAt w4 (w.heap.size + 1) zB NS NS from (HG4.out.block _ (heap_lt HZ3.out) (fun e => by have := Option.some.inj e; omega)).trans HZ3.out)
  have HOF4 := Lib.hid (own_grown HOF3.out HG4.out (by omega))
  have HOA4 := Lib.hid (own_grown HOA3.out HG4.out (by omega))
  have HB4 := Lib.hid (HB3.out.grown HG4.out HB3.out.size (fun k hk => by cases hk; exact Nat.le_refl _))
  have HS4 := Lib.hid (Nat.le_trans HS3.out HG4.out.size)
  clear HX1 HX3 HZ3 HOF3 HOA3 HB3 HS3 HG4 HS1 HB1
  go_wp2_with fail
  go_loopw [9, 24] (fun t j wr => ∃ (i : Nat) (fo : Option Addr) (fn fc : Nat), i ≤ l.length ∧ j = .int .i64 i ∧ Hid (BlkAt wr w.heap.size (relN M b l i).1 (.slice fo fn fc) (.slice ao an ac) ∧ Owns wr (w.heap.size + 2) (.slice fo fn fc) (relN M b l i).1.free ∧ RowA EAt wr (w.heap.size + 2) (.slice ao an ac) b.attrs ∧ OwnsU wr (w.heap.size + 2) t (relN M b l i).2 ∧ BlkAt wr (w.heap.size + 1) zB NS NS ∧ Below w.heap.size w wr ∧ w.heap.size + 2 ≤ (wr).heap.size)) (fun _ j _ => l.length - (intOf j).toNat)
  case atStart => exact ⟨0, fo0, fn0, fc0, Nat.zero_le _, rfl, Lib.hid ⟨HX4.out, HOF4.out, HOA4.out, OwnsU.nil _ _, HZ4.out, HB4.out, HS4.out⟩⟩
  case round =>
    clear HX4 HOF4 HOA4 HZ4 HB4 HS4
    obtain ⟨i, fo, fn, fc, hi, rfl, HI⟩ := hrel
    obtain ⟨hx, hof, hoa, hou, hz, hb, hs⟩ := HI.out
    obtain ⟨v1, v2, v3, v4, v5, v6, v7⟩ := HINV.out i
    by_cases hlt : i < l.length
    · obtain ⟨lo', lc', e0, -, hln, hlc⟩ := HLS.out.keep hb
      obtain ⟨rfl, rfl⟩ : lo = lo' ∧ lc = lc' := by cases e0; exact ⟨rfl, rfl⟩
      obtain ⟨la, rfl⟩ : ∃ la, lo = some la := by
        cases lo with
        | none => rw [hln rfl] at hlt; simp at hlt
        | some la => exact ⟨la, rfl⟩
      have q0 := hlc la rfl i hlt
      have hm := HLX.out (l.getD i 0) (by
        rw [List.getD_eq_getElem?_getD, List.getElem?_eq_getElem hlt]
        exact List.getElem_mem hlt)
      have HSU : Hid (relN M b l (i + 1) = if hitR M (relN M b l i).1 (l.getD i 0) = true then (drpS (relN M b l i).1 (l.getD i 0), (relN M b l i).2 ++ [l.getD i 0]) else relN M b l i) := Lib.hid rfl
      obtain ⟨x, hx0⟩ : ∃ x, x = l.getD i 0 := ⟨_, rfl⟩
      rw [← hx0] at q0 hm HSU
      obtain ⟨s', hs'⟩ : ∃ s', s' = relN M b l (i + 1) := ⟨_, rfl⟩
      rw [← hs'] at HSU
      obtain ⟨c, hc⟩ : ∃ c, c = (relN M b l i).1 := ⟨_, rfl⟩
      obtain ⟨U, hU⟩ : ∃ U, U = (relN M b l i).2 := ⟨_, rfl⟩
      have HPR : Hid (relN M b l i = (c, U)) := Lib.hid (by rw [hc, hU])
      rw [← hc] at hx hof v1 v2 v3 v4 v5 v6 v7
      rw [← hU] at hou v6 v7
      rw [← hc, ← hU] at HSU
      have HS' := Lib.hid hs'
      have HUN := Lib.hid (fun W1 (hb1 : Below wr.heap.size wr W1) => under_any c (.slice fo fn fc) (.slice ao an ac) x W1 (by rw [v3]; exact RowA.sees (row_keepA hoa hb1)) v4 (by rw [v1]; exact HAD.out) hm.1 hm.2 (by rw [v3]; exact v5) (by rw [v3]; exact hal))
      have HSO := Lib.hid (fun W => slotOf_any c (.slice fo fn fc) (.slice ao an ac) (by rw [v1]; exact HAD.out) x hm.1 hm.2 W)
      have HUI := Lib.hid (fun h => und_in (b := c) (x := x) h)
      have HHT : Hid (hitR M c x = ((undP c x).2 && M (undP c x).1)) := Lib.hid rfl
      have HUX : Hid (∀ h : (undP c x).2 = true, ∃ y : Nat, y < 64 ∧ x - c.addr = (y : Int) ∧ inB c.addr x = true) := Lib.hid (fun h => by
        have hi := (und_in h).1
        have hi' : x - x % 64 = c.addr := by unfold inB at hi; simpa using hi
        exact ⟨(x - c.addr).toNat, by omega, by omega, hi⟩)
      have hfl2 : c.free.length ≤ 1000001 := by have := HFL.out; omega
      have hul2 : U.length ≤ 1000001 := by omega
      have HX := Lib.hid hx
      have HOF := Lib.hid hof
      have HOA := Lib.hid hoa
      have HOU := Lib.hid hou
      have HZ := Lib.hid hz
      have HB := Lib.hid hb
      have HS := Lib.hid hs
      have HLT := Lib.hid hlt
      have b0 : (0 : Int) ≤ (i : Int) := by omega
      have b1 : (i : Int) < (l.length : Int) := by omega
      have d1 : decide ((i : Int) < (l.length : Int)) = true := by simp; omega
      obtain ⟨p, hp⟩ : ∃ p, p = undP c x := ⟨_, rfl⟩
      rw [← hp] at HUN HHT HUX
      clear HUI
      obtain ⟨⟨p1, p2⟩, q⟩ := p
      clear hx hof hoa hou hz hb hs hlt HI hlc hln e0 hm hx0 hs' hc hU v1 v2 v3 v5 v6 v7 hp
      go_wp2_with (refine wpLdB rfl _ rfl rfl HX.out v4 ?_)
      refine (HUN.out _ (Below.refl _ _)).mono ?_; rintro e w5 ⟨rfl, hb5⟩
      have HX5 := Lib.hid (HX.out.below hb5)
      have HOF5 := Lib.hid (own_keep HOF.out hb5)
      have HOA5 := Lib.hid (row_keepA HOA.out hb5)
      have HOU5 := Lib.hid (own_keep HOU.out hb5)
      have HZ5 := Lib.hid (HZ.out.below hb5)
      have HB5 := Lib.hid (HB.out.trans (hb5.mono HB.out.size))
      have HS5 := Lib.hid (Nat.le_trans HS.out hb5.size)
      clear hb5 q0 HX HOF HOA HOU HZ HB HS
      go_upto_region 9 with fail
      obtain ⟨wx, hwx⟩ : ∃ wx, wx = w5.alloc (atO (p1, p2)) := ⟨_, rfl⟩
      have hx1 : wx.heap[w5.heap.size]? = some (atO (p1, p2)) := by rw [hwx]; exact heap_alloc_new w5 _
      have hbx : Below w5.heap.size w5 wx := by rw [hwx]; exact belNew w5 _
      change Code.wp _ _ _ _ (w5.alloc (atO (p1, p2)))
      rw [← hwx]
      obtain ⟨x0, x1⟩ := cells2 hx1
      have HX := Lib.hid (HX5.out.below hbx)
      have HOF := Lib.hid (own_keep HOF5.out hbx)
      have HOA := Lib.hid (row_keepA HOA5.out hbx)
      have HOU := Lib.hid (own_keep HOU5.out hbx)
      have HZ := Lib.hid (HZ5.out.below hbx)
      have HB := Lib.hid (HB5.out.trans (hbx.mono HB5.out.size))
      have HS := Lib.hid (Nat.le_trans HS5.out hbx.size)
      clear hwx hx1 hbx HX5 HOF5 HOA5 HOU5 HZ5 HB5 HS5
      cases q with
      | false =>
        have HN : Hid (relN M b l (i + 1) = (c, U)) := Lib.hid (by rw [← HS'.out, HSU.out, HHT.out, if_neg (by simp), HPR.out])
        go_wp2_with fail
        go_roundw
        case rel =>
          refine ⟨i + 1, fo, fn, fc, HLT.out, by go_num, ?_⟩
          rw [HN.out]
          exact Lib.hid ⟨HX.out, HOF.out, HOA.out, HOU.out, HZ.out, HB.out, HS.out⟩
        case measure => simp [intOf]; have := HLT.out; omega
      | true =>
        have HMC := Lib.hid (HM.out (p1, p2) wx HB.out)
        cases hq : M (p1, p2) with
        | false =>
          rw [hq] at HMC
          have HN : Hid (relN M b l (i + 1) = (c, U)) := Lib.hid (by rw [← HS'.out, HSU.out, HHT.out, hq, if_neg (by simp), HPR.out])
          clear hq
          go_wp2_with fail
          refine HMC.out.mono ?_; rintro e w6 ⟨rfl, hb6⟩
          have HX := Lib.hid (HX.out.below hb6)
          have HOF := Lib.hid (own_keep HOF.out hb6)
          have HOA := Lib.hid (row_keepA HOA.out hb6)
          have HOU := Lib.hid (own_keep HOU.out hb6)
          have HZ := Lib.hid (HZ.out.below hb6)
          have HB := Lib.hid (HB.out.trans (hb6.mono HB.out.size))
          have HS := Lib.hid (Nat.le_trans HS.out hb6.size)
          clear hb6
          go_wp2_with fail
          go_roundw
          case rel =>
            refine ⟨i + 1, fo, fn, fc, HLT.out, by go_num, ?_⟩
            rw [HN.out]
            exact Lib.hid ⟨HX.out, HOF.out, HOA.out, HOU.out, HZ.out, HB.out, HS.out⟩
          case measure => simp [intOf]; have := HLT.out; omega
        | true =>
          rw [hq] at HMC
          obtain ⟨y, hy, hyx, hin⟩ := HUX.out rfl
          have HN : Hid (relN M b l (i + 1) = (drpS c x, U ++ [x])) := Lib.hid (by rw [← HS'.out, HSU.out, HHT.out, hq, if_pos (by simp)])
          have HDS : Hid (drpS c x = { c with sl := c.sl.set y 0, free := c.free ++ [(y : Int)] }) := Lib.hid (by unfold drpS; rw [hyx, Int.toNat_natCast])
          rw [hin, if_pos rfl, hyx] at HSO
          have y0 : (0 : Int) ≤ (y : Int) := by omega
          have y1 : (y : Int) < 64 := by omega
          have hw8 : IntKind.u8.wrap (y : Int) = y := by rw [IntKind.wrap_u8]; omega
          have HY : Hid (y < c.sl.length) := Lib.hid (by omega)
          have HYG := Lib.hid (get64 v4 hy)
          have hlD : ({ c with sl := c.sl.set y 0 } : BlkS).sl.length = 64 := by show (List.set _ _ _).length = 64; rw [List.length_set]; exact v4
          generalize drpS c x = D at *
          clear hq hyx hin hy
          go_wp2_with fail
          refine HMC.out.mono ?_; rintro e w6 ⟨rfl, hb6⟩
          have HX := Lib.hid (HX.out.below hb6)
          have HOF := Lib.hid (own_keep HOF.out hb6)
          have HOA := Lib.hid (row_keepA HOA.out hb6)
          have HOU := Lib.hid (own_keep HOU.out hb6)
          have HZ := Lib.hid (HZ.out.below hb6)
          have HB := Lib.hid (HB.out.trans (hb6.mono HB.out.size))
          have HS := Lib.hid (Nat.le_trans HS.out hb6.size)
          clear hb6
          go_wp2_with (refine wpLdB rfl _ rfl rfl HX.out v4 ?_)
          refine (HSO.out _).mono ?_; rintro e w7 ⟨rfl, hb7⟩
          have HX7 := Lib.hid (HX.out.below hb7)
          have HOF7 := Lib.hid (own_keep HOF.out hb7)
          have HOA7 := Lib.hid (row_keepA HOA.out hb7)
          have HOU7 := Lib.hid (own_keep HOU.out hb7)
          have HZ7 := Lib.hid (HZ.out.below hb7)
          have HB7 := Lib.hid (HB.out.trans (hb7.mono HB.out.size))
          have HS7 := Lib.hid (Nat.le_trans HS.out hb7.size)
          have k1 := HX7.out.slot HYG.out
          have k2 := HX7.out.froz (y + 2)
          rw [Nat.add_comm] at k1 k2
          clear hb7 x0 x1
          go_upto_region 12 with fail
          obtain ⟨w8, hw8'⟩ : ∃ w8, w8 = w7.setCell ⟨w.heap.size, 2 + y, none⟩ (.int .u8 0) := ⟨_, rfl⟩
          have HX8 : Hid (BlkAt w8 w.heap.size { c with sl := c.sl.set y 0 } (.slice fo fn fc) (.slice ao an ac)) := Lib.hid (by rw [hw8', Nat.add_comm 2 y]; exact HX7.out.setSlot y HY.out 0)
          have HOF8 : Hid (w8.ownsRow (w.heap.size + 2) 5 1 (.slice fo fn fc) c.free.length (cells8 c.free)) := Lib.hid (by rw [hw8']; exact own_set HOF7.out (a := ⟨w.heap.size, 2 + y, none⟩) (by show w.heap.size < w.heap.size + 2; omega) _)
          have HOA8 : Hid (RowA EAt w8 (w.heap.size + 2) (.slice ao an ac) b.attrs) := Lib.hid (by rw [hw8']; exact own_set HOA7.out (a := ⟨w.heap.size, 2 + y, none⟩) (by show w.heap.size < w.heap.size + 2; omega) _)
          obtain ⟨tv, htv⟩ : ∃ tv, w7.ownsRow (w.heap.size + 2) 22 1 tv U.length (cellsU U) := ⟨_, HOU7.out⟩
          have HOU8 := Lib.hid (show w8.ownsRow (w.heap.size + 2) 22 1 _ U.length (cellsU U) by rw [hw8']; exact own_set HOU7.out (a := ⟨w.heap.size, 2 + y, none⟩) (by show w.heap.size < w.heap.size + 2; omega) _)
          have HZ8 : Hid (BlkAt w8 (w.heap.size + 1) zB NS NS) := Lib.hid (by rw [hw8']; exact blk_setO HZ7.out (a := ⟨w.heap.size, 2 + y, none⟩) (by show w.heap.size + 1 ≠ w.heap.size; omega) _)
          have HB8 : Hid (Below w.heap.size w w8) := Lib.hid (by rw [hw8']; exact HB7.out.setCell (p := ⟨w.heap.size, 2 + y, none⟩) (Nat.le_refl _) _)
          have HS8 : Hid (w.heap.size + 2 ≤ w8.heap.size) := Lib.hid (by rw [hw8']; exact size_set HS7.out _ _)
          have c66 := HX8.out.free hlD
          have HNA := Lib.hid (own_ne HOA8.out HOF8.out (by decide))
          have HNU := Lib.hid (own_ne HOU8.out HOF8.out (by decide))
          rw [← hw8']
          clear hw8' k1 k2 htv tv
          go_upto_region 13 with (at_builtin; refine wpList_push1 (w0 := w8) Tryz.underlying25 info8 rfl (by decide) rfl (.tmp 52) (.tmp 55) rfl (w.heap.size + 2) _ c.free.length (cells8 c.free) (.int .u8 (y : Int)) w8.heap.size rfl rfl rfl HOF8.out hfl2 HS8.out rfl ?_; intro v9 w9 ho9 hb9 hg9; have HO9 := Lib.hid ho9; have HX9 := Lib.hid (HX8.out.keepB hb9 (by omega)); have HZ9 := Lib.hid (HZ8.out.keepB hb9 (by omega)); have HB9 := Lib.hid (HB8.out.trans (hb9.mono (by omega))); have HOA9 := Lib.hid (own_grownO HOA8.out hg9 (fun k hk => HNA.out k hk)); have HOU9 := Lib.hid (own_grownO HOU8.out hg9 (fun k hk => HNU.out k hk)); have HS9 := Lib.hid (Nat.le_trans HS8.out hb9.size); obtain ⟨fo9, fn9, fc9, rfl⟩ := own_form ho9; have k1 := HX9.out.free hlD; have k2 := HX9.out.froz 66; clear ho9 hb9 hg9)
          obtain ⟨wa, hwa⟩ : ∃ wa, wa = w9.setCell ⟨w.heap.size, 66, none⟩ (.slice fo9 fn9 fc9) := ⟨_, rfl⟩
          have HXa : Hid (BlkAt wa w.heap.size { c with sl := c.sl.set y 0 } (.slice fo9 fn9 fc9) (.slice ao an ac)) := Lib.hid (by rw [hwa]; exact HX9.out.setFree hlD _)
          have HOFa : Hid (wa.ownsRow (w.heap.size + 2) 5 1 (.slice fo9 fn9 fc9) (c.free.length + 1) (cells8 c.free ++ [.int .u8 (y : Int)])) := Lib.hid (by rw [hwa]; exact own_set HO9.out (a := ⟨w.heap.size, 66, none⟩) (by show w.heap.size < w.heap.size + 2; omega) _)
          have HOAa : Hid (RowA EAt wa (w.heap.size + 2) (.slice ao an ac) b.attrs) := Lib.hid (by rw [hwa]; exact own_set HOA9.out (a := ⟨w.heap.size, 66, none⟩) (by show w.heap.size < w.heap.size + 2; omega) _)
          have HOUa := Lib.hid (show wa.ownsRow (w.heap.size + 2) 22 1 _ U.length (cellsU U) by rw [hwa]; exact own_set HOU9.out (a := ⟨w.heap.size, 66, none⟩) (by show w.heap.size < w.heap.size + 2; omega) _)
          have HZa : Hid (BlkAt wa (w.heap.size + 1) zB NS NS) := Lib.hid (by rw [hwa]; exact blk_setO HZ9.out (a := ⟨w.heap.size, 66, none⟩) (by show w.heap.size + 1 ≠ w.heap.size; omega) _)
          have HBa : Hid (Below w.heap.size w wa) := Lib.hid (by rw [hwa]; exact HB9.out.setCell (p := ⟨w.heap.size, 66, none⟩) (Nat.le_refl _) _)
          have HSa : Hid (w.heap.size + 2 ≤ wa.heap.size) := Lib.hid (by rw [hwa]; exact size_set HS9.out _ _)
          have HNF2 := Lib.hid (own_ne HOFa.out HOUa.out (by decide))
          have HNA2 := Lib.hid (own_ne HOAa.out HOUa.out (by decide))
          rw [← hwa]
          clear hwa k1 k2 c66
          go_wp2_with (at_builtin; refine wpList_push1 (w0 := wa) Tryz.underlying39 infoU rfl (by decide) rfl (.tmp 58) (.tmp 60) rfl (w.heap.size + 2) _ U.length (cellsU U) (.int .u32 x) wa.heap.size rfl rfl rfl HOUa.out hul2 HSa.out rfl ?_; intro vb wb hob hbb hgb; have HOUb := Lib.hid hob; have HXb := Lib.hid (HXa.out.keepB hbb (by omega)); have HZb := Lib.hid (HZa.out.keepB hbb (by omega)); have HBb := Lib.hid (HBa.out.trans (hbb.mono (by omega))); have HOFb := Lib.hid (own_grownO HOFa.out hgb (fun k hk => HNF2.out k hk)); have HOAb := Lib.hid (own_grownO HOAa.out hgb (fun k hk => HNA2.out k hk)); have HSb := Lib.hid (Nat.le_trans HSa.out hbb.size); clear hob hbb hgb)
          go_roundw
          case rel =>
            refine ⟨i + 1, fo9, fn9, fc9, HLT.out, by go_num, ?_⟩
            rw [HN.out]
            refine Lib.hid ⟨?_, ?_, HOAb.out, ?_, HZb.out, HBb.out, HSb.out⟩
            · rw [HDS.out]; exact HXb.out
            · rw [HDS.out]
              have e1 : (c.free ++ [(y : Int)]).length = c.free.length + 1 := by simp
              have e2 : cells8 (c.free ++ [(y : Int)]) = cells8 c.free ++ [.int .u8 (y : Int)] := by simp [cells8]
              show World.ownsRow _ _ _ _ _ (c.free ++ [(y : Int)]).length (cells8 (c.free ++ [(y : Int)]))
              rw [e1, e2]
              exact HOFb.out
            · have e1 : (U ++ [x]).length = U.length + 1 := by simp
              have e2 : cellsU (U ++ [x]) = cellsU U ++ [.int .u32 x] := by simp [cellsU]
              show World.ownsRow _ _ _ _ _ (U ++ [x]).length (cellsU (U ++ [x]))
              rw [e1, e2]
              exact HOUb.out
          case measure => simp [intOf]; have := HLT.out; omega
    · obtain rfl : i = l.length := by omega
      have d1 : decide ((l.length : Int) < (l.length : Int)) = false := by simp
      have hok : okB (relN M b l l.length).1.sl := fun z hz => by
        obtain ⟨j, hj, rfl⟩ := List.getElem_of_mem hz
        have := v5 j
        rw [List.getD_eq_getElem?_getD, List.getElem?_eq_getElem hj] at this
        simp only [Option.getD_some] at this
        omega
      have HTI := Lib.hid (tidied_any (relN M b l l.length).1 (.slice fo fn fc) (.slice ao an ac) wr (by rw [v3]; exact RowA.sees hoa) v4 hok (by rw [v3]; exact v5) (by rw [v3]; exact hal) rfl)
      have hlT : (tidS (relN M b l l.length).1).sl.length = 64 := by show (List.map _ _).length = 64; rw [List.length_map]; exact v4
      have HX := Lib.hid hx
      have HOF := Lib.hid hof
      have HOU := Lib.hid hou
      have HZ := Lib.hid hz
      have HB := Lib.hid hb
      have HS := Lib.hid hs
      clear hx hof hoa hou hz hb hs hlt HI hok v1 v2 v3 v5 v6 v7
      go_wp2_with (refine wpLdB rfl _ rfl rfl HX.out v4 ?_)
      refine HTI.out.mono ?_; rintro e w5 ⟨av5, rfl, hoa5, hb5⟩
      have HZ5 := Lib.hid (HZ.out.below hb5)
      have HOF5 := Lib.hid (own_keep HOF.out hb5)
      have HOU5 := Lib.hid (own_keep HOU.out hb5)
      have HOA5 := Lib.hid hoa5
      have HB5 := Lib.hid (HB.out.trans (hb5.mono HB.out.size))
      obtain ⟨a5, m5, d5, rfl⟩ := own_form hoa5
      clear hoa5 hb5
      go_wp2_with (refine wpStB rfl _ _ rfl rfl rfl HZ5.out zB_len hlT rfl rfl ?_; intro w7 hx7 hg7)
      refine bodyPost_ret (resB3 Tryz.results55 rfl (loadVarB hx7 hlT)) rfl ⟨_, _, _, rfl, ⟨?_, ?_, HB5.out.grown hg7 HB5.out.size (fun k hk => by cases hk; omega)⟩, ?_⟩
      · exact own_le (own_grown HOF5.out hg7 (by omega)) (by omega)
      · exact own_le (own_grown HOA5.out hg7 (by have := HS.out; omega)) (by have := HS.out; omega)
      · exact own_le (own_grown HOU5.out hg7 (by omega)) (by omega)
set_option maxRecDepth 100000 in
set_option maxHeartbeats 16000000 in
theorem release_anyH (g0 : Nat) (b : BlkS) (fv av lv : Value) (l : List Int) (w : World) (hf : Sees w fv b.free) (ha : SeesA w av b.attrs) (hw : BWf b) (M : PA → Bool) (hls : SeesU w lv l) (hlx : ∀ x ∈ l, 0 ≤ x ∧ x < 4294967296) (hll : l.length ≤ maxLen) (hr : rightB b = true) (hM : ∀ (p : PA) (W : World), Below w.heap.size w W → Calls Tryz.prog 60 #[atV p, .pointer (some ⟨g0, 0, none⟩)] W fun e w' => e = .returned (.bool (M p)) ∧ Below W.heap.size W w') :
    Calls Tryz.prog 55 #[.agg (blkL b fv av).toArray, lv, .func (.func 60) #[] #[.pointer (some ⟨g0, 0, none⟩)]] w fun e w' => ∃ fv' av' tv, e = .returned (.tuple #[.agg (blkL (tidS (relN M b l l.length).1) fv' av').toArray, tv, .int .i64 0]) ∧ BlkRet w w' (tidS (relN M b l l.length).1) fv' av' ∧ OwnsU w' w.heap.size tv (relN M b l l.length).2 := by
  obtain ⟨W, hW⟩ : ∃ W, W = (w.alloc (blkO b fv av)).alloc (blkO zB NS NS) := ⟨_, rfl⟩
  obtain ⟨hb0, hA, hR, hsz⟩ := two_newB w (blkO b fv av) (blkO zB NS NS)
  rw [← hW] at hb0 hA hR hsz
  have HXc : Hid (BlkAt W w.heap.size b fv av) := Lib.hid hA
  have HZc : Hid (BlkAt W (w.heap.size + 1) zB NS NS) := Lib.hid hR
  have HBc := Lib.hid hb0
  have HSZ := Lib.hid hsz
  have HW := Lib.hid hW
  have HRB := Lib.hid (rightBlk_any (blkL b fv av).toArray b W ⟨fv, av, rfl, hf.keep hb0, ha.below hb0, hw⟩)
  have hl := hw.2.1
  obtain ⟨h64, _, hal, hsl⟩ := right_bd hw hr
  obtain ⟨hfo, _, hfl⟩ := right_free hr
  have HINV := Lib.hid (relN_inv M b l hl hsl)
  have hnz : nzN b.sl ≤ 64 := by have := nzN_le b.sl; omega
  have HCO := Lib.hid (fun w1 (hb : Below W.heap.size W w1) => copied_any b fv av w1 ((hf.keep hb0).keep hb) ((ha.below hb0).below hb) hl (by omega) (by omega))
  rw [hr] at HRB
  have HAD := Lib.hid hw.1
  have HLS := Lib.hid hls
  have HLX := Lib.hid hlx
  have HM := Lib.hid hM
  have HFL := Lib.hid hfl
  have hll2 : l.length ≤ 9223372036854775807 := by unfold maxLen at hll; omega
  obtain ⟨lo, lc, rfl, -⟩ := id hls
  clear hW hb0 hA hR hsz hf ha hw hr h64 hfo hls hlx hM hfl hll
  go_enter Tryz.func55, Tryz.ntmps55
  go_upto_region 1 with fail
  change Code.wp _ _ _ _ ((w.alloc (blkO b fv av)).alloc (blkO zB NS NS))
  rw [← HW.out]
  clear HW
  go_wp2_with (refine wpLdB rfl _ rfl rfl HXc.out hl ?_)
  refine HRB.out.mono ?_; rintro e w1 ⟨rfl, hb1⟩
  have HB1 := Lib.hid hb1
  have HX1 := Lib.hid (HXc.out.below hb1)
  clear hb1
  go_wp2_with (refine wpLdB rfl _ rfl rfl HX1.out hl ?_)
  refine (HCO.out _ HB1.out).mono ?_; rintro e w3 ⟨fv3, av3, rfl, hof, hoa, hb3⟩
  have HB3 := Lib.hid (HBc.out.trans ((bel HB1.out hb3).mono HBc.out.size))
  have HX3 := Lib.hid (HX1.out.below hb3)
  have HZ3 := Lib.hid (HZc.out.below (bel HB1.out hb3))
  have HS1 : Hid (w.heap.size + 2 ≤ w1.heap.size) := Lib.hid (by have := HSZ.out; have := HB1.out.size; omega)
  have HOF3 := Lib.hid (own_le hof HS1.out)
  have HOA3 := Lib.hid (own_le hoa HS1.out)
  have HS3 := Lib.hid (Nat.le_trans HS1.out hb3.size)
  obtain ⟨fo0, fn0, fc0, rfl⟩ := own_form hof
  obtain ⟨ao, an, ac, rfl⟩ := own_form hoa
  clear hof hoa hb3
  go_upto_region 4 with (refine wpStB rfl _ _ rfl rfl rfl HX3.out hl hl rfl rfl ?_; intro w4 hx4 hg4; have HX4 := Lib.hid hx4; have HG4 := Lib.hid hg4; clear hx4 hg4)
  have HZ4 := Lib.hid (show BlkAt w4 (w.heap.size + 1) zB NS NS from (HG4.out.block _ (heap_lt HZ3.out) (fun e => by have := Option.some.inj e; omega)).trans HZ3.out)
  have HOF4 := Lib.hid (own_grown HOF3.out HG4.out (by omega))
  have HOA4 := Lib.hid (own_grown HOA3.out HG4.out (by omega))
  have HB4 := Lib.hid (HB3.out.grown HG4.out HB3.out.size (fun k hk => by cases hk; exact Nat.le_refl _))
  have HS4 := Lib.hid (Nat.le_trans HS3.out HG4.out.size)
  clear HX1 HX3 HZ3 HOF3 HOA3 HB3 HS3 HG4 HS1 HB1
  go_wp2_with fail
  go_loopw [9, 24] (fun t j wr => ∃ (i : Nat) (fo : Option Addr) (fn fc : Nat), i ≤ l.length ∧ j = .int .i64 i ∧ Hid (BlkAt wr w.heap.size (relN M b l i).1 (.slice fo fn fc) (.slice ao an ac) ∧ Owns wr (w.heap.size + 2) (.slice fo fn fc) (relN M b l i).1.free ∧ RowA EAt wr (w.heap.size + 2) (.slice ao an ac) b.attrs ∧ OwnsU wr (w.heap.size + 2) t (relN M b l i).2 ∧ BlkAt wr (w.heap.size + 1) zB NS NS ∧ Below w.heap.size w wr ∧ w.heap.size + 2 ≤ (wr).heap.size)) (fun _ j _ => l.length - (intOf j).toNat)
  case atStart => exact ⟨0, fo0, fn0, fc0, Nat.zero_le _, rfl, Lib.hid ⟨HX4.out, HOF4.out, HOA4.out, OwnsU.nil _ _, HZ4.out, HB4.out, HS4.out⟩⟩
  case round =>
    clear HX4 HOF4 HOA4 HZ4 HB4 HS4
    obtain ⟨i, fo, fn, fc, hi, rfl, HI⟩ := hrel
    obtain ⟨hx, hof, hoa, hou, hz, hb, hs⟩ := HI.out
    obtain ⟨v1, v2, v3, v4, v5, v6, v7⟩ := HINV.out i
    by_cases hlt : i < l.length
    · obtain ⟨lo', lc', e0, -, hln, hlc⟩ := HLS.out.keep hb
      obtain ⟨rfl, rfl⟩ : lo = lo' ∧ lc = lc' := by cases e0; exact ⟨rfl, rfl⟩
      obtain ⟨la, rfl⟩ : ∃ la, lo = some la := by
        cases lo with
        | none => rw [hln rfl] at hlt; simp at hlt
        | some la => exact ⟨la, rfl⟩
      have q0 := hlc la rfl i hlt
      have hm := HLX.out (l.getD i 0) (by
        rw [List.getD_eq_getElem?_getD, List.getElem?_eq_getElem hlt]
        exact List.getElem_mem hlt)
      have HSU : Hid (relN M b l (i + 1) = if hitR M (relN M b l i).1 (l.getD i 0) = true then (drpS (relN M b l i).1 (l.getD i 0), (relN M b l i).2 ++ [l.getD i 0]) else relN M b l i) := Lib.hid rfl
      obtain ⟨x, hx0⟩ : ∃ x, x = l.getD i 0 := ⟨_, rfl⟩
      rw [← hx0] at q0 hm HSU
      obtain ⟨s', hs'⟩ : ∃ s', s' = relN M b l (i + 1) := ⟨_, rfl⟩
      rw [← hs'] at HSU
      obtain ⟨c, hc⟩ : ∃ c, c = (relN M b l i).1 := ⟨_, rfl⟩
      obtain ⟨U, hU⟩ : ∃ U, U = (relN M b l i).2 := ⟨_, rfl⟩
      have HPR : Hid (relN M b l i = (c, U)) := Lib.hid (by rw [hc, hU])
      rw [← hc] at hx hof v1 v2 v3 v4 v5 v6 v7
      rw [← hU] at hou v6 v7
      rw [← hc, ← hU] at HSU
      have HS' := Lib.hid hs'
      have HUN := Lib.hid (fun W1 (hb1 : Below wr.heap.size wr W1) => under_any c (.slice fo fn fc) (.slice ao an ac) x W1 (by rw [v3]; exact RowA.sees (row_keepA hoa hb1)) v4 (by rw [v1]; exact HAD.out) hm.1 hm.2 (by rw [v3]; exact v5) (by rw [v3]; exact hal))
      have HSO := Lib.hid (fun W => slotOf_any c (.slice fo fn fc) (.slice ao an ac) (by rw [v1]; exact HAD.out) x hm.1 hm.2 W)
      have HUI := Lib.hid (fun h => und_in (b := c) (x := x) h)
      have HHT : Hid (hitR M c x = ((undP c x).2 && M (undP c x).1)) := Lib.hid rfl
      have HUX : Hid (∀ h : (undP c x).2 = true, ∃ y : Nat, y < 64 ∧ x - c.addr = (y : Int) ∧ inB c.addr x = true) := Lib.hid (fun h => by
        have hi := (und_in h).1
        have hi' : x - x % 64 = c.addr := by unfold inB at hi; simpa using hi
        exact ⟨(x - c.addr).toNat, by omega, by omega, hi⟩)
      have hfl2 : c.free.length ≤ 1000001 := by have := HFL.out; omega
      have hul2 : U.length ≤ 1000001 := by omega
      have HX := Lib.hid hx
      have HOF := Lib.hid hof
      have HOA := Lib.hid hoa
      have HOU := Lib.hid hou
      have HZ := Lib.hid hz
      have HB := Lib.hid hb
      have HS := Lib.hid hs
      have HLT := Lib.hid hlt
      have b0 : (0 : Int) ≤ (i : Int) := by omega
      have b1 : (i : Int) < (l.length : Int) := by omega
      have d1 : decide ((i : Int) < (l.length : Int)) = true := by simp; omega
      obtain ⟨p, hp⟩ : ∃ p, p = undP c x := ⟨_, rfl⟩
      rw [← hp] at HUN HHT HUX
      clear HUI
      obtain ⟨⟨p1, p2⟩, q⟩ := p
      clear hx hof hoa hou hz hb hs hlt HI hlc hln e0 hm hx0 hs' hc hU v1 v2 v3 v5 v6 v7 hp
      go_wp2_with (refine wpLdB rfl _ rfl rfl HX.out v4 ?_)
      refine (HUN.out _ (Below.refl _ _)).mono ?_; rintro e w5 ⟨rfl, hb5⟩
      have HX5 := Lib.hid (HX.out.below hb5)
      have HOF5 := Lib.hid (own_keep HOF.out hb5)
      have HOA5 := Lib.hid (row_keepA HOA.out hb5)
      have HOU5 := Lib.hid (own_keep HOU.out hb5)
      have HZ5 := Lib.hid (HZ.out.below hb5)
      have HB5 := Lib.hid (HB.out.trans (hb5.mono HB.out.size))
      have HS5 := Lib.hid (Nat.le_trans HS.out hb5.size)
      clear hb5 q0 HX HOF HOA HOU HZ HB HS
      go_upto_region 9 with fail
      obtain ⟨wx, hwx⟩ : ∃ wx, wx = w5.alloc (atO (p1, p2)) := ⟨_, rfl⟩
      have hx1 : wx.heap[w5.heap.size]? = some (atO (p1, p2)) := by rw [hwx]; exact heap_alloc_new w5 _
      have hbx : Below w5.heap.size w5 wx := by rw [hwx]; exact belNew w5 _
      change Code.wp _ _ _ _ (w5.alloc (atO (p1, p2)))
      rw [← hwx]
      obtain ⟨x0, x1⟩ := cells2 hx1
      have HX := Lib.hid (HX5.out.below hbx)
      have HOF := Lib.hid (own_keep HOF5.out hbx)
      have HOA := Lib.hid (row_keepA HOA5.out hbx)
      have HOU := Lib.hid (own_keep HOU5.out hbx)
      have HZ := Lib.hid (HZ5.out.below hbx)
      have HB := Lib.hid (HB5.out.trans (hbx.mono HB5.out.size))
      have HS := Lib.hid (Nat.le_trans HS5.out hbx.size)
      clear hwx hx1 hbx HX5 HOF5 HOA5 HOU5 HZ5 HB5 HS5
      cases q with
      | false =>
        have HN : Hid (relN M b l (i + 1) = (c, U)) := Lib.hid (by rw [← HS'.out, HSU.out, HHT.out, if_neg (by simp), HPR.out])
        go_wp2_with fail
        go_roundw
        case rel =>
          refine ⟨i + 1, fo, fn, fc, HLT.out, by go_num, ?_⟩
          rw [HN.out]
          exact Lib.hid ⟨HX.out, HOF.out, HOA.out, HOU.out, HZ.out, HB.out, HS.out⟩
        case measure => simp [intOf]; have := HLT.out; omega
      | true =>
        have HMC := Lib.hid (HM.out (p1, p2) wx HB.out)
        cases hq : M (p1, p2) with
        | false =>
          rw [hq] at HMC
          have HN : Hid (relN M b l (i + 1) = (c, U)) := Lib.hid (by rw [← HS'.out, HSU.out, HHT.out, hq, if_neg (by simp), HPR.out])
          clear hq
          go_wp2_with fail
          refine HMC.out.mono ?_; rintro e w6 ⟨rfl, hb6⟩
          have HX := Lib.hid (HX.out.below hb6)
          have HOF := Lib.hid (own_keep HOF.out hb6)
          have HOA := Lib.hid (row_keepA HOA.out hb6)
          have HOU := Lib.hid (own_keep HOU.out hb6)
          have HZ := Lib.hid (HZ.out.below hb6)
          have HB := Lib.hid (HB.out.trans (hb6.mono HB.out.size))
          have HS := Lib.hid (Nat.le_trans HS.out hb6.size)
          clear hb6
          go_wp2_with fail
          go_roundw
          case rel =>
            refine ⟨i + 1, fo, fn, fc, HLT.out, by go_num, ?_⟩
            rw [HN.out]
            exact Lib.hid ⟨HX.out, HOF.out, HOA.out, HOU.out, HZ.out, HB.out, HS.out⟩
          case measure => simp [intOf]; have := HLT.out; omega
        | true =>
          rw [hq] at HMC
          obtain ⟨y, hy, hyx, hin⟩ := HUX.out rfl
          have HN : Hid (relN M b l (i + 1) = (drpS c x, U ++ [x])) := Lib.hid (by rw [← HS'.out, HSU.out, HHT.out, hq, if_pos (by simp)])
          have HDS : Hid (drpS c x = { c with sl := c.sl.set y 0, free := c.free ++ [(y : Int)] }) := Lib.hid (by unfold drpS; rw [hyx, Int.toNat_natCast])
          rw [hin, if_pos rfl, hyx] at HSO
          have y0 : (0 : Int) ≤ (y : Int) := by omega
          have y1 : (y : Int) < 64 := by omega
          have hw8 : IntKind.u8.wrap (y : Int) = y := by rw [IntKind.wrap_u8]; omega
          have HY : Hid (y < c.sl.length) := Lib.hid (by omega)
          have HYG := Lib.hid (get64 v4 hy)
          have hlD : ({ c with sl := c.sl.set y 0 } : BlkS).sl.length = 64 := by show (List.set _ _ _).length = 64; rw [List.length_set]; exact v4
          generalize drpS c x = D at *
          clear hq hyx hin hy
          go_wp2_with fail
          refine HMC.out.mono ?_; rintro e w6 ⟨rfl, hb6⟩
          have HX := Lib.hid (HX.out.below hb6)
          have HOF := Lib.hid (own_keep HOF.out hb6)
          have HOA := Lib.hid (row_keepA HOA.out hb6)
          have HOU := Lib.hid (own_keep HOU.out hb6)
          have HZ := Lib.hid (HZ.out.below hb6)
          have HB := Lib.hid (HB.out.trans (hb6.mono HB.out.size))
          have HS := Lib.hid (Nat.le_trans HS.out hb6.size)
          clear hb6
          go_wp2_with (refine wpLdB rfl _ rfl rfl HX.out v4 ?_)
          refine (HSO.out _).mono ?_; rintro e w7 ⟨rfl, hb7⟩
          have HX7 := Lib.hid (HX.out.below hb7)
          have HOF7 := Lib.hid (own_keep HOF.out hb7)
          have HOA7 := Lib.hid (row_keepA HOA.out hb7)
          have HOU7 := Lib.hid (own_keep HOU.out hb7)
          have HZ7 := Lib.hid (HZ.out.below hb7)
          have HB7 := Lib.hid (HB.out.trans (hb7.mono HB.out.size))
          have HS7 := Lib.hid (Nat.le_trans HS.out hb7.size)
          have k1 := HX7.out.slot HYG.out
          have k2 := HX7.out.froz (y + 2)
          rw [Nat.add_comm] at k1 k2
          clear hb7 x0 x1
          go_upto_region 12 with fail
          obtain ⟨w8, hw8'⟩ : ∃ w8, w8 = w7.setCell ⟨w.heap.size, 2 + y, none⟩ (.int .u8 0) := ⟨_, rfl⟩
          have HX8 : Hid (BlkAt w8 w.heap.size { c with sl := c.sl.set y 0 } (.slice fo fn fc) (.slice ao an ac)) := Lib.hid (by rw [hw8', Nat.add_comm 2 y]; exact HX7.out.setSlot y HY.out 0)
          have HOF8 : Hid (w8.ownsRow (w.heap.size + 2) 5 1 (.slice fo fn fc) c.free.length (cells8 c.free)) := Lib.hid (by rw [hw8']; exact own_set HOF7.out (a := ⟨w.heap.size, 2 + y, none⟩) (by show w.heap.size < w.heap.size + 2; omega) _)
          have HOA8 : Hid (RowA EAt w8 (w.heap.size + 2) (.slice ao an ac) b.attrs) := Lib.hid (by rw [hw8']; exact own_set HOA7.out (a := ⟨w.heap.size, 2 + y, none⟩) (by show w.heap.size < w.heap.size + 2; omega) _)
          obtain ⟨tv, htv⟩ : ∃ tv, w7.ownsRow (w.heap.size + 2) 22 1 tv U.length (cellsU U) := ⟨_, HOU7.out⟩
          have HOU8 := Lib.hid (show w8.ownsRow (w.heap.size + 2) 22 1 _ U.length (cellsU U) by rw [hw8']; exact own_set HOU7.out (a := ⟨w.heap.size, 2 + y, none⟩) (by show w.heap.size < w.heap.size + 2; omega) _)
          have HZ8 : Hid (BlkAt w8 (w.heap.size + 1) zB NS NS) := Lib.hid (by rw [hw8']; exact blk_setO HZ7.out (a := ⟨w.heap.size, 2 + y, none⟩) (by show w.heap.size + 1 ≠ w.heap.size; omega) _)
          have HB8 : Hid (Below w.heap.size w w8) := Lib.hid (by rw [hw8']; exact HB7.out.setCell (p := ⟨w.heap.size, 2 + y, none⟩) (Nat.le_refl _) _)
          have HS8 : Hid (w.heap.size + 2 ≤ w8.heap.size) := Lib.hid (by rw [hw8']; exact size_set HS7.out _ _)
          have c66 := HX8.out.free hlD
          have HNA := Lib.hid (own_ne HOA8.out HOF8.out (by decide))
          have HNU := Lib.hid (own_ne HOU8.out HOF8.out (by decide))
          rw [← hw8']
          clear hw8' k1 k2 htv tv
          go_upto_region 13 with (at_builtin; refine wpList_push1 (w0 := w8) Tryz.underlying25 info8 rfl (by decide) rfl (.tmp 52) (.tmp 55) rfl (w.heap.size + 2) _ c.free.length (cells8 c.free) (.int .u8 (y : Int)) w8.heap.size rfl rfl rfl HOF8.out hfl2 HS8.out rfl ?_; intro v9 w9 ho9 hb9 hg9; have HO9 := Lib.hid ho9; have HX9 := Lib.hid (HX8.out.keepB hb9 (by omega)); have HZ9 := Lib.hid (HZ8.out.keepB hb9 (by omega)); have HB9 := Lib.hid (HB8.out.trans (hb9.mono (by omega))); have HOA9 := Lib.hid (own_grownO HOA8.out hg9 (fun k hk => HNA.out k hk)); have HOU9 := Lib.hid (own_grownO HOU8.out hg9 (fun k hk => HNU.out k hk)); have HS9 := Lib.hid (Nat.le_trans HS8.out hb9.size); obtain ⟨fo9, fn9, fc9, rfl⟩ := own_form ho9; have k1 := HX9.out.free hlD; have k2 := HX9.out.froz 66; clear ho9 hb9 hg9)
          obtain ⟨wa, hwa⟩ : ∃ wa, wa = w9.setCell ⟨w.heap.size, 66, none⟩ (.slice fo9 fn9 fc9) := ⟨_, rfl⟩
          have HXa : Hid (BlkAt wa w.heap.size { c with sl := c.sl.set y 0 } (.slice fo9 fn9 fc9) (.slice ao an ac)) := Lib.hid (by rw [hwa]; exact HX9.out.setFree hlD _)
          have HOFa : Hid (wa.ownsRow (w.heap.size + 2) 5 1 (.slice fo9 fn9 fc9) (c.free.length + 1) (cells8 c.free ++ [.int .u8 (y : Int)])) := Lib.hid (by rw [hwa]; exact own_set HO9.out (a := ⟨w.heap.size, 66, none⟩) (by show w.heap.size < w.heap.size + 2; omega) _)
          have HOAa : Hid (RowA EAt wa (w.heap.size + 2) (.slice ao an ac) b.attrs) := Lib.hid (by rw [hwa]; exact own_set HOA9.out (a := ⟨w.heap.size, 66, none⟩) (by show w.heap.size < w.heap.size + 2; omega) _)
          have HOUa := Lib.hid (show wa.ownsRow (w.heap.size + 2) 22 1 _ U.length (cellsU U) by rw [hwa]; exact own_set HOU9.out (a := ⟨w.heap.size, 66, none⟩) (by show w.heap.size < w.heap.size + 2; omega) _)
          have HZa : Hid (BlkAt wa (w.heap.size + 1) zB NS NS) := Lib.hid (by rw [hwa]; exact blk_setO HZ9.out (a := ⟨w.heap.size, 66, none⟩) (by show w.heap.size + 1 ≠ w.heap.size; omega) _)
          have HBa : Hid (Below w.heap.size w wa) := Lib.hid (by rw [hwa]; exact HB9.out.setCell (p := ⟨w.heap.size, 66, none⟩) (Nat.le_refl _) _)
          have HSa : Hid (w.heap.size + 2 ≤ wa.heap.size) := Lib.hid (by rw [hwa]; exact size_set HS9.out _ _)
          have HNF2 := Lib.hid (own_ne HOFa.out HOUa.out (by decide))
          have HNA2 := Lib.hid (own_ne HOAa.out HOUa.out (by decide))
          rw [← hwa]
          clear hwa k1 k2 c66
          go_wp2_with (at_builtin; refine wpList_push1 (w0 := wa) Tryz.underlying39 infoU rfl (by decide) rfl (.tmp 58) (.tmp 60) rfl (w.heap.size + 2) _ U.length (cellsU U) (.int .u32 x) wa.heap.size rfl rfl rfl HOUa.out hul2 HSa.out rfl ?_; intro vb wb hob hbb hgb; have HOUb := Lib.hid hob; have HXb := Lib.hid (HXa.out.keepB hbb (by omega)); have HZb := Lib.hid (HZa.out.keepB hbb (by omega)); have HBb := Lib.hid (HBa.out.trans (hbb.mono (by omega))); have HOFb := Lib.hid (own_grownO HOFa.out hgb (fun k hk => HNF2.out k hk)); have HOAb := Lib.hid (own_grownO HOAa.out hgb (fun k hk => HNA2.out k hk)); have HSb := Lib.hid (Nat.le_trans HSa.out hbb.size); clear hob hbb hgb)
          go_roundw
          case rel =>
            refine ⟨i + 1, fo9, fn9, fc9, HLT.out, by go_num, ?_⟩
            rw [HN.out]
            refine Lib.hid ⟨?_, ?_, HOAb.out, ?_, HZb.out, HBb.out, HSb.out⟩
            · rw [HDS.out]; exact HXb.out
            · rw [HDS.out]
              have e1 : (c.free ++ [(y : Int)]).length = c.free.length + 1 := by simp
              have e2 : cells8 (c.free ++ [(y : Int)]) = cells8 c.free ++ [.int .u8 (y : Int)] := by simp [cells8]
              show World.ownsRow _ _ _ _ _ (c.free ++ [(y : Int)]).length (cells8 (c.free ++ [(y : Int)]))
              rw [e1, e2]
              exact HOFb.out
            · have e1 : (U ++ [x]).length = U.length + 1 := by simp
              have e2 : cellsU (U ++ [x]) = cellsU U ++ [.int .u32 x] := by simp [cellsU]
              show World.ownsRow _ _ _ _ _ (U ++ [x]).length (cellsU (U ++ [x]))
              rw [e1, e2]
              exact HOUb.out
          case measure => simp [intOf]; have := HLT.out; omega
    · obtain rfl : i = l.length := by omega
      have d1 : decide ((l.length : Int) < (l.length : Int)) = false := by simp
      have hok : okB (relN M b l l.length).1.sl := fun z hz => by
        obtain ⟨j, hj, rfl⟩ := List.getElem_of_mem hz
        have := v5 j
        rw [List.getD_eq_getElem?_getD, List.getElem?_eq_getElem hj] at this
        simp only [Option.getD_some] at this
        omega
      have HTI := Lib.hid (tidied_any (relN M b l l.length).1 (.slice fo fn fc) (.slice ao an ac) wr (by rw [v3]; exact RowA.sees hoa) v4 hok (by rw [v3]; exact v5) (by rw [v3]; exact hal) rfl)
      have hlT : (tidS (relN M b l l.length).1).sl.length = 64 := by show (List.map _ _).length = 64; rw [List.length_map]; exact v4
      have HX := Lib.hid hx
      have HOF := Lib.hid hof
      have HOU := Lib.hid hou
      have HZ := Lib.hid hz
      have HB := Lib.hid hb
      have HS := Lib.hid hs
      clear hx hof hoa hou hz hb hs hlt HI hok v1 v2 v3 v5 v6 v7
      go_wp2_with (refine wpLdB rfl _ rfl rfl HX.out v4 ?_)
      refine HTI.out.mono ?_; rintro e w5 ⟨av5, rfl, hoa5, hb5⟩
      have HZ5 := Lib.hid (HZ.out.below hb5)
      have HOF5 := Lib.hid (own_keep HOF.out hb5)
      have HOU5 := Lib.hid (own_keep HOU.out hb5)
      have HOA5 := Lib.hid hoa5
      have HB5 := Lib.hid (HB.out.trans (hb5.mono HB.out.size))
      obtain ⟨a5, m5, d5, rfl⟩ := own_form hoa5
      clear hoa5 hb5
      go_wp2_with (refine wpStB rfl _ _ rfl rfl rfl HZ5.out zB_len hlT rfl rfl ?_; intro w7 hx7 hg7)
      refine bodyPost_ret (resB3 Tryz.results55 rfl (loadVarB hx7 hlT)) rfl ⟨_, _, _, rfl, ⟨?_, ?_, HB5.out.grown hg7 HB5.out.size (fun k hk => by cases hk; omega)⟩, ?_⟩
      · exact own_le (own_grown HOF5.out hg7 (by omega)) (by omega)
      · exact own_le (own_grown HOA5.out hg7 (by have := HS.out; omega)) (by have := HS.out; omega)
      · exact own_le (own_grown HOU5.out hg7 (by omega)) (by omega)
set_option maxRecDepth 100000 in
set_option maxHeartbeats 16000000 in
theorem release_anyN (g0 : Nat) (b : BlkS) (fv av lv : Value) (l : List Int) (w : World) (hf : Sees w fv b.free) (ha : SeesA w av b.attrs) (hw : BWf b) (M : PA → Bool) (hls : SeesU w lv l) (hlx : ∀ x ∈ l, 0 ≤ x ∧ x < 4294967296) (hll : l.length ≤ maxLen) (hr : rightB b = true) (hM : ∀ (p : PA) (W : World), Below w.heap.size w W → Calls Tryz.prog 61 #[atV p, .pointer (some ⟨g0, 0, none⟩)] W fun e w' => e = .returned (.bool (M p)) ∧ Below W.heap.size W w') :
    Calls Tryz.prog 55 #[.agg (blkL b fv av).toArray, lv, .func (.func 61) #[] #[.pointer (some ⟨g0, 0, none⟩)]] w fun e w' => ∃ fv' av' tv, e = .returned (.tuple #[.agg (blkL (tidS (relN M b l l.length).1) fv' av').toArray, tv, .int .i64 0]) ∧ BlkRet w w' (tidS (relN M b l l.length).1) fv' av' ∧ OwnsU w' w.heap.size tv (relN M b l l.length).2 := by
  obtain ⟨W, hW⟩ : ∃ W, W = (w.alloc (blkO b fv av)).alloc (blkO zB NS NS) := ⟨_, rfl⟩
  obtain ⟨hb0, hA, hR, hsz⟩ := two_newB w (blkO b fv av) (blkO zB NS NS)
  rw [← hW] at hb0 hA hR hsz
  have HXc : Hid (BlkAt W w.heap.size b fv av) := Lib.hid hA
  have HZc : Hid (BlkAt W (w.heap.size + 1) zB NS NS) := Lib.hid hR
  have HBc := Lib.hid hb0
  have HSZ := Lib.hid hsz
  have HW := Lib.hid hW
  have HRB := Lib.hid (rightBlk_any (blkL b fv av).toArray b W ⟨fv, av, rfl, hf.keep hb0, ha.below hb0, hw⟩)
  have hl := hw.2.1
  obtain ⟨h64, _, hal, hsl⟩ := right_bd hw hr
  obtain ⟨hfo, _, hfl⟩ := right_free hr
  have HINV := Lib.hid (relN_inv M b l hl hsl)
  have hnz : nzN b.sl ≤ 64 := by have := nzN_le b.sl; omega
  have HCO := Lib.hid (fun w1 (hb : Below W.heap.size W w1) => copied_any b fv av w1 ((hf.keep hb0).keep hb) ((ha.below hb0).below hb) hl (by omega) (by omega))
  rw [hr] at HRB
  have HAD := Lib.hid hw.1
  have HLS := Lib.hid hls
  have HLX := Lib.hid hlx
  have HM := Lib.hid hM
  have HFL := Lib.hid hfl
  have hll2 : l.length ≤ 9223372036854775807 := by unfold maxLen at hll; omega
  obtain ⟨lo, lc, rfl, -⟩ := id hls
  clear hW hb0 hA hR hsz hf ha hw hr h64 hfo hls hlx hM hfl hll
  go_enter Tryz.func55, Tryz.ntmps55
  go_upto_region 1 with fail
  change Code.wp _ _ _ _ ((w.alloc (blkO b fv av)).alloc (blkO zB NS NS))
  rw [← HW.out]
  clear HW
  go_wp2_with (refine wpLdB rfl _ rfl rfl HXc.out hl ?_)
  refine HRB.out.mono ?_; rintro e w1 ⟨rfl, hb1⟩
  have HB1 := Lib.hid hb1
  have HX1 := Lib.hid (HXc.out.below hb1)
  clear hb1
  go_wp2_with (refine wpLdB rfl _ rfl rfl HX1.out hl ?_)
  refine (HCO.out _ HB1.out).mono ?_; rintro e w3 ⟨fv3, av3, rfl, hof, hoa, hb3⟩
  have HB3 := Lib.hid (HBc.out.trans ((bel HB1.out hb3).mono HBc.out.size))
  have HX3 := Lib.hid (HX1.out.below hb3)
  have HZ3 := Lib.hid (HZc.out.below (bel HB1.out hb3))
  have HS1 : Hid (w.heap.size + 2 ≤ w1.heap.size) := Lib.hid (by have := HSZ.out; have := HB1.out.size; omega)
  have HOF3 := Lib.hid (own_le hof HS1.out)
  have HOA3 := Lib.hid (own_le hoa HS1.out)
  have HS3 := Lib.hid (Nat.le_trans HS1.out hb3.size)
  obtain ⟨fo0, fn0, fc0, rfl⟩ := own_form hof
  obtain ⟨ao, an, ac, rfl⟩ := own_form hoa
  clear hof hoa hb3
  go_upto_region 4 with (refine wpStB rfl _ _ rfl rfl rfl HX3.out hl hl rfl rfl ?_; intro w4 hx4 hg4; have HX4 := Lib.hid hx4; have HG4 := Lib.hid hg4; clear hx4 hg4)
  have HZ4 := Lib.hid (show BlkAt w4 (w.heap.size + 1) zB NS NS from (HG4.out.block _ (heap_lt HZ3.out) (fun e => by have := Option.some.inj e; omega)).trans HZ3.out)
  have HOF4 := Lib.hid (own_grown HOF3.out HG4.out (by omega))
  have HOA4 := Lib.hid (own_grown HOA3.out HG4.out (by omega))
  have HB4 := Lib.hid (HB3.out.grown HG4.out HB3.out.size (fun k hk => by cases hk; exact Nat.le_refl _))
  have HS4 := Lib.hid (Nat.le_trans HS3.out HG4.out.size)
  clear HX1 HX3 HZ3 HOF3 HOA3 HB3 HS3 HG4 HS1 HB1
  go_wp2_with fail
  go_loopw [9, 24] (fun t j wr => ∃ (i : Nat) (fo : Option Addr) (fn fc : Nat), i ≤ l.length ∧ j = .int .i64 i ∧ Hid (BlkAt wr w.heap.size (relN M b l i).1 (.slice fo fn fc) (.slice ao an ac) ∧ Owns wr (w.heap.size + 2) (.slice fo fn fc) (relN M b l i).1.free ∧ RowA EAt wr (w.heap.size + 2) (.slice ao an ac) b.attrs ∧ OwnsU wr (w.heap.size + 2) t (relN M b l i).2 ∧ BlkAt wr (w.heap.size + 1) zB NS NS ∧ Below w.heap.size w wr ∧ w.heap.size + 2 ≤ (wr).heap.size)) (fun _ j _ => l.length - (intOf j).toNat)
  case atStart => exact ⟨0, fo0, fn0, fc0, Nat.zero_le _, rfl, Lib.hid ⟨HX4.out, HOF4.out, HOA4.out, OwnsU.nil _ _, HZ4.out, HB4.out, HS4.out⟩⟩
  case round =>
    clear HX4 HOF4 HOA4 HZ4 HB4 HS4
    obtain ⟨i, fo, fn, fc, hi, rfl, HI⟩ := hrel
    obtain ⟨hx, hof, hoa, hou, hz, hb, hs⟩ := HI.out
    obtain ⟨v1, v2, v3, v4, v5, v6, v7⟩ := HINV.out i
    by_cases hlt : i < l.length
    · obtain ⟨lo', lc', e0, -, hln, hlc⟩ := HLS.out.keep hb
      obtain ⟨rfl, rfl⟩ : lo = lo' ∧ lc = lc' := by cases e0; exact ⟨rfl, rfl⟩
      obtain ⟨la, rfl⟩ : ∃ la, lo = some la := by
        cases lo with
        | none => rw [hln rfl] at hlt; simp at hlt
        | some la => exact ⟨la, rfl⟩
      have q0 := hlc la rfl i hlt
      have hm := HLX.out (l.getD i 0) (by
        rw [List.getD_eq_getElem?_getD, List.getElem?_eq_getElem hlt]
        exact List.getElem_mem hlt)
      have HSU : Hid (relN M b l (i + 1) = if hitR M (relN M b l i).1 (l.getD i 0) = true then (drpS (relN M b l i).1 (l.getD i 0), (relN M b l i).2 ++ [l.getD i 0]) else relN M b l i) := Lib.hid rfl
      obtain ⟨x, hx0⟩ : ∃ x, x = l.getD i 0 := ⟨_, rfl⟩
      rw [← hx0] at q0 hm HSU
      obtain ⟨s', hs'⟩ : ∃ s', s' = relN M b l (i + 1) := ⟨_, rfl⟩
      rw [← hs'] at HSU
      obtain ⟨c, hc⟩ : ∃ c, c = (relN M b l i).1 := ⟨_, rfl⟩
      obtain ⟨U, hU⟩ : ∃ U, U = (relN M b l i).2 := ⟨_, rfl⟩
      have HPR : Hid (relN M b l i = (c, U)) := Lib.hid (by rw [hc, hU])
      rw [← hc] at hx hof v1 v2 v3 v4 v5 v6 v7
      rw [← hU] at hou v6 v7
      rw [← hc, ← hU] at HSU
      have HS' := Lib.hid hs'
      have HUN := Lib.hid (fun W1 (hb1 : Below wr.heap.size wr W1) => under_any c (.slice fo fn fc) (.slice ao an ac) x W1 (by rw [v3]; exact RowA.sees (row_keepA hoa hb1)) v4 (by rw [v1]; exact HAD.out) hm.1 hm.2 (by rw [v3]; exact v5) (by rw [v3]; exact hal))
      have HSO := Lib.hid (fun W => slotOf_any c (.slice fo fn fc) (.slice ao an ac) (by rw [v1]; exact HAD.out) x hm.1 hm.2 W)
      have HUI := Lib.hid (fun h => und_in (b := c) (x := x) h)
      have HHT : Hid (hitR M c x = ((undP c x).2 && M (undP c x).1)) := Lib.hid rfl
      have HUX : Hid (∀ h : (undP c x).2 = true, ∃ y : Nat, y < 64 ∧ x - c.addr = (y : Int) ∧ inB c.addr x = true) := Lib.hid (fun h => by
        have hi := (und_in h).1
        have hi' : x - x % 64 = c.addr := by unfold inB at hi; simpa using hi
        exact ⟨(x - c.addr).toNat, by omega, by omega, hi⟩)
      have hfl2 : c.free.length ≤ 1000001 := by have := HFL.out; omega
      have hul2 : U.length ≤ 1000001 := by omega
      have HX := Lib.hid hx
      have HOF := Lib.hid hof
      have HOA := Lib.hid hoa
      have HOU := Lib.hid hou
      have HZ := Lib.hid hz
      have HB := Lib.hid hb
      have HS := Lib.hid hs
      have HLT := Lib.hid hlt
      have b0 : (0 : Int) ≤ (i : Int) := by omega
      have b1 : (i : Int) < (l.length : Int) := by omega
      have d1 : decide ((i : Int) < (l.length : Int)) = true := by simp; omega
      obtain ⟨p, hp⟩ : ∃ p, p = undP c x := ⟨_, rfl⟩
      rw [← hp] at HUN HHT HUX
      clear HUI
      obtain ⟨⟨p1, p2⟩, q⟩ := p
      clear hx hof hoa hou hz hb hs hlt HI hlc hln e0 hm hx0 hs' hc hU v1 v2 v3 v5 v6 v7 hp
      go_wp2_with (refine wpLdB rfl _ rfl rfl HX.out v4 ?_)
      refine (HUN.out _ (Below.refl _ _)).mono ?_; rintro e w5 ⟨rfl, hb5⟩
      have HX5 := Lib.hid (HX.out.below hb5)
      have HOF5 := Lib.hid (own_keep HOF.out hb5)
      have HOA5 := Lib.hid (row_keepA HOA.out hb5)
      have HOU5 := Lib.hid (own_keep HOU.out hb5)
      have HZ5 := Lib.hid (HZ.out.below hb5)
      have HB5 := Lib.hid (HB.out.trans (hb5.mono HB.out.size))
      have HS5 := Lib.hid (Nat.le_trans HS.out hb5.size)
      clear hb5 q0 HX HOF HOA HOU HZ HB HS
      go_upto_region 9 with fail
      obtain ⟨wx, hwx⟩ : ∃ wx, wx = w5.alloc (atO (p1, p2)) := ⟨_, rfl⟩
      have hx1 : wx.heap[w5.heap.size]? = some (atO (p1, p2)) := by rw [hwx]; exact heap_alloc_new w5 _
      have hbx : Below w5.heap.size w5 wx := by rw [hwx]; exact belNew w5 _
      change Code.wp _ _ _ _ (w5.alloc (atO (p1, p2)))
      rw [← hwx]
      obtain ⟨x0, x1⟩ := cells2 hx1
      have HX := Lib.hid (HX5.out.below hbx)
      have HOF := Lib.hid (own_keep HOF5.out hbx)
      have HOA := Lib.hid (row_keepA HOA5.out hbx)
      have HOU := Lib.hid (own_keep HOU5.out hbx)
      have HZ := Lib.hid (HZ5.out.below hbx)
      have HB := Lib.hid (HB5.out.trans (hbx.mono HB5.out.size))
      have HS := Lib.hid (Nat.le_trans HS5.out hbx.size)
      clear hwx hx1 hbx HX5 HOF5 HOA5 HOU5 HZ5 HB5 HS5
      cases q with
      | false =>
        have HN : Hid (relN M b l (i + 1) = (c, U)) := Lib.hid (by rw [← HS'.out, HSU.out, HHT.out, if_neg (by simp), HPR.out])
        go_wp2_with fail
        go_roundw
        case rel =>
          refine ⟨i + 1, fo, fn, fc, HLT.out, by go_num, ?_⟩
          rw [HN.out]
          exact Lib.hid ⟨HX.out, HOF.out, HOA.out, HOU.out, HZ.out, HB.out, HS.out⟩
        case measure => simp [intOf]; have := HLT.out; omega
      | true =>
        have HMC := Lib.hid (HM.out (p1, p2) wx HB.out)
        cases hq : M (p1, p2) with
        | false =>
          rw [hq] at HMC
          have HN : Hid (relN M b l (i + 1) = (c, U)) := Lib.hid (by rw [← HS'.out, HSU.out, HHT.out, hq, if_neg (by simp), HPR.out])
          clear hq
          go_wp2_with fail
          refine HMC.out.mono ?_; rintro e w6 ⟨rfl, hb6⟩
          have HX := Lib.hid (HX.out.below hb6)
          have HOF := Lib.hid (own_keep HOF.out hb6)
          have HOA := Lib.hid (row_keepA HOA.out hb6)
          have HOU := Lib.hid (own_keep HOU.out hb6)
          have HZ := Lib.hid (HZ.out.below hb6)
          have HB := Lib.hid (HB.out.trans (hb6.mono HB.out.size))
          have HS := Lib.hid (Nat.le_trans HS.out hb6.size)
          clear hb6
          go_wp2_with fail
          go_roundw
          case rel =>
            refine ⟨i + 1, fo, fn, fc, HLT.out, by go_num, ?_⟩
            rw [HN.out]
            exact Lib.hid ⟨HX.out, HOF.out, HOA.out, HOU.out, HZ.out, HB.out, HS.out⟩
          case measure => simp [intOf]; have := HLT.out; omega
        | true =>
          rw [hq] at HMC
          obtain ⟨y, hy, hyx, hin⟩ := HUX.out rfl
          have HN : Hid (relN M b l (i + 1) = (drpS c x, U ++ [x])) := Lib.hid (by rw [← HS'.out, HSU.out, HHT.out, hq, if_pos (by simp)])
          have HDS : Hid (drpS c x = { c with sl := c.sl.set y 0, free := c.free ++ [(y : Int)] }) := Lib.hid (by unfold drpS; rw [hyx, Int.toNat_natCast])
          rw [hin, if_pos rfl, hyx] at HSO
          have y0 : (0 : Int) ≤ (y : Int) := by omega
          have y1 : (y : Int) < 64 := by omega
          have hw8 : IntKind.u8.wrap (y : Int) = y := by rw [IntKind.wrap_u8]; omega
          have HY : Hid (y < c.sl.length) := Lib.hid (by omega)
          have HYG := Lib.hid (get64 v4 hy)
          have hlD : ({ c with sl := c.sl.set y 0 } : BlkS).sl.length = 64 := by show (List.set _ _ _).length = 64; rw [List.length_set]; exact v4
          generalize drpS c x = D at *
          clear hq hyx hin hy
          go_wp2_with fail
          refine HMC.out.mono ?_; rintro e w6 ⟨rfl, hb6⟩
          have HX := Lib.hid (HX.out.below hb6)
          have HOF := Lib.hid (own_keep HOF.out hb6)
          have HOA := Lib.hid (row_keepA HOA.out hb6)
          have HOU := Lib.hid (own_keep HOU.out hb6)
          have HZ := Lib.hid (HZ.out.below hb6)
          have HB := Lib.hid (HB.out.trans (hb6.mono HB.out.size))
          have HS := Lib.hid (Nat.le_trans HS.out hb6.size)
          clear hb6
          go_wp2_with (refine wpLdB rfl _ rfl rfl HX.out v4 ?_)
          refine (HSO.out _).mono ?_; rintro e w7 ⟨rfl, hb7⟩
          have HX7 := Lib.hid (HX.out.below hb7)
          have HOF7 := Lib.hid (own_keep HOF.out hb7)
          have HOA7 := Lib.hid (row_keepA HOA.out hb7)
          have HOU7 := Lib.hid (own_keep HOU.out hb7)
          have HZ7 := Lib.hid (HZ.out.below hb7)
          have HB7 := Lib.hid (HB.out.trans (hb7.mono HB.out.size))
          have HS7 := Lib.hid (Nat.le_trans HS.out hb7.size)
          have k1 := HX7.out.slot HYG.out
          have k2 := HX7.out.froz (y + 2)
          rw [Nat.add_comm] at k1 k2
          clear hb7 x0 x1
          go_upto_region 12 with fail
          obtain ⟨w8, hw8'⟩ : ∃ w8, w8 = w7.setCell ⟨w.heap.size, 2 + y, none⟩ (.int .u8 0) := ⟨_, rfl⟩
          have HX8 : Hid (BlkAt w8 w.heap.size { c with sl := c.sl.set y 0 } (.slice fo fn fc) (.slice ao an ac)) := Lib.hid (by rw [hw8', Nat.add_comm 2 y]; exact HX7.out.setSlot y HY.out 0)
          have HOF8 : Hid (w8.ownsRow (w.heap.size + 2) 5 1 (.slice fo fn fc) c.free.length (cells8 c.free)) := Lib.hid (by rw [hw8']; exact own_set HOF7.out (a := ⟨w.heap.size, 2 + y, none⟩) (by show w.heap.size < w.heap.size + 2; omega) _)
          have HOA8 : Hid (RowA EAt w8 (w.heap.size + 2) (.slice ao an ac) b.attrs) := Lib.hid (by rw [hw8']; exact own_set HOA7.out (a := ⟨w.heap.size, 2 + y, none⟩) (by show w.heap.size < w.heap.size + 2; omega) _)
          obtain ⟨tv, htv⟩ : ∃ tv, w7.ownsRow (w.heap.size + 2) 22 1 tv U.length (cellsU U) := ⟨_, HOU7.out⟩
          have HOU8 := Lib.hid (show w8.ownsRow (w.heap.size + 2) 22 1 _ U.length (cellsU U) by rw [hw8']; exact own_set HOU7.out (a := ⟨w.heap.size, 2 + y, none⟩) (by show w.heap.size < w.heap.size + 2; omega) _)
          have HZ8 : Hid (BlkAt w8 (w.heap.size + 1) zB NS NS) := Lib.hid (by rw [hw8']; exact blk_setO HZ7.out (a := ⟨w.heap.size, 2 + y, none⟩) (by show w.heap.size + 1 ≠ w.heap.size; omega) _)
          have HB8 : Hid (Below w.heap.size w w8) := Lib.hid (by rw [hw8']; exact HB7.out.setCell (p := ⟨w.heap.size, 2 + y, none⟩) (Nat.le_refl _) _)
          have HS8 : Hid (w.heap.size + 2 ≤ w8.heap.size) := Lib.hid (by rw [hw8']; exact size_set HS7.out _ _)
          have c66 := HX8.out.free hlD
          have HNA := Lib.hid (own_ne HOA8.out HOF8.out (by decide))
          have HNU := Lib.hid (own_ne HOU8.out HOF8.out (by decide))
          rw [← hw8']
          clear hw8' k1 k2 htv tv
          go_upto_region 13 with (at_builtin; refine wpList_push1 (w0 := w8) Tryz.underlying25 info8 rfl (by decide) rfl (.tmp 52) (.tmp 55) rfl (w.heap.size + 2) _ c.free.length (cells8 c.free) (.int .u8 (y : Int)) w8.heap.size rfl rfl rfl HOF8.out hfl2 HS8.out rfl ?_; intro v9 w9 ho9 hb9 hg9; have HO9 := Lib.hid ho9; have HX9 := Lib.hid (HX8.out.keepB hb9 (by omega)); have HZ9 := Lib.hid (HZ8.out.keepB hb9 (by omega)); have HB9 := Lib.hid (HB8.out.trans (hb9.mono (by omega))); have HOA9 := Lib.hid (own_grownO HOA8.out hg9 (fun k hk => HNA.out k hk)); have HOU9 := Lib.hid (own_grownO HOU8.out hg9 (fun k hk => HNU.out k hk)); have HS9 := Lib.hid (Nat.le_trans HS8.out hb9.size); obtain ⟨fo9, fn9, fc9, rfl⟩ := own_form ho9; have k1 := HX9.out.free hlD; have k2 := HX9.out.froz 66; clear ho9 hb9 hg9)
          obtain ⟨wa, hwa⟩ : ∃ wa, wa = w9.setCell ⟨w.heap.size, 66, none⟩ (.slice fo9 fn9 fc9) := ⟨_, rfl⟩
          have HXa : Hid (BlkAt wa w.heap.size { c with sl := c.sl.set y 0 } (.slice fo9 fn9 fc9) (.slice ao an ac)) := Lib.hid (by rw [hwa]; exact HX9.out.setFree hlD _)
          have HOFa : Hid (wa.ownsRow (w.heap.size + 2) 5 1 (.slice fo9 fn9 fc9) (c.free.length + 1) (cells8 c.free ++ [.int .u8 (y : Int)])) := Lib.hid (by rw [hwa]; exact own_set HO9.out (a := ⟨w.heap.size, 66, none⟩) (by show w.heap.size < w.heap.size + 2; omega) _)
          have HOAa : Hid (RowA EAt wa (w.heap.size + 2) (.slice ao an ac) b.attrs) := Lib.hid (by rw [hwa]; exact own_set HOA9.out (a := ⟨w.heap.size, 66, none⟩) (by show w.heap.size < w.heap.size + 2; omega) _)
          have HOUa := Lib.hid (show wa.ownsRow (w.heap.size + 2) 22 1 _ U.length (cellsU U) by rw [hwa]; exact own_set HOU9.out (a := ⟨w.heap.size, 66, none⟩) (by show w.heap.size < w.heap.size + 2; omega) _)
          have HZa : Hid (BlkAt wa (w.heap.size + 1) zB NS NS) := Lib.hid (by rw [hwa]; exact blk_setO HZ9.out (a := ⟨w.heap.size, 66, none⟩) (by show w.heap.size + 1 ≠ w.heap.size; omega) _)
          have HBa : Hid (Below w.heap.size w wa) := Lib.hid (by rw [hwa]; exact HB9.out.setCell (p := ⟨w.heap.size, 66, none⟩) (Nat.le_refl _) _)
          have HSa : Hid (w.heap.size + 2 ≤ wa.heap.size) := Lib.hid (by rw [hwa]; exact size_set HS9.out _ _)
          have HNF2 := Lib.hid (own_ne HOFa.out HOUa.out (by decide))
          have HNA2 := Lib.hid (own_ne HOAa.out HOUa.out (by decide))
          rw [← hwa]
          clear hwa k1 k2 c66
          go_wp2_with (at_builtin; refine wpList_push1 (w0 := wa) Tryz.underlying39 infoU rfl (by decide) rfl (.tmp 58) (.tmp 60) rfl (w.heap.size + 2) _ U.length (cellsU U) (.int .u32 x) wa.heap.size rfl rfl rfl HOUa.out hul2 HSa.out rfl ?_; intro vb wb hob hbb hgb; have HOUb := Lib.hid hob; have HXb := Lib.hid (HXa.out.keepB hbb (by omega)); have HZb := Lib.hid (HZa.out.keepB hbb (by omega)); have HBb := Lib.hid (HBa.out.trans (hbb.mono (by omega))); have HOFb := Lib.hid (own_grownO HOFa.out hgb (fun k hk => HNF2.out k hk)); have HOAb := Lib.hid (own_grownO HOAa.out hgb (fun k hk => HNA2.out k hk)); have HSb := Lib.hid (Nat.le_trans HSa.out hbb.size); clear hob hbb hgb)
          go_roundw
          case rel =>
            refine ⟨i + 1, fo9, fn9, fc9, HLT.out, by go_num, ?_⟩
            rw [HN.out]
            refine Lib.hid ⟨?_, ?_, HOAb.out, ?_, HZb.out, HBb.out, HSb.out⟩
            · rw [HDS.out]; exact HXb.out
            · rw [HDS.out]
              have e1 : (c.free ++ [(y : Int)]).length = c.free.length + 1 := by simp
              have e2 : cells8 (c.free ++ [(y : Int)]) = cells8 c.free ++ [.int .u8 (y : Int)] := by simp [cells8]
              show World.ownsRow _ _ _ _ _ (c.free ++ [(y : Int)]).length (cells8 (c.free ++ [(y : Int)]))
              rw [e1, e2]
              exact HOFb.out
            · have e1 : (U ++ [x]).length = U.length + 1 := by simp
              have e2 : cellsU (U ++ [x]) = cellsU U ++ [.int .u32 x] := by simp [cellsU]
              show World.ownsRow _ _ _ _ _ (U ++ [x]).length (cellsU (U ++ [x]))
              rw [e1, e2]
              exact HOUb.out
          case measure => simp [intOf]; have := HLT.out; omega
    · obtain rfl : i = l.length := by omega
      have d1 : decide ((l.length : Int) < (l.length : Int)) = false := by simp
      have hok : okB (relN M b l l.length).1.sl := fun z hz => by
        obtain ⟨j, hj, rfl⟩ := List.getElem_of_mem hz
        have := v5 j
        rw [List.getD_eq_getElem?_getD, List.getElem?_eq_getElem hj] at this
        simp only [Option.getD_some] at this
        omega
      have HTI := Lib.hid (tidied_any (relN M b l l.length).1 (.slice fo fn fc) (.slice ao an ac) wr (by rw [v3]; exact RowA.sees hoa) v4 hok (by rw [v3]; exact v5) (by rw [v3]; exact hal) rfl)
      have hlT : (tidS (relN M b l l.length).1).sl.length = 64 := by show (List.map _ _).length = 64; rw [List.length_map]; exact v4
      have HX := Lib.hid hx
      have HOF := Lib.hid hof
      have HOU := Lib.hid hou
      have HZ := Lib.hid hz
      have HB := Lib.hid hb
      have HS := Lib.hid hs
      clear hx hof hoa hou hz hb hs hlt HI hok v1 v2 v3 v5 v6 v7
      go_wp2_with (refine wpLdB rfl _ rfl rfl HX.out v4 ?_)
      refine HTI.out.mono ?_; rintro e w5 ⟨av5, rfl, hoa5, hb5⟩
      have HZ5 := Lib.hid (HZ.out.below hb5)
      have HOF5 := Lib.hid (own_keep HOF.out hb5)
      have HOU5 := Lib.hid (own_keep HOU.out hb5)
      have HOA5 := Lib.hid hoa5
      have HB5 := Lib.hid (HB.out.trans (hb5.mono HB.out.size))
      obtain ⟨a5, m5, d5, rfl⟩ := own_form hoa5
      clear hoa5 hb5
      go_wp2_with (refine wpStB rfl _ _ rfl rfl rfl HZ5.out zB_len hlT rfl rfl ?_; intro w7 hx7 hg7)
      refine bodyPost_ret (resB3 Tryz.results55 rfl (loadVarB hx7 hlT)) rfl ⟨_, _, _, rfl, ⟨?_, ?_, HB5.out.grown hg7 HB5.out.size (fun k hk => by cases hk; omega)⟩, ?_⟩
      · exact own_le (own_grown HOF5.out hg7 (by omega)) (by omega)
      · exact own_le (own_grown HOA5.out hg7 (by have := HS.out; omega)) (by have := HS.out; omega)
      · exact own_le (own_grown HOU5.out hg7 (by omega)) (by omega)
end Go.Proofs.YtgodmnpcedfdcaaGreat
