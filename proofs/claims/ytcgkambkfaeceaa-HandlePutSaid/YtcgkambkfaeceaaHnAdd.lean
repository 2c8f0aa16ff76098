/- Package handle: so many more, or fewer, in a block. -/
import Derived.Test.YtcgkambkfaeceaaHnSet
namespace Go.Proofs.Ytcgkambkfaeceaa
open Go.RowKit
set_option maxRecDepth 100000 in
set_option maxHeartbeats 8000000 in
theorem add_bad (v : Value) (L : CntL) (a n : Int) (w : World) (h : SeesC w v L) (hb : CntBd L) (hl : L.length ≤ 4000) (hno : rightH L = false ∨ mayC n = false) :
    Calls Try.prog 20 #[hnV v, .int .u32 a, .int .i64 n] w fun e w' => e = .returned (.tuple #[hnV (.slice none 0 0), .int .i64 1]) ∧ Below w.heap.size w w' := by
  obtain ⟨W, hW⟩ : ∃ W, W = (w.alloc (hnO v)).alloc (hnO (.slice none 0 0)) := ⟨_, rfl⟩
  obtain ⟨hb0, hA, hR, hsz⟩ := two_new w (hnO v) (hnO (.slice none 0 0))
  rw [← hW] at hb0 hA hR hsz
  have c0 := hcell hA
  have hsW := h.below hb0
  have HR := Lib.hid (right_any v L W hsW hb (by omega))
  have HM := Lib.hid (fun w => mayCount_any n w)
  have HSW := Lib.hid (fun w1 (hb : Below W.heap.size W w1) => hsW.below hb)
  obtain ⟨ao, c, rfl, hlc, hnil, hc⟩ := hsW
  have HW := Lib.hid hW
  have HB0 := Lib.hid hb0
  have HRES := Lib.hid hR
  have HSZ := Lib.hid hsz
  clear HSW
  cases hr : rightH L with
  | false =>
    rw [hr] at HR
    clear hW hb0 hA hR hsz h hnil hc hr hno HM hb
    go_enter Try.func20, Try.ntmps20
    go_upto_region 1 with fail
    change Code.wp _ _ _ _ ((w.alloc (hnO (.slice ao L.length c))).alloc (hnO (.slice none 0 0)))
    rw [← HW.out]
    clear HW
    go_wp2_with fail
    refine (HR.out).mono ?_; rintro e w1 ⟨rfl, hb1⟩
    have c0 := bcell hb1 c0
    have HB1 := Lib.hid (hb1)
    clear hb1
    have hq := (HB1.out.block _ (by rw [HSZ.out]; omega)).trans HRES.out
    have r1 := hfroz hq
    have r2 := hcell hq
    have r0 : (w1.setCell ⟨w.heap.size + 1, 0, none⟩ (.slice none 0 0)).cell? ⟨w.heap.size + 1, 0, none⟩ = some (.slice none 0 0) := cell_of_one (one_setCell hq)
    clear hq
    go_wp2_with fail
    refine bodyPost_ret (v := .tuple #[hnV (.slice none 0 0), .int .i64 1]) ?_ rfl ⟨rfl, (HB0.out.trans (HB1.out.mono HB0.out.size)).setCell (by show w.heap.size ≤ w.heap.size + 1; omega) _⟩
    simp [results, Try.results20, go_sem, r0]
  | true =>
    have hm : mayC n = false := by
      rcases hno with e | e
      · rw [hr] at e; cases e
      · exact e
    rw [hr] at HR
    rw [hm] at HM
    clear hW hb0 hA hR hsz h hnil hc hr hno hb hm
    go_enter Try.func20, Try.ntmps20
    go_upto_region 1 with fail
    change Code.wp _ _ _ _ ((w.alloc (hnO (.slice ao L.length c))).alloc (hnO (.slice none 0 0)))
    rw [← HW.out]
    clear HW
    go_wp2_with fail
    refine (HR.out).mono ?_; rintro e w1 ⟨rfl, hb1⟩
    have c0 := bcell hb1 c0
    have HB1 := Lib.hid (hb1)
    clear hb1
    go_wp2_with fail
    refine (HM.out _).mono ?_; rintro e w2 ⟨rfl, rfl⟩
    have hq := (HB1.out.block _ (by rw [HSZ.out]; omega)).trans HRES.out
    have r1 := hfroz hq
    have r2 := hcell hq
    have r0 : (w1.setCell ⟨w.heap.size + 1, 0, none⟩ (.slice none 0 0)).cell? ⟨w.heap.size + 1, 0, none⟩ = some (.slice none 0 0) := cell_of_one (one_setCell hq)
    clear hq
    go_wp2_with fail
    refine bodyPost_ret (v := .tuple #[hnV (.slice none 0 0), .int .i64 1]) ?_ rfl ⟨rfl, (HB0.out.trans (HB1.out.mono HB0.out.size)).setCell (by show w.heap.size ≤ w.heap.size + 1; omega) _⟩
    simp [results, Try.results20, go_sem, r0]
set_option maxRecDepth 100000 in
set_option maxHeartbeats 8000000 in
theorem sub_bad (v : Value) (L : CntL) (a n : Int) (w : World) (h : SeesC w v L) (hb : CntBd L) (hl : L.length ≤ 4000) (hno : rightH L = false ∨ mayC n = false) :
    Calls Try.prog 21 #[hnV v, .int .u32 a, .int .i64 n] w fun e w' => e = .returned (.tuple #[hnV (.slice none 0 0), .int .i64 1]) ∧ Below w.heap.size w w' := by
  obtain ⟨W, hW⟩ : ∃ W, W = (w.alloc (hnO v)).alloc (hnO (.slice none 0 0)) := ⟨_, rfl⟩
  obtain ⟨hb0, hA, hR, hsz⟩ := two_new w (hnO v) (hnO (.slice none 0 0))
  rw [← hW] at hb0 hA hR hsz
  have c0 := hcell hA
  have hsW := h.below hb0
  have HR := Lib.hid (right_any v L W hsW hb (by omega))
  have HM := Lib.hid (fun w => mayCount_any n w)
  have HSW := Lib.hid (fun w1 (hb : Below W.heap.size W w1) => hsW.below hb)
  obtain ⟨ao, c, rfl, hlc, hnil, hc⟩ := hsW
  have HW := Lib.hid hW
  have HB0 := Lib.hid hb0
  have HRES := Lib.hid hR
  have HSZ := Lib.hid hsz
  clear HSW
  cases hr : rightH L with
  | false =>
    rw [hr] at HR
    clear hW hb0 hA hR hsz h hnil hc hr hno HM hb
    go_enter Try.func21, Try.ntmps21
    go_upto_region 1 with fail
    change Code.wp _ _ _ _ ((w.alloc (hnO (.slice ao L.length c))).alloc (hnO (.slice none 0 0)))
    rw [← HW.out]
    clear HW
    go_wp2_with fail
    refine (HR.out).mono ?_; rintro e w1 ⟨rfl, hb1⟩
    have c0 := bcell hb1 c0
    have HB1 := Lib.hid (hb1)
    clear hb1
    have hq := (HB1.out.block _ (by rw [HSZ.out]; omega)).trans HRES.out
    have r1 := hfroz hq
    have r2 := hcell hq
    have r0 : (w1.setCell ⟨w.heap.size + 1, 0, none⟩ (.slice none 0 0)).cell? ⟨w.heap.size + 1, 0, none⟩ = some (.slice none 0 0) := cell_of_one (one_setCell hq)
    clear hq
    go_wp2_with fail
    refine bodyPost_ret (v := .tuple #[hnV (.slice none 0 0), .int .i64 1]) ?_ rfl ⟨rfl, (HB0.out.trans (HB1.out.mono HB0.out.size)).setCell (by show w.heap.size ≤ w.heap.size + 1; omega) _⟩
    simp [results, Try.results21, go_sem, r0]
  | true =>
    have hm : mayC n = false := by
      rcases hno with e | e
      · rw [hr] at e; cases e
      · exact e
    rw [hr] at HR
    rw [hm] at HM
    clear hW hb0 hA hR hsz h hnil hc hr hno hb hm
    go_enter Try.func21, Try.ntmps21
    go_upto_region 1 with fail
    change Code.wp _ _ _ _ ((w.alloc (hnO (.slice ao L.length c))).alloc (hnO (.slice none 0 0)))
    rw [← HW.out]
    clear HW
    go_wp2_with fail
    refine (HR.out).mono ?_; rintro e w1 ⟨rfl, hb1⟩
    have c0 := bcell hb1 c0
    have HB1 := Lib.hid (hb1)
    clear hb1
    go_wp2_with fail
    refine (HM.out _).mono ?_; rintro e w2 ⟨rfl, rfl⟩
    have hq := (HB1.out.block _ (by rw [HSZ.out]; omega)).trans HRES.out
    have r1 := hfroz hq
    have r2 := hcell hq
    have r0 : (w1.setCell ⟨w.heap.size + 1, 0, none⟩ (.slice none 0 0)).cell? ⟨w.heap.size + 1, 0, none⟩ = some (.slice none 0 0) := cell_of_one (one_setCell hq)
    clear hq
    go_wp2_with fail
    refine bodyPost_ret (v := .tuple #[hnV (.slice none 0 0), .int .i64 1]) ?_ rfl ⟨rfl, (HB0.out.trans (HB1.out.mono HB0.out.size)).setCell (by show w.heap.size ≤ w.heap.size + 1; omega) _⟩
    simp [results, Try.results21, go_sem, r0]
set_option maxRecDepth 100000 in
set_option maxHeartbeats 8000000 in
theorem add_full (v : Value) (L : CntL) (a n : Int) (w : World) (h : SeesC w v L) (hb : CntBd L) (hl : L.length ≤ 4000) (ha : 0 ≤ a) (ha' : a < 4294967296) (hr : rightH L = true) (hm : mayC n = true) (hf : 65535 < ofH L (a - a % 64) + n) :
    Calls Try.prog 20 #[hnV v, .int .u32 a, .int .i64 n] w fun e w' => e = .returned (.tuple #[hnV (.slice none 0 0), .int .i64 9]) ∧ Below w.heap.size w w' := by
  have hs := ((right_iff L).1 hr).2
  have hbo := ofH_bd (b := a - a % 64) ((right_iff L).1 hr).1
  obtain ⟨W, hW⟩ : ∃ W, W = (w.alloc (hnO v)).alloc (hnO (.slice none 0 0)) := ⟨_, rfl⟩
  obtain ⟨hb0, hA, hR, hsz⟩ := two_new w (hnO v) (hnO (.slice none 0 0))
  rw [← hW] at hb0 hA hR hsz
  have c0 := hcell hA
  have hsW := h.below hb0
  have HR := Lib.hid (right_any v L W hsW hb (by omega))
  have HM := Lib.hid (fun w => mayCount_any n w)
  rw [hr] at HR
  rw [hm] at HM
  have hmn : 0 ≤ n ∧ n ≤ 65535 := by unfold mayC at hm; exact of_decide_eq_true hm
  have HOF := Lib.hid (fun w1 (hb : Below W.heap.size W w1) => of_any v L a w1 (hsW.below hb) hs (by omega) ha ha')
  have HSE := Lib.hid (fun m w1 (hb1 : Below W.heap.size W w1) (hm : mayC m = true) => set_any v L a m w1 (hsW.below hb1) hb hl ha ha' hr hm)
  have HSW := Lib.hid (fun w1 (hb : Below W.heap.size W w1) => hsW.below hb)
  obtain ⟨ao, c, rfl, hlc, hnil, hc⟩ := hsW
  have HW := Lib.hid hW
  have HB0 := Lib.hid hb0
  have HRES := Lib.hid hR
  have HSZ := Lib.hid hsz
  clear HSW hW hb0 hA hR hsz h hnil hc hr hb hs hm
  clear HSE
  generalize ofH L (a - a % 64) = F at *
  have HM2 : Hid (∀ w, Calls Try.prog 27 #[.int .i64 (F + n)] w fun e w' => e = .returned (.bool false) ∧ w = w') := Lib.hid (fun w => by
    have := mayCount_any (F + n) w
    rwa [show mayC (F + n) = false from by unfold mayC; simp; omega] at this)
  have hwr : IntKind.i64.wrap (F + n) = F + n := IntWalk.i64_in _ (by omega)
  go_enter Try.func20, Try.ntmps20
  go_upto_region 1 with fail
  change Code.wp _ _ _ _ ((w.alloc (hnO (.slice ao L.length c))).alloc (hnO (.slice none 0 0)))
  rw [← HW.out]
  clear HW
  go_wp2_with fail
  refine (HR.out).mono ?_; rintro e w1 ⟨rfl, hb1⟩
  have c0 := bcell hb1 c0
  have HB1 := Lib.hid (hb1)
  clear hb1
  go_wp2_with fail
  refine (HM.out _).mono ?_; rintro e wm ⟨rfl, rfl⟩
  go_wp2_with fail
  refine (HOF.out _ HB1.out).mono ?_; rintro e w2 ⟨rfl, hb2⟩
  have c0 := bcell hb2 c0
  have HB2 := Lib.hid (bel HB1.out hb2)
  clear hb2
  go_wp2_with fail
  refine (HM2.out _).mono ?_; rintro e wn ⟨rfl, rfl⟩
  have hq := (HB2.out.block _ (by rw [HSZ.out]; omega)).trans HRES.out
  have r1 := hfroz hq
  have r2 := hcell hq
  have r0 : (w2.setCell ⟨w.heap.size + 1, 0, none⟩ (.slice none 0 0)).cell? ⟨w.heap.size + 1, 0, none⟩ = some (.slice none 0 0) := cell_of_one (one_setCell hq)
  clear hq
  go_wp2_with fail
  refine bodyPost_ret (v := .tuple #[hnV (.slice none 0 0), .int .i64 9]) ?_ rfl ⟨rfl, (HB0.out.trans (HB2.out.mono HB0.out.size)).setCell (by show w.heap.size ≤ w.heap.size + 1; omega) _⟩
  simp [results, Try.results20, go_sem, r0]
set_option maxRecDepth 100000 in
set_option maxHeartbeats 8000000 in
theorem add_any (v : Value) (L : CntL) (a n : Int) (w : World) (h : SeesC w v L) (hb : CntBd L) (hl : L.length ≤ 4000) (ha : 0 ≤ a) (ha' : a < 4294967296) (hr : rightH L = true) (hm : mayC n = true) (hf : ofH L (a - a % 64) + n ≤ 65535) :
    Calls Try.prog 20 #[hnV v, .int .u32 a, .int .i64 n] w (SetOk L (a - a % 64) (ofH L (a - a % 64) + n) w) := by
  have hs := ((right_iff L).1 hr).2
  have hbo := ofH_bd (b := a - a % 64) ((right_iff L).1 hr).1
  obtain ⟨W, hW⟩ : ∃ W, W = (w.alloc (hnO v)).alloc (hnO (.slice none 0 0)) := ⟨_, rfl⟩
  obtain ⟨hb0, hA, hR, hsz⟩ := two_new w (hnO v) (hnO (.slice none 0 0))
  rw [← hW] at hb0 hA hR hsz
  have c0 := hcell hA
  have hsW := h.below hb0
  have HR := Lib.hid (right_any v L W hsW hb (by omega))
  have HM := Lib.hid (fun w => mayCount_any n w)
  rw [hr] at HR
  rw [hm] at HM
  have hmn : 0 ≤ n ∧ n ≤ 65535 := by unfold mayC at hm; exact of_decide_eq_true hm
  have HOF := Lib.hid (fun w1 (hb : Below W.heap.size W w1) => of_any v L a w1 (hsW.below hb) hs (by omega) ha ha')
  have HSE := Lib.hid (fun m w1 (hb1 : Below W.heap.size W w1) (hm : mayC m = true) => set_any v L a m w1 (hsW.below hb1) hb hl ha ha' hr hm)
  have HSW := Lib.hid (fun w1 (hb : Below W.heap.size W w1) => hsW.below hb)
  obtain ⟨ao, c, rfl, hlc, hnil, hc⟩ := hsW
  have HW := Lib.hid hW
  have HB0 := Lib.hid hb0
  have HRES := Lib.hid hR
  have HSZ := Lib.hid hsz
  clear HSW hW hb0 hA hR hsz h hnil hc hr hb hs hm
  generalize hF : ofH L (a - a % 64) = F at *
  have HFE := Lib.hid hF
  clear hF
  have hmf : mayC (F + n) = true := by unfold mayC; simp; omega
  have HM2 : Hid (∀ w, Calls Try.prog 27 #[.int .i64 (F + n)] w fun e w' => e = .returned (.bool true) ∧ w = w') := Lib.hid (fun w => by
    have := mayCount_any (F + n) w
    rwa [hmf] at this)
  have hwr : IntKind.i64.wrap (F + n) = F + n := IntWalk.i64_in _ (by omega)
  have HS3 := Lib.hid (fun w1 hb1 => HSE.out (F + n) w1 hb1 hmf)
  clear HSE hmf
  unfold SetOk
  go_enter Try.func20, Try.ntmps20
  go_upto_region 1 with fail
  change Code.wp _ _ _ _ ((w.alloc (hnO (.slice ao L.length c))).alloc (hnO (.slice none 0 0)))
  rw [← HW.out]
  clear HW
  go_wp2_with fail
  refine (HR.out).mono ?_; rintro e w1 ⟨rfl, hb1⟩
  have c0 := bcell hb1 c0
  have HB1 := Lib.hid (hb1)
  clear hb1
  go_wp2_with fail
  refine (HM.out _).mono ?_; rintro e wm ⟨rfl, rfl⟩
  go_wp2_with fail
  refine (HOF.out _ HB1.out).mono ?_; rintro e w2 ⟨rfl, hb2⟩
  have c0 := bcell hb2 c0
  have HB2 := Lib.hid (bel HB1.out hb2)
  clear hb2
  go_wp2_with fail
  refine (HM2.out _).mono ?_; rintro e wn ⟨rfl, rfl⟩
  go_wp2_with fail
  refine (HS3.out _ HB2.out).mono ?_; rintro e w3 ⟨v2, rfl, ho3, hb3⟩
  have HBS : Hid (W.heap.size ≤ w2.heap.size) := Lib.hid HB2.out.size
  have HO3 := Lib.hid ho3
  obtain ⟨ao2, n2, c2, rfl⟩ := sl_form ho3
  clear ho3
  have c0 := bcell hb3 c0
  have HB3 := Lib.hid (bel HB2.out hb3)
  clear hb3
  clear c0
  have hq := (HB3.out.block _ (by rw [HSZ.out]; omega)).trans HRES.out
  have r1 := hfroz hq
  have r2 := hcell hq
  have r0 : (w3.setCell ⟨w.heap.size + 1, 0, none⟩ (.slice ao2 n2 c2)).cell? ⟨w.heap.size + 1, 0, none⟩ = some (.slice ao2 n2 c2) := cell_of_one (one_setCell hq)
  have HEND : Hid (RowE EC (w3.setCell ⟨w.heap.size + 1, 0, none⟩ (.slice ao2 n2 c2)) w.heap.size (.slice ao2 n2 c2) (setH L (a - a % 64) (F + n)) ∧ Below w.heap.size w (w3.setCell ⟨w.heap.size + 1, 0, none⟩ (.slice ao2 n2 c2))) := Lib.hid (by
    have h0 := HB0.out.trans (HB3.out.mono HB0.out.size)
    refine ⟨?_, h0.setCell (by show w.heap.size ≤ w.heap.size + 1; omega) _⟩
    refine ownsRow_setCell_other (row_leE HO3.out (Nat.le_trans HB0.out.size HBS.out)) (fun e => ?_) _
    have := (row_lt HO3.out _ e).1
    have h2 := HBS.out
    rw [HSZ.out] at h2
    simp only [] at this
    omega)
  clear hq
  go_wp2_with fail
  refine bodyPost_ret (v := .tuple #[hnV (.slice ao2 n2 c2), .int .i64 0]) ?_ rfl ⟨_, rfl, HEND.out⟩
  simp [results, Try.results20, go_sem, r0]
theorem run_maxI (ty : TypeId) (w : World) (x : Int) : (Builtin.max_ #[3, 3] ty #[.int .i64 x, .int .i64 0]).run Try.prog w = .ok (.int .i64 (max x 0)) w := by
  by_cases h : x < 0
  · have e : max x 0 = 0 := by omega
    rw [e]
    simp [Builtin.max_, Builtin.max2, h]
  · have e : max x 0 = x := by omega
    rw [e]
    simp [Builtin.max_, Builtin.max2, h]
set_option maxRecDepth 100000 in
set_option maxHeartbeats 8000000 in
theorem sub_any (v : Value) (L : CntL) (a n : Int) (w : World) (h : SeesC w v L) (hb : CntBd L) (hl : L.length ≤ 4000) (ha : 0 ≤ a) (ha' : a < 4294967296) (hr : rightH L = true) (hm : mayC n = true) :
    Calls Try.prog 21 #[hnV v, .int .u32 a, .int .i64 n] w (SetOk L (a - a % 64) (max (ofH L (a - a % 64) - n) 0) w) := by
  have hs := ((right_iff L).1 hr).2
  have hbo := ofH_bd (b := a - a % 64) ((right_iff L).1 hr).1
  obtain ⟨W, hW⟩ : ∃ W, W = (w.alloc (hnO v)).alloc (hnO (.slice none 0 0)) := ⟨_, rfl⟩
  obtain ⟨hb0, hA, hR, hsz⟩ := two_new w (hnO v) (hnO (.slice none 0 0))
  rw [← hW] at hb0 hA hR hsz
  have c0 := hcell hA
  have hsW := h.below hb0
  have HR := Lib.hid (right_any v L W hsW hb (by omega))
  have HM := Lib.hid (fun w => mayCount_any n w)
  rw [hr] at HR
  rw [hm] at HM
  have hmn : 0 ≤ n ∧ n ≤ 65535 := by unfold mayC at hm; exact of_decide_eq_true hm
  have HOF := Lib.hid (fun w1 (hb : Below W.heap.size W w1) => of_any v L a w1 (hsW.below hb) hs (by omega) ha ha')
  have HSE := Lib.hid (fun m w1 (hb1 : Below W.heap.size W w1) (hm : mayC m = true) => set_any v L a m w1 (hsW.below hb1) hb hl ha ha' hr hm)
  have HSW := Lib.hid (fun w1 (hb : Below W.heap.size W w1) => hsW.below hb)
  obtain ⟨ao, c, rfl, hlc, hnil, hc⟩ := hsW
  have HW := Lib.hid hW
  have HB0 := Lib.hid hb0
  have HRES := Lib.hid hR
  have HSZ := Lib.hid hsz
  have HAA := Lib.hid hA
  clear HSW hW hb0 hA hR hsz h hnil hc hr hb hs hm
  generalize hF : ofH L (a - a % 64) = F at *
  have HFE := Lib.hid hF
  clear hF
  have hwr : IntKind.i64.wrap (F - n) = F - n := IntWalk.i64_in _ (by omega)
  obtain ⟨M, hM⟩ : ∃ M, M = max (F - n) 0 := ⟨_, rfl⟩
  have hmf : mayC M = true := by unfold mayC; simp; omega
  rw [← hM]
  have HMX := Lib.hid hM
  clear hM
  have hmax : ∀ ty w, (Builtin.max_ #[3, 3] ty #[.int .i64 (F - n), .int .i64 0]).run Try.prog w = .ok (.int .i64 M) w := fun ty w => by
    rw [HMX.out]
    exact run_maxI ty w (F - n)
  have HS3 := Lib.hid (fun w1 hb1 => HSE.out M w1 hb1 hmf)
  clear HSE hmf
  unfold SetOk
  go_enter Try.func21, Try.ntmps21
  go_upto_region 1 with fail
  change Code.wp _ _ _ _ ((w.alloc (hnO (.slice ao L.length c))).alloc (hnO (.slice none 0 0)))
  rw [← HW.out]
  clear HW
  go_wp2_with fail
  refine (HR.out).mono ?_; rintro e w1 ⟨rfl, hb1⟩
  have c0 := bcell hb1 c0
  have HB1 := Lib.hid (hb1)
  clear hb1
  go_wp2_with fail
  refine (HM.out _).mono ?_; rintro e wm ⟨rfl, rfl⟩
  go_upto_region 3 with fail
  have HB1d : Hid (Below W.heap.size W w1.drew) := Lib.hid (HB1.out.trans ⟨rfl, rfl, rfl, Nat.le_refl _, fun _ _ => rfl⟩)
  have HSD : Hid (∀ X, Below W.heap.size W X → Below w.heap.size w X ∧ X.heap[w.heap.size]? = some (hnO (.slice ao L.length c))) := Lib.hid (fun X hX => ⟨HB0.out.trans (hX.mono HB0.out.size), (hX.block _ (by rw [HSZ.out]; omega)).trans HAA.out⟩)
  refine wp_region_held_drew (S := (fun X => Below w.heap.size w X ∧ X.heap[w.heap.size]? = some (hnO (.slice ao L.length c)))) (by kernel_rfl) ?_ (fun r0 => ?_)
  · exact HSD.out _ HB1d.out
  refine wpAnyH_take (i := 0) (v := ?_) rfl (by kernel_rfl) (by kernel_rfl) (by kernel_rfl) (fun _ _ _ h => h) (Or.inl ⟨by rfl, ?_⟩) (by assumption) ?_
  rotate_left
  · intro wS hSw
    (try dsimp only at hSw)
    have c0 := hcell hSw.2
    go_simp
    first | done | with_reducible rfl
  try simp only [Act.put, List.getElem_toArray, List.getElem_cons_succ, List.getElem_cons_zero, List.setIfInBounds_toArray, List.set_cons_zero, List.set_cons_succ]
  refine wpAnyH_take (i := 1) (v := ?_) rfl (by kernel_rfl) (by kernel_rfl) (by kernel_rfl) (fun _ _ _ h => h) (Or.inl ⟨by rfl, ?_⟩) (by assumption) ?_
  rotate_left
  · intro wS hSw
    (try dsimp only at hSw)
    go_simp
    first | done | with_reducible rfl
  try simp only [Act.put, List.getElem_toArray, List.getElem_cons_succ, List.getElem_cons_zero, List.setIfInBounds_toArray, List.set_cons_zero, List.set_cons_succ]
  refine wpAnyH_take (i := 2) (v := ?_) rfl (by kernel_rfl) (by kernel_rfl) (by kernel_rfl) (fun _ _ _ h => h) (Or.inl ⟨by rfl, ?_⟩) (by assumption) ?_
  rotate_left
  · intro wS hSw
    (try dsimp only at hSw)
    have c0 := hcell hSw.2
    go_simp
    first | done | with_reducible rfl
  try simp only [Act.put, List.getElem_toArray, List.getElem_cons_succ, List.getElem_cons_zero, List.setIfInBounds_toArray, List.set_cons_zero, List.set_cons_succ]
  refine wpAnyH_take (i := 3) (v := ?_) rfl (by kernel_rfl) (by kernel_rfl) (by kernel_rfl) (fun _ _ _ h => h) (Or.inl ⟨by rfl, ?_⟩) (by assumption) ?_
  rotate_left
  · intro wS hSw
    (try dsimp only at hSw)
    go_simp
    first | done | with_reducible rfl
  try simp only [Act.put, List.getElem_toArray, List.getElem_cons_succ, List.getElem_cons_zero, List.setIfInBounds_toArray, List.set_cons_zero, List.set_cons_succ]
  refine wpAnyH_take (i := 5) (v := ?_) rfl (by kernel_rfl) (by kernel_rfl) (by kernel_rfl) (fun _ _ _ h => h) (Or.inl ⟨by rfl, ?_⟩) (by assumption) ?_
  rotate_left
  · intro wS hSw
    (try dsimp only at hSw)
    go_simp
    first | done | with_reducible rfl
  try simp only [Act.put, List.getElem_toArray, List.getElem_cons_succ, List.getElem_cons_zero, List.setIfInBounds_toArray, List.set_cons_zero, List.set_cons_succ]
  refine wpAnyH_ready (rs := [4]) (by kernel_rfl) (by simp) ?_
  refine AllReadyH.cons rfl (fun K hK => ?_) AllReadyH.nil
  go_simp
  refine (HOF.out _ HB1d.out).mono ?_; rintro x wo ⟨rfl, hbo1⟩
  refine hK.out _ _ ?_ (fun r1 => ?_)
  · exact HSD.out _ (bel HB1d.out hbo1)
  try simp only [Act.put, List.getElem_toArray, List.getElem_cons_succ, List.getElem_cons_zero, List.setIfInBounds_toArray, List.set_cons_zero, List.set_cons_succ]
  refine wpAnyH_take (i := 6) (v := ?_) rfl (by kernel_rfl) (by kernel_rfl) (by kernel_rfl) (fun _ _ _ h => h) (Or.inl ⟨by rfl, ?_⟩) (by assumption) ?_
  rotate_left
  · intro wS hSw
    (try dsimp only at hSw)
    go_simp
    first | done | with_reducible rfl
  try simp only [Act.put, List.getElem_toArray, List.getElem_cons_succ, List.getElem_cons_zero, List.setIfInBounds_toArray, List.set_cons_zero, List.set_cons_succ]
  refine wpAnyH_take (i := 7) (v := ?_) rfl (by kernel_rfl) (by kernel_rfl) (by kernel_rfl) (fun _ _ _ h => h) (Or.inl ⟨by rfl, ?_⟩) (by assumption) ?_
  rotate_left
  · intro wS hSw
    (try dsimp only at hSw)
    go_simp
    first | done | with_reducible rfl
  try simp only [Act.put, List.getElem_toArray, List.getElem_cons_succ, List.getElem_cons_zero, List.setIfInBounds_toArray, List.set_cons_zero, List.set_cons_succ]
  refine wpAnyH_ready (rs := [8]) (by kernel_rfl) (by simp) ?_
  refine AllReadyH.cons rfl (fun K hK => ?_) AllReadyH.nil
  go_simp
  refine (HS3.out _ (bel HB1d.out hbo1)).mono ?_; rintro x wt ⟨v2, rfl, ho3, hbt⟩
  have HB3 := Lib.hid (bel (bel HB1d.out hbo1) hbt)
  have HBS : Hid (W.heap.size ≤ wo.heap.size) := Lib.hid (bel HB1d.out hbo1).size
  have HO3 := Lib.hid ho3
  obtain ⟨ao2, n2, c2, rfl⟩ := sl_form ho3
  clear ho3
  refine hK.out _ _ ?_ (fun r2 => ?_)
  · exact HSD.out _ HB3.out
  try simp only [Act.put, List.getElem_toArray, List.getElem_cons_succ, List.getElem_cons_zero, List.setIfInBounds_toArray, List.set_cons_zero, List.set_cons_succ]
  refine wpAnyH_take (i := 9) (v := ?_) rfl (by kernel_rfl) (by kernel_rfl) (by kernel_rfl) (fun _ _ _ h => h) (Or.inl ⟨by rfl, ?_⟩) (by assumption) ?_
  rotate_left
  · intro wS hSw
    (try dsimp only at hSw)
    go_simp
    first | done | with_reducible rfl
  try simp only [Act.put, List.getElem_toArray, List.getElem_cons_succ, List.getElem_cons_zero, List.setIfInBounds_toArray, List.set_cons_zero, List.set_cons_succ]
  refine wpAnyH_take (i := 10) (v := ?_) rfl (by kernel_rfl) (by kernel_rfl) (by kernel_rfl) (fun _ _ _ h => h) (Or.inl ⟨by rfl, ?_⟩) (by assumption) ?_
  rotate_left
  · intro wS hSw
    (try dsimp only at hSw)
    go_simp
    first | done | with_reducible rfl
  try simp only [Act.put, List.getElem_toArray, List.getElem_cons_succ, List.getElem_cons_zero, List.setIfInBounds_toArray, List.set_cons_zero, List.set_cons_succ]
  refine wpAnyH_ready (rs := [11]) (by kernel_rfl) (by simp) ?_
  refine AllReadyH.cons rfl (fun K hK => ?_) AllReadyH.nil
  have hq := (HB3.out.block _ (by rw [HSZ.out]; omega)).trans HRES.out
  have r1 := hfroz hq
  have r2 := hcell hq
  have r0 : (wt.setCell ⟨w.heap.size + 1, 0, none⟩ (.slice ao2 n2 c2)).cell? ⟨w.heap.size + 1, 0, none⟩ = some (.slice ao2 n2 c2) := cell_of_one (one_setCell hq)
  have HEND : Hid (RowE EC (wt.setCell ⟨w.heap.size + 1, 0, none⟩ (.slice ao2 n2 c2)) w.heap.size (.slice ao2 n2 c2) (setH L (a - a % 64) M) ∧ Below w.heap.size w (wt.setCell ⟨w.heap.size + 1, 0, none⟩ (.slice ao2 n2 c2))) := Lib.hid (by
    have h0 := HB0.out.trans (HB3.out.mono HB0.out.size)
    refine ⟨?_, h0.setCell (by show w.heap.size ≤ w.heap.size + 1; omega) _⟩
    refine ownsRow_setCell_other (row_leE HO3.out (Nat.le_trans HB0.out.size HBS.out)) (fun e => ?_) _
    have := (row_lt HO3.out _ e).1
    have h2 := HBS.out
    rw [HSZ.out] at h2
    simp only [] at this
    omega)
  clear hq
  go_simp
  refine hK.out _ _ ?_ (fun r3 => ?_)
  · exact ⟨HEND.out.2, by rw [Below.heap_setCell _ _ _ _ (by simp)]; exact (HSD.out _ HB3.out).2⟩
  try simp only [Act.put, List.getElem_toArray, List.getElem_cons_succ, List.getElem_cons_zero, List.setIfInBounds_toArray, List.set_cons_zero, List.set_cons_succ]
  refine wpAnyH_take (i := 12) (v := ?_) rfl (by kernel_rfl) (by kernel_rfl) (by kernel_rfl) (fun _ _ _ h => h) (Or.inl ⟨by rfl, ?_⟩) (by assumption) ?_
  rotate_left
  · intro wS hSw
    (try dsimp only at hSw)
    go_simp
    first | done | with_reducible rfl
  try simp only [Act.put, List.getElem_toArray, List.getElem_cons_succ, List.getElem_cons_zero, List.setIfInBounds_toArray, List.set_cons_zero, List.set_cons_succ]
  refine wpAnyH_done (by kernel_rfl) ?_ _
  go_wp2_with fail
  refine bodyPost_ret (v := .tuple #[hnV (.slice ao2 n2 c2), .int .i64 0]) ?_ rfl ⟨_, rfl, HEND.out⟩
  simp [results, Try.results21, go_sem, r0]
end Go.Proofs.Ytcgkambkfaeceaa
