/- Package handle: just so many in a block. -/
import Derived.Test.YtcgkambkfaeceaaHnOf
import Derived.Test.YtcgkambkfaeceaaHnRight
namespace Go.Proofs.Ytcgkambkfaeceaa
open Go.RowKit
theorem set_flat {L : CntL} {k : Nat} {b n : Int} (hk : k < L.length) (hb : (at2 L k).1 = b) : (L.flatMap encC).set (k * 2 + 1) (.int .i64 n) = (L.take k ++ (b, n) :: L.drop (k + 1)).flatMap encC := by
  have e : L = L.take k ++ at2 L k :: L.drop (k + 1) := by
    have h1 : L.drop k = at2 L k :: L.drop (k + 1) := by
      rw [List.drop_eq_getElem_cons hk]
      congr 1
      have := at2_get hk
      rw [List.getElem?_eq_getElem hk] at this
      exact Option.some.inj this
    rw [← h1, List.take_append_drop]
  have ht : ((L.take k).flatMap encC).length = k * 2 := by rw [flat_lenC, List.length_take]; omega
  conv => lhs; rw [e]
  rw [flat_app, flat_app, List.flatMap_cons, List.flatMap_cons, List.set_append, if_neg (by omega), ht, show k * 2 + 1 - k * 2 = 1 from by omega, ← hb]
  rfl
theorem two_new (w : World) (o p : Obj) : Below w.heap.size w ((w.alloc o).alloc p) ∧ ((w.alloc o).alloc p).heap[w.heap.size]? = some o ∧ ((w.alloc o).alloc p).heap[w.heap.size + 1]? = some p ∧ ((w.alloc o).alloc p).heap.size = w.heap.size + 2 := by
  have hs : (w.alloc o).heap.size = w.heap.size + 1 := by show (w.heap.push _).size = _; simp
  refine ⟨belAlloc (belNew _ _) _, ?_, ?_, ?_⟩
  · exact (Below.heap_alloc (w.alloc o) _ _ (by omega)).trans (heap_new w _)
  · have := heap_new (w.alloc o) p
    rwa [hs] at this
  · show ((w.alloc o).heap.push _).size = _
    simp [hs]
theorem sl_form {E : TypeId} {w : World} {B : Nat} {v : Value} {L : CntL} (h : RowE E w B v L) : ∃ ao n c, v = .slice ao n c := by
  obtain ⟨ao, c, e, -⟩ := h.sees
  exact ⟨ao, _, c, e⟩
def SetOk (L : CntL) (b n : Int) (w : World) (e : Ending) (w' : World) : Prop :=
  ∃ v', e = .returned (.tuple #[hnV v', .int .i64 0]) ∧ RowE EC w' w.heap.size v' (setH L b n) ∧ Below w.heap.size w w'
theorem row_lt {E : TypeId} {w : World} {B : Nat} {v : Value} {L : CntL} (h : RowE E w B v L) : ∀ k, v.ownBlock = some k → B ≤ k ∧ k < w.heap.size := h.lt
set_option maxRecDepth 100000 in
set_option maxHeartbeats 8000000 in
theorem set_bad (v : Value) (L : CntL) (a n : Int) (w : World) (h : SeesC w v L) (hb : CntBd L) (hl : L.length ≤ 4000) (hno : rightH L = false ∨ mayC n = false) :
    Calls Try.prog 19 #[hnV v, .int .u32 a, .int .i64 n] w fun e w' => e = .returned (.tuple #[hnV (.slice none 0 0), .int .i64 1]) ∧ Below w.heap.size w w' := by
  obtain ⟨W, hW⟩ : ∃ W, W = (w.alloc (hnO v)).alloc (hnO (.slice none 0 0)) := ⟨_, rfl⟩
  obtain ⟨hb0, hA, hR, hsz⟩ := two_new w (hnO v) (hnO (.slice none 0 0))
  rw [← hW] at hb0 hA hR hsz
  have c0 := hcell hA
  have hsW := h.below hb0
  have HR := Lib.hid (right_any v L W hsW hb (by omega))
  have HM := Lib.hid (fun w => mayCount_any n w)
  obtain ⟨ao, c, rfl, hlc, hnil, hc⟩ := hsW
  have HW := Lib.hid hW
  have HB0 := Lib.hid hb0
  have HRES := Lib.hid hR
  have HSZ := Lib.hid hsz
  cases hr : rightH L with
  | false =>
    rw [hr] at HR
    clear hW hb0 hA hR hsz h hnil hc hr hno HM hb
    go_enter Try.func19, Try.ntmps19
    go_upto_region 1 with fail
    change Code.wp _ _ _ _ ((w.alloc (hnO (.slice ao L.length c))).alloc (hnO (.slice none 0 0)))
    rw [← HW.out]
    clear HW
    go_wp2_with fail
    refine (HR.out).mono ?_; rintro e w1 ⟨rfl, hb1⟩
    have HBX1 := Lib.hid hb1
    have c0 := bcell hb1 c0
    have HB1 := Lib.hid (hb1)
    clear hb1
    have hq := (HB1.out.block _ (by rw [HSZ.out]; omega)).trans HRES.out
    have r1 := hfroz hq
    have r2 := hcell hq
    have r0 : (w1.setCell ⟨w.heap.size + 1, 0, none⟩ (.slice none 0 0)).cell? ⟨w.heap.size + 1, 0, none⟩ = some (.slice none 0 0) := cell_of_one (one_setCell hq)
    clear hq
    go_wp2_with fail
    refine bodyPost_ret (v := .tuple #[hnV (.slice none 0 0), .int .i64 1]) ?_ rfl ⟨rfl, (HB0.out.trans (HB1.out.mono HB0.out.size)).setCell (by show w.heap.size ≤ w.heap.size + 1; omega) _⟩
    simp [results, Try.results19, go_sem, r0]
  | true =>
    have hm : mayC n = false := by
      rcases hno with e | e
      · rw [hr] at e; cases e
      · exact e
    rw [hr] at HR
    rw [hm] at HM
    clear hW hb0 hA hR hsz h hnil hc hr hno hb hm
    go_enter Try.func19, Try.ntmps19
    go_upto_region 1 with fail
    change Code.wp _ _ _ _ ((w.alloc (hnO (.slice ao L.length c))).alloc (hnO (.slice none 0 0)))
    rw [← HW.out]
    clear HW
    go_wp2_with fail
    refine (HR.out).mono ?_; rintro e w1 ⟨rfl, hb1⟩
    have HBX1 := Lib.hid hb1
    have c0 := bcell hb1 c0
    have HB1 := Lib.hid (hb1)
    clear hb1
    go_wp2_with fail
    refine (HM.out _).mono ?_; rintro e w2 ⟨rfl, rfl⟩
    have hq := (HB1.out.block _ (by rw [HSZ.out]; omega)).trans HRES.out
    have r1 := hfroz hq
    have r2 := hcell hq
    have r0 : (w1.setCell ⟨w.heap.size + 1, 0, none⟩ (.slice none 0 0)).cell? ⟨w.heap.size + 1, 0, none⟩ = some (.slice none 0 0) := cell_of_one (one_setCell hq)
    clear hq
    go_wp2_with fail
    refine bodyPost_ret (v := .tuple #[hnV (.slice none 0 0), .int .i64 1]) ?_ rfl ⟨rfl, (HB0.out.trans (HB1.out.mono HB0.out.size)).setCell (by show w.heap.size ≤ w.heap.size + 1; omega) _⟩
    simp [results, Try.results19, go_sem, r0]
set_option maxRecDepth 100000 in
set_option maxHeartbeats 8000000 in
theorem set_any (v : Value) (L : CntL) (a n : Int) (w : World) (h : SeesC w v L) (hb : CntBd L) (hl : L.length ≤ 4000) (ha : 0 ≤ a) (ha' : a < 4294967296) (hr : rightH L = true) (hm : mayC n = true) :
    Calls Try.prog 19 #[hnV v, .int .u32 a, .int .i64 n] w (SetOk L (a - a % 64) n w) := by
  have hs := ((right_iff L).1 hr).2
  obtain ⟨W, hW⟩ : ∃ W, W = (w.alloc (hnO v)).alloc (hnO (.slice none 0 0)) := ⟨_, rfl⟩
  obtain ⟨hb0, hA, hR, hsz⟩ := two_new w (hnO v) (hnO (.slice none 0 0))
  rw [← hW] at hb0 hA hR hsz
  have c0 := hcell hA
  have hsW := h.below hb0
  have HR := Lib.hid (right_any v L W hsW hb (by omega))
  have HM := Lib.hid (fun w => mayCount_any n w)
  have HCL := Lib.hid (fun w1 (hb : Below W.heap.size W w1) => cloneC_any v L w1 (hsW.below hb) (by omega))
  have HF := Lib.hid (fun w => first_any a ha ha' w)
  have HPL := Lib.hid (fun v1 w1 (h1 : SeesC w1 v1 L) => place_any v1 L a w1 h1 hs (by omega) ha ha')
  rw [hr] at HR
  rw [hm] at HM
  obtain ⟨ao, c, rfl, hlc, hnil, hc⟩ := hsW
  have HW := Lib.hid hW
  have HB0 := Lib.hid hb0
  have HRES := Lib.hid hR
  have HSZ := Lib.hid hsz
  have HSET := Lib.hid (setH_eq L (a - a % 64) n)
  have hK := cntB_le L (a - a % 64)
  have HTH : Hid (thereB L (a - a % 64) = true → cntB L (a - a % 64) < L.length ∧ (at2 L (cntB L (a - a % 64))).1 = a - a % 64) := Lib.hid (fun ht => by
    unfold thereB at ht
    simpa only [Bool.and_eq_true, decide_eq_true_eq] using ht)
  have hlen : ((L.length : Int) == 4096) = false := by simp; omega
  clear hW hb0 hA hR hsz h hnil hc hr hb hs hm
  generalize hB : a - a % 64 = B at *
  generalize cntB L B = K at *
  generalize thereB L B = T at *
  have HBE := Lib.hid hB
  clear hB
  unfold SetOk
  cases T with
  | true =>
    obtain ⟨hlt, hat⟩ := HTH.out rfl
    by_cases hn0 : n = 0
    · subst hn0
      have HS2 : Hid (setH L B 0 = L.take K ++ L.drop (K + 1)) := Lib.hid (by rw [HSET.out, if_pos rfl, if_pos rfl])
      have HDEL := Lib.hid (fun Bs v1 w1 (h1 : RowE EC w1 Bs v1 L) => deleteC_any Bs v1 L K w1 h1 hlt (by omega))
      clear HSET HTH HF hat
      have hkw : IntKind.i64.wrap ((K : Int) + 1) = (K : Int) + 1 := IntWalk.i64_in _ (by omega)
      have d0 : ((0 : Int) == 0) = true := rfl
      go_enter Try.func19, Try.ntmps19
      go_upto_region 1 with fail
      change Code.wp _ _ _ _ ((w.alloc (hnO (.slice ao L.length c))).alloc (hnO (.slice none 0 0)))
      rw [← HW.out]
      clear HW
      go_wp2_with fail
      refine (HR.out).mono ?_; rintro e w1 ⟨rfl, hb1⟩
      have HBX1 := Lib.hid hb1
      have c0 := bcell hb1 c0
      have HB1 := Lib.hid (hb1)
      clear hb1
      go_wp2_with fail
      refine (HM.out _).mono ?_; rintro e wm ⟨rfl, rfl⟩
      go_wp2_with fail
      refine (HCL.out _ HB1.out).mono ?_; rintro e w2 ⟨v1, rfl, ho2, hb2⟩
      have ho2 := row_leE ho2 HB1.out.size
      have HO2 := Lib.hid ho2
      clear ho2
      obtain ⟨ao1, c1, hv1, -⟩ := HO2.out.sees
      subst hv1
      have HBX2 := Lib.hid hb2
      have c0 := bcell hb2 c0
      have HB2 := Lib.hid (bel HB1.out hb2)
      clear hb2
      go_wp2_with fail
      refine (HPL.out _ _ HO2.out.sees).mono ?_; rintro e w3 ⟨rfl, hb3⟩
      have HO3 := Lib.hid (row_keep HO2.out hb3)
      have HBX3 := Lib.hid hb3
      have c0 := bcell hb3 c0
      have HB3 := Lib.hid (bel HB2.out hb3)
      clear hb3
      go_wp2_with fail
      refine (HDEL.out _ _ _ HO3.out).mono ?_; rintro e w4 ⟨v2, rfl, ho4, hb4⟩
      have HO4 := Lib.hid ho4
      have HB4 := Lib.hid (HB3.out.trans hb4)
      obtain ⟨ao2, n2, c2, rfl⟩ := sl_form ho4
      have HO5 : Hid (RowE EC w4 W.heap.size (.slice ao2 n2 c2) (setH L B 0)) := Lib.hid (by rw [HS2.out]; exact HO4.out)
      clear hb4 ho4 c0
      have hq := (HB4.out.block _ (by rw [HSZ.out]; omega)).trans HRES.out
      have r1 := hfroz hq
      have r2 := hcell hq
      have r0 : (w4.setCell ⟨w.heap.size + 1, 0, none⟩ (.slice ao2 n2 c2)).cell? ⟨w.heap.size + 1, 0, none⟩ = some (.slice ao2 n2 c2) := cell_of_one (one_setCell hq)
      have HEND : Hid (RowE EC (w4.setCell ⟨w.heap.size + 1, 0, none⟩ (.slice ao2 n2 c2)) w.heap.size (.slice ao2 n2 c2) (setH L B 0) ∧ Below w.heap.size w (w4.setCell ⟨w.heap.size + 1, 0, none⟩ (.slice ao2 n2 c2))) := Lib.hid (by
        have h0 := HB0.out.trans (HB4.out.mono HB0.out.size)
        refine ⟨?_, h0.setCell (by show w.heap.size ≤ w.heap.size + 1; omega) _⟩
        refine ownsRow_setCell_other (row_leE HO5.out HB0.out.size) (fun e => ?_) _
        have := (row_lt HO4.out _ e).1
        rw [HSZ.out] at this
        simp only [] at this
        omega)
      clear hq
      go_wp2_with fail
      refine bodyPost_ret (v := .tuple #[hnV (.slice ao2 n2 c2), .int .i64 0]) ?_ rfl ⟨_, rfl, HEND.out⟩
      simp [results, Try.results19, go_sem, r0]
    · have HS2 : Hid (setH L B n = L.take K ++ (B, n) :: L.drop (K + 1)) := Lib.hid (by rw [HSET.out, if_pos rfl, if_neg hn0])
      have HSF := Lib.hid (set_flat (n := n) hlt hat)
      have dn : (n == 0) = false := by simpa using hn0
      have b0 : (0 : Int) ≤ (K : Int) := by omega
      have b1 : (K : Int) < (L.length : Int) := by omega
      have hne : L ≠ [] := by intro e; rw [e] at hlt; simp at hlt
      have HNE := Lib.hid hne
      have HLT := Lib.hid hlt
      have HFL : Hid ((L.flatMap encC)[K * 2 + 1]? = some (.int .i64 (at2 L K).2)) := Lib.hid (flat_atC L K 1 _ (at2_get hlt) (by omega))
      clear HSET HTH HF hat hn0 hne hlt
      go_enter Try.func19, Try.ntmps19
      go_upto_region 1 with fail
      change Code.wp _ _ _ _ ((w.alloc (hnO (.slice ao L.length c))).alloc (hnO (.slice none 0 0)))
      rw [← HW.out]
      clear HW
      go_wp2_with fail
      refine (HR.out).mono ?_; rintro e w1 ⟨rfl, hb1⟩
      have HBX1 := Lib.hid hb1
      have c0 := bcell hb1 c0
      have HB1 := Lib.hid (hb1)
      clear hb1
      go_wp2_with fail
      refine (HM.out _).mono ?_; rintro e wm ⟨rfl, rfl⟩
      go_wp2_with fail
      refine (HCL.out _ HB1.out).mono ?_; rintro e w2 ⟨v1, rfl, ho2, hb2⟩
      have ho2 := row_leE ho2 HB1.out.size
      have HO2 := Lib.hid ho2
      clear ho2
      obtain ⟨ao1, c1, hv1, -⟩ := HO2.out.sees
      subst hv1
      have HBX2 := Lib.hid hb2
      have c0 := bcell hb2 c0
      have HB2 := Lib.hid (bel HB1.out hb2)
      clear hb2
      go_wp2_with fail
      refine (HPL.out _ _ HO2.out.sees).mono ?_; rintro e w3 ⟨rfl, hb3⟩
      have HO3 := Lib.hid (row_keep HO2.out hb3)
      have HBX3 := Lib.hid hb3
      have c0 := bcell hb3 c0
      have HB3 := Lib.hid (bel HB2.out hb3)
      clear hb3
      obtain ⟨g, cap, cur, hv3, hBg, hg, hn3, hm3, hs3, hc3⟩ := row_parts HO3.out HNE.out
      obtain ⟨rfl, rfl⟩ : ao1 = some ⟨g, 0, none⟩ ∧ c1 = cap := by cases hv3; exact ⟨rfl, rfl⟩
      have q1 := hc3 _ _ HFL.out
      have q2 : w3.frozen? ⟨g, K * 2 + 1, none⟩ = false := by simp [World.frozen?, hg]
      have hst := World.ownsRow.stored (g := g) (cap := c1) HO3.out (K * 2 + 1) (.int .i64 n)
      obtain ⟨w4, hw4⟩ : ∃ w4, w4 = w3.setCell ⟨g, K * 2 + 1, none⟩ (.int .i64 n) := ⟨_, rfl⟩
      rw [← hw4] at hst
      have HW4 := Lib.hid hw4
      have HB4 := Lib.hid (HB3.out.grown hst.2 HB3.out.size (fun k hk => by cases hk; exact hBg))
      have HO5 : Hid (RowE EC w4 W.heap.size (.slice (some ⟨g, 0, none⟩) L.length c1) (setH L B n)) := Lib.hid (by
        have h1 := hst.1
        rw [HSF.out] at h1
        have hl1 : (L.take K ++ (B, n) :: L.drop (K + 1)).length = L.length := by simp; have := HLT.out; omega
        rw [HS2.out]
        show w4.ownsRow _ _ _ _ _ _
        rw [hl1]
        exact h1)
      have HG := Lib.hid (And.intro hBg hg)
      clear hst hw4 hBg hg hn3 hm3 hs3 hc3
      have hq := (HB4.out.block _ (by rw [HSZ.out]; omega)).trans HRES.out
      have r1 := hfroz hq
      have r2 := hcell hq
      have r0 : (w4.setCell ⟨w.heap.size + 1, 0, none⟩ (.slice (some ⟨g, 0, none⟩) L.length c1)).cell? ⟨w.heap.size + 1, 0, none⟩ = some (.slice (some ⟨g, 0, none⟩) L.length c1) := cell_of_one (one_setCell hq)
      have HEND : Hid (RowE EC (w4.setCell ⟨w.heap.size + 1, 0, none⟩ (.slice (some ⟨g, 0, none⟩) L.length c1)) w.heap.size (.slice (some ⟨g, 0, none⟩) L.length c1) (setH L B n) ∧ Below w.heap.size w (w4.setCell ⟨w.heap.size + 1, 0, none⟩ (.slice (some ⟨g, 0, none⟩) L.length c1))) := Lib.hid (by
        have h0 := HB0.out.trans (HB4.out.mono HB0.out.size)
        refine ⟨?_, h0.setCell (by show w.heap.size ≤ w.heap.size + 1; omega) _⟩
        refine ownsRow_setCell_other (row_leE HO5.out HB0.out.size) (fun e => ?_) _
        have := (row_lt HO5.out _ e).1
        rw [HSZ.out] at this
        simp only [] at this
        omega)
      clear hq
      rw [HW4.out] at r0 r1 r2
      go_wp2_with fail
      refine bodyPost_ret (v := .tuple #[hnV (.slice (some ⟨g, 0, none⟩) L.length c1), .int .i64 0]) ?_ rfl ⟨_, rfl, ?_⟩
      · simp [results, Try.results19, go_sem, r0]
      · have := HEND.out
        rw [HW4.out] at this
        exact this
  | false =>
    by_cases hn0 : n = 0
    · subst hn0
      have HS2 : Hid (setH L B 0 = L) := Lib.hid (by rw [HSET.out, if_neg (by simp), if_pos rfl])
      have d0 : ((0 : Int) == 0) = true := rfl
      clear HSET HTH HF
      go_enter Try.func19, Try.ntmps19
      go_upto_region 1 with fail
      change Code.wp _ _ _ _ ((w.alloc (hnO (.slice ao L.length c))).alloc (hnO (.slice none 0 0)))
      rw [← HW.out]
      clear HW
      go_wp2_with fail
      refine (HR.out).mono ?_; rintro e w1 ⟨rfl, hb1⟩
      have HBX1 := Lib.hid hb1
      have c0 := bcell hb1 c0
      have HB1 := Lib.hid (hb1)
      clear hb1
      go_wp2_with fail
      refine (HM.out _).mono ?_; rintro e wm ⟨rfl, rfl⟩
      go_wp2_with fail
      refine (HCL.out _ HB1.out).mono ?_; rintro e w2 ⟨v1, rfl, ho2, hb2⟩
      have ho2 := row_leE ho2 HB1.out.size
      have HO2 := Lib.hid ho2
      clear ho2
      obtain ⟨ao1, c1, hv1, -⟩ := HO2.out.sees
      subst hv1
      have HBX2 := Lib.hid hb2
      have c0 := bcell hb2 c0
      have HB2 := Lib.hid (bel HB1.out hb2)
      clear hb2
      go_wp2_with fail
      refine (HPL.out _ _ HO2.out.sees).mono ?_; rintro e w3 ⟨rfl, hb3⟩
      have HO3 := Lib.hid (row_keep HO2.out hb3)
      have HBX3 := Lib.hid hb3
      have c0 := bcell hb3 c0
      have HB3 := Lib.hid (bel HB2.out hb3)
      clear hb3
      have HO5 : Hid (RowE EC w3 W.heap.size (.slice ao1 L.length c1) (setH L B 0)) := Lib.hid (by rw [HS2.out]; exact HO3.out)
      have hq := (HB3.out.block _ (by rw [HSZ.out]; omega)).trans HRES.out
      have r1 := hfroz hq
      have r2 := hcell hq
      have r0 : (w3.setCell ⟨w.heap.size + 1, 0, none⟩ (.slice ao1 L.length c1)).cell? ⟨w.heap.size + 1, 0, none⟩ = some (.slice ao1 L.length c1) := cell_of_one (one_setCell hq)
      have HEND : Hid (RowE EC (w3.setCell ⟨w.heap.size + 1, 0, none⟩ (.slice ao1 L.length c1)) w.heap.size (.slice ao1 L.length c1) (setH L B 0) ∧ Below w.heap.size w (w3.setCell ⟨w.heap.size + 1, 0, none⟩ (.slice ao1 L.length c1))) := Lib.hid (by
        have h0 := HB0.out.trans (HB3.out.mono HB0.out.size)
        refine ⟨?_, h0.setCell (by show w.heap.size ≤ w.heap.size + 1; omega) _⟩
        refine ownsRow_setCell_other (row_leE HO5.out HB0.out.size) (fun e => ?_) _
        have := (row_lt HO3.out _ e).1
        rw [HSZ.out] at this
        simp only [] at this
        omega)
      clear hq
      go_wp2_with fail
      refine bodyPost_ret (v := .tuple #[hnV (.slice ao1 L.length c1), .int .i64 0]) ?_ rfl ⟨_, rfl, HEND.out⟩
      simp [results, Try.results19, go_sem, r0]
    · have HS2 : Hid (setH L B n = L.take K ++ (B, n) :: L.drop K) := Lib.hid (by rw [HSET.out, if_neg (by simp), if_neg hn0])
      have dn : (n == 0) = false := by simpa using hn0
      have HINS := Lib.hid (fun Bs v1 vb vc w1 (h1 : RowE EC w1 Bs v1 L) hv hne hB => insertC_any Bs v1 L K (B, n) vb vc w1 h1 hv hne hK (by omega) hB)
      clear HSET HTH hn0
      go_enter Try.func19, Try.ntmps19
      go_upto_region 1 with fail
      change Code.wp _ _ _ _ ((w.alloc (hnO (.slice ao L.length c))).alloc (hnO (.slice none 0 0)))
      rw [← HW.out]
      clear HW
      go_wp2_with fail
      refine (HR.out).mono ?_; rintro e w1 ⟨rfl, hb1⟩
      have HBX1 := Lib.hid hb1
      have c0 := bcell hb1 c0
      have HB1 := Lib.hid (hb1)
      clear hb1
      go_wp2_with fail
      refine (HM.out _).mono ?_; rintro e wm ⟨rfl, rfl⟩
      go_wp2_with fail
      refine (HCL.out _ HB1.out).mono ?_; rintro e w2 ⟨v1, rfl, ho2, hb2⟩
      have ho2 := row_leE ho2 HB1.out.size
      have HO2 := Lib.hid ho2
      clear ho2
      obtain ⟨ao1, c1, hv1, -⟩ := HO2.out.sees
      subst hv1
      have HBX2 := Lib.hid hb2
      have c0 := bcell hb2 c0
      have HB2 := Lib.hid (bel HB1.out hb2)
      clear hb2
      go_wp2_with fail
      refine (HPL.out _ _ HO2.out.sees).mono ?_; rintro e w3 ⟨rfl, hb3⟩
      have HO3 := Lib.hid (row_keep HO2.out hb3)
      have HBX3 := Lib.hid hb3
      have c0 := bcell hb3 c0
      have HB3 := Lib.hid (bel HB2.out hb3)
      clear hb3
      go_wp2_with fail
      refine (HF.out _).mono ?_; rintro e w4 ⟨rfl, hb4⟩
      have HO4 := Lib.hid (row_keep HO3.out hb4)
      have HBX4 := Lib.hid hb4
      have c0 := bcell hb4 c0
      have HB4 := Lib.hid (bel HB3.out hb4)
      clear hb4
      have HLN := Lib.hid (row_lt HO4.out)
      obtain ⟨w5, hw5⟩ : ∃ w5, w5 = w4.alloc (cntO (B, n) EC) := ⟨_, rfl⟩
      have HI := Lib.hid (HINS.out W.heap.size (.slice ao1 L.length c1) w4.heap.size 1 w5 (by rw [hw5]; exact HO4.out.alloc _) (by rw [hw5]; exact heap_new w4 _) (fun e => by have := (HLN.out _ e).2; omega) (by rw [hw5]; exact (belAlloc HB4.out _).size))
      have HB5 := Lib.hid (show Below W.heap.size W w5 by rw [hw5]; exact belAlloc HB4.out _)
      have HW5 := Lib.hid hw5
      clear hw5
      rw [HW5.out] at HI
      go_wp2_with fail
      refine HI.out.mono ?_; rintro e w6 ⟨v2, rfl, ho6, hb6⟩
      rw [← HW5.out] at hb6
      have HB6 := Lib.hid (HB5.out.trans hb6)
      obtain ⟨ao2, n2, c2, rfl⟩ := sl_form ho6
      have HO6 := Lib.hid ho6
      have HO5 : Hid (RowE EC w6 W.heap.size (.slice ao2 n2 c2) (setH L B n)) := Lib.hid (by rw [HS2.out]; exact HO6.out)
      clear hb6 ho6 c0
      have hq := (HB6.out.block _ (by rw [HSZ.out]; omega)).trans HRES.out
      have r1 := hfroz hq
      have r2 := hcell hq
      have r0 : (w6.setCell ⟨w.heap.size + 1, 0, none⟩ (.slice ao2 n2 c2)).cell? ⟨w.heap.size + 1, 0, none⟩ = some (.slice ao2 n2 c2) := cell_of_one (one_setCell hq)
      have HEND : Hid (RowE EC (w6.setCell ⟨w.heap.size + 1, 0, none⟩ (.slice ao2 n2 c2)) w.heap.size (.slice ao2 n2 c2) (setH L B n) ∧ Below w.heap.size w (w6.setCell ⟨w.heap.size + 1, 0, none⟩ (.slice ao2 n2 c2))) := Lib.hid (by
        have h0 := HB0.out.trans (HB6.out.mono HB0.out.size)
        refine ⟨?_, h0.setCell (by show w.heap.size ≤ w.heap.size + 1; omega) _⟩
        refine ownsRow_setCell_other (row_leE HO5.out HB0.out.size) (fun e => ?_) _
        have := (row_lt HO6.out _ e).1
        rw [HSZ.out] at this
        simp only [] at this
        omega)
      clear hq
      go_wp2_with fail
      refine bodyPost_ret (v := .tuple #[hnV (.slice ao2 n2 c2), .int .i64 0]) ?_ rfl ⟨_, rfl, HEND.out⟩
      simp [results, Try.results19, go_sem, r0]
end Go.Proofs.Ytcgkambkfaeceaa
