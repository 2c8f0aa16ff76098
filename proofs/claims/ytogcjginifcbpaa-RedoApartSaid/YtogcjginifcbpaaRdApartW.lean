/- The walk of RedoApart. Made by g_rdapart.py, its math put apart by hand. -/
import Derived.Test.YtogcjginifcbpaaRdEq
import Derived.Deep.CutBlock
namespace Go.Proofs.Ytogcjginifcbpaa
open Go.RowKit Go.Maps
set_option maxRecDepth 100000 in
set_option maxHeartbeats 2000000 in
theorem lawRedoApart (w : World) (e f : KEff) (he : e.rev ≤ 9223372036854775807) (hf : f.rev ≤ 9223372036854775807) : Calls Try.prog 14 #[effV e, effV f] w fun x w' => x = .returned (.bool true) ∧ Below w.heap.size w w' := by
  obtain ⟨W, hW, hb, hz, hA, hB⟩ := two_alloc w (effR e) (effR f)
  have HW := Lib.hid hW
  have HCe : Hid (∀ w, Calls Try.prog 35 #[effV e] w fun x w' => x = .returned (effV (cutE e)) ∧ Below w.heap.size w w') := Lib.hid (cutE_any e)
  have HCf : Hid (∀ w, Calls Try.prog 35 #[effV f] w fun x w' => x = .returned (effV (cutE f)) ∧ Below w.heap.size w w') := Lib.hid (cutE_any f)
  obtain ⟨x1, hx1⟩ : ∃ x1, x1 = cutE e := ⟨_, rfl⟩
  obtain ⟨x2, hx2⟩ : ∃ x2, x2 = cutE f := ⟨_, rfl⟩
  have hm1 : x1.rev ≤ 9223372036854775807 := by rw [hx1]; exact he
  have hm2 : x2.rev ≤ 9223372036854775807 := by rw [hx2]; exact hf
  rw [← hx1] at HCe
  rw [← hx2] at HCf
  have HM := Lib.hid (And.intro hm1 hm2)
  have H0 := Lib.hid (And.intro hb (And.intro hA hB))
  clear hW hb hz hA hB hx1 hx2 hm1 hm2 he hf
  go_enter Try.func14, Try.ntmps14
  go_upto_region 1 with fail
  change Code.wp _ _ _ _ ((w.alloc (effR e)).alloc (effR f))
  rw [← HW.out]
  clear HW
  go_cut [4] from 5 (fun s4 wx => s4 = .bool false ∧ Below w.heap.size w wx ∧ wx.heap[w.heap.size]? = some (effR x1) ∧ wx.heap[w.heap.size + 1]? = some (effR x2))
  case first =>
    refine wp_region_held_drew (S := (fun _ => True)) (by kernel_rfl) trivial (fun _ => ?_)
    obtain ⟨wd, hwd⟩ : ∃ wd, wd = W.drew := ⟨_, rfl⟩
    have hbd : Below w.heap.size w wd := by rw [hwd]; exact bdrew H0.out.1
    have hAd : wd.heap[w.heap.size]? = some (effR e) := by rw [hwd]; exact H0.out.2.1
    have hBd : wd.heap[w.heap.size + 1]? = some (effR f) := by rw [hwd]; exact H0.out.2.2
    rw [← hwd]
    have Hd := Lib.hid (And.intro hbd (And.intro hAd hBd))
    obtain ⟨e0, e1, e2, e3, -⟩ := four hAd
    obtain ⟨g0, g1, g2, g3, -⟩ := four hBd
    clear hwd hbd hAd hBd
    refine wpAnyH_ready (rs := [0, 2]) (by kernel_rfl) (by simp) ?_
    refine AllReadyH.cons rfl (fun K hK => ?_) (AllReadyH.cons rfl (fun K hK => ?_) AllReadyH.nil)
    · go_simp
      refine hK.out _ _ trivial (fun _ => ?_)
      try simp only [Act.put, List.getElem_toArray, List.getElem_cons_succ, List.getElem_cons_zero, List.setIfInBounds_toArray, List.set_cons_zero, List.set_cons_succ]
      refine wpAnyH_ready (rs := [1, 2]) (by kernel_rfl) (by simp) ?_
      refine AllReadyH.cons rfl (fun K hK => ?_) (AllReadyH.cons rfl (fun K hK => ?_) AllReadyH.nil)
      · go_simp
        refine (HCe.out wd).mono ?_; rintro x wa ⟨rfl, hba⟩
        refine hK.out _ _ trivial (fun _ => ?_)
        try simp only [Act.put, List.getElem_toArray, List.getElem_cons_succ, List.getElem_cons_zero, List.setIfInBounds_toArray, List.set_cons_zero, List.set_cons_succ]
        have hAa := (hba.block _ (heap_lt Hd.out.2.1)).trans Hd.out.2.1
        have hBa := (hba.block _ (heap_lt Hd.out.2.2)).trans Hd.out.2.2
        obtain ⟨f0, f1, f2, f3, -⟩ := four hBa
        refine wpAnyH_ready (rs := [2]) (by kernel_rfl) (by simp) ?_
        refine AllReadyH.cons rfl (fun K hK => ?_) AllReadyH.nil
        go_simp
        refine hK.out _ _ trivial (fun _ => ?_)
        try simp only [Act.put, List.getElem_toArray, List.getElem_cons_succ, List.getElem_cons_zero, List.setIfInBounds_toArray, List.set_cons_zero, List.set_cons_succ]
        refine wpAnyH_ready (rs := [3]) (by kernel_rfl) (by simp) ?_
        refine AllReadyH.cons rfl (fun K hK => ?_) AllReadyH.nil
        go_simp
        refine (HCf.out wa).mono ?_; rintro x wb ⟨rfl, hbb⟩
        refine hK.out _ _ trivial (fun _ => ?_)
        try simp only [Act.put, List.getElem_toArray, List.getElem_cons_succ, List.getElem_cons_zero, List.setIfInBounds_toArray, List.set_cons_zero, List.set_cons_succ]
        have hAb := (hbb.block _ (heap_lt hAa)).trans hAa
        have hBb := (hbb.block _ (heap_lt hBa)).trans hBa
        have hBc := (put4_ne (W := wb) (g := w.heap.size) (k := w.heap.size + 1) (by omega) (.string x1.key) (.string x1.val) (.int .i64 x1.rev) (.bool x1.gone)).trans hBb
        have hAc := put4_at hAb (.string x1.key) (.string x1.val) (.int .i64 x1.rev) (.bool x1.gone)
        have hbw := Hd.out.1.trans ((bel hba hbb).mono Hd.out.1.size)
        obtain ⟨a0, a1, a2, a3, b0, b1, b2, b3⟩ := four hAb
        refine wpAnyH_ready (rs := [4]) (by kernel_rfl) (by simp) ?_
        refine AllReadyH.cons rfl (fun K hK => ?_) AllReadyH.nil
        go_simp
        refine hK.out _ _ trivial (fun _ => ?_)
        try simp only [Act.put, List.getElem_toArray, List.getElem_cons_succ, List.getElem_cons_zero, List.setIfInBounds_toArray, List.set_cons_zero, List.set_cons_succ]
        unfold put4 at hBc
        obtain ⟨c0, c1, c2, c3, d0, d1, d2, d3⟩ := four hBc
        refine wpAnyH_ready (rs := [5]) (by kernel_rfl) (by simp) ?_
        refine AllReadyH.cons rfl (fun K hK => ?_) AllReadyH.nil
        go_simp
        refine hK.out _ _ trivial (fun _ => ?_)
        try simp only [Act.put, List.getElem_toArray, List.getElem_cons_succ, List.getElem_cons_zero, List.setIfInBounds_toArray, List.set_cons_zero, List.set_cons_succ]
        refine wpAnyH_done (by kernel_rfl) ?_ _
        (try go_wp2_with fail)
        go_meet
        case rel =>
          refine ⟨rfl, put4_below (put4_below hbw (Nat.le_refl _) (.string x1.key) (.string x1.val) (.int .i64 x1.rev) (.bool x1.gone)) (g := w.heap.size + 1) (by omega) (.string x2.key) (.string x2.val) (.int .i64 x2.rev) (.bool x2.gone), ?_, ?_⟩
          · exact (put4_ne (W := put4 wb w.heap.size (.string x1.key) (.string x1.val) (.int .i64 x1.rev) (.bool x1.gone)) (by omega) _ _ _ _).trans hAc
          · exact put4_at (W := put4 wb w.heap.size (.string x1.key) (.string x1.val) (.int .i64 x1.rev) (.bool x1.gone)) hBc _ _ _ _
      · go_simp
        refine hK.out _ _ trivial (fun _ => ?_)
        try simp only [Act.put, List.getElem_toArray, List.getElem_cons_succ, List.getElem_cons_zero, List.setIfInBounds_toArray, List.set_cons_zero, List.set_cons_succ]
        refine wpAnyH_ready (rs := [1]) (by kernel_rfl) (by simp) ?_
        refine AllReadyH.cons rfl (fun K hK => ?_) AllReadyH.nil
        go_simp
        refine (HCe.out wd).mono ?_; rintro x wa ⟨rfl, hba⟩
        refine hK.out _ _ trivial (fun _ => ?_)
        try simp only [Act.put, List.getElem_toArray, List.getElem_cons_succ, List.getElem_cons_zero, List.setIfInBounds_toArray, List.set_cons_zero, List.set_cons_succ]
        have hAa := (hba.block _ (heap_lt Hd.out.2.1)).trans Hd.out.2.1
        have hBa := (hba.block _ (heap_lt Hd.out.2.2)).trans Hd.out.2.2
        obtain ⟨f0, f1, f2, f3, -⟩ := four hBa
        refine wpAnyH_ready (rs := [3]) (by kernel_rfl) (by simp) ?_
        refine AllReadyH.cons rfl (fun K hK => ?_) AllReadyH.nil
        go_simp
        refine (HCf.out wa).mono ?_; rintro x wb ⟨rfl, hbb⟩
        refine hK.out _ _ trivial (fun _ => ?_)
        try simp only [Act.put, List.getElem_toArray, List.getElem_cons_succ, List.getElem_cons_zero, List.setIfInBounds_toArray, List.set_cons_zero, List.set_cons_succ]
        have hAb := (hbb.block _ (heap_lt hAa)).trans hAa
        have hBb := (hbb.block _ (heap_lt hBa)).trans hBa
        have hBc := (put4_ne (W := wb) (g := w.heap.size) (k := w.heap.size + 1) (by omega) (.string x1.key) (.string x1.val) (.int .i64 x1.rev) (.bool x1.gone)).trans hBb
        have hAc := put4_at hAb (.string x1.key) (.string x1.val) (.int .i64 x1.rev) (.bool x1.gone)
        have hbw := Hd.out.1.trans ((bel hba hbb).mono Hd.out.1.size)
        obtain ⟨a0, a1, a2, a3, b0, b1, b2, b3⟩ := four hAb
        refine wpAnyH_ready (rs := [4]) (by kernel_rfl) (by simp) ?_
        refine AllReadyH.cons rfl (fun K hK => ?_) AllReadyH.nil
        go_simp
        refine hK.out _ _ trivial (fun _ => ?_)
        try simp only [Act.put, List.getElem_toArray, List.getElem_cons_succ, List.getElem_cons_zero, List.setIfInBounds_toArray, List.set_cons_zero, List.set_cons_succ]
        unfold put4 at hBc
        obtain ⟨c0, c1, c2, c3, d0, d1, d2, d3⟩ := four hBc
        refine wpAnyH_ready (rs := [5]) (by kernel_rfl) (by simp) ?_
        refine AllReadyH.cons rfl (fun K hK => ?_) AllReadyH.nil
        go_simp
        refine hK.out _ _ trivial (fun _ => ?_)
        try simp only [Act.put, List.getElem_toArray, List.getElem_cons_succ, List.getElem_cons_zero, List.setIfInBounds_toArray, List.set_cons_zero, List.set_cons_succ]
        refine wpAnyH_done (by kernel_rfl) ?_ _
        (try go_wp2_with fail)
        go_meet
        case rel =>
          refine ⟨rfl, put4_below (put4_below hbw (Nat.le_refl _) (.string x1.key) (.string x1.val) (.int .i64 x1.rev) (.bool x1.gone)) (g := w.heap.size + 1) (by omega) (.string x2.key) (.string x2.val) (.int .i64 x2.rev) (.bool x2.gone), ?_, ?_⟩
          · exact (put4_ne (W := put4 wb w.heap.size (.string x1.key) (.string x1.val) (.int .i64 x1.rev) (.bool x1.gone)) (by omega) _ _ _ _).trans hAc
          · exact put4_at (W := put4 wb w.heap.size (.string x1.key) (.string x1.val) (.int .i64 x1.rev) (.bool x1.gone)) hBc _ _ _ _
    · go_simp
      refine hK.out _ _ trivial (fun _ => ?_)
      try simp only [Act.put, List.getElem_toArray, List.getElem_cons_succ, List.getElem_cons_zero, List.setIfInBounds_toArray, List.set_cons_zero, List.set_cons_succ]
      refine wpAnyH_ready (rs := [0]) (by kernel_rfl) (by simp) ?_
      refine AllReadyH.cons rfl (fun K hK => ?_) AllReadyH.nil
      go_simp
      refine hK.out _ _ trivial (fun _ => ?_)
      try simp only [Act.put, List.getElem_toArray, List.getElem_cons_succ, List.getElem_cons_zero, List.setIfInBounds_toArray, List.set_cons_zero, List.set_cons_succ]
      refine wpAnyH_ready (rs := [1]) (by kernel_rfl) (by simp) ?_
      refine AllReadyH.cons rfl (fun K hK => ?_) AllReadyH.nil
      go_simp
      refine (HCe.out wd).mono ?_; rintro x wa ⟨rfl, hba⟩
      refine hK.out _ _ trivial (fun _ => ?_)
      try simp only [Act.put, List.getElem_toArray, List.getElem_cons_succ, List.getElem_cons_zero, List.setIfInBounds_toArray, List.set_cons_zero, List.set_cons_succ]
      have hAa := (hba.block _ (heap_lt Hd.out.2.1)).trans Hd.out.2.1
      have hBa := (hba.block _ (heap_lt Hd.out.2.2)).trans Hd.out.2.2
      obtain ⟨f0, f1, f2, f3, -⟩ := four hBa
      refine wpAnyH_ready (rs := [3]) (by kernel_rfl) (by simp) ?_
      refine AllReadyH.cons rfl (fun K hK => ?_) AllReadyH.nil
      go_simp
      refine (HCf.out wa).mono ?_; rintro x wb ⟨rfl, hbb⟩
      refine hK.out _ _ trivial (fun _ => ?_)
      try simp only [Act.put, List.getElem_toArray, List.getElem_cons_succ, List.getElem_cons_zero, List.setIfInBounds_toArray, List.set_cons_zero, List.set_cons_succ]
      have hAb := (hbb.block _ (heap_lt hAa)).trans hAa
      have hBb := (hbb.block _ (heap_lt hBa)).trans hBa
      have hBc := (put4_ne (W := wb) (g := w.heap.size) (k := w.heap.size + 1) (by omega) (.string x1.key) (.string x1.val) (.int .i64 x1.rev) (.bool x1.gone)).trans hBb
      have hAc := put4_at hAb (.string x1.key) (.string x1.val) (.int .i64 x1.rev) (.bool x1.gone)
      have hbw := Hd.out.1.trans ((bel hba hbb).mono Hd.out.1.size)
      obtain ⟨a0, a1, a2, a3, b0, b1, b2, b3⟩ := four hAb
      refine wpAnyH_ready (rs := [4]) (by kernel_rfl) (by simp) ?_
      refine AllReadyH.cons rfl (fun K hK => ?_) AllReadyH.nil
      go_simp
      refine hK.out _ _ trivial (fun _ => ?_)
      try simp only [Act.put, List.getElem_toArray, List.getElem_cons_succ, List.getElem_cons_zero, List.setIfInBounds_toArray, List.set_cons_zero, List.set_cons_succ]
      unfold put4 at hBc
      obtain ⟨c0, c1, c2, c3, d0, d1, d2, d3⟩ := four hBc
      refine wpAnyH_ready (rs := [5]) (by kernel_rfl) (by simp) ?_
      refine AllReadyH.cons rfl (fun K hK => ?_) AllReadyH.nil
      go_simp
      refine hK.out _ _ trivial (fun _ => ?_)
      try simp only [Act.put, List.getElem_toArray, List.getElem_cons_succ, List.getElem_cons_zero, List.setIfInBounds_toArray, List.set_cons_zero, List.set_cons_succ]
      refine wpAnyH_done (by kernel_rfl) ?_ _
      (try go_wp2_with fail)
      go_meet
      case rel =>
        refine ⟨rfl, put4_below (put4_below hbw (Nat.le_refl _) (.string x1.key) (.string x1.val) (.int .i64 x1.rev) (.bool x1.gone)) (g := w.heap.size + 1) (by omega) (.string x2.key) (.string x2.val) (.int .i64 x2.rev) (.bool x2.gone), ?_, ?_⟩
        · exact (put4_ne (W := put4 wb w.heap.size (.string x1.key) (.string x1.val) (.int .i64 x1.rev) (.bool x1.gone)) (by omega) _ _ _ _).trans hAc
        · exact put4_at (W := put4 wb w.heap.size (.string x1.key) (.string x1.val) (.int .i64 x1.rev) (.bool x1.gone)) hBc _ _ _ _
  case rest =>
    obtain ⟨rfl, hbc, hAc, hBc⟩ := hcut
    have HR1 : Hid (∀ w, Calls Try.prog 38 #[effV x1] w fun x w' => x = .returned (.bool (rightB x1)) ∧ Below w.heap.size w w') := Lib.hid (refRight_any x1)
    have HR2 : Hid (∀ w, Calls Try.prog 38 #[effV x2] w fun x w' => x = .returned (.bool (rightB x2)) ∧ Below w.heap.size w w') := Lib.hid (refRight_any x2)
    have HO1 : Hid (∀ w, Calls Try.prog 37 #[effV x1] w fun x w' => x = .returned (effV x1) ∧ Below w.heap.size w w') := Lib.hid (oursE_any x1)
    have HO2 : Hid (∀ w, Calls Try.prog 37 #[effV x2] w fun x w' => x = .returned (effV x2) ∧ Below w.heap.size w w') := Lib.hid (oursE_any x2)
    have Hc := Lib.hid (And.intro hbc (And.intro hAc hBc))
    obtain ⟨p0, p1, p2, p3, -⟩ := four hAc
    clear hbc hAc hBc HCe HCf H0
    have HP1 : Hid (rightB x1 = true → ∀ w, Calls Try.prog 36 #[effV x1] w fun x w' => ∃ v, x = .returned (.tuple #[v, .int .i64 0]) ∧ Owns w' w.heap.size v (effL x1) ∧ Below w.heap.size w w') := Lib.hid (fun h w => put10_yes x1 w h HM.out.1)
    have HP2 : Hid (rightB x2 = true → ∀ w, Calls Try.prog 36 #[effV x2] w fun x w' => ∃ v, x = .returned (.tuple #[v, .int .i64 0]) ∧ Owns w' w.heap.size v (effL x2) ∧ Below w.heap.size w w') := Lib.hid (fun h w => put10_yes x2 w h HM.out.2)
    have HT : Hid (rightB x1 = true → rightB x2 = true → ((strOfNums (effL x1)).toList == (strOfNums (effL x2)).toList) = decide (x1.key = x2.key ∧ x1.val = x2.val ∧ x1.rev = x2.rev ∧ x1.gone = x2.gone)) := Lib.hid (fun h1 h2 => eff_text h1 h2 HM.out.1 HM.out.2)
    generalize rightB x1 = r1 at HR1 HP1 HT
    generalize rightB x2 = r2 at HR2 HP2 HT
    have NEXT : True := trivial
    cases r1 with
    | false =>
      go_wp2_with (first
        | (go_at_call 38; refine (HR1.out _).mono ?_; rintro x wa ⟨rfl, hba⟩)
        | (go_at_call 39; refine (awake10_any _).mono ?_; rintro x wb ⟨rfl, hbb⟩)
        | go_in)
      go_ret
      exact ⟨rfl, Hc.out.1.trans ((bel hba hbb).mono Hc.out.1.size)⟩
    | true =>
      have hcl : True := trivial
      cases r2 with
      | false =>
        go_wp2_with (first
          | (go_at_call 38; clear NEXT; refine (HR1.out _).mono ?_; rintro x wa ⟨rfl, hba⟩; have q := (hba.block _ (heap_lt Hc.out.2.2)).trans Hc.out.2.2; obtain ⟨q0, q1, q2, q3, -⟩ := four q; clear q)
          | (go_at_call 38; refine (HR2.out _).mono ?_; rintro x wa2 ⟨rfl, hba2⟩)
          | (go_at_call 39; refine (awake10_any _).mono ?_; rintro x wb ⟨rfl, hbb⟩)
          | go_in)
        go_ret
        exact ⟨rfl, Hc.out.1.trans ((bel (bel hba hba2) hbb).mono Hc.out.1.size)⟩
      | true =>
        go_upto_region 4 with (first
          | (go_at_call 38; clear NEXT; refine (HR1.out _).mono ?_; rintro x wa ⟨rfl, hba⟩; have q := (hba.block _ (heap_lt Hc.out.2.2)).trans Hc.out.2.2; obtain ⟨q0, q1, q2, q3, -⟩ := four q; clear q)
          | (go_at_call 38; refine (HR2.out _).mono ?_; rintro x wa2 ⟨rfl, hba2⟩)
          | go_in)
        have hb2 := bel hba hba2
        have hA2 := (hb2.block _ (heap_lt Hc.out.2.1)).trans Hc.out.2.1
        have hB2 := (hb2.block _ (heap_lt Hc.out.2.2)).trans Hc.out.2.2
        have H2 := Lib.hid (And.intro (Hc.out.1.trans (hb2.mono Hc.out.1.size)) (And.intro hA2 hB2))
        clear hba hba2 hb2 p0 p1 p2 p3 q0 q1 q2 q3
        obtain ⟨p0, p1, p2, p3, -⟩ := four hA2
        clear hA2 hB2
        go_upto_region 5 with (first
          | (go_at_call 37; refine (HO1.out _).mono ?_; rintro x wb ⟨rfl, hbb⟩)
          | (go_at_call 36; refine (HP1.out trivial _).mono ?_; rintro x wp ⟨va, rfl, hva, hbp⟩)
          | go_in)
        have hb3 := bel hbb hbp
        have hA3 := (hb3.block _ (heap_lt H2.out.2.1)).trans H2.out.2.1
        have hB3 := (hb3.block _ (heap_lt H2.out.2.2)).trans H2.out.2.2
        have H3 := Lib.hid (And.intro (H2.out.1.trans (hb3.mono H2.out.1.size)) (And.intro hA3 (And.intro hB3 hva.sees)))
        clear hbb hbp hb3 hva hA3 p0 p1 p2 p3
        obtain ⟨q0, q1, q2, q3, -⟩ := four hB3
        clear hB3
        go_upto_region 6 with (first
          | (go_at_call 37; refine (HO2.out _).mono ?_; rintro x wb ⟨rfl, hbb⟩)
          | (go_at_call 36; refine (HP2.out trivial _).mono ?_; rintro x wz ⟨vb, rfl, hvb, hbp⟩)
          | go_in)
        have hb4 := bel hbb hbp
        have hA4 := (hb4.block _ (heap_lt H3.out.2.1)).trans H3.out.2.1
        have hB4 := (hb4.block _ (heap_lt H3.out.2.2.1)).trans H3.out.2.2.1
        have hsa := H3.out.2.2.2.keep hb4
        have hsb := hvb.sees
        have hbw := H3.out.1.trans (hb4.mono H3.out.1.size)
        have HBW := Lib.hid hbw
        clear hbb hbp hb4 hvb hbw q0 q1 q2 q3
        obtain ⟨p0, p1, p2, p3, -⟩ := four hA4
        obtain ⟨q0, q1, q2, q3, -⟩ := four hB4
        have hT := HT.out trivial trivial
        have hE := eqEff x1 x2
        generalize decide (x1.key = x2.key ∧ x1.val = x2.val ∧ x1.rev = x2.rev ∧ x1.gone = x2.gone) = D at hT hE
        obtain ⟨ta, hta⟩ : ∃ ta, ta = strOfNums (effL x1) := ⟨_, rfl⟩
        obtain ⟨tb, htb⟩ : ∃ tb, tb = strOfNums (effL x2) := ⟨_, rfl⟩
        rw [← hta, ← htb] at hT
        have HCA : Hid (∀ W, Below wz.heap.size wz W → (convert 76 9 va).run Try.prog W = .ok (.string ta) W) := Lib.hid (fun W hW => by rw [hta]; exact conv_sees (hsa.keep hW))
        have HCB : Hid (∀ W, Below wz.heap.size wz W → (convert 76 9 vb).run Try.prog W = .ok (.string tb) W) := Lib.hid (fun W hW => by rw [htb]; exact conv_sees (hsb.keep hW))
        clear hA4 hB4 hsa hsb hta htb
        refine wp_region_held_drew (S := (fun W => Below wz.heap.size wz W)) (by kernel_rfl) ?_ (fun rr0 => ?_)
        · exact ⟨rfl, rfl, rfl, Nat.le_refl _, fun _ _ => rfl⟩
        refine wpAnyH_take (i := 0) (v := ?_) rfl (by kernel_rfl) (by kernel_rfl) (by kernel_rfl) (fun _ _ _ h => h) (Or.inl ⟨by rfl, ?_⟩) (by assumption) ?_
        rotate_left
        · intro wS hSw
          (try dsimp only at hSw)
          go_simp
          first | done | with_reducible rfl
        try simp only [Act.put, List.getElem_toArray, List.getElem_cons_zero, List.setIfInBounds_toArray, List.set_cons_zero, List.set_cons_succ]
        refine wpAnyH_take (i := 1) (v := ?_) rfl (by kernel_rfl) (by kernel_rfl) (by kernel_rfl) (fun _ _ _ h => h) (Or.inl ⟨by rfl, ?_⟩) (by assumption) ?_
        rotate_left
        · intro wS hSw
          (try dsimp only at hSw)
          have hcv := HCA.out _ hSw
          go_simp
          first | done | with_reducible rfl
        try simp only [Act.put, List.getElem_toArray, List.getElem_cons_succ, List.getElem_cons_zero, List.setIfInBounds_toArray, List.set_cons_zero, List.set_cons_succ]
        refine wpAnyH_take (i := 2) (v := ?_) rfl (by kernel_rfl) (by kernel_rfl) (by kernel_rfl) (fun _ _ _ h => h) (Or.inl ⟨by rfl, ?_⟩) (by assumption) ?_
        rotate_left
        · intro wS hSw
          (try dsimp only at hSw)
          go_simp
          first | done | with_reducible rfl
        try simp only [Act.put, List.getElem_toArray, List.getElem_cons_succ, List.getElem_cons_zero, List.setIfInBounds_toArray, List.set_cons_zero, List.set_cons_succ]
        refine wpAnyH_take (i := 3) (v := ?_) rfl (by kernel_rfl) (by kernel_rfl) (by kernel_rfl) (fun _ _ _ h => h) (Or.inl ⟨by rfl, ?_⟩) (by assumption) ?_
        rotate_left
        · intro wS hSw
          (try dsimp only at hSw)
          have hcv := HCB.out _ hSw
          go_simp
          first | done | with_reducible rfl
        try simp only [Act.put, List.getElem_toArray, List.getElem_cons_succ, List.getElem_cons_zero, List.setIfInBounds_toArray, List.set_cons_zero, List.set_cons_succ]
        refine wpAnyH_take (i := 4) (v := ?_) rfl (by kernel_rfl) (by kernel_rfl) (by kernel_rfl) (fun _ _ _ h => h) (Or.inl ⟨by rfl, ?_⟩) (by assumption) ?_
        rotate_left
        · intro wS hSw
          (try dsimp only at hSw)
          go_simp
          first | done | with_reducible rfl
        try simp only [Act.put, List.getElem_toArray, List.getElem_cons_succ, List.getElem_cons_zero, List.setIfInBounds_toArray, List.set_cons_zero, List.set_cons_succ]
        refine wpAnyH_take (i := 5) (v := ?_) rfl (by kernel_rfl) (by kernel_rfl) (by kernel_rfl) (fun _ _ _ h => h) (Or.inl ⟨by rfl, ?_⟩) (by assumption) ?_
        rotate_left
        · intro wS hSw
          (try dsimp only at hSw)
          have p0 := bcell hSw p0
          have p1 := bcell hSw p1
          have p2 := bcell hSw p2
          have p3 := bcell hSw p3
          go_simp
          first | done | with_reducible rfl
        try simp only [Act.put, List.getElem_toArray, List.getElem_cons_succ, List.getElem_cons_zero, List.setIfInBounds_toArray, List.set_cons_zero, List.set_cons_succ]
        refine wpAnyH_take (i := 6) (v := ?_) rfl (by kernel_rfl) (by kernel_rfl) (by kernel_rfl) (fun _ _ _ h => h) (Or.inl ⟨by rfl, ?_⟩) (by assumption) ?_
        rotate_left
        · intro wS hSw
          (try dsimp only at hSw)
          have q0 := bcell hSw q0
          have q1 := bcell hSw q1
          have q2 := bcell hSw q2
          have q3 := bcell hSw q3
          go_simp
          first | done | with_reducible rfl
        try simp only [Act.put, List.getElem_toArray, List.getElem_cons_succ, List.getElem_cons_zero, List.setIfInBounds_toArray, List.set_cons_zero, List.set_cons_succ]
        refine wpAnyH_take (i := 7) (v := ?_) rfl (by kernel_rfl) (by kernel_rfl) (by kernel_rfl) (fun _ _ _ h => h) (Or.inl ⟨by rfl, ?_⟩) (by assumption) ?_
        rotate_left
        · intro wS hSw
          (try dsimp only at hSw)
          go_simp
          first | done | with_reducible rfl
        try simp only [Act.put, List.getElem_toArray, List.getElem_cons_succ, List.getElem_cons_zero, List.setIfInBounds_toArray, List.set_cons_zero, List.set_cons_succ]
        refine wpAnyH_take (i := 8) (v := ?_) rfl (by kernel_rfl) (by kernel_rfl) (by kernel_rfl) (fun _ _ _ h => h) (Or.inl ⟨by rfl, ?_⟩) (by assumption) ?_
        rotate_left
        · intro wS hSw
          (try dsimp only at hSw)
          go_simp
          first | done | with_reducible rfl
        try simp only [Act.put, List.getElem_toArray, List.getElem_cons_succ, List.getElem_cons_zero, List.setIfInBounds_toArray, List.set_cons_zero, List.set_cons_succ]
        refine wpAnyH_take (i := 9) (v := ?_) rfl (by kernel_rfl) (by kernel_rfl) (by kernel_rfl) (fun _ _ _ h => h) (Or.inl ⟨by rfl, ?_⟩) (by assumption) ?_
        rotate_left
        · intro wS hSw
          (try dsimp only at hSw)
          go_simp
          first | done | with_reducible rfl
        try simp only [Act.put, List.getElem_toArray, List.getElem_cons_succ, List.getElem_cons_zero, List.setIfInBounds_toArray, List.set_cons_zero, List.set_cons_succ]
        refine wpAnyH_ready (rs := [10]) (by kernel_rfl) (by simp) ?_
        refine AllReadyH.cons rfl (fun K hK => ?_) AllReadyH.nil
        go_simp
        refine (awake10_any _).mono ?_; rintro x wy ⟨rfl, hby⟩
        refine hK.out _ _ ?_ (fun rr1 => ?_)
        · exact bel rr0 hby
        try simp only [Act.put, List.getElem_toArray, List.getElem_cons_succ, List.getElem_cons_zero, List.setIfInBounds_toArray, List.set_cons_zero, List.set_cons_succ]
        refine wpAnyH_take (i := 11) (v := ?_) rfl (by kernel_rfl) (by kernel_rfl) (by kernel_rfl) (fun _ _ _ h => h) (Or.inl ⟨by rfl, ?_⟩) (by assumption) ?_
        rotate_left
        · intro wS hSw
          (try dsimp only at hSw)
          go_simp
          first | done | with_reducible rfl
        try simp only [Act.put, List.getElem_toArray, List.getElem_cons_succ, List.getElem_cons_zero, List.setIfInBounds_toArray, List.set_cons_zero, List.set_cons_succ]
        refine wpAnyH_take (i := 12) (v := ?_) rfl (by kernel_rfl) (by kernel_rfl) (by kernel_rfl) (fun _ _ _ h => h) (Or.inl ⟨by rfl, ?_⟩) (by assumption) ?_
        rotate_left
        · intro wS hSw
          (try dsimp only at hSw)
          go_simp
          first | done | with_reducible rfl
        try simp only [Act.put, List.getElem_toArray, List.getElem_cons_succ, List.getElem_cons_zero, List.setIfInBounds_toArray, List.set_cons_zero, List.set_cons_succ]
        refine wpAnyH_done (by kernel_rfl) ?_ _
        go_wp2_with fail
        go_ret
        exact ⟨rfl, HBW.out.trans (rr1.mono HBW.out.size)⟩
end Go.Proofs.Ytogcjginifcbpaa
