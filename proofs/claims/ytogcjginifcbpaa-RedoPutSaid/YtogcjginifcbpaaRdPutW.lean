/- The walk of RedoPut. Made by g_rdputlaw.py. -/
import Derived.Test.YtogcjginifcbpaaRdBack
import Derived.Test.YtogcjginifcbpaaRdEqK
import Derived.Test.YtogcjginifcbpaaRdRef
import Derived.Test.YtogcjginifcbpaaKvInv
namespace Go.Proofs.Ytogcjginifcbpaa
open Go.RowKit Go.Maps
set_option maxRecDepth 100000 in
set_option maxHeartbeats 1000000 in
theorem lawRedoPut (w : World) (e : KEff) (he : e.rev ≤ 9223372036854775807) : Calls Try.prog 10 #[effV e] w fun x w' => x = .returned (.bool true) ∧ Below w.heap.size w w' := by
  obtain ⟨wq, hW⟩ : ∃ wq, wq = w.alloc (effR e) := ⟨_, rfl⟩
  have hb : Below w.heap.size w wq := by rw [hW]; exact belNew _ _
  have hA : wq.heap[w.heap.size]? = some (effR e) := by rw [hW]; exact heap_alloc_new w _
  have HW := Lib.hid hW
  have HCe : Hid (∀ w, Calls Try.prog 35 #[effV e] w fun x w' => x = .returned (effV (cutE e)) ∧ Below w.heap.size w w') := Lib.hid (cutE_any e)
  obtain ⟨x1, hx1⟩ : ∃ x1, x1 = cutE e := ⟨_, rfl⟩
  have hm1 : x1.rev ≤ 9223372036854775807 := by rw [hx1]; exact he
  rw [← hx1] at HCe
  have HM := Lib.hid hm1
  have HR1 : Hid (∀ w, Calls Try.prog 38 #[effV x1] w fun x w' => x = .returned (.bool (rightB x1)) ∧ Below w.heap.size w w') := Lib.hid (refRight_any x1)
  have HO1 : Hid (∀ w, Calls Try.prog 37 #[effV x1] w fun x w' => x = .returned (effV x1) ∧ Below w.heap.size w w') := Lib.hid (oursE_any x1)
  have Hq := Lib.hid (And.intro hb hA)
  obtain ⟨p0, p1, p2, p3, -⟩ := four hA
  clear hW hb hA hx1 hm1 he
  go_enter Try.func10, Try.ntmps10
  go_upto_region 1 with fail
  change Code.wp _ _ _ _ (w.alloc (effR e))
  rw [← HW.out]
  clear HW
  go_upto_region 2 with (first
    | (go_at_call 35; refine (HCe.out _).mono ?_; rintro x wa ⟨rfl, hba⟩; have qa := (hba.block _ (heap_lt Hq.out.2)).trans Hq.out.2; obtain ⟨q0, q1, q2, q3, g0, g1, g2, g3⟩ := four qa; have HQ := Lib.hid qa; clear qa)
    | go_in)
  obtain ⟨wc, hwc⟩ : ∃ wc, wc = put4 wa w.heap.size (.string x1.key) (.string x1.val) (.int .i64 x1.rev) (.bool x1.gone) := ⟨_, rfl⟩
  have hAc : wc.heap[w.heap.size]? = some (effR x1) := by rw [hwc]; exact put4_at HQ.out _ _ _ _
  have hbc : Below w.heap.size w wc := by rw [hwc]; exact put4_below (Hq.out.1.trans (hba.mono Hq.out.1.size)) (Nat.le_refl _) _ _ _ _
  change Code.wp _ _ _ _ (put4 wa w.heap.size (.string x1.key) (.string x1.val) (.int .i64 x1.rev) (.bool x1.gone))
  rw [← hwc]
  have Hc := Lib.hid (And.intro hbc hAc)
  clear p0 p1 p2 p3 q0 q1 q2 q3 g0 g1 g2 g3 HQ Hq hba hwc HCe hbc
  obtain ⟨p0, p1, p2, p3, -⟩ := four hAc
  clear hAc
  by_cases hr : rightB x1 = true
  · have HP : Hid (∀ w, Calls Try.prog 36 #[effV x1] w fun x w' => ∃ v, x = .returned (.tuple #[v, .int .i64 0]) ∧ Owns w' w.heap.size v (effL x1) ∧ Below w.heap.size w w') := Lib.hid (fun w => put10_yes x1 w hr HM.out)
    have HRd : Hid (∀ b w, Sees w b (effL x1) → Calls Try.prog 40 #[b] w fun x w' => x = .returned (.tuple #[effV x1, .int .i64 0]) ∧ Below w.heap.size w w') := Lib.hid (fun b w h => read10_put x1 hr HM.out b w h)
    obtain ⟨_, r2, r3, r4, _⟩ := rightB_ok hr
    obtain ⟨ta, hta⟩ : ∃ ta, ta = strOfNums (effL x1) := ⟨_, rfl⟩
    have HF : Hid (∀ w, Calls Try.prog 41 #[effV x1] w fun x w' => x = .returned (.string ta) ∧ Below w.heap.size w w') := Lib.hid (fun w => by rw [hta]; exact refPut10_any x1 (by omega) (by omega) ⟨by omega, HM.out⟩ w)
    have HEQ : Hid (∀ w, (binOp .eql 38 (effV x1) (effV x1)).run Try.prog w = .ok (.bool true) w) := Lib.hid (fun w => by rw [eqEffK]; simp)
    have HTA := Lib.hid hta
    rw [hr] at HR1
    clear r2 r3 r4 hta hr
    go_upto_region 3 with (first
      | (go_at_call 37; refine (HO1.out _).mono ?_; rintro x wb ⟨rfl, hbb⟩)
      | (go_at_call 36; refine (HP.out _).mono ?_; rintro x wp ⟨va, rfl, hva, hbp⟩)
      | go_in)
    have hb3 := bel hbb hbp
    have hA3 := (hb3.block _ (heap_lt Hc.out.2)).trans Hc.out.2
    have H3 := Lib.hid (And.intro (Hc.out.1.trans (hb3.mono Hc.out.1.size)) (And.intro hA3 hva.sees))
    clear hbb hbp hb3 hva p0 p1 p2 p3
    obtain ⟨p0, p1, p2, p3, -⟩ := four hA3
    clear hA3
    go_upto_region 6 with (first
      | (go_at_call 38; refine (HR1.out _).mono ?_; rintro x wt ⟨rfl, hbt⟩)
      | (go_at_call 40; refine (HRd.out va wt (H3.out.2.2.keep hbt)).mono ?_; rintro x wr ⟨rfl, hbr⟩)
      | go_in)
    obtain ⟨wz, hwz⟩ : ∃ wz, wz = wr.alloc (.cells #[.string x1.key, .string x1.val, .int .i64 x1.rev, .bool x1.gone] 38) := ⟨_, rfl⟩
    change Code.wp _ _ _ _ (wr.alloc (.cells #[.string x1.key, .string x1.val, .int .i64 x1.rev, .bool x1.gone] 38))
    rw [← hwz]
    have hbz : Below wr.heap.size wr wz := by rw [hwz]; exact belNew _ _
    have hZ : wz.heap[wr.heap.size]? = some (.cells #[.string x1.key, .string x1.val, .int .i64 x1.rev, .bool x1.gone] 38 (0, 0)) := by rw [hwz]; exact heap_alloc_new wr _
    have hball := bel (bel hbt hbr) (hbz.mono (by omega))
    have hAz := (hball.block _ (heap_lt H3.out.2.1)).trans H3.out.2.1
    have hsz := H3.out.2.2.keep hball
    have HBZ := Lib.hid (H3.out.1.trans (hball.mono H3.out.1.size))
    have HCA : Hid (∀ W, Below wz.heap.size wz W → (convert 76 9 va).run Try.prog W = .ok (.string ta) W) := Lib.hid (fun W hW => by rw [HTA.out]; exact conv_sees (hsz.keep hW))
    clear p0 p1 p2 p3 hbt hbr hbz hball hsz hwz
    obtain ⟨p0, p1, p2, p3, -⟩ := four hAz
    obtain ⟨q0, q1, q2, q3, -⟩ := four hZ
    clear hAz hZ
    refine wp_region_held_drew (S := (fun W => Below wz.heap.size wz W)) (by kernel_rfl) ?_ (fun rr0 => ?_)
    · exact ⟨rfl, rfl, rfl, Nat.le_refl _, fun _ _ => rfl⟩
    refine wpAnyH_take (i := 0) (v := ?_) rfl (by kernel_rfl) (by kernel_rfl) (by kernel_rfl) (fun _ _ _ h => h) (Or.inl ⟨by rfl, ?_⟩) (by assumption) ?_
    rotate_left
    · intro wS hSw
      (try dsimp only at hSw)
      go_simp
      first | done | with_reducible rfl
    try simp only [Act.put, List.getElem_toArray, List.getElem_cons_zero, List.setIfInBounds_toArray, List.set_cons_zero, List.set_cons_succ]
    refine wpAnyH_take (i := 1) (v := ?_) rfl (by kernel_rfl) (by kernel_rfl) (by kernel_rfl) (fun _ _ _ h => h) (Or.inl ⟨by rfl, ?_⟩) (by assumption) ?_
    rotate_left
    · intro wS hSw
      (try dsimp only at hSw)
      go_simp
      first | done | with_reducible rfl
    try simp only [Act.put, List.getElem_toArray, List.getElem_cons_succ, List.getElem_cons_zero, List.setIfInBounds_toArray, List.set_cons_zero, List.set_cons_succ]
    refine wpAnyH_take (i := 2) (v := ?_) rfl (by kernel_rfl) (by kernel_rfl) (by kernel_rfl) (fun _ _ _ h => h) (Or.inl ⟨by rfl, ?_⟩) (by assumption) ?_
    rotate_left
    · intro wS hSw
      (try dsimp only at hSw)
      go_simp
      first | done | with_reducible rfl
    try simp only [Act.put, List.getElem_toArray, List.getElem_cons_succ, List.getElem_cons_zero, List.setIfInBounds_toArray, List.set_cons_zero, List.set_cons_succ]
    refine wpAnyH_take (i := 3) (v := ?_) rfl (by kernel_rfl) (by kernel_rfl) (by kernel_rfl) (fun _ _ _ h => h) (Or.inl ⟨by rfl, ?_⟩) (by assumption) ?_
    rotate_left
    · intro wS hSw
      (try dsimp only at hSw)
      go_simp
      first | done | with_reducible rfl
    try simp only [Act.put, List.getElem_toArray, List.getElem_cons_succ, List.getElem_cons_zero, List.setIfInBounds_toArray, List.set_cons_zero, List.set_cons_succ]
    refine wpAnyH_take (i := 4) (v := ?_) rfl (by kernel_rfl) (by kernel_rfl) (by kernel_rfl) (fun _ _ _ h => h) (Or.inl ⟨by rfl, ?_⟩) (by assumption) ?_
    rotate_left
    · intro wS hSw
      (try dsimp only at hSw)
      have hcv := HCA.out _ hSw
      go_simp
      first | done | with_reducible rfl
    try simp only [Act.put, List.getElem_toArray, List.getElem_cons_succ, List.getElem_cons_zero, List.setIfInBounds_toArray, List.set_cons_zero, List.set_cons_succ]
    refine wpAnyH_take (i := 5) (v := ?_) rfl (by kernel_rfl) (by kernel_rfl) (by kernel_rfl) (fun _ _ _ h => h) (Or.inl ⟨by rfl, ?_⟩) (by assumption) ?_
    rotate_left
    · intro wS hSw
      (try dsimp only at hSw)
      have p0 := bcell hSw p0
      have p1 := bcell hSw p1
      have p2 := bcell hSw p2
      have p3 := bcell hSw p3
      go_simp
      first | done | with_reducible rfl
    try simp only [Act.put, List.getElem_toArray, List.getElem_cons_succ, List.getElem_cons_zero, List.setIfInBounds_toArray, List.set_cons_zero, List.set_cons_succ]
    refine wpAnyH_ready (rs := [6]) (by kernel_rfl) (by simp) ?_
    refine AllReadyH.cons rfl (fun K hK => ?_) AllReadyH.nil
    go_simp
    refine (HF.out _).mono ?_; rintro x w8 ⟨rfl, hb8⟩
    refine hK.out _ _ ?_ (fun rr1 => ?_)
    · exact bel rr0 hb8
    try simp only [Act.put, List.getElem_toArray, List.getElem_cons_succ, List.getElem_cons_zero, List.setIfInBounds_toArray, List.set_cons_zero, List.set_cons_succ]
    refine wpAnyH_take (i := 7) (v := ?_) rfl (by kernel_rfl) (by kernel_rfl) (by kernel_rfl) (fun _ _ _ h => h) (Or.inl ⟨by rfl, ?_⟩) (by assumption) ?_
    rotate_left
    · intro wS hSw
      (try dsimp only at hSw)
      go_simp
      first | done | with_reducible rfl
    try simp only [Act.put, List.getElem_toArray, List.getElem_cons_succ, List.getElem_cons_zero, List.setIfInBounds_toArray, List.set_cons_zero, List.set_cons_succ]
    refine wpAnyH_take (i := 8) (v := ?_) rfl (by kernel_rfl) (by kernel_rfl) (by kernel_rfl) (fun _ _ _ h => h) (Or.inl ⟨by rfl, ?_⟩) (by assumption) ?_
    rotate_left
    · intro wS hSw
      (try dsimp only at hSw)
      go_simp
      first | done | with_reducible rfl
    try simp only [Act.put, List.getElem_toArray, List.getElem_cons_succ, List.getElem_cons_zero, List.setIfInBounds_toArray, List.set_cons_zero, List.set_cons_succ]
    refine wpAnyH_take (i := 9) (v := ?_) rfl (by kernel_rfl) (by kernel_rfl) (by kernel_rfl) (fun _ _ _ h => h) (Or.inl ⟨by rfl, ?_⟩) (by assumption) ?_
    rotate_left
    · intro wS hSw
      (try dsimp only at hSw)
      go_simp
      first | done | with_reducible rfl
    try simp only [Act.put, List.getElem_toArray, List.getElem_cons_succ, List.getElem_cons_zero, List.setIfInBounds_toArray, List.set_cons_zero, List.set_cons_succ]
    refine wpAnyH_take (i := 10) (v := ?_) rfl (by kernel_rfl) (by kernel_rfl) (by kernel_rfl) (fun _ _ _ h => h) (Or.inl ⟨by rfl, ?_⟩) (by assumption) ?_
    rotate_left
    · intro wS hSw
      (try dsimp only at hSw)
      go_simp
      first | done | with_reducible rfl
    try simp only [Act.put, List.getElem_toArray, List.getElem_cons_succ, List.getElem_cons_zero, List.setIfInBounds_toArray, List.set_cons_zero, List.set_cons_succ]
    refine wpAnyH_take (i := 11) (v := ?_) rfl (by kernel_rfl) (by kernel_rfl) (by kernel_rfl) (fun _ _ _ h => h) (Or.inl ⟨by rfl, ?_⟩) (by assumption) ?_
    rotate_left
    · intro wS hSw
      (try dsimp only at hSw)
      go_simp
      first | done | with_reducible rfl
    try simp only [Act.put, List.getElem_toArray, List.getElem_cons_succ, List.getElem_cons_zero, List.setIfInBounds_toArray, List.set_cons_zero, List.set_cons_succ]
    refine wpAnyH_take (i := 12) (v := ?_) rfl (by kernel_rfl) (by kernel_rfl) (by kernel_rfl) (fun _ _ _ h => h) (Or.inl ⟨by rfl, ?_⟩) (by assumption) ?_
    rotate_left
    · intro wS hSw
      (try dsimp only at hSw)
      go_simp
      first | done | with_reducible rfl
    try simp only [Act.put, List.getElem_toArray, List.getElem_cons_succ, List.getElem_cons_zero, List.setIfInBounds_toArray, List.set_cons_zero, List.set_cons_succ]
    refine wpAnyH_take (i := 13) (v := ?_) rfl (by kernel_rfl) (by kernel_rfl) (by kernel_rfl) (fun _ _ _ h => h) (Or.inl ⟨by rfl, ?_⟩) (by assumption) ?_
    rotate_left
    · intro wS hSw
      (try dsimp only at hSw)
      go_simp
      first | done | with_reducible rfl
    try simp only [Act.put, List.getElem_toArray, List.getElem_cons_succ, List.getElem_cons_zero, List.setIfInBounds_toArray, List.set_cons_zero, List.set_cons_succ]
    refine wpAnyH_take (i := 14) (v := ?_) rfl (by kernel_rfl) (by kernel_rfl) (by kernel_rfl) (fun _ _ _ h => h) (Or.inl ⟨by rfl, ?_⟩) (by assumption) ?_
    rotate_left
    · intro wS hSw
      (try dsimp only at hSw)
      have q0 := bcell hSw q0
      have q1 := bcell hSw q1
      have q2 := bcell hSw q2
      have q3 := bcell hSw q3
      go_simp
      first | done | with_reducible rfl
    try simp only [Act.put, List.getElem_toArray, List.getElem_cons_succ, List.getElem_cons_zero, List.setIfInBounds_toArray, List.set_cons_zero, List.set_cons_succ]
    refine wpAnyH_take (i := 15) (v := ?_) rfl (by kernel_rfl) (by kernel_rfl) (by kernel_rfl) (fun _ _ _ h => h) (Or.inl ⟨by rfl, ?_⟩) (by assumption) ?_
    rotate_left
    · intro wS hSw
      (try dsimp only at hSw)
      have p0 := bcell hSw p0
      have p1 := bcell hSw p1
      have p2 := bcell hSw p2
      have p3 := bcell hSw p3
      go_simp
      first | done | with_reducible rfl
    try simp only [Act.put, List.getElem_toArray, List.getElem_cons_succ, List.getElem_cons_zero, List.setIfInBounds_toArray, List.set_cons_zero, List.set_cons_succ]
    refine wpAnyH_ready (rs := [16]) (by kernel_rfl) (by simp) ?_
    refine AllReadyH.cons rfl (fun K hK => ?_) AllReadyH.nil
    go_simp
    refine (HO1.out _).mono ?_; rintro x w9 ⟨rfl, hb9⟩
    refine hK.out _ _ ?_ (fun rr2 => ?_)
    · exact bel rr1 hb9
    try simp only [Act.put, List.getElem_toArray, List.getElem_cons_succ, List.getElem_cons_zero, List.setIfInBounds_toArray, List.set_cons_zero, List.set_cons_succ]
    refine wpAnyH_take (i := 17) (v := ?_) rfl (by kernel_rfl) (by kernel_rfl) (by kernel_rfl) (fun _ _ _ h => h) (Or.inl ⟨by rfl, ?_⟩) (by assumption) ?_
    rotate_left
    · intro wS hSw
      (try dsimp only at hSw)
      have hE := HEQ.out wS
      go_simp
      first | done | with_reducible rfl
    try simp only [Act.put, List.getElem_toArray, List.getElem_cons_succ, List.getElem_cons_zero, List.setIfInBounds_toArray, List.set_cons_zero, List.set_cons_succ]
    refine wpAnyH_take (i := 18) (v := ?_) rfl (by kernel_rfl) (by kernel_rfl) (by kernel_rfl) (fun _ _ _ h => h) (Or.inl ⟨by rfl, ?_⟩) (by assumption) ?_
    rotate_left
    · intro wS hSw
      (try dsimp only at hSw)
      go_simp
      first | done | with_reducible rfl
    try simp only [Act.put, List.getElem_toArray, List.getElem_cons_succ, List.getElem_cons_zero, List.setIfInBounds_toArray, List.set_cons_zero, List.set_cons_succ]
    refine wpAnyH_take (i := 19) (v := ?_) rfl (by kernel_rfl) (by kernel_rfl) (by kernel_rfl) (fun _ _ _ h => h) (Or.inl ⟨by rfl, ?_⟩) (by assumption) ?_
    rotate_left
    · intro wS hSw
      (try dsimp only at hSw)
      go_simp
      first | done | with_reducible rfl
    try simp only [Act.put, List.getElem_toArray, List.getElem_cons_succ, List.getElem_cons_zero, List.setIfInBounds_toArray, List.set_cons_zero, List.set_cons_succ]
    refine wpAnyH_ready (rs := [20]) (by kernel_rfl) (by simp) ?_
    refine AllReadyH.cons rfl (fun K hK => ?_) AllReadyH.nil
    go_simp
    refine (awake10_any _).mono ?_; rintro x w10 ⟨rfl, hb10⟩
    refine hK.out _ _ ?_ (fun rr3 => ?_)
    · exact bel rr2 hb10
    try simp only [Act.put, List.getElem_toArray, List.getElem_cons_succ, List.getElem_cons_zero, List.setIfInBounds_toArray, List.set_cons_zero, List.set_cons_succ]
    refine wpAnyH_take (i := 21) (v := ?_) rfl (by kernel_rfl) (by kernel_rfl) (by kernel_rfl) (fun _ _ _ h => h) (Or.inl ⟨by rfl, ?_⟩) (by assumption) ?_
    rotate_left
    · intro wS hSw
      (try dsimp only at hSw)
      go_simp
      first | done | with_reducible rfl
    try simp only [Act.put, List.getElem_toArray, List.getElem_cons_succ, List.getElem_cons_zero, List.setIfInBounds_toArray, List.set_cons_zero, List.set_cons_succ]
    refine wpAnyH_take (i := 22) (v := ?_) rfl (by kernel_rfl) (by kernel_rfl) (by kernel_rfl) (fun _ _ _ h => h) (Or.inl ⟨by rfl, ?_⟩) (by assumption) ?_
    rotate_left
    · intro wS hSw
      (try dsimp only at hSw)
      go_simp
      first | done | with_reducible rfl
    try simp only [Act.put, List.getElem_toArray, List.getElem_cons_succ, List.getElem_cons_zero, List.setIfInBounds_toArray, List.set_cons_zero, List.set_cons_succ]
    refine wpAnyH_done (by kernel_rfl) ?_ _
    go_wp2_with fail
    go_ret
    exact ⟨rfl, HBZ.out.trans (rr3.mono HBZ.out.size)⟩
  · have hr' : rightB x1 = false := by simpa using hr
    have HP : Hid (∀ w, Calls Try.prog 36 #[effV x1] w fun x w' => x = .returned (.tuple #[.slice none 0 0, .int .i64 1]) ∧ Below w.heap.size w w') := Lib.hid (fun w => put10_no x1 w hr')
    rw [hr'] at HR1
    clear hr hr'
    go_upto_region 3 with (first
      | (go_at_call 37; refine (HO1.out _).mono ?_; rintro x wb ⟨rfl, hbb⟩)
      | (go_at_call 36; refine (HP.out _).mono ?_; rintro x wp ⟨rfl, hbp⟩)
      | go_in)
    have hb3 := bel hbb hbp
    have hA3 := (hb3.block _ (heap_lt Hc.out.2)).trans Hc.out.2
    have H3 := Lib.hid (Hc.out.1.trans (hb3.mono Hc.out.1.size))
    clear hbb hbp hb3 p0 p1 p2 p3
    obtain ⟨p0, p1, p2, p3, -⟩ := four hA3
    clear hA3
    go_wp2_with (first
      | (go_at_call 38; refine (HR1.out _).mono ?_; rintro x wt ⟨rfl, hbt⟩)
      | (go_at_call 39; refine (awake10_any _).mono ?_; rintro x wy ⟨rfl, hby⟩)
      | go_in)
    go_ret
    exact ⟨rfl, H3.out.trans ((bel hbt hby).mono H3.out.size)⟩
end Go.Proofs.Ytogcjginifcbpaa
