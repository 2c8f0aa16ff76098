/- Package redo: Put; the law's cut, ours; the document's Right; the chapter's example. Made by g_rdput2.py. -/
import Derived.Test.YtogcjginifcbpaaRdPut
namespace Go.Proofs.Ytogcjginifcbpaa
open Go.RowKit Go.Maps
def kindOf (e : KEff) : Int := if e.gone = true then 2 else 1
/-- An effect's bytes. -/
def effL (e : KEff) : List Int := putL (kindOf e) 1 ++ itemL (kl e.key, (e.val, e.rev))
theorem rightB_ok {e : KEff} (h : rightB e = true) : 1 ≤ e.key.size ∧ e.key.size ≤ 128 ∧ e.val.size ≤ 65536 ∧ 1 ≤ e.rev ∧ (e.gone = true → e.val = emp) := by
  unfold rightB ofB at h
  simp only [standB, itOkB, Bool.and_eq_true, decide_eq_true_eq] at h
  obtain ⟨⟨h0, ⟨h1, h2, h3, h4, h5⟩, -⟩, h6⟩ := h
  rw [kl_str] at h1
  unfold mayK at h1
  unfold mayV at h2
  rw [decide_eq_true_eq] at h1 h2
  refine ⟨h1.1, h1.2, h2, h4, fun hg => ?_⟩
  rw [hg, Bool.true_and, Bool.not_not, eq_empty, decide_eq_true_eq] at h6
  apply kl_inj
  have := kl_len e.val
  rw [h6] at this
  rw [List.eq_nil_of_length_eq_zero this]
set_option maxRecDepth 100000 in
set_option maxHeartbeats 4000000 in
theorem put10_no (e : KEff) (w : World) (hr : rightB e = false) : Calls Try.prog 36 #[effV e] w fun x w' => x = .returned (.tuple #[.slice none 0 0, .int .i64 1]) ∧ Below w.heap.size w w' := by
  have HR : Hid (∀ w, Calls Try.prog 57 #[effV e] w fun x w' => x = .returned (.bool false) ∧ Below w.heap.size w w') := Lib.hid (fun w => by have := right_any e w; rw [hr] at this; exact this)
  have HB := Lib.hid (belNew w (effO e))
  clear hr
  go_enter Try.func36, Try.ntmps36
  go_wp2_with (first
    | (go_at_call 57; refine (HR.out _).mono ?_; rintro x w2 ⟨rfl, hb2⟩)
    | go_in)
  go_ret2
  exact ⟨rfl, bel HB.out hb2⟩
set_option maxRecDepth 100000 in
set_option maxHeartbeats 4000000 in
theorem put10_yes (e : KEff) (w : World) (hr : rightB e = true) (hm : e.rev ≤ 9223372036854775807) : Calls Try.prog 36 #[effV e] w fun x w' => ∃ v, x = .returned (.tuple #[v, .int .i64 0]) ∧ Owns w' w.heap.size v (effL e) ∧ Below w.heap.size w w' := by
  have HR : Hid (∀ w, Calls Try.prog 57 #[effV e] w fun x w' => x = .returned (.bool true) ∧ Below w.heap.size w w') := Lib.hid (fun w => by have := right_any e w; rw [hr] at this; exact this)
  have HOK := Lib.hid (rightB_ok hr)
  obtain ⟨w1, hw1⟩ : ∃ w1, w1 = w.alloc (effO e) := ⟨_, rfl⟩
  have hb1 : Below w.heap.size w w1 := by rw [hw1]; exact belNew _ _
  have hn1 : w1.heap[w.heap.size]? = some (effO e) := by rw [hw1]; exact heap_alloc_new w _
  obtain ⟨e0, e1, e2, e3, -⟩ := four hn1
  have HW := Lib.hid hw1
  have H1 := Lib.hid (And.intro hb1 hn1)
  have HM := Lib.hid hm
  clear hr hw1 hb1 hn1 hm
  go_enter Try.func36, Try.ntmps36
  go_upto_region 1 with fail
  change Code.wp _ _ _ _ (w.alloc (effO e))
  rw [← HW.out]
  clear HW
  go_upto_region 3 with (first
    | (go_at_call 57; refine (HR.out _).mono ?_; rintro x w2 ⟨rfl, hb2⟩)
    | go_in)
  have hn2 := (hb2.block _ (heap_lt H1.out.2)).trans H1.out.2
  have H2 := Lib.hid (And.intro (H1.out.1.trans (hb2.mono H1.out.1.size)) hn2)
  clear e0 e1 e2 e3 hb2
  obtain ⟨e0, e1, e2, e3, -⟩ := four hn2
  clear hn2
  obtain ⟨K0, hK0⟩ : ∃ K0, K0 = kindOf e := ⟨_, rfl⟩
  have hKb : 0 ≤ K0 ∧ K0 ≤ 2 := by rw [hK0]; unfold kindOf; split <;> omega
  have HK0 := Lib.hid (And.intro hK0 hKb)
  cases hg : e.gone <;> rw [hg] at e3
  · have hgN := Lib.hid hg
    clear hg
    have hK2 : kindOf e = 1 := by unfold kindOf; rw [if_neg (by rw [hgN.out]; simp)]
    have HK2 := Lib.hid hK2
    clear hK2 hK0 hKb
    go_upto_region 6 with fail
    refine wp_region_held_drew (S := (fun W => W.heap[w.heap.size]? = some (effO e))) (by kernel_rfl) ?_ (fun r0 => ?_)
    · exact H2.out.2
    obtain ⟨wd, hwd⟩ : ∃ wd, wd = w2.drew := ⟨_, rfl⟩
    rw [← hwd] at r0 ⊢
    have hbd : Below w.heap.size w wd := by rw [hwd]; exact bdrew H2.out.1
    clear hwd e0 e1 e2 e3
    refine wpAnyH_take (i := 0) (v := ?_) rfl (by kernel_rfl) (by kernel_rfl) (by kernel_rfl) (fun _ _ _ h => h) (Or.inl ⟨by rfl, ?_⟩) (by assumption) ?_
    rotate_left
    · intro wS hSw
      (try dsimp only at hSw)
      go_simp
      first | done | with_reducible rfl
    try simp only [Act.put, List.getElem_toArray, List.getElem_cons_zero, List.setIfInBounds_toArray, List.set_cons_zero, List.set_cons_succ]
    refine wpAnyH_take (i := 2) (v := ?_) rfl (by kernel_rfl) (by kernel_rfl) (by kernel_rfl) (fun _ _ _ h => h) (Or.inl ⟨by rfl, ?_⟩) (by assumption) ?_
    rotate_left
    · intro wS hSw
      (try dsimp only at hSw)
      go_simp
      first | done | with_reducible rfl
    try simp only [Act.put, List.getElem_toArray, List.getElem_cons_succ, List.getElem_cons_zero, List.setIfInBounds_toArray, List.set_cons_zero, List.set_cons_succ]
    refine wpAnyH_take (i := 3) (v := ?_) rfl (by kernel_rfl) (by kernel_rfl) (by kernel_rfl) (fun _ _ _ h => h) (Or.inl ⟨by rfl, ?_⟩) (by assumption) ?_
    rotate_left
    · intro wS hSw
      (try dsimp only at hSw)
      obtain ⟨e0, e1, e2, e3, -⟩ := four hSw
      go_simp
      first | done | with_reducible rfl
    try simp only [Act.put, List.getElem_toArray, List.getElem_cons_succ, List.getElem_cons_zero, List.setIfInBounds_toArray, List.set_cons_zero, List.set_cons_succ]
    refine wpAnyH_take (i := 4) (v := ?_) rfl (by kernel_rfl) (by kernel_rfl) (by kernel_rfl) (fun _ _ _ h => h) (Or.inl ⟨by rfl, ?_⟩) (by assumption) ?_
    rotate_left
    · intro wS hSw
      (try dsimp only at hSw)
      go_simp
      first | done | with_reducible rfl
    try simp only [Act.put, List.getElem_toArray, List.getElem_cons_succ, List.getElem_cons_zero, List.setIfInBounds_toArray, List.set_cons_zero, List.set_cons_succ]
    refine wpAnyH_take (i := 5) (v := ?_) rfl (by kernel_rfl) (by kernel_rfl) (by kernel_rfl) (fun _ _ _ h => h) (Or.inl ⟨by rfl, ?_⟩) (by assumption) ?_
    rotate_left
    · intro wS hSw
      (try dsimp only at hSw)
      obtain ⟨e0, e1, e2, e3, -⟩ := four hSw
      go_simp
      first | done | with_reducible rfl
    try simp only [Act.put, List.getElem_toArray, List.getElem_cons_succ, List.getElem_cons_zero, List.setIfInBounds_toArray, List.set_cons_zero, List.set_cons_succ]
    refine wpAnyH_take (i := 6) (v := ?_) rfl (by kernel_rfl) (by kernel_rfl) (by kernel_rfl) (fun _ _ _ h => h) (Or.inl ⟨by rfl, ?_⟩) (by assumption) ?_
    rotate_left
    · intro wS hSw
      (try dsimp only at hSw)
      go_simp
      first | done | with_reducible rfl
    try simp only [Act.put, List.getElem_toArray, List.getElem_cons_succ, List.getElem_cons_zero, List.setIfInBounds_toArray, List.set_cons_zero, List.set_cons_succ]
    refine wpAnyH_take (i := 7) (v := ?_) rfl (by kernel_rfl) (by kernel_rfl) (by kernel_rfl) (fun _ _ _ h => h) (Or.inl ⟨by rfl, ?_⟩) (by assumption) ?_
    rotate_left
    · intro wS hSw
      (try dsimp only at hSw)
      obtain ⟨e0, e1, e2, e3, -⟩ := four hSw
      go_simp
      first | done | with_reducible rfl
    try simp only [Act.put, List.getElem_toArray, List.getElem_cons_succ, List.getElem_cons_zero, List.setIfInBounds_toArray, List.set_cons_zero, List.set_cons_succ]
    refine wpAnyH_take (i := 8) (v := ?_) rfl (by kernel_rfl) (by kernel_rfl) (by kernel_rfl) (fun _ _ _ h => h) (Or.inl ⟨by rfl, ?_⟩) (by assumption) ?_
    rotate_left
    · intro wS hSw
      (try dsimp only at hSw)
      go_simp
      first | done | with_reducible rfl
    try simp only [Act.put, List.getElem_toArray, List.getElem_cons_succ, List.getElem_cons_zero, List.setIfInBounds_toArray, List.set_cons_zero, List.set_cons_succ]
    refine wpAnyH_ready (rs := [1]) (by kernel_rfl) (by simp) ?_
    refine AllReadyH.cons rfl (fun K hK => ?_) AllReadyH.nil
    go_simp
    refine (putNumber_any w.heap.size (.slice none 0 0) [] 1 1 wd (World.ownsRow_nil _ _ _ _) rfl (by simp) hbd.size).mono ?_; rintro x w3 ⟨u3, rfl, hu3, hb3⟩
    rw [List.nil_append] at hu3
    refine hK.out _ _ ?_ (fun r1 => ?_)
    · exact hb3.cells r0 (by decide)
    try simp only [Act.put, List.getElem_toArray, List.getElem_cons_succ, List.getElem_cons_zero, List.setIfInBounds_toArray, List.set_cons_zero, List.set_cons_succ]
    have hit := putItem_any w.heap.size u3 (putL 1 1) (kl e.key, (e.val, e.rev)) w3 hu3 (by have := putL_len 1 1; omega) (by rw [kl_str]; have := HOK.out.2.1; omega) (by have := HOK.out.2.2.1; simp only []; omega) (by have := HOK.out.2.2.2.1; have := HM.out; simp only []; omega) (Nat.le_trans hbd.size hb3.2.1)
    rw [kl_str] at hit
    refine wpAnyH_ready (rs := [9]) (by kernel_rfl) (by simp) ?_
    refine AllReadyH.cons rfl (fun K hK => ?_) AllReadyH.nil
    go_simp
    refine hit.mono ?_; rintro x w4 ⟨u4, rfl, hu4, hb4⟩
    refine hK.out _ _ ?_ (fun r2 => ?_)
    · exact hb4.cells r1 (by decide)
    try simp only [Act.put, List.getElem_toArray, List.getElem_cons_succ, List.getElem_cons_zero, List.setIfInBounds_toArray, List.set_cons_zero, List.set_cons_succ]
    refine wpAnyH_take (i := 10) (v := ?_) rfl (by kernel_rfl) (by kernel_rfl) (by kernel_rfl) (fun _ _ _ h => h) (Or.inl ⟨by rfl, ?_⟩) (by assumption) ?_
    rotate_left
    · intro wS hSw
      (try dsimp only at hSw)
      go_simp
      first | done | with_reducible rfl
    try simp only [Act.put, List.getElem_toArray, List.getElem_cons_succ, List.getElem_cons_zero, List.setIfInBounds_toArray, List.set_cons_zero, List.set_cons_succ]
    refine wpAnyH_take (i := 11) (v := ?_) rfl (by kernel_rfl) (by kernel_rfl) (by kernel_rfl) (fun _ _ _ h => h) (Or.inl ⟨by rfl, ?_⟩) (by assumption) ?_
    rotate_left
    · intro wS hSw
      (try dsimp only at hSw)
      go_simp
      first | done | with_reducible rfl
    try simp only [Act.put, List.getElem_toArray, List.getElem_cons_succ, List.getElem_cons_zero, List.setIfInBounds_toArray, List.set_cons_zero, List.set_cons_succ]
    refine wpAnyH_done (by kernel_rfl) ?_ _
    go_wp2_with fail
    go_ret2
    refine ⟨_, rfl, ?_, (hbd.trans hb3.1).trans hb4.1⟩
    unfold effL
    rw [HK2.out]
    exact hu4
  · have hgN := Lib.hid hg
    clear hg
    have hK2 : kindOf e = 2 := by unfold kindOf; rw [if_pos hgN.out]
    have HK2 := Lib.hid hK2
    clear hK2 hK0 hKb
    go_upto_region 6 with fail
    refine wp_region_held_drew (S := (fun W => W.heap[w.heap.size]? = some (effO e))) (by kernel_rfl) ?_ (fun r0 => ?_)
    · exact H2.out.2
    obtain ⟨wd, hwd⟩ : ∃ wd, wd = w2.drew := ⟨_, rfl⟩
    rw [← hwd] at r0 ⊢
    have hbd : Below w.heap.size w wd := by rw [hwd]; exact bdrew H2.out.1
    clear hwd e0 e1 e2 e3
    refine wpAnyH_take (i := 0) (v := ?_) rfl (by kernel_rfl) (by kernel_rfl) (by kernel_rfl) (fun _ _ _ h => h) (Or.inl ⟨by rfl, ?_⟩) (by assumption) ?_
    rotate_left
    · intro wS hSw
      (try dsimp only at hSw)
      go_simp
      first | done | with_reducible rfl
    try simp only [Act.put, List.getElem_toArray, List.getElem_cons_zero, List.setIfInBounds_toArray, List.set_cons_zero, List.set_cons_succ]
    refine wpAnyH_take (i := 2) (v := ?_) rfl (by kernel_rfl) (by kernel_rfl) (by kernel_rfl) (fun _ _ _ h => h) (Or.inl ⟨by rfl, ?_⟩) (by assumption) ?_
    rotate_left
    · intro wS hSw
      (try dsimp only at hSw)
      go_simp
      first | done | with_reducible rfl
    try simp only [Act.put, List.getElem_toArray, List.getElem_cons_succ, List.getElem_cons_zero, List.setIfInBounds_toArray, List.set_cons_zero, List.set_cons_succ]
    refine wpAnyH_take (i := 3) (v := ?_) rfl (by kernel_rfl) (by kernel_rfl) (by kernel_rfl) (fun _ _ _ h => h) (Or.inl ⟨by rfl, ?_⟩) (by assumption) ?_
    rotate_left
    · intro wS hSw
      (try dsimp only at hSw)
      obtain ⟨e0, e1, e2, e3, -⟩ := four hSw
      go_simp
      first | done | with_reducible rfl
    try simp only [Act.put, List.getElem_toArray, List.getElem_cons_succ, List.getElem_cons_zero, List.setIfInBounds_toArray, List.set_cons_zero, List.set_cons_succ]
    refine wpAnyH_take (i := 4) (v := ?_) rfl (by kernel_rfl) (by kernel_rfl) (by kernel_rfl) (fun _ _ _ h => h) (Or.inl ⟨by rfl, ?_⟩) (by assumption) ?_
    rotate_left
    · intro wS hSw
      (try dsimp only at hSw)
      go_simp
      first | done | with_reducible rfl
    try simp only [Act.put, List.getElem_toArray, List.getElem_cons_succ, List.getElem_cons_zero, List.setIfInBounds_toArray, List.set_cons_zero, List.set_cons_succ]
    refine wpAnyH_take (i := 5) (v := ?_) rfl (by kernel_rfl) (by kernel_rfl) (by kernel_rfl) (fun _ _ _ h => h) (Or.inl ⟨by rfl, ?_⟩) (by assumption) ?_
    rotate_left
    · intro wS hSw
      (try dsimp only at hSw)
      obtain ⟨e0, e1, e2, e3, -⟩ := four hSw
      go_simp
      first | done | with_reducible rfl
    try simp only [Act.put, List.getElem_toArray, List.getElem_cons_succ, List.getElem_cons_zero, List.setIfInBounds_toArray, List.set_cons_zero, List.set_cons_succ]
    refine wpAnyH_take (i := 6) (v := ?_) rfl (by kernel_rfl) (by kernel_rfl) (by kernel_rfl) (fun _ _ _ h => h) (Or.inl ⟨by rfl, ?_⟩) (by assumption) ?_
    rotate_left
    · intro wS hSw
      (try dsimp only at hSw)
      go_simp
      first | done | with_reducible rfl
    try simp only [Act.put, List.getElem_toArray, List.getElem_cons_succ, List.getElem_cons_zero, List.setIfInBounds_toArray, List.set_cons_zero, List.set_cons_succ]
    refine wpAnyH_take (i := 7) (v := ?_) rfl (by kernel_rfl) (by kernel_rfl) (by kernel_rfl) (fun _ _ _ h => h) (Or.inl ⟨by rfl, ?_⟩) (by assumption) ?_
    rotate_left
    · intro wS hSw
      (try dsimp only at hSw)
      obtain ⟨e0, e1, e2, e3, -⟩ := four hSw
      go_simp
      first | done | with_reducible rfl
    try simp only [Act.put, List.getElem_toArray, List.getElem_cons_succ, List.getElem_cons_zero, List.setIfInBounds_toArray, List.set_cons_zero, List.set_cons_succ]
    refine wpAnyH_take (i := 8) (v := ?_) rfl (by kernel_rfl) (by kernel_rfl) (by kernel_rfl) (fun _ _ _ h => h) (Or.inl ⟨by rfl, ?_⟩) (by assumption) ?_
    rotate_left
    · intro wS hSw
      (try dsimp only at hSw)
      go_simp
      first | done | with_reducible rfl
    try simp only [Act.put, List.getElem_toArray, List.getElem_cons_succ, List.getElem_cons_zero, List.setIfInBounds_toArray, List.set_cons_zero, List.set_cons_succ]
    refine wpAnyH_ready (rs := [1]) (by kernel_rfl) (by simp) ?_
    refine AllReadyH.cons rfl (fun K hK => ?_) AllReadyH.nil
    go_simp
    refine (putNumber_any w.heap.size (.slice none 0 0) [] 2 1 wd (World.ownsRow_nil _ _ _ _) rfl (by simp) hbd.size).mono ?_; rintro x w3 ⟨u3, rfl, hu3, hb3⟩
    rw [List.nil_append] at hu3
    refine hK.out _ _ ?_ (fun r1 => ?_)
    · exact hb3.cells r0 (by decide)
    try simp only [Act.put, List.getElem_toArray, List.getElem_cons_succ, List.getElem_cons_zero, List.setIfInBounds_toArray, List.set_cons_zero, List.set_cons_succ]
    have hit := putItem_any w.heap.size u3 (putL 2 1) (kl e.key, (e.val, e.rev)) w3 hu3 (by have := putL_len 2 1; omega) (by rw [kl_str]; have := HOK.out.2.1; omega) (by have := HOK.out.2.2.1; simp only []; omega) (by have := HOK.out.2.2.2.1; have := HM.out; simp only []; omega) (Nat.le_trans hbd.size hb3.2.1)
    rw [kl_str] at hit
    refine wpAnyH_ready (rs := [9]) (by kernel_rfl) (by simp) ?_
    refine AllReadyH.cons rfl (fun K hK => ?_) AllReadyH.nil
    go_simp
    refine hit.mono ?_; rintro x w4 ⟨u4, rfl, hu4, hb4⟩
    refine hK.out _ _ ?_ (fun r2 => ?_)
    · exact hb4.cells r1 (by decide)
    try simp only [Act.put, List.getElem_toArray, List.getElem_cons_succ, List.getElem_cons_zero, List.setIfInBounds_toArray, List.set_cons_zero, List.set_cons_succ]
    refine wpAnyH_take (i := 10) (v := ?_) rfl (by kernel_rfl) (by kernel_rfl) (by kernel_rfl) (fun _ _ _ h => h) (Or.inl ⟨by rfl, ?_⟩) (by assumption) ?_
    rotate_left
    · intro wS hSw
      (try dsimp only at hSw)
      go_simp
      first | done | with_reducible rfl
    try simp only [Act.put, List.getElem_toArray, List.getElem_cons_succ, List.getElem_cons_zero, List.setIfInBounds_toArray, List.set_cons_zero, List.set_cons_succ]
    refine wpAnyH_take (i := 11) (v := ?_) rfl (by kernel_rfl) (by kernel_rfl) (by kernel_rfl) (fun _ _ _ h => h) (Or.inl ⟨by rfl, ?_⟩) (by assumption) ?_
    rotate_left
    · intro wS hSw
      (try dsimp only at hSw)
      go_simp
      first | done | with_reducible rfl
    try simp only [Act.put, List.getElem_toArray, List.getElem_cons_succ, List.getElem_cons_zero, List.setIfInBounds_toArray, List.set_cons_zero, List.set_cons_succ]
    refine wpAnyH_done (by kernel_rfl) ?_ _
    go_wp2_with fail
    go_ret2
    refine ⟨_, rfl, ?_, (hbd.trans hb3.1).trans hb4.1⟩
    unfold effL
    rw [HK2.out]
    exact hu4
end Go.Proofs.Ytogcjginifcbpaa
