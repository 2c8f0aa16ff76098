/- The document's own Save. -/
import Derived.Test.YtkjdfelmjanpcaaDoorSnRef
namespace Go.Proofs.YtkjdfelmjanpcaaDoor
open Go.RowKit Go.Maps
theorem Sees.ltC {w : World} {v : Value} {xs : List Int} (h : Sees w v xs) (hne : xs ≠ []) {d : Nat} (hd : v.ownBlock = some d) : d < w.heap.size := by
  obtain ⟨ao, c, rfl, _, _, hc⟩ := h
  cases ao with
  | none => cases hd
  | some b0 =>
    have := cell_lt8 (hc b0 rfl 0 (List.length_pos_iff.2 hne))
    rw [add_block] at this
    cases hd
    exact this
theorem rsave_empty (r : Nat) (v : Value) (w : World) : Calls Tryd.prog 32 #[ptr r, .string ⟨#[]⟩, v] w fun e w' => e = .returned (.int .i64 1) ∧ w = w' := by
  go_enter Tryd.func32, Tryd.ntmps32
  go_wp2_with fail
  go_ret
  exact ⟨rfl, rfl⟩
set_option linter.unusedVariables false in
set_option linter.unusedSimpArgs false in
set_option maxRecDepth 100000 in
set_option maxHeartbeats 8000000 in
theorem rsave_any (r : Nat) (Q : Nat → Prop) (D : DSt) (nm : ByteArray) (v : Value) (xs : List Int) (w : World) (h : RefAt w r Q D) (hs0 : nm.data.toList ≠ []) (hs : nm.size + 1 ≤ 9223372036854775807) (hn : D.fs.length ≤ 1000) (hb : ((getE D.fs (tilde nm).data.toList).getD ([], 0)).1.length ≤ 1000000) (hsee : Sees w v xs) (hvQ : xs ≠ [] → ∀ d, v.ownBlock = some d → ¬ Q d) (hok : okB xs) (hxl : xs.length ≤ 1000000) :
    Calls Tryd.prog 32 #[ptr r, .string nm, v] w fun e w' => ∃ Q', e = .returned (.int .i64 (saveD D nm xs).1) ∧ RefAt w' r Q' (saveD D nm xs).2 ∧ Step Q Q' w w' := by
  have d0 : (nm.toList == ([] : List UInt8)) = false := by rw [ByteArray.toList_eq]; simpa using hs0
  have h0 : ¬ 9223372036854775807 < nm.size + 1 := by omega
  have hT : nm ++ (⟨#[126]⟩ : ByteArray) = tilde nm := rfl
  have HTN := Lib.hid (tilde_ne nm)
  obtain ⟨sp, hsp⟩ : ∃ sp, sp = tilde nm := ⟨_, rfl⟩
  have hE1 : saveD D nm xs = stepsD D nm.data.toList sp.data.toList xs := by rw [hsp]; rfl
  rw [hE1]
  rw [← hsp] at hT HTN hb
  clear hE1 hsp
  have H1 := Lib.hid (Remove_r r Q D sp w h (by omega))
  have hl1 := rmD_len D sp.data.toList
  have hg1 := rmD_get D sp.data.toList
  obtain ⟨e0, he0⟩ : ∃ e0, e0 = (removeD D sp.data.toList).1 := ⟨_, rfl⟩
  obtain ⟨D1, hD1⟩ : ∃ D1, D1 = (removeD D sp.data.toList).2 := ⟨_, rfl⟩
  have hrm : rmD D sp.data.toList = if e0 = 6 then (0, D1) else (e0, D1) := by
    unfold rmD
    rw [← he0, ← hD1]
    by_cases h6 : e0 = 6
    · rw [if_pos h6, if_pos h6]
    · rw [if_neg h6, if_neg h6, he0, hD1]
  have hrm2 : (rmD D sp.data.toList).2 = D1 := by rw [hrm]; split <;> rfl
  have hl2 := appD_len D1 sp.data.toList (sealL xs)
  obtain ⟨e2, he2⟩ : ∃ e2, e2 = (appD D1 sp.data.toList (sealL xs)).1 := ⟨_, rfl⟩
  obtain ⟨D2, hD2⟩ : ∃ D2, D2 = (appD D1 sp.data.toList (sealL xs)).2 := ⟨_, rfl⟩
  have hl3 := syncD_len D2 sp.data.toList
  obtain ⟨e3, he3⟩ : ∃ e3, e3 = (syncD D2 sp.data.toList).1 := ⟨_, rfl⟩
  obtain ⟨D3, hD3⟩ : ∃ D3, D3 = (syncD D2 sp.data.toList).2 := ⟨_, rfl⟩
  obtain ⟨e4, he4⟩ : ∃ e4, e4 = (renameD D3 sp.data.toList nm.data.toList).1 := ⟨_, rfl⟩
  obtain ⟨D4, hD4⟩ : ∃ D4, D4 = (renameD D3 sp.data.toList nm.data.toList).2 := ⟨_, rfl⟩
  obtain ⟨R, hR⟩ : ∃ R, R = stepsD D nm.data.toList sp.data.toList xs := ⟨_, rfl⟩
  have hrm1 : e0 = 0 ∨ e0 = 6 → (rmD D sp.data.toList).1 = 0 := fun hh => by rw [hrm]; rcases hh with e | e <;> simp [e]
  have HX1 : Hid (e0 ≠ 0 → e0 ≠ 6 → R = (e0, D1)) := Lib.hid (fun h1 h6 => by rw [hR]; unfold stepsD; rw [hrm, if_neg h6]; simp only []; rw [if_neg h1])
  have HX2 : Hid (e0 = 0 ∨ e0 = 6 → e2 ≠ 0 → R = (e2, D2)) := Lib.hid (fun h1 h2 => by rw [hR]; unfold stepsD; rw [if_pos (hrm1 h1), hrm2, ← he2, if_neg h2, he2, hD2])
  have HX3 : Hid (e0 = 0 ∨ e0 = 6 → e2 = 0 → e3 ≠ 0 → R = (e3, D3)) := Lib.hid (fun h1 h2 h3 => by rw [hR]; unfold stepsD; rw [if_pos (hrm1 h1), hrm2, ← he2, if_pos h2, ← hD2, ← he3, if_neg h3, he3, hD3])
  have HX4 : Hid (e0 = 0 ∨ e0 = 6 → e2 = 0 → e3 = 0 → R = (e4, D4)) := Lib.hid (fun h1 h2 h3 => by rw [hR]; unfold stepsD; rw [if_pos (hrm1 h1), hrm2, ← he2, if_pos h2, ← hD2, ← he3, if_pos h3, ← hD3, he4, hD4])
  rw [hrm2] at hl1 hg1
  rw [← hD2] at hl2
  rw [← hD3] at hl3
  have hsl : (sealL xs).length = xs.length + 4 := by unfold sealL; rw [List.length_append]; rfl
  have HA : Hid (∀ Q1 W, RefAt W r Q1 D1 → Calls Tryd.prog 35 #[ptr r, .string sp, .string (strOfNums (sealL xs))] W fun e w' => ∃ Q', e = .returned (.int .i64 e2) ∧ RefAt w' r Q' D2 ∧ Step Q1 Q' W w') := Lib.hid (fun Q1 W k => by
    rw [he2, hD2]; exact Append_r r Q1 D1 sp (sealL xs) W k HTN.out (by omega) (by omega))
  have HS : Hid (∀ Q1 W, RefAt W r Q1 D2 → Calls Tryd.prog 70 #[ptr r, .string sp] W fun e w' => ∃ Q', e = .returned (.int .i64 e3) ∧ RefAt w' r Q' D3 ∧ Step Q1 Q' W w') := Lib.hid (fun Q1 W k => by
    rw [he3, hD3]; exact Sync_r r Q1 D2 sp W k (by omega))
  have HN : Hid (∀ Q1 W, RefAt W r Q1 D3 → Calls Tryd.prog 71 #[ptr r, .string sp, .string nm] W fun e w' => ∃ Q', e = .returned (.int .i64 e4) ∧ RefAt w' r Q' D4 ∧ Step Q1 Q' W w') := Lib.hid (fun Q1 W k => by
    rw [he4, hD4]; exact Rename_r r Q1 D3 sp nm W k (by omega))
  rw [← hR]
  rw [← he0, ← hD1] at H1
  have HSE := Lib.hid (And.intro hsee (And.intro hvQ hok))
  have hof := ofN_lt hok
  have q7 : strOfNums xs ++ strOfNums (leB (ofN xs)) = strOfNums (sealL xs) := by rw [← strOfNums_append]; rfl
  have q8 : ¬ 9223372036854775807 < (strOfNums xs).size + (strOfNums (leB (ofN xs))).size := by rw [strOfNums_size, strOfNums_size]; show ¬ _ < xs.length + 4; omega
  obtain ⟨ao, ac, rfl, -⟩ := id hsee
  clear hR hrm hrm1 hrm2 he0 hD1 he2 hD2 he3 hD3 he4 hD4 h hsee hvQ hok hs hs0 hsl hb hg1
  go_enter Tryd.func32, Tryd.ntmps32
  go_wp2_with fail
  refine H1.out.mono ?_; rintro e w1 ⟨Q1, rfl, hR1, hS1⟩
  have HR1 := Lib.hid hR1
  have HS1 := Lib.hid hS1
  have hse1 : Sees w1 (.slice ao xs.length ac) xs := by
    by_cases hx : xs = []
    · rw [hx]; have := HSE.out.1; rw [hx] at this; obtain ⟨ao', c, e, h2, h3, _⟩ := this; exact ⟨ao', c, e, h2, h3, fun a _ i hi => absurd hi (by simp)⟩
    · exact sees_heap HSE.out.1 (fun d hd hlt => hS1.1.2.2.2.2 d hlt (HSE.out.2.1 hx d hd))
  clear hR1 hS1
  by_cases h1 : e0 = 0
  · have HE0 : Hid (e0 = 0 ∨ e0 = 6) := Lib.hid (Or.inl h1)
    have g1 : (e0 != 0) = false := by simpa using h1
    clear h1
    go_wp2_with fail
    refine wp_region_held_drew (S := (fun W => Sees W (.slice ao xs.length ac) xs)) (by kernel_rfl) ?_ (fun r0 => ?_)
    · exact hse1.keep (belDrew w1)
    refine wpAnyH_take (i := 0) (v := ?_) rfl (by kernel_rfl) (by kernel_rfl) (by kernel_rfl) (fun _ _ _ h => h) (Or.inl ⟨by rfl, ?_⟩) (by assumption) ?_
    rotate_left
    · intro w hSw
      (try dsimp only at hSw)
      go_simp
      first | done | with_reducible rfl
    try simp only [Act.put, List.getElem_toArray, List.getElem_cons_succ, List.getElem_cons_zero, List.setIfInBounds_toArray, List.set_cons_zero, List.set_cons_succ]
    refine wpAnyH_take (i := 1) (v := ?_) rfl (by kernel_rfl) (by kernel_rfl) (by kernel_rfl) (fun _ _ _ h => h) (Or.inl ⟨by rfl, ?_⟩) (by assumption) ?_
    rotate_left
    · intro w hSw
      (try dsimp only at hSw)
      go_simp
      first | done | with_reducible rfl
    try simp only [Act.put, List.getElem_toArray, List.getElem_cons_succ, List.getElem_cons_zero, List.setIfInBounds_toArray, List.set_cons_zero, List.set_cons_succ]
    refine wpAnyH_take (i := 2) (v := ?_) rfl (by kernel_rfl) (by kernel_rfl) (by kernel_rfl) (fun _ _ _ h => h) (Or.inl ⟨by rfl, ?_⟩) (by assumption) ?_
    rotate_left
    · intro w hSw
      (try dsimp only at hSw)
      go_simp
      first | done | with_reducible rfl
    try simp only [Act.put, List.getElem_toArray, List.getElem_cons_succ, List.getElem_cons_zero, List.setIfInBounds_toArray, List.set_cons_zero, List.set_cons_succ]
    refine wpAnyH_take (i := 3) (v := ?_) rfl (by kernel_rfl) (by kernel_rfl) (by kernel_rfl) (fun _ _ _ h => h) (Or.inl ⟨by rfl, ?_⟩) (by assumption) ?_
    rotate_left
    · intro w hSw
      (try dsimp only at hSw)
      go_simp
      first | done | with_reducible rfl
    try simp only [Act.put, List.getElem_toArray, List.getElem_cons_succ, List.getElem_cons_zero, List.setIfInBounds_toArray, List.set_cons_zero, List.set_cons_succ]
    refine wpAnyH_take (i := 4) (v := ?_) rfl (by kernel_rfl) (by kernel_rfl) (by kernel_rfl) (fun _ _ _ h => h) (Or.inl ⟨by rfl, ?_⟩) (by assumption) ?_
    rotate_left
    · intro w hSw
      (try dsimp only at hSw)
      have q9 := conv_sees hSw
      go_simp
      first | done | with_reducible rfl
    try simp only [Act.put, List.getElem_toArray, List.getElem_cons_succ, List.getElem_cons_zero, List.setIfInBounds_toArray, List.set_cons_zero, List.set_cons_succ]
    refine wpAnyH_take (i := 5) (v := ?_) rfl (by kernel_rfl) (by kernel_rfl) (by kernel_rfl) (fun _ _ _ h => h) (Or.inl ⟨by rfl, ?_⟩) (by assumption) ?_
    rotate_left
    · intro w hSw
      (try dsimp only at hSw)
      go_simp
      first | done | with_reducible rfl
    try simp only [Act.put, List.getElem_toArray, List.getElem_cons_succ, List.getElem_cons_zero, List.setIfInBounds_toArray, List.set_cons_zero, List.set_cons_succ]
    refine wpAnyH_ready (rs := [6]) (by kernel_rfl) (by simp) ?_
    refine AllReadyH.cons rfl (fun K hK => ?_) AllReadyH.nil
    go_simp
    refine (refOf_any _ xs w1.drew r0 HSE.out.2.2 (by omega)).mono ?_; rintro e w' ⟨rfl, rfl⟩
    refine hK.out _ _ r0 (fun r1 => ?_)
    try simp only [Act.put, List.getElem_toArray, List.getElem_cons_succ, List.getElem_cons_zero, List.setIfInBounds_toArray, List.set_cons_zero, List.set_cons_succ]
    refine wpAnyH_ready (rs := [7]) (by kernel_rfl) (by simp) ?_
    refine AllReadyH.cons rfl (fun K hK => ?_) AllReadyH.nil
    go_simp
    refine (four_any (ofN xs) hof w1.drew).mono ?_; rintro e w3 ⟨v3, rfl, ho3, hb3⟩
    have hse3 := r0.keep hb3
    refine hK.out _ _ hse3 (fun r2 => ?_)
    try simp only [Act.put, List.getElem_toArray, List.getElem_cons_succ, List.getElem_cons_zero, List.setIfInBounds_toArray, List.set_cons_zero, List.set_cons_succ]
    refine wpAnyH_mono (S' := fun W => Sees W v3 (leB (ofN xs)) ∧ Sees W (.slice ao xs.length ac) xs) (fun _ h => h.2) _ _ _ _ ?_
    have r4 : Sees w3 v3 (leB (ofN xs)) ∧ Sees w3 (.slice ao xs.length ac) xs := ⟨ho3.sees, hse3⟩
    have hb13 := bel (belDrew w1) hb3
    refine wpAnyH_take (i := 8) (v := ?_) rfl (by kernel_rfl) (by kernel_rfl) (by kernel_rfl) (fun _ _ _ h => h) (Or.inl ⟨by rfl, ?_⟩) (by assumption) ?_
    rotate_left
    · intro w hSw
      (try dsimp only at hSw)
      have q9 := conv_sees hSw.1
      go_simp
      first | done | with_reducible rfl
    try simp only [Act.put, List.getElem_toArray, List.getElem_cons_succ, List.getElem_cons_zero, List.setIfInBounds_toArray, List.set_cons_zero, List.set_cons_succ]
    refine wpAnyH_take (i := 9) (v := ?_) rfl (by kernel_rfl) (by kernel_rfl) (by kernel_rfl) (fun _ _ _ h => h) (Or.inl ⟨by rfl, ?_⟩) (by assumption) ?_
    rotate_left
    · intro w hSw
      (try dsimp only at hSw)
      go_simp
      first | done | with_reducible rfl
    try simp only [Act.put, List.getElem_toArray, List.getElem_cons_succ, List.getElem_cons_zero, List.setIfInBounds_toArray, List.set_cons_zero, List.set_cons_succ]
    refine wpAnyH_ready (rs := [10]) (by kernel_rfl) (by simp) ?_
    refine AllReadyH.cons rfl (fun K hK => ?_) AllReadyH.nil
    go_simp
    refine (HA.out Q1 w3 (HR1.out.below hb13)).mono ?_; rintro e w4 ⟨Q4, rfl, hR4, hS4⟩
    have hz13 := hb13.size
    have hse4 : Sees w4 (.slice ao xs.length ac) xs := by
      by_cases hx : xs = []
      · have := r4.2
        rw [hx] at this ⊢
        obtain ⟨ao', c, e, h2, h3, _⟩ := this
        exact ⟨ao', c, e, h2, h3, fun a _ i hi => absurd hi (by simp)⟩
      · exact sees_heap r4.2 (fun d hd hlt => hS4.1.2.2.2.2 d hlt (fun hq => (HS1.out.2 d hq).elim (HSE.out.2.1 hx d hd) (fun h => by have := HSE.out.1.ltC hx hd; omega)))
    have hv4 : Sees w4 v3 (leB (ofN xs)) := sees_heap ho3.sees (fun d hd hlt => hS4.1.2.2.2.2 d hlt (fun hq => by have h1 := (World.ownsRow.lt ho3 d hd).1; have h2 := HR1.out.lt hq; have h3 := (belDrew w1).size; omega))
    refine hK.out _ _ ⟨hv4, hse4⟩ (fun r5 => ?_)
    try simp only [Act.put, List.getElem_toArray, List.getElem_cons_succ, List.getElem_cons_zero, List.setIfInBounds_toArray, List.set_cons_zero, List.set_cons_succ]
    refine wpAnyH_take (i := 11) (v := ?_) rfl (by kernel_rfl) (by kernel_rfl) (by kernel_rfl) (fun _ _ _ h => h) (Or.inl ⟨by rfl, ?_⟩) (by assumption) ?_
    rotate_left
    · intro w hSw
      (try dsimp only at hSw)
      go_simp
      first | done | with_reducible rfl
    try simp only [Act.put, List.getElem_toArray, List.getElem_cons_succ, List.getElem_cons_zero, List.setIfInBounds_toArray, List.set_cons_zero, List.set_cons_succ]
    refine wpAnyH_done (by kernel_rfl) ?_ _
    have HS4 := Lib.hid (HS1.out.trans (Step.below hb13 hS4))
    have HR4 := Lib.hid hR4
    clear r0 r1 r2 r4 r5 hse3 ho3 hse4 hv4 hS4 hR4 hse1
    by_cases h2 : e2 = 0
    · subst h2
      go_wp2_with fail
      refine (HS.out Q4 w4 HR4.out).mono ?_; rintro e w5 ⟨Q5, rfl, hR5, hS5⟩
      have HS5 := Lib.hid (HS4.out.trans hS5)
      have HR5 := Lib.hid hR5
      clear hR5 hS5
      by_cases h3 : e3 = 0
      · subst h3
        go_wp2_with fail
        refine (HN.out Q5 w5 HR5.out).mono ?_; rintro e w6 ⟨Q6, rfl, hR6, hS6⟩
        have HRR := Lib.hid (HX4.out HE0.out (by simp) (by simp))
        have HS6 := Lib.hid (HS5.out.trans hS6)
        have HR6 := Lib.hid hR6
        clear hR6 hS6
        go_wp2_with fail
        go_ret
        rw [HRR.out]
        first | exact ⟨Q6, rfl, HR6.out, HS6.out⟩ | exact ⟨rfl, Q6, HR6.out, HS6.out⟩
      · have d9 : (e3 != 0) = true := by simpa using h3
        have HRR := Lib.hid (HX3.out HE0.out (by simp) h3)
        clear h3
        go_wp2_with fail
        go_ret
        rw [HRR.out]
        first | exact ⟨Q5, rfl, HR5.out, HS5.out⟩ | exact ⟨rfl, Q5, HR5.out, HS5.out⟩
    · have d9 : (e2 != 0) = true := by simpa using h2
      have HRR := Lib.hid (HX2.out HE0.out h2)
      clear h2
      go_wp2_with fail
      go_ret
      rw [HRR.out]
      first | exact ⟨Q4, rfl, HR4.out, HS4.out⟩ | exact ⟨rfl, Q4, HR4.out, HS4.out⟩
  · by_cases h6 : e0 = 6
    · have HE0 : Hid (e0 = 0 ∨ e0 = 6) := Lib.hid (Or.inr h6)
      have g1 : (e0 != 0) = true := by simpa using h1
      have g2 : (e0 != 6) = false := by simpa using h6
      clear h1 h6
      go_wp2_with fail
      refine wp_region_held_drew (S := (fun W => Sees W (.slice ao xs.length ac) xs)) (by kernel_rfl) ?_ (fun r0 => ?_)
      · exact hse1.keep (belDrew w1)
      refine wpAnyH_take (i := 0) (v := ?_) rfl (by kernel_rfl) (by kernel_rfl) (by kernel_rfl) (fun _ _ _ h => h) (Or.inl ⟨by rfl, ?_⟩) (by assumption) ?_
      rotate_left
      · intro w hSw
        (try dsimp only at hSw)
        go_simp
        first | done | with_reducible rfl
      try simp only [Act.put, List.getElem_toArray, List.getElem_cons_succ, List.getElem_cons_zero, List.setIfInBounds_toArray, List.set_cons_zero, List.set_cons_succ]
      refine wpAnyH_take (i := 1) (v := ?_) rfl (by kernel_rfl) (by kernel_rfl) (by kernel_rfl) (fun _ _ _ h => h) (Or.inl ⟨by rfl, ?_⟩) (by assumption) ?_
      rotate_left
      · intro w hSw
        (try dsimp only at hSw)
        go_simp
        first | done | with_reducible rfl
      try simp only [Act.put, List.getElem_toArray, List.getElem_cons_succ, List.getElem_cons_zero, List.setIfInBounds_toArray, List.set_cons_zero, List.set_cons_succ]
      refine wpAnyH_take (i := 2) (v := ?_) rfl (by kernel_rfl) (by kernel_rfl) (by kernel_rfl) (fun _ _ _ h => h) (Or.inl ⟨by rfl, ?_⟩) (by assumption) ?_
      rotate_left
      · intro w hSw
        (try dsimp only at hSw)
        go_simp
        first | done | with_reducible rfl
      try simp only [Act.put, List.getElem_toArray, List.getElem_cons_succ, List.getElem_cons_zero, List.setIfInBounds_toArray, List.set_cons_zero, List.set_cons_succ]
      refine wpAnyH_take (i := 3) (v := ?_) rfl (by kernel_rfl) (by kernel_rfl) (by kernel_rfl) (fun _ _ _ h => h) (Or.inl ⟨by rfl, ?_⟩) (by assumption) ?_
      rotate_left
      · intro w hSw
        (try dsimp only at hSw)
        go_simp
        first | done | with_reducible rfl
      try simp only [Act.put, List.getElem_toArray, List.getElem_cons_succ, List.getElem_cons_zero, List.setIfInBounds_toArray, List.set_cons_zero, List.set_cons_succ]
      refine wpAnyH_take (i := 4) (v := ?_) rfl (by kernel_rfl) (by kernel_rfl) (by kernel_rfl) (fun _ _ _ h => h) (Or.inl ⟨by rfl, ?_⟩) (by assumption) ?_
      rotate_left
      · intro w hSw
        (try dsimp only at hSw)
        have q9 := conv_sees hSw
        go_simp
        first | done | with_reducible rfl
      try simp only [Act.put, List.getElem_toArray, List.getElem_cons_succ, List.getElem_cons_zero, List.setIfInBounds_toArray, List.set_cons_zero, List.set_cons_succ]
      refine wpAnyH_take (i := 5) (v := ?_) rfl (by kernel_rfl) (by kernel_rfl) (by kernel_rfl) (fun _ _ _ h => h) (Or.inl ⟨by rfl, ?_⟩) (by assumption) ?_
      rotate_left
      · intro w hSw
        (try dsimp only at hSw)
        go_simp
        first | done | with_reducible rfl
      try simp only [Act.put, List.getElem_toArray, List.getElem_cons_succ, List.getElem_cons_zero, List.setIfInBounds_toArray, List.set_cons_zero, List.set_cons_succ]
      refine wpAnyH_ready (rs := [6]) (by kernel_rfl) (by simp) ?_
      refine AllReadyH.cons rfl (fun K hK => ?_) AllReadyH.nil
      go_simp
      refine (refOf_any _ xs w1.drew r0 HSE.out.2.2 (by omega)).mono ?_; rintro e w' ⟨rfl, rfl⟩
      refine hK.out _ _ r0 (fun r1 => ?_)
      try simp only [Act.put, List.getElem_toArray, List.getElem_cons_succ, List.getElem_cons_zero, List.setIfInBounds_toArray, List.set_cons_zero, List.set_cons_succ]
      refine wpAnyH_ready (rs := [7]) (by kernel_rfl) (by simp) ?_
      refine AllReadyH.cons rfl (fun K hK => ?_) AllReadyH.nil
      go_simp
      refine (four_any (ofN xs) hof w1.drew).mono ?_; rintro e w3 ⟨v3, rfl, ho3, hb3⟩
      have hse3 := r0.keep hb3
      refine hK.out _ _ hse3 (fun r2 => ?_)
      try simp only [Act.put, List.getElem_toArray, List.getElem_cons_succ, List.getElem_cons_zero, List.setIfInBounds_toArray, List.set_cons_zero, List.set_cons_succ]
      refine wpAnyH_mono (S' := fun W => Sees W v3 (leB (ofN xs)) ∧ Sees W (.slice ao xs.length ac) xs) (fun _ h => h.2) _ _ _ _ ?_
      have r4 : Sees w3 v3 (leB (ofN xs)) ∧ Sees w3 (.slice ao xs.length ac) xs := ⟨ho3.sees, hse3⟩
      have hb13 := bel (belDrew w1) hb3
      refine wpAnyH_take (i := 8) (v := ?_) rfl (by kernel_rfl) (by kernel_rfl) (by kernel_rfl) (fun _ _ _ h => h) (Or.inl ⟨by rfl, ?_⟩) (by assumption) ?_
      rotate_left
      · intro w hSw
        (try dsimp only at hSw)
        have q9 := conv_sees hSw.1
        go_simp
        first | done | with_reducible rfl
      try simp only [Act.put, List.getElem_toArray, List.getElem_cons_succ, List.getElem_cons_zero, List.setIfInBounds_toArray, List.set_cons_zero, List.set_cons_succ]
      refine wpAnyH_take (i := 9) (v := ?_) rfl (by kernel_rfl) (by kernel_rfl) (by kernel_rfl) (fun _ _ _ h => h) (Or.inl ⟨by rfl, ?_⟩) (by assumption) ?_
      rotate_left
      · intro w hSw
        (try dsimp only at hSw)
        go_simp
        first | done | with_reducible rfl
      try simp only [Act.put, List.getElem_toArray, List.getElem_cons_succ, List.getElem_cons_zero, List.setIfInBounds_toArray, List.set_cons_zero, List.set_cons_succ]
      refine wpAnyH_ready (rs := [10]) (by kernel_rfl) (by simp) ?_
      refine AllReadyH.cons rfl (fun K hK => ?_) AllReadyH.nil
      go_simp
      refine (HA.out Q1 w3 (HR1.out.below hb13)).mono ?_; rintro e w4 ⟨Q4, rfl, hR4, hS4⟩
      have hz13 := hb13.size
      have hse4 : Sees w4 (.slice ao xs.length ac) xs := by
        by_cases hx : xs = []
        · have := r4.2
          rw [hx] at this ⊢
          obtain ⟨ao', c, e, h2, h3, _⟩ := this
          exact ⟨ao', c, e, h2, h3, fun a _ i hi => absurd hi (by simp)⟩
        · exact sees_heap r4.2 (fun d hd hlt => hS4.1.2.2.2.2 d hlt (fun hq => (HS1.out.2 d hq).elim (HSE.out.2.1 hx d hd) (fun h => by have := HSE.out.1.ltC hx hd; omega)))
      have hv4 : Sees w4 v3 (leB (ofN xs)) := sees_heap ho3.sees (fun d hd hlt => hS4.1.2.2.2.2 d hlt (fun hq => by have h1 := (World.ownsRow.lt ho3 d hd).1; have h2 := HR1.out.lt hq; have h3 := (belDrew w1).size; omega))
      refine hK.out _ _ ⟨hv4, hse4⟩ (fun r5 => ?_)
      try simp only [Act.put, List.getElem_toArray, List.getElem_cons_succ, List.getElem_cons_zero, List.setIfInBounds_toArray, List.set_cons_zero, List.set_cons_succ]
      refine wpAnyH_take (i := 11) (v := ?_) rfl (by kernel_rfl) (by kernel_rfl) (by kernel_rfl) (fun _ _ _ h => h) (Or.inl ⟨by rfl, ?_⟩) (by assumption) ?_
      rotate_left
      · intro w hSw
        (try dsimp only at hSw)
        go_simp
        first | done | with_reducible rfl
      try simp only [Act.put, List.getElem_toArray, List.getElem_cons_succ, List.getElem_cons_zero, List.setIfInBounds_toArray, List.set_cons_zero, List.set_cons_succ]
      refine wpAnyH_done (by kernel_rfl) ?_ _
      have HS4 := Lib.hid (HS1.out.trans (Step.below hb13 hS4))
      have HR4 := Lib.hid hR4
      clear r0 r1 r2 r4 r5 hse3 ho3 hse4 hv4 hS4 hR4 hse1
      by_cases h2 : e2 = 0
      · subst h2
        go_wp2_with fail
        refine (HS.out Q4 w4 HR4.out).mono ?_; rintro e w5 ⟨Q5, rfl, hR5, hS5⟩
        have HS5 := Lib.hid (HS4.out.trans hS5)
        have HR5 := Lib.hid hR5
        clear hR5 hS5
        by_cases h3 : e3 = 0
        · subst h3
          go_wp2_with fail
          refine (HN.out Q5 w5 HR5.out).mono ?_; rintro e w6 ⟨Q6, rfl, hR6, hS6⟩
          have HRR := Lib.hid (HX4.out HE0.out (by simp) (by simp))
          have HS6 := Lib.hid (HS5.out.trans hS6)
          have HR6 := Lib.hid hR6
          clear hR6 hS6
          go_wp2_with fail
          go_ret
          rw [HRR.out]
          first | exact ⟨Q6, rfl, HR6.out, HS6.out⟩ | exact ⟨rfl, Q6, HR6.out, HS6.out⟩
        · have d9 : (e3 != 0) = true := by simpa using h3
          have HRR := Lib.hid (HX3.out HE0.out (by simp) h3)
          clear h3
          go_wp2_with fail
          go_ret
          rw [HRR.out]
          first | exact ⟨Q5, rfl, HR5.out, HS5.out⟩ | exact ⟨rfl, Q5, HR5.out, HS5.out⟩
      · have d9 : (e2 != 0) = true := by simpa using h2
        have HRR := Lib.hid (HX2.out HE0.out h2)
        clear h2
        go_wp2_with fail
        go_ret
        rw [HRR.out]
        first | exact ⟨Q4, rfl, HR4.out, HS4.out⟩ | exact ⟨rfl, Q4, HR4.out, HS4.out⟩
    · have g1 : (e0 != 0) = true := by simpa using h1
      have g2 : (e0 != 6) = true := by simpa using h6
      have HRR := Lib.hid (HX1.out h1 h6)
      clear h1 h6
      go_wp2_with fail
      go_ret
      rw [HRR.out]
      first | exact ⟨Q1, rfl, HR1.out, HS1.out⟩ | exact ⟨rfl, Q1, HR1.out, HS1.out⟩
end Go.Proofs.YtkjdfelmjanpcaaDoor
