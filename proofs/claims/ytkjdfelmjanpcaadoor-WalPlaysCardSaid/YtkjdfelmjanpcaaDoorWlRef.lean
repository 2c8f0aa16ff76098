/- The document's own log (virgateref07): its calls, over a state. -/
import Derived.Test.YtkjdfelmjanpcaaDoorWo
import Derived.Test.YtkjdfelmjanpcaaDoorDkTwo
namespace Go.Proofs.YtkjdfelmjanpcaaDoor
open Go.RowKit Go.Maps
set_option linter.unusedSimpArgs false in
set_option linter.unusedVariables false in
set_option maxRecDepth 100000 in
set_option maxHeartbeats 8000000 in
theorem rlappend_any (l r : Nat) (Q : Nat → Prop) (S : WSt) (nm : ByteArray) (v : Value) (p : List Int) (w : World) (h : RefAt w r Q S.D) (hl : LogIs 39 w l r nm S.size S.dead) (hQl : ¬ Q l) (hs0 : nm.data.toList ≠ [])
    (hn : S.D.fs.length ≤ 1000) (hsz : S.size ≤ 100000000) (hb : ((getE S.D.fs nm.data.toList).getD ([], 0)).1.length ≤ 1000000) (hsee : Sees w v p) (hok : okB p) (hp : p.length ≤ 200) :
    Calls Tryd.prog 41 #[ptr l, v] w fun e w' => ∃ Q', e = .returned (.int .i64 (walA S nm.data.toList p).1) ∧ RefAt w' r Q' (walA S nm.data.toList p).2.D ∧ LogIs 39 w' l r nm (walA S nm.data.toList p).2.size (walA S nm.data.toList p).2.dead ∧ StepL Q Q' l w w' := by
  obtain ⟨D, size, dead⟩ := S
  simp only [] at h hl hn hsz hb
  obtain ⟨c0, c1, c2, c3⟩ := lcells hl
  cases dead with
  | true =>
    have e1 : walA ⟨D, size, true⟩ nm.data.toList p = (12, ⟨D, size, true⟩) := if_pos rfl
    rw [e1]
    have HH := Lib.hid (And.intro h hl)
    clear h hl
    go_enter Tryd.func41, Tryd.ntmps41
    go_wp2_with fail
    go_ret
    exact ⟨Q, rfl, HH.out.1, HH.out.2, Touch.refl _ _, fun _ h => Or.inl h⟩
  | false =>
    obtain ⟨ao, ac, rfl, -⟩ := id hsee
    by_cases hp0 : p = []
    · subst hp0
      have e1 : walA ⟨D, size, false⟩ nm.data.toList [] = (1, ⟨D, size, false⟩) := by unfold walA; rw [if_neg (by simp), if_pos rfl]
      rw [e1]
      have HH := Lib.hid (And.intro h hl)
      clear h hl hsee
      go_enter Tryd.func41, Tryd.ntmps41
      go_wp2_with fail
      go_ret
      exact ⟨Q, rfl, HH.out.1, HH.out.2, Touch.refl _ _, fun _ h => Or.inl h⟩
    · have hp1 : 1 ≤ p.length := List.length_pos_iff.2 hp0
      have d1 : decide ((p.length : Int) < 1) = false := by simp; omega
      have d2 : decide (1048576 < (p.length : Int)) = false := by simp; omega
      have d3 : ¬ (p.length : Int) < 1 := by omega
      have HP := Lib.hid (rput_any _ p w hsee hok (by omega))
      have HL := Lib.hid hl
      have HR := Lib.hid h
      have hll := heap_lt hl
      have HF := Lib.hid (frameL_len p)
      obtain ⟨F, hF⟩ : ∃ F, F = frameL p := ⟨_, rfl⟩
      have hFl : F.length = 8 + p.length := by rw [hF]; exact frameL_len p
      have hbl : ((getE D.fs nm.data.toList).getD ([], 0)).1.length + F.length ≤ 100000000000 := by omega
      have HFL := Lib.hid hFl
      have HAP : Hid (∀ W, RefAt W r Q D → Calls Tryd.prog 35 #[ptr r, .string nm, .string (strOfNums F)] W fun e w' => ∃ Q', e = .returned (.int .i64 (appD D nm.data.toList F).1) ∧ RefAt w' r Q' (appD D nm.data.toList F).2 ∧ Step Q Q' W w') := Lib.hid (fun W k => Append_r r Q D nm F W k hs0 (by omega) hbl)
      have hDl := appD_len D nm.data.toList F
      obtain ⟨ea, hea⟩ : ∃ ea, ea = (appD D nm.data.toList F).1 := ⟨_, rfl⟩
      obtain ⟨DA, hDA⟩ : ∃ DA, DA = (appD D nm.data.toList F).2 := ⟨_, rfl⟩
      obtain ⟨es, hes⟩ : ∃ es, es = (syncD DA nm.data.toList).1 := ⟨_, rfl⟩
      obtain ⟨DS, hDS⟩ : ∃ DS, DS = (syncD DA nm.data.toList).2 := ⟨_, rfl⟩
      have hwr : writeL D nm.data.toList F = if ea = 0 then (es, DS) else (ea, DA) := by
        unfold writeL
        rw [← hea, ← hDA]
        by_cases h0 : ea = 0
        · rw [if_pos h0, if_pos h0, hes, hDS]
        · rw [if_neg h0, if_neg h0, hea, hDA]
      obtain ⟨R, hR⟩ : ∃ R, R = walA ⟨D, size, false⟩ nm.data.toList p := ⟨_, rfl⟩
      have hR0 : R = if (writeL D nm.data.toList F).1 = 0 then (0, ⟨(writeL D nm.data.toList F).2, size + (8 + p.length), false⟩) else ((writeL D nm.data.toList F).1, ⟨(writeL D nm.data.toList F).2, 0, true⟩) := by
        rw [hR]; unfold walA; rw [if_neg (by simp), if_neg hp0, ← hF]
      rw [hwr] at hR0
      have HX1 : Hid (ea ≠ 0 → R = (ea, ⟨DA, 0, true⟩)) := Lib.hid (fun h0 => by rw [hR0, if_neg h0]; simp only []; rw [if_neg h0])
      have HX2 : Hid (ea = 0 → es ≠ 0 → R = (es, ⟨DS, 0, true⟩)) := Lib.hid (fun h0 h1 => by rw [hR0, if_pos h0]; simp only []; rw [if_neg h1])
      have HX3 : Hid (ea = 0 → es = 0 → R = (0, ⟨DS, size + (8 + p.length), false⟩)) := Lib.hid (fun h0 h1 => by rw [hR0, if_pos h0]; simp only []; rw [if_pos h1])
      have HSY : Hid (∀ Q1 W, RefAt W r Q1 DA → Calls Tryd.prog 70 #[ptr r, .string nm] W fun e w' => ∃ Q', e = .returned (.int .i64 es) ∧ RefAt w' r Q' DS ∧ Step Q1 Q' W w') := Lib.hid (fun Q1 W k => by
        rw [hes, hDS]
        exact Sync_r r Q1 DA nm W k (by rw [hDA]; omega))
      rw [← hF] at HP
      rw [← hR]
      rw [← hea, ← hDA] at HAP
      clear hF hwr hR hR0 hea hDA hes hDS hFl hbl hDl hb h hl hsee hok
      go_enter Tryd.func41, Tryd.ntmps41
      go_wp2_with fail
      refine HP.out.mono ?_; rintro e w1 ⟨v1, rfl, ho1, hb1⟩
      have hl1 := HL.out.below hb1
      have hr1 := HR.out.below hb1
      obtain ⟨d0, d1', -, -⟩ := lcells hl1
      have hse1 := ho1.sees
      have hVQ0 : ∀ d, v1.ownBlock = some d → ¬ Q d := fun d hd hq => by have h1 := (World.ownsRow.lt ho1 d hd).1; have h2 := HR.out.lt hq; omega
      obtain ⟨vo, vc, hv1, -, -⟩ := id hse1
      subst hv1
      have hVQ := hVQ0
      have HL1 := Lib.hid (And.intro hl1 (And.intro hr1 hb1))
      clear ho1 hl1 hr1 hb1
      go_wp2_with fail
      refine wp_region_held_drew (S := (fun W => Sees W (.slice vo F.length vc) F ∧ W.cell? ⟨l, 0, none⟩ = some (ptr r) ∧ W.cell? ⟨l, 1, none⟩ = some (.string nm))) (by kernel_rfl) ?_ (fun r0 => ?_)
      · exact ⟨hse1.keep (belDrew w1), d0, d1'⟩
      refine wpAnyH_take (i := 0) (v := ?_) rfl (by kernel_rfl) (by kernel_rfl) (by kernel_rfl) (fun _ _ _ h => h) (Or.inl ⟨by rfl, ?_⟩) (by assumption) ?_
      rotate_left
      · intro w hSw
        (try dsimp only at hSw)
        go_simp
        first | done | with_reducible rfl
      try simp only [Act.put, List.getElem_toArray, List.getElem_cons_succ, List.getElem_cons_zero, List.setIfInBounds_toArray, List.set_cons_zero, List.set_cons_succ]
      refine wpAnyH_take (i := 1) (v := ?_) rfl (by kernel_rfl) (by kernel_rfl) (by kernel_rfl) (fun _ _ _ h => h) (Or.inl ⟨by rfl, ?_⟩) (by assumption) ?_
      rotate_left
      · intro w hSw
        (try dsimp only at hSw)
        go_simp
        first | done | with_reducible rfl
      try simp only [Act.put, List.getElem_toArray, List.getElem_cons_succ, List.getElem_cons_zero, List.setIfInBounds_toArray, List.set_cons_zero, List.set_cons_succ]
      refine wpAnyH_take (i := 2) (v := ?_) rfl (by kernel_rfl) (by kernel_rfl) (by kernel_rfl) (fun _ _ _ h => h) (Or.inl ⟨by rfl, ?_⟩) (by assumption) ?_
      rotate_left
      · intro w hSw
        (try dsimp only at hSw)
        go_simp
        first | done | with_reducible rfl
      try simp only [Act.put, List.getElem_toArray, List.getElem_cons_succ, List.getElem_cons_zero, List.setIfInBounds_toArray, List.set_cons_zero, List.set_cons_succ]
      refine wpAnyH_take (i := 3) (v := ?_) rfl (by kernel_rfl) (by kernel_rfl) (by kernel_rfl) (fun _ _ _ h => h) (Or.inl ⟨by rfl, ?_⟩) (by assumption) ?_
      rotate_left
      · intro w hSw
        (try dsimp only at hSw)
        go_simp
        first | done | with_reducible rfl
      try simp only [Act.put, List.getElem_toArray, List.getElem_cons_succ, List.getElem_cons_zero, List.setIfInBounds_toArray, List.set_cons_zero, List.set_cons_succ]
      refine wpAnyH_take (i := 4) (v := ?_) rfl (by kernel_rfl) (by kernel_rfl) (by kernel_rfl) (fun _ _ _ h => h) (Or.inl ⟨by rfl, ?_⟩) (by assumption) ?_
      rotate_left
      · intro w hSw
        (try dsimp only at hSw)
        go_simp
        first | done | with_reducible rfl
      try simp only [Act.put, List.getElem_toArray, List.getElem_cons_succ, List.getElem_cons_zero, List.setIfInBounds_toArray, List.set_cons_zero, List.set_cons_succ]
      refine wpAnyH_take (i := 5) (v := ?_) rfl (by kernel_rfl) (by kernel_rfl) (by kernel_rfl) (fun _ _ _ h => h) (Or.inl ⟨by rfl, ?_⟩) (by assumption) ?_
      rotate_left
      · intro w hSw
        (try dsimp only at hSw)
        go_simp
        first | done | with_reducible rfl
      try simp only [Act.put, List.getElem_toArray, List.getElem_cons_succ, List.getElem_cons_zero, List.setIfInBounds_toArray, List.set_cons_zero, List.set_cons_succ]
      refine wpAnyH_take (i := 6) (v := ?_) rfl (by kernel_rfl) (by kernel_rfl) (by kernel_rfl) (fun _ _ _ h => h) (Or.inl ⟨by rfl, ?_⟩) (by assumption) ?_
      rotate_left
      · intro w hSw
        (try dsimp only at hSw)
        go_simp
        first | done | with_reducible rfl
      try simp only [Act.put, List.getElem_toArray, List.getElem_cons_succ, List.getElem_cons_zero, List.setIfInBounds_toArray, List.set_cons_zero, List.set_cons_succ]
      refine wpAnyH_take (i := 7) (v := ?_) rfl (by kernel_rfl) (by kernel_rfl) (by kernel_rfl) (fun _ _ _ h => h) (Or.inl ⟨by rfl, ?_⟩) (by assumption) ?_
      rotate_left
      · intro w hSw
        (try dsimp only at hSw)
        go_simp
        first | done | with_reducible rfl
      try simp only [Act.put, List.getElem_toArray, List.getElem_cons_succ, List.getElem_cons_zero, List.setIfInBounds_toArray, List.set_cons_zero, List.set_cons_succ]
      refine wpAnyH_take (i := 8) (v := ?_) rfl (by kernel_rfl) (by kernel_rfl) (by kernel_rfl) (fun _ _ _ h => h) (Or.inl ⟨by rfl, ?_⟩) (by assumption) ?_
      rotate_left
      · intro w hSw
        (try dsimp only at hSw)
        go_simp
        first | done | with_reducible rfl
      try simp only [Act.put, List.getElem_toArray, List.getElem_cons_succ, List.getElem_cons_zero, List.setIfInBounds_toArray, List.set_cons_zero, List.set_cons_succ]
      refine wpAnyH_take (i := 9) (v := ?_) rfl (by kernel_rfl) (by kernel_rfl) (by kernel_rfl) (fun _ _ _ h => h) (Or.inl ⟨by rfl, ?_⟩) (by assumption) ?_
      rotate_left
      · intro w hSw
        (try dsimp only at hSw)
        have q1 := conv_sees hSw.1
        go_simp
        first | done | with_reducible rfl
      try simp only [Act.put, List.getElem_toArray, List.getElem_cons_succ, List.getElem_cons_zero, List.setIfInBounds_toArray, List.set_cons_zero, List.set_cons_succ]
      refine wpAnyH_ready (rs := [10]) (by kernel_rfl) (by simp) ?_
      refine AllReadyH.cons rfl (fun K hK => ?_) AllReadyH.nil
      go_simp
      refine (HAP.out w1.drew (HL1.out.2.1.below (belDrew w1))).mono ?_; rintro e w2 ⟨Q2, rfl, hR2, hS2⟩
      have hS2 := Step.below (belDrew w1) hS2
      have hl2 := HL1.out.1.keep hS2.1 hQl
      obtain ⟨k0, k1, -, -⟩ := lcells hl2
      have hsee2 : Sees w2 (.slice vo F.length vc) F := sees_heap hse1 (fun d hd hlt => hS2.1.2.2.2.2 d hlt (hVQ d hd))
      refine hK.out _ _ ?_ (fun r1 => ?_)
      · exact ⟨hsee2, k0, k1⟩
      try simp only [Act.put, List.getElem_toArray, List.getElem_cons_succ, List.getElem_cons_zero, List.setIfInBounds_toArray, List.set_cons_zero, List.set_cons_succ]
      refine wpAnyH_take (i := 11) (v := ?_) rfl (by kernel_rfl) (by kernel_rfl) (by kernel_rfl) (fun _ _ _ h => h) (Or.inl ⟨by rfl, ?_⟩) (by assumption) ?_
      rotate_left
      · intro w hSw
        (try dsimp only at hSw)
        go_simp
        first | done | with_reducible rfl
      try simp only [Act.put, List.getElem_toArray, List.getElem_cons_succ, List.getElem_cons_zero, List.setIfInBounds_toArray, List.set_cons_zero, List.set_cons_succ]
      refine wpAnyH_done (by kernel_rfl) ?_ _
      have HS2 := Lib.hid (StepL.below HL1.out.2.2 (StepL.of (l := l) hS2))
      have HL2 := Lib.hid hl2
      have HR2 := Lib.hid hR2
      have hQl2 : ¬ Q2 l := HS2.out.not hll hQl
      clear r0 r1 hse1 hsee2 hVQ hVQ0 hS2 hR2
      by_cases h0 : ea = 0
      · subst h0
        clear hl2
        go_wp2_with fail
        refine wp_region_held_drew (S := (fun W => W.cell? ⟨l, 0, none⟩ = some (ptr r) ∧ W.cell? ⟨l, 1, none⟩ = some (.string nm))) (by kernel_rfl) ?_ (fun r0 => ?_)
        · exact ⟨k0, k1⟩
        refine wpAnyH_take (i := 0) (v := ?_) rfl (by kernel_rfl) (by kernel_rfl) (by kernel_rfl) (fun _ _ _ h => h) (Or.inl ⟨by rfl, ?_⟩) (by assumption) ?_
        rotate_left
        · intro w hSw
          (try dsimp only at hSw)
          go_simp
          first | done | with_reducible rfl
        try simp only [Act.put, List.getElem_toArray, List.getElem_cons_succ, List.getElem_cons_zero, List.setIfInBounds_toArray, List.set_cons_zero, List.set_cons_succ]
        refine wpAnyH_take (i := 1) (v := ?_) rfl (by kernel_rfl) (by kernel_rfl) (by kernel_rfl) (fun _ _ _ h => h) (Or.inl ⟨by rfl, ?_⟩) (by assumption) ?_
        rotate_left
        · intro w hSw
          (try dsimp only at hSw)
          go_simp
          first | done | with_reducible rfl
        try simp only [Act.put, List.getElem_toArray, List.getElem_cons_succ, List.getElem_cons_zero, List.setIfInBounds_toArray, List.set_cons_zero, List.set_cons_succ]
        refine wpAnyH_take (i := 2) (v := ?_) rfl (by kernel_rfl) (by kernel_rfl) (by kernel_rfl) (fun _ _ _ h => h) (Or.inl ⟨by rfl, ?_⟩) (by assumption) ?_
        rotate_left
        · intro w hSw
          (try dsimp only at hSw)
          go_simp
          first | done | with_reducible rfl
        try simp only [Act.put, List.getElem_toArray, List.getElem_cons_succ, List.getElem_cons_zero, List.setIfInBounds_toArray, List.set_cons_zero, List.set_cons_succ]
        refine wpAnyH_take (i := 3) (v := ?_) rfl (by kernel_rfl) (by kernel_rfl) (by kernel_rfl) (fun _ _ _ h => h) (Or.inl ⟨by rfl, ?_⟩) (by assumption) ?_
        rotate_left
        · intro w hSw
          (try dsimp only at hSw)
          go_simp
          first | done | with_reducible rfl
        try simp only [Act.put, List.getElem_toArray, List.getElem_cons_succ, List.getElem_cons_zero, List.setIfInBounds_toArray, List.set_cons_zero, List.set_cons_succ]
        refine wpAnyH_take (i := 4) (v := ?_) rfl (by kernel_rfl) (by kernel_rfl) (by kernel_rfl) (fun _ _ _ h => h) (Or.inl ⟨by rfl, ?_⟩) (by assumption) ?_
        rotate_left
        · intro w hSw
          (try dsimp only at hSw)
          go_simp
          first | done | with_reducible rfl
        try simp only [Act.put, List.getElem_toArray, List.getElem_cons_succ, List.getElem_cons_zero, List.setIfInBounds_toArray, List.set_cons_zero, List.set_cons_succ]
        refine wpAnyH_take (i := 5) (v := ?_) rfl (by kernel_rfl) (by kernel_rfl) (by kernel_rfl) (fun _ _ _ h => h) (Or.inl ⟨by rfl, ?_⟩) (by assumption) ?_
        rotate_left
        · intro w hSw
          (try dsimp only at hSw)
          go_simp
          first | done | with_reducible rfl
        try simp only [Act.put, List.getElem_toArray, List.getElem_cons_succ, List.getElem_cons_zero, List.setIfInBounds_toArray, List.set_cons_zero, List.set_cons_succ]
        refine wpAnyH_take (i := 6) (v := ?_) rfl (by kernel_rfl) (by kernel_rfl) (by kernel_rfl) (fun _ _ _ h => h) (Or.inl ⟨by rfl, ?_⟩) (by assumption) ?_
        rotate_left
        · intro w hSw
          (try dsimp only at hSw)
          go_simp
          first | done | with_reducible rfl
        try simp only [Act.put, List.getElem_toArray, List.getElem_cons_succ, List.getElem_cons_zero, List.setIfInBounds_toArray, List.set_cons_zero, List.set_cons_succ]
        refine wpAnyH_take (i := 7) (v := ?_) rfl (by kernel_rfl) (by kernel_rfl) (by kernel_rfl) (fun _ _ _ h => h) (Or.inl ⟨by rfl, ?_⟩) (by assumption) ?_
        rotate_left
        · intro w hSw
          (try dsimp only at hSw)
          go_simp
          first | done | with_reducible rfl
        try simp only [Act.put, List.getElem_toArray, List.getElem_cons_succ, List.getElem_cons_zero, List.setIfInBounds_toArray, List.set_cons_zero, List.set_cons_succ]
        refine wpAnyH_ready (rs := [8]) (by kernel_rfl) (by simp) ?_
        refine AllReadyH.cons rfl (fun K hK => ?_) AllReadyH.nil
        go_simp
        refine (HSY.out Q2 w2.drew (HR2.out.below (belDrew w2))).mono ?_; rintro e w3 ⟨Q3, rfl, hR3, hS3⟩
        have hS3 := Step.below (belDrew w2) hS3
        have hl3 := HL2.out.keep hS3.1 hQl2
        obtain ⟨m0, m1, m2, m3⟩ := lcells hl3
        refine hK.out _ _ ?_ (fun r2 => ?_)
        · exact ⟨m0, m1⟩
        try simp only [Act.put, List.getElem_toArray, List.getElem_cons_succ, List.getElem_cons_zero, List.setIfInBounds_toArray, List.set_cons_zero, List.set_cons_succ]
        refine wpAnyH_take (i := 9) (v := ?_) rfl (by kernel_rfl) (by kernel_rfl) (by kernel_rfl) (fun _ _ _ h => h) (Or.inl ⟨by rfl, ?_⟩) (by assumption) ?_
        rotate_left
        · intro w hSw
          (try dsimp only at hSw)
          go_simp
          first | done | with_reducible rfl
        try simp only [Act.put, List.getElem_toArray, List.getElem_cons_succ, List.getElem_cons_zero, List.setIfInBounds_toArray, List.set_cons_zero, List.set_cons_succ]
        refine wpAnyH_done (by kernel_rfl) ?_ _
        have hS4 := HS2.out.trans (StepL.of (l := l) hS3)
        have hQl3 : ¬ Q3 l := hS4.not hll hQl
        have f2 := lfroz hl3 2
        have f3 := lfroz hl3 3
        clear r0 r2
        by_cases h1 : es = 0
        · subst h1
          have HRR := Lib.hid (HX3.out (by simp) (by simp))
          have s1 : IntKind.i64.wrap ((size : Int) + (F.length : Int)) = ((size + (8 + p.length) : Nat) : Int) := by
            have hfl := HFL.out
            rw [IntWalk.i64_in _ (by omega)]
            omega
          have HL3 := Lib.hid (dset hl3 2 (.int .i64 ((size + (8 + p.length) : Nat) : Int)))
          have HR3 := Lib.hid (hR3.keep (touch_set w3 l 2 (.int .i64 ((size + (8 + p.length) : Nat) : Int))) (fun d hd e => hQl3 (by rw [← e]; exact hd)))
          have HS4 := Lib.hid (hS4.set 2 (.int .i64 ((size + (8 + p.length) : Nat) : Int)))
          clear hl3 hS3 hS4 hR3
          go_wp2_with fail
          go_ret
          rw [HRR.out]
          first | exact ⟨Q3, rfl, HR3.out, HL3.out, HS4.out⟩ | exact ⟨rfl, Q3, HR3.out, HL3.out, HS4.out⟩
        · have d9 : (es != 0) = true := by simpa using h1
          have HRR := Lib.hid (HX2.out (by simp) h1)
          have HL3 := Lib.hid (dset (dset hl3 3 (.bool true)) 2 (.int .i64 0))
          have HT3 := Lib.hid ((touch_set w3 l 3 (.bool true)).trans (touch_set (w3.setCell ⟨l, 3, none⟩ (.bool true)) l 2 (.int .i64 0)) (fun _ _ e => e))
          have HR3 := Lib.hid hR3
          have HS4 := Lib.hid hS4
          clear hl3 hS3 hS4 hR3 h1
          go_wp2_with fail
          go_ret
          rw [HRR.out]
          have hR5 := HR3.out.keep HT3.out (fun d hd e => hQl3 (by rw [← e]; exact hd))
          have hS5 : StepL Q Q3 l w _ := ⟨HS4.out.1.trans HT3.out (fun _ _ e => Or.inr e), HS4.out.2⟩
          first | exact ⟨Q3, rfl, hR5, HL3.out, hS5⟩ | exact ⟨rfl, Q3, hR5, HL3.out, hS5⟩
      · have d8 : (ea == 0) = false := by simpa using h0
        have d9 : (ea != 0) = true := by simpa using h0
        have HRR := Lib.hid (HX1.out h0)
        obtain ⟨k0, k1, k2, k3⟩ := lcells hl2
        have f2 := lfroz hl2 2
        have f3 := lfroz hl2 3
        have HL3 := Lib.hid (dset (dset hl2 3 (.bool true)) 2 (.int .i64 0))
        have HT3 := Lib.hid ((touch_set w2 l 3 (.bool true)).trans (touch_set (w2.setCell ⟨l, 3, none⟩ (.bool true)) l 2 (.int .i64 0)) (fun _ _ e => e))
        clear hl2 h0
        go_wp2_with fail
        go_ret
        rw [HRR.out]
        have hR5 := HR2.out.keep HT3.out (fun d hd e => hQl2 (by rw [← e]; exact hd))
        have hS5 : StepL Q Q2 l w _ := ⟨HS2.out.1.trans HT3.out (fun _ _ e => Or.inr e), HS2.out.2⟩
        first | exact ⟨Q2, rfl, hR5, HL3.out, hS5⟩ | exact ⟨rfl, Q2, hR5, HL3.out, hS5⟩
set_option linter.unusedSimpArgs false in
set_option linter.unusedVariables false in
set_option maxRecDepth 100000 in
set_option maxHeartbeats 8000000 in
theorem rlclear_any (l r : Nat) (Q : Nat → Prop) (S : WSt) (nm : ByteArray) (w : World) (h : RefAt w r Q S.D) (hl : LogIs 39 w l r nm S.size S.dead) (hQl : ¬ Q l) (hn : S.D.fs.length ≤ 1000) :
    Calls Tryd.prog 42 #[ptr l] w fun e w' => ∃ Q', e = .returned (.int .i64 (walC S nm.data.toList).1) ∧ RefAt w' r Q' (walC S nm.data.toList).2.D ∧ LogIs 39 w' l r nm (walC S nm.data.toList).2.size (walC S nm.data.toList).2.dead ∧ StepL Q Q' l w w' := by
  obtain ⟨D, size, dead⟩ := S
  simp only [] at h hl hn
  obtain ⟨c0, c1, c2, c3⟩ := lcells hl
  cases dead with
  | true =>
    have e1 : walC ⟨D, size, true⟩ nm.data.toList = (12, ⟨D, size, true⟩) := if_pos rfl
    rw [e1]
    have HH := Lib.hid (And.intro h hl)
    clear h hl
    go_enter Tryd.func42, Tryd.ntmps42
    go_wp2_with fail
    go_ret
    exact ⟨Q, rfl, HH.out.1, HH.out.2, Touch.refl _ _, fun _ h => Or.inl h⟩
  | false =>
    have HC := Lib.hid (Cut_r r Q D nm 0 w.drew (h.below (belDrew w)) (by omega))
    obtain ⟨ec, hec⟩ : ∃ ec, ec = (cutD D nm.data.toList 0).1 := ⟨_, rfl⟩
    obtain ⟨DC, hDC⟩ : ∃ DC, DC = (cutD D nm.data.toList 0).2 := ⟨_, rfl⟩
    obtain ⟨R, hR⟩ : ∃ R, R = walC ⟨D, size, false⟩ nm.data.toList := ⟨_, rfl⟩
    have hR0 : R = if ec = 0 ∨ ec = 6 then (0, ⟨DC, 0, false⟩) else (ec, ⟨DC, 0, true⟩) := by rw [hR]; unfold walC; rw [if_neg (by simp), ← hec, ← hDC]
    have HX1 : Hid (ec = 0 ∨ ec = 6 → R = (0, ⟨DC, 0, false⟩)) := Lib.hid (fun h => by rw [hR0, if_pos h])
    have HX2 : Hid (¬ (ec = 0 ∨ ec = 6) → R = (ec, ⟨DC, 0, true⟩)) := Lib.hid (fun h => by rw [hR0, if_neg h])
    rw [← hR]
    rw [← hec, ← hDC] at HC
    have HL := Lib.hid hl
    have hll := heap_lt hl
    clear h hl hec hDC hR hR0
    go_enter Tryd.func42, Tryd.ntmps42
    go_wp2_with fail
    refine wp_region_held_drew (S := (fun W => W.cell? ⟨l, 0, none⟩ = some (ptr r) ∧ W.cell? ⟨l, 1, none⟩ = some (.string nm))) (by kernel_rfl) ?_ (fun r0 => ?_)
    · exact ⟨c0, c1⟩
    refine wpAnyH_take (i := 0) (v := ?_) rfl (by kernel_rfl) (by kernel_rfl) (by kernel_rfl) (fun _ _ _ h => h) (Or.inl ⟨by rfl, ?_⟩) (by assumption) ?_
    rotate_left
    · intro w hSw
      (try dsimp only at hSw)
      go_simp
      first | done | with_reducible rfl
    try simp only [Act.put, List.getElem_toArray, List.getElem_cons_succ, List.getElem_cons_zero, List.setIfInBounds_toArray, List.set_cons_zero, List.set_cons_succ]
    refine wpAnyH_take (i := 1) (v := ?_) rfl (by kernel_rfl) (by kernel_rfl) (by kernel_rfl) (fun _ _ _ h => h) (Or.inl ⟨by rfl, ?_⟩) (by assumption) ?_
    rotate_left
    · intro w hSw
      (try dsimp only at hSw)
      go_simp
      first | done | with_reducible rfl
    try simp only [Act.put, List.getElem_toArray, List.getElem_cons_succ, List.getElem_cons_zero, List.setIfInBounds_toArray, List.set_cons_zero, List.set_cons_succ]
    refine wpAnyH_take (i := 2) (v := ?_) rfl (by kernel_rfl) (by kernel_rfl) (by kernel_rfl) (fun _ _ _ h => h) (Or.inl ⟨by rfl, ?_⟩) (by assumption) ?_
    rotate_left
    · intro w hSw
      (try dsimp only at hSw)
      go_simp
      first | done | with_reducible rfl
    try simp only [Act.put, List.getElem_toArray, List.getElem_cons_succ, List.getElem_cons_zero, List.setIfInBounds_toArray, List.set_cons_zero, List.set_cons_succ]
    refine wpAnyH_take (i := 3) (v := ?_) rfl (by kernel_rfl) (by kernel_rfl) (by kernel_rfl) (fun _ _ _ h => h) (Or.inl ⟨by rfl, ?_⟩) (by assumption) ?_
    rotate_left
    · intro w hSw
      (try dsimp only at hSw)
      go_simp
      first | done | with_reducible rfl
    try simp only [Act.put, List.getElem_toArray, List.getElem_cons_succ, List.getElem_cons_zero, List.setIfInBounds_toArray, List.set_cons_zero, List.set_cons_succ]
    refine wpAnyH_take (i := 4) (v := ?_) rfl (by kernel_rfl) (by kernel_rfl) (by kernel_rfl) (fun _ _ _ h => h) (Or.inl ⟨by rfl, ?_⟩) (by assumption) ?_
    rotate_left
    · intro w hSw
      (try dsimp only at hSw)
      go_simp
      first | done | with_reducible rfl
    try simp only [Act.put, List.getElem_toArray, List.getElem_cons_succ, List.getElem_cons_zero, List.setIfInBounds_toArray, List.set_cons_zero, List.set_cons_succ]
    refine wpAnyH_take (i := 5) (v := ?_) rfl (by kernel_rfl) (by kernel_rfl) (by kernel_rfl) (fun _ _ _ h => h) (Or.inl ⟨by rfl, ?_⟩) (by assumption) ?_
    rotate_left
    · intro w hSw
      (try dsimp only at hSw)
      go_simp
      first | done | with_reducible rfl
    try simp only [Act.put, List.getElem_toArray, List.getElem_cons_succ, List.getElem_cons_zero, List.setIfInBounds_toArray, List.set_cons_zero, List.set_cons_succ]
    refine wpAnyH_take (i := 6) (v := ?_) rfl (by kernel_rfl) (by kernel_rfl) (by kernel_rfl) (fun _ _ _ h => h) (Or.inl ⟨by rfl, ?_⟩) (by assumption) ?_
    rotate_left
    · intro w hSw
      (try dsimp only at hSw)
      go_simp
      first | done | with_reducible rfl
    try simp only [Act.put, List.getElem_toArray, List.getElem_cons_succ, List.getElem_cons_zero, List.setIfInBounds_toArray, List.set_cons_zero, List.set_cons_succ]
    refine wpAnyH_take (i := 7) (v := ?_) rfl (by kernel_rfl) (by kernel_rfl) (by kernel_rfl) (fun _ _ _ h => h) (Or.inl ⟨by rfl, ?_⟩) (by assumption) ?_
    rotate_left
    · intro w hSw
      (try dsimp only at hSw)
      go_simp
      first | done | with_reducible rfl
    try simp only [Act.put, List.getElem_toArray, List.getElem_cons_succ, List.getElem_cons_zero, List.setIfInBounds_toArray, List.set_cons_zero, List.set_cons_succ]
    refine wpAnyH_ready (rs := [8]) (by kernel_rfl) (by simp) ?_
    refine AllReadyH.cons rfl (fun K hK => ?_) AllReadyH.nil
    go_simp
    refine HC.out.mono ?_; rintro e w1 ⟨Q1, rfl, hR1, hS1⟩
    have hS1 := Step.below (belDrew w) hS1
    have hl1 := HL.out.keep hS1.1 hQl
    have hS3 : StepL Q Q1 l w w1 := StepL.of hS1
    obtain ⟨d0, d1, d2, d3⟩ := lcells hl1
    have f2 := lfroz hl1 2
    have f3 := lfroz hl1 3
    refine hK.out _ _ ?_ (fun r1 => ?_)
    · exact ⟨d0, d1⟩
    try simp only [Act.put, List.getElem_toArray, List.getElem_cons_succ, List.getElem_cons_zero, List.setIfInBounds_toArray, List.set_cons_zero, List.set_cons_succ]
    refine wpAnyH_take (i := 9) (v := ?_) rfl (by kernel_rfl) (by kernel_rfl) (by kernel_rfl) (fun _ _ _ h => h) (Or.inl ⟨by rfl, ?_⟩) (by assumption) ?_
    rotate_left
    · intro w hSw
      (try dsimp only at hSw)
      go_simp
      first | done | with_reducible rfl
    try simp only [Act.put, List.getElem_toArray, List.getElem_cons_succ, List.getElem_cons_zero, List.setIfInBounds_toArray, List.set_cons_zero, List.set_cons_succ]
    refine wpAnyH_done (by kernel_rfl) ?_ _
    have hQl1 : ¬ Q1 l := hS3.not hll hQl
    have HL2 := Lib.hid (dset hl1 2 (.int .i64 0))
    have HR2 := Lib.hid (hR1.keep (touch_set w1 l 2 (.int .i64 0)) (fun d hd e => hQl1 (by rw [← e]; exact hd)))
    have HS3 := Lib.hid (hS3.set 2 (.int .i64 0))
    have HL3 := Lib.hid (dset (dset hl1 3 (.bool true)) 2 (.int .i64 0))
    have HT3 := Lib.hid ((touch_set w1 l 3 (.bool true)).trans (touch_set (w1.setCell ⟨l, 3, none⟩ (.bool true)) l 2 (.int .i64 0)) (fun _ _ e => e))
    have HR1 := Lib.hid hR1
    have HS1 := Lib.hid hS3
    clear r0 r1 hl1 hR1 hS1 hS3
    by_cases h0 : ec = 0
    · subst h0
      have HRR := Lib.hid (HX1.out (Or.inl rfl))
      go_wp2_with fail
      go_ret
      rw [HRR.out]
      first | exact ⟨Q1, rfl, HR2.out, HL2.out, HS3.out⟩ | exact ⟨rfl, Q1, HR2.out, HL2.out, HS3.out⟩
    · have d9 : (ec != 0) = true := by simpa using h0
      by_cases h6 : ec = 6
      · subst h6
        have HRR := Lib.hid (HX1.out (Or.inr rfl))
        go_wp2_with fail
        go_ret
        rw [HRR.out]
        first | exact ⟨Q1, rfl, HR2.out, HL2.out, HS3.out⟩ | exact ⟨rfl, Q1, HR2.out, HL2.out, HS3.out⟩
      · have HRR := Lib.hid (HX2.out (by omega))
        have d8 : (ec != 6) = true := by simpa using h6
        clear h0 h6
        go_wp2_with fail
        go_ret
        rw [HRR.out]
        have hR5 := HR1.out.keep HT3.out (fun d hd e => hQl1 (by rw [← e]; exact hd))
        have hS5 : StepL Q Q1 l w _ := ⟨HS1.out.1.trans HT3.out (fun _ _ e => Or.inr e), HS1.out.2⟩
        first | exact ⟨Q1, rfl, hR5, HL3.out, hS5⟩ | exact ⟨rfl, Q1, hR5, HL3.out, hS5⟩
end Go.Proofs.YtkjdfelmjanpcaaDoor
