/- The document's state: Plan of a write. Made by g_refplan.py. -/
import Derived.Test.YtholgmcfgnifdaaKvRef6
namespace Go.Proofs.Ytholgmcfgnifdaa
open Go.RowKit Go.Maps
set_option maxRecDepth 100000 in
set_option maxHeartbeats 16000000 in
theorem refPlan_rest (v : Value) (L : List KEnt) (R : Int) (o : KOp) (w : World) (h : SeesI w v L) (hl : L.length ≤ 1000000) (ho : Op9Ok o) (hR : 0 ≤ R ∧ R < 9223372036854775807) (hk1 : ¬ o.kind = 1) (hk2 : ¬ o.kind = 2) :
    Calls Try.prog 28 #[stV R v, opV o] w fun e w' => ∃ v', e = .returned (.tuple #[kres (planK ⟨R, L⟩ o).1 v', effV (planK ⟨R, L⟩ o).2.1, .bool (planK ⟨R, L⟩ o).2.2]) ∧ RowR w' w.heap.size v' (planK ⟨R, L⟩ o).1.its ∧ Below w.heap.size w w' := by
  obtain ⟨W, hW, hb, hA, hB, hC, hD⟩ := alloc4 w (stO R v) (opR o) (resR 0 0 emp (.slice none 0 0)) (effR9 eff0)
  have hlm : L.length ≤ maxLen := by unfold maxLen; omega
  have HF := Lib.hid (refFind_any v L R o.key W (h.below hb) hlm)
  obtain ⟨r0, r1⟩ := hR
  obtain ⟨r, hr⟩ : ∃ r, r = refuse ⟨R, L⟩ o := ⟨_, rfl⟩
  have hp0 : r = 0 → planK ⟨R, L⟩ o = (⟨0, R + 1, emp, []⟩, effOf o (R + 1), true) := fun h => by unfold planK; rw [if_neg hk1, if_neg hk2, if_pos (by rw [← hr]; exact h)]
  have hp1 : ¬ r = 0 → planK ⟨R, L⟩ o = (⟨r, 0, emp, []⟩, eff0, false) := fun h => by unfold planK; rw [if_neg hk1, if_neg hk2, if_neg (by rw [← hr]; exact h), ← hr]
  have HSt : Hid (∀ w', Below w.heap.size w w' → Calls Try.prog 38 #[stV R v, .string o.iff, .int .i64 o.ifRev] w' fun x w'' => x = .returned (.bool (stands L o.iff o.ifRev)) ∧ Below w'.heap.size w' w'') := Lib.hid (fun w' hb => refStands_any v L R o.iff o.ifRev w' (h.below hb) hlm)
  have HKy : Hid (∀ w', Calls Try.prog 37 #[.string o.key] w' fun x w'' => x = .returned (.bool (mayK o.key)) ∧ w' = w'') := Lib.hid (key9_any o.key ho.1)
  have hmx : (R == 9223372036854775807) = false := by simp; omega
  unfold refuse revOf at hr
  simp only [] at hr
  rw [hmx] at hr
  have HWm : Hid (mayW o = if o.kind = 3 ∨ o.kind = 4 then mayK o.key && decide (o.val.size ≤ 65536) else if o.kind = 5 then mayK o.key else false) := Lib.hid rfl
  have s9 : IntKind.i64.wrap (R + 1) = R + 1 := IntWalk.i64_in _ (by omega)
  have hv0 : (0 : Int) ≤ (o.val.size : Int) := by omega
  have n1 : (o.kind == 1) = false := by simpa using hk1
  have n2 : (o.kind == 2) = false := by simpa using hk2
  unfold gotV at HF
  generalize there L o.key = th at HF hr
  generalize gotU L o.key = u at HF hr
  obtain ⟨u1, u2, u3⟩ := u
  simp only [] at hr
  generalize stands L o.iff o.ifRev = st at HSt hr
  generalize mayK o.key = mk at HKy HWm
  generalize mayW o = mw at HWm hr
  have HR := Lib.hid hr
  have HP0 := Lib.hid hp0
  have HP1 := Lib.hid hp1
  clear hr hp0 hp1 hmx
  have HW := Lib.hid hW
  have HB := Lib.hid (And.intro hb (And.intro hA (And.intro hB (And.intro hC hD))))
  have HS := Lib.hid (And.intro h (And.intro hl ho))
  have s0 := cell0 hA
  have s1 := cell1 hA
  obtain ⟨k0, k1, k2, k3, k4, k5⟩ := opcells hB
  clear hW hb hA hB hC hD h hl ho hlm
  go_enter Try.func28, Try.ntmps28
  go_upto_region 1 with fail
  change Code.wp _ _ _ _ ((((w.alloc (stO R v)).alloc (opR o)).alloc (resR 0 0 emp (.slice none 0 0))).alloc (effR9 eff0))
  rw [← HW.out]
  go_upto_region 2 with (first
    | (go_at_call 35; refine HF.out.mono ?_; rintro x w1 ⟨rfl, hb1⟩)
    | go_in)
  obtain ⟨W2, hW2⟩ : ∃ W2, W2 = w1.alloc (itRO u1 u2 u3) := ⟨_, rfl⟩
  change Code.wp _ _ _ _ (w1.alloc (itRO u1 u2 u3))
  rw [← hW2]
  have hbb : Below W.heap.size W W2 := by rw [hW2]; exact belAlloc hb1 _
  have hx : W2.heap[w1.heap.size]? = some (itRO u1 u2 u3) := by rw [hW2]; exact heap_alloc_new w1 _
  obtain ⟨x0, x1, x2⟩ := rcells hx
  have hS2 := (hbb.block _ (heap_lt HB.out.2.1)).trans HB.out.2.1
  have hO2 := (hbb.block _ (heap_lt HB.out.2.2.1)).trans HB.out.2.2.1
  have hR2 := (hbb.block _ (heap_lt HB.out.2.2.2.1)).trans HB.out.2.2.2.1
  have hF2 := (hbb.block _ (heap_lt HB.out.2.2.2.2)).trans HB.out.2.2.2.2
  have hbw := HB.out.1.trans (hbb.mono HB.out.1.size)
  have H2 := Lib.hid (And.intro hbw (And.intro hS2 (And.intro hO2 (And.intro hR2 hF2))))
  clear s0 s1 k0 k1 k2 k3 k4 k5 hW2 hb1 hbb hx HW HB HF hbw
  have s0 := cell0 hS2
  have s1 := cell1 hS2
  obtain ⟨k0, k1, k2, k3, k4, k5⟩ := opcells hO2
  have hK2 := Lib.hid (And.intro hk1 hk2)
  clear hk1 hk2 hS2 hO2
  by_cases hk : o.kind = 3
  · have HK3 := Lib.hid hk
    rw [hk] at k0
    cases mk with
    | false =>
      obtain ⟨a0, a1, a2, a3, b0, b1, b2, b3⟩ := four hR2
      obtain ⟨e0, e1, e2, e3, f0, f1, f2, f3⟩ := four hF2
      have hr : r = 1 := HR.out.trans (by rw [HWm.out]; rw [if_pos (Or.inl HK3.out), HK3.out]; rw [Bool.false_and]; rfl)
      have HP := Lib.hid (HP1.out (by omega))
      rw [hr] at HP
      clear hr
      go_wp2_with (first
        | (go_at_call 37; refine (HKy.out _).mono ?_; rintro x wz ⟨rfl, rfl⟩)
        | (go_at_call 38; refine (HSt.out W2 H2.out.1).mono ?_; rintro x w5 ⟨rfl, hb5⟩; have hS5 := (hb5.block _ (heap_lt H2.out.2.1)).trans H2.out.2.1; have hO5 := (hb5.block _ (heap_lt H2.out.2.2.1)).trans H2.out.2.2.1; have hR5 := (hb5.block _ (heap_lt H2.out.2.2.2.1)).trans H2.out.2.2.2.1; have hF5 := (hb5.block _ (heap_lt H2.out.2.2.2.2)).trans H2.out.2.2.2.2; have t0 := cell0 hS5; have t1 := cell1 hS5; obtain ⟨j0, j1, j2, j3, j4, j5⟩ := opcells hO5; obtain ⟨a0, a1, a2, a3, b0, b1, b2, b3⟩ := four hR5; obtain ⟨e0, e1, e2, e3, f0, f1, f2, f3⟩ := four hF5)
        | go_in)
      have hE := plan_endR (v := .slice none 0 0) (L := []) H2.out.1 (n1 := w.heap.size + 1 + 1) (n2 := w.heap.size + 1 + 1 + 1) (by omega) (by omega) (by omega) hR2 hF2 (World.ownsRow_nil _ _ _ _) (.int .i64 1) (.int .i64 0) (.string emp) (.slice none 0 0) (.string emp) (.string emp) (.int .i64 0) (.bool false)
      unfold put4 at hE
      refine bodyPost_ret (v := .tuple #[kres ⟨1, 0, emp, []⟩ (.slice none 0 0), effV eff0, .bool false]) (by simp [results, Try.results28, go_sem, World.cell?, hE.1, hE.2.1]) rfl ⟨.slice none 0 0, ?_, ?_, hE.2.2.2⟩
      · rw [HP.out]
      · rw [HP.out]
        exact hE.2.2.1
    | true =>
      by_cases hv : o.val.size ≤ 65536
      · have d1 : decide (65536 < (o.val.size : Int)) = false := by simp; omega
        have hvd : decide (o.val.size ≤ 65536) = true := decide_eq_true hv
        cases th with
        | true =>
          obtain ⟨a0, a1, a2, a3, b0, b1, b2, b3⟩ := four hR2
          obtain ⟨e0, e1, e2, e3, f0, f1, f2, f3⟩ := four hF2
          have hr : r = 7 := HR.out.trans (by rw [HWm.out]; rw [if_pos (Or.inl HK3.out), HK3.out]; rw [hvd]; rfl)
          have HP := Lib.hid (HP1.out (by omega))
          rw [hr] at HP
          clear hr
          go_wp2_with (first
            | (go_at_call 37; refine (HKy.out _).mono ?_; rintro x wz ⟨rfl, rfl⟩)
            | (go_at_call 38; refine (HSt.out W2 H2.out.1).mono ?_; rintro x w5 ⟨rfl, hb5⟩; have hS5 := (hb5.block _ (heap_lt H2.out.2.1)).trans H2.out.2.1; have hO5 := (hb5.block _ (heap_lt H2.out.2.2.1)).trans H2.out.2.2.1; have hR5 := (hb5.block _ (heap_lt H2.out.2.2.2.1)).trans H2.out.2.2.2.1; have hF5 := (hb5.block _ (heap_lt H2.out.2.2.2.2)).trans H2.out.2.2.2.2; have t0 := cell0 hS5; have t1 := cell1 hS5; obtain ⟨j0, j1, j2, j3, j4, j5⟩ := opcells hO5; obtain ⟨a0, a1, a2, a3, b0, b1, b2, b3⟩ := four hR5; obtain ⟨e0, e1, e2, e3, f0, f1, f2, f3⟩ := four hF5)
            | go_in)
          have hE := plan_endR (v := .slice none 0 0) (L := []) H2.out.1 (n1 := w.heap.size + 1 + 1) (n2 := w.heap.size + 1 + 1 + 1) (by omega) (by omega) (by omega) hR2 hF2 (World.ownsRow_nil _ _ _ _) (.int .i64 7) (.int .i64 0) (.string emp) (.slice none 0 0) (.string emp) (.string emp) (.int .i64 0) (.bool false)
          unfold put4 at hE
          refine bodyPost_ret (v := .tuple #[kres ⟨7, 0, emp, []⟩ (.slice none 0 0), effV eff0, .bool false]) (by simp [results, Try.results28, go_sem, World.cell?, hE.1, hE.2.1]) rfl ⟨.slice none 0 0, ?_, ?_, hE.2.2.2⟩
          · rw [HP.out]
          · rw [HP.out]
            exact hE.2.2.1
        | false =>
          cases hie : (o.iff.toList == ([] : List UInt8)) with
          | true =>
            have hie2 := bne_of hie
            have hr : r = 0 := HR.out.trans (by rw [HWm.out]; rw [if_pos (Or.inl HK3.out), HK3.out]; rw [hvd]; rw [hie]; rfl)
            have hef : effOf o (R + 1) = ⟨o.key, o.val, R + 1, false⟩ := by unfold effOf; rw [if_neg (by omega)]
            have HP := Lib.hid (HP0.out hr)
            rw [hef] at HP
            clear hr hef
            go_upto_region 27 with (first
              | (go_at_call 37; refine (HKy.out _).mono ?_; rintro x wz ⟨rfl, rfl⟩)
              | (go_at_call 38; refine (HSt.out W2 H2.out.1).mono ?_; rintro x w5 ⟨rfl, hb5⟩; have hS5 := (hb5.block _ (heap_lt H2.out.2.1)).trans H2.out.2.1; have hO5 := (hb5.block _ (heap_lt H2.out.2.2.1)).trans H2.out.2.2.1; have hR5 := (hb5.block _ (heap_lt H2.out.2.2.2.1)).trans H2.out.2.2.2.1; have hF5 := (hb5.block _ (heap_lt H2.out.2.2.2.2)).trans H2.out.2.2.2.2; have t0 := cell0 hS5; have t1 := cell1 hS5; obtain ⟨j0, j1, j2, j3, j4, j5⟩ := opcells hO5; obtain ⟨a0, a1, a2, a3, b0, b1, b2, b3⟩ := four hR5; obtain ⟨e0, e1, e2, e3, f0, f1, f2, f3⟩ := four hF5)
              | go_in)
            clear k0 k1 k2 k3 k4 k5 s0 s1 x0 x1 x2 hR2 hF2
            refine wp_region_held_drew (S := (fun X => Below w.heap.size w X ∧ X.heap[w.heap.size]? = some (stO R v) ∧ X.heap[w.heap.size + 1]? = some (opR o))) (by kernel_rfl) ?_ (fun r0 => ?_)
            · exact ⟨bdrew H2.out.1, H2.out.2.1, H2.out.2.2.1⟩
            obtain ⟨wd, hwd⟩ : ∃ wd, wd = W2.drew := ⟨_, rfl⟩
            rw [← hwd] at r0 ⊢
            have hR2 : wd.heap[w.heap.size + 1 + 1]? = some (resR 0 0 emp (.slice none 0 0)) := by rw [hwd]; exact H2.out.2.2.2.1
            have hF2 : wd.heap[w.heap.size + 1 + 1 + 1]? = some (effR9 eff0) := by rw [hwd]; exact H2.out.2.2.2.2
            clear hwd
            have hC3 := (put4_ne (W := wd) (g := w.heap.size + 1 + 1) (k := w.heap.size + 1 + 1 + 1) (by omega) (.int .i64 0) (.int .i64 (R + 1)) (.string emp) (.slice none 0 0)).trans hF2
            unfold put4 at hC3
            obtain ⟨a0, a1, a2, a3, b0, b1, b2, b3⟩ := four hR2
            obtain ⟨e0, e1, e2, e3, f0, f1, f2, f3⟩ := four hC3
            refine wpAnyH_take (i := 0) (v := ?_) rfl (by kernel_rfl) (by kernel_rfl) (by kernel_rfl) (fun _ _ _ h => h) (Or.inl ⟨by rfl, ?_⟩) (by assumption) ?_
            rotate_left
            · intro wS hSw
              (try dsimp only at hSw)
              go_simp
              first | done | with_reducible rfl
            try simp only [Act.put, List.getElem_toArray, List.getElem_cons_zero, List.setIfInBounds_toArray, List.set_cons_zero, List.set_cons_succ]
            refine wpAnyH_take (i := 1) (v := ?_) rfl (by kernel_rfl) (by kernel_rfl) (by kernel_rfl) (fun _ _ _ h => h) (Or.inl ⟨by rfl, ?_⟩) (by assumption) ?_
            rotate_left
            · intro wS hSw
              (try dsimp only at hSw)
              obtain ⟨sb, sh, so⟩ := hSw
              have s0 := cell0 sh
              have s1 := cell1 sh
              obtain ⟨k0, k1, k2, k3, k4, k5⟩ := opcells so
              go_simp
              first | done | with_reducible rfl
            try simp only [Act.put, List.getElem_toArray, List.getElem_cons_succ, List.getElem_cons_zero, List.setIfInBounds_toArray, List.set_cons_zero, List.set_cons_succ]
            refine wpAnyH_take (i := 2) (v := ?_) rfl (by kernel_rfl) (by kernel_rfl) (by kernel_rfl) (fun _ _ _ h => h) (Or.inl ⟨by rfl, ?_⟩) (by assumption) ?_
            rotate_left
            · intro wS hSw
              (try dsimp only at hSw)
              go_simp
              first | done | with_reducible rfl
            try simp only [Act.put, List.getElem_toArray, List.getElem_cons_succ, List.getElem_cons_zero, List.setIfInBounds_toArray, List.set_cons_zero, List.set_cons_succ]
            refine wpAnyH_take (i := 3) (v := ?_) rfl (by kernel_rfl) (by kernel_rfl) (by kernel_rfl) (fun _ _ _ h => h) (Or.inl ⟨by rfl, ?_⟩) (by assumption) ?_
            rotate_left
            · intro wS hSw
              (try dsimp only at hSw)
              go_simp
              first | done | with_reducible rfl
            try simp only [Act.put, List.getElem_toArray, List.getElem_cons_succ, List.getElem_cons_zero, List.setIfInBounds_toArray, List.set_cons_zero, List.set_cons_succ]
            refine wpAnyH_take (i := 4) (v := ?_) rfl (by kernel_rfl) (by kernel_rfl) (by kernel_rfl) (fun _ _ _ h => h) (Or.inl ⟨by rfl, ?_⟩) (by assumption) ?_
            rotate_left
            · intro wS hSw
              (try dsimp only at hSw)
              go_simp
              first | done | with_reducible rfl
            try simp only [Act.put, List.getElem_toArray, List.getElem_cons_succ, List.getElem_cons_zero, List.setIfInBounds_toArray, List.set_cons_zero, List.set_cons_succ]
            refine wpAnyH_take (i := 5) (v := ?_) rfl (by kernel_rfl) (by kernel_rfl) (by kernel_rfl) (fun _ _ _ h => h) (Or.inl ⟨by rfl, ?_⟩) (by assumption) ?_
            rotate_left
            · intro wS hSw
              (try dsimp only at hSw)
              obtain ⟨sb, sh, so⟩ := hSw
              have s0 := cell0 sh
              have s1 := cell1 sh
              obtain ⟨k0, k1, k2, k3, k4, k5⟩ := opcells so
              go_simp
              first | done | with_reducible rfl
            try simp only [Act.put, List.getElem_toArray, List.getElem_cons_succ, List.getElem_cons_zero, List.setIfInBounds_toArray, List.set_cons_zero, List.set_cons_succ]
            refine wpAnyH_take (i := 6) (v := ?_) rfl (by kernel_rfl) (by kernel_rfl) (by kernel_rfl) (fun _ _ _ h => h) (Or.inl ⟨by rfl, ?_⟩) (by assumption) ?_
            rotate_left
            · intro wS hSw
              (try dsimp only at hSw)
              go_simp
              first | done | with_reducible rfl
            try simp only [Act.put, List.getElem_toArray, List.getElem_cons_succ, List.getElem_cons_zero, List.setIfInBounds_toArray, List.set_cons_zero, List.set_cons_succ]
            refine wpAnyH_take (i := 7) (v := ?_) rfl (by kernel_rfl) (by kernel_rfl) (by kernel_rfl) (fun _ _ _ h => h) (Or.inl ⟨by rfl, ?_⟩) (by assumption) ?_
            rotate_left
            · intro wS hSw
              (try dsimp only at hSw)
              obtain ⟨sb, sh, so⟩ := hSw
              have s0 := cell0 sh
              have s1 := cell1 sh
              obtain ⟨k0, k1, k2, k3, k4, k5⟩ := opcells so
              go_simp
              first | done | with_reducible rfl
            try simp only [Act.put, List.getElem_toArray, List.getElem_cons_succ, List.getElem_cons_zero, List.setIfInBounds_toArray, List.set_cons_zero, List.set_cons_succ]
            refine wpAnyH_take (i := 8) (v := ?_) rfl (by kernel_rfl) (by kernel_rfl) (by kernel_rfl) (fun _ _ _ h => h) (Or.inl ⟨by rfl, ?_⟩) (by assumption) ?_
            rotate_left
            · intro wS hSw
              (try dsimp only at hSw)
              go_simp
              first | done | with_reducible rfl
            try simp only [Act.put, List.getElem_toArray, List.getElem_cons_succ, List.getElem_cons_zero, List.setIfInBounds_toArray, List.set_cons_zero, List.set_cons_succ]
            refine wpAnyH_take (i := 9) (v := ?_) rfl (by kernel_rfl) (by kernel_rfl) (by kernel_rfl) (fun _ _ _ h => h) (Or.inl ⟨by rfl, ?_⟩) (by assumption) ?_
            rotate_left
            · intro wS hSw
              (try dsimp only at hSw)
              obtain ⟨sb, sh, so⟩ := hSw
              have s0 := cell0 sh
              have s1 := cell1 sh
              obtain ⟨k0, k1, k2, k3, k4, k5⟩ := opcells so
              go_simp
              first | done | with_reducible rfl
            try simp only [Act.put, List.getElem_toArray, List.getElem_cons_succ, List.getElem_cons_zero, List.setIfInBounds_toArray, List.set_cons_zero, List.set_cons_succ]
            refine wpAnyH_take (i := 10) (v := ?_) rfl (by kernel_rfl) (by kernel_rfl) (by kernel_rfl) (fun _ _ _ h => h) (Or.inl ⟨by rfl, ?_⟩) (by assumption) ?_
            rotate_left
            · intro wS hSw
              (try dsimp only at hSw)
              go_simp
              first | done | with_reducible rfl
            try simp only [Act.put, List.getElem_toArray, List.getElem_cons_succ, List.getElem_cons_zero, List.setIfInBounds_toArray, List.set_cons_zero, List.set_cons_succ]
            refine wpAnyH_take (i := 11) (v := ?_) rfl (by kernel_rfl) (by kernel_rfl) (by kernel_rfl) (fun _ _ _ h => h) (Or.inl ⟨by rfl, ?_⟩) (by assumption) ?_
            rotate_left
            · intro wS hSw
              (try dsimp only at hSw)
              go_simp
              first | done | with_reducible rfl
            try simp only [Act.put, List.getElem_toArray, List.getElem_cons_succ, List.getElem_cons_zero, List.setIfInBounds_toArray, List.set_cons_zero, List.set_cons_succ]
            refine wpAnyH_ready (rs := [12]) (by kernel_rfl) (by simp) ?_
            refine AllReadyH.cons rfl (fun K hK => ?_) AllReadyH.nil
            go_simp
            refine hK.out _ _ ?_ (fun r1 => ?_)
            · exact ⟨put4_below r0.1 (by omega) _ _ _ _, (put4_ne (by omega) _ _ _ _).trans r0.2.1, (put4_ne (by omega) _ _ _ _).trans r0.2.2⟩
            try simp only [Act.put, List.getElem_toArray, List.getElem_cons_succ, List.getElem_cons_zero, List.setIfInBounds_toArray, List.set_cons_zero, List.set_cons_succ]
            refine wpAnyH_ready (rs := [13]) (by kernel_rfl) (by simp) ?_
            refine AllReadyH.cons rfl (fun K hK => ?_) AllReadyH.nil
            go_simp
            refine hK.out _ _ ?_ (fun r2 => ?_)
            · exact ⟨put4_below (put4_below r0.1 (by omega) _ _ _ _) (by omega) _ _ _ _, ((put4_ne (by omega) _ _ _ _).trans (put4_ne (by omega) _ _ _ _)).trans r0.2.1, ((put4_ne (by omega) _ _ _ _).trans (put4_ne (by omega) _ _ _ _)).trans r0.2.2⟩
            try simp only [Act.put, List.getElem_toArray, List.getElem_cons_succ, List.getElem_cons_zero, List.setIfInBounds_toArray, List.set_cons_zero, List.set_cons_succ]
            refine wpAnyH_take (i := 14) (v := ?_) rfl (by kernel_rfl) (by kernel_rfl) (by kernel_rfl) (fun _ _ _ h => h) (Or.inl ⟨by rfl, ?_⟩) (by assumption) ?_
            rotate_left
            · intro wS hSw
              (try dsimp only at hSw)
              go_simp
              first | done | with_reducible rfl
            try simp only [Act.put, List.getElem_toArray, List.getElem_cons_succ, List.getElem_cons_zero, List.setIfInBounds_toArray, List.set_cons_zero, List.set_cons_succ]
            refine wpAnyH_done (by kernel_rfl) ?_ _
            go_wp2_with fail
            have hE := plan_endR (v := .slice none 0 0) (L := []) r0.1 (n1 := w.heap.size + 1 + 1) (n2 := w.heap.size + 1 + 1 + 1) (by omega) (by omega) (by omega) hR2 hF2 (World.ownsRow_nil _ _ _ _) (.int .i64 0) (.int .i64 (R + 1)) (.string emp) (.slice none 0 0) (.string o.key) (.string o.val) (.int .i64 (R + 1)) (.bool false)
            unfold put4 at hE
            refine bodyPost_ret (v := .tuple #[kres ⟨0, R + 1, emp, []⟩ (.slice none 0 0), effV ⟨o.key, o.val, R + 1, false⟩, .bool true]) (by simp [results, Try.results28, go_sem, World.cell?, hE.1, hE.2.1]) rfl ⟨.slice none 0 0, ?_, ?_, hE.2.2.2⟩
            · rw [HP.out]
            · rw [HP.out]
              exact hE.2.2.1
          | false =>
            have hie2 := bne_of hie
            cases st with
            | true =>
              have hr : r = 0 := HR.out.trans (by rw [HWm.out]; rw [if_pos (Or.inl HK3.out), HK3.out]; rw [hvd]; rw [hie]; rfl)
              have hef : effOf o (R + 1) = ⟨o.key, o.val, R + 1, false⟩ := by unfold effOf; rw [if_neg (by omega)]
              have HP := Lib.hid (HP0.out hr)
              rw [hef] at HP
              clear hr hef
              go_upto_region 27 with (first
                | (go_at_call 37; refine (HKy.out _).mono ?_; rintro x wz ⟨rfl, rfl⟩)
                | (go_at_call 38; refine (HSt.out W2 H2.out.1).mono ?_; rintro x w5 ⟨rfl, hb5⟩; have hS5 := (hb5.block _ (heap_lt H2.out.2.1)).trans H2.out.2.1; have hO5 := (hb5.block _ (heap_lt H2.out.2.2.1)).trans H2.out.2.2.1; have hR5 := (hb5.block _ (heap_lt H2.out.2.2.2.1)).trans H2.out.2.2.2.1; have hF5 := (hb5.block _ (heap_lt H2.out.2.2.2.2)).trans H2.out.2.2.2.2; have t0 := cell0 hS5; have t1 := cell1 hS5; obtain ⟨j0, j1, j2, j3, j4, j5⟩ := opcells hO5; obtain ⟨a0, a1, a2, a3, b0, b1, b2, b3⟩ := four hR5; obtain ⟨e0, e1, e2, e3, f0, f1, f2, f3⟩ := four hF5)
                | go_in)
              have H5 := Lib.hid (And.intro (H2.out.1.trans (hb5.mono H2.out.1.size)) (And.intro hS5 (And.intro hO5 (And.intro hR5 hF5))))
              clear hS5 hO5 hR5 hF5 a0 a1 a2 a3 b0 b1 b2 b3 e0 e1 e2 e3 f0 f1 f2 f3 t0 t1 j0 j1 j2 j3 j4 j5 hb5
              clear k0 k1 k2 k3 k4 k5 s0 s1 x0 x1 x2 hR2 hF2
              refine wp_region_held_drew (S := (fun X => Below w.heap.size w X ∧ X.heap[w.heap.size]? = some (stO R v) ∧ X.heap[w.heap.size + 1]? = some (opR o))) (by kernel_rfl) ?_ (fun r0 => ?_)
              · exact ⟨bdrew H5.out.1, H5.out.2.1, H5.out.2.2.1⟩
              obtain ⟨wd, hwd⟩ : ∃ wd, wd = w5.drew := ⟨_, rfl⟩
              rw [← hwd] at r0 ⊢
              have hR2 : wd.heap[w.heap.size + 1 + 1]? = some (resR 0 0 emp (.slice none 0 0)) := by rw [hwd]; exact H5.out.2.2.2.1
              have hF2 : wd.heap[w.heap.size + 1 + 1 + 1]? = some (effR9 eff0) := by rw [hwd]; exact H5.out.2.2.2.2
              clear hwd
              have hC3 := (put4_ne (W := wd) (g := w.heap.size + 1 + 1) (k := w.heap.size + 1 + 1 + 1) (by omega) (.int .i64 0) (.int .i64 (R + 1)) (.string emp) (.slice none 0 0)).trans hF2
              unfold put4 at hC3
              obtain ⟨a0, a1, a2, a3, b0, b1, b2, b3⟩ := four hR2
              obtain ⟨e0, e1, e2, e3, f0, f1, f2, f3⟩ := four hC3
              refine wpAnyH_take (i := 0) (v := ?_) rfl (by kernel_rfl) (by kernel_rfl) (by kernel_rfl) (fun _ _ _ h => h) (Or.inl ⟨by rfl, ?_⟩) (by assumption) ?_
              rotate_left
              · intro wS hSw
                (try dsimp only at hSw)
                go_simp
                first | done | with_reducible rfl
              try simp only [Act.put, List.getElem_toArray, List.getElem_cons_zero, List.setIfInBounds_toArray, List.set_cons_zero, List.set_cons_succ]
              refine wpAnyH_take (i := 1) (v := ?_) rfl (by kernel_rfl) (by kernel_rfl) (by kernel_rfl) (fun _ _ _ h => h) (Or.inl ⟨by rfl, ?_⟩) (by assumption) ?_
              rotate_left
              · intro wS hSw
                (try dsimp only at hSw)
                obtain ⟨sb, sh, so⟩ := hSw
                have s0 := cell0 sh
                have s1 := cell1 sh
                obtain ⟨k0, k1, k2, k3, k4, k5⟩ := opcells so
                go_simp
                first | done | with_reducible rfl
              try simp only [Act.put, List.getElem_toArray, List.getElem_cons_succ, List.getElem_cons_zero, List.setIfInBounds_toArray, List.set_cons_zero, List.set_cons_succ]
              refine wpAnyH_take (i := 2) (v := ?_) rfl (by kernel_rfl) (by kernel_rfl) (by kernel_rfl) (fun _ _ _ h => h) (Or.inl ⟨by rfl, ?_⟩) (by assumption) ?_
              rotate_left
              · intro wS hSw
                (try dsimp only at hSw)
                go_simp
                first | done | with_reducible rfl
              try simp only [Act.put, List.getElem_toArray, List.getElem_cons_succ, List.getElem_cons_zero, List.setIfInBounds_toArray, List.set_cons_zero, List.set_cons_succ]
              refine wpAnyH_take (i := 3) (v := ?_) rfl (by kernel_rfl) (by kernel_rfl) (by kernel_rfl) (fun _ _ _ h => h) (Or.inl ⟨by rfl, ?_⟩) (by assumption) ?_
              rotate_left
              · intro wS hSw
                (try dsimp only at hSw)
                go_simp
                first | done | with_reducible rfl
              try simp only [Act.put, List.getElem_toArray, List.getElem_cons_succ, List.getElem_cons_zero, List.setIfInBounds_toArray, List.set_cons_zero, List.set_cons_succ]
              refine wpAnyH_take (i := 4) (v := ?_) rfl (by kernel_rfl) (by kernel_rfl) (by kernel_rfl) (fun _ _ _ h => h) (Or.inl ⟨by rfl, ?_⟩) (by assumption) ?_
              rotate_left
              · intro wS hSw
                (try dsimp only at hSw)
                go_simp
                first | done | with_reducible rfl
              try simp only [Act.put, List.getElem_toArray, List.getElem_cons_succ, List.getElem_cons_zero, List.setIfInBounds_toArray, List.set_cons_zero, List.set_cons_succ]
              refine wpAnyH_take (i := 5) (v := ?_) rfl (by kernel_rfl) (by kernel_rfl) (by kernel_rfl) (fun _ _ _ h => h) (Or.inl ⟨by rfl, ?_⟩) (by assumption) ?_
              rotate_left
              · intro wS hSw
                (try dsimp only at hSw)
                obtain ⟨sb, sh, so⟩ := hSw
                have s0 := cell0 sh
                have s1 := cell1 sh
                obtain ⟨k0, k1, k2, k3, k4, k5⟩ := opcells so
                go_simp
                first | done | with_reducible rfl
              try simp only [Act.put, List.getElem_toArray, List.getElem_cons_succ, List.getElem_cons_zero, List.setIfInBounds_toArray, List.set_cons_zero, List.set_cons_succ]
              refine wpAnyH_take (i := 6) (v := ?_) rfl (by kernel_rfl) (by kernel_rfl) (by kernel_rfl) (fun _ _ _ h => h) (Or.inl ⟨by rfl, ?_⟩) (by assumption) ?_
              rotate_left
              · intro wS hSw
                (try dsimp only at hSw)
                go_simp
                first | done | with_reducible rfl
              try simp only [Act.put, List.getElem_toArray, List.getElem_cons_succ, List.getElem_cons_zero, List.setIfInBounds_toArray, List.set_cons_zero, List.set_cons_succ]
              refine wpAnyH_take (i := 7) (v := ?_) rfl (by kernel_rfl) (by kernel_rfl) (by kernel_rfl) (fun _ _ _ h => h) (Or.inl ⟨by rfl, ?_⟩) (by assumption) ?_
              rotate_left
              · intro wS hSw
                (try dsimp only at hSw)
                obtain ⟨sb, sh, so⟩ := hSw
                have s0 := cell0 sh
                have s1 := cell1 sh
                obtain ⟨k0, k1, k2, k3, k4, k5⟩ := opcells so
                go_simp
                first | done | with_reducible rfl
              try simp only [Act.put, List.getElem_toArray, List.getElem_cons_succ, List.getElem_cons_zero, List.setIfInBounds_toArray, List.set_cons_zero, List.set_cons_succ]
              refine wpAnyH_take (i := 8) (v := ?_) rfl (by kernel_rfl) (by kernel_rfl) (by kernel_rfl) (fun _ _ _ h => h) (Or.inl ⟨by rfl, ?_⟩) (by assumption) ?_
              rotate_left
              · intro wS hSw
                (try dsimp only at hSw)
                go_simp
                first | done | with_reducible rfl
              try simp only [Act.put, List.getElem_toArray, List.getElem_cons_succ, List.getElem_cons_zero, List.setIfInBounds_toArray, List.set_cons_zero, List.set_cons_succ]
              refine wpAnyH_take (i := 9) (v := ?_) rfl (by kernel_rfl) (by kernel_rfl) (by kernel_rfl) (fun _ _ _ h => h) (Or.inl ⟨by rfl, ?_⟩) (by assumption) ?_
              rotate_left
              · intro wS hSw
                (try dsimp only at hSw)
                obtain ⟨sb, sh, so⟩ := hSw
                have s0 := cell0 sh
                have s1 := cell1 sh
                obtain ⟨k0, k1, k2, k3, k4, k5⟩ := opcells so
                go_simp
                first | done | with_reducible rfl
              try simp only [Act.put, List.getElem_toArray, List.getElem_cons_succ, List.getElem_cons_zero, List.setIfInBounds_toArray, List.set_cons_zero, List.set_cons_succ]
              refine wpAnyH_take (i := 10) (v := ?_) rfl (by kernel_rfl) (by kernel_rfl) (by kernel_rfl) (fun _ _ _ h => h) (Or.inl ⟨by rfl, ?_⟩) (by assumption) ?_
              rotate_left
              · intro wS hSw
                (try dsimp only at hSw)
                go_simp
                first | done | with_reducible rfl
              try simp only [Act.put, List.getElem_toArray, List.getElem_cons_succ, List.getElem_cons_zero, List.setIfInBounds_toArray, List.set_cons_zero, List.set_cons_succ]
              refine wpAnyH_take (i := 11) (v := ?_) rfl (by kernel_rfl) (by kernel_rfl) (by kernel_rfl) (fun _ _ _ h => h) (Or.inl ⟨by rfl, ?_⟩) (by assumption) ?_
              rotate_left
              · intro wS hSw
                (try dsimp only at hSw)
                go_simp
                first | done | with_reducible rfl
              try simp only [Act.put, List.getElem_toArray, List.getElem_cons_succ, List.getElem_cons_zero, List.setIfInBounds_toArray, List.set_cons_zero, List.set_cons_succ]
              refine wpAnyH_ready (rs := [12]) (by kernel_rfl) (by simp) ?_
              refine AllReadyH.cons rfl (fun K hK => ?_) AllReadyH.nil
              go_simp
              refine hK.out _ _ ?_ (fun r1 => ?_)
              · exact ⟨put4_below r0.1 (by omega) _ _ _ _, (put4_ne (by omega) _ _ _ _).trans r0.2.1, (put4_ne (by omega) _ _ _ _).trans r0.2.2⟩
              try simp only [Act.put, List.getElem_toArray, List.getElem_cons_succ, List.getElem_cons_zero, List.setIfInBounds_toArray, List.set_cons_zero, List.set_cons_succ]
              refine wpAnyH_ready (rs := [13]) (by kernel_rfl) (by simp) ?_
              refine AllReadyH.cons rfl (fun K hK => ?_) AllReadyH.nil
              go_simp
              refine hK.out _ _ ?_ (fun r2 => ?_)
              · exact ⟨put4_below (put4_below r0.1 (by omega) _ _ _ _) (by omega) _ _ _ _, ((put4_ne (by omega) _ _ _ _).trans (put4_ne (by omega) _ _ _ _)).trans r0.2.1, ((put4_ne (by omega) _ _ _ _).trans (put4_ne (by omega) _ _ _ _)).trans r0.2.2⟩
              try simp only [Act.put, List.getElem_toArray, List.getElem_cons_succ, List.getElem_cons_zero, List.setIfInBounds_toArray, List.set_cons_zero, List.set_cons_succ]
              refine wpAnyH_take (i := 14) (v := ?_) rfl (by kernel_rfl) (by kernel_rfl) (by kernel_rfl) (fun _ _ _ h => h) (Or.inl ⟨by rfl, ?_⟩) (by assumption) ?_
              rotate_left
              · intro wS hSw
                (try dsimp only at hSw)
                go_simp
                first | done | with_reducible rfl
              try simp only [Act.put, List.getElem_toArray, List.getElem_cons_succ, List.getElem_cons_zero, List.setIfInBounds_toArray, List.set_cons_zero, List.set_cons_succ]
              refine wpAnyH_done (by kernel_rfl) ?_ _
              go_wp2_with fail
              have hE := plan_endR (v := .slice none 0 0) (L := []) r0.1 (n1 := w.heap.size + 1 + 1) (n2 := w.heap.size + 1 + 1 + 1) (by omega) (by omega) (by omega) hR2 hF2 (World.ownsRow_nil _ _ _ _) (.int .i64 0) (.int .i64 (R + 1)) (.string emp) (.slice none 0 0) (.string o.key) (.string o.val) (.int .i64 (R + 1)) (.bool false)
              unfold put4 at hE
              refine bodyPost_ret (v := .tuple #[kres ⟨0, R + 1, emp, []⟩ (.slice none 0 0), effV ⟨o.key, o.val, R + 1, false⟩, .bool true]) (by simp [results, Try.results28, go_sem, World.cell?, hE.1, hE.2.1]) rfl ⟨.slice none 0 0, ?_, ?_, hE.2.2.2⟩
              · rw [HP.out]
              · rw [HP.out]
                exact hE.2.2.1
            | false =>
              have hr : r = 8 := HR.out.trans (by rw [HWm.out]; rw [if_pos (Or.inl HK3.out), HK3.out]; rw [hvd]; rw [hie]; rfl)
              have HP := Lib.hid (HP1.out (by omega))
              rw [hr] at HP
              clear hr
              go_wp2_with (first
                | (go_at_call 37; refine (HKy.out _).mono ?_; rintro x wz ⟨rfl, rfl⟩)
                | (go_at_call 38; refine (HSt.out W2 H2.out.1).mono ?_; rintro x w5 ⟨rfl, hb5⟩; have hS5 := (hb5.block _ (heap_lt H2.out.2.1)).trans H2.out.2.1; have hO5 := (hb5.block _ (heap_lt H2.out.2.2.1)).trans H2.out.2.2.1; have hR5 := (hb5.block _ (heap_lt H2.out.2.2.2.1)).trans H2.out.2.2.2.1; have hF5 := (hb5.block _ (heap_lt H2.out.2.2.2.2)).trans H2.out.2.2.2.2; have t0 := cell0 hS5; have t1 := cell1 hS5; obtain ⟨j0, j1, j2, j3, j4, j5⟩ := opcells hO5; obtain ⟨a0, a1, a2, a3, b0, b1, b2, b3⟩ := four hR5; obtain ⟨e0, e1, e2, e3, f0, f1, f2, f3⟩ := four hF5)
                | go_in)
              have hb6 := H2.out.1.trans (hb5.mono H2.out.1.size)
              have hE := plan_endR (v := .slice none 0 0) (L := []) hb6 (n1 := w.heap.size + 1 + 1) (n2 := w.heap.size + 1 + 1 + 1) (by omega) (by omega) (by omega) hR5 hF5 (World.ownsRow_nil _ _ _ _) (.int .i64 8) (.int .i64 0) (.string emp) (.slice none 0 0) (.string emp) (.string emp) (.int .i64 0) (.bool false)
              unfold put4 at hE
              refine bodyPost_ret (v := .tuple #[kres ⟨8, 0, emp, []⟩ (.slice none 0 0), effV eff0, .bool false]) (by simp [results, Try.results28, go_sem, World.cell?, hE.1, hE.2.1]) rfl ⟨.slice none 0 0, ?_, ?_, hE.2.2.2⟩
              · rw [HP.out]
              · rw [HP.out]
                exact hE.2.2.1
      · have d1 : decide (65536 < (o.val.size : Int)) = true := by simp; omega
        have hvd : decide (o.val.size ≤ 65536) = false := decide_eq_false hv
        obtain ⟨a0, a1, a2, a3, b0, b1, b2, b3⟩ := four hR2
        obtain ⟨e0, e1, e2, e3, f0, f1, f2, f3⟩ := four hF2
        have hr : r = 1 := HR.out.trans (by rw [HWm.out]; rw [if_pos (Or.inl HK3.out), HK3.out]; rw [hvd]; rfl)
        have HP := Lib.hid (HP1.out (by omega))
        rw [hr] at HP
        clear hr
        go_wp2_with (first
          | (go_at_call 37; refine (HKy.out _).mono ?_; rintro x wz ⟨rfl, rfl⟩)
          | (go_at_call 38; refine (HSt.out W2 H2.out.1).mono ?_; rintro x w5 ⟨rfl, hb5⟩; have hS5 := (hb5.block _ (heap_lt H2.out.2.1)).trans H2.out.2.1; have hO5 := (hb5.block _ (heap_lt H2.out.2.2.1)).trans H2.out.2.2.1; have hR5 := (hb5.block _ (heap_lt H2.out.2.2.2.1)).trans H2.out.2.2.2.1; have hF5 := (hb5.block _ (heap_lt H2.out.2.2.2.2)).trans H2.out.2.2.2.2; have t0 := cell0 hS5; have t1 := cell1 hS5; obtain ⟨j0, j1, j2, j3, j4, j5⟩ := opcells hO5; obtain ⟨a0, a1, a2, a3, b0, b1, b2, b3⟩ := four hR5; obtain ⟨e0, e1, e2, e3, f0, f1, f2, f3⟩ := four hF5)
          | go_in)
        have hE := plan_endR (v := .slice none 0 0) (L := []) H2.out.1 (n1 := w.heap.size + 1 + 1) (n2 := w.heap.size + 1 + 1 + 1) (by omega) (by omega) (by omega) hR2 hF2 (World.ownsRow_nil _ _ _ _) (.int .i64 1) (.int .i64 0) (.string emp) (.slice none 0 0) (.string emp) (.string emp) (.int .i64 0) (.bool false)
        unfold put4 at hE
        refine bodyPost_ret (v := .tuple #[kres ⟨1, 0, emp, []⟩ (.slice none 0 0), effV eff0, .bool false]) (by simp [results, Try.results28, go_sem, World.cell?, hE.1, hE.2.1]) rfl ⟨.slice none 0 0, ?_, ?_, hE.2.2.2⟩
        · rw [HP.out]
        · rw [HP.out]
          exact hE.2.2.1
  · by_cases hk4 : o.kind = 4
    · clear hk
      have hk := hk4
      clear hk4
      have HK3 := Lib.hid hk
      rw [hk] at k0
      cases mk with
      | false =>
        obtain ⟨a0, a1, a2, a3, b0, b1, b2, b3⟩ := four hR2
        obtain ⟨e0, e1, e2, e3, f0, f1, f2, f3⟩ := four hF2
        have hr : r = 1 := HR.out.trans (by rw [HWm.out]; rw [if_pos (Or.inr HK3.out), HK3.out]; rw [Bool.false_and]; rfl)
        have HP := Lib.hid (HP1.out (by omega))
        rw [hr] at HP
        clear hr
        go_wp2_with (first
          | (go_at_call 37; refine (HKy.out _).mono ?_; rintro x wz ⟨rfl, rfl⟩)
          | (go_at_call 38; refine (HSt.out W2 H2.out.1).mono ?_; rintro x w5 ⟨rfl, hb5⟩; have hS5 := (hb5.block _ (heap_lt H2.out.2.1)).trans H2.out.2.1; have hO5 := (hb5.block _ (heap_lt H2.out.2.2.1)).trans H2.out.2.2.1; have hR5 := (hb5.block _ (heap_lt H2.out.2.2.2.1)).trans H2.out.2.2.2.1; have hF5 := (hb5.block _ (heap_lt H2.out.2.2.2.2)).trans H2.out.2.2.2.2; have t0 := cell0 hS5; have t1 := cell1 hS5; obtain ⟨j0, j1, j2, j3, j4, j5⟩ := opcells hO5; obtain ⟨a0, a1, a2, a3, b0, b1, b2, b3⟩ := four hR5; obtain ⟨e0, e1, e2, e3, f0, f1, f2, f3⟩ := four hF5)
          | go_in)
        have hE := plan_endR (v := .slice none 0 0) (L := []) H2.out.1 (n1 := w.heap.size + 1 + 1) (n2 := w.heap.size + 1 + 1 + 1) (by omega) (by omega) (by omega) hR2 hF2 (World.ownsRow_nil _ _ _ _) (.int .i64 1) (.int .i64 0) (.string emp) (.slice none 0 0) (.string emp) (.string emp) (.int .i64 0) (.bool false)
        unfold put4 at hE
        refine bodyPost_ret (v := .tuple #[kres ⟨1, 0, emp, []⟩ (.slice none 0 0), effV eff0, .bool false]) (by simp [results, Try.results28, go_sem, World.cell?, hE.1, hE.2.1]) rfl ⟨.slice none 0 0, ?_, ?_, hE.2.2.2⟩
        · rw [HP.out]
        · rw [HP.out]
          exact hE.2.2.1
      | true =>
        by_cases hv : o.val.size ≤ 65536
        · have d1 : decide (65536 < (o.val.size : Int)) = false := by simp; omega
          have hvd : decide (o.val.size ≤ 65536) = true := decide_eq_true hv
          cases th with
          | false =>
            obtain ⟨a0, a1, a2, a3, b0, b1, b2, b3⟩ := four hR2
            obtain ⟨e0, e1, e2, e3, f0, f1, f2, f3⟩ := four hF2
            have hr : r = 6 := HR.out.trans (by rw [HWm.out]; rw [if_pos (Or.inr HK3.out), HK3.out]; rw [hvd]; rfl)
            have HP := Lib.hid (HP1.out (by omega))
            rw [hr] at HP
            clear hr
            go_wp2_with (first
              | (go_at_call 37; refine (HKy.out _).mono ?_; rintro x wz ⟨rfl, rfl⟩)
              | (go_at_call 38; refine (HSt.out W2 H2.out.1).mono ?_; rintro x w5 ⟨rfl, hb5⟩; have hS5 := (hb5.block _ (heap_lt H2.out.2.1)).trans H2.out.2.1; have hO5 := (hb5.block _ (heap_lt H2.out.2.2.1)).trans H2.out.2.2.1; have hR5 := (hb5.block _ (heap_lt H2.out.2.2.2.1)).trans H2.out.2.2.2.1; have hF5 := (hb5.block _ (heap_lt H2.out.2.2.2.2)).trans H2.out.2.2.2.2; have t0 := cell0 hS5; have t1 := cell1 hS5; obtain ⟨j0, j1, j2, j3, j4, j5⟩ := opcells hO5; obtain ⟨a0, a1, a2, a3, b0, b1, b2, b3⟩ := four hR5; obtain ⟨e0, e1, e2, e3, f0, f1, f2, f3⟩ := four hF5)
              | go_in)
            have hE := plan_endR (v := .slice none 0 0) (L := []) H2.out.1 (n1 := w.heap.size + 1 + 1) (n2 := w.heap.size + 1 + 1 + 1) (by omega) (by omega) (by omega) hR2 hF2 (World.ownsRow_nil _ _ _ _) (.int .i64 6) (.int .i64 0) (.string emp) (.slice none 0 0) (.string emp) (.string emp) (.int .i64 0) (.bool false)
            unfold put4 at hE
            refine bodyPost_ret (v := .tuple #[kres ⟨6, 0, emp, []⟩ (.slice none 0 0), effV eff0, .bool false]) (by simp [results, Try.results28, go_sem, World.cell?, hE.1, hE.2.1]) rfl ⟨.slice none 0 0, ?_, ?_, hE.2.2.2⟩
            · rw [HP.out]
            · rw [HP.out]
              exact hE.2.2.1
          | true =>
            cases hre : (u3 == o.rev) with
            | false =>
              have hre2 := bne_of hre
              obtain ⟨a0, a1, a2, a3, b0, b1, b2, b3⟩ := four hR2
              obtain ⟨e0, e1, e2, e3, f0, f1, f2, f3⟩ := four hF2
              have hr : r = 8 := HR.out.trans (by rw [HWm.out]; rw [if_pos (Or.inr HK3.out), HK3.out]; rw [hvd]; rw [hre]; rfl)
              have HP := Lib.hid (HP1.out (by omega))
              rw [hr] at HP
              clear hr
              go_wp2_with (first
                | (go_at_call 37; refine (HKy.out _).mono ?_; rintro x wz ⟨rfl, rfl⟩)
                | (go_at_call 38; refine (HSt.out W2 H2.out.1).mono ?_; rintro x w5 ⟨rfl, hb5⟩; have hS5 := (hb5.block _ (heap_lt H2.out.2.1)).trans H2.out.2.1; have hO5 := (hb5.block _ (heap_lt H2.out.2.2.1)).trans H2.out.2.2.1; have hR5 := (hb5.block _ (heap_lt H2.out.2.2.2.1)).trans H2.out.2.2.2.1; have hF5 := (hb5.block _ (heap_lt H2.out.2.2.2.2)).trans H2.out.2.2.2.2; have t0 := cell0 hS5; have t1 := cell1 hS5; obtain ⟨j0, j1, j2, j3, j4, j5⟩ := opcells hO5; obtain ⟨a0, a1, a2, a3, b0, b1, b2, b3⟩ := four hR5; obtain ⟨e0, e1, e2, e3, f0, f1, f2, f3⟩ := four hF5)
                | go_in)
              have hE := plan_endR (v := .slice none 0 0) (L := []) H2.out.1 (n1 := w.heap.size + 1 + 1) (n2 := w.heap.size + 1 + 1 + 1) (by omega) (by omega) (by omega) hR2 hF2 (World.ownsRow_nil _ _ _ _) (.int .i64 8) (.int .i64 0) (.string emp) (.slice none 0 0) (.string emp) (.string emp) (.int .i64 0) (.bool false)
              unfold put4 at hE
              refine bodyPost_ret (v := .tuple #[kres ⟨8, 0, emp, []⟩ (.slice none 0 0), effV eff0, .bool false]) (by simp [results, Try.results28, go_sem, World.cell?, hE.1, hE.2.1]) rfl ⟨.slice none 0 0, ?_, ?_, hE.2.2.2⟩
              · rw [HP.out]
              · rw [HP.out]
                exact hE.2.2.1
            | true =>
              have hre2 := bne_of hre
              cases hie : (o.iff.toList == ([] : List UInt8)) with
              | true =>
                have hie2 := bne_of hie
                have hr : r = 0 := HR.out.trans (by rw [HWm.out]; rw [if_pos (Or.inr HK3.out), HK3.out]; rw [hvd]; rw [hre]; rw [hie]; rfl)
                have hef : effOf o (R + 1) = ⟨o.key, o.val, R + 1, false⟩ := by unfold effOf; rw [if_neg (by omega)]
                have HP := Lib.hid (HP0.out hr)
                rw [hef] at HP
                clear hr hef
                go_upto_region 27 with (first
                  | (go_at_call 37; refine (HKy.out _).mono ?_; rintro x wz ⟨rfl, rfl⟩)
                  | (go_at_call 38; refine (HSt.out W2 H2.out.1).mono ?_; rintro x w5 ⟨rfl, hb5⟩; have hS5 := (hb5.block _ (heap_lt H2.out.2.1)).trans H2.out.2.1; have hO5 := (hb5.block _ (heap_lt H2.out.2.2.1)).trans H2.out.2.2.1; have hR5 := (hb5.block _ (heap_lt H2.out.2.2.2.1)).trans H2.out.2.2.2.1; have hF5 := (hb5.block _ (heap_lt H2.out.2.2.2.2)).trans H2.out.2.2.2.2; have t0 := cell0 hS5; have t1 := cell1 hS5; obtain ⟨j0, j1, j2, j3, j4, j5⟩ := opcells hO5; obtain ⟨a0, a1, a2, a3, b0, b1, b2, b3⟩ := four hR5; obtain ⟨e0, e1, e2, e3, f0, f1, f2, f3⟩ := four hF5)
                  | go_in)
                clear k0 k1 k2 k3 k4 k5 s0 s1 x0 x1 x2 hR2 hF2
                refine wp_region_held_drew (S := (fun X => Below w.heap.size w X ∧ X.heap[w.heap.size]? = some (stO R v) ∧ X.heap[w.heap.size + 1]? = some (opR o))) (by kernel_rfl) ?_ (fun r0 => ?_)
                · exact ⟨bdrew H2.out.1, H2.out.2.1, H2.out.2.2.1⟩
                obtain ⟨wd, hwd⟩ : ∃ wd, wd = W2.drew := ⟨_, rfl⟩
                rw [← hwd] at r0 ⊢
                have hR2 : wd.heap[w.heap.size + 1 + 1]? = some (resR 0 0 emp (.slice none 0 0)) := by rw [hwd]; exact H2.out.2.2.2.1
                have hF2 : wd.heap[w.heap.size + 1 + 1 + 1]? = some (effR9 eff0) := by rw [hwd]; exact H2.out.2.2.2.2
                clear hwd
                have hC3 := (put4_ne (W := wd) (g := w.heap.size + 1 + 1) (k := w.heap.size + 1 + 1 + 1) (by omega) (.int .i64 0) (.int .i64 (R + 1)) (.string emp) (.slice none 0 0)).trans hF2
                unfold put4 at hC3
                obtain ⟨a0, a1, a2, a3, b0, b1, b2, b3⟩ := four hR2
                obtain ⟨e0, e1, e2, e3, f0, f1, f2, f3⟩ := four hC3
                refine wpAnyH_take (i := 0) (v := ?_) rfl (by kernel_rfl) (by kernel_rfl) (by kernel_rfl) (fun _ _ _ h => h) (Or.inl ⟨by rfl, ?_⟩) (by assumption) ?_
                rotate_left
                · intro wS hSw
                  (try dsimp only at hSw)
                  go_simp
                  first | done | with_reducible rfl
                try simp only [Act.put, List.getElem_toArray, List.getElem_cons_zero, List.setIfInBounds_toArray, List.set_cons_zero, List.set_cons_succ]
                refine wpAnyH_take (i := 1) (v := ?_) rfl (by kernel_rfl) (by kernel_rfl) (by kernel_rfl) (fun _ _ _ h => h) (Or.inl ⟨by rfl, ?_⟩) (by assumption) ?_
                rotate_left
                · intro wS hSw
                  (try dsimp only at hSw)
                  obtain ⟨sb, sh, so⟩ := hSw
                  have s0 := cell0 sh
                  have s1 := cell1 sh
                  obtain ⟨k0, k1, k2, k3, k4, k5⟩ := opcells so
                  go_simp
                  first | done | with_reducible rfl
                try simp only [Act.put, List.getElem_toArray, List.getElem_cons_succ, List.getElem_cons_zero, List.setIfInBounds_toArray, List.set_cons_zero, List.set_cons_succ]
                refine wpAnyH_take (i := 2) (v := ?_) rfl (by kernel_rfl) (by kernel_rfl) (by kernel_rfl) (fun _ _ _ h => h) (Or.inl ⟨by rfl, ?_⟩) (by assumption) ?_
                rotate_left
                · intro wS hSw
                  (try dsimp only at hSw)
                  go_simp
                  first | done | with_reducible rfl
                try simp only [Act.put, List.getElem_toArray, List.getElem_cons_succ, List.getElem_cons_zero, List.setIfInBounds_toArray, List.set_cons_zero, List.set_cons_succ]
                refine wpAnyH_take (i := 3) (v := ?_) rfl (by kernel_rfl) (by kernel_rfl) (by kernel_rfl) (fun _ _ _ h => h) (Or.inl ⟨by rfl, ?_⟩) (by assumption) ?_
                rotate_left
                · intro wS hSw
                  (try dsimp only at hSw)
                  go_simp
                  first | done | with_reducible rfl
                try simp only [Act.put, List.getElem_toArray, List.getElem_cons_succ, List.getElem_cons_zero, List.setIfInBounds_toArray, List.set_cons_zero, List.set_cons_succ]
                refine wpAnyH_take (i := 4) (v := ?_) rfl (by kernel_rfl) (by kernel_rfl) (by kernel_rfl) (fun _ _ _ h => h) (Or.inl ⟨by rfl, ?_⟩) (by assumption) ?_
                rotate_left
                · intro wS hSw
                  (try dsimp only at hSw)
                  go_simp
                  first | done | with_reducible rfl
                try simp only [Act.put, List.getElem_toArray, List.getElem_cons_succ, List.getElem_cons_zero, List.setIfInBounds_toArray, List.set_cons_zero, List.set_cons_succ]
                refine wpAnyH_take (i := 5) (v := ?_) rfl (by kernel_rfl) (by kernel_rfl) (by kernel_rfl) (fun _ _ _ h => h) (Or.inl ⟨by rfl, ?_⟩) (by assumption) ?_
                rotate_left
                · intro wS hSw
                  (try dsimp only at hSw)
                  obtain ⟨sb, sh, so⟩ := hSw
                  have s0 := cell0 sh
                  have s1 := cell1 sh
                  obtain ⟨k0, k1, k2, k3, k4, k5⟩ := opcells so
                  go_simp
                  first | done | with_reducible rfl
                try simp only [Act.put, List.getElem_toArray, List.getElem_cons_succ, List.getElem_cons_zero, List.setIfInBounds_toArray, List.set_cons_zero, List.set_cons_succ]
                refine wpAnyH_take (i := 6) (v := ?_) rfl (by kernel_rfl) (by kernel_rfl) (by kernel_rfl) (fun _ _ _ h => h) (Or.inl ⟨by rfl, ?_⟩) (by assumption) ?_
                rotate_left
                · intro wS hSw
                  (try dsimp only at hSw)
                  go_simp
                  first | done | with_reducible rfl
                try simp only [Act.put, List.getElem_toArray, List.getElem_cons_succ, List.getElem_cons_zero, List.setIfInBounds_toArray, List.set_cons_zero, List.set_cons_succ]
                refine wpAnyH_take (i := 7) (v := ?_) rfl (by kernel_rfl) (by kernel_rfl) (by kernel_rfl) (fun _ _ _ h => h) (Or.inl ⟨by rfl, ?_⟩) (by assumption) ?_
                rotate_left
                · intro wS hSw
                  (try dsimp only at hSw)
                  obtain ⟨sb, sh, so⟩ := hSw
                  have s0 := cell0 sh
                  have s1 := cell1 sh
                  obtain ⟨k0, k1, k2, k3, k4, k5⟩ := opcells so
                  go_simp
                  first | done | with_reducible rfl
                try simp only [Act.put, List.getElem_toArray, List.getElem_cons_succ, List.getElem_cons_zero, List.setIfInBounds_toArray, List.set_cons_zero, List.set_cons_succ]
                refine wpAnyH_take (i := 8) (v := ?_) rfl (by kernel_rfl) (by kernel_rfl) (by kernel_rfl) (fun _ _ _ h => h) (Or.inl ⟨by rfl, ?_⟩) (by assumption) ?_
                rotate_left
                · intro wS hSw
                  (try dsimp only at hSw)
                  go_simp
                  first | done | with_reducible rfl
                try simp only [Act.put, List.getElem_toArray, List.getElem_cons_succ, List.getElem_cons_zero, List.setIfInBounds_toArray, List.set_cons_zero, List.set_cons_succ]
                refine wpAnyH_take (i := 9) (v := ?_) rfl (by kernel_rfl) (by kernel_rfl) (by kernel_rfl) (fun _ _ _ h => h) (Or.inl ⟨by rfl, ?_⟩) (by assumption) ?_
                rotate_left
                · intro wS hSw
                  (try dsimp only at hSw)
                  obtain ⟨sb, sh, so⟩ := hSw
                  have s0 := cell0 sh
                  have s1 := cell1 sh
                  obtain ⟨k0, k1, k2, k3, k4, k5⟩ := opcells so
                  go_simp
                  first | done | with_reducible rfl
                try simp only [Act.put, List.getElem_toArray, List.getElem_cons_succ, List.getElem_cons_zero, List.setIfInBounds_toArray, List.set_cons_zero, List.set_cons_succ]
                refine wpAnyH_take (i := 10) (v := ?_) rfl (by kernel_rfl) (by kernel_rfl) (by kernel_rfl) (fun _ _ _ h => h) (Or.inl ⟨by rfl, ?_⟩) (by assumption) ?_
                rotate_left
                · intro wS hSw
                  (try dsimp only at hSw)
                  go_simp
                  first | done | with_reducible rfl
                try simp only [Act.put, List.getElem_toArray, List.getElem_cons_succ, List.getElem_cons_zero, List.setIfInBounds_toArray, List.set_cons_zero, List.set_cons_succ]
                refine wpAnyH_take (i := 11) (v := ?_) rfl (by kernel_rfl) (by kernel_rfl) (by kernel_rfl) (fun _ _ _ h => h) (Or.inl ⟨by rfl, ?_⟩) (by assumption) ?_
                rotate_left
                · intro wS hSw
                  (try dsimp only at hSw)
                  go_simp
                  first | done | with_reducible rfl
                try simp only [Act.put, List.getElem_toArray, List.getElem_cons_succ, List.getElem_cons_zero, List.setIfInBounds_toArray, List.set_cons_zero, List.set_cons_succ]
                refine wpAnyH_ready (rs := [12]) (by kernel_rfl) (by simp) ?_
                refine AllReadyH.cons rfl (fun K hK => ?_) AllReadyH.nil
                go_simp
                refine hK.out _ _ ?_ (fun r1 => ?_)
                · exact ⟨put4_below r0.1 (by omega) _ _ _ _, (put4_ne (by omega) _ _ _ _).trans r0.2.1, (put4_ne (by omega) _ _ _ _).trans r0.2.2⟩
                try simp only [Act.put, List.getElem_toArray, List.getElem_cons_succ, List.getElem_cons_zero, List.setIfInBounds_toArray, List.set_cons_zero, List.set_cons_succ]
                refine wpAnyH_ready (rs := [13]) (by kernel_rfl) (by simp) ?_
                refine AllReadyH.cons rfl (fun K hK => ?_) AllReadyH.nil
                go_simp
                refine hK.out _ _ ?_ (fun r2 => ?_)
                · exact ⟨put4_below (put4_below r0.1 (by omega) _ _ _ _) (by omega) _ _ _ _, ((put4_ne (by omega) _ _ _ _).trans (put4_ne (by omega) _ _ _ _)).trans r0.2.1, ((put4_ne (by omega) _ _ _ _).trans (put4_ne (by omega) _ _ _ _)).trans r0.2.2⟩
                try simp only [Act.put, List.getElem_toArray, List.getElem_cons_succ, List.getElem_cons_zero, List.setIfInBounds_toArray, List.set_cons_zero, List.set_cons_succ]
                refine wpAnyH_take (i := 14) (v := ?_) rfl (by kernel_rfl) (by kernel_rfl) (by kernel_rfl) (fun _ _ _ h => h) (Or.inl ⟨by rfl, ?_⟩) (by assumption) ?_
                rotate_left
                · intro wS hSw
                  (try dsimp only at hSw)
                  go_simp
                  first | done | with_reducible rfl
                try simp only [Act.put, List.getElem_toArray, List.getElem_cons_succ, List.getElem_cons_zero, List.setIfInBounds_toArray, List.set_cons_zero, List.set_cons_succ]
                refine wpAnyH_done (by kernel_rfl) ?_ _
                go_wp2_with fail
                have hE := plan_endR (v := .slice none 0 0) (L := []) r0.1 (n1 := w.heap.size + 1 + 1) (n2 := w.heap.size + 1 + 1 + 1) (by omega) (by omega) (by omega) hR2 hF2 (World.ownsRow_nil _ _ _ _) (.int .i64 0) (.int .i64 (R + 1)) (.string emp) (.slice none 0 0) (.string o.key) (.string o.val) (.int .i64 (R + 1)) (.bool false)
                unfold put4 at hE
                refine bodyPost_ret (v := .tuple #[kres ⟨0, R + 1, emp, []⟩ (.slice none 0 0), effV ⟨o.key, o.val, R + 1, false⟩, .bool true]) (by simp [results, Try.results28, go_sem, World.cell?, hE.1, hE.2.1]) rfl ⟨.slice none 0 0, ?_, ?_, hE.2.2.2⟩
                · rw [HP.out]
                · rw [HP.out]
                  exact hE.2.2.1
              | false =>
                have hie2 := bne_of hie
                cases st with
                | true =>
                  have hr : r = 0 := HR.out.trans (by rw [HWm.out]; rw [if_pos (Or.inr HK3.out), HK3.out]; rw [hvd]; rw [hre]; rw [hie]; rfl)
                  have hef : effOf o (R + 1) = ⟨o.key, o.val, R + 1, false⟩ := by unfold effOf; rw [if_neg (by omega)]
                  have HP := Lib.hid (HP0.out hr)
                  rw [hef] at HP
                  clear hr hef
                  go_upto_region 27 with (first
                    | (go_at_call 37; refine (HKy.out _).mono ?_; rintro x wz ⟨rfl, rfl⟩)
                    | (go_at_call 38; refine (HSt.out W2 H2.out.1).mono ?_; rintro x w5 ⟨rfl, hb5⟩; have hS5 := (hb5.block _ (heap_lt H2.out.2.1)).trans H2.out.2.1; have hO5 := (hb5.block _ (heap_lt H2.out.2.2.1)).trans H2.out.2.2.1; have hR5 := (hb5.block _ (heap_lt H2.out.2.2.2.1)).trans H2.out.2.2.2.1; have hF5 := (hb5.block _ (heap_lt H2.out.2.2.2.2)).trans H2.out.2.2.2.2; have t0 := cell0 hS5; have t1 := cell1 hS5; obtain ⟨j0, j1, j2, j3, j4, j5⟩ := opcells hO5; obtain ⟨a0, a1, a2, a3, b0, b1, b2, b3⟩ := four hR5; obtain ⟨e0, e1, e2, e3, f0, f1, f2, f3⟩ := four hF5)
                    | go_in)
                  have H5 := Lib.hid (And.intro (H2.out.1.trans (hb5.mono H2.out.1.size)) (And.intro hS5 (And.intro hO5 (And.intro hR5 hF5))))
                  clear hS5 hO5 hR5 hF5 a0 a1 a2 a3 b0 b1 b2 b3 e0 e1 e2 e3 f0 f1 f2 f3 t0 t1 j0 j1 j2 j3 j4 j5 hb5
                  clear k0 k1 k2 k3 k4 k5 s0 s1 x0 x1 x2 hR2 hF2
                  refine wp_region_held_drew (S := (fun X => Below w.heap.size w X ∧ X.heap[w.heap.size]? = some (stO R v) ∧ X.heap[w.heap.size + 1]? = some (opR o))) (by kernel_rfl) ?_ (fun r0 => ?_)
                  · exact ⟨bdrew H5.out.1, H5.out.2.1, H5.out.2.2.1⟩
                  obtain ⟨wd, hwd⟩ : ∃ wd, wd = w5.drew := ⟨_, rfl⟩
                  rw [← hwd] at r0 ⊢
                  have hR2 : wd.heap[w.heap.size + 1 + 1]? = some (resR 0 0 emp (.slice none 0 0)) := by rw [hwd]; exact H5.out.2.2.2.1
                  have hF2 : wd.heap[w.heap.size + 1 + 1 + 1]? = some (effR9 eff0) := by rw [hwd]; exact H5.out.2.2.2.2
                  clear hwd
                  have hC3 := (put4_ne (W := wd) (g := w.heap.size + 1 + 1) (k := w.heap.size + 1 + 1 + 1) (by omega) (.int .i64 0) (.int .i64 (R + 1)) (.string emp) (.slice none 0 0)).trans hF2
                  unfold put4 at hC3
                  obtain ⟨a0, a1, a2, a3, b0, b1, b2, b3⟩ := four hR2
                  obtain ⟨e0, e1, e2, e3, f0, f1, f2, f3⟩ := four hC3
                  refine wpAnyH_take (i := 0) (v := ?_) rfl (by kernel_rfl) (by kernel_rfl) (by kernel_rfl) (fun _ _ _ h => h) (Or.inl ⟨by rfl, ?_⟩) (by assumption) ?_
                  rotate_left
                  · intro wS hSw
                    (try dsimp only at hSw)
                    go_simp
                    first | done | with_reducible rfl
                  try simp only [Act.put, List.getElem_toArray, List.getElem_cons_zero, List.setIfInBounds_toArray, List.set_cons_zero, List.set_cons_succ]
                  refine wpAnyH_take (i := 1) (v := ?_) rfl (by kernel_rfl) (by kernel_rfl) (by kernel_rfl) (fun _ _ _ h => h) (Or.inl ⟨by rfl, ?_⟩) (by assumption) ?_
                  rotate_left
                  · intro wS hSw
                    (try dsimp only at hSw)
                    obtain ⟨sb, sh, so⟩ := hSw
                    have s0 := cell0 sh
                    have s1 := cell1 sh
                    obtain ⟨k0, k1, k2, k3, k4, k5⟩ := opcells so
                    go_simp
                    first | done | with_reducible rfl
                  try simp only [Act.put, List.getElem_toArray, List.getElem_cons_succ, List.getElem_cons_zero, List.setIfInBounds_toArray, List.set_cons_zero, List.set_cons_succ]
                  refine wpAnyH_take (i := 2) (v := ?_) rfl (by kernel_rfl) (by kernel_rfl) (by kernel_rfl) (fun _ _ _ h => h) (Or.inl ⟨by rfl, ?_⟩) (by assumption) ?_
                  rotate_left
                  · intro wS hSw
                    (try dsimp only at hSw)
                    go_simp
                    first | done | with_reducible rfl
                  try simp only [Act.put, List.getElem_toArray, List.getElem_cons_succ, List.getElem_cons_zero, List.setIfInBounds_toArray, List.set_cons_zero, List.set_cons_succ]
                  refine wpAnyH_take (i := 3) (v := ?_) rfl (by kernel_rfl) (by kernel_rfl) (by kernel_rfl) (fun _ _ _ h => h) (Or.inl ⟨by rfl, ?_⟩) (by assumption) ?_
                  rotate_left
                  · intro wS hSw
                    (try dsimp only at hSw)
                    go_simp
                    first | done | with_reducible rfl
                  try simp only [Act.put, List.getElem_toArray, List.getElem_cons_succ, List.getElem_cons_zero, List.setIfInBounds_toArray, List.set_cons_zero, List.set_cons_succ]
                  refine wpAnyH_take (i := 4) (v := ?_) rfl (by kernel_rfl) (by kernel_rfl) (by kernel_rfl) (fun _ _ _ h => h) (Or.inl ⟨by rfl, ?_⟩) (by assumption) ?_
                  rotate_left
                  · intro wS hSw
                    (try dsimp only at hSw)
                    go_simp
                    first | done | with_reducible rfl
                  try simp only [Act.put, List.getElem_toArray, List.getElem_cons_succ, List.getElem_cons_zero, List.setIfInBounds_toArray, List.set_cons_zero, List.set_cons_succ]
                  refine wpAnyH_take (i := 5) (v := ?_) rfl (by kernel_rfl) (by kernel_rfl) (by kernel_rfl) (fun _ _ _ h => h) (Or.inl ⟨by rfl, ?_⟩) (by assumption) ?_
                  rotate_left
                  · intro wS hSw
                    (try dsimp only at hSw)
                    obtain ⟨sb, sh, so⟩ := hSw
                    have s0 := cell0 sh
                    have s1 := cell1 sh
                    obtain ⟨k0, k1, k2, k3, k4, k5⟩ := opcells so
                    go_simp
                    first | done | with_reducible rfl
                  try simp only [Act.put, List.getElem_toArray, List.getElem_cons_succ, List.getElem_cons_zero, List.setIfInBounds_toArray, List.set_cons_zero, List.set_cons_succ]
                  refine wpAnyH_take (i := 6) (v := ?_) rfl (by kernel_rfl) (by kernel_rfl) (by kernel_rfl) (fun _ _ _ h => h) (Or.inl ⟨by rfl, ?_⟩) (by assumption) ?_
                  rotate_left
                  · intro wS hSw
                    (try dsimp only at hSw)
                    go_simp
                    first | done | with_reducible rfl
                  try simp only [Act.put, List.getElem_toArray, List.getElem_cons_succ, List.getElem_cons_zero, List.setIfInBounds_toArray, List.set_cons_zero, List.set_cons_succ]
                  refine wpAnyH_take (i := 7) (v := ?_) rfl (by kernel_rfl) (by kernel_rfl) (by kernel_rfl) (fun _ _ _ h => h) (Or.inl ⟨by rfl, ?_⟩) (by assumption) ?_
                  rotate_left
                  · intro wS hSw
                    (try dsimp only at hSw)
                    obtain ⟨sb, sh, so⟩ := hSw
                    have s0 := cell0 sh
                    have s1 := cell1 sh
                    obtain ⟨k0, k1, k2, k3, k4, k5⟩ := opcells so
                    go_simp
                    first | done | with_reducible rfl
                  try simp only [Act.put, List.getElem_toArray, List.getElem_cons_succ, List.getElem_cons_zero, List.setIfInBounds_toArray, List.set_cons_zero, List.set_cons_succ]
                  refine wpAnyH_take (i := 8) (v := ?_) rfl (by kernel_rfl) (by kernel_rfl) (by kernel_rfl) (fun _ _ _ h => h) (Or.inl ⟨by rfl, ?_⟩) (by assumption) ?_
                  rotate_left
                  · intro wS hSw
                    (try dsimp only at hSw)
                    go_simp
                    first | done | with_reducible rfl
                  try simp only [Act.put, List.getElem_toArray, List.getElem_cons_succ, List.getElem_cons_zero, List.setIfInBounds_toArray, List.set_cons_zero, List.set_cons_succ]
                  refine wpAnyH_take (i := 9) (v := ?_) rfl (by kernel_rfl) (by kernel_rfl) (by kernel_rfl) (fun _ _ _ h => h) (Or.inl ⟨by rfl, ?_⟩) (by assumption) ?_
                  rotate_left
                  · intro wS hSw
                    (try dsimp only at hSw)
                    obtain ⟨sb, sh, so⟩ := hSw
                    have s0 := cell0 sh
                    have s1 := cell1 sh
                    obtain ⟨k0, k1, k2, k3, k4, k5⟩ := opcells so
                    go_simp
                    first | done | with_reducible rfl
                  try simp only [Act.put, List.getElem_toArray, List.getElem_cons_succ, List.getElem_cons_zero, List.setIfInBounds_toArray, List.set_cons_zero, List.set_cons_succ]
                  refine wpAnyH_take (i := 10) (v := ?_) rfl (by kernel_rfl) (by kernel_rfl) (by kernel_rfl) (fun _ _ _ h => h) (Or.inl ⟨by rfl, ?_⟩) (by assumption) ?_
                  rotate_left
                  · intro wS hSw
                    (try dsimp only at hSw)
                    go_simp
                    first | done | with_reducible rfl
                  try simp only [Act.put, List.getElem_toArray, List.getElem_cons_succ, List.getElem_cons_zero, List.setIfInBounds_toArray, List.set_cons_zero, List.set_cons_succ]
                  refine wpAnyH_take (i := 11) (v := ?_) rfl (by kernel_rfl) (by kernel_rfl) (by kernel_rfl) (fun _ _ _ h => h) (Or.inl ⟨by rfl, ?_⟩) (by assumption) ?_
                  rotate_left
                  · intro wS hSw
                    (try dsimp only at hSw)
                    go_simp
                    first | done | with_reducible rfl
                  try simp only [Act.put, List.getElem_toArray, List.getElem_cons_succ, List.getElem_cons_zero, List.setIfInBounds_toArray, List.set_cons_zero, List.set_cons_succ]
                  refine wpAnyH_ready (rs := [12]) (by kernel_rfl) (by simp) ?_
                  refine AllReadyH.cons rfl (fun K hK => ?_) AllReadyH.nil
                  go_simp
                  refine hK.out _ _ ?_ (fun r1 => ?_)
                  · exact ⟨put4_below r0.1 (by omega) _ _ _ _, (put4_ne (by omega) _ _ _ _).trans r0.2.1, (put4_ne (by omega) _ _ _ _).trans r0.2.2⟩
                  try simp only [Act.put, List.getElem_toArray, List.getElem_cons_succ, List.getElem_cons_zero, List.setIfInBounds_toArray, List.set_cons_zero, List.set_cons_succ]
                  refine wpAnyH_ready (rs := [13]) (by kernel_rfl) (by simp) ?_
                  refine AllReadyH.cons rfl (fun K hK => ?_) AllReadyH.nil
                  go_simp
                  refine hK.out _ _ ?_ (fun r2 => ?_)
                  · exact ⟨put4_below (put4_below r0.1 (by omega) _ _ _ _) (by omega) _ _ _ _, ((put4_ne (by omega) _ _ _ _).trans (put4_ne (by omega) _ _ _ _)).trans r0.2.1, ((put4_ne (by omega) _ _ _ _).trans (put4_ne (by omega) _ _ _ _)).trans r0.2.2⟩
                  try simp only [Act.put, List.getElem_toArray, List.getElem_cons_succ, List.getElem_cons_zero, List.setIfInBounds_toArray, List.set_cons_zero, List.set_cons_succ]
                  refine wpAnyH_take (i := 14) (v := ?_) rfl (by kernel_rfl) (by kernel_rfl) (by kernel_rfl) (fun _ _ _ h => h) (Or.inl ⟨by rfl, ?_⟩) (by assumption) ?_
                  rotate_left
                  · intro wS hSw
                    (try dsimp only at hSw)
                    go_simp
                    first | done | with_reducible rfl
                  try simp only [Act.put, List.getElem_toArray, List.getElem_cons_succ, List.getElem_cons_zero, List.setIfInBounds_toArray, List.set_cons_zero, List.set_cons_succ]
                  refine wpAnyH_done (by kernel_rfl) ?_ _
                  go_wp2_with fail
                  have hE := plan_endR (v := .slice none 0 0) (L := []) r0.1 (n1 := w.heap.size + 1 + 1) (n2 := w.heap.size + 1 + 1 + 1) (by omega) (by omega) (by omega) hR2 hF2 (World.ownsRow_nil _ _ _ _) (.int .i64 0) (.int .i64 (R + 1)) (.string emp) (.slice none 0 0) (.string o.key) (.string o.val) (.int .i64 (R + 1)) (.bool false)
                  unfold put4 at hE
                  refine bodyPost_ret (v := .tuple #[kres ⟨0, R + 1, emp, []⟩ (.slice none 0 0), effV ⟨o.key, o.val, R + 1, false⟩, .bool true]) (by simp [results, Try.results28, go_sem, World.cell?, hE.1, hE.2.1]) rfl ⟨.slice none 0 0, ?_, ?_, hE.2.2.2⟩
                  · rw [HP.out]
                  · rw [HP.out]
                    exact hE.2.2.1
                | false =>
                  have hr : r = 8 := HR.out.trans (by rw [HWm.out]; rw [if_pos (Or.inr HK3.out), HK3.out]; rw [hvd]; rw [hre]; rw [hie]; rfl)
                  have HP := Lib.hid (HP1.out (by omega))
                  rw [hr] at HP
                  clear hr
                  go_wp2_with (first
                    | (go_at_call 37; refine (HKy.out _).mono ?_; rintro x wz ⟨rfl, rfl⟩)
                    | (go_at_call 38; refine (HSt.out W2 H2.out.1).mono ?_; rintro x w5 ⟨rfl, hb5⟩; have hS5 := (hb5.block _ (heap_lt H2.out.2.1)).trans H2.out.2.1; have hO5 := (hb5.block _ (heap_lt H2.out.2.2.1)).trans H2.out.2.2.1; have hR5 := (hb5.block _ (heap_lt H2.out.2.2.2.1)).trans H2.out.2.2.2.1; have hF5 := (hb5.block _ (heap_lt H2.out.2.2.2.2)).trans H2.out.2.2.2.2; have t0 := cell0 hS5; have t1 := cell1 hS5; obtain ⟨j0, j1, j2, j3, j4, j5⟩ := opcells hO5; obtain ⟨a0, a1, a2, a3, b0, b1, b2, b3⟩ := four hR5; obtain ⟨e0, e1, e2, e3, f0, f1, f2, f3⟩ := four hF5)
                    | go_in)
                  have hb6 := H2.out.1.trans (hb5.mono H2.out.1.size)
                  have hE := plan_endR (v := .slice none 0 0) (L := []) hb6 (n1 := w.heap.size + 1 + 1) (n2 := w.heap.size + 1 + 1 + 1) (by omega) (by omega) (by omega) hR5 hF5 (World.ownsRow_nil _ _ _ _) (.int .i64 8) (.int .i64 0) (.string emp) (.slice none 0 0) (.string emp) (.string emp) (.int .i64 0) (.bool false)
                  unfold put4 at hE
                  refine bodyPost_ret (v := .tuple #[kres ⟨8, 0, emp, []⟩ (.slice none 0 0), effV eff0, .bool false]) (by simp [results, Try.results28, go_sem, World.cell?, hE.1, hE.2.1]) rfl ⟨.slice none 0 0, ?_, ?_, hE.2.2.2⟩
                  · rw [HP.out]
                  · rw [HP.out]
                    exact hE.2.2.1
        · have d1 : decide (65536 < (o.val.size : Int)) = true := by simp; omega
          have hvd : decide (o.val.size ≤ 65536) = false := decide_eq_false hv
          obtain ⟨a0, a1, a2, a3, b0, b1, b2, b3⟩ := four hR2
          obtain ⟨e0, e1, e2, e3, f0, f1, f2, f3⟩ := four hF2
          have hr : r = 1 := HR.out.trans (by rw [HWm.out]; rw [if_pos (Or.inr HK3.out), HK3.out]; rw [hvd]; rfl)
          have HP := Lib.hid (HP1.out (by omega))
          rw [hr] at HP
          clear hr
          go_wp2_with (first
            | (go_at_call 37; refine (HKy.out _).mono ?_; rintro x wz ⟨rfl, rfl⟩)
            | (go_at_call 38; refine (HSt.out W2 H2.out.1).mono ?_; rintro x w5 ⟨rfl, hb5⟩; have hS5 := (hb5.block _ (heap_lt H2.out.2.1)).trans H2.out.2.1; have hO5 := (hb5.block _ (heap_lt H2.out.2.2.1)).trans H2.out.2.2.1; have hR5 := (hb5.block _ (heap_lt H2.out.2.2.2.1)).trans H2.out.2.2.2.1; have hF5 := (hb5.block _ (heap_lt H2.out.2.2.2.2)).trans H2.out.2.2.2.2; have t0 := cell0 hS5; have t1 := cell1 hS5; obtain ⟨j0, j1, j2, j3, j4, j5⟩ := opcells hO5; obtain ⟨a0, a1, a2, a3, b0, b1, b2, b3⟩ := four hR5; obtain ⟨e0, e1, e2, e3, f0, f1, f2, f3⟩ := four hF5)
            | go_in)
          have hE := plan_endR (v := .slice none 0 0) (L := []) H2.out.1 (n1 := w.heap.size + 1 + 1) (n2 := w.heap.size + 1 + 1 + 1) (by omega) (by omega) (by omega) hR2 hF2 (World.ownsRow_nil _ _ _ _) (.int .i64 1) (.int .i64 0) (.string emp) (.slice none 0 0) (.string emp) (.string emp) (.int .i64 0) (.bool false)
          unfold put4 at hE
          refine bodyPost_ret (v := .tuple #[kres ⟨1, 0, emp, []⟩ (.slice none 0 0), effV eff0, .bool false]) (by simp [results, Try.results28, go_sem, World.cell?, hE.1, hE.2.1]) rfl ⟨.slice none 0 0, ?_, ?_, hE.2.2.2⟩
          · rw [HP.out]
          · rw [HP.out]
            exact hE.2.2.1
    · by_cases hk5 : o.kind = 5
      · clear hk hk4
        have hk := hk5
        clear hk5
        have HK3 := Lib.hid hk
        rw [hk] at k0
        cases mk with
        | false =>
          obtain ⟨a0, a1, a2, a3, b0, b1, b2, b3⟩ := four hR2
          obtain ⟨e0, e1, e2, e3, f0, f1, f2, f3⟩ := four hF2
          have hr : r = 1 := HR.out.trans (by rw [HWm.out]; rw [if_neg (by have := HK3.out; omega), if_pos HK3.out, HK3.out]; rfl)
          have HP := Lib.hid (HP1.out (by omega))
          rw [hr] at HP
          clear hr
          go_wp2_with (first
            | (go_at_call 37; refine (HKy.out _).mono ?_; rintro x wz ⟨rfl, rfl⟩)
            | (go_at_call 38; refine (HSt.out W2 H2.out.1).mono ?_; rintro x w5 ⟨rfl, hb5⟩; have hS5 := (hb5.block _ (heap_lt H2.out.2.1)).trans H2.out.2.1; have hO5 := (hb5.block _ (heap_lt H2.out.2.2.1)).trans H2.out.2.2.1; have hR5 := (hb5.block _ (heap_lt H2.out.2.2.2.1)).trans H2.out.2.2.2.1; have hF5 := (hb5.block _ (heap_lt H2.out.2.2.2.2)).trans H2.out.2.2.2.2; have t0 := cell0 hS5; have t1 := cell1 hS5; obtain ⟨j0, j1, j2, j3, j4, j5⟩ := opcells hO5; obtain ⟨a0, a1, a2, a3, b0, b1, b2, b3⟩ := four hR5; obtain ⟨e0, e1, e2, e3, f0, f1, f2, f3⟩ := four hF5)
            | go_in)
          have hE := plan_endR (v := .slice none 0 0) (L := []) H2.out.1 (n1 := w.heap.size + 1 + 1) (n2 := w.heap.size + 1 + 1 + 1) (by omega) (by omega) (by omega) hR2 hF2 (World.ownsRow_nil _ _ _ _) (.int .i64 1) (.int .i64 0) (.string emp) (.slice none 0 0) (.string emp) (.string emp) (.int .i64 0) (.bool false)
          unfold put4 at hE
          refine bodyPost_ret (v := .tuple #[kres ⟨1, 0, emp, []⟩ (.slice none 0 0), effV eff0, .bool false]) (by simp [results, Try.results28, go_sem, World.cell?, hE.1, hE.2.1]) rfl ⟨.slice none 0 0, ?_, ?_, hE.2.2.2⟩
          · rw [HP.out]
          · rw [HP.out]
            exact hE.2.2.1
        | true =>
          cases th with
          | false =>
            obtain ⟨a0, a1, a2, a3, b0, b1, b2, b3⟩ := four hR2
            obtain ⟨e0, e1, e2, e3, f0, f1, f2, f3⟩ := four hF2
            have hr : r = 6 := HR.out.trans (by rw [HWm.out]; rw [if_neg (by have := HK3.out; omega), if_pos HK3.out, HK3.out]; rfl)
            have HP := Lib.hid (HP1.out (by omega))
            rw [hr] at HP
            clear hr
            go_wp2_with (first
              | (go_at_call 37; refine (HKy.out _).mono ?_; rintro x wz ⟨rfl, rfl⟩)
              | (go_at_call 38; refine (HSt.out W2 H2.out.1).mono ?_; rintro x w5 ⟨rfl, hb5⟩; have hS5 := (hb5.block _ (heap_lt H2.out.2.1)).trans H2.out.2.1; have hO5 := (hb5.block _ (heap_lt H2.out.2.2.1)).trans H2.out.2.2.1; have hR5 := (hb5.block _ (heap_lt H2.out.2.2.2.1)).trans H2.out.2.2.2.1; have hF5 := (hb5.block _ (heap_lt H2.out.2.2.2.2)).trans H2.out.2.2.2.2; have t0 := cell0 hS5; have t1 := cell1 hS5; obtain ⟨j0, j1, j2, j3, j4, j5⟩ := opcells hO5; obtain ⟨a0, a1, a2, a3, b0, b1, b2, b3⟩ := four hR5; obtain ⟨e0, e1, e2, e3, f0, f1, f2, f3⟩ := four hF5)
              | go_in)
            have hE := plan_endR (v := .slice none 0 0) (L := []) H2.out.1 (n1 := w.heap.size + 1 + 1) (n2 := w.heap.size + 1 + 1 + 1) (by omega) (by omega) (by omega) hR2 hF2 (World.ownsRow_nil _ _ _ _) (.int .i64 6) (.int .i64 0) (.string emp) (.slice none 0 0) (.string emp) (.string emp) (.int .i64 0) (.bool false)
            unfold put4 at hE
            refine bodyPost_ret (v := .tuple #[kres ⟨6, 0, emp, []⟩ (.slice none 0 0), effV eff0, .bool false]) (by simp [results, Try.results28, go_sem, World.cell?, hE.1, hE.2.1]) rfl ⟨.slice none 0 0, ?_, ?_, hE.2.2.2⟩
            · rw [HP.out]
            · rw [HP.out]
              exact hE.2.2.1
          | true =>
            cases hre : (u3 == o.rev) with
            | false =>
              have hre2 := bne_of hre
              obtain ⟨a0, a1, a2, a3, b0, b1, b2, b3⟩ := four hR2
              obtain ⟨e0, e1, e2, e3, f0, f1, f2, f3⟩ := four hF2
              have hr : r = 8 := HR.out.trans (by rw [HWm.out]; rw [if_neg (by have := HK3.out; omega), if_pos HK3.out, HK3.out]; rw [hre]; rfl)
              have HP := Lib.hid (HP1.out (by omega))
              rw [hr] at HP
              clear hr
              go_wp2_with (first
                | (go_at_call 37; refine (HKy.out _).mono ?_; rintro x wz ⟨rfl, rfl⟩)
                | (go_at_call 38; refine (HSt.out W2 H2.out.1).mono ?_; rintro x w5 ⟨rfl, hb5⟩; have hS5 := (hb5.block _ (heap_lt H2.out.2.1)).trans H2.out.2.1; have hO5 := (hb5.block _ (heap_lt H2.out.2.2.1)).trans H2.out.2.2.1; have hR5 := (hb5.block _ (heap_lt H2.out.2.2.2.1)).trans H2.out.2.2.2.1; have hF5 := (hb5.block _ (heap_lt H2.out.2.2.2.2)).trans H2.out.2.2.2.2; have t0 := cell0 hS5; have t1 := cell1 hS5; obtain ⟨j0, j1, j2, j3, j4, j5⟩ := opcells hO5; obtain ⟨a0, a1, a2, a3, b0, b1, b2, b3⟩ := four hR5; obtain ⟨e0, e1, e2, e3, f0, f1, f2, f3⟩ := four hF5)
                | go_in)
              have hE := plan_endR (v := .slice none 0 0) (L := []) H2.out.1 (n1 := w.heap.size + 1 + 1) (n2 := w.heap.size + 1 + 1 + 1) (by omega) (by omega) (by omega) hR2 hF2 (World.ownsRow_nil _ _ _ _) (.int .i64 8) (.int .i64 0) (.string emp) (.slice none 0 0) (.string emp) (.string emp) (.int .i64 0) (.bool false)
              unfold put4 at hE
              refine bodyPost_ret (v := .tuple #[kres ⟨8, 0, emp, []⟩ (.slice none 0 0), effV eff0, .bool false]) (by simp [results, Try.results28, go_sem, World.cell?, hE.1, hE.2.1]) rfl ⟨.slice none 0 0, ?_, ?_, hE.2.2.2⟩
              · rw [HP.out]
              · rw [HP.out]
                exact hE.2.2.1
            | true =>
              have hre2 := bne_of hre
              cases hie : (o.iff.toList == ([] : List UInt8)) with
              | true =>
                have hie2 := bne_of hie
                have hr : r = 0 := HR.out.trans (by rw [HWm.out]; rw [if_neg (by have := HK3.out; omega), if_pos HK3.out, HK3.out]; rw [hre]; rw [hie]; rfl)
                have hef : effOf o (R + 1) = ⟨o.key, emp, R + 1, true⟩ := by unfold effOf; rw [if_pos (by assumption)]
                have HP := Lib.hid (HP0.out hr)
                rw [hef] at HP
                clear hr hef
                go_upto_region 26 with (first
                  | (go_at_call 37; refine (HKy.out _).mono ?_; rintro x wz ⟨rfl, rfl⟩)
                  | (go_at_call 38; refine (HSt.out W2 H2.out.1).mono ?_; rintro x w5 ⟨rfl, hb5⟩; have hS5 := (hb5.block _ (heap_lt H2.out.2.1)).trans H2.out.2.1; have hO5 := (hb5.block _ (heap_lt H2.out.2.2.1)).trans H2.out.2.2.1; have hR5 := (hb5.block _ (heap_lt H2.out.2.2.2.1)).trans H2.out.2.2.2.1; have hF5 := (hb5.block _ (heap_lt H2.out.2.2.2.2)).trans H2.out.2.2.2.2; have t0 := cell0 hS5; have t1 := cell1 hS5; obtain ⟨j0, j1, j2, j3, j4, j5⟩ := opcells hO5; obtain ⟨a0, a1, a2, a3, b0, b1, b2, b3⟩ := four hR5; obtain ⟨e0, e1, e2, e3, f0, f1, f2, f3⟩ := four hF5)
                  | go_in)
                clear k0 k1 k2 k3 k4 k5 s0 s1 x0 x1 x2 hR2 hF2
                refine wp_region_held_drew (S := (fun X => Below w.heap.size w X ∧ X.heap[w.heap.size]? = some (stO R v) ∧ X.heap[w.heap.size + 1]? = some (opR o))) (by kernel_rfl) ?_ (fun r0 => ?_)
                · exact ⟨bdrew H2.out.1, H2.out.2.1, H2.out.2.2.1⟩
                obtain ⟨wd, hwd⟩ : ∃ wd, wd = W2.drew := ⟨_, rfl⟩
                rw [← hwd] at r0 ⊢
                have hR2 : wd.heap[w.heap.size + 1 + 1]? = some (resR 0 0 emp (.slice none 0 0)) := by rw [hwd]; exact H2.out.2.2.2.1
                have hF2 : wd.heap[w.heap.size + 1 + 1 + 1]? = some (effR9 eff0) := by rw [hwd]; exact H2.out.2.2.2.2
                clear hwd
                have hC3 := (put4_ne (W := wd) (g := w.heap.size + 1 + 1) (k := w.heap.size + 1 + 1 + 1) (by omega) (.int .i64 0) (.int .i64 (R + 1)) (.string emp) (.slice none 0 0)).trans hF2
                unfold put4 at hC3
                obtain ⟨a0, a1, a2, a3, b0, b1, b2, b3⟩ := four hR2
                obtain ⟨e0, e1, e2, e3, f0, f1, f2, f3⟩ := four hC3
                refine wpAnyH_take (i := 0) (v := ?_) rfl (by kernel_rfl) (by kernel_rfl) (by kernel_rfl) (fun _ _ _ h => h) (Or.inl ⟨by rfl, ?_⟩) (by assumption) ?_
                rotate_left
                · intro wS hSw
                  (try dsimp only at hSw)
                  go_simp
                  first | done | with_reducible rfl
                try simp only [Act.put, List.getElem_toArray, List.getElem_cons_zero, List.setIfInBounds_toArray, List.set_cons_zero, List.set_cons_succ]
                refine wpAnyH_take (i := 1) (v := ?_) rfl (by kernel_rfl) (by kernel_rfl) (by kernel_rfl) (fun _ _ _ h => h) (Or.inl ⟨by rfl, ?_⟩) (by assumption) ?_
                rotate_left
                · intro wS hSw
                  (try dsimp only at hSw)
                  obtain ⟨sb, sh, so⟩ := hSw
                  have s0 := cell0 sh
                  have s1 := cell1 sh
                  obtain ⟨k0, k1, k2, k3, k4, k5⟩ := opcells so
                  go_simp
                  first | done | with_reducible rfl
                try simp only [Act.put, List.getElem_toArray, List.getElem_cons_succ, List.getElem_cons_zero, List.setIfInBounds_toArray, List.set_cons_zero, List.set_cons_succ]
                refine wpAnyH_take (i := 2) (v := ?_) rfl (by kernel_rfl) (by kernel_rfl) (by kernel_rfl) (fun _ _ _ h => h) (Or.inl ⟨by rfl, ?_⟩) (by assumption) ?_
                rotate_left
                · intro wS hSw
                  (try dsimp only at hSw)
                  go_simp
                  first | done | with_reducible rfl
                try simp only [Act.put, List.getElem_toArray, List.getElem_cons_succ, List.getElem_cons_zero, List.setIfInBounds_toArray, List.set_cons_zero, List.set_cons_succ]
                refine wpAnyH_take (i := 3) (v := ?_) rfl (by kernel_rfl) (by kernel_rfl) (by kernel_rfl) (fun _ _ _ h => h) (Or.inl ⟨by rfl, ?_⟩) (by assumption) ?_
                rotate_left
                · intro wS hSw
                  (try dsimp only at hSw)
                  go_simp
                  first | done | with_reducible rfl
                try simp only [Act.put, List.getElem_toArray, List.getElem_cons_succ, List.getElem_cons_zero, List.setIfInBounds_toArray, List.set_cons_zero, List.set_cons_succ]
                refine wpAnyH_take (i := 4) (v := ?_) rfl (by kernel_rfl) (by kernel_rfl) (by kernel_rfl) (fun _ _ _ h => h) (Or.inl ⟨by rfl, ?_⟩) (by assumption) ?_
                rotate_left
                · intro wS hSw
                  (try dsimp only at hSw)
                  go_simp
                  first | done | with_reducible rfl
                try simp only [Act.put, List.getElem_toArray, List.getElem_cons_succ, List.getElem_cons_zero, List.setIfInBounds_toArray, List.set_cons_zero, List.set_cons_succ]
                refine wpAnyH_take (i := 5) (v := ?_) rfl (by kernel_rfl) (by kernel_rfl) (by kernel_rfl) (fun _ _ _ h => h) (Or.inl ⟨by rfl, ?_⟩) (by assumption) ?_
                rotate_left
                · intro wS hSw
                  (try dsimp only at hSw)
                  obtain ⟨sb, sh, so⟩ := hSw
                  have s0 := cell0 sh
                  have s1 := cell1 sh
                  obtain ⟨k0, k1, k2, k3, k4, k5⟩ := opcells so
                  go_simp
                  first | done | with_reducible rfl
                try simp only [Act.put, List.getElem_toArray, List.getElem_cons_succ, List.getElem_cons_zero, List.setIfInBounds_toArray, List.set_cons_zero, List.set_cons_succ]
                refine wpAnyH_take (i := 6) (v := ?_) rfl (by kernel_rfl) (by kernel_rfl) (by kernel_rfl) (fun _ _ _ h => h) (Or.inl ⟨by rfl, ?_⟩) (by assumption) ?_
                rotate_left
                · intro wS hSw
                  (try dsimp only at hSw)
                  go_simp
                  first | done | with_reducible rfl
                try simp only [Act.put, List.getElem_toArray, List.getElem_cons_succ, List.getElem_cons_zero, List.setIfInBounds_toArray, List.set_cons_zero, List.set_cons_succ]
                refine wpAnyH_take (i := 7) (v := ?_) rfl (by kernel_rfl) (by kernel_rfl) (by kernel_rfl) (fun _ _ _ h => h) (Or.inl ⟨by rfl, ?_⟩) (by assumption) ?_
                rotate_left
                · intro wS hSw
                  (try dsimp only at hSw)
                  obtain ⟨sb, sh, so⟩ := hSw
                  have s0 := cell0 sh
                  have s1 := cell1 sh
                  obtain ⟨k0, k1, k2, k3, k4, k5⟩ := opcells so
                  go_simp
                  first | done | with_reducible rfl
                try simp only [Act.put, List.getElem_toArray, List.getElem_cons_succ, List.getElem_cons_zero, List.setIfInBounds_toArray, List.set_cons_zero, List.set_cons_succ]
                refine wpAnyH_take (i := 8) (v := ?_) rfl (by kernel_rfl) (by kernel_rfl) (by kernel_rfl) (fun _ _ _ h => h) (Or.inl ⟨by rfl, ?_⟩) (by assumption) ?_
                rotate_left
                · intro wS hSw
                  (try dsimp only at hSw)
                  go_simp
                  first | done | with_reducible rfl
                try simp only [Act.put, List.getElem_toArray, List.getElem_cons_succ, List.getElem_cons_zero, List.setIfInBounds_toArray, List.set_cons_zero, List.set_cons_succ]
                refine wpAnyH_take (i := 9) (v := ?_) rfl (by kernel_rfl) (by kernel_rfl) (by kernel_rfl) (fun _ _ _ h => h) (Or.inl ⟨by rfl, ?_⟩) (by assumption) ?_
                rotate_left
                · intro wS hSw
                  (try dsimp only at hSw)
                  go_simp
                  first | done | with_reducible rfl
                try simp only [Act.put, List.getElem_toArray, List.getElem_cons_succ, List.getElem_cons_zero, List.setIfInBounds_toArray, List.set_cons_zero, List.set_cons_succ]
                refine wpAnyH_ready (rs := [10]) (by kernel_rfl) (by simp) ?_
                refine AllReadyH.cons rfl (fun K hK => ?_) AllReadyH.nil
                go_simp
                refine hK.out _ _ ?_ (fun r1 => ?_)
                · exact ⟨put4_below r0.1 (by omega) _ _ _ _, (put4_ne (by omega) _ _ _ _).trans r0.2.1, (put4_ne (by omega) _ _ _ _).trans r0.2.2⟩
                try simp only [Act.put, List.getElem_toArray, List.getElem_cons_succ, List.getElem_cons_zero, List.setIfInBounds_toArray, List.set_cons_zero, List.set_cons_succ]
                refine wpAnyH_ready (rs := [11]) (by kernel_rfl) (by simp) ?_
                refine AllReadyH.cons rfl (fun K hK => ?_) AllReadyH.nil
                go_simp
                refine hK.out _ _ ?_ (fun r2 => ?_)
                · exact ⟨put4_below (put4_below r0.1 (by omega) _ _ _ _) (by omega) _ _ _ _, ((put4_ne (by omega) _ _ _ _).trans (put4_ne (by omega) _ _ _ _)).trans r0.2.1, ((put4_ne (by omega) _ _ _ _).trans (put4_ne (by omega) _ _ _ _)).trans r0.2.2⟩
                try simp only [Act.put, List.getElem_toArray, List.getElem_cons_succ, List.getElem_cons_zero, List.setIfInBounds_toArray, List.set_cons_zero, List.set_cons_succ]
                refine wpAnyH_take (i := 12) (v := ?_) rfl (by kernel_rfl) (by kernel_rfl) (by kernel_rfl) (fun _ _ _ h => h) (Or.inl ⟨by rfl, ?_⟩) (by assumption) ?_
                rotate_left
                · intro wS hSw
                  (try dsimp only at hSw)
                  go_simp
                  first | done | with_reducible rfl
                try simp only [Act.put, List.getElem_toArray, List.getElem_cons_succ, List.getElem_cons_zero, List.setIfInBounds_toArray, List.set_cons_zero, List.set_cons_succ]
                refine wpAnyH_done (by kernel_rfl) ?_ _
                go_wp2_with fail
                have hE := plan_endR (v := .slice none 0 0) (L := []) r0.1 (n1 := w.heap.size + 1 + 1) (n2 := w.heap.size + 1 + 1 + 1) (by omega) (by omega) (by omega) hR2 hF2 (World.ownsRow_nil _ _ _ _) (.int .i64 0) (.int .i64 (R + 1)) (.string emp) (.slice none 0 0) (.string o.key) (.string emp) (.int .i64 (R + 1)) (.bool true)
                unfold put4 at hE
                refine bodyPost_ret (v := .tuple #[kres ⟨0, R + 1, emp, []⟩ (.slice none 0 0), effV ⟨o.key, emp, R + 1, true⟩, .bool true]) (by simp [results, Try.results28, go_sem, World.cell?, hE.1, hE.2.1]) rfl ⟨.slice none 0 0, ?_, ?_, hE.2.2.2⟩
                · rw [HP.out]
                · rw [HP.out]
                  exact hE.2.2.1
              | false =>
                have hie2 := bne_of hie
                cases st with
                | true =>
                  have hr : r = 0 := HR.out.trans (by rw [HWm.out]; rw [if_neg (by have := HK3.out; omega), if_pos HK3.out, HK3.out]; rw [hre]; rw [hie]; rfl)
                  have hef : effOf o (R + 1) = ⟨o.key, emp, R + 1, true⟩ := by unfold effOf; rw [if_pos (by assumption)]
                  have HP := Lib.hid (HP0.out hr)
                  rw [hef] at HP
                  clear hr hef
                  go_upto_region 26 with (first
                    | (go_at_call 37; refine (HKy.out _).mono ?_; rintro x wz ⟨rfl, rfl⟩)
                    | (go_at_call 38; refine (HSt.out W2 H2.out.1).mono ?_; rintro x w5 ⟨rfl, hb5⟩; have hS5 := (hb5.block _ (heap_lt H2.out.2.1)).trans H2.out.2.1; have hO5 := (hb5.block _ (heap_lt H2.out.2.2.1)).trans H2.out.2.2.1; have hR5 := (hb5.block _ (heap_lt H2.out.2.2.2.1)).trans H2.out.2.2.2.1; have hF5 := (hb5.block _ (heap_lt H2.out.2.2.2.2)).trans H2.out.2.2.2.2; have t0 := cell0 hS5; have t1 := cell1 hS5; obtain ⟨j0, j1, j2, j3, j4, j5⟩ := opcells hO5; obtain ⟨a0, a1, a2, a3, b0, b1, b2, b3⟩ := four hR5; obtain ⟨e0, e1, e2, e3, f0, f1, f2, f3⟩ := four hF5)
                    | go_in)
                  have H5 := Lib.hid (And.intro (H2.out.1.trans (hb5.mono H2.out.1.size)) (And.intro hS5 (And.intro hO5 (And.intro hR5 hF5))))
                  clear hS5 hO5 hR5 hF5 a0 a1 a2 a3 b0 b1 b2 b3 e0 e1 e2 e3 f0 f1 f2 f3 t0 t1 j0 j1 j2 j3 j4 j5 hb5
                  clear k0 k1 k2 k3 k4 k5 s0 s1 x0 x1 x2 hR2 hF2
                  refine wp_region_held_drew (S := (fun X => Below w.heap.size w X ∧ X.heap[w.heap.size]? = some (stO R v) ∧ X.heap[w.heap.size + 1]? = some (opR o))) (by kernel_rfl) ?_ (fun r0 => ?_)
                  · exact ⟨bdrew H5.out.1, H5.out.2.1, H5.out.2.2.1⟩
                  obtain ⟨wd, hwd⟩ : ∃ wd, wd = w5.drew := ⟨_, rfl⟩
                  rw [← hwd] at r0 ⊢
                  have hR2 : wd.heap[w.heap.size + 1 + 1]? = some (resR 0 0 emp (.slice none 0 0)) := by rw [hwd]; exact H5.out.2.2.2.1
                  have hF2 : wd.heap[w.heap.size + 1 + 1 + 1]? = some (effR9 eff0) := by rw [hwd]; exact H5.out.2.2.2.2
                  clear hwd
                  have hC3 := (put4_ne (W := wd) (g := w.heap.size + 1 + 1) (k := w.heap.size + 1 + 1 + 1) (by omega) (.int .i64 0) (.int .i64 (R + 1)) (.string emp) (.slice none 0 0)).trans hF2
                  unfold put4 at hC3
                  obtain ⟨a0, a1, a2, a3, b0, b1, b2, b3⟩ := four hR2
                  obtain ⟨e0, e1, e2, e3, f0, f1, f2, f3⟩ := four hC3
                  refine wpAnyH_take (i := 0) (v := ?_) rfl (by kernel_rfl) (by kernel_rfl) (by kernel_rfl) (fun _ _ _ h => h) (Or.inl ⟨by rfl, ?_⟩) (by assumption) ?_
                  rotate_left
                  · intro wS hSw
                    (try dsimp only at hSw)
                    go_simp
                    first | done | with_reducible rfl
                  try simp only [Act.put, List.getElem_toArray, List.getElem_cons_zero, List.setIfInBounds_toArray, List.set_cons_zero, List.set_cons_succ]
                  refine wpAnyH_take (i := 1) (v := ?_) rfl (by kernel_rfl) (by kernel_rfl) (by kernel_rfl) (fun _ _ _ h => h) (Or.inl ⟨by rfl, ?_⟩) (by assumption) ?_
                  rotate_left
                  · intro wS hSw
                    (try dsimp only at hSw)
                    obtain ⟨sb, sh, so⟩ := hSw
                    have s0 := cell0 sh
                    have s1 := cell1 sh
                    obtain ⟨k0, k1, k2, k3, k4, k5⟩ := opcells so
                    go_simp
                    first | done | with_reducible rfl
                  try simp only [Act.put, List.getElem_toArray, List.getElem_cons_succ, List.getElem_cons_zero, List.setIfInBounds_toArray, List.set_cons_zero, List.set_cons_succ]
                  refine wpAnyH_take (i := 2) (v := ?_) rfl (by kernel_rfl) (by kernel_rfl) (by kernel_rfl) (fun _ _ _ h => h) (Or.inl ⟨by rfl, ?_⟩) (by assumption) ?_
                  rotate_left
                  · intro wS hSw
                    (try dsimp only at hSw)
                    go_simp
                    first | done | with_reducible rfl
                  try simp only [Act.put, List.getElem_toArray, List.getElem_cons_succ, List.getElem_cons_zero, List.setIfInBounds_toArray, List.set_cons_zero, List.set_cons_succ]
                  refine wpAnyH_take (i := 3) (v := ?_) rfl (by kernel_rfl) (by kernel_rfl) (by kernel_rfl) (fun _ _ _ h => h) (Or.inl ⟨by rfl, ?_⟩) (by assumption) ?_
                  rotate_left
                  · intro wS hSw
                    (try dsimp only at hSw)
                    go_simp
                    first | done | with_reducible rfl
                  try simp only [Act.put, List.getElem_toArray, List.getElem_cons_succ, List.getElem_cons_zero, List.setIfInBounds_toArray, List.set_cons_zero, List.set_cons_succ]
                  refine wpAnyH_take (i := 4) (v := ?_) rfl (by kernel_rfl) (by kernel_rfl) (by kernel_rfl) (fun _ _ _ h => h) (Or.inl ⟨by rfl, ?_⟩) (by assumption) ?_
                  rotate_left
                  · intro wS hSw
                    (try dsimp only at hSw)
                    go_simp
                    first | done | with_reducible rfl
                  try simp only [Act.put, List.getElem_toArray, List.getElem_cons_succ, List.getElem_cons_zero, List.setIfInBounds_toArray, List.set_cons_zero, List.set_cons_succ]
                  refine wpAnyH_take (i := 5) (v := ?_) rfl (by kernel_rfl) (by kernel_rfl) (by kernel_rfl) (fun _ _ _ h => h) (Or.inl ⟨by rfl, ?_⟩) (by assumption) ?_
                  rotate_left
                  · intro wS hSw
                    (try dsimp only at hSw)
                    obtain ⟨sb, sh, so⟩ := hSw
                    have s0 := cell0 sh
                    have s1 := cell1 sh
                    obtain ⟨k0, k1, k2, k3, k4, k5⟩ := opcells so
                    go_simp
                    first | done | with_reducible rfl
                  try simp only [Act.put, List.getElem_toArray, List.getElem_cons_succ, List.getElem_cons_zero, List.setIfInBounds_toArray, List.set_cons_zero, List.set_cons_succ]
                  refine wpAnyH_take (i := 6) (v := ?_) rfl (by kernel_rfl) (by kernel_rfl) (by kernel_rfl) (fun _ _ _ h => h) (Or.inl ⟨by rfl, ?_⟩) (by assumption) ?_
                  rotate_left
                  · intro wS hSw
                    (try dsimp only at hSw)
                    go_simp
                    first | done | with_reducible rfl
                  try simp only [Act.put, List.getElem_toArray, List.getElem_cons_succ, List.getElem_cons_zero, List.setIfInBounds_toArray, List.set_cons_zero, List.set_cons_succ]
                  refine wpAnyH_take (i := 7) (v := ?_) rfl (by kernel_rfl) (by kernel_rfl) (by kernel_rfl) (fun _ _ _ h => h) (Or.inl ⟨by rfl, ?_⟩) (by assumption) ?_
                  rotate_left
                  · intro wS hSw
                    (try dsimp only at hSw)
                    obtain ⟨sb, sh, so⟩ := hSw
                    have s0 := cell0 sh
                    have s1 := cell1 sh
                    obtain ⟨k0, k1, k2, k3, k4, k5⟩ := opcells so
                    go_simp
                    first | done | with_reducible rfl
                  try simp only [Act.put, List.getElem_toArray, List.getElem_cons_succ, List.getElem_cons_zero, List.setIfInBounds_toArray, List.set_cons_zero, List.set_cons_succ]
                  refine wpAnyH_take (i := 8) (v := ?_) rfl (by kernel_rfl) (by kernel_rfl) (by kernel_rfl) (fun _ _ _ h => h) (Or.inl ⟨by rfl, ?_⟩) (by assumption) ?_
                  rotate_left
                  · intro wS hSw
                    (try dsimp only at hSw)
                    go_simp
                    first | done | with_reducible rfl
                  try simp only [Act.put, List.getElem_toArray, List.getElem_cons_succ, List.getElem_cons_zero, List.setIfInBounds_toArray, List.set_cons_zero, List.set_cons_succ]
                  refine wpAnyH_take (i := 9) (v := ?_) rfl (by kernel_rfl) (by kernel_rfl) (by kernel_rfl) (fun _ _ _ h => h) (Or.inl ⟨by rfl, ?_⟩) (by assumption) ?_
                  rotate_left
                  · intro wS hSw
                    (try dsimp only at hSw)
                    go_simp
                    first | done | with_reducible rfl
                  try simp only [Act.put, List.getElem_toArray, List.getElem_cons_succ, List.getElem_cons_zero, List.setIfInBounds_toArray, List.set_cons_zero, List.set_cons_succ]
                  refine wpAnyH_ready (rs := [10]) (by kernel_rfl) (by simp) ?_
                  refine AllReadyH.cons rfl (fun K hK => ?_) AllReadyH.nil
                  go_simp
                  refine hK.out _ _ ?_ (fun r1 => ?_)
                  · exact ⟨put4_below r0.1 (by omega) _ _ _ _, (put4_ne (by omega) _ _ _ _).trans r0.2.1, (put4_ne (by omega) _ _ _ _).trans r0.2.2⟩
                  try simp only [Act.put, List.getElem_toArray, List.getElem_cons_succ, List.getElem_cons_zero, List.setIfInBounds_toArray, List.set_cons_zero, List.set_cons_succ]
                  refine wpAnyH_ready (rs := [11]) (by kernel_rfl) (by simp) ?_
                  refine AllReadyH.cons rfl (fun K hK => ?_) AllReadyH.nil
                  go_simp
                  refine hK.out _ _ ?_ (fun r2 => ?_)
                  · exact ⟨put4_below (put4_below r0.1 (by omega) _ _ _ _) (by omega) _ _ _ _, ((put4_ne (by omega) _ _ _ _).trans (put4_ne (by omega) _ _ _ _)).trans r0.2.1, ((put4_ne (by omega) _ _ _ _).trans (put4_ne (by omega) _ _ _ _)).trans r0.2.2⟩
                  try simp only [Act.put, List.getElem_toArray, List.getElem_cons_succ, List.getElem_cons_zero, List.setIfInBounds_toArray, List.set_cons_zero, List.set_cons_succ]
                  refine wpAnyH_take (i := 12) (v := ?_) rfl (by kernel_rfl) (by kernel_rfl) (by kernel_rfl) (fun _ _ _ h => h) (Or.inl ⟨by rfl, ?_⟩) (by assumption) ?_
                  rotate_left
                  · intro wS hSw
                    (try dsimp only at hSw)
                    go_simp
                    first | done | with_reducible rfl
                  try simp only [Act.put, List.getElem_toArray, List.getElem_cons_succ, List.getElem_cons_zero, List.setIfInBounds_toArray, List.set_cons_zero, List.set_cons_succ]
                  refine wpAnyH_done (by kernel_rfl) ?_ _
                  go_wp2_with fail
                  have hE := plan_endR (v := .slice none 0 0) (L := []) r0.1 (n1 := w.heap.size + 1 + 1) (n2 := w.heap.size + 1 + 1 + 1) (by omega) (by omega) (by omega) hR2 hF2 (World.ownsRow_nil _ _ _ _) (.int .i64 0) (.int .i64 (R + 1)) (.string emp) (.slice none 0 0) (.string o.key) (.string emp) (.int .i64 (R + 1)) (.bool true)
                  unfold put4 at hE
                  refine bodyPost_ret (v := .tuple #[kres ⟨0, R + 1, emp, []⟩ (.slice none 0 0), effV ⟨o.key, emp, R + 1, true⟩, .bool true]) (by simp [results, Try.results28, go_sem, World.cell?, hE.1, hE.2.1]) rfl ⟨.slice none 0 0, ?_, ?_, hE.2.2.2⟩
                  · rw [HP.out]
                  · rw [HP.out]
                    exact hE.2.2.1
                | false =>
                  have hr : r = 8 := HR.out.trans (by rw [HWm.out]; rw [if_neg (by have := HK3.out; omega), if_pos HK3.out, HK3.out]; rw [hre]; rw [hie]; rfl)
                  have HP := Lib.hid (HP1.out (by omega))
                  rw [hr] at HP
                  clear hr
                  go_wp2_with (first
                    | (go_at_call 37; refine (HKy.out _).mono ?_; rintro x wz ⟨rfl, rfl⟩)
                    | (go_at_call 38; refine (HSt.out W2 H2.out.1).mono ?_; rintro x w5 ⟨rfl, hb5⟩; have hS5 := (hb5.block _ (heap_lt H2.out.2.1)).trans H2.out.2.1; have hO5 := (hb5.block _ (heap_lt H2.out.2.2.1)).trans H2.out.2.2.1; have hR5 := (hb5.block _ (heap_lt H2.out.2.2.2.1)).trans H2.out.2.2.2.1; have hF5 := (hb5.block _ (heap_lt H2.out.2.2.2.2)).trans H2.out.2.2.2.2; have t0 := cell0 hS5; have t1 := cell1 hS5; obtain ⟨j0, j1, j2, j3, j4, j5⟩ := opcells hO5; obtain ⟨a0, a1, a2, a3, b0, b1, b2, b3⟩ := four hR5; obtain ⟨e0, e1, e2, e3, f0, f1, f2, f3⟩ := four hF5)
                    | go_in)
                  have hb6 := H2.out.1.trans (hb5.mono H2.out.1.size)
                  have hE := plan_endR (v := .slice none 0 0) (L := []) hb6 (n1 := w.heap.size + 1 + 1) (n2 := w.heap.size + 1 + 1 + 1) (by omega) (by omega) (by omega) hR5 hF5 (World.ownsRow_nil _ _ _ _) (.int .i64 8) (.int .i64 0) (.string emp) (.slice none 0 0) (.string emp) (.string emp) (.int .i64 0) (.bool false)
                  unfold put4 at hE
                  refine bodyPost_ret (v := .tuple #[kres ⟨8, 0, emp, []⟩ (.slice none 0 0), effV eff0, .bool false]) (by simp [results, Try.results28, go_sem, World.cell?, hE.1, hE.2.1]) rfl ⟨.slice none 0 0, ?_, ?_, hE.2.2.2⟩
                  · rw [HP.out]
                  · rw [HP.out]
                    exact hE.2.2.1
      · by_cases hlo : o.kind < 3
        · have d1 : decide (o.kind < 3) = true := by simpa using hlo
          have HN := Lib.hid (And.intro hk (And.intro hk4 hk5))
          clear hk hk4 hk5 hlo
          obtain ⟨a0, a1, a2, a3, b0, b1, b2, b3⟩ := four hR2
          obtain ⟨e0, e1, e2, e3, f0, f1, f2, f3⟩ := four hF2
          have hr : r = 1 := HR.out.trans (by rw [HWm.out]; rw [if_neg (by have := HN.out; omega), if_neg (by have := HN.out; omega)]; rfl)
          have HP := Lib.hid (HP1.out (by omega))
          rw [hr] at HP
          clear hr
          go_wp2_with (first
            | (go_at_call 37; refine (HKy.out _).mono ?_; rintro x wz ⟨rfl, rfl⟩)
            | (go_at_call 38; refine (HSt.out W2 H2.out.1).mono ?_; rintro x w5 ⟨rfl, hb5⟩; have hS5 := (hb5.block _ (heap_lt H2.out.2.1)).trans H2.out.2.1; have hO5 := (hb5.block _ (heap_lt H2.out.2.2.1)).trans H2.out.2.2.1; have hR5 := (hb5.block _ (heap_lt H2.out.2.2.2.1)).trans H2.out.2.2.2.1; have hF5 := (hb5.block _ (heap_lt H2.out.2.2.2.2)).trans H2.out.2.2.2.2; have t0 := cell0 hS5; have t1 := cell1 hS5; obtain ⟨j0, j1, j2, j3, j4, j5⟩ := opcells hO5; obtain ⟨a0, a1, a2, a3, b0, b1, b2, b3⟩ := four hR5; obtain ⟨e0, e1, e2, e3, f0, f1, f2, f3⟩ := four hF5)
            | go_in)
          have hE := plan_endR (v := .slice none 0 0) (L := []) H2.out.1 (n1 := w.heap.size + 1 + 1) (n2 := w.heap.size + 1 + 1 + 1) (by omega) (by omega) (by omega) hR2 hF2 (World.ownsRow_nil _ _ _ _) (.int .i64 1) (.int .i64 0) (.string emp) (.slice none 0 0) (.string emp) (.string emp) (.int .i64 0) (.bool false)
          unfold put4 at hE
          refine bodyPost_ret (v := .tuple #[kres ⟨1, 0, emp, []⟩ (.slice none 0 0), effV eff0, .bool false]) (by simp [results, Try.results28, go_sem, World.cell?, hE.1, hE.2.1]) rfl ⟨.slice none 0 0, ?_, ?_, hE.2.2.2⟩
          · rw [HP.out]
          · rw [HP.out]
            exact hE.2.2.1
        · have d1 : decide (o.kind < 3) = false := by simpa using hlo
          have d2 : decide (5 < o.kind) = true := by simp; omega
          have HN := Lib.hid (And.intro hk (And.intro hk4 hk5))
          clear hk hk4 hk5 hlo
          obtain ⟨a0, a1, a2, a3, b0, b1, b2, b3⟩ := four hR2
          obtain ⟨e0, e1, e2, e3, f0, f1, f2, f3⟩ := four hF2
          have hr : r = 1 := HR.out.trans (by rw [HWm.out]; rw [if_neg (by have := HN.out; omega), if_neg (by have := HN.out; omega)]; rfl)
          have HP := Lib.hid (HP1.out (by omega))
          rw [hr] at HP
          clear hr
          go_wp2_with (first
            | (go_at_call 37; refine (HKy.out _).mono ?_; rintro x wz ⟨rfl, rfl⟩)
            | (go_at_call 38; refine (HSt.out W2 H2.out.1).mono ?_; rintro x w5 ⟨rfl, hb5⟩; have hS5 := (hb5.block _ (heap_lt H2.out.2.1)).trans H2.out.2.1; have hO5 := (hb5.block _ (heap_lt H2.out.2.2.1)).trans H2.out.2.2.1; have hR5 := (hb5.block _ (heap_lt H2.out.2.2.2.1)).trans H2.out.2.2.2.1; have hF5 := (hb5.block _ (heap_lt H2.out.2.2.2.2)).trans H2.out.2.2.2.2; have t0 := cell0 hS5; have t1 := cell1 hS5; obtain ⟨j0, j1, j2, j3, j4, j5⟩ := opcells hO5; obtain ⟨a0, a1, a2, a3, b0, b1, b2, b3⟩ := four hR5; obtain ⟨e0, e1, e2, e3, f0, f1, f2, f3⟩ := four hF5)
            | go_in)
          have hE := plan_endR (v := .slice none 0 0) (L := []) H2.out.1 (n1 := w.heap.size + 1 + 1) (n2 := w.heap.size + 1 + 1 + 1) (by omega) (by omega) (by omega) hR2 hF2 (World.ownsRow_nil _ _ _ _) (.int .i64 1) (.int .i64 0) (.string emp) (.slice none 0 0) (.string emp) (.string emp) (.int .i64 0) (.bool false)
          unfold put4 at hE
          refine bodyPost_ret (v := .tuple #[kres ⟨1, 0, emp, []⟩ (.slice none 0 0), effV eff0, .bool false]) (by simp [results, Try.results28, go_sem, World.cell?, hE.1, hE.2.1]) rfl ⟨.slice none 0 0, ?_, ?_, hE.2.2.2⟩
          · rw [HP.out]
          · rw [HP.out]
            exact hE.2.2.1
theorem refPlan_any (v : Value) (L : List KEnt) (R : Int) (o : KOp) (w : World) (h : SeesI w v L) (hl : L.length ≤ 1000000) (ho : Op9Ok o) (hR : 0 ≤ R ∧ R < 9223372036854775807) :
    Calls Try.prog 28 #[stV R v, opV o] w fun e w' => ∃ v', e = .returned (.tuple #[kres (planK ⟨R, L⟩ o).1 v', effV (planK ⟨R, L⟩ o).2.1, .bool (planK ⟨R, L⟩ o).2.2]) ∧ RowR w' w.heap.size v' (planK ⟨R, L⟩ o).1.its ∧ Below w.heap.size w w' := by
  by_cases hk1 : o.kind = 1
  · exact refPlan_get v L R o w h hl ho hR hk1
  · by_cases hk2 : o.kind = 2
    · exact refPlan_list v L R o w h hl ho hR hk2
    · exact refPlan_rest v L R o w h hl ho hR hk1 hk2
end Go.Proofs.Ytholgmcfgnifdaa
