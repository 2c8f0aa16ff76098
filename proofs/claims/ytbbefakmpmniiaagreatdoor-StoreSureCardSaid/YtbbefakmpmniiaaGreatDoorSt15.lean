/- Package store: Do, where it is time to compact. -/
import Derived.Test.YtbbefakmpmniiaaGreatDoorSt9
namespace Go.Proofs.YtbbefakmpmniiaaGreatDoor
open Go.RowKit Go.Maps
open KV (bcell bdrew)
set_option maxRecDepth 100000 in
set_option maxHeartbeats 16000000 in
theorem sdo_clost (s g l k : Nat) (P Pk : Nat → Prop) (T T1 : WSt) (S : KV.KSt) (ev wr wr1 c : Int) (o : KV.KOp) (w : World) (h : SAll w s g l k P Pk T S ev wr false) (hge : ev ≤ wr) (hc : c ≠ 0)
    (HC : Hid (∀ w2, SAll w2 s g l k P Pk T S ev wr false → Below w.heap.size w w2 → Calls Tryz.prog 42 #[ptr s] w2 fun x w' => ∃ P1, x = .returned (.int .i64 c) ∧ SAll w' s g l k P1 Pk T1 S ev wr1 true ∧ StepS P P1 Pk Pk l s w2 w')) :
    Calls Tryz.prog 16 #[ptr s, KV.opV o] w fun x w' => ∃ P', x = .returned (KV.resV 12 0 KV.emp (.slice none 0 0)) ∧ SAll w' s g l k P' Pk T1 S ev wr1 true ∧ StepS P P' Pk Pk l s w w' := by
  obtain ⟨W1, hW1⟩ : ∃ W1, W1 = (w.alloc (KV.opO o)).alloc (KV.resO 0 0 KV.emp (.slice none 0 0)) := ⟨_, rfl⟩
  have hb1 : Below w.heap.size w W1 := by rw [hW1]; exact belAlloc (belNew w _) _
  have hz1 : W1.heap.size = w.heap.size + 2 := by rw [hW1]; show ((w.heap.push _).push _).size = _; simp
  have hA0 : W1.heap[w.heap.size]? = some (KV.opO o) := by rw [hW1, Below.heap_alloc _ _ _ (by simp)]; exact heap_alloc_new w _
  have hR0 : W1.heap[w.heap.size + 1]? = some (KV.resO 0 0 KV.emp (.slice none 0 0)) := by rw [hW1]; simpa using heap_alloc_new (w.alloc (KV.opO o)) (KV.resO 0 0 KV.emp (.slice none 0 0))
  have hA := h.below hb1
  obtain ⟨c0, c1, c2, c3, c4, c5⟩ := scells hA.1
  have HRD := Lib.hid (sready_any s g k l ev wr false W1 hA.1)
  have HA := Lib.hid (And.intro hA (And.intro hb1 (And.intro hA0 hR0)))
  have HZ1 := Lib.hid hz1
  have dge : decide (ev ≤ wr) = true := decide_eq_true hge
  have HW := Lib.hid hW1
  have HX := Lib.hid (And.intro (fun (i : Nat) (hp : P i) => DiskAt.lt h.2.1 hp) (And.intro (heap_lt h.2.2.1) (And.intro (heap_lt h.1) (fun (i : Nat) (hp : Pk i) => KV.KvAt.own h.2.2.2.1 i hp))))
  have dc : (c == 0) = false := by simpa using hc
  have dc2 : (c != 0) = true := by simpa using hc
  clear h hge hW1 hb1 hA0 hR0 hA hz1 hc
  go_enter Tryz.func16, Tryz.ntmps16
  go_upto_region 1 with fail
  change Code.wp _ _ _ _ ((w.alloc (KV.opO o)).alloc (KV.resO 0 0 KV.emp (.slice none 0 0)))
  rw [← HW.out]
  go_upto_region 4 with (first | (refine HRD.out.mono ?_; rintro _ wq ⟨rfl, rfl⟩) | go_in)
  go_cut [28] from 29 (fun s28 wx => ∃ P1, s28 = .bool true ∧ Hid (SAll wx s g l k P1 Pk T1 S ev wr1 true ∧ StepS P P1 Pk Pk l s W1 wx))
  case first =>
    refine wp_region_held_drew (S := (fun W => Touch (fun i => P i ∨ Pk i ∨ i = l ∨ i = s) W1 W)) (by kernel_rfl) ?_ (fun hS0 => ?_)
    · exact ⟨rfl, rfl, rfl, Nat.le_refl _, fun _ _ _ => rfl⟩
    refine wpAnyH_take (i := 0) (v := ?_) rfl (by kernel_rfl) (by kernel_rfl) (by kernel_rfl) (fun _ _ _ h => h) (Or.inl ⟨by rfl, ?_⟩) (by assumption) ?_
    rotate_left
    · intro wS hSw
      (try dsimp only at hSw)
      go_simp
      first | done | with_reducible rfl
    try simp only [Act.put, List.getElem_toArray, List.getElem_cons_succ, List.getElem_cons_zero, List.setIfInBounds_toArray, List.set_cons_zero, List.set_cons_succ]
    refine wpAnyH_take (i := 1) (v := ?_) rfl (by kernel_rfl) (by kernel_rfl) (by kernel_rfl) (fun _ _ _ h => h) (Or.inl ⟨by rfl, ?_⟩) (by assumption) ?_
    rotate_left
    · intro wS hSw
      (try dsimp only at hSw)
      go_simp
      first | done | with_reducible rfl
    try simp only [Act.put, List.getElem_toArray, List.getElem_cons_succ, List.getElem_cons_zero, List.setIfInBounds_toArray, List.set_cons_zero, List.set_cons_succ]
    refine wpAnyH_take (i := 2) (v := ?_) rfl (by kernel_rfl) (by kernel_rfl) (by kernel_rfl) (fun _ _ _ h => h) (Or.inl ⟨by rfl, ?_⟩) (by assumption) ?_
    rotate_left
    · intro wS hSw
      (try dsimp only at hSw)
      go_simp
      first | done | with_reducible rfl
    try simp only [Act.put, List.getElem_toArray, List.getElem_cons_succ, List.getElem_cons_zero, List.setIfInBounds_toArray, List.set_cons_zero, List.set_cons_succ]
    refine wpAnyH_take (i := 4) (v := ?_) rfl (by kernel_rfl) (by kernel_rfl) (by kernel_rfl) (fun _ _ _ h => h) (Or.inl ⟨by rfl, ?_⟩) (by assumption) ?_
    rotate_left
    · intro wS hSw
      (try dsimp only at hSw)
      go_simp
      first | done | with_reducible rfl
    try simp only [Act.put, List.getElem_toArray, List.getElem_cons_succ, List.getElem_cons_zero, List.setIfInBounds_toArray, List.set_cons_zero, List.set_cons_succ]
    refine wpAnyH_take (i := 5) (v := ?_) rfl (by kernel_rfl) (by kernel_rfl) (by kernel_rfl) (fun _ _ _ h => h) (Or.inl ⟨by rfl, ?_⟩) (by assumption) ?_
    rotate_left
    · intro wS hSw
      (try dsimp only at hSw)
      go_simp
      first | done | with_reducible rfl
    try simp only [Act.put, List.getElem_toArray, List.getElem_cons_succ, List.getElem_cons_zero, List.setIfInBounds_toArray, List.set_cons_zero, List.set_cons_succ]
    refine wpAnyH_take (i := 6) (v := ?_) rfl (by kernel_rfl) (by kernel_rfl) (by kernel_rfl) (fun _ _ _ h => h) (Or.inl ⟨by rfl, ?_⟩) (by assumption) ?_
    rotate_left
    · intro wS hSw
      (try dsimp only at hSw)
      go_simp
      first | done | with_reducible rfl
    try simp only [Act.put, List.getElem_toArray, List.getElem_cons_succ, List.getElem_cons_zero, List.setIfInBounds_toArray, List.set_cons_zero, List.set_cons_succ]
    refine wpAnyH_ready (rs := [3, 7]) (by kernel_rfl) (by simp) ?_
    refine AllReadyH.cons rfl (fun K hK => ?_) (AllReadyH.cons rfl (fun K hK => ?_) AllReadyH.nil)
    · go_simp
      refine hK.out _ _ ?_ (fun h3 => ?_)
      · exact hS0
      try simp only [Act.put, List.getElem_toArray, List.getElem_cons_succ, List.getElem_cons_zero, List.setIfInBounds_toArray, List.set_cons_zero, List.set_cons_succ]
      refine wpAnyH_ready (rs := [7]) (by kernel_rfl) (by simp) ?_
      refine AllReadyH.cons rfl (fun K hK => ?_) AllReadyH.nil
      go_simp
      refine hK.out _ _ ?_ (fun h7 => ?_)
      · exact h3
      try simp only [Act.put, List.getElem_toArray, List.getElem_cons_succ, List.getElem_cons_zero, List.setIfInBounds_toArray, List.set_cons_zero, List.set_cons_succ]
      refine wpAnyH_take (i := 8) (v := ?_) rfl (by kernel_rfl) (by kernel_rfl) (by kernel_rfl) (fun _ _ _ h => h) (Or.inl ⟨by rfl, ?_⟩) (by assumption) ?_
      rotate_left
      · intro wS hSw
        (try dsimp only at hSw)
        go_simp
        first | done | with_reducible rfl
      try simp only [Act.put, List.getElem_toArray, List.getElem_cons_succ, List.getElem_cons_zero, List.setIfInBounds_toArray, List.set_cons_zero, List.set_cons_succ]
      refine wpAnyH_take (i := 9) (v := ?_) rfl (by kernel_rfl) (by kernel_rfl) (by kernel_rfl) (fun _ _ _ h => h) (Or.inl ⟨by rfl, ?_⟩) (by assumption) ?_
      rotate_left
      · intro wS hSw
        (try dsimp only at hSw)
        go_simp
        first | done | with_reducible rfl
      try simp only [Act.put, List.getElem_toArray, List.getElem_cons_succ, List.getElem_cons_zero, List.setIfInBounds_toArray, List.set_cons_zero, List.set_cons_succ]
      refine wpAnyH_take (i := 10) (v := ?_) rfl (by kernel_rfl) (by kernel_rfl) (by kernel_rfl) (fun _ _ _ h => h) (Or.inl ⟨by rfl, ?_⟩) (by assumption) ?_
      rotate_left
      · intro wS hSw
        (try dsimp only at hSw)
        go_simp
        first | done | with_reducible rfl
      try simp only [Act.put, List.getElem_toArray, List.getElem_cons_succ, List.getElem_cons_zero, List.setIfInBounds_toArray, List.set_cons_zero, List.set_cons_succ]
      refine wpAnyH_ready (rs := [11]) (by kernel_rfl) (by simp) ?_
      refine AllReadyH.cons rfl (fun K hK => ?_) AllReadyH.nil
      go_simp
      refine (HC.out W1.drew (show SAll W1.drew s g l k P Pk T S ev wr false from HA.out.1) (bdrew HA.out.2.1)).mono ?_; rintro _ w3 ⟨P1, rfl, hS3, hT3⟩
      refine hK.out _ _ ?_ (fun hS9 => ?_)
      · exact hT3.1
      try simp only [Act.put, List.getElem_toArray, List.getElem_cons_succ, List.getElem_cons_zero, List.setIfInBounds_toArray, List.set_cons_zero, List.set_cons_succ]
      refine wpAnyH_take (i := 12) (v := ?_) rfl (by kernel_rfl) (by kernel_rfl) (by kernel_rfl) (fun _ _ _ h => h) (Or.inl ⟨by rfl, ?_⟩) (by assumption) ?_
      rotate_left
      · intro wS hSw
        (try dsimp only at hSw)
        go_simp
        first | done | with_reducible rfl
      try simp only [Act.put, List.getElem_toArray, List.getElem_cons_succ, List.getElem_cons_zero, List.setIfInBounds_toArray, List.set_cons_zero, List.set_cons_succ]
      refine wpAnyH_take (i := 13) (v := ?_) rfl (by kernel_rfl) (by kernel_rfl) (by kernel_rfl) (fun _ _ _ h => h) (Or.inl ⟨by rfl, ?_⟩) (by assumption) ?_
      rotate_left
      · intro wS hSw
        (try dsimp only at hSw)
        go_simp
        first | done | with_reducible rfl
      try simp only [Act.put, List.getElem_toArray, List.getElem_cons_succ, List.getElem_cons_zero, List.setIfInBounds_toArray, List.set_cons_zero, List.set_cons_succ]
      refine wpAnyH_done (by kernel_rfl) ?_ _
      (try go_wp2_with fail)
      go_meet
      exact ⟨P1, rfl, Lib.hid ⟨hS3, show StepS P P1 Pk Pk l s W1 w3 from hT3⟩⟩
    · go_simp
      refine hK.out _ _ ?_ (fun h7 => ?_)
      · exact hS0
      try simp only [Act.put, List.getElem_toArray, List.getElem_cons_succ, List.getElem_cons_zero, List.setIfInBounds_toArray, List.set_cons_zero, List.set_cons_succ]
      refine wpAnyH_ready (rs := [3]) (by kernel_rfl) (by simp) ?_
      refine AllReadyH.cons rfl (fun K hK => ?_) AllReadyH.nil
      go_simp
      refine hK.out _ _ ?_ (fun h3 => ?_)
      · exact h7
      try simp only [Act.put, List.getElem_toArray, List.getElem_cons_succ, List.getElem_cons_zero, List.setIfInBounds_toArray, List.set_cons_zero, List.set_cons_succ]
      refine wpAnyH_take (i := 8) (v := ?_) rfl (by kernel_rfl) (by kernel_rfl) (by kernel_rfl) (fun _ _ _ h => h) (Or.inl ⟨by rfl, ?_⟩) (by assumption) ?_
      rotate_left
      · intro wS hSw
        (try dsimp only at hSw)
        go_simp
        first | done | with_reducible rfl
      try simp only [Act.put, List.getElem_toArray, List.getElem_cons_succ, List.getElem_cons_zero, List.setIfInBounds_toArray, List.set_cons_zero, List.set_cons_succ]
      refine wpAnyH_take (i := 9) (v := ?_) rfl (by kernel_rfl) (by kernel_rfl) (by kernel_rfl) (fun _ _ _ h => h) (Or.inl ⟨by rfl, ?_⟩) (by assumption) ?_
      rotate_left
      · intro wS hSw
        (try dsimp only at hSw)
        go_simp
        first | done | with_reducible rfl
      try simp only [Act.put, List.getElem_toArray, List.getElem_cons_succ, List.getElem_cons_zero, List.setIfInBounds_toArray, List.set_cons_zero, List.set_cons_succ]
      refine wpAnyH_take (i := 10) (v := ?_) rfl (by kernel_rfl) (by kernel_rfl) (by kernel_rfl) (fun _ _ _ h => h) (Or.inl ⟨by rfl, ?_⟩) (by assumption) ?_
      rotate_left
      · intro wS hSw
        (try dsimp only at hSw)
        go_simp
        first | done | with_reducible rfl
      try simp only [Act.put, List.getElem_toArray, List.getElem_cons_succ, List.getElem_cons_zero, List.setIfInBounds_toArray, List.set_cons_zero, List.set_cons_succ]
      refine wpAnyH_ready (rs := [11]) (by kernel_rfl) (by simp) ?_
      refine AllReadyH.cons rfl (fun K hK => ?_) AllReadyH.nil
      go_simp
      refine (HC.out W1.drew (show SAll W1.drew s g l k P Pk T S ev wr false from HA.out.1) (bdrew HA.out.2.1)).mono ?_; rintro _ w3 ⟨P1, rfl, hS3, hT3⟩
      refine hK.out _ _ ?_ (fun hS9 => ?_)
      · exact hT3.1
      try simp only [Act.put, List.getElem_toArray, List.getElem_cons_succ, List.getElem_cons_zero, List.setIfInBounds_toArray, List.set_cons_zero, List.set_cons_succ]
      refine wpAnyH_take (i := 12) (v := ?_) rfl (by kernel_rfl) (by kernel_rfl) (by kernel_rfl) (fun _ _ _ h => h) (Or.inl ⟨by rfl, ?_⟩) (by assumption) ?_
      rotate_left
      · intro wS hSw
        (try dsimp only at hSw)
        go_simp
        first | done | with_reducible rfl
      try simp only [Act.put, List.getElem_toArray, List.getElem_cons_succ, List.getElem_cons_zero, List.setIfInBounds_toArray, List.set_cons_zero, List.set_cons_succ]
      refine wpAnyH_take (i := 13) (v := ?_) rfl (by kernel_rfl) (by kernel_rfl) (by kernel_rfl) (fun _ _ _ h => h) (Or.inl ⟨by rfl, ?_⟩) (by assumption) ?_
      rotate_left
      · intro wS hSw
        (try dsimp only at hSw)
        go_simp
        first | done | with_reducible rfl
      try simp only [Act.put, List.getElem_toArray, List.getElem_cons_succ, List.getElem_cons_zero, List.setIfInBounds_toArray, List.set_cons_zero, List.set_cons_succ]
      refine wpAnyH_done (by kernel_rfl) ?_ _
      (try go_wp2_with fail)
      go_meet
      exact ⟨P1, rfl, Lib.hid ⟨hS3, show StepS P P1 Pk Pk l s W1 w3 from hT3⟩⟩
  case rest =>
    obtain ⟨P1, rfl, HM4⟩ := hcut
    obtain ⟨w6, hw6⟩ : ∃ w6, w6 = wc := ⟨_, rfl⟩
    subst hw6
    have hno1 : ∀ i, w.heap.size ≤ i → i < W1.heap.size → ¬ (P i ∨ Pk i ∨ i = l ∨ i = s) := fun i hi _ h => by
      rcases h with h | h | h | h
      · have := HX.out.1 i h; omega
      · have := HX.out.2.2.2 i h; omega
      · have := HX.out.2.1; omega
      · have := HX.out.2.2.1; omega
    have hz1 := HZ1.out
    have hR6 := (HM4.out.2.1.2.2.2.2 _ (by omega) (hno1 _ (by omega) (by omega))).trans HA.out.2.2.2
    have hO6 := (HM4.out.2.1.2.2.2.2 _ (by omega) (hno1 _ (by omega) (by omega))).trans HA.out.2.2.1
    have hz6 : w.heap.size + 2 ≤ w6.heap.size := by have := HM4.out.2.1.2.2.2.1; omega
    have hP1 : ∀ i, P1 i → P i ∨ w.heap.size + 2 ≤ i := fun i hp => (HM4.out.2.2.1 i hp).imp id (fun h => by omega)
    have hT6 : StepS P P1 Pk Pk l s w w6 := ⟨(Touch.of_below _ HA.out.2.1).trans HM4.out.2.1 (fun _ _ h => h), fun i hp => (hP1 i hp).imp id (fun h => by omega), fun i hp => Or.inl hp⟩
    have H6 := Lib.hid (And.intro HM4.out.1 (And.intro hT6 (And.intro hO6 (And.intro hR6 (And.intro hz6 hP1)))))
    have hno : ∀ i, (i = w.heap.size + 1 ∨ w6.heap.size ≤ i) → ¬ (P1 i ∨ Pk i ∨ i = l ∨ i = s) := fun i hi h => by
      have hl := HX.out.2.1
      have hs := HX.out.2.2.1
      rcases h with h | h | h | h
      · rcases hi with hi | hi
        · rcases hP1 i h with h' | h'
          · have := HX.out.1 i h'; omega
          · omega
        · have := DiskAt.lt HM4.out.1.2.1 h; omega
      · have := HX.out.2.2.2 i h; omega
      · omega
      · omega
    have HNO6 := Lib.hid hno
    clear hno1 hz1 hno
    obtain ⟨a0, a1, a2, a3, b0, b1, b2, b3⟩ := KV.four H6.out.2.2.2.1
    have hE := KV.put4_at H6.out.2.2.2.1 (.int .i64 12) (.int .i64 0) (.string KV.emp) (.slice none 0 0)
    have ht4 := touch4 w6 (w.heap.size + 1) (.int .i64 12) (.int .i64 0) (.string KV.emp) (.slice none 0 0)
    have hSA := H6.out.1.keep ht4 (fun i e => by
      have h0 := HNO6.out i (Or.inl e)
      exact ⟨fun h => h0 (Or.inl h), fun h => h0 (Or.inr (Or.inl h)), fun h => h0 (Or.inr (Or.inr (Or.inl h))), fun h => h0 (Or.inr (Or.inr (Or.inr h)))⟩)
    have htt := H6.out.2.1.1.trans ht4 (fun i hi e => by have e' : i = w.heap.size + 1 := e; omega)
    have HF := Lib.hid (And.intro hSA htt)
    unfold KV.put4 at hE HF
    clear hSA htt ht4 hR6 hO6 hz6 hP1 hT6 HM4
    go_wp2_with fail
    refine bodyPost_ret (v := KV.resV 12 0 KV.emp (.slice none 0 0)) (by simp [results, Tryz.results16, go_sem, World.cell?, hE]) rfl ⟨P1, rfl, HF.out.1, HF.out.2, H6.out.2.1.2⟩
set_option maxRecDepth 100000 in
set_option maxHeartbeats 16000000 in
theorem sdo_comp (s g l k : Nat) (P Pk : Nat → Prop) (T T1 T' : WSt) (S S' : KV.KSt) (ev wr wr1 wr' c : Int) (dead' : Bool) (o : KV.KOp) (w : World) (h : SAll w s g l k P Pk T S ev wr false) (hge : ev ≤ wr)
    (hs : o.key.size ≤ maxLen) (hs2 : o.iff.size ≤ maxLen) (hri : KV.Rising S.L) (hn : S.L.length ≤ 1000000) (hrv : 0 ≤ S.rev ∧ S.rev < 9223372036854775807)
    (HC : Hid (∀ w2, SAll w2 s g l k P Pk T S ev wr false → Below w.heap.size w w2 → Calls Tryz.prog 42 #[ptr s] w2 fun x w' => ∃ P1, x = .returned (.int .i64 0) ∧ SAll w' s g l k P1 Pk T1 S ev wr1 false ∧ StepS P P1 Pk Pk l s w2 w'))
    (HKP : Hid ((KV.planK S o).2.2 = true → ∀ P1 w2, SAll w2 s g l k P1 Pk T1 S ev wr1 false → StepS P P1 Pk Pk l s w w2 → Calls Tryz.prog 44 #[ptr s, KV.effV (KV.planK S o).2.1] w2 fun x w' => ∃ P' Pk', x = .returned (.int .i64 c) ∧ SAll w' s g l k P' Pk' T' S' ev wr' dead' ∧ StepS P1 P' Pk Pk' l s w2 w'))
    (HNO : Hid ((KV.planK S o).2.2 = false → T' = T1 ∧ S' = S ∧ wr' = wr1 ∧ dead' = false ∧ c = 0)) :
    Calls Tryz.prog 16 #[ptr s, KV.opV o] w fun x w' => ∃ P' Pk' v, x = .returned (if c = 0 then KV.kres (KV.planK S o).1 v else KV.resV 12 0 KV.emp (.slice none 0 0)) ∧ (c = 0 → KV.RowI w' w.heap.size v (KV.planK S o).1.its) ∧ SAll w' s g l k P' Pk' T' S' ev wr' dead' ∧ StepS P P' Pk Pk' l s w w' := by
  obtain ⟨QQ, hQQ⟩ : ∃ QQ : Ending → World → Prop, QQ = (fun x w' => ∃ P' Pk' v, x = .returned (if c = 0 then KV.kres (KV.planK S o).1 v else KV.resV 12 0 KV.emp (.slice none 0 0)) ∧ (c = 0 → KV.RowI w' w.heap.size v (KV.planK S o).1.its) ∧ SAll w' s g l k P' Pk' T' S' ev wr' dead' ∧ StepS P P' Pk Pk' l s w w') := ⟨_, rfl⟩
  rw [← hQQ]
  have HQ := Lib.hid hQQ
  clear hQQ
  obtain ⟨W1, hW1⟩ : ∃ W1, W1 = (w.alloc (KV.opO o)).alloc (KV.resO 0 0 KV.emp (.slice none 0 0)) := ⟨_, rfl⟩
  have hb1 : Below w.heap.size w W1 := by rw [hW1]; exact belAlloc (belNew w _) _
  have hz1 : W1.heap.size = w.heap.size + 2 := by rw [hW1]; show ((w.heap.push _).push _).size = _; simp
  have hA0 : W1.heap[w.heap.size]? = some (KV.opO o) := by rw [hW1, Below.heap_alloc _ _ _ (by simp)]; exact heap_alloc_new w _
  have hR0 : W1.heap[w.heap.size + 1]? = some (KV.resO 0 0 KV.emp (.slice none 0 0)) := by rw [hW1]; simpa using heap_alloc_new (w.alloc (KV.opO o)) (KV.resO 0 0 KV.emp (.slice none 0 0))
  have hA := h.below hb1
  obtain ⟨c0, c1, c2, c3, c4, c5⟩ := scells hA.1
  have HRD := Lib.hid (sready_any s g k l ev wr false W1 hA.1)
  have HA := Lib.hid (And.intro hA (And.intro hb1 (And.intro hA0 hR0)))
  have HZ1 := Lib.hid hz1
  have dge : decide (ev ≤ wr) = true := decide_eq_true hge
  have HW := Lib.hid hW1
  have HX := Lib.hid (And.intro (fun (i : Nat) (hp : P i) => DiskAt.lt h.2.1 hp) (And.intro (heap_lt h.2.2.1) (And.intro (heap_lt h.1) (fun (i : Nat) (hp : Pk i) => KV.KvAt.own h.2.2.2.1 i hp))))
  have HPP := Lib.hid (fun (w2 : World) (hk2 : KV.KvAt w2 k Pk S) => KV.plan_any k Pk S o w2 hk2 hs hs2 hri hn hrv)
  clear h hge hs hs2 hri hn hrv hW1 hb1 hA0 hR0 hA hz1
  go_enter Tryz.func16, Tryz.ntmps16
  go_upto_region 1 with fail
  change Code.wp _ _ _ _ ((w.alloc (KV.opO o)).alloc (KV.resO 0 0 KV.emp (.slice none 0 0)))
  rw [← HW.out]
  go_upto_region 4 with (first | (refine HRD.out.mono ?_; rintro _ wq ⟨rfl, rfl⟩) | go_in)
  go_cut [28] from 29 (fun s28 wx => ∃ P1, s28 = .bool false ∧ Hid (SAll wx s g l k P1 Pk T1 S ev wr1 false ∧ StepS P P1 Pk Pk l s W1 wx))
  case first =>
    refine wp_region_held_drew (S := (fun W => Touch (fun i => P i ∨ Pk i ∨ i = l ∨ i = s) W1 W)) (by kernel_rfl) ?_ (fun hS0 => ?_)
    · exact ⟨rfl, rfl, rfl, Nat.le_refl _, fun _ _ _ => rfl⟩
    refine wpAnyH_take (i := 0) (v := ?_) rfl (by kernel_rfl) (by kernel_rfl) (by kernel_rfl) (fun _ _ _ h => h) (Or.inl ⟨by rfl, ?_⟩) (by assumption) ?_
    rotate_left
    · intro wS hSw
      (try dsimp only at hSw)
      go_simp
      first | done | with_reducible rfl
    try simp only [Act.put, List.getElem_toArray, List.getElem_cons_succ, List.getElem_cons_zero, List.setIfInBounds_toArray, List.set_cons_zero, List.set_cons_succ]
    refine wpAnyH_take (i := 1) (v := ?_) rfl (by kernel_rfl) (by kernel_rfl) (by kernel_rfl) (fun _ _ _ h => h) (Or.inl ⟨by rfl, ?_⟩) (by assumption) ?_
    rotate_left
    · intro wS hSw
      (try dsimp only at hSw)
      go_simp
      first | done | with_reducible rfl
    try simp only [Act.put, List.getElem_toArray, List.getElem_cons_succ, List.getElem_cons_zero, List.setIfInBounds_toArray, List.set_cons_zero, List.set_cons_succ]
    refine wpAnyH_take (i := 2) (v := ?_) rfl (by kernel_rfl) (by kernel_rfl) (by kernel_rfl) (fun _ _ _ h => h) (Or.inl ⟨by rfl, ?_⟩) (by assumption) ?_
    rotate_left
    · intro wS hSw
      (try dsimp only at hSw)
      go_simp
      first | done | with_reducible rfl
    try simp only [Act.put, List.getElem_toArray, List.getElem_cons_succ, List.getElem_cons_zero, List.setIfInBounds_toArray, List.set_cons_zero, List.set_cons_succ]
    refine wpAnyH_take (i := 4) (v := ?_) rfl (by kernel_rfl) (by kernel_rfl) (by kernel_rfl) (fun _ _ _ h => h) (Or.inl ⟨by rfl, ?_⟩) (by assumption) ?_
    rotate_left
    · intro wS hSw
      (try dsimp only at hSw)
      go_simp
      first | done | with_reducible rfl
    try simp only [Act.put, List.getElem_toArray, List.getElem_cons_succ, List.getElem_cons_zero, List.setIfInBounds_toArray, List.set_cons_zero, List.set_cons_succ]
    refine wpAnyH_take (i := 5) (v := ?_) rfl (by kernel_rfl) (by kernel_rfl) (by kernel_rfl) (fun _ _ _ h => h) (Or.inl ⟨by rfl, ?_⟩) (by assumption) ?_
    rotate_left
    · intro wS hSw
      (try dsimp only at hSw)
      go_simp
      first | done | with_reducible rfl
    try simp only [Act.put, List.getElem_toArray, List.getElem_cons_succ, List.getElem_cons_zero, List.setIfInBounds_toArray, List.set_cons_zero, List.set_cons_succ]
    refine wpAnyH_take (i := 6) (v := ?_) rfl (by kernel_rfl) (by kernel_rfl) (by kernel_rfl) (fun _ _ _ h => h) (Or.inl ⟨by rfl, ?_⟩) (by assumption) ?_
    rotate_left
    · intro wS hSw
      (try dsimp only at hSw)
      go_simp
      first | done | with_reducible rfl
    try simp only [Act.put, List.getElem_toArray, List.getElem_cons_succ, List.getElem_cons_zero, List.setIfInBounds_toArray, List.set_cons_zero, List.set_cons_succ]
    refine wpAnyH_ready (rs := [3, 7]) (by kernel_rfl) (by simp) ?_
    refine AllReadyH.cons rfl (fun K hK => ?_) (AllReadyH.cons rfl (fun K hK => ?_) AllReadyH.nil)
    · go_simp
      refine hK.out _ _ ?_ (fun h3 => ?_)
      · exact hS0
      try simp only [Act.put, List.getElem_toArray, List.getElem_cons_succ, List.getElem_cons_zero, List.setIfInBounds_toArray, List.set_cons_zero, List.set_cons_succ]
      refine wpAnyH_ready (rs := [7]) (by kernel_rfl) (by simp) ?_
      refine AllReadyH.cons rfl (fun K hK => ?_) AllReadyH.nil
      go_simp
      refine hK.out _ _ ?_ (fun h7 => ?_)
      · exact h3
      try simp only [Act.put, List.getElem_toArray, List.getElem_cons_succ, List.getElem_cons_zero, List.setIfInBounds_toArray, List.set_cons_zero, List.set_cons_succ]
      refine wpAnyH_take (i := 8) (v := ?_) rfl (by kernel_rfl) (by kernel_rfl) (by kernel_rfl) (fun _ _ _ h => h) (Or.inl ⟨by rfl, ?_⟩) (by assumption) ?_
      rotate_left
      · intro wS hSw
        (try dsimp only at hSw)
        go_simp
        first | done | with_reducible rfl
      try simp only [Act.put, List.getElem_toArray, List.getElem_cons_succ, List.getElem_cons_zero, List.setIfInBounds_toArray, List.set_cons_zero, List.set_cons_succ]
      refine wpAnyH_take (i := 9) (v := ?_) rfl (by kernel_rfl) (by kernel_rfl) (by kernel_rfl) (fun _ _ _ h => h) (Or.inl ⟨by rfl, ?_⟩) (by assumption) ?_
      rotate_left
      · intro wS hSw
        (try dsimp only at hSw)
        go_simp
        first | done | with_reducible rfl
      try simp only [Act.put, List.getElem_toArray, List.getElem_cons_succ, List.getElem_cons_zero, List.setIfInBounds_toArray, List.set_cons_zero, List.set_cons_succ]
      refine wpAnyH_take (i := 10) (v := ?_) rfl (by kernel_rfl) (by kernel_rfl) (by kernel_rfl) (fun _ _ _ h => h) (Or.inl ⟨by rfl, ?_⟩) (by assumption) ?_
      rotate_left
      · intro wS hSw
        (try dsimp only at hSw)
        go_simp
        first | done | with_reducible rfl
      try simp only [Act.put, List.getElem_toArray, List.getElem_cons_succ, List.getElem_cons_zero, List.setIfInBounds_toArray, List.set_cons_zero, List.set_cons_succ]
      refine wpAnyH_ready (rs := [11]) (by kernel_rfl) (by simp) ?_
      refine AllReadyH.cons rfl (fun K hK => ?_) AllReadyH.nil
      go_simp
      refine (HC.out W1.drew (show SAll W1.drew s g l k P Pk T S ev wr false from HA.out.1) (bdrew HA.out.2.1)).mono ?_; rintro _ w3 ⟨P1, rfl, hS3, hT3⟩
      refine hK.out _ _ ?_ (fun hS9 => ?_)
      · exact hT3.1
      try simp only [Act.put, List.getElem_toArray, List.getElem_cons_succ, List.getElem_cons_zero, List.setIfInBounds_toArray, List.set_cons_zero, List.set_cons_succ]
      refine wpAnyH_take (i := 12) (v := ?_) rfl (by kernel_rfl) (by kernel_rfl) (by kernel_rfl) (fun _ _ _ h => h) (Or.inl ⟨by rfl, ?_⟩) (by assumption) ?_
      rotate_left
      · intro wS hSw
        (try dsimp only at hSw)
        go_simp
        first | done | with_reducible rfl
      try simp only [Act.put, List.getElem_toArray, List.getElem_cons_succ, List.getElem_cons_zero, List.setIfInBounds_toArray, List.set_cons_zero, List.set_cons_succ]
      refine wpAnyH_take (i := 13) (v := ?_) rfl (by kernel_rfl) (by kernel_rfl) (by kernel_rfl) (fun _ _ _ h => h) (Or.inl ⟨by rfl, ?_⟩) (by assumption) ?_
      rotate_left
      · intro wS hSw
        (try dsimp only at hSw)
        go_simp
        first | done | with_reducible rfl
      try simp only [Act.put, List.getElem_toArray, List.getElem_cons_succ, List.getElem_cons_zero, List.setIfInBounds_toArray, List.set_cons_zero, List.set_cons_succ]
      refine wpAnyH_done (by kernel_rfl) ?_ _
      (try go_wp2_with fail)
      go_meet
      exact ⟨P1, rfl, Lib.hid ⟨hS3, show StepS P P1 Pk Pk l s W1 w3 from hT3⟩⟩
    · go_simp
      refine hK.out _ _ ?_ (fun h7 => ?_)
      · exact hS0
      try simp only [Act.put, List.getElem_toArray, List.getElem_cons_succ, List.getElem_cons_zero, List.setIfInBounds_toArray, List.set_cons_zero, List.set_cons_succ]
      refine wpAnyH_ready (rs := [3]) (by kernel_rfl) (by simp) ?_
      refine AllReadyH.cons rfl (fun K hK => ?_) AllReadyH.nil
      go_simp
      refine hK.out _ _ ?_ (fun h3 => ?_)
      · exact h7
      try simp only [Act.put, List.getElem_toArray, List.getElem_cons_succ, List.getElem_cons_zero, List.setIfInBounds_toArray, List.set_cons_zero, List.set_cons_succ]
      refine wpAnyH_take (i := 8) (v := ?_) rfl (by kernel_rfl) (by kernel_rfl) (by kernel_rfl) (fun _ _ _ h => h) (Or.inl ⟨by rfl, ?_⟩) (by assumption) ?_
      rotate_left
      · intro wS hSw
        (try dsimp only at hSw)
        go_simp
        first | done | with_reducible rfl
      try simp only [Act.put, List.getElem_toArray, List.getElem_cons_succ, List.getElem_cons_zero, List.setIfInBounds_toArray, List.set_cons_zero, List.set_cons_succ]
      refine wpAnyH_take (i := 9) (v := ?_) rfl (by kernel_rfl) (by kernel_rfl) (by kernel_rfl) (fun _ _ _ h => h) (Or.inl ⟨by rfl, ?_⟩) (by assumption) ?_
      rotate_left
      · intro wS hSw
        (try dsimp only at hSw)
        go_simp
        first | done | with_reducible rfl
      try simp only [Act.put, List.getElem_toArray, List.getElem_cons_succ, List.getElem_cons_zero, List.setIfInBounds_toArray, List.set_cons_zero, List.set_cons_succ]
      refine wpAnyH_take (i := 10) (v := ?_) rfl (by kernel_rfl) (by kernel_rfl) (by kernel_rfl) (fun _ _ _ h => h) (Or.inl ⟨by rfl, ?_⟩) (by assumption) ?_
      rotate_left
      · intro wS hSw
        (try dsimp only at hSw)
        go_simp
        first | done | with_reducible rfl
      try simp only [Act.put, List.getElem_toArray, List.getElem_cons_succ, List.getElem_cons_zero, List.setIfInBounds_toArray, List.set_cons_zero, List.set_cons_succ]
      refine wpAnyH_ready (rs := [11]) (by kernel_rfl) (by simp) ?_
      refine AllReadyH.cons rfl (fun K hK => ?_) AllReadyH.nil
      go_simp
      refine (HC.out W1.drew (show SAll W1.drew s g l k P Pk T S ev wr false from HA.out.1) (bdrew HA.out.2.1)).mono ?_; rintro _ w3 ⟨P1, rfl, hS3, hT3⟩
      refine hK.out _ _ ?_ (fun hS9 => ?_)
      · exact hT3.1
      try simp only [Act.put, List.getElem_toArray, List.getElem_cons_succ, List.getElem_cons_zero, List.setIfInBounds_toArray, List.set_cons_zero, List.set_cons_succ]
      refine wpAnyH_take (i := 12) (v := ?_) rfl (by kernel_rfl) (by kernel_rfl) (by kernel_rfl) (fun _ _ _ h => h) (Or.inl ⟨by rfl, ?_⟩) (by assumption) ?_
      rotate_left
      · intro wS hSw
        (try dsimp only at hSw)
        go_simp
        first | done | with_reducible rfl
      try simp only [Act.put, List.getElem_toArray, List.getElem_cons_succ, List.getElem_cons_zero, List.setIfInBounds_toArray, List.set_cons_zero, List.set_cons_succ]
      refine wpAnyH_take (i := 13) (v := ?_) rfl (by kernel_rfl) (by kernel_rfl) (by kernel_rfl) (fun _ _ _ h => h) (Or.inl ⟨by rfl, ?_⟩) (by assumption) ?_
      rotate_left
      · intro wS hSw
        (try dsimp only at hSw)
        go_simp
        first | done | with_reducible rfl
      try simp only [Act.put, List.getElem_toArray, List.getElem_cons_succ, List.getElem_cons_zero, List.setIfInBounds_toArray, List.set_cons_zero, List.set_cons_succ]
      refine wpAnyH_done (by kernel_rfl) ?_ _
      (try go_wp2_with fail)
      go_meet
      exact ⟨P1, rfl, Lib.hid ⟨hS3, show StepS P P1 Pk Pk l s W1 w3 from hT3⟩⟩
  case rest =>
    obtain ⟨P1, rfl, HM4⟩ := hcut
    obtain ⟨w6, hw6⟩ : ∃ w6, w6 = wc := ⟨_, rfl⟩
    subst hw6
    have hno1 : ∀ i, w.heap.size ≤ i → i < W1.heap.size → ¬ (P i ∨ Pk i ∨ i = l ∨ i = s) := fun i hi _ h => by
      rcases h with h | h | h | h
      · have := HX.out.1 i h; omega
      · have := HX.out.2.2.2 i h; omega
      · have := HX.out.2.1; omega
      · have := HX.out.2.2.1; omega
    have hz1 := HZ1.out
    have hR6 := (HM4.out.2.1.2.2.2.2 _ (by omega) (hno1 _ (by omega) (by omega))).trans HA.out.2.2.2
    have hO6 := (HM4.out.2.1.2.2.2.2 _ (by omega) (hno1 _ (by omega) (by omega))).trans HA.out.2.2.1
    have hz6 : w.heap.size + 2 ≤ w6.heap.size := by have := HM4.out.2.1.2.2.2.1; omega
    have hP1 : ∀ i, P1 i → P i ∨ w.heap.size + 2 ≤ i := fun i hp => (HM4.out.2.2.1 i hp).imp id (fun h => by omega)
    have hT6 : StepS P P1 Pk Pk l s w w6 := ⟨(Touch.of_below _ HA.out.2.1).trans HM4.out.2.1 (fun _ _ h => h), fun i hp => (hP1 i hp).imp id (fun h => by omega), fun i hp => Or.inl hp⟩
    have H6 := Lib.hid (And.intro HM4.out.1 (And.intro hT6 (And.intro hO6 (And.intro hR6 (And.intro hz6 hP1)))))
    have hno : ∀ i, (i = w.heap.size + 1 ∨ w6.heap.size ≤ i) → ¬ (P1 i ∨ Pk i ∨ i = l ∨ i = s) := fun i hi h => by
      have hl := HX.out.2.1
      have hs := HX.out.2.2.1
      rcases h with h | h | h | h
      · rcases hi with hi | hi
        · rcases hP1 i h with h' | h'
          · have := HX.out.1 i h'; omega
          · omega
        · have := DiskAt.lt HM4.out.1.2.1 h; omega
      · have := HX.out.2.2.2 i h; omega
      · omega
      · omega
    have HNO6 := Lib.hid hno
    clear hno1 hz1 hno
    obtain ⟨c0, c1, c2, c3, c4, c5⟩ := scells H6.out.1.1
    obtain ⟨k0, k1, k2, k3, k4, k5⟩ := KV.opcells H6.out.2.2.1
    have HPL := Lib.hid (fun (w2 : World) (hb : Below w6.heap.size w6 w2) => HPP.out w2 (H6.out.1.below hb).2.2.2.1)
    clear hR6 hO6 hz6 hP1 hT6 HM4
    go_upto_region 6 with fail
    go_cut [6, 7, 8] from 9 (fun s6 s7 s8 wx => ∃ (gA gB : Nat) (aI : Option Addr) (cI : Nat), s6 = ptr gA ∧ s7 = ptr gB ∧ s8 = .bool (KV.planK S o).2.2 ∧ Hid (wx.heap[gA]? = some (KV.resO (KV.planK S o).1.code (KV.planK S o).1.rev (KV.planK S o).1.val (.slice aI (KV.planK S o).1.its.length cI)) ∧ wx.heap[gB]? = some (KV.effO (KV.planK S o).2.1) ∧ KV.RowI wx w6.heap.size (.slice aI (KV.planK S o).1.its.length cI) (KV.planK S o).1.its ∧ Below w6.heap.size w6 wx ∧ w6.heap.size ≤ gA ∧ w6.heap.size ≤ gB))
    case first =>
      refine wp_region_held_drew (S := (fun W => Below w6.heap.size w6 W)) (by kernel_rfl) ?_ (fun hS0 => ?_)
      · exact ⟨rfl, rfl, rfl, Nat.le_refl _, fun _ _ => rfl⟩
      generalize w6.drew = Wd at hS0 ⊢
      refine wpAnyH_take (i := 0) (v := ?_) rfl (by kernel_rfl) (by kernel_rfl) (by kernel_rfl) (fun _ _ _ h => h) (Or.inl ⟨by rfl, ?_⟩) (by assumption) ?_
      rotate_left
      · intro wS hSw
        (try dsimp only at hSw)
        go_simp
        first | done | with_reducible rfl
      try simp only [Act.put, List.getElem_toArray, List.getElem_cons_succ, List.getElem_cons_zero, List.setIfInBounds_toArray, List.set_cons_zero, List.set_cons_succ]
      refine wpAnyH_take (i := 1) (v := ?_) rfl (by kernel_rfl) (by kernel_rfl) (by kernel_rfl) (fun _ _ _ h => h) (Or.inl ⟨by rfl, ?_⟩) (by assumption) ?_
      rotate_left
      · intro wS hSw
        (try dsimp only at hSw)
        go_simp
        first | done | with_reducible rfl
      try simp only [Act.put, List.getElem_toArray, List.getElem_cons_succ, List.getElem_cons_zero, List.setIfInBounds_toArray, List.set_cons_zero, List.set_cons_succ]
      refine wpAnyH_take (i := 2) (v := ?_) rfl (by kernel_rfl) (by kernel_rfl) (by kernel_rfl) (fun _ _ _ h => h) (Or.inl ⟨by rfl, ?_⟩) (by assumption) ?_
      rotate_left
      · intro wS hSw
        (try dsimp only at hSw)
        go_simp
        first | done | with_reducible rfl
      try simp only [Act.put, List.getElem_toArray, List.getElem_cons_succ, List.getElem_cons_zero, List.setIfInBounds_toArray, List.set_cons_zero, List.set_cons_succ]
      refine wpAnyH_take (i := 3) (v := ?_) rfl (by kernel_rfl) (by kernel_rfl) (by kernel_rfl) (fun _ _ _ h => h) (Or.inl ⟨by rfl, ?_⟩) (by assumption) ?_
      rotate_left
      · intro wS hSw
        (try dsimp only at hSw)
        have c1 := bcell hSw c1
        go_simp
        first | done | with_reducible rfl
      try simp only [Act.put, List.getElem_toArray, List.getElem_cons_succ, List.getElem_cons_zero, List.setIfInBounds_toArray, List.set_cons_zero, List.set_cons_succ]
      refine wpAnyH_take (i := 4) (v := ?_) rfl (by kernel_rfl) (by kernel_rfl) (by kernel_rfl) (fun _ _ _ h => h) (Or.inl ⟨by rfl, ?_⟩) (by assumption) ?_
      rotate_left
      · intro wS hSw
        (try dsimp only at hSw)
        have k0 := bcell hSw k0
        have k1 := bcell hSw k1
        have k2 := bcell hSw k2
        have k3 := bcell hSw k3
        have k4 := bcell hSw k4
        have k5 := bcell hSw k5
        go_simp
        first | done | with_reducible rfl
      try simp only [Act.put, List.getElem_toArray, List.getElem_cons_succ, List.getElem_cons_zero, List.setIfInBounds_toArray, List.set_cons_zero, List.set_cons_succ]
      refine wpAnyH_ready (rs := [5, 10, 11]) (by kernel_rfl) (by simp) ?_
      refine AllReadyH.cons rfl (fun K hK => ?_) (AllReadyH.cons rfl (fun K hK => ?_) (AllReadyH.cons rfl (fun K hK => ?_) AllReadyH.nil))
      · go_simp
        refine (HPL.out (Wd) hS0).mono ?_; rintro _ u2 ⟨vI, rfl, hvI, b3⟩
        obtain ⟨aI, cI, rfl⟩ := rowForm hvI
        refine hK.out _ _ ?_ (fun h1 => ?_)
        · exact bel6 hS0 b3
        have v4 : KV.RowI u2 w6.heap.size (.slice aI (KV.planK S o).1.its.length cI) (KV.planK S o).1.its := rowMono hvI hS0.size
        try simp only [Act.put, List.getElem_toArray, List.getElem_cons_succ, List.getElem_cons_zero, List.setIfInBounds_toArray, List.set_cons_zero, List.set_cons_succ]
        refine wpAnyH_take (i := 6) (v := ?_) rfl (by kernel_rfl) (by kernel_rfl) (by kernel_rfl) (fun _ _ _ h => h) (Or.inl ⟨by rfl, ?_⟩) (by assumption) ?_
        rotate_left
        · intro wS hSw
          (try dsimp only at hSw)
          go_simp
          first | done | with_reducible rfl
        try simp only [Act.put, List.getElem_toArray, List.getElem_cons_succ, List.getElem_cons_zero, List.setIfInBounds_toArray, List.set_cons_zero, List.set_cons_succ]
        refine wpAnyH_take (i := 7) (v := ?_) rfl (by kernel_rfl) (by kernel_rfl) (by kernel_rfl) (fun _ _ _ h => h) (Or.inl ⟨by rfl, ?_⟩) (by assumption) ?_
        rotate_left
        · intro wS hSw
          (try dsimp only at hSw)
          go_simp
          first | done | with_reducible rfl
        try simp only [Act.put, List.getElem_toArray, List.getElem_cons_succ, List.getElem_cons_zero, List.setIfInBounds_toArray, List.set_cons_zero, List.set_cons_succ]
        refine wpAnyH_take (i := 8) (v := ?_) rfl (by kernel_rfl) (by kernel_rfl) (by kernel_rfl) (fun _ _ _ h => h) (Or.inl ⟨by rfl, ?_⟩) (by assumption) ?_
        rotate_left
        · intro wS hSw
          (try dsimp only at hSw)
          go_simp
          first | done | with_reducible rfl
        try simp only [Act.put, List.getElem_toArray, List.getElem_cons_succ, List.getElem_cons_zero, List.setIfInBounds_toArray, List.set_cons_zero, List.set_cons_succ]
        refine wpAnyH_take (i := 9) (v := ?_) rfl (by kernel_rfl) (by kernel_rfl) (by kernel_rfl) (fun _ _ _ h => h) (Or.inl ⟨by rfl, ?_⟩) (by assumption) ?_
        rotate_left
        · intro wS hSw
          (try dsimp only at hSw)
          go_simp
          first | done | with_reducible rfl
        try simp only [Act.put, List.getElem_toArray, List.getElem_cons_succ, List.getElem_cons_zero, List.setIfInBounds_toArray, List.set_cons_zero, List.set_cons_succ]
        refine wpAnyH_ready (rs := [10, 11]) (by kernel_rfl) (by simp) ?_
        refine AllReadyH.cons rfl (fun K hK => ?_) (AllReadyH.cons rfl (fun K hK => ?_) AllReadyH.nil)
        · go_simp
          refine hK.out _ _ ?_ (fun h5 => ?_)
          · exact bel6 h1 (belNew (u2) _)
          obtain ⟨gA, hgA⟩ : ∃ g, g = (u2).heap.size := ⟨_, rfl⟩
          have n7 : ((u2).alloc (.cells #[.int .i64 0, .int .i64 0, .string ⟨#[]⟩, .slice none 0 0] 49)).heap[gA]? = some (.cells #[.int .i64 0, .int .i64 0, .string ⟨#[]⟩, .slice none 0 0] 49) := by rw [hgA]; exact heap_alloc_new _ _
          have lA : w6.heap.size ≤ gA := by rw [hgA]; exact h1.size
          have v8 := World.ownsRow.alloc v4 (.cells #[.int .i64 0, .int .i64 0, .string ⟨#[]⟩, .slice none 0 0] 49)
          (try rw [show (u2).heap.size = gA from hgA.symm])
          try simp only [Act.put, List.getElem_toArray, List.getElem_cons_succ, List.getElem_cons_zero, List.setIfInBounds_toArray, List.set_cons_zero, List.set_cons_succ]
          generalize (u2).alloc (.cells #[.int .i64 0, .int .i64 0, .string ⟨#[]⟩, .slice none 0 0] 49) = W6 at h5 n7 v8 ⊢
          clear hgA
          refine wpAnyH_ready (rs := [11]) (by kernel_rfl) (by simp) ?_
          refine AllReadyH.cons rfl (fun K hK => ?_) AllReadyH.nil
          go_simp
          refine hK.out _ _ ?_ (fun h9 => ?_)
          · exact bel6 h5 (belNew (W6) _)
          obtain ⟨gB, hgB⟩ : ∃ g, g = (W6).heap.size := ⟨_, rfl⟩
          have n11 : ((W6).alloc (.cells #[.string ⟨#[]⟩, .string ⟨#[]⟩, .int .i64 0, .bool false] 112)).heap[gB]? = some (.cells #[.string ⟨#[]⟩, .string ⟨#[]⟩, .int .i64 0, .bool false] 112) := by rw [hgB]; exact heap_alloc_new _ _
          have lB : w6.heap.size ≤ gB := by rw [hgB]; exact h5.size
          have hne : gA ≠ gB := by have := heap_lt n7; omega
          have n12 := (Below.heap_alloc (W6) (.cells #[.string ⟨#[]⟩, .string ⟨#[]⟩, .int .i64 0, .bool false] 112) _ (heap_lt n7)).trans n7
          have v13 := World.ownsRow.alloc v8 (.cells #[.string ⟨#[]⟩, .string ⟨#[]⟩, .int .i64 0, .bool false] 112)
          (try rw [show (W6).heap.size = gB from hgB.symm])
          try simp only [Act.put, List.getElem_toArray, List.getElem_cons_succ, List.getElem_cons_zero, List.setIfInBounds_toArray, List.set_cons_zero, List.set_cons_succ]
          generalize (W6).alloc (.cells #[.string ⟨#[]⟩, .string ⟨#[]⟩, .int .i64 0, .bool false] 112) = W10 at h9 n12 n11 v13 ⊢
          clear hgB
          refine wpAnyH_ready (rs := [12]) (by kernel_rfl) (by simp) ?_
          refine AllReadyH.cons rfl (fun K hK => ?_) AllReadyH.nil
          obtain ⟨x0, x1, x2, x3, y0, y1, y2, y3⟩ := KV.four n12
          go_simp
          refine hK.out _ _ ?_ (fun h14 => ?_)
          · exact KV.put4_below h9 lA (.int .i64 (KV.planK S o).1.code) (.int .i64 (KV.planK S o).1.rev) (.string (KV.planK S o).1.val) (.slice aI (KV.planK S o).1.its.length cI)
          have n16 := KV.put4_at n12 (.int .i64 (KV.planK S o).1.code) (.int .i64 (KV.planK S o).1.rev) (.string (KV.planK S o).1.val) (.slice aI (KV.planK S o).1.its.length cI)
          have n17 := (KV.put4_ne (W := W10) (g := gA) (by omega) (.int .i64 (KV.planK S o).1.code) (.int .i64 (KV.planK S o).1.rev) (.string (KV.planK S o).1.val) (.slice aI (KV.planK S o).1.its.length cI)).trans n11
          have v18 := KV.put4_row v13 n12 (by decide) (.int .i64 (KV.planK S o).1.code) (.int .i64 (KV.planK S o).1.rev) (.string (KV.planK S o).1.val) (.slice aI (KV.planK S o).1.its.length cI)
          unfold KV.put4 at n16 n17 v18
          try simp only [Act.put, List.getElem_toArray, List.getElem_cons_succ, List.getElem_cons_zero, List.setIfInBounds_toArray, List.set_cons_zero, List.set_cons_succ]
          clear x0 x1 x2 x3 y0 y1 y2 y3
          generalize ((((W10).setCell ⟨gA, 0, none⟩ (.int .i64 (KV.planK S o).1.code)).setCell ⟨gA, 1, none⟩ (.int .i64 (KV.planK S o).1.rev)).setCell ⟨gA, 2, none⟩ (.string (KV.planK S o).1.val)).setCell ⟨gA, 3, none⟩ (.slice aI (KV.planK S o).1.its.length cI) = W15 at h14 n16 n17 v18 ⊢
          refine wpAnyH_ready (rs := [13]) (by kernel_rfl) (by simp) ?_
          refine AllReadyH.cons rfl (fun K hK => ?_) AllReadyH.nil
          obtain ⟨x0, x1, x2, x3, y0, y1, y2, y3⟩ := KV.four n17
          go_simp
          refine hK.out _ _ ?_ (fun h19 => ?_)
          · exact KV.put4_below h14 lB (.string (KV.planK S o).2.1.key) (.string (KV.planK S o).2.1.val) (.int .i64 (KV.planK S o).2.1.rev) (.bool (KV.planK S o).2.1.gone)
          have n21 := KV.put4_at n17 (.string (KV.planK S o).2.1.key) (.string (KV.planK S o).2.1.val) (.int .i64 (KV.planK S o).2.1.rev) (.bool (KV.planK S o).2.1.gone)
          have n22 := (KV.put4_ne (W := W15) (g := gB) (by omega) (.string (KV.planK S o).2.1.key) (.string (KV.planK S o).2.1.val) (.int .i64 (KV.planK S o).2.1.rev) (.bool (KV.planK S o).2.1.gone)).trans n16
          have v23 := KV.put4_row v18 n17 (by decide) (.string (KV.planK S o).2.1.key) (.string (KV.planK S o).2.1.val) (.int .i64 (KV.planK S o).2.1.rev) (.bool (KV.planK S o).2.1.gone)
          unfold KV.put4 at n21 n22 v23
          try simp only [Act.put, List.getElem_toArray, List.getElem_cons_succ, List.getElem_cons_zero, List.setIfInBounds_toArray, List.set_cons_zero, List.set_cons_succ]
          clear x0 x1 x2 x3 y0 y1 y2 y3
          generalize ((((W15).setCell ⟨gB, 0, none⟩ (.string (KV.planK S o).2.1.key)).setCell ⟨gB, 1, none⟩ (.string (KV.planK S o).2.1.val)).setCell ⟨gB, 2, none⟩ (.int .i64 (KV.planK S o).2.1.rev)).setCell ⟨gB, 3, none⟩ (.bool (KV.planK S o).2.1.gone) = W20 at h19 n21 n22 v23 ⊢
          refine wpAnyH_take (i := 14) (v := ?_) rfl (by kernel_rfl) (by kernel_rfl) (by kernel_rfl) (fun _ _ _ h => h) (Or.inl ⟨by rfl, ?_⟩) (by assumption) ?_
          rotate_left
          · intro wS hSw
            (try dsimp only at hSw)
            go_simp
            first | done | with_reducible rfl
          try simp only [Act.put, List.getElem_toArray, List.getElem_cons_succ, List.getElem_cons_zero, List.setIfInBounds_toArray, List.set_cons_zero, List.set_cons_succ]
          refine wpAnyH_done (by kernel_rfl) ?_ _
          (try go_wp2_with fail)
          go_meet
          exact ⟨gA, gB, aI, cI, rfl, rfl, rfl, Lib.hid ⟨n22, n21, v23, h19, lA, lB⟩⟩
        · go_simp
          refine hK.out _ _ ?_ (fun h24 => ?_)
          · exact bel6 h1 (belNew (u2) _)
          obtain ⟨gB, hgB⟩ : ∃ g, g = (u2).heap.size := ⟨_, rfl⟩
          have n26 : ((u2).alloc (.cells #[.string ⟨#[]⟩, .string ⟨#[]⟩, .int .i64 0, .bool false] 112)).heap[gB]? = some (.cells #[.string ⟨#[]⟩, .string ⟨#[]⟩, .int .i64 0, .bool false] 112) := by rw [hgB]; exact heap_alloc_new _ _
          have lB : w6.heap.size ≤ gB := by rw [hgB]; exact h1.size
          have v27 := World.ownsRow.alloc v4 (.cells #[.string ⟨#[]⟩, .string ⟨#[]⟩, .int .i64 0, .bool false] 112)
          (try rw [show (u2).heap.size = gB from hgB.symm])
          try simp only [Act.put, List.getElem_toArray, List.getElem_cons_succ, List.getElem_cons_zero, List.setIfInBounds_toArray, List.set_cons_zero, List.set_cons_succ]
          generalize (u2).alloc (.cells #[.string ⟨#[]⟩, .string ⟨#[]⟩, .int .i64 0, .bool false] 112) = W25 at h24 n26 v27 ⊢
          clear hgB
          refine wpAnyH_ready (rs := [10]) (by kernel_rfl) (by simp) ?_
          refine AllReadyH.cons rfl (fun K hK => ?_) AllReadyH.nil
          go_simp
          refine hK.out _ _ ?_ (fun h28 => ?_)
          · exact bel6 h24 (belNew (W25) _)
          obtain ⟨gA, hgA⟩ : ∃ g, g = (W25).heap.size := ⟨_, rfl⟩
          have n30 : ((W25).alloc (.cells #[.int .i64 0, .int .i64 0, .string ⟨#[]⟩, .slice none 0 0] 49)).heap[gA]? = some (.cells #[.int .i64 0, .int .i64 0, .string ⟨#[]⟩, .slice none 0 0] 49) := by rw [hgA]; exact heap_alloc_new _ _
          have lA : w6.heap.size ≤ gA := by rw [hgA]; exact h24.size
          have hne : gA ≠ gB := by have := heap_lt n26; omega
          have n31 := (Below.heap_alloc (W25) (.cells #[.int .i64 0, .int .i64 0, .string ⟨#[]⟩, .slice none 0 0] 49) _ (heap_lt n26)).trans n26
          have v32 := World.ownsRow.alloc v27 (.cells #[.int .i64 0, .int .i64 0, .string ⟨#[]⟩, .slice none 0 0] 49)
          (try rw [show (W25).heap.size = gA from hgA.symm])
          try simp only [Act.put, List.getElem_toArray, List.getElem_cons_succ, List.getElem_cons_zero, List.setIfInBounds_toArray, List.set_cons_zero, List.set_cons_succ]
          generalize (W25).alloc (.cells #[.int .i64 0, .int .i64 0, .string ⟨#[]⟩, .slice none 0 0] 49) = W29 at h28 n30 n31 v32 ⊢
          clear hgA
          refine wpAnyH_ready (rs := [12]) (by kernel_rfl) (by simp) ?_
          refine AllReadyH.cons rfl (fun K hK => ?_) AllReadyH.nil
          obtain ⟨x0, x1, x2, x3, y0, y1, y2, y3⟩ := KV.four n30
          go_simp
          refine hK.out _ _ ?_ (fun h33 => ?_)
          · exact KV.put4_below h28 lA (.int .i64 (KV.planK S o).1.code) (.int .i64 (KV.planK S o).1.rev) (.string (KV.planK S o).1.val) (.slice aI (KV.planK S o).1.its.length cI)
          have n35 := KV.put4_at n30 (.int .i64 (KV.planK S o).1.code) (.int .i64 (KV.planK S o).1.rev) (.string (KV.planK S o).1.val) (.slice aI (KV.planK S o).1.its.length cI)
          have n36 := (KV.put4_ne (W := W29) (g := gA) (by omega) (.int .i64 (KV.planK S o).1.code) (.int .i64 (KV.planK S o).1.rev) (.string (KV.planK S o).1.val) (.slice aI (KV.planK S o).1.its.length cI)).trans n31
          have v37 := KV.put4_row v32 n30 (by decide) (.int .i64 (KV.planK S o).1.code) (.int .i64 (KV.planK S o).1.rev) (.string (KV.planK S o).1.val) (.slice aI (KV.planK S o).1.its.length cI)
          unfold KV.put4 at n35 n36 v37
          try simp only [Act.put, List.getElem_toArray, List.getElem_cons_succ, List.getElem_cons_zero, List.setIfInBounds_toArray, List.set_cons_zero, List.set_cons_succ]
          clear x0 x1 x2 x3 y0 y1 y2 y3
          generalize ((((W29).setCell ⟨gA, 0, none⟩ (.int .i64 (KV.planK S o).1.code)).setCell ⟨gA, 1, none⟩ (.int .i64 (KV.planK S o).1.rev)).setCell ⟨gA, 2, none⟩ (.string (KV.planK S o).1.val)).setCell ⟨gA, 3, none⟩ (.slice aI (KV.planK S o).1.its.length cI) = W34 at h33 n35 n36 v37 ⊢
          refine wpAnyH_ready (rs := [13]) (by kernel_rfl) (by simp) ?_
          refine AllReadyH.cons rfl (fun K hK => ?_) AllReadyH.nil
          obtain ⟨x0, x1, x2, x3, y0, y1, y2, y3⟩ := KV.four n36
          go_simp
          refine hK.out _ _ ?_ (fun h38 => ?_)
          · exact KV.put4_below h33 lB (.string (KV.planK S o).2.1.key) (.string (KV.planK S o).2.1.val) (.int .i64 (KV.planK S o).2.1.rev) (.bool (KV.planK S o).2.1.gone)
          have n40 := KV.put4_at n36 (.string (KV.planK S o).2.1.key) (.string (KV.planK S o).2.1.val) (.int .i64 (KV.planK S o).2.1.rev) (.bool (KV.planK S o).2.1.gone)
          have n41 := (KV.put4_ne (W := W34) (g := gB) (by omega) (.string (KV.planK S o).2.1.key) (.string (KV.planK S o).2.1.val) (.int .i64 (KV.planK S o).2.1.rev) (.bool (KV.planK S o).2.1.gone)).trans n35
          have v42 := KV.put4_row v37 n36 (by decide) (.string (KV.planK S o).2.1.key) (.string (KV.planK S o).2.1.val) (.int .i64 (KV.planK S o).2.1.rev) (.bool (KV.planK S o).2.1.gone)
          unfold KV.put4 at n40 n41 v42
          try simp only [Act.put, List.getElem_toArray, List.getElem_cons_succ, List.getElem_cons_zero, List.setIfInBounds_toArray, List.set_cons_zero, List.set_cons_succ]
          clear x0 x1 x2 x3 y0 y1 y2 y3
          generalize ((((W34).setCell ⟨gB, 0, none⟩ (.string (KV.planK S o).2.1.key)).setCell ⟨gB, 1, none⟩ (.string (KV.planK S o).2.1.val)).setCell ⟨gB, 2, none⟩ (.int .i64 (KV.planK S o).2.1.rev)).setCell ⟨gB, 3, none⟩ (.bool (KV.planK S o).2.1.gone) = W39 at h38 n40 n41 v42 ⊢
          refine wpAnyH_take (i := 14) (v := ?_) rfl (by kernel_rfl) (by kernel_rfl) (by kernel_rfl) (fun _ _ _ h => h) (Or.inl ⟨by rfl, ?_⟩) (by assumption) ?_
          rotate_left
          · intro wS hSw
            (try dsimp only at hSw)
            go_simp
            first | done | with_reducible rfl
          try simp only [Act.put, List.getElem_toArray, List.getElem_cons_succ, List.getElem_cons_zero, List.setIfInBounds_toArray, List.set_cons_zero, List.set_cons_succ]
          refine wpAnyH_done (by kernel_rfl) ?_ _
          (try go_wp2_with fail)
          go_meet
          exact ⟨gA, gB, aI, cI, rfl, rfl, rfl, Lib.hid ⟨n41, n40, v42, h38, lA, lB⟩⟩
      · go_simp
        refine hK.out _ _ ?_ (fun h43 => ?_)
        · exact bel6 hS0 (belNew (Wd) _)
        obtain ⟨gA, hgA⟩ : ∃ g, g = (Wd).heap.size := ⟨_, rfl⟩
        have n45 : ((Wd).alloc (.cells #[.int .i64 0, .int .i64 0, .string ⟨#[]⟩, .slice none 0 0] 49)).heap[gA]? = some (.cells #[.int .i64 0, .int .i64 0, .string ⟨#[]⟩, .slice none 0 0] 49) := by rw [hgA]; exact heap_alloc_new _ _
        have lA : w6.heap.size ≤ gA := by rw [hgA]; exact hS0.size
        (try rw [show (Wd).heap.size = gA from hgA.symm])
        try simp only [Act.put, List.getElem_toArray, List.getElem_cons_succ, List.getElem_cons_zero, List.setIfInBounds_toArray, List.set_cons_zero, List.set_cons_succ]
        generalize (Wd).alloc (.cells #[.int .i64 0, .int .i64 0, .string ⟨#[]⟩, .slice none 0 0] 49) = W44 at h43 n45 ⊢
        clear hgA
        refine wpAnyH_ready (rs := [5, 11]) (by kernel_rfl) (by simp) ?_
        refine AllReadyH.cons rfl (fun K hK => ?_) (AllReadyH.cons rfl (fun K hK => ?_) AllReadyH.nil)
        · go_simp
          refine (HPL.out (W44) h43).mono ?_; rintro _ u47 ⟨vI, rfl, hvI, b48⟩
          obtain ⟨aI, cI, rfl⟩ := rowForm hvI
          refine hK.out _ _ ?_ (fun h46 => ?_)
          · exact bel6 h43 b48
          have n49 := (b48.block _ (heap_lt n45)).trans n45
          have v50 : KV.RowI u47 w6.heap.size (.slice aI (KV.planK S o).1.its.length cI) (KV.planK S o).1.its := rowMono hvI h43.size
          try simp only [Act.put, List.getElem_toArray, List.getElem_cons_succ, List.getElem_cons_zero, List.setIfInBounds_toArray, List.set_cons_zero, List.set_cons_succ]
          refine wpAnyH_take (i := 6) (v := ?_) rfl (by kernel_rfl) (by kernel_rfl) (by kernel_rfl) (fun _ _ _ h => h) (Or.inl ⟨by rfl, ?_⟩) (by assumption) ?_
          rotate_left
          · intro wS hSw
            (try dsimp only at hSw)
            go_simp
            first | done | with_reducible rfl
          try simp only [Act.put, List.getElem_toArray, List.getElem_cons_succ, List.getElem_cons_zero, List.setIfInBounds_toArray, List.set_cons_zero, List.set_cons_succ]
          refine wpAnyH_take (i := 7) (v := ?_) rfl (by kernel_rfl) (by kernel_rfl) (by kernel_rfl) (fun _ _ _ h => h) (Or.inl ⟨by rfl, ?_⟩) (by assumption) ?_
          rotate_left
          · intro wS hSw
            (try dsimp only at hSw)
            go_simp
            first | done | with_reducible rfl
          try simp only [Act.put, List.getElem_toArray, List.getElem_cons_succ, List.getElem_cons_zero, List.setIfInBounds_toArray, List.set_cons_zero, List.set_cons_succ]
          refine wpAnyH_take (i := 8) (v := ?_) rfl (by kernel_rfl) (by kernel_rfl) (by kernel_rfl) (fun _ _ _ h => h) (Or.inl ⟨by rfl, ?_⟩) (by assumption) ?_
          rotate_left
          · intro wS hSw
            (try dsimp only at hSw)
            go_simp
            first | done | with_reducible rfl
          try simp only [Act.put, List.getElem_toArray, List.getElem_cons_succ, List.getElem_cons_zero, List.setIfInBounds_toArray, List.set_cons_zero, List.set_cons_succ]
          refine wpAnyH_take (i := 9) (v := ?_) rfl (by kernel_rfl) (by kernel_rfl) (by kernel_rfl) (fun _ _ _ h => h) (Or.inl ⟨by rfl, ?_⟩) (by assumption) ?_
          rotate_left
          · intro wS hSw
            (try dsimp only at hSw)
            go_simp
            first | done | with_reducible rfl
          try simp only [Act.put, List.getElem_toArray, List.getElem_cons_succ, List.getElem_cons_zero, List.setIfInBounds_toArray, List.set_cons_zero, List.set_cons_succ]
          refine wpAnyH_ready (rs := [11]) (by kernel_rfl) (by simp) ?_
          refine AllReadyH.cons rfl (fun K hK => ?_) AllReadyH.nil
          go_simp
          refine hK.out _ _ ?_ (fun h51 => ?_)
          · exact bel6 h46 (belNew (u47) _)
          obtain ⟨gB, hgB⟩ : ∃ g, g = (u47).heap.size := ⟨_, rfl⟩
          have n53 : ((u47).alloc (.cells #[.string ⟨#[]⟩, .string ⟨#[]⟩, .int .i64 0, .bool false] 112)).heap[gB]? = some (.cells #[.string ⟨#[]⟩, .string ⟨#[]⟩, .int .i64 0, .bool false] 112) := by rw [hgB]; exact heap_alloc_new _ _
          have lB : w6.heap.size ≤ gB := by rw [hgB]; exact h46.size
          have hne : gA ≠ gB := by have := heap_lt n49; omega
          have n54 := (Below.heap_alloc (u47) (.cells #[.string ⟨#[]⟩, .string ⟨#[]⟩, .int .i64 0, .bool false] 112) _ (heap_lt n49)).trans n49
          have v55 := World.ownsRow.alloc v50 (.cells #[.string ⟨#[]⟩, .string ⟨#[]⟩, .int .i64 0, .bool false] 112)
          (try rw [show (u47).heap.size = gB from hgB.symm])
          try simp only [Act.put, List.getElem_toArray, List.getElem_cons_succ, List.getElem_cons_zero, List.setIfInBounds_toArray, List.set_cons_zero, List.set_cons_succ]
          generalize (u47).alloc (.cells #[.string ⟨#[]⟩, .string ⟨#[]⟩, .int .i64 0, .bool false] 112) = W52 at h51 n54 n53 v55 ⊢
          clear hgB
          refine wpAnyH_ready (rs := [12]) (by kernel_rfl) (by simp) ?_
          refine AllReadyH.cons rfl (fun K hK => ?_) AllReadyH.nil
          obtain ⟨x0, x1, x2, x3, y0, y1, y2, y3⟩ := KV.four n54
          go_simp
          refine hK.out _ _ ?_ (fun h56 => ?_)
          · exact KV.put4_below h51 lA (.int .i64 (KV.planK S o).1.code) (.int .i64 (KV.planK S o).1.rev) (.string (KV.planK S o).1.val) (.slice aI (KV.planK S o).1.its.length cI)
          have n58 := KV.put4_at n54 (.int .i64 (KV.planK S o).1.code) (.int .i64 (KV.planK S o).1.rev) (.string (KV.planK S o).1.val) (.slice aI (KV.planK S o).1.its.length cI)
          have n59 := (KV.put4_ne (W := W52) (g := gA) (by omega) (.int .i64 (KV.planK S o).1.code) (.int .i64 (KV.planK S o).1.rev) (.string (KV.planK S o).1.val) (.slice aI (KV.planK S o).1.its.length cI)).trans n53
          have v60 := KV.put4_row v55 n54 (by decide) (.int .i64 (KV.planK S o).1.code) (.int .i64 (KV.planK S o).1.rev) (.string (KV.planK S o).1.val) (.slice aI (KV.planK S o).1.its.length cI)
          unfold KV.put4 at n58 n59 v60
          try simp only [Act.put, List.getElem_toArray, List.getElem_cons_succ, List.getElem_cons_zero, List.setIfInBounds_toArray, List.set_cons_zero, List.set_cons_succ]
          clear x0 x1 x2 x3 y0 y1 y2 y3
          generalize ((((W52).setCell ⟨gA, 0, none⟩ (.int .i64 (KV.planK S o).1.code)).setCell ⟨gA, 1, none⟩ (.int .i64 (KV.planK S o).1.rev)).setCell ⟨gA, 2, none⟩ (.string (KV.planK S o).1.val)).setCell ⟨gA, 3, none⟩ (.slice aI (KV.planK S o).1.its.length cI) = W57 at h56 n58 n59 v60 ⊢
          refine wpAnyH_ready (rs := [13]) (by kernel_rfl) (by simp) ?_
          refine AllReadyH.cons rfl (fun K hK => ?_) AllReadyH.nil
          obtain ⟨x0, x1, x2, x3, y0, y1, y2, y3⟩ := KV.four n59
          go_simp
          refine hK.out _ _ ?_ (fun h61 => ?_)
          · exact KV.put4_below h56 lB (.string (KV.planK S o).2.1.key) (.string (KV.planK S o).2.1.val) (.int .i64 (KV.planK S o).2.1.rev) (.bool (KV.planK S o).2.1.gone)
          have n63 := KV.put4_at n59 (.string (KV.planK S o).2.1.key) (.string (KV.planK S o).2.1.val) (.int .i64 (KV.planK S o).2.1.rev) (.bool (KV.planK S o).2.1.gone)
          have n64 := (KV.put4_ne (W := W57) (g := gB) (by omega) (.string (KV.planK S o).2.1.key) (.string (KV.planK S o).2.1.val) (.int .i64 (KV.planK S o).2.1.rev) (.bool (KV.planK S o).2.1.gone)).trans n58
          have v65 := KV.put4_row v60 n59 (by decide) (.string (KV.planK S o).2.1.key) (.string (KV.planK S o).2.1.val) (.int .i64 (KV.planK S o).2.1.rev) (.bool (KV.planK S o).2.1.gone)
          unfold KV.put4 at n63 n64 v65
          try simp only [Act.put, List.getElem_toArray, List.getElem_cons_succ, List.getElem_cons_zero, List.setIfInBounds_toArray, List.set_cons_zero, List.set_cons_succ]
          clear x0 x1 x2 x3 y0 y1 y2 y3
          generalize ((((W57).setCell ⟨gB, 0, none⟩ (.string (KV.planK S o).2.1.key)).setCell ⟨gB, 1, none⟩ (.string (KV.planK S o).2.1.val)).setCell ⟨gB, 2, none⟩ (.int .i64 (KV.planK S o).2.1.rev)).setCell ⟨gB, 3, none⟩ (.bool (KV.planK S o).2.1.gone) = W62 at h61 n63 n64 v65 ⊢
          refine wpAnyH_take (i := 14) (v := ?_) rfl (by kernel_rfl) (by kernel_rfl) (by kernel_rfl) (fun _ _ _ h => h) (Or.inl ⟨by rfl, ?_⟩) (by assumption) ?_
          rotate_left
          · intro wS hSw
            (try dsimp only at hSw)
            go_simp
            first | done | with_reducible rfl
          try simp only [Act.put, List.getElem_toArray, List.getElem_cons_succ, List.getElem_cons_zero, List.setIfInBounds_toArray, List.set_cons_zero, List.set_cons_succ]
          refine wpAnyH_done (by kernel_rfl) ?_ _
          (try go_wp2_with fail)
          go_meet
          exact ⟨gA, gB, aI, cI, rfl, rfl, rfl, Lib.hid ⟨n64, n63, v65, h61, lA, lB⟩⟩
        · go_simp
          refine hK.out _ _ ?_ (fun h66 => ?_)
          · exact bel6 h43 (belNew (W44) _)
          obtain ⟨gB, hgB⟩ : ∃ g, g = (W44).heap.size := ⟨_, rfl⟩
          have n68 : ((W44).alloc (.cells #[.string ⟨#[]⟩, .string ⟨#[]⟩, .int .i64 0, .bool false] 112)).heap[gB]? = some (.cells #[.string ⟨#[]⟩, .string ⟨#[]⟩, .int .i64 0, .bool false] 112) := by rw [hgB]; exact heap_alloc_new _ _
          have lB : w6.heap.size ≤ gB := by rw [hgB]; exact h43.size
          have hne : gA ≠ gB := by have := heap_lt n45; omega
          have n69 := (Below.heap_alloc (W44) (.cells #[.string ⟨#[]⟩, .string ⟨#[]⟩, .int .i64 0, .bool false] 112) _ (heap_lt n45)).trans n45
          (try rw [show (W44).heap.size = gB from hgB.symm])
          try simp only [Act.put, List.getElem_toArray, List.getElem_cons_succ, List.getElem_cons_zero, List.setIfInBounds_toArray, List.set_cons_zero, List.set_cons_succ]
          generalize (W44).alloc (.cells #[.string ⟨#[]⟩, .string ⟨#[]⟩, .int .i64 0, .bool false] 112) = W67 at h66 n69 n68 ⊢
          clear hgB
          refine wpAnyH_ready (rs := [5]) (by kernel_rfl) (by simp) ?_
          refine AllReadyH.cons rfl (fun K hK => ?_) AllReadyH.nil
          go_simp
          refine (HPL.out (W67) h66).mono ?_; rintro _ u71 ⟨vI, rfl, hvI, b72⟩
          obtain ⟨aI, cI, rfl⟩ := rowForm hvI
          refine hK.out _ _ ?_ (fun h70 => ?_)
          · exact bel6 h66 b72
          have n73 := (b72.block _ (heap_lt n69)).trans n69
          have n74 := (b72.block _ (heap_lt n68)).trans n68
          have v75 : KV.RowI u71 w6.heap.size (.slice aI (KV.planK S o).1.its.length cI) (KV.planK S o).1.its := rowMono hvI h66.size
          try simp only [Act.put, List.getElem_toArray, List.getElem_cons_succ, List.getElem_cons_zero, List.setIfInBounds_toArray, List.set_cons_zero, List.set_cons_succ]
          refine wpAnyH_take (i := 6) (v := ?_) rfl (by kernel_rfl) (by kernel_rfl) (by kernel_rfl) (fun _ _ _ h => h) (Or.inl ⟨by rfl, ?_⟩) (by assumption) ?_
          rotate_left
          · intro wS hSw
            (try dsimp only at hSw)
            go_simp
            first | done | with_reducible rfl
          try simp only [Act.put, List.getElem_toArray, List.getElem_cons_succ, List.getElem_cons_zero, List.setIfInBounds_toArray, List.set_cons_zero, List.set_cons_succ]
          refine wpAnyH_take (i := 7) (v := ?_) rfl (by kernel_rfl) (by kernel_rfl) (by kernel_rfl) (fun _ _ _ h => h) (Or.inl ⟨by rfl, ?_⟩) (by assumption) ?_
          rotate_left
          · intro wS hSw
            (try dsimp only at hSw)
            go_simp
            first | done | with_reducible rfl
          try simp only [Act.put, List.getElem_toArray, List.getElem_cons_succ, List.getElem_cons_zero, List.setIfInBounds_toArray, List.set_cons_zero, List.set_cons_succ]
          refine wpAnyH_take (i := 8) (v := ?_) rfl (by kernel_rfl) (by kernel_rfl) (by kernel_rfl) (fun _ _ _ h => h) (Or.inl ⟨by rfl, ?_⟩) (by assumption) ?_
          rotate_left
          · intro wS hSw
            (try dsimp only at hSw)
            go_simp
            first | done | with_reducible rfl
          try simp only [Act.put, List.getElem_toArray, List.getElem_cons_succ, List.getElem_cons_zero, List.setIfInBounds_toArray, List.set_cons_zero, List.set_cons_succ]
          refine wpAnyH_take (i := 9) (v := ?_) rfl (by kernel_rfl) (by kernel_rfl) (by kernel_rfl) (fun _ _ _ h => h) (Or.inl ⟨by rfl, ?_⟩) (by assumption) ?_
          rotate_left
          · intro wS hSw
            (try dsimp only at hSw)
            go_simp
            first | done | with_reducible rfl
          try simp only [Act.put, List.getElem_toArray, List.getElem_cons_succ, List.getElem_cons_zero, List.setIfInBounds_toArray, List.set_cons_zero, List.set_cons_succ]
          refine wpAnyH_ready (rs := [12]) (by kernel_rfl) (by simp) ?_
          refine AllReadyH.cons rfl (fun K hK => ?_) AllReadyH.nil
          obtain ⟨x0, x1, x2, x3, y0, y1, y2, y3⟩ := KV.four n73
          go_simp
          refine hK.out _ _ ?_ (fun h76 => ?_)
          · exact KV.put4_below h70 lA (.int .i64 (KV.planK S o).1.code) (.int .i64 (KV.planK S o).1.rev) (.string (KV.planK S o).1.val) (.slice aI (KV.planK S o).1.its.length cI)
          have n78 := KV.put4_at n73 (.int .i64 (KV.planK S o).1.code) (.int .i64 (KV.planK S o).1.rev) (.string (KV.planK S o).1.val) (.slice aI (KV.planK S o).1.its.length cI)
          have n79 := (KV.put4_ne (W := u71) (g := gA) (by omega) (.int .i64 (KV.planK S o).1.code) (.int .i64 (KV.planK S o).1.rev) (.string (KV.planK S o).1.val) (.slice aI (KV.planK S o).1.its.length cI)).trans n74
          have v80 := KV.put4_row v75 n73 (by decide) (.int .i64 (KV.planK S o).1.code) (.int .i64 (KV.planK S o).1.rev) (.string (KV.planK S o).1.val) (.slice aI (KV.planK S o).1.its.length cI)
          unfold KV.put4 at n78 n79 v80
          try simp only [Act.put, List.getElem_toArray, List.getElem_cons_succ, List.getElem_cons_zero, List.setIfInBounds_toArray, List.set_cons_zero, List.set_cons_succ]
          clear x0 x1 x2 x3 y0 y1 y2 y3
          generalize ((((u71).setCell ⟨gA, 0, none⟩ (.int .i64 (KV.planK S o).1.code)).setCell ⟨gA, 1, none⟩ (.int .i64 (KV.planK S o).1.rev)).setCell ⟨gA, 2, none⟩ (.string (KV.planK S o).1.val)).setCell ⟨gA, 3, none⟩ (.slice aI (KV.planK S o).1.its.length cI) = W77 at h76 n78 n79 v80 ⊢
          refine wpAnyH_ready (rs := [13]) (by kernel_rfl) (by simp) ?_
          refine AllReadyH.cons rfl (fun K hK => ?_) AllReadyH.nil
          obtain ⟨x0, x1, x2, x3, y0, y1, y2, y3⟩ := KV.four n79
          go_simp
          refine hK.out _ _ ?_ (fun h81 => ?_)
          · exact KV.put4_below h76 lB (.string (KV.planK S o).2.1.key) (.string (KV.planK S o).2.1.val) (.int .i64 (KV.planK S o).2.1.rev) (.bool (KV.planK S o).2.1.gone)
          have n83 := KV.put4_at n79 (.string (KV.planK S o).2.1.key) (.string (KV.planK S o).2.1.val) (.int .i64 (KV.planK S o).2.1.rev) (.bool (KV.planK S o).2.1.gone)
          have n84 := (KV.put4_ne (W := W77) (g := gB) (by omega) (.string (KV.planK S o).2.1.key) (.string (KV.planK S o).2.1.val) (.int .i64 (KV.planK S o).2.1.rev) (.bool (KV.planK S o).2.1.gone)).trans n78
          have v85 := KV.put4_row v80 n79 (by decide) (.string (KV.planK S o).2.1.key) (.string (KV.planK S o).2.1.val) (.int .i64 (KV.planK S o).2.1.rev) (.bool (KV.planK S o).2.1.gone)
          unfold KV.put4 at n83 n84 v85
          try simp only [Act.put, List.getElem_toArray, List.getElem_cons_succ, List.getElem_cons_zero, List.setIfInBounds_toArray, List.set_cons_zero, List.set_cons_succ]
          clear x0 x1 x2 x3 y0 y1 y2 y3
          generalize ((((W77).setCell ⟨gB, 0, none⟩ (.string (KV.planK S o).2.1.key)).setCell ⟨gB, 1, none⟩ (.string (KV.planK S o).2.1.val)).setCell ⟨gB, 2, none⟩ (.int .i64 (KV.planK S o).2.1.rev)).setCell ⟨gB, 3, none⟩ (.bool (KV.planK S o).2.1.gone) = W82 at h81 n83 n84 v85 ⊢
          refine wpAnyH_take (i := 14) (v := ?_) rfl (by kernel_rfl) (by kernel_rfl) (by kernel_rfl) (fun _ _ _ h => h) (Or.inl ⟨by rfl, ?_⟩) (by assumption) ?_
          rotate_left
          · intro wS hSw
            (try dsimp only at hSw)
            go_simp
            first | done | with_reducible rfl
          try simp only [Act.put, List.getElem_toArray, List.getElem_cons_succ, List.getElem_cons_zero, List.setIfInBounds_toArray, List.set_cons_zero, List.set_cons_succ]
          refine wpAnyH_done (by kernel_rfl) ?_ _
          (try go_wp2_with fail)
          go_meet
          exact ⟨gA, gB, aI, cI, rfl, rfl, rfl, Lib.hid ⟨n84, n83, v85, h81, lA, lB⟩⟩
      · go_simp
        refine hK.out _ _ ?_ (fun h86 => ?_)
        · exact bel6 hS0 (belNew (Wd) _)
        obtain ⟨gB, hgB⟩ : ∃ g, g = (Wd).heap.size := ⟨_, rfl⟩
        have n88 : ((Wd).alloc (.cells #[.string ⟨#[]⟩, .string ⟨#[]⟩, .int .i64 0, .bool false] 112)).heap[gB]? = some (.cells #[.string ⟨#[]⟩, .string ⟨#[]⟩, .int .i64 0, .bool false] 112) := by rw [hgB]; exact heap_alloc_new _ _
        have lB : w6.heap.size ≤ gB := by rw [hgB]; exact hS0.size
        (try rw [show (Wd).heap.size = gB from hgB.symm])
        try simp only [Act.put, List.getElem_toArray, List.getElem_cons_succ, List.getElem_cons_zero, List.setIfInBounds_toArray, List.set_cons_zero, List.set_cons_succ]
        generalize (Wd).alloc (.cells #[.string ⟨#[]⟩, .string ⟨#[]⟩, .int .i64 0, .bool false] 112) = W87 at h86 n88 ⊢
        clear hgB
        refine wpAnyH_ready (rs := [5, 10]) (by kernel_rfl) (by simp) ?_
        refine AllReadyH.cons rfl (fun K hK => ?_) (AllReadyH.cons rfl (fun K hK => ?_) AllReadyH.nil)
        · go_simp
          refine (HPL.out (W87) h86).mono ?_; rintro _ u90 ⟨vI, rfl, hvI, b91⟩
          obtain ⟨aI, cI, rfl⟩ := rowForm hvI
          refine hK.out _ _ ?_ (fun h89 => ?_)
          · exact bel6 h86 b91
          have n92 := (b91.block _ (heap_lt n88)).trans n88
          have v93 : KV.RowI u90 w6.heap.size (.slice aI (KV.planK S o).1.its.length cI) (KV.planK S o).1.its := rowMono hvI h86.size
          try simp only [Act.put, List.getElem_toArray, List.getElem_cons_succ, List.getElem_cons_zero, List.setIfInBounds_toArray, List.set_cons_zero, List.set_cons_succ]
          refine wpAnyH_take (i := 6) (v := ?_) rfl (by kernel_rfl) (by kernel_rfl) (by kernel_rfl) (fun _ _ _ h => h) (Or.inl ⟨by rfl, ?_⟩) (by assumption) ?_
          rotate_left
          · intro wS hSw
            (try dsimp only at hSw)
            go_simp
            first | done | with_reducible rfl
          try simp only [Act.put, List.getElem_toArray, List.getElem_cons_succ, List.getElem_cons_zero, List.setIfInBounds_toArray, List.set_cons_zero, List.set_cons_succ]
          refine wpAnyH_take (i := 7) (v := ?_) rfl (by kernel_rfl) (by kernel_rfl) (by kernel_rfl) (fun _ _ _ h => h) (Or.inl ⟨by rfl, ?_⟩) (by assumption) ?_
          rotate_left
          · intro wS hSw
            (try dsimp only at hSw)
            go_simp
            first | done | with_reducible rfl
          try simp only [Act.put, List.getElem_toArray, List.getElem_cons_succ, List.getElem_cons_zero, List.setIfInBounds_toArray, List.set_cons_zero, List.set_cons_succ]
          refine wpAnyH_take (i := 8) (v := ?_) rfl (by kernel_rfl) (by kernel_rfl) (by kernel_rfl) (fun _ _ _ h => h) (Or.inl ⟨by rfl, ?_⟩) (by assumption) ?_
          rotate_left
          · intro wS hSw
            (try dsimp only at hSw)
            go_simp
            first | done | with_reducible rfl
          try simp only [Act.put, List.getElem_toArray, List.getElem_cons_succ, List.getElem_cons_zero, List.setIfInBounds_toArray, List.set_cons_zero, List.set_cons_succ]
          refine wpAnyH_take (i := 9) (v := ?_) rfl (by kernel_rfl) (by kernel_rfl) (by kernel_rfl) (fun _ _ _ h => h) (Or.inl ⟨by rfl, ?_⟩) (by assumption) ?_
          rotate_left
          · intro wS hSw
            (try dsimp only at hSw)
            go_simp
            first | done | with_reducible rfl
          try simp only [Act.put, List.getElem_toArray, List.getElem_cons_succ, List.getElem_cons_zero, List.setIfInBounds_toArray, List.set_cons_zero, List.set_cons_succ]
          refine wpAnyH_ready (rs := [10]) (by kernel_rfl) (by simp) ?_
          refine AllReadyH.cons rfl (fun K hK => ?_) AllReadyH.nil
          go_simp
          refine hK.out _ _ ?_ (fun h94 => ?_)
          · exact bel6 h89 (belNew (u90) _)
          obtain ⟨gA, hgA⟩ : ∃ g, g = (u90).heap.size := ⟨_, rfl⟩
          have n96 : ((u90).alloc (.cells #[.int .i64 0, .int .i64 0, .string ⟨#[]⟩, .slice none 0 0] 49)).heap[gA]? = some (.cells #[.int .i64 0, .int .i64 0, .string ⟨#[]⟩, .slice none 0 0] 49) := by rw [hgA]; exact heap_alloc_new _ _
          have lA : w6.heap.size ≤ gA := by rw [hgA]; exact h89.size
          have hne : gA ≠ gB := by have := heap_lt n92; omega
          have n97 := (Below.heap_alloc (u90) (.cells #[.int .i64 0, .int .i64 0, .string ⟨#[]⟩, .slice none 0 0] 49) _ (heap_lt n92)).trans n92
          have v98 := World.ownsRow.alloc v93 (.cells #[.int .i64 0, .int .i64 0, .string ⟨#[]⟩, .slice none 0 0] 49)
          (try rw [show (u90).heap.size = gA from hgA.symm])
          try simp only [Act.put, List.getElem_toArray, List.getElem_cons_succ, List.getElem_cons_zero, List.setIfInBounds_toArray, List.set_cons_zero, List.set_cons_succ]
          generalize (u90).alloc (.cells #[.int .i64 0, .int .i64 0, .string ⟨#[]⟩, .slice none 0 0] 49) = W95 at h94 n96 n97 v98 ⊢
          clear hgA
          refine wpAnyH_ready (rs := [12]) (by kernel_rfl) (by simp) ?_
          refine AllReadyH.cons rfl (fun K hK => ?_) AllReadyH.nil
          obtain ⟨x0, x1, x2, x3, y0, y1, y2, y3⟩ := KV.four n96
          go_simp
          refine hK.out _ _ ?_ (fun h99 => ?_)
          · exact KV.put4_below h94 lA (.int .i64 (KV.planK S o).1.code) (.int .i64 (KV.planK S o).1.rev) (.string (KV.planK S o).1.val) (.slice aI (KV.planK S o).1.its.length cI)
          have n101 := KV.put4_at n96 (.int .i64 (KV.planK S o).1.code) (.int .i64 (KV.planK S o).1.rev) (.string (KV.planK S o).1.val) (.slice aI (KV.planK S o).1.its.length cI)
          have n102 := (KV.put4_ne (W := W95) (g := gA) (by omega) (.int .i64 (KV.planK S o).1.code) (.int .i64 (KV.planK S o).1.rev) (.string (KV.planK S o).1.val) (.slice aI (KV.planK S o).1.its.length cI)).trans n97
          have v103 := KV.put4_row v98 n96 (by decide) (.int .i64 (KV.planK S o).1.code) (.int .i64 (KV.planK S o).1.rev) (.string (KV.planK S o).1.val) (.slice aI (KV.planK S o).1.its.length cI)
          unfold KV.put4 at n101 n102 v103
          try simp only [Act.put, List.getElem_toArray, List.getElem_cons_succ, List.getElem_cons_zero, List.setIfInBounds_toArray, List.set_cons_zero, List.set_cons_succ]
          clear x0 x1 x2 x3 y0 y1 y2 y3
          generalize ((((W95).setCell ⟨gA, 0, none⟩ (.int .i64 (KV.planK S o).1.code)).setCell ⟨gA, 1, none⟩ (.int .i64 (KV.planK S o).1.rev)).setCell ⟨gA, 2, none⟩ (.string (KV.planK S o).1.val)).setCell ⟨gA, 3, none⟩ (.slice aI (KV.planK S o).1.its.length cI) = W100 at h99 n101 n102 v103 ⊢
          refine wpAnyH_ready (rs := [13]) (by kernel_rfl) (by simp) ?_
          refine AllReadyH.cons rfl (fun K hK => ?_) AllReadyH.nil
          obtain ⟨x0, x1, x2, x3, y0, y1, y2, y3⟩ := KV.four n102
          go_simp
          refine hK.out _ _ ?_ (fun h104 => ?_)
          · exact KV.put4_below h99 lB (.string (KV.planK S o).2.1.key) (.string (KV.planK S o).2.1.val) (.int .i64 (KV.planK S o).2.1.rev) (.bool (KV.planK S o).2.1.gone)
          have n106 := KV.put4_at n102 (.string (KV.planK S o).2.1.key) (.string (KV.planK S o).2.1.val) (.int .i64 (KV.planK S o).2.1.rev) (.bool (KV.planK S o).2.1.gone)
          have n107 := (KV.put4_ne (W := W100) (g := gB) (by omega) (.string (KV.planK S o).2.1.key) (.string (KV.planK S o).2.1.val) (.int .i64 (KV.planK S o).2.1.rev) (.bool (KV.planK S o).2.1.gone)).trans n101
          have v108 := KV.put4_row v103 n102 (by decide) (.string (KV.planK S o).2.1.key) (.string (KV.planK S o).2.1.val) (.int .i64 (KV.planK S o).2.1.rev) (.bool (KV.planK S o).2.1.gone)
          unfold KV.put4 at n106 n107 v108
          try simp only [Act.put, List.getElem_toArray, List.getElem_cons_succ, List.getElem_cons_zero, List.setIfInBounds_toArray, List.set_cons_zero, List.set_cons_succ]
          clear x0 x1 x2 x3 y0 y1 y2 y3
          generalize ((((W100).setCell ⟨gB, 0, none⟩ (.string (KV.planK S o).2.1.key)).setCell ⟨gB, 1, none⟩ (.string (KV.planK S o).2.1.val)).setCell ⟨gB, 2, none⟩ (.int .i64 (KV.planK S o).2.1.rev)).setCell ⟨gB, 3, none⟩ (.bool (KV.planK S o).2.1.gone) = W105 at h104 n106 n107 v108 ⊢
          refine wpAnyH_take (i := 14) (v := ?_) rfl (by kernel_rfl) (by kernel_rfl) (by kernel_rfl) (fun _ _ _ h => h) (Or.inl ⟨by rfl, ?_⟩) (by assumption) ?_
          rotate_left
          · intro wS hSw
            (try dsimp only at hSw)
            go_simp
            first | done | with_reducible rfl
          try simp only [Act.put, List.getElem_toArray, List.getElem_cons_succ, List.getElem_cons_zero, List.setIfInBounds_toArray, List.set_cons_zero, List.set_cons_succ]
          refine wpAnyH_done (by kernel_rfl) ?_ _
          (try go_wp2_with fail)
          go_meet
          exact ⟨gA, gB, aI, cI, rfl, rfl, rfl, Lib.hid ⟨n107, n106, v108, h104, lA, lB⟩⟩
        · go_simp
          refine hK.out _ _ ?_ (fun h109 => ?_)
          · exact bel6 h86 (belNew (W87) _)
          obtain ⟨gA, hgA⟩ : ∃ g, g = (W87).heap.size := ⟨_, rfl⟩
          have n111 : ((W87).alloc (.cells #[.int .i64 0, .int .i64 0, .string ⟨#[]⟩, .slice none 0 0] 49)).heap[gA]? = some (.cells #[.int .i64 0, .int .i64 0, .string ⟨#[]⟩, .slice none 0 0] 49) := by rw [hgA]; exact heap_alloc_new _ _
          have lA : w6.heap.size ≤ gA := by rw [hgA]; exact h86.size
          have hne : gA ≠ gB := by have := heap_lt n88; omega
          have n112 := (Below.heap_alloc (W87) (.cells #[.int .i64 0, .int .i64 0, .string ⟨#[]⟩, .slice none 0 0] 49) _ (heap_lt n88)).trans n88
          (try rw [show (W87).heap.size = gA from hgA.symm])
          try simp only [Act.put, List.getElem_toArray, List.getElem_cons_succ, List.getElem_cons_zero, List.setIfInBounds_toArray, List.set_cons_zero, List.set_cons_succ]
          generalize (W87).alloc (.cells #[.int .i64 0, .int .i64 0, .string ⟨#[]⟩, .slice none 0 0] 49) = W110 at h109 n111 n112 ⊢
          clear hgA
          refine wpAnyH_ready (rs := [5]) (by kernel_rfl) (by simp) ?_
          refine AllReadyH.cons rfl (fun K hK => ?_) AllReadyH.nil
          go_simp
          refine (HPL.out (W110) h109).mono ?_; rintro _ u114 ⟨vI, rfl, hvI, b115⟩
          obtain ⟨aI, cI, rfl⟩ := rowForm hvI
          refine hK.out _ _ ?_ (fun h113 => ?_)
          · exact bel6 h109 b115
          have n116 := (b115.block _ (heap_lt n111)).trans n111
          have n117 := (b115.block _ (heap_lt n112)).trans n112
          have v118 : KV.RowI u114 w6.heap.size (.slice aI (KV.planK S o).1.its.length cI) (KV.planK S o).1.its := rowMono hvI h109.size
          try simp only [Act.put, List.getElem_toArray, List.getElem_cons_succ, List.getElem_cons_zero, List.setIfInBounds_toArray, List.set_cons_zero, List.set_cons_succ]
          refine wpAnyH_take (i := 6) (v := ?_) rfl (by kernel_rfl) (by kernel_rfl) (by kernel_rfl) (fun _ _ _ h => h) (Or.inl ⟨by rfl, ?_⟩) (by assumption) ?_
          rotate_left
          · intro wS hSw
            (try dsimp only at hSw)
            go_simp
            first | done | with_reducible rfl
          try simp only [Act.put, List.getElem_toArray, List.getElem_cons_succ, List.getElem_cons_zero, List.setIfInBounds_toArray, List.set_cons_zero, List.set_cons_succ]
          refine wpAnyH_take (i := 7) (v := ?_) rfl (by kernel_rfl) (by kernel_rfl) (by kernel_rfl) (fun _ _ _ h => h) (Or.inl ⟨by rfl, ?_⟩) (by assumption) ?_
          rotate_left
          · intro wS hSw
            (try dsimp only at hSw)
            go_simp
            first | done | with_reducible rfl
          try simp only [Act.put, List.getElem_toArray, List.getElem_cons_succ, List.getElem_cons_zero, List.setIfInBounds_toArray, List.set_cons_zero, List.set_cons_succ]
          refine wpAnyH_take (i := 8) (v := ?_) rfl (by kernel_rfl) (by kernel_rfl) (by kernel_rfl) (fun _ _ _ h => h) (Or.inl ⟨by rfl, ?_⟩) (by assumption) ?_
          rotate_left
          · intro wS hSw
            (try dsimp only at hSw)
            go_simp
            first | done | with_reducible rfl
          try simp only [Act.put, List.getElem_toArray, List.getElem_cons_succ, List.getElem_cons_zero, List.setIfInBounds_toArray, List.set_cons_zero, List.set_cons_succ]
          refine wpAnyH_take (i := 9) (v := ?_) rfl (by kernel_rfl) (by kernel_rfl) (by kernel_rfl) (fun _ _ _ h => h) (Or.inl ⟨by rfl, ?_⟩) (by assumption) ?_
          rotate_left
          · intro wS hSw
            (try dsimp only at hSw)
            go_simp
            first | done | with_reducible rfl
          try simp only [Act.put, List.getElem_toArray, List.getElem_cons_succ, List.getElem_cons_zero, List.setIfInBounds_toArray, List.set_cons_zero, List.set_cons_succ]
          refine wpAnyH_ready (rs := [12]) (by kernel_rfl) (by simp) ?_
          refine AllReadyH.cons rfl (fun K hK => ?_) AllReadyH.nil
          obtain ⟨x0, x1, x2, x3, y0, y1, y2, y3⟩ := KV.four n116
          go_simp
          refine hK.out _ _ ?_ (fun h119 => ?_)
          · exact KV.put4_below h113 lA (.int .i64 (KV.planK S o).1.code) (.int .i64 (KV.planK S o).1.rev) (.string (KV.planK S o).1.val) (.slice aI (KV.planK S o).1.its.length cI)
          have n121 := KV.put4_at n116 (.int .i64 (KV.planK S o).1.code) (.int .i64 (KV.planK S o).1.rev) (.string (KV.planK S o).1.val) (.slice aI (KV.planK S o).1.its.length cI)
          have n122 := (KV.put4_ne (W := u114) (g := gA) (by omega) (.int .i64 (KV.planK S o).1.code) (.int .i64 (KV.planK S o).1.rev) (.string (KV.planK S o).1.val) (.slice aI (KV.planK S o).1.its.length cI)).trans n117
          have v123 := KV.put4_row v118 n116 (by decide) (.int .i64 (KV.planK S o).1.code) (.int .i64 (KV.planK S o).1.rev) (.string (KV.planK S o).1.val) (.slice aI (KV.planK S o).1.its.length cI)
          unfold KV.put4 at n121 n122 v123
          try simp only [Act.put, List.getElem_toArray, List.getElem_cons_succ, List.getElem_cons_zero, List.setIfInBounds_toArray, List.set_cons_zero, List.set_cons_succ]
          clear x0 x1 x2 x3 y0 y1 y2 y3
          generalize ((((u114).setCell ⟨gA, 0, none⟩ (.int .i64 (KV.planK S o).1.code)).setCell ⟨gA, 1, none⟩ (.int .i64 (KV.planK S o).1.rev)).setCell ⟨gA, 2, none⟩ (.string (KV.planK S o).1.val)).setCell ⟨gA, 3, none⟩ (.slice aI (KV.planK S o).1.its.length cI) = W120 at h119 n121 n122 v123 ⊢
          refine wpAnyH_ready (rs := [13]) (by kernel_rfl) (by simp) ?_
          refine AllReadyH.cons rfl (fun K hK => ?_) AllReadyH.nil
          obtain ⟨x0, x1, x2, x3, y0, y1, y2, y3⟩ := KV.four n122
          go_simp
          refine hK.out _ _ ?_ (fun h124 => ?_)
          · exact KV.put4_below h119 lB (.string (KV.planK S o).2.1.key) (.string (KV.planK S o).2.1.val) (.int .i64 (KV.planK S o).2.1.rev) (.bool (KV.planK S o).2.1.gone)
          have n126 := KV.put4_at n122 (.string (KV.planK S o).2.1.key) (.string (KV.planK S o).2.1.val) (.int .i64 (KV.planK S o).2.1.rev) (.bool (KV.planK S o).2.1.gone)
          have n127 := (KV.put4_ne (W := W120) (g := gB) (by omega) (.string (KV.planK S o).2.1.key) (.string (KV.planK S o).2.1.val) (.int .i64 (KV.planK S o).2.1.rev) (.bool (KV.planK S o).2.1.gone)).trans n121
          have v128 := KV.put4_row v123 n122 (by decide) (.string (KV.planK S o).2.1.key) (.string (KV.planK S o).2.1.val) (.int .i64 (KV.planK S o).2.1.rev) (.bool (KV.planK S o).2.1.gone)
          unfold KV.put4 at n126 n127 v128
          try simp only [Act.put, List.getElem_toArray, List.getElem_cons_succ, List.getElem_cons_zero, List.setIfInBounds_toArray, List.set_cons_zero, List.set_cons_succ]
          clear x0 x1 x2 x3 y0 y1 y2 y3
          generalize ((((W120).setCell ⟨gB, 0, none⟩ (.string (KV.planK S o).2.1.key)).setCell ⟨gB, 1, none⟩ (.string (KV.planK S o).2.1.val)).setCell ⟨gB, 2, none⟩ (.int .i64 (KV.planK S o).2.1.rev)).setCell ⟨gB, 3, none⟩ (.bool (KV.planK S o).2.1.gone) = W125 at h124 n126 n127 v128 ⊢
          refine wpAnyH_take (i := 14) (v := ?_) rfl (by kernel_rfl) (by kernel_rfl) (by kernel_rfl) (fun _ _ _ h => h) (Or.inl ⟨by rfl, ?_⟩) (by assumption) ?_
          rotate_left
          · intro wS hSw
            (try dsimp only at hSw)
            go_simp
            first | done | with_reducible rfl
          try simp only [Act.put, List.getElem_toArray, List.getElem_cons_succ, List.getElem_cons_zero, List.setIfInBounds_toArray, List.set_cons_zero, List.set_cons_succ]
          refine wpAnyH_done (by kernel_rfl) ?_ _
          (try go_wp2_with fail)
          go_meet
          exact ⟨gA, gB, aI, cI, rfl, rfl, rfl, Lib.hid ⟨n127, n126, v128, h124, lA, lB⟩⟩
    case rest =>
      obtain ⟨gA, gB, aI, cI, rfl, rfl, rfl, HM⟩ := hcut
      have hbc : Below w6.heap.size w6 wc := HM.out.2.2.2.1
      have hAc := H6.out.1.below hbc
      have hRc := (hbc.block _ (heap_lt H6.out.2.2.2.1)).trans H6.out.2.2.2.1
      have hTc : StepS P P1 Pk Pk l s w wc := ⟨H6.out.2.1.1.trans (Touch.of_below (fun _ => False) hbc) (fun _ _ h => h.elim), H6.out.2.1.2⟩
      have z6 := H6.out.2.2.2.2.1
      have zc := HM.out.2.2.2.1.size
      have HCC := Lib.hid (And.intro hAc (And.intro hRc hTc))
      have HZ := Lib.hid (And.intro z6 zc)
      clear hbc hAc hTc z6 zc c0 c1 c2 c3 c4 c5 k0 k1 k2 k3 k4 k5
      obtain ⟨t0, t1, t2, t3, -⟩ := KV.four HM.out.1
      obtain ⟨a0, a1, a2, a3, b0, b1, b2, b3⟩ := KV.four hRc
      cases hwr : (KV.planK S o).2.2 with
      | false =>
        obtain ⟨eT, eS, eW, eD, eC⟩ := HNO.out hwr
        have hE := KV.put4_at hRc (.int .i64 (KV.planK S o).1.code) (.int .i64 (KV.planK S o).1.rev) (.string (KV.planK S o).1.val) (.slice aI (KV.planK S o).1.its.length cI)
        have ht4 := touch4 wc (w.heap.size + 1) (.int .i64 (KV.planK S o).1.code) (.int .i64 (KV.planK S o).1.rev) (.string (KV.planK S o).1.val) (.slice aI (KV.planK S o).1.its.length cI)
        have hRw := rowMono (KV.put4_row HM.out.2.2.1 hRc (by decide) (.int .i64 (KV.planK S o).1.code) (.int .i64 (KV.planK S o).1.rev) (.string (KV.planK S o).1.val) (.slice aI (KV.planK S o).1.its.length cI)) (show w.heap.size ≤ w6.heap.size by have := HZ.out.1; omega)
        have hSA := HCC.out.1.keep ht4 (fun i e => by
          have h0 := HNO6.out i (Or.inl e)
          exact ⟨fun h => h0 (Or.inl h), fun h => h0 (Or.inr (Or.inl h)), fun h => h0 (Or.inr (Or.inr (Or.inl h))), fun h => h0 (Or.inr (Or.inr (Or.inr h)))⟩)
        have htt := HCC.out.2.2.1.trans ht4 (fun i hi e => by have e' : i = w.heap.size + 1 := e; omega)
        have hSA' : SAll (KV.put4 wc (w.heap.size + 1) (.int .i64 (KV.planK S o).1.code) (.int .i64 (KV.planK S o).1.rev) (.string (KV.planK S o).1.val) (.slice aI (KV.planK S o).1.its.length cI)) s g l k P1 Pk T' S' ev wr' false := by rw [eT, eS, eW]; exact hSA
        have HF := Lib.hid (And.intro hRw (And.intro hSA' htt))
        unfold KV.put4 at hE HF
        have HEC := Lib.hid (And.intro eC eD)
        clear hRc ht4 hRw hSA hSA' htt eT eS eW eD eC hwr HNO HKP
        go_wp2_with fail
        refine bodyPost_ret (v := KV.kres (KV.planK S o).1 (.slice aI (KV.planK S o).1.its.length cI)) (by simp [results, Tryz.results16, go_sem, World.cell?, hE]) rfl (by rw [HQ.out]; exact ⟨P1, Pk, .slice aI (KV.planK S o).1.its.length cI, by rw [if_pos HEC.out.1], fun _ => HF.out.1, by rw [HEC.out.2]; exact HF.out.2.1, HF.out.2.2, H6.out.2.1.2⟩)
      | true =>
        have HK := Lib.hid (HKP.out hwr P1 wc HCC.out.1 HCC.out.2.2)
        obtain ⟨e0, e1, e2, e3, -⟩ := KV.four HM.out.2.1
        clear HKP HNO hwr
        by_cases hc : c = 0
        · subst hc
          go_wp2_with fail
          refine HK.out.mono ?_; rintro _ w7 ⟨P7, Q7, rfl, hS7, hT7⟩
          have z6 := HZ.out.1
          have zc := HZ.out.2
          have hR7 := (hT7.1.2.2.2.2 _ (heap_lt HCC.out.2.1) (HNO6.out _ (Or.inl rfl))).trans HCC.out.2.1
          have hA7 := (hT7.1.2.2.2.2 _ (heap_lt HM.out.1) (HNO6.out _ (Or.inr HM.out.2.2.2.2.1))).trans HM.out.1
          have hrow7 := rowStay HM.out.2.2.1 (fun d hd hlt => hT7.1.2.2.2.2 d hlt (HNO6.out d (Or.inr hd)))
          have hout : ∀ i, i = w.heap.size + 1 → ¬ P7 i ∧ ¬ Q7 i ∧ i ≠ l ∧ i ≠ s := fun i e => by
            have h0 := HNO6.out i (Or.inl e)
            refine ⟨fun hp => (hT7.2.1 i hp).elim (fun h => h0 (Or.inl h)) (fun h => by omega), fun hp => (hT7.2.2 i hp).elim (fun h => h0 (Or.inr (Or.inl h))) (fun h => by omega), fun h => h0 (Or.inr (Or.inr (Or.inl h))), fun h => h0 (Or.inr (Or.inr (Or.inr h)))⟩
          have htw := HCC.out.2.2.1.trans hT7.1 (fun i hi h => by
            rcases h with h | h | h | h
            · exact (HCC.out.2.2.2.1 i h).elim Or.inl (fun h => by omega)
            · exact Or.inr (Or.inl h)
            · exact Or.inr (Or.inr (Or.inl h))
            · exact Or.inr (Or.inr (Or.inr h)))
          have hp1 : ∀ i, P7 i → P i ∨ w.heap.size ≤ i := fun i hp => (hT7.2.1 i hp).elim (HCC.out.2.2.2.1 i) (fun h => Or.inr (by omega))
          have hp2 : ∀ i, Q7 i → Pk i ∨ w.heap.size ≤ i := fun i hp => (hT7.2.2 i hp).imp id (fun h => by omega)
          obtain ⟨a0, a1, a2, a3, b0, b1, b2, b3⟩ := KV.four hR7
          obtain ⟨t0, t1, t2, t3, -⟩ := KV.four hA7
          have hRw := rowMono (KV.put4_row hrow7 hR7 (by decide) (.int .i64 (KV.planK S o).1.code) (.int .i64 (KV.planK S o).1.rev) (.string (KV.planK S o).1.val) (.slice aI (KV.planK S o).1.its.length cI)) (show w.heap.size ≤ w6.heap.size by omega)
          have hE := KV.put4_at hR7 (.int .i64 (KV.planK S o).1.code) (.int .i64 (KV.planK S o).1.rev) (.string (KV.planK S o).1.val) (.slice aI (KV.planK S o).1.its.length cI)
          have ht4 := touch4 w7 (w.heap.size + 1) (.int .i64 (KV.planK S o).1.code) (.int .i64 (KV.planK S o).1.rev) (.string (KV.planK S o).1.val) (.slice aI (KV.planK S o).1.its.length cI)
          have hSA := hS7.keep ht4 hout
          have htt := htw.trans ht4 (fun i hi e => by have e' : i = w.heap.size + 1 := e; omega)
          have HF := Lib.hid (And.intro hRw (And.intro hSA (And.intro htt (And.intro hp1 hp2))))
          unfold KV.put4 at hE HF
          clear hRw hSA htt hS7 hT7 hR7 hA7 hrow7 hout htw hp1 hp2 z6 zc ht4 hRc
          go_wp2_with fail
          refine bodyPost_ret (v := KV.kres (KV.planK S o).1 (.slice aI (KV.planK S o).1.its.length cI)) (by simp [results, Tryz.results16, go_sem, World.cell?, hE]) rfl (by rw [HQ.out]; exact ⟨P7, Q7, .slice aI (KV.planK S o).1.its.length cI, by simp, fun _ => HF.out.1, HF.out.2.1, HF.out.2.2.1, HF.out.2.2.2.1, HF.out.2.2.2.2⟩)
        · have dc : (c == 0) = false := by simpa using hc
          have dc2 : (c != 0) = true := by simpa using hc
          have HNC := Lib.hid hc
          clear hc
          go_wp2_with fail
          refine HK.out.mono ?_; rintro _ w7 ⟨P7, Q7, rfl, hS7, hT7⟩
          have z6 := HZ.out.1
          have zc := HZ.out.2
          have hR7 := (hT7.1.2.2.2.2 _ (heap_lt HCC.out.2.1) (HNO6.out _ (Or.inl rfl))).trans HCC.out.2.1
          have hA7 := (hT7.1.2.2.2.2 _ (heap_lt HM.out.1) (HNO6.out _ (Or.inr HM.out.2.2.2.2.1))).trans HM.out.1
          have hrow7 := rowStay HM.out.2.2.1 (fun d hd hlt => hT7.1.2.2.2.2 d hlt (HNO6.out d (Or.inr hd)))
          have hout : ∀ i, i = w.heap.size + 1 → ¬ P7 i ∧ ¬ Q7 i ∧ i ≠ l ∧ i ≠ s := fun i e => by
            have h0 := HNO6.out i (Or.inl e)
            refine ⟨fun hp => (hT7.2.1 i hp).elim (fun h => h0 (Or.inl h)) (fun h => by omega), fun hp => (hT7.2.2 i hp).elim (fun h => h0 (Or.inr (Or.inl h))) (fun h => by omega), fun h => h0 (Or.inr (Or.inr (Or.inl h))), fun h => h0 (Or.inr (Or.inr (Or.inr h)))⟩
          have htw := HCC.out.2.2.1.trans hT7.1 (fun i hi h => by
            rcases h with h | h | h | h
            · exact (HCC.out.2.2.2.1 i h).elim Or.inl (fun h => by omega)
            · exact Or.inr (Or.inl h)
            · exact Or.inr (Or.inr (Or.inl h))
            · exact Or.inr (Or.inr (Or.inr h)))
          have hp1 : ∀ i, P7 i → P i ∨ w.heap.size ≤ i := fun i hp => (hT7.2.1 i hp).elim (HCC.out.2.2.2.1 i) (fun h => Or.inr (by omega))
          have hp2 : ∀ i, Q7 i → Pk i ∨ w.heap.size ≤ i := fun i hp => (hT7.2.2 i hp).imp id (fun h => by omega)
          obtain ⟨a0, a1, a2, a3, b0, b1, b2, b3⟩ := KV.four hR7
          obtain ⟨t0, t1, t2, t3, -⟩ := KV.four hA7
          have hE := KV.put4_at hR7 (.int .i64 12) (.int .i64 0) (.string KV.emp) (.slice none 0 0)
          have ht4 := touch4 w7 (w.heap.size + 1) (.int .i64 12) (.int .i64 0) (.string KV.emp) (.slice none 0 0)
          have hSA := hS7.keep ht4 hout
          have htt := htw.trans ht4 (fun i hi e => by have e' : i = w.heap.size + 1 := e; omega)
          have HF := Lib.hid (And.intro hSA (And.intro htt (And.intro hp1 hp2)))
          unfold KV.put4 at hE HF
          clear hSA htt hS7 hT7 hR7 hA7 hrow7 hout htw hp1 hp2 z6 zc ht4 t0 t1 t2 t3 hRc
          go_wp2_with fail
          refine bodyPost_ret (v := KV.resV 12 0 KV.emp (.slice none 0 0)) (by simp [results, Tryz.results16, go_sem, World.cell?, hE]) rfl (by rw [HQ.out]; exact ⟨P7, Q7, .slice aI (KV.planK S o).1.its.length cI, by rw [if_neg HNC.out], fun h => absurd h HNC.out, HF.out.1, HF.out.2.1, HF.out.2.2.1, HF.out.2.2.2⟩)
end Go.Proofs.YtbbefakmpmniiaaGreatDoor
