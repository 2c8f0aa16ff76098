/- Package mach: Op. -/
import Derived.Test.YtholgmcfgnifdaaMa
namespace Go.Proofs.Ytholgmcfgnifdaa
open Go.RowKit Go.Maps
/-- An operation in a variable, stored whole. -/
theorem wpStO {g : Nat} {o0 o1 : KOp} {w : World} {ops : Array Oper} {rest : List Oper} {o : Oper} {a : Act} {Q : Exit → Act → World → Prop}
    (hgd : o.guard = none) (x y : Operand) (ho : o.op = .store 37 x y) (hx : a.eval x = .pointer (some ⟨g, 0, none⟩)) (hy : a.eval y = opV o1) (h : w.heap[g]? = some (opO o0))
    (hK : ∀ w', w'.heap[g]? = some (opO o1) → w.grownBy w' (some g) → wpList Try.prog ops Q rest (a.put o.dst undef) w') : wpList Try.prog ops Q (o :: rest) a w := by
  refine wpList_store_mid hgd 37 x y ho g 0 #[.int .i64 o1.kind, .string o1.key, .string o1.val, .int .i64 o1.rev, .string o1.iff, .int .i64 o1.ifRev] hx hy ?_ (by kernel_rfl) (by simp [Value.oneCell']) ?_
  · intro j hj
    have hj' : j < 6 := hj
    rw [Nat.zero_add]
    constructor
    · simp only [World.cell?, h]
      rcases j with _ | _ | _ | _ | _ | _ | j
      all_goals first | exact ⟨_, rfl⟩ | rfl | (exfalso; omega)
    · simp [World.frozen?, h]
  · have e : w.setCells g 0 (#[Value.int .i64 o1.kind, .string o1.key, .string o1.val, .int .i64 o1.rev, .string o1.iff, .int .i64 o1.ifRev] : Array Value).toList = putOp w g o1 := rfl
    rw [e]
    exact hK _ (dset (dset (dset (dset (dset (dset h 0 _) 1 _) 2 _) 3 _) 4 _) 5 _) (grown_trans (grown_trans (grown_trans (grown_trans (grown_trans (grown_set w g 0 _) (grown_set _ g 1 _)) (grown_set _ g 2 _)) (grown_set _ g 3 _)) (grown_set _ g 4 _)) (grown_set _ g 5 _))
set_option maxRecDepth 100000 in
set_option maxHeartbeats 4000000 in
theorem opP_any (g : Nat) (o : KOp) (a : Bool) (f : Value) (n : Int) (w : World) (h : ProcAt w g o a f n) : Calls Try.prog 9 #[ptr g] w fun e w' => e = .returned (.tuple #[opV o, .bool a]) ∧ Below w.heap.size w w' := by
  obtain ⟨W1, hW⟩ : ∃ W1, W1 = w.alloc (opO opZ) := ⟨_, rfl⟩
  have hb0 := belNew w (opO opZ)
  have hB := heap_alloc_new w (opO opZ)
  rw [← hW] at hb0 hB
  have HX := Lib.hid (And.intro hb0 (And.intro (h.below hb0) (And.intro hB (heap_lt h))))
  have q := eqNilPr
  have HW := Lib.hid hW
  clear hb0 hB h hW
  go_enter Try.func9, Try.ntmps9
  go_upto_region 1 with fail
  change Code.wp _ _ _ _ (w.alloc (opO opZ))
  rw [← HW.out]
  clear HW
  go_upto_region 3 with fail
  refine wp_region_held_drew (S := (fun X => Below w.heap.size w X ∧ ProcAt X g o a f n)) (by kernel_rfl) ?_ (fun r0 => ?_)
  · exact ⟨bdrew HX.out.1, HX.out.2.1⟩
  obtain ⟨wd, hwd⟩ : ∃ wd, wd = W1.drew := ⟨_, rfl⟩
  have hR : wd.heap[w.heap.size]? = some (opO opZ) := by rw [hwd]; exact HX.out.2.2.1
  rw [← hwd] at r0 ⊢
  have HR := Lib.hid hR
  clear hR hwd
  refine wpAnyH_take (i := 0) (v := ?_) rfl (by kernel_rfl) (by kernel_rfl) (by kernel_rfl) (fun _ _ _ h => h) (Or.inl ⟨by rfl, ?_⟩) (by assumption) ?_
  rotate_left
  · intro wS hSw
    (try dsimp only at hSw)
    go_simp
    first | done | with_reducible rfl
  try simp only [Act.put, List.getElem_toArray, List.getElem_cons_succ, List.getElem_cons_zero, List.setIfInBounds_toArray, List.set_cons_zero, List.set_cons_succ]
  refine wpAnyH_take (i := 1) (v := ?_) rfl (by kernel_rfl) (by kernel_rfl) (by kernel_rfl) (fun _ _ _ h => h) (Or.inl ⟨by rfl, ?_⟩) (by assumption) ?_
  rotate_left
  · intro wS hSw
    (try dsimp only at hSw)
    go_simp
    first | done | with_reducible rfl
  try simp only [Act.put, List.getElem_toArray, List.getElem_cons_succ, List.getElem_cons_zero, List.setIfInBounds_toArray, List.set_cons_zero, List.set_cons_succ]
  refine wpAnyH_take (i := 2) (v := ?_) rfl (by kernel_rfl) (by kernel_rfl) (by kernel_rfl) (fun _ _ _ h => h) (Or.inl ⟨by rfl, ?_⟩) (by assumption) ?_
  rotate_left
  · intro wS hSw
    (try dsimp only at hSw)
    go_simp
    first | done | with_reducible rfl
  try simp only [Act.put, List.getElem_toArray, List.getElem_cons_succ, List.getElem_cons_zero, List.setIfInBounds_toArray, List.set_cons_zero, List.set_cons_succ]
  refine wpAnyH_take (i := 3) (v := ?_) rfl (by kernel_rfl) (by kernel_rfl) (by kernel_rfl) (fun _ _ _ h => h) (Or.inl ⟨by rfl, ?_⟩) (by assumption) ?_
  rotate_left
  · intro wS hSw
    (try dsimp only at hSw)
    obtain ⟨sb, sp⟩ := hSw
    obtain ⟨c0, c1, c2, c3, c4, c5⟩ := sp.opcells
    obtain ⟨c6, c7, c8⟩ := sp.asks
    go_simp
    first | done | with_reducible rfl
  try simp only [Act.put, List.getElem_toArray, List.getElem_cons_succ, List.getElem_cons_zero, List.setIfInBounds_toArray, List.set_cons_zero, List.set_cons_succ]
  refine wpAnyH_take (i := 4) (v := ?_) rfl (by kernel_rfl) (by kernel_rfl) (by kernel_rfl) (fun _ _ _ h => h) (Or.inl ⟨by rfl, ?_⟩) (by assumption) ?_
  rotate_left
  · intro wS hSw
    (try dsimp only at hSw)
    go_simp
    first | done | with_reducible rfl
  try simp only [Act.put, List.getElem_toArray, List.getElem_cons_succ, List.getElem_cons_zero, List.setIfInBounds_toArray, List.set_cons_zero, List.set_cons_succ]
  refine wpAnyH_take (i := 5) (v := ?_) rfl (by kernel_rfl) (by kernel_rfl) (by kernel_rfl) (fun _ _ _ h => h) (Or.inl ⟨by rfl, ?_⟩) (by assumption) ?_
  rotate_left
  · intro wS hSw
    (try dsimp only at hSw)
    go_simp
    first | done | with_reducible rfl
  try simp only [Act.put, List.getElem_toArray, List.getElem_cons_succ, List.getElem_cons_zero, List.setIfInBounds_toArray, List.set_cons_zero, List.set_cons_succ]
  refine wpAnyH_take (i := 6) (v := ?_) rfl (by kernel_rfl) (by kernel_rfl) (by kernel_rfl) (fun _ _ _ h => h) (Or.inl ⟨by rfl, ?_⟩) (by assumption) ?_
  rotate_left
  · intro wS hSw
    (try dsimp only at hSw)
    go_simp
    first | done | with_reducible rfl
  try simp only [Act.put, List.getElem_toArray, List.getElem_cons_succ, List.getElem_cons_zero, List.setIfInBounds_toArray, List.set_cons_zero, List.set_cons_succ]
  refine wpAnyH_take (i := 7) (v := ?_) rfl (by kernel_rfl) (by kernel_rfl) (by kernel_rfl) (fun _ _ _ h => h) (Or.inl ⟨by rfl, ?_⟩) (by assumption) ?_
  rotate_left
  · intro wS hSw
    (try dsimp only at hSw)
    obtain ⟨sb, sp⟩ := hSw
    obtain ⟨c0, c1, c2, c3, c4, c5⟩ := sp.opcells
    obtain ⟨c6, c7, c8⟩ := sp.asks
    go_simp
    first | done | with_reducible rfl
  try simp only [Act.put, List.getElem_toArray, List.getElem_cons_succ, List.getElem_cons_zero, List.setIfInBounds_toArray, List.set_cons_zero, List.set_cons_succ]
  refine wpAnyH_ready (rs := [8]) (by kernel_rfl) (by simp) ?_
  refine AllReadyH.cons rfl (fun K hK => ?_) AllReadyH.nil
  have hR := HR.out
  obtain ⟨x0, x1, x2, x3, x4, x5⟩ := opcells hR
  have y0 : wd.frozen? ⟨w.heap.size, 0, none⟩ = false := by simp [World.frozen?, hR]
  have y1 : wd.frozen? ⟨w.heap.size, 1, none⟩ = false := by simp [World.frozen?, hR]
  have y2 : wd.frozen? ⟨w.heap.size, 2, none⟩ = false := by simp [World.frozen?, hR]
  have y3 : wd.frozen? ⟨w.heap.size, 3, none⟩ = false := by simp [World.frozen?, hR]
  have y4 : wd.frozen? ⟨w.heap.size, 4, none⟩ = false := by simp [World.frozen?, hR]
  have y5 : wd.frozen? ⟨w.heap.size, 5, none⟩ = false := by simp [World.frozen?, hR]
  clear hR
  go_simp
  change K _ (putOp wd w.heap.size o)
  have hRn : (putOp wd w.heap.size o).heap[w.heap.size]? = some (opO o) := dset (dset (dset (dset (dset (dset HR.out 0 _) 1 _) 2 _) 3 _) 4 _) 5 _
  have hbn : Below w.heap.size w (putOp wd w.heap.size o) := (((((r0.1.setCell (p := ⟨w.heap.size, 0, none⟩) (Nat.le_refl _) _).setCell (p := ⟨w.heap.size, 1, none⟩) (Nat.le_refl _) _).setCell (p := ⟨w.heap.size, 2, none⟩) (Nat.le_refl _) _).setCell (p := ⟨w.heap.size, 3, none⟩) (Nat.le_refl _) _).setCell (p := ⟨w.heap.size, 4, none⟩) (Nat.le_refl _) _).setCell (p := ⟨w.heap.size, 5, none⟩) (Nat.le_refl _) _
  have hpn : ProcAt (putOp wd w.heap.size o) g o a f n := r0.2.keep ((touch_putOp wd w.heap.size o).2.2.2.2 g (heap_lt r0.2) (fun e => by have := HX.out.2.2.2; omega))
  generalize putOp wd w.heap.size o = w2 at *
  refine hK.out _ _ ?_ (fun r1 => ?_)
  · exact ⟨hbn, hpn⟩
  try simp only [Act.put, List.getElem_toArray, List.getElem_cons_succ, List.getElem_cons_zero, List.setIfInBounds_toArray, List.set_cons_zero, List.set_cons_succ]
  refine wpAnyH_take (i := 9) (v := ?_) rfl (by kernel_rfl) (by kernel_rfl) (by kernel_rfl) (fun _ _ _ h => h) (Or.inl ⟨by rfl, ?_⟩) (by assumption) ?_
  rotate_left
  · intro wS hSw
    (try dsimp only at hSw)
    go_simp
    first | done | with_reducible rfl
  try simp only [Act.put, List.getElem_toArray, List.getElem_cons_succ, List.getElem_cons_zero, List.setIfInBounds_toArray, List.set_cons_zero, List.set_cons_succ]
  refine wpAnyH_done (by kernel_rfl) ?_ _
  clear y0 y1 y2 y3 y4 y5 x0 x1 x2 x3 x4 x5 HR
  obtain ⟨x0, x1, x2, x3, x4, x5⟩ := opcells hRn
  go_wp2_with fail
  refine bodyPost_ret (v := .tuple #[opV o, .bool a]) (by simp [results, Try.results9, go_sem, x0, x1, x2, x3, x4, x5]) rfl ⟨rfl, hbn⟩
set_option maxRecDepth 100000 in
set_option maxHeartbeats 4000000 in
theorem opP_nil (w : World) : Calls Try.prog 9 #[.pointer none] w fun e w' => e = .returned (.tuple #[opV opZ, .bool false]) ∧ Below w.heap.size w w' := by
  have hR := heap_alloc_new w (opO opZ)
  have HR := Lib.hid hR
  have HB := Lib.hid (belNew w (opO opZ))
  obtain ⟨W1, hW⟩ : ∃ W1, W1 = w.alloc (opO opZ) := ⟨_, rfl⟩
  rw [← hW] at HR HB hR
  have HW := Lib.hid hW
  have q := eqNilPr
  clear hR hW
  go_enter Try.func9, Try.ntmps9
  go_upto_region 1 with fail
  change Code.wp _ _ _ _ (w.alloc (opO opZ))
  rw [← HW.out]
  clear HW
  go_wp2_with (refine wpStO (o1 := opZ) rfl _ _ rfl rfl rfl HR.out ?_; intro w2 hR2 hg2; obtain ⟨x0, x1, x2, x3, x4, x5⟩ := opcells hR2; have HB2 := Lib.hid (HB.out.grown hg2 HB.out.size (fun k hk => by cases hk; exact Nat.le_refl _)); clear hR2 hg2)
  refine bodyPost_ret (v := .tuple #[opV opZ, .bool false]) (by simp [results, Try.results9, go_sem, x0, x1, x2, x3, x4, x5]) rfl ⟨rfl, HB2.out⟩
end Go.Proofs.Ytholgmcfgnifdaa
