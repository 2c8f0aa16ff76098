/- The walk of KvNil. -/
import Derived.Test.YtholgmcfgnifdaaKvOurs
namespace Go.Proofs.Ytholgmcfgnifdaa
open Go.RowKit Go.Maps
theorem field_code (a b c d : Value) (w : World) : (Instr.field 49 (.agg #[a, b, c, d]) 0).run Try.prog w = .ok a w := by kernel_rfl
theorem field_its (a b c d : Value) (w : World) : (Instr.field 49 (.agg #[a, b, c, d]) 3).run Try.prog w = .ok d w := by kernel_rfl
set_option maxRecDepth 100000 in
set_option maxHeartbeats 4000000 in
theorem plan_nil (o : KOp) (w : World) : Calls Try.prog 26 #[.pointer none, opV o] w fun e w' => e = .returned (.tuple #[resV 2 0 emp (.slice none 0 0), effV eff0, .bool false]) ∧ Below w.heap.size w w' := by
  obtain ⟨W, hW, hb, hz, hA, hB, hC⟩ := alloc3 w (opO o) (resO 0 0 emp (.slice none 0 0)) (effO eff0)
  have q := eqNilK
  have HW := Lib.hid hW
  have HB := Lib.hid hb
  have hE := plan_end (v := .slice none 0 0) (L := []) hb (n1 := w.heap.size + 1) (n2 := w.heap.size + 1 + 1) (by omega) (by omega) (by omega) hB hC (World.ownsRow_nil _ _ _ _) (.int .i64 2) (.int .i64 0) (.string emp) (.slice none 0 0) (.string emp) (.string emp) (.int .i64 0) (.bool false)
  unfold put4 at hE
  obtain ⟨a0, a1, a2, a3, b0, b1, b2, b3⟩ := four hB
  obtain ⟨e0, e1, e2, e3, f0, f1, f2, f3⟩ := four hC
  have HE := Lib.hid hE
  clear hW hA hB hC hb hz hE
  go_enter Try.func26, Try.ntmps26
  go_upto_region 1 with fail
  change Code.wp _ _ _ _ (((w.alloc (opO o)).alloc (resO 0 0 emp (.slice none 0 0))).alloc (effO eff0))
  rw [← HW.out]
  clear HW
  go_wp2_with fail
  have hE := HE.out
  refine bodyPost_ret (v := .tuple #[resV 2 0 emp (.slice none 0 0), effV eff0, .bool false]) (by simp [results, Try.results26, go_sem, World.cell?, hE.1, hE.2.1]) rfl ⟨rfl, hE.2.2.2⟩
set_option maxRecDepth 100000 in
set_option maxHeartbeats 4000000 in
theorem do_nil (o : KOp) (w : World) : Calls Try.prog 17 #[.pointer none, opV o] w fun e w' => e = .returned (resV 2 0 emp (.slice none 0 0)) ∧ Below w.heap.size w w' := by
  have HPl : Hid (∀ w, Calls Try.prog 26 #[.pointer none, opV o] w fun e w' => e = .returned (.tuple #[resV 2 0 emp (.slice none 0 0), effV eff0, .bool false]) ∧ Below w.heap.size w w') := Lib.hid (plan_nil o)
  obtain ⟨W, hW⟩ : ∃ W, W = (w.alloc (opO o)).alloc (resO 0 0 emp (.slice none 0 0)) := ⟨_, rfl⟩
  have hb : Below w.heap.size w W := by rw [hW]; exact belAlloc (belNew w _) _
  have hA : W.heap[w.heap.size]? = some (opO o) := by rw [hW, Below.heap_alloc _ _ _ (by simp)]; exact heap_alloc_new w _
  have hB : W.heap[w.heap.size + 1]? = some (resO 0 0 emp (.slice none 0 0)) := by rw [hW]; simpa using heap_alloc_new (w.alloc (opO o)) (resO 0 0 emp (.slice none 0 0))
  obtain ⟨k0, k1, k2, k3, k4, k5⟩ := opcells hA
  have HW := Lib.hid hW
  have HB := Lib.hid (And.intro hb hB)
  clear hW hb hA hB
  go_enter Try.func17, Try.ntmps17
  go_upto_region 1 with fail
  change Code.wp _ _ _ _ ((w.alloc (opO o)).alloc (resO 0 0 emp (.slice none 0 0)))
  rw [← HW.out]
  clear HW
  go_upto_region 2 with (first
    | (go_at_call 26; refine (HPl.out _).mono ?_; rintro e w2 ⟨rfl, hb2⟩)
    | go_in)
  obtain ⟨w3, hw3⟩ : ∃ w3, w3 = (w2.alloc (resO 2 0 emp (.slice none 0 0))).alloc (effO eff0) := ⟨_, rfl⟩
  have hb3 : Below w2.heap.size w2 w3 := by rw [hw3]; exact belAlloc (belNew w2 _) _
  have hT3 : w3.heap[w2.heap.size]? = some (resO 2 0 emp (.slice none 0 0)) := by rw [hw3, Below.heap_alloc _ _ _ (by simp)]; exact heap_alloc_new w2 _
  rw [← hw3]
  have hbW : Below W.heap.size W w3 := bel hb2 hb3
  have hB3 := (hbW.block _ (heap_lt HB.out.2)).trans HB.out.2
  have hbw := HB.out.1.trans (hbW.mono HB.out.1.size)
  obtain ⟨t0, t1, t2, t3, -⟩ := four hT3
  obtain ⟨a0, a1, a2, a3, b0, b1, b2, b3⟩ := four hB3
  have hE := put4_at hB3 (.int .i64 2) (.int .i64 0) (.string emp) (.slice none 0 0)
  have hBl := put4_below hbw (show w.heap.size ≤ w.heap.size + 1 by omega) (.int .i64 2) (.int .i64 0) (.string emp) (.slice none 0 0)
  unfold put4 at hE hBl
  have HBl := Lib.hid hBl
  clear hw3 hb3 hb2 hT3 hbW hB3 hbw hBl k0 k1 k2 k3 k4 k5
  go_wp2_with fail
  refine bodyPost_ret (v := resV 2 0 emp (.slice none 0 0)) (by simp [results, Try.results17, go_sem, World.cell?, hE]) rfl ⟨rfl, HBl.out⟩
end Go.Proofs.Ytholgmcfgnifdaa
