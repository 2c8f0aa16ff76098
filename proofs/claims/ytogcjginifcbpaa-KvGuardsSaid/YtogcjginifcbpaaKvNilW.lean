/- The walk of KvNil. -/
import Derived.Test.YtogcjginifcbpaaKvOurs
namespace Go.Proofs.Ytogcjginifcbpaa
open Go.RowKit Go.Maps
theorem field_code (a b c d : Value) (w : World) : (Instr.field 36 (.agg #[a, b, c, d]) 0).run Try.prog w = .ok a w := by kernel_rfl
theorem field_its (a b c d : Value) (w : World) : (Instr.field 36 (.agg #[a, b, c, d]) 3).run Try.prog w = .ok d w := by kernel_rfl
set_option maxRecDepth 100000 in
set_option maxHeartbeats 4000000 in
theorem plan_nil (o : KOp) (w : World) : Calls Try.prog 17 #[.pointer none, opV o] w fun e w' => e = .returned (.tuple #[resV 2 0 emp (.slice none 0 0), effV eff0, .bool false]) ∧ Below w.heap.size w w' := by
  obtain ⟨W, hW, hb, hz, hA, hB, hC⟩ := alloc3 w (opO o) (resO 0 0 emp (.slice none 0 0)) (effO eff0)
  have q := eqNilK
  have HW := Lib.hid hW
  have HB := Lib.hid hb
  have hE := plan_end (v := .slice none 0 0) (L := []) hb (n1 := w.heap.size + 1) (n2 := w.heap.size + 1 + 1) (by omega) (by omega) (by omega) hB hC (World.ownsRow_nil _ _ _ _) (.int .i64 2) (.int .i64 0) (.string emp) (.slice none 0 0) (.string emp) (.string emp) (.int .i64 0) (.bool false)
  unfold put4 at hE
  obtain ⟨a0, a1, a2, a3, b0, b1, b2, b3⟩ := four hB
  obtain ⟨e0, e1, e2, e3, f0, f1, f2, f3⟩ := four hC
  have HE := Lib.hid hE
  clear hW hA hB hC hb hz hE
  go_enter Try.func17, Try.ntmps17
  go_upto_region 1 with fail
  change Code.wp _ _ _ _ (((w.alloc (opO o)).alloc (resO 0 0 emp (.slice none 0 0))).alloc (effO eff0))
  rw [← HW.out]
  clear HW
  go_wp2_with fail
  have hE := HE.out
  refine bodyPost_ret (v := .tuple #[resV 2 0 emp (.slice none 0 0), effV eff0, .bool false]) (by simp [results, Try.results17, go_sem, World.cell?, hE.1, hE.2.1]) rfl ⟨rfl, hE.2.2.2⟩
set_option maxRecDepth 100000 in
set_option maxHeartbeats 4000000 in
theorem do_nil (o : KOp) (w : World) : Calls Try.prog 21 #[.pointer none, opV o] w fun e w' => e = .returned (resV 2 0 emp (.slice none 0 0)) ∧ Below w.heap.size w w' := by
  have HPl : Hid (∀ w, Calls Try.prog 17 #[.pointer none, opV o] w fun e w' => e = .returned (.tuple #[resV 2 0 emp (.slice none 0 0), effV eff0, .bool false]) ∧ Below w.heap.size w w') := Lib.hid (plan_nil o)
  obtain ⟨W, hW⟩ : ∃ W, W = (w.alloc (opO o)).alloc (resO 0 0 emp (.slice none 0 0)) := ⟨_, rfl⟩
  have hb : Below w.heap.size w W := by rw [hW]; exact belAlloc (belNew w _) _
  have hA : W.heap[w.heap.size]? = some (opO o) := by rw [hW, Below.heap_alloc _ _ _ (by simp)]; exact heap_alloc_new w _
  have hB : W.heap[w.heap.size + 1]? = some (resO 0 0 emp (.slice none 0 0)) := by rw [hW]; simpa using heap_alloc_new (w.alloc (opO o)) (resO 0 0 emp (.slice none 0 0))
  obtain ⟨k0, k1, k2, k3, k4, k5⟩ := opcells hA
  have HW := Lib.hid hW
  have HB := Lib.hid (And.intro hb hB)
  clear hW hb hA hB
  go_enter Try.func21, Try.ntmps21
  go_upto_region 1 with fail
  change Code.wp _ _ _ _ ((w.alloc (opO o)).alloc (resO 0 0 emp (.slice none 0 0)))
  rw [← HW.out]
  clear HW
  go_upto_region 2 with (first
    | (go_at_call 17; refine (HPl.out _).mono ?_; rintro e w2 ⟨rfl, hb2⟩)
    | go_in)
  obtain ⟨w3, hw3⟩ : ∃ w3, w3 = (w2.alloc (resO 2 0 emp (.slice none 0 0))).alloc (effO eff0) := ⟨_, rfl⟩
  have hb3 : Below w2.heap.size w2 w3 := by rw [hw3]; exact belAlloc (belNew w2 _) _
  have hT3 : w3.heap[w2.heap.size]? = some (resO 2 0 emp (.slice none 0 0)) := by rw [hw3, Below.heap_alloc _ _ _ (by simp)]; exact heap_alloc_new w2 _
  rw [← hw3]
  have hbW : Below W.heap.size W w3 := bel hb2 hb3
  have hB3 := (hbW.block _ (heap_lt HB.out.2)).trans HB.out.2
  have hbw := HB.out.1.trans (hbW.mono HB.out.1.size)
  obtain ⟨t0, t1, t2, t3, -⟩ := four hT3
  obtain ⟨a0, a1, a2, a3, b0, b1, b2, b3⟩ := four hB3
  have hE := put4_at hB3 (.int .i64 2) (.int .i64 0) (.string emp) (.slice none 0 0)
  have hBl := put4_below hbw (show w.heap.size ≤ w.heap.size + 1 by omega) (.int .i64 2) (.int .i64 0) (.string emp) (.slice none 0 0)
  unfold put4 at hE hBl
  have HBl := Lib.hid hBl
  clear hw3 hb3 hb2 hT3 hbW hB3 hbw hBl k0 k1 k2 k3 k4 k5
  go_wp2_with fail
  refine bodyPost_ret (v := resV 2 0 emp (.slice none 0 0)) (by simp [results, Try.results21, go_sem, World.cell?, hE]) rfl ⟨rfl, HBl.out⟩
set_option maxRecDepth 100000 in
set_option maxHeartbeats 8000000 in
theorem lawKvNil (w : World) (o : KOp) (_ : Op9Ok o) : Calls Try.prog 7 #[opV o] w fun e w' => e = .returned (.bool true) ∧ Below w.heap.size w w' := by
  have HO : Hid (∀ w, Calls Try.prog 16 #[opV o] w fun e w' => e = .returned (.tuple #[opV (ours o), opV (ours o)]) ∧ Below w.heap.size w w') := Lib.hid (ours_any o)
  have HP : Hid (∀ w, Calls Try.prog 17 #[.pointer none, opV (ours o)] w fun e w' => e = .returned (.tuple #[resV 2 0 emp (.slice none 0 0), effV eff0, .bool false]) ∧ Below w.heap.size w w') := Lib.hid (plan_nil _)
  have HD : Hid (∀ w, Calls Try.prog 21 #[.pointer none, opV (ours o)] w fun e w' => e = .returned (.agg #[.int .i64 2, .int .i64 0, .string emp, .slice none 0 0]) ∧ Below w.heap.size w w') := Lib.hid (do_nil _)
  have HAp : Hid (∀ w, Calls Try.prog 30 #[.pointer none, effV eff0] w fun x w' => x = .returned (.int .i64 2) ∧ Below w.heap.size w w') := Lib.hid (apply_nil eff0)
  have hfc := field_code
  generalize ours o = x at HO HP HD
  go_enter Try.func7, Try.ntmps7
  go_upto_region 3 with (first
    | (go_at_call 16; refine (HO.out _).mono ?_; rintro e w1 ⟨rfl, hb1⟩)
    | go_in)
  have hb1' := bel (belNew w (opR o)) hb1
  obtain ⟨w2, hw2⟩ : ∃ w2, w2 = (w1.alloc (opO x)).alloc (opR x) := ⟨_, rfl⟩
  have hb2 : Below w1.heap.size w1 w2 := by rw [hw2]; exact belAlloc (belNew w1 _) _
  have hx2 : w2.heap[w1.heap.size]? = some (opO x) := by rw [hw2, Below.heap_alloc _ _ _ (by simp)]; exact heap_alloc_new w1 _
  rw [← hw2]
  have HB2 := Lib.hid (And.intro (hb1'.trans (hb2.mono hb1'.size)) hx2)
  obtain ⟨k0, k1, k2, k3, k4, k5⟩ := opcells hx2
  clear hw2 hb1 hb1' hb2 hx2
  go_upto_region 4 with (first
    | (go_at_call 17; refine (HP.out _).mono ?_; rintro e w3 ⟨rfl, hb3⟩)
    | go_in)
  obtain ⟨w4, hw4⟩ : ∃ w4, w4 = (w3.alloc (resO 2 0 emp (.slice none 0 0))).alloc (effO eff0) := ⟨_, rfl⟩
  have hb4 : Below w3.heap.size w3 w4 := by rw [hw4]; exact belAlloc (belNew w3 _) _
  have hr4 : w4.heap[w3.heap.size]? = some (resO 2 0 emp (.slice none 0 0)) := by rw [hw4, Below.heap_alloc _ _ _ (by simp)]; exact heap_alloc_new w3 _
  rw [← hw4]
  have hb24 := bel hb3 hb4
  have HB4 := Lib.hid (HB2.out.1.trans (hb24.mono HB2.out.1.size))
  have hx4 := (hb24.block _ (heap_lt HB2.out.2)).trans HB2.out.2
  clear hw4 hb3 hb4 hb24 k0 k1 k2 k3 k4 k5
  obtain ⟨k0, k1, k2, k3, k4, k5⟩ := opcells hx4
  obtain ⟨r0, -⟩ := four hr4
  clear hx4 hr4
  go_wp2_with (first
    | (go_at_call 21; refine (HD.out _).mono ?_; rintro e w5 ⟨rfl, hb5⟩)
    | (go_at_call 30; refine (HAp.out _).mono ?_; rintro e w6 ⟨rfl, hb6⟩)
    | (go_at_call 22; refine (rev_nil _).mono ?_; rintro e wz ⟨rfl, rfl⟩)
    | (go_at_call 23; refine (len_nil _).mono ?_; rintro e wz ⟨rfl, rfl⟩)
    | (go_at_call 25; refine (all_nil _).mono ?_; rintro e w7 ⟨v, rfl, hr7, hb7⟩; obtain ⟨ao, c, rfl, -⟩ := RowE.sees hr7)
    | (go_at_call 26; refine (awake9_any _).mono ?_; rintro e w8 ⟨rfl, hb8⟩)
    | go_in)
  go_ret
  exact ⟨rfl, HB4.out.trans ((bel (bel (bel hb5 hb6) hb7) hb8).mono HB4.out.size)⟩
end Go.Proofs.Ytogcjginifcbpaa
