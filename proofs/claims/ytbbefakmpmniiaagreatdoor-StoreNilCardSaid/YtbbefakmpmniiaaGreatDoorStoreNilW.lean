/- The law StoreNil. -/
import Derived.Test.YtbbefakmpmniiaaGreatDoorSt11
namespace Go.Proofs.YtbbefakmpmniiaaGreatDoor
open Go.RowKit Go.Maps
set_option maxRecDepth 100000 in
set_option maxHeartbeats 8000000 in
theorem storeNil_walk (W : World) (o : KV.KOp) (_ : KV.Op9Ok o) (hE : Env W) : Calls Tryz.prog 6 #[KV.opV o] W fun e W' => e = .returned (.bool true) ∧ Below W.heap.size W W' := by
  have HO := Lib.hid (fun w => KV.ours_any o w)
  have HAw := Lib.hid (fun (w : World) (hb : Below W.heap.size W w) => awake11_any w (hE.below hb))
  have HD := Lib.hid (fun w => sdo_nil (KV.ours o) w)
  have hfc := KV.field_code
  have hN := fun w => eqNilT w none
  generalize KV.ours o = x at HO HD
  clear hE
  go_enter Tryz.func6, Tryz.ntmps6
  go_upto_region 3 with (first
    | (go_at_call 13; refine (HO.out _).mono ?_; rintro e w1 ⟨rfl, hb1⟩)
    | go_in)
  have hb1' := bel (belNew W (KV.opR o)) hb1
  obtain ⟨w2, hw2⟩ : ∃ w2, w2 = (w1.alloc (KV.opO x)).alloc (KV.opR x) := ⟨_, rfl⟩
  have hb2 : Below w1.heap.size w1 w2 := by rw [hw2]; exact belAlloc (belNew w1 _) _
  have hx2 : w2.heap[w1.heap.size]? = some (KV.opO x) := by rw [hw2, Below.heap_alloc _ _ _ (by simp)]; exact heap_alloc_new w1 _
  rw [← hw2]
  have HB2 := Lib.hid (And.intro (hb1'.trans (hb2.mono hb1'.size)) hx2)
  clear hw2 hb1 hb1' hb2 hx2
  go_upto_region 4 with (first
    | (go_at_call 10; refine (sopen_nil 1 _).mono ?_; rintro e w3 ⟨rfl, hb3⟩)
    | go_in)
  have hx3 := (hb3.block _ (heap_lt HB2.out.2)).trans HB2.out.2
  have HB3 := Lib.hid (HB2.out.1.trans (hb3.mono HB2.out.1.size))
  obtain ⟨k0, k1, k2, k3, k4, k5⟩ := KV.opcells hx3
  clear hx3 hb3
  go_wp2_with (first
    | (go_at_call 16; refine (HD.out _).mono ?_; rintro e w4 ⟨rfl, hb4⟩; have HB4 := Lib.hid (HB3.out.trans (hb4.mono HB3.out.size)))
    | (go_at_call 17; refine (scompact_nil _).mono ?_; rintro e wz ⟨rfl, rfl⟩)
    | (go_at_call 21; refine (srev_nil _).mono ?_; rintro e wz ⟨rfl, rfl⟩)
    | (go_at_call 23; refine (sall_nil _).mono ?_; rintro e wz ⟨rfl, rfl⟩)
    | (go_at_call 12; refine (sdead_nil _).mono ?_; rintro e wz ⟨rfl, rfl⟩)
    | (go_at_call 24; refine (slog_nil _).mono ?_; rintro e wz ⟨rfl, rfl⟩)
    | (go_at_call 29; refine (HAw.out _ HB4.out).mono ?_; rintro e w5 ⟨rfl, hb5⟩)
    | go_in)
  go_ret
  exact ⟨rfl, HB4.out.trans (hb5.mono HB4.out.size)⟩
end Go.Proofs.YtbbefakmpmniiaaGreatDoor
