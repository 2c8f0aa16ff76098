/- Run with nothing that does; chapter 19's example. -/
import Derived.Test.YtholgmcfgnifdaaMe
namespace Go.Proofs.Ytholgmcfgnifdaa
open Go.RowKit Go.Maps
set_option maxRecDepth 100000 in
set_option maxHeartbeats 4000000 in
theorem run_no (g : Nat) (o : KOp) (a : Bool) (f : Value) (n : Int) (m : Int) (w : World) (hp : ProcAt w g o a f n) (hm : 0 < m) :
    Calls Try.prog 16 #[ptr g, .nilFunc, .int .i64 m] w fun e w' => e = .returned (.bool (!a)) ∧ Below w.heap.size w w' := by
  have q := eqNN
  have HP := Lib.hid hp
  have d0 : decide ((0 : Int) < m) = true := by simpa using hm
  clear hp hm
  go_enter Try.func16, Try.ntmps16
  go_wp2_with fail
  go_loopw [12] (fun j wr => j = .int .i64 0 ∧ Hid (Below w.heap.size w wr)) (fun j _ => 0)
  case atStart => exact ⟨rfl, Lib.hid (Below.refl _ _)⟩
  case round =>
    obtain ⟨rfl, HB⟩ := hrel
    go_upto_region 4 with (refine (opP_any g o a f n wr (HP.out.below HB.out)).mono ?_; rintro e w1 ⟨rfl, hb1⟩)
    have hb2 := bel (bel HB.out hb1) (belNew w1 (opO o))
    generalize w1.alloc (opO o) = w2 at *
    have HB2 := Lib.hid hb2
    clear hb1 hb2 HB
    cases a
    all_goals
      go_upto_region 7 with fail
      go_upto_region 8 with (refine (opP_any g o _ f n w2 (HP.out.below HB2.out)).mono ?_; rintro e w3 ⟨rfl, hb3⟩)
      have hb4 := bel (bel HB2.out hb3) (belNew w3 (opO o))
      generalize w3.alloc (opO o) = w4 at *
      go_wp2_with fail
      go_ret
      exact ⟨rfl, hb4⟩
set_option maxRecDepth 100000 in
set_option maxHeartbeats 4000000 in
theorem run_nop (m : Int) (w : World) (hm : 0 < m) :
    Calls Try.prog 16 #[.pointer none, .nilFunc, .int .i64 m] w fun e w' => e = .returned (.bool true) ∧ Below w.heap.size w w' := by
  have q := eqNN
  have d0 : decide ((0 : Int) < m) = true := by simpa using hm
  clear hm
  go_enter Try.func16, Try.ntmps16
  go_wp2_with fail
  go_loopw [12] (fun j wr => j = .int .i64 0 ∧ Hid (Below w.heap.size w wr)) (fun j _ => 0)
  case atStart => exact ⟨rfl, Lib.hid (Below.refl _ _)⟩
  case round =>
    obtain ⟨rfl, HB⟩ := hrel
    go_upto_region 4 with (refine (opP_nil wr).mono ?_; rintro e w1 ⟨rfl, hb1⟩)
    have hb2 := bel (bel HB.out hb1) (belNew w1 (opO opZ))
    generalize w1.alloc (opO opZ) = w2 at *
    have HB2 := Lib.hid hb2
    clear hb1 hb2 HB
    go_upto_region 7 with fail
    go_upto_region 8 with (refine (opP_nil w2).mono ?_; rintro e w3 ⟨rfl, hb3⟩)
    have hb4 := bel (bel HB2.out hb3) (belNew w3 (opO opZ))
    generalize w3.alloc (opO opZ) = w4 at *
    go_wp2_with fail
    go_ret
    exact ⟨rfl, hb4⟩
end Go.Proofs.Ytholgmcfgnifdaa
