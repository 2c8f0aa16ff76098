/- The walk of PackNil: a reader that is not there. -/
import Derived.Test.YtkjdfelmjanpcaaPkT
namespace Go.Proofs.Ytkjdfelmjanpcaa
open Go.RowKit
theorem put258 : putL 258 2 = [1, 2] := by decide
set_option maxHeartbeats 1000000 in
theorem awake_any (w : World) : Calls Try.prog 20 #[] w fun e w' => e = .returned (.bool true) ∧ Below w.heap.size w w' := by
  have HP := Lib.hid (put_any (.slice none 0 0) [] 258 2 w (Sees.nil w) (Nat.zero_le _))
  go_enter Try.func20, Try.ntmps20
  go_wp2_with fail
  refine HP.out.mono ?_; rintro e w1 ⟨v1, rfl, ho1, hb1⟩
  rw [put258, List.nil_append] at ho1
  obtain ⟨g, c, rfl, -, -, hlc, hc, -⟩ := ho1.at (by simp)
  have c0 : w1.cell? ⟨g, 0, none⟩ = some (.int .u8 1) := hc 0 (by simp)
  have c1 : w1.cell? ⟨g, 1, none⟩ = some (.int .u8 2) := hc 1 (by simp)
  clear hc ho1
  go_wp2_with fail
  go_ret
  exact ⟨rfl, hb1⟩
end Go.Proofs.Ytkjdfelmjanpcaa
