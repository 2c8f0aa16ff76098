/- Package pack: a reader that reads texts, and one that is not there. -/
import Derived.Test.YtkjdfelmjanpcaaDoorPkR
namespace Go.Proofs.YtkjdfelmjanpcaaDoor
open Go.RowKit
def doneB (st : Option (List Int)) : Bool := !st.isNone && ((st.getD []).length : Int) == 0
set_option maxHeartbeats 400000 in
theorem u_nil (k : Int) (w : World) :
    Calls Tryd.prog 90 #[.pointer none, .int .i64 k] w fun e w' => e = .returned (.int .u64 0) ∧ w = w' := by
  by_cases hk : wOk k = true
  · have HM : Hid (∀ w, Calls Tryd.prog 95 #[.int .i64 k] w fun e w' => e = .returned (.bool true) ∧ w = w') := Lib.hid (fun w => by rw [← hk]; exact mayWidth_any k w)
    clear hk
    go_enter Tryd.func90, Tryd.ntmps90
    go_wp2_with fail
    refine (HM.out _).mono ?_; rintro e w1 ⟨rfl, rfl⟩
    go_wp2_with fail
    refine (bytes_nil _ _).mono ?_; rintro e w1 ⟨rfl, rfl⟩
    go_wp2_with fail
    refine wp_loop_rounds 1 ?_
    rw [rounds_succ]
    go_wp2
    go_ret
    exact ⟨rfl, rfl⟩
  · have hkf : wOk k = false := by simpa using hk
    have HM : Hid (∀ w, Calls Tryd.prog 95 #[.int .i64 k] w fun e w' => e = .returned (.bool false) ∧ w = w') := Lib.hid (fun w => by rw [← hkf]; exact mayWidth_any k w)
    clear hk hkf
    go_enter Tryd.func90, Tryd.ntmps90
    go_wp2_with fail
    refine (HM.out _).mono ?_; rintro e w1 ⟨rfl, rfl⟩
    go_wp2_with fail
    refine (spoil_nil _).mono ?_; rintro e w1 ⟨rfl, rfl⟩
    go_wp2_with fail
    go_ret
    exact ⟨rfl, rfl⟩
end Go.Proofs.YtkjdfelmjanpcaaDoor
