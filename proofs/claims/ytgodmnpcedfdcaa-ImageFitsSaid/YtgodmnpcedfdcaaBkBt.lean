/- Package bits: slots, sets of one slot, what is in a set. -/
import Derived.Test.YtgodmnpcedfdcaaPk
import Derived.Test.YtgodmnpcedfdcaaShelf
import Derived.WalkKit
import Derived.WalkSmall
import Derived.IntWalk
import Derived.Laws.BitsAllLaws
import Derived.Lib.Hide
namespace Go.Proofs.Ytgodmnpcedfdcaa
open Go.RowKit
def slotB (i : Int) : Bool := decide (0 ≤ i) && decide (i < 64)
/-- The set of a slot alone. -/
def oneN (i : Int) : Nat := if slotB i = true then 2 ^ i.toNat else 0
theorem isSlot_any (i : Int) (w : World) : Calls Try.prog 115 #[.int .i64 i] w fun e w' => e = .returned (.bool (slotB i)) ∧ w = w' := by
  by_cases h1 : 0 ≤ i
  · have d1 : decide (0 ≤ i) = true := decide_eq_true h1
    unfold slotB
    rw [d1, Bool.true_and]
    generalize hq : decide (i < 64) = q
    go_enter Try.func115, Try.ntmps115
    go_wp2
    go_ret
    exact ⟨rfl, rfl⟩
  · have d1 : decide (0 ≤ i) = false := decide_eq_false h1
    unfold slotB
    rw [d1, Bool.false_and]
    go_enter Try.func115, Try.ntmps115
    go_wp2
    go_ret
    exact ⟨rfl, rfl⟩
theorem pow_lt64 {k : Nat} (h : k < 64) : 2 ^ k < 18446744073709551616 := by
  have : 2 ^ k < 2 ^ 64 := Nat.pow_lt_pow_right (by omega) h
  simpa using this
theorem oneN_lt (i : Int) : oneN i < 18446744073709551616 := by
  unfold oneN slotB
  split
  · rename_i h
    simp only [Bool.and_eq_true, decide_eq_true_eq] at h
    exact pow_lt64 (by omega)
  · omega
theorem one_any (i : Int) (w : World) : Calls Try.prog 109 #[.int .i64 i] w fun e w' => e = .returned (.int .u64 (oneN i)) ∧ w = w' := by
  have HS := Lib.hid (isSlot_any i w)
  cases hs : slotB i with
  | false =>
    have hv : oneN i = 0 := by unfold oneN; rw [hs]; rfl
    rw [hs] at HS
    rw [hv]
    clear hs hv
    go_enter Try.func109, Try.ntmps109
    go_wp2_with fail
    refine HS.out.mono ?_; rintro e w1 ⟨rfl, rfl⟩
    go_wp2_with fail
    go_ret
    exact ⟨rfl, rfl⟩
  | true =>
    have hb : 0 ≤ i ∧ i < 64 := by
      unfold slotB at hs
      simpa only [Bool.and_eq_true, decide_eq_true_eq] using hs
    have hv : oneN i = 2 ^ i.toNat := by unfold oneN; rw [hs]; rfl
    have hl := pow_lt64 (k := i.toNat) (by omega)
    rw [hs] at HS
    have HV : Hid ((oneN i : Int) = (2 : Int) ^ i.toNat) := Lib.hid (by rw [hv]; simp)
    have hm : (2 : Int) ^ i.toNat % 18446744073709551616 = 2 ^ i.toNat := by
      have h2 : ((2 ^ i.toNat : Nat) : Int) < 18446744073709551616 := by omega
      rw [Int.natCast_pow] at h2
      exact Int.emod_eq_of_lt (Int.le_of_lt (Int.pow_pos (by omega))) h2
    have d0 : decide (i < 0) = false := decide_eq_false (by omega)
    clear hs hv hl
    go_enter Try.func109, Try.ntmps109
    go_wp2_with fail
    refine HS.out.mono ?_; rintro e w1 ⟨rfl, rfl⟩
    go_wp2_with fail
    go_ret
    exact ⟨by rw [HV.out]; rfl, rfl⟩
end Go.Proofs.Ytgodmnpcedfdcaa
