/- Package bits: a slot in, with, without; the first slots; the least and the greatest slot. -/
import Derived.Test.YtgodmnpcedfdcaaBkBt
namespace Go.Proofs.Ytgodmnpcedfdcaa
open Go.RowKit
abbrev M64 : Nat := 18446744073709551616
theorem and_lt {x y : Nat} (hx : x < M64) : x &&& y < M64 := Nat.lt_of_le_of_lt Nat.and_le_left hx
theorem or_lt {x y : Nat} (hx : x < M64) (hy : y < M64) : x ||| y < M64 := Nat.or_lt_two_pow (n := 64) hx hy
def hasB (x : Nat) (i : Int) : Bool := slotB i && x.testBit i.toNat
theorem bit_one (x : Nat) (i : Int) : (x &&& oneN i != 0) = hasB x i := by
  unfold oneN hasB
  cases hs : slotB i with
  | false => simp
  | true =>
    simp only [if_true, Bool.true_and]
    rw [nat_bit, Nat.testBit, Nat.shiftRight_eq_div_pow, Nat.and_comm, Nat.and_one_is_mod]
    have hp : 0 < 2 ^ i.toNat := Nat.pow_pos (by omega)
    rcases Nat.mod_two_eq_zero_or_one (x / 2 ^ i.toNat) with h | h
    · rw [h]; simp
    · rw [h, Nat.one_mul]; simp
theorem has_any (x : Nat) (i : Int) (hx : x < M64) (w : World) : Calls Try.prog 93 #[.int .u64 x, .int .i64 i] w fun e w' => e = .returned (.bool (hasB x i)) ∧ w = w' := by
  have HO := Lib.hid (one_any i w)
  have hb := u64_and_nat x (oneN i) hx (oneN_lt i)
  rw [← bit_one]
  generalize x &&& oneN i = r at *
  generalize oneN i = o at *
  have hq : (((r : Nat) : Int) == 0) = (r == 0) := by rw [Bool.eq_iff_iff]; simp
  cases hr : (r == 0) with
  | true =>
    have hv : (r != 0) = false := by simpa using hr
    rw [hv]
    rw [hr] at hq
    have h0 : (r : Int) = 0 := by simpa using hq
    clear hr hv
    go_enter Try.func93, Try.ntmps93
    go_wp2_with fail
    refine HO.out.mono ?_; rintro e w1 ⟨rfl, rfl⟩
    go_wp2_with fail
    go_ret
    exact ⟨rfl, rfl⟩
  | false =>
    have hv : (r != 0) = true := by simpa using hr
    rw [hv]
    rw [hr] at hq
    have h0 : ¬ (r : Int) = 0 := by simpa using hq
    have hq2 : ((r : Int) != 0) = true := by simpa using hq
    clear hr hv
    go_enter Try.func93, Try.ntmps93
    go_wp2_with fail
    refine HO.out.mono ?_; rintro e w1 ⟨rfl, rfl⟩
    go_wp2_with fail
    go_ret
    exact ⟨rfl, rfl⟩
theorem with_any (x : Nat) (i : Int) (hx : x < M64) (w : World) : Calls Try.prog 84 #[.int .u64 x, .int .i64 i] w fun e w' => e = .returned (.int .u64 ((x ||| oneN i : Nat) : Int)) ∧ w = w' := by
  have HO := Lib.hid (one_any i w)
  have hb := u64_or_nat x (oneN i) hx (oneN_lt i)
  generalize x ||| oneN i = r at *
  generalize oneN i = o at *
  go_enter Try.func84, Try.ntmps84
  go_wp2_with fail
  refine HO.out.mono ?_; rintro e w1 ⟨rfl, rfl⟩
  go_wp2_with fail
  go_ret
  exact ⟨rfl, rfl⟩
def allM (n : Int) : Nat := (min (max n 0) 64).toNat
theorem all_any (n : Int) (w : World) : Calls Try.prog 83 #[.int .i64 n] w fun e w' => e = .returned (.int .u64 ((2 ^ allM n - 1 : Nat) : Int)) ∧ w = w' := by
  have hm : min (max n 0) 64 = (allM n : Int) := by unfold allM; omega
  have hk : allM n ≤ 64 := by unfold allM; omega
  have hp : 2 ^ allM n ≤ 2 ^ 64 := Nat.pow_le_pow_right (by omega) hk
  have hp0 : 0 < 2 ^ allM n := Nat.pow_pos (by omega)
  have hv : IntKind.u64.wrap (IntKind.u64.wrap ((2 : Int) ^ allM n) - 1) = ((2 ^ allM n - 1 : Nat) : Int) := by
    rw [show ((2 : Int) ^ allM n) = ((2 ^ allM n : Nat) : Int) by simp, IntKind.wrap_u64, IntKind.wrap_u64]
    omega
  clear hp hp0
  generalize allM n = m at *
  have d0 : decide ((m : Int) < 0) = false := decide_eq_false (by omega)
  have HV := Lib.hid hv
  clear hv
  go_enter Try.func83, Try.ntmps83
  go_wp2
  go_ret
  exact ⟨by rw [← HV.out]; rfl, rfl⟩
end Go.Proofs.Ytgodmnpcedfdcaa
