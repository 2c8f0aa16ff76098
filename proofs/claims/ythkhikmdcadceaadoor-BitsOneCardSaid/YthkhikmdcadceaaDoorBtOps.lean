/- Package bits: a slot in, with, without; the first slots; the least and the greatest slot. -/
import Derived.Test.YthkhikmdcadceaaDoorBt
namespace Go.Proofs.YthkhikmdcadceaaDoor
open Go.RowKit
abbrev M64 : Nat := 18446744073709551616
theorem and_lt {x y : Nat} (hx : x < M64) : x &&& y < M64 := Nat.lt_of_le_of_lt Nat.and_le_left hx
theorem or_lt {x y : Nat} (hx : x < M64) (hy : y < M64) : x ||| y < M64 := Nat.or_lt_two_pow (n := 64) hx hy
def hasB (x : Nat) (i : Int) : Bool := slotB i && x.testBit i.toNat
theorem bit_one (x : Nat) (i : Int) : (x &&& oneN i != 0) = hasB x i := by
  unfold oneN hasB
  cases hs : slotB i with
  | false => simp
  | true =>
    simp only [if_true, Bool.true_and]
    rw [nat_bit, Nat.testBit, Nat.shiftRight_eq_div_pow, Nat.and_comm, Nat.and_one_is_mod]
    have hp : 0 < 2 ^ i.toNat := Nat.pow_pos (by omega)
    rcases Nat.mod_two_eq_zero_or_one (x / 2 ^ i.toNat) with h | h
    · rw [h]; simp
    · rw [h, Nat.one_mul]; simp
theorem has_any (x : Nat) (i : Int) (hx : x < M64) (w : World) : Calls Tryd.prog 15 #[.int .u64 x, .int .i64 i] w fun e w' => e = .returned (.bool (hasB x i)) ∧ w = w' := by
  have HO := Lib.hid (one_any i w)
  have hb := u64_and_nat x (oneN i) hx (oneN_lt i)
  rw [← bit_one]
  generalize x &&& oneN i = r at *
  generalize oneN i = o at *
  have hq : (((r : Nat) : Int) == 0) = (r == 0) := by rw [Bool.eq_iff_iff]; simp
  cases hr : (r == 0) with
  | true =>
    have hv : (r != 0) = false := by simpa using hr
    rw [hv]
    rw [hr] at hq
    have h0 : (r : Int) = 0 := by simpa using hq
    clear hr hv
    go_enter Tryd.func15, Tryd.ntmps15
    go_wp2_with fail
    refine HO.out.mono ?_; rintro e w1 ⟨rfl, rfl⟩
    go_wp2_with fail
    go_ret
    exact ⟨rfl, rfl⟩
  | false =>
    have hv : (r != 0) = true := by simpa using hr
    rw [hv]
    rw [hr] at hq
    have h0 : ¬ (r : Int) = 0 := by simpa using hq
    have hq2 : ((r : Int) != 0) = true := by simpa using hq
    clear hr hv
    go_enter Tryd.func15, Tryd.ntmps15
    go_wp2_with fail
    refine HO.out.mono ?_; rintro e w1 ⟨rfl, rfl⟩
    go_wp2_with fail
    go_ret
    exact ⟨rfl, rfl⟩
theorem with_any (x : Nat) (i : Int) (hx : x < M64) (w : World) : Calls Tryd.prog 16 #[.int .u64 x, .int .i64 i] w fun e w' => e = .returned (.int .u64 ((x ||| oneN i : Nat) : Int)) ∧ w = w' := by
  have HO := Lib.hid (one_any i w)
  have hb := u64_or_nat x (oneN i) hx (oneN_lt i)
  generalize x ||| oneN i = r at *
  generalize oneN i = o at *
  go_enter Tryd.func16, Tryd.ntmps16
  go_wp2_with fail
  refine HO.out.mono ?_; rintro e w1 ⟨rfl, rfl⟩
  go_wp2_with fail
  go_ret
  exact ⟨rfl, rfl⟩
theorem without_any (x : Nat) (i : Int) (hx : x < M64) (w : World) : Calls Tryd.prog 17 #[.int .u64 x, .int .i64 i] w fun e w' => e = .returned (.int .u64 ((x &&& (18446744073709551615 - oneN i) : Nat) : Int)) ∧ w = w' := by
  have HO := Lib.hid (one_any i w)
  have hb := u64_andNot_nat x (oneN i) hx (oneN_lt i)
  generalize x &&& (18446744073709551615 - oneN i) = r at *
  generalize oneN i = o at *
  go_enter Tryd.func17, Tryd.ntmps17
  go_wp2_with fail
  refine HO.out.mono ?_; rintro e w1 ⟨rfl, rfl⟩
  go_wp2_with fail
  go_ret
  exact ⟨rfl, rfl⟩
def allM (n : Int) : Nat := (min (max n 0) 64).toNat
theorem all_any (n : Int) (w : World) : Calls Tryd.prog 18 #[.int .i64 n] w fun e w' => e = .returned (.int .u64 ((2 ^ allM n - 1 : Nat) : Int)) ∧ w = w' := by
  have hm : min (max n 0) 64 = (allM n : Int) := by unfold allM; omega
  have hk : allM n ≤ 64 := by unfold allM; omega
  have hp : 2 ^ allM n ≤ 2 ^ 64 := Nat.pow_le_pow_right (by omega) hk
  have hp0 : 0 < 2 ^ allM n := Nat.pow_pos (by omega)
  have hv : IntKind.u64.wrap (IntKind.u64.wrap ((2 : Int) ^ allM n) - 1) = ((2 ^ allM n - 1 : Nat) : Int) := by
    rw [show ((2 : Int) ^ allM n) = ((2 ^ allM n : Nat) : Int) by simp, IntKind.wrap_u64, IntKind.wrap_u64]
    omega
  clear hp hp0
  generalize allM n = m at *
  have d0 : decide ((m : Int) < 0) = false := decide_eq_false (by omega)
  have HV := Lib.hid hv
  clear hv
  go_enter Tryd.func18, Tryd.ntmps18
  go_wp2
  go_ret
  exact ⟨by rw [← HV.out]; rfl, rfl⟩
set_option maxHeartbeats 1000000 in
theorem tz_core (x k idx : Nat) (w : World) (hx0 : ((x : Int) == 0) = false)
    (key : IntKind.u64.wrap (bits BinOp.and IntKind.u64 (x : Int) (IntKind.u64.wrap (-(x : Int))) * 285870213051353865) / 288230376151711744 = (idx : Int))
    (hi : idx < 64) (hk : k < 64) (hcell : w.cell? ⟨0, idx, none⟩ = some (.int .u8 k)) :
    Calls Tryd.prog 26 #[.int .u64 x] w fun e w' => e = .returned (.int .i64 k) ∧ w = w' := by
  go_enter Tryd.func26, Tryd.ntmps26
  go_wp2_with (simp only [key])
  go_ret
  exact ⟨rfl, rfl⟩
theorem ctz_any (x : Nat) (hx : x < M64) (w : World) (hE : Env w) :
    Calls Tryd.prog 26 #[.int .u64 x] w fun e w' => e = .returned (.int .i64 (Lib.ctz 64 x)) ∧ w = w' := by
  by_cases hx0 : x = 0
  · subst hx0
    have hc : ((Lib.ctz 64 0 : Nat) : Int) = 64 := rfl
    rw [hc]
    go_enter Tryd.func26, Tryd.ntmps26
    go_wp2
    go_ret
    exact ⟨rfl, rfl⟩
  · obtain ⟨hlow, hk⟩ := Lib.lowest_bit 64 x hx0 hx
    obtain ⟨hi, htab⟩ := Lib.deBruijn64_at _ hk
    have hcell := hE.tabAt _ hi
    rw [htab] at hcell
    exact tz_core x _ _ w (by simp; omega) (tz64_key x _ hx hx0 hlow) hi hk hcell
theorem low_any (x : Nat) (hx : x < M64) (w : World) (hE : Env w) :
    Calls Tryd.prog 19 #[.int .u64 x] w fun e w' => e = .returned (if x = 0 then .tuple #[.int .i64 0, .bool false] else .tuple #[.int .i64 (Lib.ctz 64 x), .bool true]) ∧ w = w' := by
  have HC := Lib.hid (ctz_any x hx w hE)
  by_cases h0 : x = 0
  · rw [if_pos h0]
    subst h0
    go_enter Tryd.func19, Tryd.ntmps19
    go_wp2_with fail
    go_ret2
    exact ⟨rfl, rfl⟩
  · rw [if_neg h0]
    have d0 : ((x : Int) == 0) = false := by simp; omega
    generalize Lib.ctz 64 x = c at *
    go_enter Tryd.func19, Tryd.ntmps19
    go_wp2_with fail
    refine HC.out.mono ?_; rintro e w1 ⟨rfl, rfl⟩
    go_wp2_with fail
    go_ret2
    exact ⟨rfl, rfl⟩
theorem high_any (x : Nat) (hx : x < M64) (w : World) :
    Calls Tryd.prog 20 #[.int .u64 x] w fun e w' => e = .returned (if x = 0 then .tuple #[.int .i64 0, .bool false] else .tuple #[.int .i64 ((Lib.bitLen x : Int) - 1), .bool true]) ∧ w = w' := by
  have hx' : x < 18446744073709551616 := hx
  have HC : Hid (Calls Tryd.prog 27 #[.int .u64 x] w fun e w' => e = .returned (.int .i64 (Lib.bitLen x)) ∧ w' = w) := Lib.hid (by
    have h := Tryd.bits_Len64 (x : Int) w (by omega) (by omega)
    rw [show ((x : Int)).toNat = x by omega] at h
    exact h)
  have hbl : Lib.bitLen x ≤ 64 := Lib.bitLen_le x 64 (by omega) hx
  by_cases h0 : x = 0
  · rw [if_pos h0]
    subst h0
    go_enter Tryd.func20, Tryd.ntmps20
    go_wp2_with fail
    go_ret2
    exact ⟨rfl, rfl⟩
  · rw [if_neg h0]
    have d0 : ((x : Int) == 0) = false := by simp; omega
    generalize Lib.bitLen x = c at *
    go_enter Tryd.func20, Tryd.ntmps20
    go_wp2_with fail
    refine HC.out.mono ?_; rintro e w1 ⟨rfl, rfl⟩
    go_wp2_with fail
    go_ret2
    exact ⟨rfl, rfl⟩
end Go.Proofs.YthkhikmdcadceaaDoor
