/- The walk of IpAdd, with the contracts of Between and Add. -/
import Derived.Test.YtdhkacejefkejaaDoorIp
namespace Go.Proofs.YtdhkacejefkejaaDoor
open Go.RowKit
set_option maxHeartbeats 400000 in
theorem between_any (a b : Int) (ha : 0 ≤ a) (ha' : a < 4294967296) (hb : 0 ≤ b) (hb' : b < 4294967296) (w : World) :
    Calls Tryd.prog 22 #[.int .u32 a, .int .u32 b] w fun e w' => e = .returned (.int .i64 (b - a)) ∧ w = w' := by
  go_enter Tryd.func22, Tryd.ntmps22
  go_wp2
  go_ret
  exact ⟨rfl, rfl⟩
set_option maxHeartbeats 400000 in
theorem add_yes (a n : Int) (ha : 0 ≤ a) (ha' : a < 4294967296) (h0 : -a ≤ n) (h1 : n ≤ 4294967295 - a) (w : World) :
    Calls Tryd.prog 23 #[.int .u32 a, .int .i64 n] w fun e w' => e = .returned (.tuple #[.int .u32 (a + n), .int .i64 0]) ∧ w = w' := by
  have d0 : decide (n < -a) = false := by simp; omega
  have d1 : decide (4294967295 - a < n) = false := by simp; omega
  go_enter Tryd.func23, Tryd.ntmps23
  go_wp2
  go_ret2
  exact ⟨rfl, rfl⟩
set_option maxHeartbeats 400000 in
theorem add_no (a n : Int) (ha : 0 ≤ a) (ha' : a < 4294967296) (h : n < -a ∨ 4294967295 - a < n) (w : World) :
    Calls Tryd.prog 23 #[.int .u32 a, .int .i64 n] w fun e w' => e = .returned (.tuple #[.int .u32 0, .int .i64 1]) ∧ w = w' := by
  by_cases h0 : n < -a
  · have d0 : decide (n < -a) = true := by simpa using h0
    go_enter Tryd.func23, Tryd.ntmps23
    go_wp2
    go_ret2
    exact ⟨rfl, rfl⟩
  · have d0 : decide (n < -a) = false := by simpa using h0
    have d1 : decide (4294967295 - a < n) = true := by simp; omega
    go_enter Tryd.func23, Tryd.ntmps23
    go_wp2
    go_ret2
    exact ⟨rfl, rfl⟩
set_option maxHeartbeats 1000000 in
theorem lawAdd (a b n : Int) (ha : 0 ≤ a) (ha' : a < 4294967296) (hb : 0 ≤ b) (hb' : b < 4294967296) (hn : -9223372036854775808 ≤ n) (hn' : n ≤ 9223372036854775807) (w : World) (hE : Env w) :
    Calls Tryd.prog 6 #[.int .u32 a, .int .u32 b, .int .i64 n] w fun e w' => e = .returned (.bool true) ∧ Below w.heap.size w w' := by
  have H1 := Lib.hid (add_yes a (b - a) ha ha' (by omega) (by omega))
  by_cases hin : -a ≤ n ∧ n ≤ 4294967295 - a
  · obtain ⟨h0, h1⟩ := hin
    have d0 : decide (-a ≤ n) = true := by simpa using h0
    have d1 : decide (n ≤ 4294967295 - a) = true := by simpa using h1
    have e1 : a + (b - a) = b := by omega
    have e2 : a + n - a = n := by omega
    have E1 := Lib.hid e1
    have E2 := Lib.hid e2
    clear e1 e2
    go_enter Tryd.func6, Tryd.ntmps6
    go_wp2_with fail
    refine (between_any a b ha ha' hb hb' _).mono ?_; rintro e w' ⟨rfl, rfl⟩
    go_wp2_with fail
    refine (H1.out _).mono ?_; rintro e w' ⟨rfl, rfl⟩
    rw [E1.out]
    go_wp2_with fail
    refine (add_yes a n ha ha' h0 h1 _).mono ?_; rintro e w' ⟨rfl, rfl⟩
    go_wp2_with fail
    refine (between_any a (a + n) ha ha' (by omega) (by omega) _).mono ?_; rintro e w' ⟨rfl, rfl⟩
    rw [E2.out]
    go_wp2_with fail
    refine (awake_any _ hE).mono ?_; rintro e w' ⟨rfl, hb⟩
    go_wp2
    go_ret
    exact ⟨rfl, hb⟩
  · have hout : n < -a ∨ 4294967295 - a < n := by omega
    have e1 : a + (b - a) = b := by omega
    have E1 := Lib.hid e1
    clear e1
    have H2 := Lib.hid (add_no a n ha ha' hout)
    rcases hout with h | h
    case' inl => have d0 : decide (-a ≤ n) = false := by simp; omega
    case' inr =>
      have d0 : decide (-a ≤ n) = true := by simp; omega
      have d1 : decide (n ≤ 4294967295 - a) = false := by simp; omega
    all_goals
      clear hin
      go_enter Tryd.func6, Tryd.ntmps6
      go_wp2_with fail
      refine (between_any a b ha ha' hb hb' _).mono ?_; rintro e w' ⟨rfl, rfl⟩
      go_wp2_with fail
      refine (H1.out _).mono ?_; rintro e w' ⟨rfl, rfl⟩
      rw [E1.out]
      go_wp2_with fail
      refine (H2.out _).mono ?_; rintro e w' ⟨rfl, rfl⟩
      go_wp2_with fail
      refine (awake_any _ hE).mono ?_; rintro e w' ⟨rfl, hb⟩
      go_wp2
      go_ret
      exact ⟨rfl, hb⟩
end Go.Proofs.YtdhkacejefkejaaDoor
