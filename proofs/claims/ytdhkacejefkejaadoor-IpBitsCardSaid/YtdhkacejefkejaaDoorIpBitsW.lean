/- The walk of IpBits: bits of an address, and how many two have alike at the beginning. -/
import Derived.Test.YtdhkacejefkejaaDoorIp
namespace Go.Proofs.YtdhkacejefkejaaDoor
open Go.RowKit
/-- Bit i of a, 0 the highest one of 32. -/
def bitB (a i : Int) : Bool := decide (0 ≤ i ∧ i < 32) && a.toNat.testBit (31 - i).toNat
theorem and1 (x : Int) (hx : 0 ≤ x) (hx' : x < 4294967296) : bits .and .u32 x 1 = x % 2 := by
  rw [u32_and x 1 hx hx' (by omega) (by omega), show (1 : Int).toNat = 1 from rfl, nat_mask1]
  omega
theorem div_pow_bd (a : Int) (ha : 0 ≤ a) (ha' : a < 4294967296) (k : Nat) : 0 ≤ a / 2 ^ k ∧ a / 2 ^ k < 4294967296 := by
  have hp : (0 : Int) < 2 ^ k := Int.pow_pos (by omega)
  refine ⟨Int.ediv_nonneg ha (Int.le_of_lt hp), ?_⟩
  have := Int.ediv_le_self (2 ^ k) ha
  omega
theorem bit_eq (a : Int) (ha : 0 ≤ a) (k : Nat) : (a / 2 ^ k % 2 == 1) = a.toNat.testBit k := by
  obtain ⟨n, rfl⟩ := Int.eq_ofNat_of_zero_le ha
  rw [Int.toNat_natCast, Nat.testBit_eq_decide_div_mod_eq]
  have : ((n : Int) / 2 ^ k % 2) = ((n / 2 ^ k % 2 : Nat) : Int) := by simp
  rw [this, Bool.eq_iff_iff]
  simp; omega
theorem bitB_in (a i : Int) (ha : 0 ≤ a) (ha' : a < 4294967296) (h0 : 0 ≤ i) (h1 : i < 32) : (bits .and .u32 (a / 2 ^ (31 - i).toNat) 1 == 1) = bitB a i := by
  have := div_pow_bd a ha ha' (31 - i).toNat
  rw [and1 _ this.1 this.2, bit_eq a ha]
  unfold bitB
  rw [decide_eq_true ⟨h0, h1⟩, Bool.true_and]
theorem bitB_out (a i : Int) (h : ¬ (0 ≤ i ∧ i < 32)) : bitB a i = false := by unfold bitB; rw [decide_eq_false h, Bool.false_and]
set_option maxHeartbeats 400000 in
theorem bit_any (a i : Int) (ha : 0 ≤ a) (ha' : a < 4294967296) (w : World) :
    Calls Tryd.prog 24 #[.int .u32 a, .int .i64 i] w fun e w' => e = .returned (.bool (bitB a i)) ∧ w = w' := by
  by_cases h0 : 0 ≤ i
  · by_cases h1 : i < 32
    · have d0 : decide (0 ≤ i) = true := by simpa using h0
      have d1 : decide (i < 32) = true := by simpa using h1
      have HV := Lib.hid (bitB_in a i ha ha' h0 h1)
      go_enter Tryd.func24, Tryd.ntmps24
      go_wp2
      go_ret
      exact ⟨congrArg (fun b => Ending.returned (.bool b)) HV.out, rfl⟩
    · have d0 : decide (0 ≤ i) = true := by simpa using h0
      have d1 : decide (i < 32) = false := by simpa using h1
      have HV := Lib.hid (bitB_out a i (by omega))
      go_enter Tryd.func24, Tryd.ntmps24
      go_wp2
      go_ret
      exact ⟨congrArg (fun b => Ending.returned (.bool b)) HV.out.symm, rfl⟩
  · have d0 : decide (0 ≤ i) = false := by simpa using h0
    have HV := Lib.hid (bitB_out a i (by omega))
    go_enter Tryd.func24, Tryd.ntmps24
    go_wp2
    go_ret
    exact ⟨congrArg (fun b => Ending.returned (.bool b)) HV.out.symm, rfl⟩
theorem div_div2 (a : Int) (k : Nat) : a / 2 ^ k / 2 = a / 2 ^ (k + 1) := by
  rw [Int.pow_succ, Int.ediv_ediv_of_nonneg (Int.le_of_lt (Int.pow_pos (by omega)))]
set_option maxHeartbeats 400000 in
theorem refBit_any (a i : Int) (ha : 0 ≤ a) (ha' : a < 4294967296) (w : World) :
    Calls Tryd.prog 25 #[.int .u32 a, .int .i64 i] w fun e w' => e = .returned (.bool (bitB a i)) ∧ w = w' := by
  by_cases h0 : 0 ≤ i
  · by_cases h1 : i < 32
    · have d0 : decide (i < 0) = false := by simp; omega
      have d1 : decide (31 < i) = false := by simp; omega
      go_enter Tryd.func25, Tryd.ntmps25
      go_wp2
      go_loop [5, 6] (fun v k => ∃ j : Nat, i + j ≤ 31 ∧ k = .int .i64 (i + j) ∧ v = .int .i64 (a / 2 ^ j)) (fun _ k => (31 - intOf k).toNat)
      case atStart => exact ⟨0, by omega, by simp, by simp⟩
      case round =>
        obtain ⟨j, hj, rfl, rfl⟩ := hrel
        obtain ⟨q1, q2⟩ := div_pow_bd a ha ha' j
        by_cases hlt : i + j < 31
        · go_wp2
          go_round
          case rel => exact ⟨j + 1, by omega, by rw [show i + ((j + 1 : Nat) : Int) = i + j + 1 from by omega], by rw [div_div2 a]⟩
          case measure => simp [intOf]; omega
        · have hV : (a / 2 ^ j % 2 == 1) = bitB a i := by
            rw [bit_eq a ha]
            unfold bitB
            rw [decide_eq_true ⟨h0, h1⟩, Bool.true_and, show (31 - i).toNat = j from by omega]
          have HV := Lib.hid hV
          clear hV
          go_wp2
          go_ret
          exact ⟨congrArg (fun b => Ending.returned (.bool b)) HV.out, rfl⟩
    · have d0 : decide (i < 0) = false := by simp; omega
      have d1 : decide (31 < i) = true := by simp; omega
      have HV := Lib.hid (bitB_out a i (by omega))
      go_enter Tryd.func25, Tryd.ntmps25
      go_wp2
      go_ret
      exact ⟨congrArg (fun b => Ending.returned (.bool b)) HV.out.symm, rfl⟩
  · have d0 : decide (i < 0) = true := by simp; omega
    have HV := Lib.hid (bitB_out a i (by omega))
    go_enter Tryd.func25, Tryd.ntmps25
    go_wp2
    go_ret
    exact ⟨congrArg (fun b => Ending.returned (.bool b)) HV.out.symm, rfl⟩
/-- How many bits two have alike at the beginning. -/
def leadI (a b : Int) : Int := 32 - (Lib.bitLen (a.toNat ^^^ b.toNat) : Int)
set_option maxHeartbeats 400000 in
theorem lead_any (a b : Int) (ha : 0 ≤ a) (ha' : a < 4294967296) (hb : 0 ≤ b) (hb' : b < 4294967296) (w : World) :
    Calls Tryd.prog 26 #[.int .u32 a, .int .u32 b] w fun e w' => e = .returned (.int .i64 (leadI a b)) ∧ w = w' := by
  have hx := Nat.xor_lt_two_pow (x := a.toNat) (y := b.toNat) (n := 32) (by omega) (by omega)
  have HX := Lib.hid (u32_xor a b ha ha' hb hb')
  go_enter Tryd.func26, Tryd.ntmps26
  go_wp2_with fail
  rw [HX.out]
  refine (Tryd.bits_LeadingZeros32 _ _ (by omega) (by omega)).mono ?_
  rintro e w' ⟨rfl, rfl⟩
  rw [Int.toNat_natCast]
  go_wp2
  go_ret
  exact ⟨rfl, rfl⟩
theorem bitLen_is {x k : Nat} (hk : k ≤ 32) (hlt : x < 2 ^ (32 - k)) (hge : k = 32 ∨ 2 ^ (31 - k) ≤ x) : Lib.bitLen x = 32 - k := by
  have h1 := Lib.bitLen_le x (32 - k) (by omega) hlt
  rcases hge with rfl | hge
  · omega
  · have hx : x ≠ 0 := by have := Nat.two_pow_pos (31 - k); omega
    have h64 : x < 2 ^ 64 := Nat.lt_of_lt_of_le hlt (Nat.pow_le_pow_right (by omega) (by omega))
    obtain ⟨b1, _, b3⟩ := Lib.bitLenAux_bounds 64 x h64 hx
    have b3' : x < 2 ^ Lib.bitLen x := b3
    rcases Nat.lt_or_ge (Lib.bitLen x) (32 - k) with hh | hh
    · have := Nat.pow_le_pow_right (n := 2) (by omega) (show Lib.bitLen x ≤ 31 - k by omega)
      omega
    · omega
theorem same_xor {a b : Int} {k : Nat} (hk : k < 32) : (bitB a k == bitB b k) = !(a.toNat ^^^ b.toNat).testBit (31 - k) := by
  unfold bitB
  rw [decide_eq_true ⟨by omega, by omega⟩, Bool.true_and, Bool.true_and, Nat.testBit_xor, show (31 - (k : Int)).toNat = 31 - k from by omega]
  cases a.toNat.testBit (31 - k) <;> cases b.toNat.testBit (31 - k) <;> rfl
theorem lead_is {a b : Int} (ha : 0 ≤ a) (ha' : a < 4294967296) (hb : 0 ≤ b) (hb' : b < 4294967296) {k : Nat} (hk : k ≤ 32) (hs : ∀ j, j < k → (bitB a j == bitB b j) = true) (he : k = 32 ∨ (bitB a k == bitB b k) = false) : leadI a b = k := by
  have hx : a.toNat ^^^ b.toNat < 2 ^ 32 := Nat.xor_lt_two_pow (by omega) (by omega)
  have hlt : a.toNat ^^^ b.toNat < 2 ^ (32 - k) := by
    refine Nat.lt_pow_two_of_testBit _ fun i hi => ?_
    rcases Nat.lt_or_ge i 32 with h | h
    · have := hs (31 - i) (by omega)
      rw [same_xor (by omega), show 31 - (31 - i) = i from by omega] at this
      simpa using this
    · exact Nat.testBit_lt_two_pow (Nat.lt_of_lt_of_le hx (Nat.pow_le_pow_right (by omega) h))
  have hge : k = 32 ∨ 2 ^ (31 - k) ≤ a.toNat ^^^ b.toNat := by
    rcases he with h | h
    · exact .inl h
    · rcases Nat.lt_or_ge k 32 with h2 | h2
      · rw [same_xor h2] at h
        exact .inr (Nat.ge_two_pow_of_testBit (by simpa using h))
      · exact .inl (by omega)
  unfold leadI
  rw [bitLen_is hk hlt hge]
  omega
set_option maxHeartbeats 400000 in
theorem refLead_any (a b : Int) (ha : 0 ≤ a) (ha' : a < 4294967296) (hb : 0 ≤ b) (hb' : b < 4294967296) (w : World) :
    Calls Tryd.prog 27 #[.int .u32 a, .int .u32 b] w fun e w' => e = .returned (.int .i64 (leadI a b)) ∧ w = w' := by
  go_enter Tryd.func27, Tryd.ntmps27
  go_wp2
  go_loop [5] (fun n => ∃ k : Nat, k ≤ 32 ∧ n = .int .i64 k ∧ Hid (∀ j : Nat, j < k → (bitB a j == bitB b j) = true)) (fun n => (32 - intOf n).toNat)
  case atStart => exact ⟨0, by omega, rfl, Lib.hid (fun j hj => absurd hj (by omega))⟩
  case round =>
    obtain ⟨k, hk, rfl, HS⟩ := hrel
    by_cases hlt : k < 32
    · have d0 : decide ((k : Int) < 32) = true := by simp; omega
      by_cases hbk : (bitB a k == bitB b k) = true
      · have HB := Lib.hid hbk
        go_wp2_with fail
        refine (refBit_any a k ha ha' _).mono ?_; rintro e w' ⟨rfl, rfl⟩
        go_wp2_with fail
        refine (refBit_any b k hb hb' _).mono ?_; rintro e w' ⟨rfl, rfl⟩
        go_wp2
        go_round
        case rel => exact ⟨k + 1, by omega, by go_num, Lib.hid (fun j hj => by
          rcases Nat.lt_or_ge j k with h | h
          · exact HS.out j h
          · obtain rfl : j = k := by omega
            exact HB.out)⟩
        case measure => simp [intOf]; omega
      · have hbf : (bitB a k == bitB b k) = false := by simpa using hbk
        have HV := Lib.hid (lead_is ha ha' hb hb' hk HS.out (.inr hbf))
        clear hbk
        go_wp2_with fail
        refine (refBit_any a k ha ha' _).mono ?_; rintro e w' ⟨rfl, rfl⟩
        go_wp2_with fail
        refine (refBit_any b k hb hb' _).mono ?_; rintro e w' ⟨rfl, rfl⟩
        go_wp2
        go_ret
        exact ⟨congrArg (fun n => Ending.returned (.int .i64 n)) HV.out.symm, rfl⟩
    · have d0 : decide ((k : Int) < 32) = false := by simp; omega
      have HV := Lib.hid (lead_is ha ha' hb hb' hk HS.out (.inl (by omega)))
      go_wp2
      go_ret
      exact ⟨congrArg (fun n => Ending.returned (.int .i64 n)) HV.out.symm, rfl⟩
set_option maxHeartbeats 1000000 in
theorem lawBits (a b i : Int) (ha : 0 ≤ a) (ha' : a < 4294967296) (hb : 0 ≤ b) (hb' : b < 4294967296) (w : World) (hE : Env w) :
    Calls Tryd.prog 7 #[.int .u32 a, .int .u32 b, .int .i64 i] w fun e w' => e = .returned (.bool true) ∧ Below w.heap.size w w' := by
  have e1 : (bitB a i == bitB a i) = true := by simp
  have e2 : (leadI a b == leadI a b) = true := by simp
  go_enter Tryd.func7, Tryd.ntmps7
  go_wp2_with fail
  refine (bit_any a i ha ha' _).mono ?_; rintro e w' ⟨rfl, rfl⟩
  go_wp2_with fail
  refine (refBit_any a i ha ha' _).mono ?_; rintro e w' ⟨rfl, rfl⟩
  go_wp2_with fail
  refine (lead_any a b ha ha' hb hb' _).mono ?_; rintro e w' ⟨rfl, rfl⟩
  go_wp2_with fail
  refine (refLead_any a b ha ha' hb hb' _).mono ?_; rintro e w' ⟨rfl, rfl⟩
  go_wp2_with fail
  refine (awake_any _ hE).mono ?_; rintro e w' ⟨rfl, hb⟩
  go_wp2
  go_ret
  exact ⟨rfl, hb⟩
end Go.Proofs.YtdhkacejefkejaaDoor
