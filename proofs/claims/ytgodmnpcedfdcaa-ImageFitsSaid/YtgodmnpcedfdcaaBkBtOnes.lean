/- Package bits: Len. -/
import Derived.Test.YtgodmnpcedfdcaaBkBtLen
namespace Go.Proofs.Ytgodmnpcedfdcaa
open Go.RowKit
theorem i64_and127 (v : Nat) (hv : v < 9223372036854775808) : bits .and .i64 (v : Int) 127 = ((v % 128 : Nat) : Int) := by
  have h1 : (BitVec.ofInt 64 (v : Int)).toNat = v := ofInt_u64 v (by omega)
  have h2 : (BitVec.ofInt 64 (127 : Int)).toNat = 127 := ofInt_u64 127 (by omega)
  show IntKind.i64.wrap ((BitVec.ofInt 64 (v : Int) &&& BitVec.ofInt 64 (127 : Int)).toNat : Int) = _
  rw [BitVec.toNat_and, h1, h2, show (127 : Nat) = 2 ^ 7 - 1 from rfl, Nat.and_two_pow_sub_one_eq_mod]
  exact IntWalk.i64_in _ (by omega)
theorem and_nat (a m : Nat) (ha : a < M64) (hm : m < M64) : bits .and .u64 (a : Int) (m : Int) = ((a &&& m : Nat) : Int) := u64_and_nat a m ha hm
theorem wrap_nat (a : Nat) (h : a < M64) : IntKind.u64.wrap (a : Int) = (a : Int) := IntWalk.u64_in _ (by have h' : a < 18446744073709551616 := h; omega)
set_option maxRecDepth 10000 in
set_option maxHeartbeats 1000000 in
theorem ones_core (x A B y1 C D y2 E y3 Y Z V R : Nat) (w : World)
    (a1 : bits .and .u64 ((x : Int) / 2) 6148914691236517205 = (A : Int)) (a2 : bits .and .u64 (x : Int) 6148914691236517205 = (B : Int)) (a3 : IntKind.u64.wrap ((A : Int) + (B : Int)) = (y1 : Int))
    (b1 : bits .and .u64 ((y1 : Int) / 4) 3689348814741910323 = (C : Int)) (b2 : bits .and .u64 (y1 : Int) 3689348814741910323 = (D : Int)) (b3 : IntKind.u64.wrap ((C : Int) + (D : Int)) = (y2 : Int))
    (c1 : IntKind.u64.wrap ((y2 : Int) / 16 + (y2 : Int)) = (E : Int)) (c2 : bits .and .u64 (E : Int) 1085102592571150095 = (y3 : Int))
    (d1 : IntKind.u64.wrap ((y3 : Int) + (y3 : Int) / 256) = (Y : Int)) (d2 : IntKind.u64.wrap ((Y : Int) + (Y : Int) / 65536) = (Z : Int)) (d3 : IntKind.u64.wrap ((Z : Int) + (Z : Int) / 4294967296) = (V : Int))
    (hV : (V : Int) ≤ 9223372036854775807) (e1 : bits .and .i64 (V : Int) 127 = (R : Int)) :
    Calls Try.prog 110 #[.int .u64 x] w fun e w' => e = .returned (.int .i64 R) ∧ w = w' := by
  go_enter Try.func110, Try.ntmps110
  go_wp2
  go_ret
  exact ⟨rfl, rfl⟩
theorem ones_any (x : Nat) (hx : x < M64) (w : World) :
    Calls Try.prog 110 #[.int .u64 x] w fun e w' => e = .returned (.int .i64 ((mem x).length : Int)) ∧ w = w' := by
  have hx' : x < 18446744073709551616 := hx
  obtain ⟨l1, l2⟩ := w12_lt hx
  have s1 := step1 hx
  have s2 := step2 hx
  have s3 := step3 hx
  obtain ⟨p0, p1, p2, p3, p4, p5, p6, p7, hp, k0, k1, k2, k3, k4, k5, k6, k7⟩ := byte8_bd x hx
  obtain ⟨X, Y, Z, V, hX, hY, hZ, hV, v1, v2, v3, v4, v5⟩ := fold8 k0 k1 k2 k3 k4 k5 k6 k7
  have hw3 : w3 x = X := by unfold w3; rw [hp, hX]
  have hlen : (mem x).length = V % 128 := by
    rw [mem_length hx, hp, v5]
    simp only [List.sum_cons, List.sum_nil]
    omega
  rw [hw3] at s3
  rw [hlen]
  have e1 : x / 2 < M64 := by show x / 2 < 18446744073709551616; omega
  have e2 : w1 x < M64 := by show w1 x < 18446744073709551616; omega
  have e3 : w1 x / 4 < M64 := by show w1 x / 4 < 18446744073709551616; omega
  have e4 : w2 x / 16 + w2 x < M64 := by show _ < 18446744073709551616; omega
  have q (a b : Nat) (h : a = b) : (a : Int) = (b : Int) := by rw [h]
  refine ones_core x (x / 2 &&& 6148914691236517205) (x &&& 6148914691236517205) (w1 x) (w1 x / 4 &&& 3689348814741910323) (w1 x &&& 3689348814741910323) (w2 x) (w2 x / 16 + w2 x) X Y Z V (V % 128) w
    (and_nat _ 6148914691236517205 e1 (by decide)) (and_nat _ 6148914691236517205 hx (by decide)) ?_ (and_nat _ 3689348814741910323 e3 (by decide)) (and_nat _ 3689348814741910323 e2 (by decide)) ?_ ?_ ?_ ?_ ?_ ?_ (by omega) (i64_and127 V v1)
  · have h := wrap_nat (w1 x) e2
    rw [← s1, Int.natCast_add] at h
    rw [← s1, Int.natCast_add]
    exact h
  · have h := wrap_nat (w2 x) (by show _ < 18446744073709551616; omega)
    rw [← s2, Int.natCast_add] at h
    rw [← s2, Int.natCast_add]
    exact h
  · have h := wrap_nat (w2 x / 16 + w2 x) e4
    rw [Int.natCast_add] at h
    rw [Int.natCast_add]
    exact h
  · rw [← s3]
    exact and_nat _ 1085102592571150095 e4 (by decide)
  · have h := wrap_nat Y (by show _ < 18446744073709551616; omega)
    rw [← hY, Int.natCast_add] at h
    rw [← hY, Int.natCast_add]
    exact h
  · have h := wrap_nat Z (by show _ < 18446744073709551616; omega)
    rw [← hZ, Int.natCast_add] at h
    rw [← hZ, Int.natCast_add]
    exact h
  · have h := wrap_nat V (by show _ < 18446744073709551616; omega)
    rw [← hV, Int.natCast_add] at h
    rw [← hV, Int.natCast_add]
    exact h
theorem len_any (x : Nat) (hx : x < M64) (w : World) :
    Calls Try.prog 85 #[.int .u64 x] w fun e w' => e = .returned (.int .i64 ((mem x).length : Int)) ∧ w = w' := by
  have HO := Lib.hid (ones_any x hx w)
  generalize (mem x).length = n at *
  go_enter Try.func85, Try.ntmps85
  go_wp2_with fail
  refine HO.out.mono ?_; rintro e w1 ⟨rfl, rfl⟩
  go_wp2_with fail
  go_ret
  exact ⟨rfl, rfl⟩
end Go.Proofs.Ytgodmnpcedfdcaa
