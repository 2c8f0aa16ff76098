/- Package recs: a pool's blocks, from a seed on, too. -/
import Derived.Test.YtcfmknocpjjklaaRcRefs
namespace Go.Proofs.Ytcfmknocpjjklaa
open Go.RowKit
def nB (a b : Int) : Int := if rightB a b = true then countI a b 26 else 0
theorem hole26 : hole 26 = 64 := by decide
theorem right_may {a b : Int} (h : rightB a b = true) : mayB a b = true ∧ 16 ≤ b ∧ b ≤ 26 := by
  unfold rightB at h
  simp only [Bool.and_eq_true, decide_eq_true_eq] at h
  exact h
theorem nB_yes {a b : Int} (h : rightB a b = true) : nB a b = countI a b 26 ∧ countI a b 26 = 2 ^ (26 - b).toNat := by
  obtain ⟨hm, h1, h2⟩ := right_may h
  refine ⟨if_pos h, ?_⟩
  unfold countI
  rw [if_pos ⟨hm, by decide, h2⟩]
theorem nB_no {a b : Int} (h : rightB a b = false) : nB a b = 0 := by unfold nB; rw [h]; rfl
theorem nB_bd {a b : Int} (ha : 0 ≤ a) (ha' : a < 4294967296) : 0 ≤ nB a b ∧ nB a b ≤ 1024 ∧ (rightB a b = true → 1 ≤ nB a b) ∧ (rightB a b = true → a + nB a b * 64 ≤ 4294967296) := by
  cases h : rightB a b with
  | false => rw [nB_no h]; exact ⟨by decide, by decide, (fun e => by cases e), (fun e => by cases e)⟩
  | true =>
    obtain ⟨e1, e2⟩ := nB_yes h
    obtain ⟨hm, h1, h2⟩ := right_may h
    have hp : (2 : Nat) ^ (26 - b).toNat ≤ 2 ^ 10 := Nat.pow_le_pow_right (by omega) (by omega)
    have hp1 : ((2 ^ (26 - b).toNat : Nat) : Int) ≤ ((2 ^ 10 : Nat) : Int) := Int.ofNat_le.2 hp
    rw [Int.natCast_pow] at hp1
    have hp2 : (2 : Int) ^ (26 - b).toNat ≤ 1024 := hp1
    have hp0 : (0 : Int) < 2 ^ (26 - b).toNat := Int.pow_pos (by omega)
    have hf := net_fits ha ha' hm
    have hh := hole_mul (b := b) (c := 26) (by omega) h2 (by decide)
    rw [hole26] at hh
    rw [e1, e2]
    exact ⟨by omega, hp2, (fun _ => by omega), (fun _ => by omega)⟩
set_option maxRecDepth 100000 in
set_option maxHeartbeats 4000000 in
theorem blocks_any (a b : Int) (o : Bool) (ha : 0 ≤ a) (ha' : a < 4294967296) (w : World) :
    Calls Try.prog 22 #[.agg #[.int .u32 a, .int .i64 b, .bool o]] w fun e w' => e = .returned (.int .i64 (nB a b)) ∧ Below w.heap.size w w' := by
  have HR := Lib.hid (fun w => rightPool_any a b o ha ha' w)
  have HC := Lib.hid (fun w => count_any a b 26 ha ha' w)
  have hc := Cell3.new w a b o 32
  have hb0 := belNew w (poolO a b o 32)
  have hq := nB_bd (b := b) ha ha'
  cases hr : rightB a b with
  | false =>
    rw [hr] at HR
    rw [nB_no hr]
    clear hr hq
    go_enter Try.func22, Try.ntmps22
    obtain ⟨c0, c1, c2, c3⟩ := id hc
    go_wp2_with fail
    refine (HR.out _).mono ?_; rintro e w1 ⟨rfl, hb1⟩
    go_wp2_with fail
    go_ret
    exact ⟨rfl, bel hb0 hb1⟩
  | true =>
    rw [hr] at HR
    obtain ⟨q1, q2, _, _⟩ := hq
    rw [(nB_yes hr).1] at *
    clear hr
    generalize countI a b 26 = n at *
    go_enter Try.func22, Try.ntmps22
    obtain ⟨c0, c1, c2, c3⟩ := id hc
    go_wp2_with fail
    refine (HR.out _).mono ?_; rintro e w1 ⟨rfl, hb1⟩
    obtain ⟨x0, x1, x2, x3⟩ := hc.keep hb1
    go_wp2_with fail
    refine (HC.out _).mono ?_; rintro e w2 ⟨rfl, hb2⟩
    go_wp2_with fail
    go_ret
    exact ⟨rfl, bel (bel hb0 hb1) hb2⟩
def inB (k n : Int) : Bool := decide (0 ≤ k) && decide (k < n)
set_option maxRecDepth 100000 in
set_option maxHeartbeats 4000000 in
theorem block_any (a b k : Int) (o : Bool) (ha : 0 ≤ a) (ha' : a < 4294967296) (w : World) :
    Calls Try.prog 20 #[.agg #[.int .u32 a, .int .i64 b, .bool o], .int .i64 k] w fun e w' => e = .returned (if inB k (nB a b) = true then .tuple #[.int .u32 (a + k * 64), .bool true] else .tuple #[.int .u32 0, .bool false]) ∧ Below w.heap.size w w' := by
  have HB := Lib.hid (fun w => blocks_any a b o ha ha' w)
  have hc := Cell3.new w a b o 32
  have hb0 := belNew w (poolO a b o 32)
  by_cases h0 : 0 ≤ k
  · have d0 : decide (k < 0) = false := decide_eq_false (by omega)
    by_cases h1 : k < nB a b
    · have hi : inB k (nB a b) = true := by unfold inB; rw [decide_eq_true h0, decide_eq_true h1]; rfl
      have hr : rightB a b = true := by
        cases h : rightB a b with
        | true => rfl
        | false => rw [nB_no h] at h1; omega
      have d1 : decide (nB a b ≤ k) = false := decide_eq_false (by omega)
      have hN : Hid (∀ w, Calls Try.prog 37 #[.agg #[.int .u32 a, .int .i64 b], .int .i64 26, .int .i64 k] w fun e w' => e = .returned (.tuple #[.agg #[.int .u32 (a + k * 64), .int .i64 26], .int .i64 0]) ∧ Below w.heap.size w w') := Lib.hid (fun w => by
        have h := nth_yes a b 26 k ha ha' h0 (by rw [← (nB_yes hr).1]; exact h1) w
        rw [hole26] at h
        exact h)
      rw [hi, if_pos rfl]
      clear hi hr
      generalize a + k * 64 = f at *
      generalize nB a b = n at *
      go_enter Try.func20, Try.ntmps20
      obtain ⟨c0, c1, c2, c3⟩ := id hc
      go_wp2_with fail
      refine (HB.out _).mono ?_; rintro e w1 ⟨rfl, hb1⟩
      obtain ⟨x0, x1, x2, x3⟩ := hc.keep hb1
      go_wp2_with fail
      refine (hN.out _).mono ?_; rintro e w2 ⟨rfl, hb2⟩
      go_wp2_with fail
      go_ret2
      exact ⟨rfl, belAlloc (bel (bel hb0 hb1) hb2) _⟩
    · have hi : inB k (nB a b) = false := by unfold inB; rw [decide_eq_false h1, Bool.and_false]
      have d1 : decide (nB a b ≤ k) = true := decide_eq_true (by omega)
      rw [hi]
      clear hi
      generalize nB a b = n at *
      rw [if_neg (by simp)]
      go_enter Try.func20, Try.ntmps20
      obtain ⟨c0, c1, c2, c3⟩ := id hc
      go_wp2_with fail
      refine (HB.out _).mono ?_; rintro e w1 ⟨rfl, hb1⟩
      go_wp2_with fail
      go_ret2
      exact ⟨rfl, bel hb0 hb1⟩
  · have d0 : decide (k < 0) = true := decide_eq_true (by omega)
    have hi : inB k (nB a b) = false := by unfold inB; rw [decide_eq_false h0]; rfl
    rw [hi]
    rw [if_neg (by simp)]
    clear hi
    go_enter Try.func20, Try.ntmps20
    obtain ⟨c0, c1, c2, c3⟩ := id hc
    go_wp2_with fail
    go_ret2
    exact ⟨rfl, hb0⟩
end Go.Proofs.Ytcfmknocpjjklaa
