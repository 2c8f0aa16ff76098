/- Whole; and the laws' example. -/
import Derived.Test.YtmniihpfnmpcfaaDoorSum
import Derived.Lib.SlBytesConst
namespace Go.Proofs.YtmniihpfnmpcfaaDoor
open Go.RowKit
theorem quietN {P : Program} {f : FuncId} {args : Array Value} {w : World} {n : Nat} {v : Value} (h : Calls P f args (w.drewN n) fun e w' => e = .returned v ∧ w.drewN n = w') :
    Calls P f args (w.drewN n) fun e w'' => e = .returned v ∧ ∃ m, w'' = w.drewN m :=
  h.mono fun _ _ ⟨he, hm⟩ => ⟨he, n, hm.symm⟩
theorem xor_low (a b k : Nat) (hb : b < 2 ^ k) : b ^^^ 2 ^ k * a = 2 ^ k * a + b := by
  apply Nat.eq_of_testBit_eq
  intro i
  rw [Nat.testBit_xor, Nat.testBit_two_pow_mul_add _ hb, Nat.mul_comm, ← Nat.shiftLeft_eq, Nat.testBit_shiftLeft]
  by_cases h : i < k
  · simp [h, show ¬ k ≤ i from by omega]
  · have : b.testBit i = false := Nat.testBit_lt_two_pow (Nat.lt_of_lt_of_le hb (Nat.pow_le_pow_right (by omega) (by omega)))
    simp [h, this, show k ≤ i from by omega]
theorem numLE_cons (c : Int) (l : List Int) (h0 : 0 ≤ c) (h1 : c ≤ 255) : numLE (c :: l) = 256 * numLE l + c.toNat := by
  rw [numLE]
  exact xor_low _ _ 8 (by omega)
theorem four_of {l : List Int} (h : l.length = 4) (ho : okB l) : ∃ a b c d : Nat, a < 256 ∧ b < 256 ∧ c < 256 ∧ d < 256 ∧ l = [(a : Int), (b : Int), (c : Int), (d : Int)] := by
  match l, h with
  | [a, b, c, d], _ =>
    have h1 := ho a (by simp)
    have h2 := ho b (by simp)
    have h3 := ho c (by simp)
    have h4 := ho d (by simp)
    refine ⟨a.toNat, b.toNat, c.toNat, d.toNat, by omega, by omega, by omega, by omega, ?_⟩
    rw [Int.toNat_of_nonneg h1.1, Int.toNat_of_nonneg h2.1, Int.toNat_of_nonneg h3.1, Int.toNat_of_nonneg h4.1]
theorem numLE_four {a b c d : Nat} (ha : a < 256) (hb : b < 256) (hc : c < 256) (hd : d < 256) : numLE [(a : Int), (b : Int), (c : Int), (d : Int)] = a + 256 * b + 65536 * c + 16777216 * d := by
  rw [numLE_cons _ _ (by omega) (by omega), numLE_cons _ _ (by omega) (by omega), numLE_cons _ _ (by omega) (by omega), numLE_cons _ _ (by omega) (by omega), numLE]
  simp only [Int.toNat_natCast]
  omega
theorem numBE_four (a b c d : Nat) : numBE [(a : Int), (b : Int), (c : Int), (d : Int)] = ((a * 16777216 + b * 65536 + c * 256 + d : Nat) : Int) := by
  simp only [numBE, List.foldl_cons, List.foldl_nil]
  omega
theorem leB_four {a b c d : Nat} (ha : a < 256) (hb : b < 256) (hc : c < 256) (_ : d < 256) : leB (a + 256 * b + 65536 * c + 16777216 * d) = [(a : Int), (b : Int), (c : Int), (d : Int)] := by
  obtain ⟨r1, r2, r3, r4⟩ := bytes4 ha hb hc (x := a + 256 * b + 65536 * c + 16777216 * d) rfl
  unfold leB
  rw [r1, r2, r3, r4]
theorem rev_last {l : List Int} (h : l.length = 4) (ho : okB l) : revN (numBE l).toNat = numLE l ∧ (numBE l).toNat < 4294967296 ∧ numBE l = (((numBE l).toNat : Nat) : Int) ∧ numLE l < 4294967296 ∧ leB (numLE l) = l := by
  obtain ⟨a, b, c, d, ha, hb, hc, hd, rfl⟩ := four_of h ho
  rw [numBE_four, numLE_four ha hb hc hd, Int.toNat_natCast, leB_four ha hb hc hd]
  obtain ⟨r1, r2, r3, r4⟩ := bytes4 (a := d) (b := c) (c := b) (d := a) hd hc hb (x := a * 16777216 + b * 65536 + c * 256 + d) (by omega)
  refine ⟨?_, by omega, rfl, by omega, rfl⟩
  unfold revN
  rw [r1, r2, r3, r4]
  omega
theorem numLE_leB (x : Nat) (hx : x < 4294967296) : numLE (leB x) = x := by
  obtain ⟨a, b, c, d, ha, hb, hc, hd, hxe⟩ : ∃ a b c d : Nat, a < 256 ∧ b < 256 ∧ c < 256 ∧ d < 256 ∧ x = a + 256 * b + 65536 * c + 16777216 * d :=
    ⟨x % 256, x / 256 % 256, x / 65536 % 256, x / 16777216, by omega, by omega, by omega, by omega, by omega⟩
  rw [hxe, leB_four ha hb hc hd, numLE_four ha hb hc hd]
/-- Whole bytes. -/
def wholeB (t : List Int) : Bool := decide (4 ≤ t.length) && (numLE (t.drop (t.length - 4)) == ofN (t.take (t.length - 4)))
theorem wholeB_iff {t : List Int} (ho : okB t) (hl : 4 ≤ t.length) : wholeB t = true ↔ wholeN t := by
  have h4 : (t.drop (t.length - 4)).length = 4 := by rw [List.length_drop]; omega
  have h := whole_iff (t.take (t.length - 4)) (t.drop (t.length - 4)) (okB_lt (ho.take _)) h4 (rev_last h4 (ho.drop _)).2.2.2.1
  rw [List.take_append_drop] at h
  rw [← h]
  unfold wholeB ofN
  simp [hl]
theorem whole_seal {l : List Int} (ho : okB l) : wholeB (sealL l) = true := by
  have h4 : (leB (ofN l)).length = 4 := rfl
  have e : (sealL l).length - 4 = l.length := by unfold sealL; rw [List.length_append, h4]; omega
  unfold wholeB
  rw [e]
  unfold sealL
  rw [List.take_left', List.drop_left', numLE_leB _ (ofN_lt ho)] <;> simp [h4]
theorem Env.drewN {w : World} (h : Env w) (n : Nat) : Env (w.drewN n) := ⟨h.lt, h.tab⟩
theorem of9 : ofN [49, 50, 51, 52, 53, 54, 55, 56, 57] = 3808858755 := by decide +kernel
end Go.Proofs.YtmniihpfnmpcfaaDoor
