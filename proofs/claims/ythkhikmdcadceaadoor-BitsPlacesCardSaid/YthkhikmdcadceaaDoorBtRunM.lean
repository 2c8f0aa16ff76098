/- Package bits: the runs of a set, as plain lists, by both ways. -/
import Derived.Test.YthkhikmdcadceaaDoorBtNth
namespace Go.Proofs.YthkhikmdcadceaaDoor
open Go.RowKit
/-- The first slot of a set; the one behind its first run; the set without that run. -/
def firstN (x : Nat) : Nat := Lib.ctz 64 x
def notN (x : Nat) : Nat := 18446744073709551615 - x / 2 ^ firstN x
def behN (x : Nat) : Nat := firstN x + Lib.ctz 64 (notN x)
def clrN (x : Nat) : Nat := x &&& (18446744073709551615 - (2 ^ behN x - 1))
def runL : Nat → Nat → List (Int × Int)
  | 0, _ => []
  | f + 1, x => if x = 0 then [] else ((firstN x : Int), (behN x : Int)) :: runL f (clrN x)
theorem notN_lt (x : Nat) : notN x < M64 := Nat.lt_of_le_of_lt (Nat.sub_le _ _) (by decide)
/-- A number less than 2^64 turned round: bit by bit. -/
theorem not_bit {y : Nat} (hy : y < M64) {j : Nat} (hj : j < 64) : (18446744073709551615 - y).testBit j = !y.testBit j := by
  have h := Nat.testBit_two_pow_sub_succ (n := 64) (x := y) hy j
  have e : (2 : Nat) ^ 64 - (y + 1) = 18446744073709551615 - y := by
    have : (2 : Nat) ^ 64 = 18446744073709551616 := by decide
    omega
  rw [e] at h
  rw [h, decide_eq_true hj, Bool.true_and]
theorem div_bit (x c j : Nat) : (x / 2 ^ c).testBit j = x.testBit (c + j) := by rw [← Nat.shiftRight_eq_div_pow, Nat.testBit_shiftRight]
theorem ctz_low {x j : Nat} (h0 : x ≠ 0) (hx : x < M64) (hj : j < Lib.ctz 64 x) : x.testBit j = false := by
  obtain ⟨m, he, _⟩ := ctz_spec h0 hx
  have h := x_bit (Lib.ctz 64 x) m j
  rw [← he, if_pos hj] at h
  exact h
theorem ctz_bit {x : Nat} (h0 : x ≠ 0) (hx : x < M64) : x.testBit (Lib.ctz 64 x) = true ∧ Lib.ctz 64 x < 64 := by
  obtain ⟨m, he, hc⟩ := ctz_spec h0 hx
  have h := x_bit (Lib.ctz 64 x) m (Lib.ctz 64 x)
  rw [← he, if_neg (by omega), Nat.sub_self] at h
  exact ⟨by rw [h]; simp, hc⟩
/-- What a run is. -/
theorem run_spec {x : Nat} (h0 : x ≠ 0) (hx : x < M64) : firstN x < behN x ∧ behN x ≤ 64 ∧ (∀ j, j < firstN x → x.testBit j = false) ∧ (∀ j, firstN x ≤ j → j < behN x → x.testBit j = true) ∧ x.testBit (behN x) = false := by
  obtain ⟨hb, hc⟩ := ctz_bit h0 hx
  have hlow := fun j hj => ctz_low (j := j) h0 hx hj
  have hy : x / 2 ^ firstN x < M64 := Nat.lt_of_le_of_lt (Nat.div_le_self _ _) hx
  have hn : ∀ j, j < 64 → (notN x).testBit j = !x.testBit (firstN x + j) := fun j hj => by
    unfold notN
    rw [not_bit hy hj, div_bit]
  by_cases hz : notN x = 0
  · have hbe : behN x = firstN x + 64 := by unfold behN; rw [hz]; rfl
    have hf : firstN x = 0 := by
      rcases Nat.eq_zero_or_pos (firstN x) with h | h
      · exact h
      · have h1 := hn (64 - firstN x) (by omega)
        have hc' : firstN x < 64 := hc
        rw [hz, Nat.zero_testBit, show firstN x + (64 - firstN x) = 64 by omega, big_bit hx (by omega)] at h1
        cases h1
    rw [hbe, hf]
    refine ⟨by omega, by omega, fun j hj => by omega, fun j _ hj => ?_, big_bit hx (by omega)⟩
    have h1 := hn j (by omega)
    rw [hz, Nat.zero_testBit, hf, Nat.zero_add] at h1
    cases h : x.testBit j with
    | true => rfl
    | false => rw [h] at h1; cases h1
  · obtain ⟨nb, nc⟩ := ctz_bit hz (notN_lt x)
    have nlow := fun j hj => ctz_low (j := j) hz (notN_lt x) hj
    have hbe : behN x = firstN x + Lib.ctz 64 (notN x) := rfl
    have hB : x.testBit (behN x) = false := by
      have h1 := hn _ nc
      rw [nb, ← hbe] at h1
      cases h : x.testBit (behN x) with
      | false => rfl
      | true => rw [h] at h1; cases h1
    have hin : ∀ j, firstN x ≤ j → j < behN x → x.testBit j = true := fun j h1 h2 => by
      have h3 := hn (j - firstN x) (by omega)
      rw [nlow _ (by omega), show firstN x + (j - firstN x) = j by omega] at h3
      cases h : x.testBit j with
      | true => rfl
      | false => rw [h] at h3; cases h3
    have hlt : firstN x < behN x := by
      rcases Nat.lt_or_ge (firstN x) (behN x) with h | h
      · exact h
      · have : behN x = firstN x := by omega
        rw [this] at hB
        have hb' : x.testBit (firstN x) = true := hb
        rw [hb'] at hB
        cases hB
    refine ⟨hlt, ?_, hlow, hin, hB⟩
    rcases Nat.lt_or_ge 64 (behN x) with h | h
    · have h1 := hin 64 (by have : firstN x < 64 := hc; omega) h
      rw [big_bit hx (by omega)] at h1
      cases h1
    · exact h
theorem clr_bit {x : Nat} (h0 : x ≠ 0) (hx : x < M64) (j : Nat) : (clrN x).testBit j = (x.testBit j && decide (behN x ≤ j)) := by
  obtain ⟨_, hb, _⟩ := run_spec h0 hx
  unfold clrN
  rw [Nat.testBit_and]
  by_cases hj : j < 64
  · have hp : 2 ^ behN x ≤ 2 ^ 64 := Nat.pow_le_pow_right (by omega) hb
    have hp0 : 0 < 2 ^ behN x := Nat.pow_pos (by omega)
    have e64 : (2 : Nat) ^ 64 = 18446744073709551616 := by decide
    rw [not_bit (by show 2 ^ behN x - 1 < 18446744073709551616; omega) hj, Nat.testBit_two_pow_sub_one]
    congr 1
    rw [Bool.eq_iff_iff]
    simp
  · rw [big_bit hx (by omega)]
    simp
theorem clr_lt {x : Nat} (hx : x < M64) : clrN x < M64 := and_lt hx
/-- Numbers one behind the other, from a on, n of them. -/
def from_ (a : Int) : Nat → List Int
  | 0 => []
  | n + 1 => a :: from_ (a + 1) n
theorem from_mem : ∀ (n : Nat) (a k : Int), k ∈ from_ a n ↔ a ≤ k ∧ k < a + n
  | 0, a, k => by simp [from_]; try omega
  | n + 1, a, k => by
    rw [from_, List.mem_cons, from_mem n (a + 1) k]
    omega
theorem from_rise : ∀ (n : Nat) (a : Int), (from_ a n).Pairwise (· < ·)
  | 0, _ => List.Pairwise.nil
  | n + 1, a => by
    rw [from_, List.pairwise_cons]
    exact ⟨fun k hk => by have := (from_mem n (a + 1) k).1 hk; omega, from_rise n (a + 1)⟩
theorem mem_run {x : Nat} (h0 : x ≠ 0) (hx : x < M64) : memZ x 64 = from_ (firstN x) (behN x - firstN x) ++ memZ (clrN x) 64 := by
  obtain ⟨h1, h2, h3, h4, h5⟩ := run_spec h0 hx
  have hb := clr_bit h0 hx
  apply rise_ext _ _ (memZ_rise x 64)
  · rw [List.pairwise_append]
    refine ⟨from_rise _ _, memZ_rise _ _, fun a ha b hb2 => ?_⟩
    have ha2 := (from_mem _ _ _).1 ha
    obtain ⟨n, rfl, _, hn⟩ := (memZ_mem _ _ _).1 hb2
    rw [hb, Bool.and_eq_true, decide_eq_true_iff] at hn
    omega
  · intro k
    rw [List.mem_append, memZ_mem, memZ_mem, from_mem]
    constructor
    · rintro ⟨n, rfl, g1, g2⟩
      by_cases g3 : n < behN x
      · refine Or.inl ⟨?_, by omega⟩
        rcases Nat.lt_or_ge n (firstN x) with g4 | g4
        · rw [h3 n g4] at g2; cases g2
        · omega
      · exact Or.inr ⟨n, rfl, g1, by rw [hb, g2, decide_eq_true (by omega)]; rfl⟩
    · rintro (⟨g1, g2⟩ | ⟨n, rfl, g1, g2⟩)
      · obtain ⟨n, rfl⟩ : ∃ n : Nat, k = (n : Int) := ⟨k.toNat, by omega⟩
        exact ⟨n, rfl, by omega, h4 n (by omega) (by omega)⟩
      · rw [hb, Bool.and_eq_true] at g2
        exact ⟨n, rfl, g1, g2.1⟩
theorem clr_len {x : Nat} (h0 : x ≠ 0) (hx : x < M64) : (memZ (clrN x) 64).length < (memZ x 64).length := by
  obtain ⟨h1, _⟩ := run_spec h0 hx
  rw [mem_run h0 hx, List.length_append]
  have : from_ (firstN x) (behN x - firstN x) ≠ [] := by
    obtain ⟨n, hn⟩ : ∃ n, behN x - firstN x = n + 1 := ⟨behN x - firstN x - 1, by omega⟩
    rw [hn, from_]
    simp
  have := List.length_pos_iff.2 this
  omega
/-- One more slot, as the document takes it. -/
def stepR (o : List (Int × Int)) (i : Int) : List (Int × Int) := match o.getLast? with
  | some p => if p.2 = i then o.dropLast ++ [(p.1, i + 1)] else o ++ [(i, i + 1)]
  | none => o ++ [(i, i + 1)]
theorem step_ext (o : List (Int × Int)) (a i : Int) : stepR (o ++ [(a, i)]) i = o ++ [(a, i + 1)] := by
  unfold stepR
  rw [List.getLast?_append]
  simp
theorem step_new (o : List (Int × Int)) (i : Int) (h : ∀ p, o.getLast? = some p → p.2 ≠ i) : stepR o i = o ++ [(i, i + 1)] := by
  unfold stepR
  cases hl : o.getLast? with
  | none => rfl
  | some p => simp only []; rw [if_neg (h p hl)]
theorem fold_ext : ∀ (n : Nat) (o : List (Int × Int)) (a i : Int), (from_ i n).foldl stepR (o ++ [(a, i)]) = o ++ [(a, i + n)]
  | 0, o, a, i => by simp [from_]
  | n + 1, o, a, i => by
    rw [from_, List.foldl_cons, step_ext, fold_ext n]
    congr 3
    omega
theorem fold_run (n : Nat) (o : List (Int × Int)) (a : Int) (h : ∀ p, o.getLast? = some p → p.2 ≠ a) : (from_ a (n + 1)).foldl stepR o = o ++ [(a, a + (n + 1 : Nat))] := by
  rw [from_, List.foldl_cons, step_new o a h, fold_ext]
  congr 3
  omega
theorem fold_runs : ∀ (f x : Nat) (o : List (Int × Int)), x < M64 → (memZ x 64).length < f → (∀ p, o.getLast? = some p → ∀ k ∈ memZ x 64, p.2 ≠ k) → (memZ x 64).foldl stepR o = o ++ runL f x
  | 0, _, _, _, h, _ => by omega
  | f + 1, x, o, hx, hf, hp => by
    by_cases h0 : x = 0
    · subst h0
      rw [mem_zero, runL, if_pos rfl]
      simp
    · obtain ⟨h1, h2, h3, h4, h5⟩ := run_spec h0 hx
      have hm := mem_run h0 hx
      obtain ⟨n, hn⟩ : ∃ n, behN x - firstN x = n + 1 := ⟨behN x - firstN x - 1, by omega⟩
      have hfirst : ((firstN x : Nat) : Int) ∈ memZ x 64 := by
        rw [hm, hn, from_]
        simp
      rw [runL, if_neg h0, hm, List.foldl_append, hn, fold_run n o _ (fun p e => hp p e _ hfirst)]
      have hlen := clr_len h0 hx
      rw [fold_runs f (clrN x) _ (clr_lt hx) (by omega) (fun p e k hk => by
        rw [List.getLast?_append] at e
        simp at e
        subst e
        obtain ⟨m, rfl, _, hmb⟩ := (memZ_mem _ _ _).1 hk
        rw [clr_bit h0 hx, Bool.and_eq_true, decide_eq_true_iff] at hmb
        show (firstN x : Int) + ((n + 1 : Nat) : Int) ≠ _
        intro e2
        have : m = behN x := by omega
        rw [this, h5] at hmb
        cases hmb.1)]
      rw [List.append_assoc]
      congr 3
      rw [show ((firstN x : Int) + ((n + 1 : Nat) : Int)) = (behN x : Int) by omega]
      rfl
end Go.Proofs.YthkhikmdcadceaaDoor
