/- Package bits: the slots of a set, rising: the least, the greatest, the k-th. -/
import Derived.Test.YthkhikmdcadceaaDoorBtOf
namespace Go.Proofs.YthkhikmdcadceaaDoor
open Go.RowKit
theorem rise_ext : ∀ (l m : List Int), l.Pairwise (· < ·) → m.Pairwise (· < ·) → (∀ k, k ∈ l ↔ k ∈ m) → l = m
  | [], [], _, _, _ => rfl
  | [], b :: m, _, _, h => absurd ((h b).2 (by simp)) (by simp)
  | a :: l, [], _, _, h => absurd ((h a).1 (by simp)) (by simp)
  | a :: l, b :: m, hl, hm, h => by
    rw [List.pairwise_cons] at hl hm
    have e : a = b := by
      rcases List.mem_cons.1 ((h a).1 (by simp)) with h1 | h1
      · exact h1
      · rcases List.mem_cons.1 ((h b).2 (by simp)) with h2 | h2
        · exact h2.symm
        · have := hm.1 a h1
          have := hl.1 b h2
          omega
    subst e
    rw [rise_ext l m hl.2 hm.2 (fun k => ?_)]
    constructor
    · intro hk
      rcases List.mem_cons.1 ((h k).1 (List.mem_cons_of_mem _ hk)) with h1 | h1
      · subst h1; exact absurd (hl.1 k hk) (by omega)
      · exact h1
    · intro hk
      rcases List.mem_cons.1 ((h k).2 (List.mem_cons_of_mem _ hk)) with h1 | h1
      · subst h1; exact absurd (hm.1 k hk) (by omega)
      · exact h1
theorem memZ_rise (x i : Nat) : (memZ x i).Pairwise (· < ·) := by
  unfold memZ
  rw [List.pairwise_map]
  exact (List.Pairwise.filter _ List.pairwise_lt_range).imp (fun h => by omega)
theorem memZ_length (x : Nat) : (memZ x 64).length = (mem x).length := by unfold memZ mem; rw [List.length_map]
def lowN (x : Nat) : Nat := x &&& (x - 1)
theorem ctz_spec {x : Nat} (h0 : x ≠ 0) (hx : x < M64) : ∃ m, x = 2 ^ Lib.ctz 64 x * (2 * m + 1) ∧ Lib.ctz 64 x < 64 := by
  have e : Lib.ctz 64 x = Lib.ctzFrom 64 x := if_neg h0
  rw [e]
  exact Lib.ctzFrom_spec 64 x (by omega) hx
theorem odd_bit (m j : Nat) : (2 * m + 1).testBit (j + 1) = m.testBit j ∧ (2 * m).testBit (j + 1) = m.testBit j := by
  rw [Nat.testBit_succ, Nat.testBit_succ, show (2 * m + 1) / 2 = m by omega, show 2 * m / 2 = m by omega]
  exact ⟨rfl, rfl⟩
theorem x_bit (c m j : Nat) : (2 ^ c * (2 * m + 1)).testBit j = if j < c then false else (2 * m + 1).testBit (j - c) := by
  have h := Nat.testBit_two_pow_mul_add (2 * m + 1) (b := 0) (i := c) (Nat.pow_pos (by omega)) j
  rw [Nat.add_zero, Nat.zero_testBit] at h
  exact h
theorem low_bit {c m : Nat} (j : Nat) : (lowN (2 ^ c * (2 * m + 1))).testBit j = ((2 ^ c * (2 * m + 1)).testBit j && decide (j ≠ c)) := by
  have hp : 0 < 2 ^ c := Nat.pow_pos (by omega)
  have e : 2 ^ c * (2 * m + 1) - 1 = 2 ^ c * (2 * m) + (2 ^ c - 1) := by rw [Nat.mul_add, Nat.mul_one]; omega
  unfold lowN
  rw [Nat.testBit_and, e, Nat.testBit_two_pow_mul_add (2 * m) (by omega), x_bit]
  by_cases h1 : j < c
  · simp [h1]
  · rw [if_neg h1, if_neg h1]
    by_cases h2 : j = c
    · subst h2
      simp
    · obtain ⟨k, hk⟩ : ∃ k, j - c = k + 1 := ⟨j - c - 1, by omega⟩
      rw [hk, (odd_bit m k).1, (odd_bit m k).2]
      simp [h2]
theorem lowN_lt {x : Nat} (hx : x < M64) : lowN x < M64 := and_lt hx
theorem mem_cons {x : Nat} (h0 : x ≠ 0) (hx : x < M64) : memZ x 64 = (Lib.ctz 64 x : Int) :: memZ (lowN x) 64 := by
  obtain ⟨m, he, hc⟩ := ctz_spec h0 hx
  have hb : ∀ j, (lowN x).testBit j = (x.testBit j && decide (j ≠ Lib.ctz 64 x)) := fun j => by
    have h := low_bit (c := Lib.ctz 64 x) (m := m) j
    rw [← he] at h
    exact h
  have hlow : ∀ j, x.testBit j = true → Lib.ctz 64 x ≤ j := fun j hj => by
    rw [he, x_bit] at hj
    by_cases h : j < Lib.ctz 64 x
    · rw [if_pos h] at hj; cases hj
    · omega
  have htop : x.testBit (Lib.ctz 64 x) = true := by
    have h := x_bit (Lib.ctz 64 x) m (Lib.ctz 64 x)
    rw [← he, if_neg (by omega), Nat.sub_self] at h
    rw [h]
    simp
  apply rise_ext _ _ (memZ_rise x 64)
  · rw [List.pairwise_cons]
    refine ⟨fun k hk => ?_, memZ_rise _ _⟩
    obtain ⟨n, rfl, _, hn⟩ := (memZ_mem _ _ _).1 hk
    rw [hb] at hn
    simp only [Bool.and_eq_true, decide_eq_true_eq] at hn
    have := hlow n hn.1
    omega
  · intro k
    rw [List.mem_cons, memZ_mem, memZ_mem]
    constructor
    · rintro ⟨n, rfl, h1, h2⟩
      by_cases h3 : n = Lib.ctz 64 x
      · exact Or.inl (by rw [h3])
      · exact Or.inr ⟨n, rfl, h1, by rw [hb, h2]; simp [h3]⟩
    · rintro (rfl | ⟨n, rfl, h1, h2⟩)
      · exact ⟨_, rfl, hc, htop⟩
      · rw [hb, Bool.and_eq_true] at h2
        exact ⟨n, rfl, h1, h2.1⟩
theorem mem_zero : memZ 0 64 = [] := by
  apply List.eq_nil_iff_forall_not_mem.2
  intro k hk
  obtain ⟨n, _, _, h⟩ := (memZ_mem _ _ _).1 hk
  simp at h
theorem mem_ne {x : Nat} (hx : x < M64) (h : memZ x 64 ≠ []) : x ≠ 0 := fun e => h (by rw [e]; exact mem_zero)
theorem bitLen_log {x : Nat} (h0 : x ≠ 0) (hx : x < M64) : Lib.bitLen x = Nat.log2 x + 1 ∧ x.testBit (Nat.log2 x) = true ∧ Nat.log2 x < 64 := by
  have h1 := Nat.log2_self_le h0
  have h2 : x < 2 ^ (Nat.log2 x + 1) := Nat.lt_log2_self
  have hp : 0 < 2 ^ Nat.log2 x := Nat.pow_pos (by omega)
  have hd : x / 2 ^ Nat.log2 x = 1 := by
    rw [Nat.pow_succ] at h2
    apply Nat.le_antisymm
    · have : x / 2 ^ Nat.log2 x < 2 := (Nat.div_lt_iff_lt_mul hp).2 (by omega)
      omega
    · exact (Nat.le_div_iff_mul_le hp).2 (by omega)
  refine ⟨?_, ?_, (Nat.log2_lt h0).2 hx⟩
  · rw [Lib.bitLen_shift _ x h1 hx, hd]
    rfl
  · rw [← bit_div, hd]
theorem mem_last {x : Nat} (h0 : x ≠ 0) (hx : x < M64) : (memZ x 64).getD ((memZ x 64).length - 1) 0 = (Lib.bitLen x : Int) - 1 := by
  obtain ⟨h1, h2, h3⟩ := bitLen_log h0 hx
  have hm : ((Nat.log2 x : Nat) : Int) ∈ memZ x 64 := (memZ_mem _ _ _).2 ⟨_, rfl, h3, h2⟩
  have hne : memZ x 64 ≠ [] := fun e => by rw [e] at hm; cases hm
  have hlt : (memZ x 64).length - 1 < (memZ x 64).length := by
    have := List.length_pos_iff.2 hne
    omega
  rw [getD_get hlt]
  have hmem : (memZ x 64)[(memZ x 64).length - 1] ∈ memZ x 64 := List.getElem_mem hlt
  obtain ⟨n, hn, hn1, hn2⟩ := (memZ_mem _ _ _).1 hmem
  have hle : n ≤ Nat.log2 x := by
    have hx2 : 2 ^ n ≤ x := Nat.ge_two_pow_of_testBit hn2
    exact (Nat.le_log2 h0).2 hx2
  obtain ⟨i, hi, he⟩ := List.getElem_of_mem hm
  have hge : ((Nat.log2 x : Nat) : Int) ≤ (memZ x 64)[(memZ x 64).length - 1] := by
    rw [← he]
    rcases Nat.lt_or_ge i ((memZ x 64).length - 1) with hlt2 | hge
    · exact Int.le_of_lt (List.pairwise_iff_getElem.1 (memZ_rise x 64) i _ hi hlt hlt2)
    · have : i = (memZ x 64).length - 1 := by omega
      subst this
      exact Int.le_refl _
  rw [h1]
  omega
theorem ofN_mem {x : Nat} (hx : x < M64) : ofN (memZ x 64) = x := by
  apply set_ext (ofN_lt _) hx
  intro j hj
  rw [ofN_bit, decide_eq_true hj, Bool.true_and, Bool.eq_iff_iff, decide_eq_true_iff, memZ_mem]
  constructor
  · rintro ⟨n, hn, _, h⟩
    have : n = j := by omega
    rw [← this]; exact h
  · intro h; exact ⟨j, rfl, hj, h⟩
set_option maxRecDepth 100000 in
set_option maxHeartbeats 4000000 in
theorem nth_any (x : Nat) (k : Int) (hx : x < M64) (w : World) (hE : Env w) :
    Calls Tryd.prog 21 #[.int .u64 x, .int .i64 k] w fun e w' => e = .returned (if 0 ≤ k ∧ k < (memZ x 64).length then .tuple #[.int .i64 ((memZ x 64).getD k.toNat 0), .bool true] else .tuple #[.int .i64 0, .bool false]) ∧ w = w' := by
  have HL := Lib.hid (len_any x hx w)
  rw [← memZ_length] at HL
  by_cases h0 : 0 ≤ k
  · have d0 : decide (k < 0) = false := decide_eq_false (by omega)
    by_cases h1 : k < (memZ x 64).length
    · rw [if_pos ⟨h0, h1⟩]
      obtain ⟨K, rfl⟩ : ∃ K : Nat, k = (K : Int) := ⟨k.toNat, by omega⟩
      rw [Int.toNat_natCast]
      have hKl : K < (memZ x 64).length := by omega
      have hl64 := memZ_len x 64
      have hK64 : K ≤ 64 := by omega
      have d1 : decide ((((memZ x 64).length : Nat) : Int) ≤ (K : Int)) = false := decide_eq_false (by omega)
      have d2 : decide ((memZ x 64).length ≤ K) = false := decide_eq_false (by omega)
      have HW := Lib.hid (fun (s : Nat) (hs : s < M64) => low_any s hs w hE)
      have HX := Lib.hid (And.intro hx hKl)
      clear hx h1 hKl
      generalize hM : memZ x 64 = M at *
      have HM := Lib.hid hM
      clear hM
      go_enter Tryd.func21, Tryd.ntmps21
      go_wp2_with fail
      refine HL.out.mono ?_; rintro e w1 ⟨rfl, rfl⟩
      go_wp2_with fail
      clear d1 d2
      go_loop [0, 15] (fun n j => ∃ i s : Nat, i ≤ K ∧ j = .int .i64 i ∧ n = .int .u64 (s : Int) ∧ s < M64 ∧ memZ s 64 = M.drop i) (fun _ j => K - (intOf j).toNat)
      case atStart => exact ⟨0, x, by omega, rfl, rfl, HX.out.1, by rw [HM.out, List.drop_zero]⟩
      case round =>
        obtain ⟨i, s, hi, rfl, rfl, hs, hms⟩ := hrel
        have hne : memZ s 64 ≠ [] := fun e => by
          rw [hms] at e
          have := List.drop_eq_nil_iff.1 e
          have := HX.out.2
          omega
        have hs0 := mem_ne hs hne
        by_cases hlt : i < K
        · have hc := mem_cons hs0 hs
          have HN : Hid (memZ (lowN s) 64 = M.drop (i + 1) ∧ lowN s < M64) := Lib.hid ⟨by
            have h2 : (memZ s 64).tail = memZ (lowN s) 64 := by rw [hc]; rfl
            rw [← h2, hms, List.tail_drop], lowN_lt hs⟩
          have hs' : s < 18446744073709551616 := hs
          have q1 : IntKind.u64.wrap ((s : Int) - 1) = ((s - 1 : Nat) : Int) := by rw [IntKind.wrap_u64]; omega
          have q2 : bits .and .u64 (s : Int) ((s - 1 : Nat) : Int) = ((lowN s : Nat) : Int) := and_nat s (s - 1) hs (by show _ < 18446744073709551616; omega)
          clear hs hms hne hc hs'
          generalize lowN s = t at *
          generalize s - 1 = r at *
          clear hs0
          go_wp2
          go_round
          case rel => exact ⟨i + 1, t, by omega, by go_num, rfl, HN.out.2, HN.out.1⟩
          case measure => simp [intOf]; omega
        · obtain rfl : i = K := by omega
          have hlo := HW.out s hs
          rw [if_neg hs0] at hlo
          have hc := mem_cons hs0 hs
          have hv : M.getD i 0 = (Lib.ctz 64 s : Int) := by
            have h2 : (memZ s 64).getD 0 0 = (Lib.ctz 64 s : Int) := by rw [hc]; rfl
            rw [← h2, hms]
            simp [List.getD]
          have HV := Lib.hid hv
          have HLo := Lib.hid hlo
          clear hlo hc hv hms hne hs0 hs
          generalize Lib.ctz 64 s = cz at *
          go_wp2_with fail
          refine HLo.out.mono ?_; rintro e w2 ⟨rfl, rfl⟩
          go_wp2_with fail
          go_ret2
          exact ⟨by rw [HV.out]; rfl, rfl⟩
    · rw [if_neg (fun h => h1 h.2)]
      have d1 : decide ((((memZ x 64).length : Nat) : Int) ≤ k) = true := decide_eq_true (by omega)
      generalize (memZ x 64).length = n at *
      go_enter Tryd.func21, Tryd.ntmps21
      go_wp2_with fail
      refine HL.out.mono ?_; rintro e w1 ⟨rfl, rfl⟩
      go_wp2_with fail
      go_ret2
      exact ⟨rfl, rfl⟩
  · have d0 : decide (k < 0) = true := decide_eq_true (by omega)
    rw [if_neg (fun h => h0 h.1)]
    go_enter Tryd.func21, Tryd.ntmps21
    go_wp2_with fail
    go_ret2
    exact ⟨rfl, rfl⟩
end Go.Proofs.YthkhikmdcadceaaDoor
