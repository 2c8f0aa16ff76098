/- Package bits: the set of numbers, by both ways; a number in a row; rows that are the same. -/
import Derived.Test.YthkhikmdcadceaaDoorBtRow
import Derived.Deep.LoopGhost
import Derived.Deep.QuietTactic
import Derived.BigQuiet
import Derived.BigCall
namespace Go.Proofs.YthkhikmdcadceaaDoor
open Go.RowKit
/-- The set of numbers. -/
def ofN (l : List Int) : Nat := l.foldl (fun s i => s ||| oneN i) 0
theorem ofN_snoc (l : List Int) (i : Int) : ofN (l ++ [i]) = ofN l ||| oneN i := by unfold ofN; rw [List.foldl_append]; rfl
theorem fold_lt : ∀ (l : List Int) (s : Nat), s < M64 → l.foldl (fun s i => s ||| oneN i) s < M64
  | [], _, h => h
  | i :: l, _, h => fold_lt l _ (or_lt h (oneN_lt i))
theorem ofN_lt (l : List Int) : ofN l < M64 := fold_lt l 0 (by decide)
theorem oneN_bit (i : Int) (j : Nat) : (oneN i).testBit j = (decide (j < 64) && decide (i = (j : Int))) := by
  unfold oneN
  cases hs : slotB i with
  | false =>
    simp only [Bool.false_eq_true, if_false, Nat.zero_testBit]
    by_cases hj : j < 64
    · by_cases h : i = (j : Int)
      · subst h
        rw [slot_nat hj] at hs
        cases hs
      · simp [h]
    · simp [hj]
  | true =>
    have hb : 0 ≤ i ∧ i < 64 := by
      unfold slotB at hs
      simpa only [Bool.and_eq_true, decide_eq_true_eq] using hs
    simp only [if_true]
    rw [Nat.testBit_two_pow, Bool.eq_iff_iff]
    simp only [decide_eq_true_eq, Bool.and_eq_true]
    omega
theorem fold_bit (j : Nat) : ∀ (l : List Int) (s : Nat), (l.foldl (fun s i => s ||| oneN i) s).testBit j = (s.testBit j || (decide (j < 64) && decide ((j : Int) ∈ l)))
  | [], s => by simp
  | i :: l, s => by
    rw [List.foldl_cons, fold_bit j l, Nat.testBit_or, oneN_bit, Bool.or_assoc]
    congr 1
    rw [Bool.eq_iff_iff]
    simp only [Bool.or_eq_true, Bool.and_eq_true, decide_eq_true_eq, List.mem_cons]
    constructor
    · rintro (⟨h1, h2⟩ | ⟨h1, h2⟩)
      · exact ⟨h1, Or.inl h2.symm⟩
      · exact ⟨h1, Or.inr h2⟩
    · rintro ⟨h1, h2 | h2⟩
      · exact Or.inl ⟨h1, h2.symm⟩
      · exact Or.inr ⟨h1, h2⟩
theorem ofN_bit (l : List Int) (j : Nat) : (ofN l).testBit j = (decide (j < 64) && decide ((j : Int) ∈ l)) := by
  unfold ofN
  rw [fold_bit]
  simp
theorem big_bit {x j : Nat} (hx : x < M64) (hj : 64 ≤ j) : x.testBit j = false :=
  Nat.testBit_lt_two_pow (Nat.lt_of_lt_of_le hx (Nat.pow_le_pow_right (n := 2) (by decide) hj : (2 : Nat) ^ 64 ≤ 2 ^ j))
theorem set_ext {x y : Nat} (hx : x < M64) (hy : y < M64) (h : ∀ j, j < 64 → x.testBit j = y.testBit j) : x = y := by
  apply Nat.eq_of_testBit_eq
  intro j
  by_cases hj : j < 64
  · exact h j hj
  · rw [big_bit hx (by omega), big_bit hy (by omega)]
theorem memZ_mem (x i : Nat) (k : Int) : k ∈ memZ x i ↔ ∃ n : Nat, k = (n : Int) ∧ n < i ∧ x.testBit n = true := by
  unfold memZ
  simp only [List.mem_map, List.mem_filter, List.mem_range]
  constructor
  · rintro ⟨n, ⟨h1, h2⟩, rfl⟩; exact ⟨n, rfl, h1, h2⟩
  · rintro ⟨n, rfl, h1, h2⟩; exact ⟨n, ⟨h1, h2⟩, rfl⟩
theorem take_snocI (l : List Int) (i : Nat) (h : i < l.length) : l.take (i + 1) = l.take i ++ [l.getD i 0] := by
  rw [List.take_succ_eq_append_getElem h]
  congr 1
  simp [List.getD, List.getElem?_eq_getElem h]
theorem getD_get {l : List Int} {i : Nat} (h : i < l.length) : l.getD i 0 = l[i] := by simp [List.getD, List.getElem?_eq_getElem h]
set_option maxHeartbeats 1000000 in
theorem of_any (v : Value) (l : List Int) (w : World) (h : SeesI w v l) (hm : l.length ≤ 1000) :
    Calls Tryd.prog 11 #[v] w fun e w' => e = .returned (.int .u64 ((ofN l : Nat) : Int)) ∧ w = w' := by
  obtain ⟨ao, c, rfl, hlc, hnil, hc⟩ := h
  have HW := Lib.hid (fun i w => with_any (ofN (l.take i)) (l.getD i 0) (ofN_lt _) w)
  have A1 : Aside (∀ a, ao = some a → ∀ i, i < l.length → w.cell? (a.add i) = some (.int .i64 (l.getD i 0))) := hc
  clear hc
  go_enter Tryd.func11, Tryd.ntmps11
  go_wp2_with fail
  go_loop [3, 8] (fun n j => ∃ i : Nat, i ≤ l.length ∧ j = .int .i64 i ∧ n = .int .u64 ((ofN (l.take i) : Nat) : Int)) (fun _ j => l.length - (intOf j).toNat)
  case atStart => exact ⟨0, by omega, rfl, rfl⟩
  case round =>
    obtain ⟨i, hi, rfl, rfl⟩ := hrel
    by_cases hlt : i < l.length
    · obtain ⟨a, rfl⟩ : ∃ a, ao = some a := by
        cases ao with
        | none => rw [hnil rfl] at hlt; simp at hlt
        | some a => exact ⟨a, rfl⟩
      have hcell := A1 a rfl i hlt
      have hw := Lib.hid (HW.out i)
      have HS : Hid (ofN (l.take (i + 1)) = (ofN (l.take i) ||| oneN (l.getD i 0))) := Lib.hid (by rw [take_snocI l i hlt, ofN_snoc])
      rw [getD_get hlt] at hw
      have HG := Lib.hid (getD_get hlt)
      go_wp2_with fail
      refine (hw.out _).mono ?_; rintro e w1 ⟨rfl, rfl⟩
      go_wp2_with fail
      go_round
      case rel => exact ⟨i + 1, by omega, by go_num, by rw [HS.out, HG.out]⟩
      case measure => simp [intOf]; omega
    · have HV : Hid (ofN (l.take i) = ofN l) := Lib.hid (by rw [List.take_of_length_le (by omega)])
      go_wp2_with fail
      go_ret
      exact ⟨congrArg (fun (n : Nat) => Ending.returned (.int .u64 (n : Int))) HV.out, rfl⟩
set_option maxHeartbeats 1000000 in
theorem in_any (v : Value) (l : List Int) (k : Int) (w : World) (h : SeesI w v l) (hm : l.length ≤ 1000) :
    Calls Tryd.prog 14 #[v, .int .i64 k] w fun e w' => e = .returned (.bool (decide (k ∈ l))) ∧ w = w' := by
  obtain ⟨ao, c, rfl, hlc, hnil, hc⟩ := h
  have A1 : Aside (∀ a, ao = some a → ∀ i, i < l.length → w.cell? (a.add i) = some (.int .i64 (l.getD i 0))) := hc
  clear hc
  go_enter Tryd.func14, Tryd.ntmps14
  go_wp2_with fail
  go_loop [9] (fun j => ∃ i : Nat, i ≤ l.length ∧ j = .int .i64 i ∧ k ∉ l.take i) (fun j => l.length - (intOf j).toNat)
  case atStart => exact ⟨0, by omega, rfl, by simp⟩
  case round =>
    obtain ⟨i, hi, rfl, hno⟩ := hrel
    by_cases hlt : i < l.length
    · obtain ⟨a, rfl⟩ : ∃ a, ao = some a := by
        cases ao with
        | none => rw [hnil rfl] at hlt; simp at hlt
        | some a => exact ⟨a, rfl⟩
      have hcell := A1 a rfl i hlt
      have hts := take_snocI l i hlt
      have hmem : l.getD i 0 ∈ l := by rw [getD_get hlt]; exact List.getElem_mem hlt
      have hg := getD_get hlt
      rw [hg] at hts hmem
      by_cases he : l[i] = k
      · have HK : Hid (decide (k ∈ l) = true) := Lib.hid (decide_eq_true (he ▸ hmem))
        have d0 : (l[i] == k) = true := by simpa using he
        clear hts hmem hg hno
        go_wp2_with fail
        go_ret
        exact ⟨by rw [HK.out]; rfl, rfl⟩
      · have HK : Hid (k ∉ l.take (i + 1)) := Lib.hid (by
          rw [hts, List.mem_append]
          rintro (h | h)
          · exact hno h
          · simp at h; exact he h.symm)
        have d0 : (l[i] == k) = false := by simpa using he
        clear hts hmem hg hno he
        go_wp2_with fail
        go_round
        case rel => exact ⟨i + 1, by omega, by go_num, HK.out⟩
        case measure => simp [intOf]; omega
    · have HK : Hid (decide (k ∈ l) = false) := Lib.hid (decide_eq_false (by rw [List.take_of_length_le (by omega)] at hno; exact hno))
      clear hno
      go_wp2_with fail
      go_ret
      exact ⟨by rw [HK.out]; rfl, rfl⟩
theorem SeesI.take {w : World} {ao : Option Addr} {c k : Nat} {l : List Int} (h : SeesI w (.slice ao l.length c) l) (hk : k ≤ l.length) : SeesI w (.slice ao k c) (l.take k) := by
  obtain ⟨ao', c', e, hl, hn, hc⟩ := h
  cases e
  have hlen : (l.take k).length = k := by rw [List.length_take]; omega
  refine ⟨ao, c, by rw [hlen], by omega, fun e => by rw [hn e]; simp, fun a ha i hi => ?_⟩
  rw [hlen] at hi
  rw [hc a ha i (by omega)]
  simp [List.getD, List.getElem?_take, hi]
theorem mod_succ (x i : Nat) : x % 2 ^ (i + 1) = x % 2 ^ i + (if x.testBit i = true then 2 ^ i else 0) := by
  rw [Nat.pow_succ, Nat.mod_mul]
  congr 1
  have h := bit_div x i
  cases hb : x.testBit i with
  | true => rw [hb] at h; simp at h; simp [h]
  | false => rw [hb] at h; simp at h; simp [h]
set_option maxRecDepth 100000 in
set_option maxHeartbeats 4000000 in
theorem refOf_any (v : Value) (l : List Int) (w : World) (h : SeesI w v l) (hm : l.length ≤ 1000) :
    Calls Tryd.prog 12 #[v] w fun e w' => e = .returned (.int .u64 ((ofN l : Nat) : Int)) ∧ w = w' := by
  have HSee := Lib.hid h
  obtain ⟨ao, c, rfl, hlc, hnil, hc⟩ := h
  have A1 : Aside (∀ a, ao = some a → ∀ i, i < l.length → w.cell? (a.add i) = some (.int .i64 (l.getD i 0))) := hc
  have HI := Lib.hid (fun (k : Nat) (hk : k ≤ l.length) (i : Int) => in_any _ (l.take k) i w (HSee.out.take hk) (by rw [List.length_take]; omega))
  have hlt64 := ofN_lt l
  have HL : Hid (ofN l % 2 ^ 64 = ofN l) := Lib.hid (Nat.mod_eq_of_lt hlt64)
  have HB := Lib.hid (fun i => mod_succ (ofN l) i)
  have HBt := Lib.hid (fun i => ofN_bit l i)
  clear hc hlt64
  go_enter Tryd.func12, Tryd.ntmps12
  go_wp2_with fail
  go_loopg [3, 4, 5] 64 (fun gh s q j wr => ∃ i : Nat, i ≤ 64 ∧ gh = 64 - i ∧ j = .int .i64 i ∧ s = .int .u64 ((ofN l % 2 ^ i : Nat) : Int) ∧ q = .int .u64 ((2 ^ i % M64 : Nat) : Int) ∧ w = wr)
  case atStart => exact ⟨0, by omega, rfl, rfl, by rw [Nat.pow_zero, Nat.mod_one]; rfl, rfl, rfl⟩
  case round =>
    obtain ⟨i, hi, rfl, rfl, rfl, rfl, rfl⟩ := hrel
    by_cases hlt : i < 64
    · have hp := pow_lt64 hlt
      have hpm : 2 ^ i % M64 = 2 ^ i := Nat.mod_eq_of_lt hp
      have hsm : ofN l % 2 ^ i < 2 ^ i := Nat.mod_lt _ (Nat.pow_pos (by omega))
      have hp2 : 2 ^ i * 2 ≤ 2 ^ 64 := by rw [← Nat.pow_succ]; exact Nat.pow_le_pow_right (by omega) hlt
      have hb := HB.out i
      have hbt := HBt.out i
      rw [decide_eq_true hlt, Bool.true_and] at hbt
      rw [hbt] at hb
      have HQ : Hid (IntKind.u64.wrap (((2 ^ i : Nat) : Int) * 2) = ((2 ^ (i + 1) % M64 : Nat) : Int)) := Lib.hid (by
        rw [IntKind.wrap_u64, Nat.pow_succ]
        show _ = ((2 ^ i * 2 % 18446744073709551616 : Nat) : Int)
        omega)
      have HS : Hid (IntKind.u64.wrap (((ofN l % 2 ^ i : Nat) : Int) + ((2 ^ i : Nat) : Int)) = ((ofN l % 2 ^ i + 2 ^ i : Nat) : Int)) := Lib.hid (by
        rw [IntKind.wrap_u64]
        have e64 : (2 : Nat) ^ 64 = 18446744073709551616 := by decide
        omega)
      have HNext := Lib.hid hb
      have d64 : decide ((i : Int) < 64) = true := decide_eq_true (by omega)
      rw [hpm]
      clear hp hsm hp2 hb hbt hpm
      generalize ofN l % 2 ^ i = S at *
      generalize hP : (2 : Nat) ^ i = P at *
      clear hP
      go_wp2_with fail
      go_loopg [3, 14] l.length (fun gh s j wr => ∃ k : Nat, k ≤ l.length ∧ gh = l.length - k ∧ j = .int .i64 k ∧ s = .int .u64 ((S + (if (i : Int) ∈ l.take k then P else 0) : Nat) : Int) ∧ w = wr)
      case atStart => exact ⟨0, by omega, rfl, rfl, by simp, rfl⟩
      case round =>
        obtain ⟨k, hk, rfl, rfl, rfl, rfl⟩ := hrel
        by_cases hlk : k < l.length
        · obtain ⟨a, rfl⟩ : ∃ a, ao = some a := by
            cases ao with
            | none => rw [hnil rfl] at hlk; simp at hlk
            | some a => exact ⟨a, rfl⟩
          have hcell := A1 a rfl k hlk
          have hts := take_snocI l k hlk
          have HLK := Lib.hid hlk
          have hkc : k ≤ c := by omega
          generalize l.getD k 0 = y at hcell hts
          have hin := Lib.hid (HI.out k hk (i : Int))
          by_cases he : y = (i : Int)
          · subst he
            by_cases hin2 : (i : Int) ∈ l.take k
            · rw [decide_eq_true hin2] at hin
              have HK : Hid ((if (i : Int) ∈ l.take (k + 1) then P else 0) = P) := Lib.hid (if_pos (by rw [hts]; exact List.mem_append_left _ hin2))
              rw [if_pos hin2]
              clear hts hin2
              go_wp2_with fail
              refine hin.out.mono ?_; rintro e w1 ⟨rfl, rfl⟩
              go_wp2_with fail
              go_roundg (l.length - (k + 1))
              case measure => have := HLK.out; omega
              case rel => exact ⟨k + 1, HLK.out, rfl, by go_num, by rw [HK.out, Int.natCast_add], rfl⟩
            · rw [decide_eq_false hin2] at hin
              have HK : Hid ((if (i : Int) ∈ l.take (k + 1) then P else 0) = P) := Lib.hid (if_pos (by rw [hts]; simp))
              rw [if_neg hin2, Nat.add_zero]
              have hs := HS.out
              clear hts hin2
              go_wp2_with fail
              refine hin.out.mono ?_; rintro e w1 ⟨rfl, rfl⟩
              go_wp2_with fail
              go_roundg (l.length - (k + 1))
              case measure => have := HLK.out; omega
              case rel => exact ⟨k + 1, HLK.out, rfl, by go_num, by rw [HK.out, Int.natCast_add], rfl⟩
          · have d0 : (y == (i : Int)) = false := by simpa using he
            have HK : Hid ((if (i : Int) ∈ l.take (k + 1) then P else 0) = (if (i : Int) ∈ l.take k then P else 0)) := Lib.hid (by
              rw [hts]
              by_cases h2 : (i : Int) ∈ l.take k
              · rw [if_pos h2, if_pos (List.mem_append_left _ h2)]
              · rw [if_neg h2, if_neg (fun h3 => by
                  rcases List.mem_append.1 h3 with h4 | h4
                  · exact h2 h4
                  · simp at h4; exact he h4.symm)])
            generalize (if (i : Int) ∈ l.take k then P else 0) = G at *
            clear hts he hin
            go_wp2_with fail
            go_roundg (l.length - (k + 1))
            case measure => have := HLK.out; omega
            case rel => exact ⟨k + 1, HLK.out, rfl, by go_num, by rw [HK.out, Int.natCast_add], rfl⟩
        · obtain rfl : k = l.length := by omega
          have HN : Hid (S + (if (i : Int) ∈ l.take l.length then P else 0) = ofN l % 2 ^ (i + 1)) := Lib.hid (by rw [List.take_length, HNext.out]; simp)
          generalize S + (if (i : Int) ∈ l.take l.length then P else 0) = G at *
          have hq := HQ.out
          have HLT := Lib.hid hlt
          go_wp2_with fail
          go_roundg (64 - (i + 1))
          case measure => have := HLT.out; omega
          case rel => exact ⟨i + 1, HLT.out, rfl, by go_num, by rw [HN.out], rfl, rfl⟩
    · obtain rfl : i = 64 := by omega
      rw [HL.out]
      go_wp2_with fail
      go_ret
      exact ⟨rfl, rfl⟩
end Go.Proofs.YthkhikmdcadceaaDoor
