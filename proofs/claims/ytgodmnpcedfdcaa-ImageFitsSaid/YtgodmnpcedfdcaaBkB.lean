/- Package block: which slots are given, which attributes are some slot's. -/
import Derived.Test.YtgodmnpcedfdcaaBkA
namespace Go.Proofs.Ytgodmnpcedfdcaa
open Go.RowKit Go.Maps
theorem index64 {sl : List Int} {i : Nat} {x : Int} (hx : sl[i]? = some x) (hl : sl.length = 64) (w : World) : (Instr.index 23 (.agg (sl.map (Value.int .u8)).toArray) (.int .i64 (i : Int))).run Try.prog w = .ok (.int .u8 x) w := by
  have hi := (List.getElem?_eq_some_iff.1 hx).1
  have h1 : (0 : Int) ≤ (i : Int) ∧ (i : Int) < ((64 : Nat) : Int) := by omega
  have hu := Try.underlying23
  have hs := Try.sizeOf5
  have ha := Try.isAgg5
  unfold Instr.index
  simp [Sem.run_bind, asIntOf, run_underlying hu, h1, hs, ha, part, hx]
  intro h
  omega
/-- The set of the slots below n that are given. -/
def takeN (sl : List Int) : Nat → Nat
  | 0 => 0
  | n + 1 => if sl.getD n 0 ≠ 0 then takeN sl n ||| oneN (n : Nat) else takeN sl n
/-- The set of the attributes of the slots below n. -/
def usedN (sl : List Int) : Nat → Nat
  | 0 => 0
  | n + 1 => usedN sl n ||| oneN (sl.getD n 0 - 1)
/-- The set of the first n of a row. -/
def rowN (l : List Int) : Nat → Nat
  | 0 => 0
  | n + 1 => rowN l n ||| oneN (l.getD n 0)
theorem takeN_lt (sl : List Int) : ∀ n, takeN sl n < M64
  | 0 => by show 0 < M64; decide
  | n + 1 => by
    unfold takeN
    split
    · exact or_lt (takeN_lt sl n) (oneN_lt _)
    · exact takeN_lt sl n
theorem usedN_lt (sl : List Int) : ∀ n, usedN sl n < M64
  | 0 => by show 0 < M64; decide
  | n + 1 => or_lt (usedN_lt sl n) (oneN_lt _)
theorem rowN_lt (l : List Int) : ∀ n, rowN l n < M64
  | 0 => by show 0 < M64; decide
  | n + 1 => or_lt (rowN_lt l n) (oneN_lt _)
theorem oneN_bit (i : Int) (j : Nat) : (oneN i).testBit j = (decide (i = (j : Int)) && decide (j < 64)) := by
  unfold oneN slotB
  by_cases h0 : 0 ≤ i
  · by_cases h1 : i < 64
    · rw [decide_eq_true h0, decide_eq_true h1]
      simp only [Bool.and_self, if_true]
      rw [Nat.testBit_two_pow]
      by_cases h : i = (j : Int)
      · have e : i.toNat = j := by omega
        simp [e, h]
        omega
      · have e : ¬ i.toNat = j := by omega
        simp [e, h]
    · rw [decide_eq_false h1]
      have : ¬ (i = (j : Int) ∧ j < 64) := by omega
      simp
      omega
  · rw [decide_eq_false h0]
    simp
    omega
theorem takeN_bit (sl : List Int) (j : Nat) : ∀ n, n ≤ 64 → (takeN sl n).testBit j = (decide (j < n) && decide (sl.getD j 0 ≠ 0))
  | 0, _ => by simp [takeN]
  | n + 1, h => by
    have ih := takeN_bit sl j n (by omega)
    unfold takeN
    by_cases hn : sl.getD n 0 ≠ 0
    · rw [if_pos hn, Nat.testBit_or, ih, oneN_bit]
      by_cases hj : j = n
      · subst hj
        rw [decide_eq_true hn, decide_eq_true (show j < j + 1 by omega)]
        simp
        omega
      · have e1 : ¬ ((n : Int) = (j : Int)) := by omega
        rw [decide_eq_false e1, show decide (j < n + 1) = decide (j < n) from by simp; omega]
        simp
    · rw [if_neg hn, ih]
      by_cases hj : j = n
      · subst hj
        rw [decide_eq_false hn]
        simp
      · rw [show decide (j < n + 1) = decide (j < n) from by simp; omega]
theorem usedN_bit (sl : List Int) (j : Nat) : ∀ n, (usedN sl n).testBit j = true ↔ j < 64 ∧ ∃ i, i < n ∧ sl.getD i 0 = (j : Int) + 1
  | 0 => by simp [usedN]
  | n + 1 => by
    have ih := usedN_bit sl j n
    unfold usedN
    rw [Nat.testBit_or, Bool.or_eq_true, ih, oneN_bit, Bool.and_eq_true, decide_eq_true_eq, decide_eq_true_eq]
    constructor
    · rintro (⟨h, i, hi, he⟩ | ⟨he, h⟩)
      · exact ⟨h, i, by omega, he⟩
      · exact ⟨h, n, by omega, by omega⟩
    · rintro ⟨h, i, hi, he⟩
      by_cases hin : i = n
      · subst hin; exact Or.inr ⟨by omega, h⟩
      · exact Or.inl ⟨h, i, by omega, he⟩
theorem rowN_bit (l : List Int) (j : Nat) : ∀ n, (rowN l n).testBit j = true ↔ j < 64 ∧ ∃ i, i < n ∧ l.getD i 0 = (j : Int)
  | 0 => by simp [rowN]
  | n + 1 => by
    have ih := rowN_bit l j n
    unfold rowN
    rw [Nat.testBit_or, Bool.or_eq_true, ih, oneN_bit, Bool.and_eq_true, decide_eq_true_eq, decide_eq_true_eq]
    constructor
    · rintro (⟨h, i, hi, he⟩ | ⟨he, h⟩)
      · exact ⟨h, i, by omega, he⟩
      · exact ⟨h, n, by omega, by omega⟩
    · rintro ⟨h, i, hi, he⟩
      by_cases hin : i = n
      · subst hin; exact Or.inr ⟨by omega, h⟩
      · exact Or.inl ⟨h, i, by omega, he⟩
theorem get64 {sl : List Int} (hl : sl.length = 64) {i : Nat} (hi : i < 64) : sl[i]? = some (sl.getD i 0) := by
  rw [List.getD_eq_getElem?_getD, List.getElem?_eq_getElem (by omega)]
  rfl
theorem okB_get {l : List Int} (h : okB l) (i : Nat) : 0 ≤ l.getD i 0 ∧ l.getD i 0 < 256 := by
  rw [List.getD_eq_getElem?_getD]
  cases hx : l[i]? with
  | none => simp
  | some x =>
    have := h x (List.mem_of_getElem? hx)
    simp only [Option.getD_some]
    omega
set_option maxRecDepth 100000 in
theorem taken_any (b : BlkS) (fv av : Value) (hl : b.sl.length = 64) (w : World) :
    Calls Try.prog 58 #[.agg (blkL b fv av).toArray] w fun e w' => e = .returned (.int .u64 ((takeN b.sl 64 : Nat) : Int)) ∧ Below w.heap.size w w' := by
  obtain ⟨w1, hw1⟩ : ∃ w1, w1 = w.alloc (.cells (blkL b fv av).toArray 32) := ⟨_, rfl⟩
  have hx : BlkAt w1 w.heap.size b fv av := by rw [hw1]; exact BlkAt.new w b fv av
  have hb : Below w.heap.size w w1 := by rw [hw1]; exact belNew w _
  have HX := Lib.hid hx
  have HB := Lib.hid hb
  have HI := Lib.hid (fun (i : Nat) (hi : i < 64) (w : World) => index64 (get64 hl hi) hl w)
  have HW := Lib.hid (fun (x : Nat) (i : Int) (h : x < M64) (w : World) => with_any x i h w)
  clear hx hb
  go_enter Try.func58, Try.ntmps58
  go_upto_region 1 with fail
  change Code.wp _ _ _ _ (w.alloc (.cells (blkL b fv av).toArray 32))
  rw [← hw1]
  clear hw1
  go_wp2_with (refine wpLd64 rfl _ rfl rfl HX.out hl ?_)
  go_loop [3, 8] (fun s j => ∃ i : Nat, i ≤ 64 ∧ s = .int .u64 ((takeN b.sl i : Nat) : Int) ∧ j = .int .i64 i) (fun _ j => 64 - (intOf j).toNat)
  case atStart => exact ⟨0, by omega, rfl, rfl⟩
  case round =>
    obtain ⟨i, hi, rfl, rfl⟩ := hrel
    by_cases hlt : i < 64
    · have d1 : decide ((i : Int) < 64) = true := by simp; omega
      have hix := HI.out i hlt w1
      have HT : Hid (takeN b.sl (i + 1) = if b.sl.getD i 0 ≠ 0 then takeN b.sl i ||| oneN (i : Nat) else takeN b.sl i) := Lib.hid rfl
      have HN := Lib.hid (HW.out (takeN b.sl i) (i : Nat) (takeN_lt _ _))
      generalize b.sl.getD i 0 = x at hix HT
      by_cases hx0 : x = 0
      · have dx : (x != 0) = false := by simp [hx0]
        have HT2 : Hid (takeN b.sl (i + 1) = takeN b.sl i) := Lib.hid (by rw [HT.out, if_neg (by simpa using hx0)])
        clear hx0
        go_wp2_with fail
        go_round
        case rel => exact ⟨i + 1, by omega, by rw [HT2.out], by go_num⟩
        case measure => simp [intOf]; omega
      · have dx : (x != 0) = true := by simp [hx0]
        have HT2 : Hid (takeN b.sl (i + 1) = takeN b.sl i ||| oneN (i : Nat)) := Lib.hid (by rw [HT.out, if_pos (by simpa using hx0)])
        clear hx0
        go_wp2_with fail
        refine (HN.out _).mono ?_; rintro e w2 ⟨rfl, rfl⟩
        go_wp2_with fail
        go_round
        case rel => exact ⟨i + 1, by omega, by rw [HT2.out], by go_num⟩
        case measure => simp [intOf]; omega
    · obtain rfl : i = 64 := by omega
      go_wp2_with fail
      go_ret
      exact ⟨rfl, HB.out⟩
set_option maxRecDepth 100000 in
theorem used_any (b : BlkS) (fv av : Value) (hl : b.sl.length = 64) (hok : okB b.sl) (w : World) :
    Calls Try.prog 82 #[.agg (blkL b fv av).toArray] w fun e w' => e = .returned (.int .u64 ((usedN b.sl 64 : Nat) : Int)) ∧ Below w.heap.size w w' := by
  obtain ⟨w1, hw1⟩ : ∃ w1, w1 = w.alloc (.cells (blkL b fv av).toArray 32) := ⟨_, rfl⟩
  have hx : BlkAt w1 w.heap.size b fv av := by rw [hw1]; exact BlkAt.new w b fv av
  have hb : Below w.heap.size w w1 := by rw [hw1]; exact belNew w _
  have HX := Lib.hid hx
  have HB := Lib.hid hb
  have HI := Lib.hid (fun (i : Nat) (hi : i < 64) (w : World) => index64 (get64 hl hi) hl w)
  have HW := Lib.hid (fun (x : Nat) (i : Int) (h : x < M64) (w : World) => with_any x i h w)
  have HO := Lib.hid hok
  clear hx hb hok
  go_enter Try.func82, Try.ntmps82
  go_upto_region 1 with fail
  change Code.wp _ _ _ _ (w.alloc (.cells (blkL b fv av).toArray 32))
  rw [← hw1]
  clear hw1
  go_wp2_with (refine wpLd64 rfl _ rfl rfl HX.out hl ?_)
  go_loop [3, 8] (fun s j => ∃ i : Nat, i ≤ 64 ∧ s = .int .u64 ((usedN b.sl i : Nat) : Int) ∧ j = .int .i64 i) (fun _ j => 64 - (intOf j).toNat)
  case atStart => exact ⟨0, by omega, rfl, rfl⟩
  case round =>
    obtain ⟨i, hi, rfl, rfl⟩ := hrel
    by_cases hlt : i < 64
    · have d1 : decide ((i : Int) < 64) = true := by simp; omega
      have hix := HI.out i hlt w1
      have hbx := okB_get HO.out i
      have HT : Hid (usedN b.sl (i + 1) = usedN b.sl i ||| oneN (b.sl.getD i 0 - 1)) := Lib.hid rfl
      have HN := Lib.hid (HW.out (usedN b.sl i) (b.sl.getD i 0 - 1) (usedN_lt _ _))
      generalize b.sl.getD i 0 = x at hix HT HN hbx
      have s1 : IntKind.i64.wrap x = x := IntWalk.i64_in _ (by omega)
      have s2 : IntKind.i64.wrap (x - 1) = x - 1 := IntWalk.i64_in _ (by omega)
      go_wp2_with fail
      refine (HN.out _).mono ?_; rintro e w2 ⟨rfl, rfl⟩
      go_wp2_with fail
      go_round
      case rel => exact ⟨i + 1, by omega, by rw [HT.out], by go_num⟩
      case measure => simp [intOf]; omega
    · obtain rfl : i = 64 := by omega
      go_wp2_with fail
      go_ret
      exact ⟨rfl, HB.out⟩
end Go.Proofs.Ytgodmnpcedfdcaa
