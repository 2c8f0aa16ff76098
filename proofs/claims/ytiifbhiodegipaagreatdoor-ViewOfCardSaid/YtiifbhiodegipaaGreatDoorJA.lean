/- Joined: BkA BkB BkC. -/
import Derived.Test.YtiifbhiodegipaaGreatDoorBkNm
import Derived.Test.YtiifbhiodegipaaGreatDoorJBt
import Derived.Test.YtiifbhiodegipaaGreatDoorRcNet
import Derived.Deep.MidRow
import Derived.Deep.WholeRow
import Derived.Deep.Cut
import Derived.Deep.DeepCutAuto
namespace Go.Proofs.YtiifbhiodegipaaGreatDoor
section
open Go.RowKit Go.Maps
/-- A block: its address, whose it is, its slots, which are free, its attributes. -/
structure BlkS where
  addr : Int
  aff : ByteArray
  sl : List Int
  free : List Int
  attrs : List (ByteArray × ByteArray)
def blkL (b : BlkS) (fv av : Value) : List Value := .int .u32 b.addr :: .string b.aff :: (b.sl.map (Value.int .u8) ++ [fv, av])
/-- A row of attributes. -/
def SeesA (w : World) (v : Value) (L : List (ByteArray × ByteArray)) : Prop :=
  ∃ (ao : Option Addr) (c : Nat), v = .slice ao L.length c ∧ L.length ≤ c ∧ (ao = none → L = []) ∧ ∀ a, ao = some a → ∀ i p, L[i]? = some p → w.cell? (a.add (i * 2)) = some (.string p.1) ∧ w.cell? ((a.add (i * 2)).add 1) = some (.string p.2)
theorem SeesA.keep {w w' : World} {v : Value} {L : List (ByteArray × ByteArray)} (h : SeesA w v L) (hb : ∀ d, v.ownBlock = some d → d < w.heap.size → w'.heap[d]? = w.heap[d]?) : SeesA w' v L := by
  obtain ⟨ao, c, rfl, hl, hn, hc⟩ := h
  refine ⟨ao, c, rfl, hl, hn, fun a ha i p hp => ?_⟩
  obtain ⟨h1, h2⟩ := hc a ha i p hp
  have hlt := cell_lt8 h1
  rw [add_block] at hlt
  have hk := hb a.block (by rw [ha]; rfl) hlt
  have e : ∀ q : Addr, q.block = a.block → w'.cell? q = w.cell? q := fun q hq => by simp [World.cell?, hq, hk]
  exact ⟨(e _ (add_block _ _)).trans h1, (e _ (by rw [add_block, add_block])).trans h2⟩
theorem SeesA.below {w w' : World} {v : Value} {L : List (ByteArray × ByteArray)} (h : SeesA w v L) (hb : Below w.heap.size w w') : SeesA w' v L := h.keep (fun d _ hd => hb.block d hd)
def BWf (b : BlkS) : Prop := (0 ≤ b.addr ∧ b.addr < 4294967296) ∧ b.sl.length = 64 ∧ okB b.sl ∧ okB b.free ∧ b.aff.size ≤ maxLen ∧ b.free.length ≤ maxLen ∧ b.attrs.length ≤ maxLen ∧ ∀ p ∈ b.attrs, p.1.size ≤ maxLen ∧ p.2.size ≤ maxLen
/-- These cells are a block's. -/
def BlkIs (w : World) (cs : Array Value) (b : BlkS) : Prop := ∃ fv av, cs = (blkL b fv av).toArray ∧ Sees w fv b.free ∧ SeesA w av b.attrs ∧ BWf b
theorem BlkIs.below {w w' : World} {cs : Array Value} {b : BlkS} (h : BlkIs w cs b) (hb : Below w.heap.size w w') : BlkIs w' cs b := by
  obtain ⟨fv, av, e, h1, h2, h3⟩ := h
  exact ⟨fv, av, e, h1.keep hb, h2.below hb, h3⟩
theorem blkL_len (b : BlkS) (h : b.sl.length = 64) (fv av : Value) : (blkL b fv av).length = 68 := by
  unfold blkL
  simp [h]
/-- A variable that holds a block. -/
def BlkAt (w : World) (g : Nat) (b : BlkS) (fv av : Value) : Prop := w.heap[g]? = some (.cells (blkL b fv av).toArray 59 (0, 0))
theorem BlkAt.addr {w : World} {g : Nat} {b : BlkS} {fv av : Value} (h : BlkAt w g b fv av) : w.cell? ⟨g, 0, none⟩ = some (.int .u32 b.addr) := by
  have h' : w.heap[g]? = some (.cells (blkL b fv av).toArray 59 (0, 0)) := h
  simp [World.cell?, h', blkL]
theorem BlkAt.aff {w : World} {g : Nat} {b : BlkS} {fv av : Value} (h : BlkAt w g b fv av) : w.cell? ⟨g, 1, none⟩ = some (.string b.aff) := by
  have h' : w.heap[g]? = some (.cells (blkL b fv av).toArray 59 (0, 0)) := h
  simp [World.cell?, h', blkL]
theorem BlkAt.free {w : World} {g : Nat} {b : BlkS} {fv av : Value} (h : BlkAt w g b fv av) (hl : b.sl.length = 64) : w.cell? ⟨g, 66, none⟩ = some fv := by
  have h' : w.heap[g]? = some (.cells (blkL b fv av).toArray 59 (0, 0)) := h
  have e : (blkL b fv av)[66]? = some fv := by
    unfold blkL
    rw [List.getElem?_cons_succ, List.getElem?_cons_succ, List.getElem?_append_right (by simp [hl])]
    simp [hl]
  simp [World.cell?, h', e]
theorem BlkAt.attrs {w : World} {g : Nat} {b : BlkS} {fv av : Value} (h : BlkAt w g b fv av) (hl : b.sl.length = 64) : w.cell? ⟨g, 67, none⟩ = some av := by
  have h' : w.heap[g]? = some (.cells (blkL b fv av).toArray 59 (0, 0)) := h
  have e : (blkL b fv av)[67]? = some av := by
    unfold blkL
    rw [List.getElem?_cons_succ, List.getElem?_cons_succ, List.getElem?_append_right (by simp [hl])]
    simp [hl]
  simp [World.cell?, h', e]
theorem BlkAt.slot {w : World} {g : Nat} {b : BlkS} {fv av : Value} (h : BlkAt w g b fv av) {i : Nat} {x : Int} (hx : b.sl[i]? = some x) : w.cell? ⟨g, i + 2, none⟩ = some (.int .u8 x) := by
  have h' : w.heap[g]? = some (.cells (blkL b fv av).toArray 59 (0, 0)) := h
  have hi : i < b.sl.length := (List.getElem?_eq_some_iff.1 hx).1
  have e : (blkL b fv av)[i + 2]? = some (.int .u8 x) := by
    unfold blkL
    rw [List.getElem?_cons_succ, List.getElem?_cons_succ, List.getElem?_append_left (by simpa using hi), List.getElem?_map, hx]
    rfl
  simp [World.cell?, h', e]
theorem BlkAt.slots {w : World} {g : Nat} {b : BlkS} {fv av : Value} (h : BlkAt w g b fv av) : w.rangeAt g 2 (b.sl.map (Value.int .u8)) := fun j v hv => by
  rw [List.getElem?_map] at hv
  cases hx : b.sl[j]? with
  | none => rw [hx] at hv; cases hv
  | some x =>
    rw [hx] at hv
    obtain rfl := Option.some.inj hv
    rw [show 2 + j = j + 2 by omega]
    exact h.slot hx
theorem BlkAt.whole {w : World} {g : Nat} {b : BlkS} {fv av : Value} (h : BlkAt w g b fv av) : w.rangeAt g 0 (blkL b fv av) := fun j v hv => by
  have h' : w.heap[g]? = some (.cells (blkL b fv av).toArray 59 (0, 0)) := h
  rw [Nat.zero_add]
  simp [World.cell?, h', hv]
theorem infoB : (Tryz.prog.info? 59).map (·.size) = some 68 := by kernel_rfl
theorem info64 : (Tryz.prog.info? 55).map (·.size) = some 64 := by kernel_rfl
theorem BlkAt.new (w : World) (b : BlkS) (fv av : Value) : BlkAt (w.alloc (.cells (blkL b fv av).toArray 59)) w.heap.size b fv av := heap_alloc_new w _
section
variable {ops : Array Oper} {rest : List Oper} {o : Oper} {a : Act} {w : World} {Q : Exit → Act → World → Prop} {g : Nat} {b : BlkS} {fv av : Value}
/-- A block read whole. -/
theorem wpLdB (hgd : o.guard = none) (x : Operand) (ho : o.op = .load 59 x) (hx : a.eval x = .pointer (some ⟨g, 0, none⟩)) (h : BlkAt w g b fv av) (hl : b.sl.length = 64)
    (hK : wpList Tryz.prog ops Q rest (a.put o.dst (.agg (blkL b fv av).toArray)) w) : wpList Tryz.prog ops Q (o :: rest) a w :=
  wpList_load_mid hgd _ x ho g 0 hx _ _ h.whole Tryz.underlying59 rfl (by rw [infoB, blkL_len b hl]) hK
/-- Its slots read whole. -/
theorem wpLd64 (hgd : o.guard = none) (x : Operand) (ho : o.op = .load 55 x) (hx : a.eval x = .pointer (some ⟨g, 2, none⟩)) (h : BlkAt w g b fv av) (hl : b.sl.length = 64)
    (hK : wpList Tryz.prog ops Q rest (a.put o.dst (.agg (b.sl.map (Value.int .u8)).toArray)) w) : wpList Tryz.prog ops Q (o :: rest) a w :=
  wpList_load_mid hgd _ x ho g 2 hx _ _ h.slots Tryz.underlying55 rfl (by rw [info64, List.length_map, hl]) hK
end
end
section
open Go.RowKit Go.Maps
theorem index64 {sl : List Int} {i : Nat} {x : Int} (hx : sl[i]? = some x) (hl : sl.length = 64) (w : World) : (Instr.index 55 (.agg (sl.map (Value.int .u8)).toArray) (.int .i64 (i : Int))).run Tryz.prog w = .ok (.int .u8 x) w := by
  have hi := (List.getElem?_eq_some_iff.1 hx).1
  have h1 : (0 : Int) ≤ (i : Int) ∧ (i : Int) < ((64 : Nat) : Int) := by omega
  have hu := Tryz.underlying55
  have hs := Tryz.sizeOf5
  have ha := Tryz.isAgg5
  unfold Instr.index
  simp [Sem.run_bind, asIntOf, run_underlying hu, h1, hs, ha, part, hx]
  intro h
  omega
/-- The set of the slots below n that are given. -/
def takeN (sl : List Int) : Nat → Nat
  | 0 => 0
  | n + 1 => if sl.getD n 0 ≠ 0 then takeN sl n ||| oneN (n : Nat) else takeN sl n
/-- The set of the attributes of the slots below n. -/
def usedN (sl : List Int) : Nat → Nat
  | 0 => 0
  | n + 1 => usedN sl n ||| oneN (sl.getD n 0 - 1)
/-- The set of the first n of a row. -/
def rowN (l : List Int) : Nat → Nat
  | 0 => 0
  | n + 1 => rowN l n ||| oneN (l.getD n 0)
theorem takeN_lt (sl : List Int) : ∀ n, takeN sl n < M64
  | 0 => by show 0 < M64; decide
  | n + 1 => by
    unfold takeN
    split
    · exact or_lt (takeN_lt sl n) (oneN_lt _)
    · exact takeN_lt sl n
theorem usedN_lt (sl : List Int) : ∀ n, usedN sl n < M64
  | 0 => by show 0 < M64; decide
  | n + 1 => or_lt (usedN_lt sl n) (oneN_lt _)
theorem rowN_lt (l : List Int) : ∀ n, rowN l n < M64
  | 0 => by show 0 < M64; decide
  | n + 1 => or_lt (rowN_lt l n) (oneN_lt _)
theorem oneN_bit (i : Int) (j : Nat) : (oneN i).testBit j = (decide (i = (j : Int)) && decide (j < 64)) := by
  unfold oneN slotB
  by_cases h0 : 0 ≤ i
  · by_cases h1 : i < 64
    · rw [decide_eq_true h0, decide_eq_true h1]
      simp only [Bool.and_self, if_true]
      rw [Nat.testBit_two_pow]
      by_cases h : i = (j : Int)
      · have e : i.toNat = j := by omega
        simp [h]
        omega
      · have e : ¬ i.toNat = j := by omega
        simp [e, h]
    · rw [decide_eq_false h1]
      have : ¬ (i = (j : Int) ∧ j < 64) := by omega
      simp
      omega
  · rw [decide_eq_false h0]
    simp
    omega
theorem takeN_bit (sl : List Int) (j : Nat) : ∀ n, n ≤ 64 → (takeN sl n).testBit j = (decide (j < n) && decide (sl.getD j 0 ≠ 0))
  | 0, _ => by simp [takeN]
  | n + 1, h => by
    have ih := takeN_bit sl j n (by omega)
    unfold takeN
    by_cases hn : sl.getD n 0 ≠ 0
    · rw [if_pos hn, Nat.testBit_or, ih, oneN_bit]
      by_cases hj : j = n
      · subst hj
        rw [decide_eq_true hn, decide_eq_true (show j < j + 1 by omega)]
        simp
        omega
      · have e1 : ¬ ((n : Int) = (j : Int)) := by omega
        rw [decide_eq_false e1, show decide (j < n + 1) = decide (j < n) from by simp; omega]
        simp
    · rw [if_neg hn, ih]
      by_cases hj : j = n
      · subst hj
        rw [decide_eq_false hn]
        simp
      · rw [show decide (j < n + 1) = decide (j < n) from by simp; omega]
theorem usedN_bit (sl : List Int) (j : Nat) : ∀ n, (usedN sl n).testBit j = true ↔ j < 64 ∧ ∃ i, i < n ∧ sl.getD i 0 = (j : Int) + 1
  | 0 => by simp [usedN]
  | n + 1 => by
    have ih := usedN_bit sl j n
    unfold usedN
    rw [Nat.testBit_or, Bool.or_eq_true, ih, oneN_bit, Bool.and_eq_true, decide_eq_true_eq, decide_eq_true_eq]
    constructor
    · rintro (⟨h, i, hi, he⟩ | ⟨he, h⟩)
      · exact ⟨h, i, by omega, he⟩
      · exact ⟨h, n, by omega, by omega⟩
    · rintro ⟨h, i, hi, he⟩
      by_cases hin : i = n
      · subst hin; exact Or.inr ⟨by omega, h⟩
      · exact Or.inl ⟨h, i, by omega, he⟩
theorem rowN_bit (l : List Int) (j : Nat) : ∀ n, (rowN l n).testBit j = true ↔ j < 64 ∧ ∃ i, i < n ∧ l.getD i 0 = (j : Int)
  | 0 => by simp [rowN]
  | n + 1 => by
    have ih := rowN_bit l j n
    unfold rowN
    rw [Nat.testBit_or, Bool.or_eq_true, ih, oneN_bit, Bool.and_eq_true, decide_eq_true_eq, decide_eq_true_eq]
    constructor
    · rintro (⟨h, i, hi, he⟩ | ⟨he, h⟩)
      · exact ⟨h, i, by omega, he⟩
      · exact ⟨h, n, by omega, by omega⟩
    · rintro ⟨h, i, hi, he⟩
      by_cases hin : i = n
      · subst hin; exact Or.inr ⟨by omega, h⟩
      · exact Or.inl ⟨h, i, by omega, he⟩
theorem get64 {sl : List Int} (hl : sl.length = 64) {i : Nat} (hi : i < 64) : sl[i]? = some (sl.getD i 0) := by
  rw [List.getD_eq_getElem?_getD, List.getElem?_eq_getElem (by omega)]
  rfl
theorem okB_get {l : List Int} (h : okB l) (i : Nat) : 0 ≤ l.getD i 0 ∧ l.getD i 0 < 256 := by
  rw [List.getD_eq_getElem?_getD]
  cases hx : l[i]? with
  | none => simp
  | some x =>
    have := h x (List.mem_of_getElem? hx)
    simp only [Option.getD_some]
    omega
set_option maxRecDepth 100000 in
theorem taken_any (b : BlkS) (fv av : Value) (hl : b.sl.length = 64) (w : World) :
    Calls Tryz.prog 65 #[.agg (blkL b fv av).toArray] w fun e w' => e = .returned (.int .u64 ((takeN b.sl 64 : Nat) : Int)) ∧ Below w.heap.size w w' := by
  obtain ⟨w1, hw1⟩ : ∃ w1, w1 = w.alloc (.cells (blkL b fv av).toArray 59) := ⟨_, rfl⟩
  have hx : BlkAt w1 w.heap.size b fv av := by rw [hw1]; exact BlkAt.new w b fv av
  have hb : Below w.heap.size w w1 := by rw [hw1]; exact belNew w _
  have HX := Lib.hid hx
  have HB := Lib.hid hb
  have HI := Lib.hid (fun (i : Nat) (hi : i < 64) (w : World) => index64 (get64 hl hi) hl w)
  have HW := Lib.hid (fun (x : Nat) (i : Int) (h : x < M64) (w : World) => with_any x i h w)
  clear hx hb
  go_enter Tryz.func65, Tryz.ntmps65
  go_upto_region 1 with fail
  change Code.wp _ _ _ _ (w.alloc (.cells (blkL b fv av).toArray 59))
  rw [← hw1]
  clear hw1
  go_wp2_with (refine wpLd64 rfl _ rfl rfl HX.out hl ?_)
  go_loop [3, 8] (fun s j => ∃ i : Nat, i ≤ 64 ∧ s = .int .u64 ((takeN b.sl i : Nat) : Int) ∧ j = .int .i64 i) (fun _ j => 64 - (intOf j).toNat)
  case atStart => exact ⟨0, by omega, rfl, rfl⟩
  case round =>
    obtain ⟨i, hi, rfl, rfl⟩ := hrel
    by_cases hlt : i < 64
    · have d1 : decide ((i : Int) < 64) = true := by simp; omega
      have hix := HI.out i hlt w1
      have HT : Hid (takeN b.sl (i + 1) = if b.sl.getD i 0 ≠ 0 then takeN b.sl i ||| oneN (i : Nat) else takeN b.sl i) := Lib.hid rfl
      have HN := Lib.hid (HW.out (takeN b.sl i) (i : Nat) (takeN_lt _ _))
      generalize b.sl.getD i 0 = x at hix HT
      by_cases hx0 : x = 0
      · have dx : (x != 0) = false := by simp [hx0]
        have HT2 : Hid (takeN b.sl (i + 1) = takeN b.sl i) := Lib.hid (by rw [HT.out, if_neg (by simpa using hx0)])
        clear hx0
        go_wp2_with fail
        go_round
        case rel => exact ⟨i + 1, by omega, by rw [HT2.out], by go_num⟩
        case measure => simp [intOf]; omega
      · have dx : (x != 0) = true := by simp [hx0]
        have HT2 : Hid (takeN b.sl (i + 1) = takeN b.sl i ||| oneN (i : Nat)) := Lib.hid (by rw [HT.out, if_pos (by simpa using hx0)])
        clear hx0
        go_wp2_with fail
        refine (HN.out _).mono ?_; rintro e w2 ⟨rfl, rfl⟩
        go_wp2_with fail
        go_round
        case rel => exact ⟨i + 1, by omega, by rw [HT2.out], by go_num⟩
        case measure => simp [intOf]; omega
    · obtain rfl : i = 64 := by omega
      go_wp2_with fail
      go_ret
      exact ⟨rfl, HB.out⟩
set_option maxRecDepth 100000 in
theorem used_any (b : BlkS) (fv av : Value) (hl : b.sl.length = 64) (hok : okB b.sl) (w : World) :
    Calls Tryz.prog 138 #[.agg (blkL b fv av).toArray] w fun e w' => e = .returned (.int .u64 ((usedN b.sl 64 : Nat) : Int)) ∧ Below w.heap.size w w' := by
  obtain ⟨w1, hw1⟩ : ∃ w1, w1 = w.alloc (.cells (blkL b fv av).toArray 59) := ⟨_, rfl⟩
  have hx : BlkAt w1 w.heap.size b fv av := by rw [hw1]; exact BlkAt.new w b fv av
  have hb : Below w.heap.size w w1 := by rw [hw1]; exact belNew w _
  have HX := Lib.hid hx
  have HB := Lib.hid hb
  have HI := Lib.hid (fun (i : Nat) (hi : i < 64) (w : World) => index64 (get64 hl hi) hl w)
  have HW := Lib.hid (fun (x : Nat) (i : Int) (h : x < M64) (w : World) => with_any x i h w)
  have HO := Lib.hid hok
  clear hx hb hok
  go_enter Tryz.func138, Tryz.ntmps138
  go_upto_region 1 with fail
  change Code.wp _ _ _ _ (w.alloc (.cells (blkL b fv av).toArray 59))
  rw [← hw1]
  clear hw1
  go_wp2_with (refine wpLd64 rfl _ rfl rfl HX.out hl ?_)
  go_loop [3, 8] (fun s j => ∃ i : Nat, i ≤ 64 ∧ s = .int .u64 ((usedN b.sl i : Nat) : Int) ∧ j = .int .i64 i) (fun _ j => 64 - (intOf j).toNat)
  case atStart => exact ⟨0, by omega, rfl, rfl⟩
  case round =>
    obtain ⟨i, hi, rfl, rfl⟩ := hrel
    by_cases hlt : i < 64
    · have d1 : decide ((i : Int) < 64) = true := by simp; omega
      have hix := HI.out i hlt w1
      have hbx := okB_get HO.out i
      have HT : Hid (usedN b.sl (i + 1) = usedN b.sl i ||| oneN (b.sl.getD i 0 - 1)) := Lib.hid rfl
      have HN := Lib.hid (HW.out (usedN b.sl i) (b.sl.getD i 0 - 1) (usedN_lt _ _))
      generalize b.sl.getD i 0 = x at hix HT HN hbx
      have s1 : IntKind.i64.wrap x = x := IntWalk.i64_in _ (by omega)
      have s2 : IntKind.i64.wrap (x - 1) = x - 1 := IntWalk.i64_in _ (by omega)
      go_wp2_with fail
      refine (HN.out _).mono ?_; rintro e w2 ⟨rfl, rfl⟩
      go_wp2_with fail
      go_round
      case rel => exact ⟨i + 1, by omega, by rw [HT.out], by go_num⟩
      case measure => simp [intOf]; omega
    · obtain rfl : i = 64 := by omega
      go_wp2_with fail
      go_ret
      exact ⟨rfl, HB.out⟩
end
section
open Go.RowKit Go.Maps
theorem hole26 : hole 26 = 64 := by decide
theorem block26 (a : Int) (ha : 0 ≤ a) (ha' : a < 4294967296) (w : World) :
    Calls Tryz.prog 31 #[.int .u32 a, .int .i64 26] w fun e w' => e = .returned (.tuple #[.agg #[.int .u32 (a - a % 64), .int .i64 26], .int .i64 0]) ∧ Below w.heap.size w w' := by
  have HB : Hid (∀ w, Calls Tryz.prog 61 #[.int .i64 26] w fun e w' => e = .returned (.bool true) ∧ w = w') := Lib.hid (fun w => mayBits_any 26 w)
  have HM := Lib.hid (and_mask a 26 ha ha' (by omega) (by omega))
  rw [hole26] at HM
  go_enter Tryz.func31, Tryz.ntmps31
  go_wp2_with fail
  refine (HB.out _).mono ?_; rintro e w' ⟨rfl, rfl⟩
  go_wp2_with fail
  refine (mask_any 26 _).mono ?_; rintro e w' ⟨rfl, rfl⟩
  go_wp2_with fail
  refine bodyPost_ret (v := .tuple #[.agg #[.int .u32 (bits .and .u32 a (maskI 26)), .int .i64 26], .int .i64 0]) ?_ rfl ⟨by rw [HM.out], ?_⟩
  · simp [results, Tryz.results31, go_sem]
  · exact belNew w _
theorem first_any (a : Int) (ha : 0 ≤ a) (ha' : a < 4294967296) (w : World) :
    Calls Tryz.prog 99 #[.int .u32 a] w fun e w' => e = .returned (.int .u32 (a - a % 64)) ∧ Below w.heap.size w w' := by
  have HB := Lib.hid (block26 a ha ha' w)
  go_enter Tryz.func99, Tryz.ntmps99
  go_wp2_with fail
  refine HB.out.mono ?_; rintro e w1 ⟨rfl, hb1⟩
  have HB1 := Lib.hid (belAlloc hb1 (.cells #[.int .u32 (a - a % 64), .int .i64 26] 62))
  clear hb1
  go_wp2_with fail
  go_ret
  exact ⟨rfl, HB1.out⟩
theorem bcellB {w W : World} {a : Addr} {v : Value} (hb : Below w.heap.size w W) (h : w.cell? a = some v) : W.cell? a = some v := (hb.cell (cell_lt8 h)).trans h
theorem cells2 {w : World} {g : Nat} {x y : Value} {t : TypeId} (h : w.heap[g]? = some (.cells #[x, y] t (0, 0))) : w.cell? ⟨g, 0, none⟩ = some x ∧ w.cell? ⟨g, 1, none⟩ = some y := by simp [World.cell?, h]
theorem may26 (a : Int) : mayB a 26 = decide (a % 64 = 0) := by
  unfold mayB
  rw [hole26]
  rfl
/-- Where an address lies in a block, if it does. -/
def inB (a x : Int) : Bool := decide (x - x % 64 = a)
def ownB (s : ByteArray) : Bool := decide (s.size = 0) || okName s.data.toList
def mayP (p : ByteArray × ByteArray) : Bool := okName p.1.data.toList && okName p.2.data.toList
theorem mayOwn_any (s : ByteArray) (hs : s.size ≤ maxLen) (w : World) : Calls Tryz.prog 100 #[.string s] w fun e w' => e = .returned (.bool (ownB s)) ∧ Below w.heap.size w w' := by
  have HR := Lib.hid (right_any s w hs)
  have HS := str_empty s
  unfold ownB
  generalize okName s.data.toList = q at HR ⊢
  cases hd : decide (s.size = 0) with
  | true =>
    rw [hd] at HS
    go_enter Tryz.func100, Tryz.ntmps100
    go_wp2_with fail
    go_ret
    exact ⟨rfl, Below.refl _ _⟩
  | false =>
    rw [hd] at HS
    go_enter Tryz.func100, Tryz.ntmps100
    go_wp2_with fail
    refine HR.out.mono ?_; rintro e w1 ⟨rfl, hb1⟩
    have HB1 := Lib.hid hb1
    clear hb1
    go_wp2_with fail
    go_ret
    exact ⟨rfl, HB1.out⟩
abbrev atV (p : ByteArray × ByteArray) : Value := .agg #[.string p.1, .string p.2]
abbrev atO (p : ByteArray × ByteArray) : Obj := .cells #[.string p.1, .string p.2] 76
set_option maxRecDepth 100000 in
theorem mayBe_any (p : ByteArray × ByteArray) (h1 : p.1.size ≤ maxLen) (h2 : p.2.size ≤ maxLen) (w : World) : Calls Tryz.prog 136 #[atV p] w fun e w' => e = .returned (.bool (mayP p)) ∧ Below w.heap.size w w' := by
  obtain ⟨w1, hw1⟩ : ∃ w1, w1 = w.alloc (atO p) := ⟨_, rfl⟩
  have hx1 : w1.heap[w.heap.size]? = some (atO p) := by rw [hw1]; exact heap_alloc_new w _
  have hb : Below w.heap.size w w1 := by rw [hw1]; exact belNew w _
  obtain ⟨c0, c1⟩ := cells2 hx1
  have HB := Lib.hid (And.intro hb hx1)
  have HR1 := Lib.hid (fun w => right_any p.1 w h1)
  have HR2 := Lib.hid (fun w => right_any p.2 w h2)
  unfold mayP
  generalize okName p.1.data.toList = q1 at HR1 ⊢
  generalize okName p.2.data.toList = q2 at HR2 ⊢
  clear hx1 hb
  go_enter Tryz.func136, Tryz.ntmps136
  go_upto_region 1 with fail
  change Code.wp _ _ _ _ (w.alloc (atO p))
  rw [← hw1]
  clear hw1
  go_wp2_with fail
  refine (HR1.out _).mono ?_; rintro e w2 ⟨rfl, hb2⟩
  have hx2 := (hb2.block _ (heap_lt HB.out.2)).trans HB.out.2
  obtain ⟨c0, c1⟩ := cells2 hx2
  have HB2 := Lib.hid (HB.out.1.trans (hb2.mono HB.out.1.size))
  clear hb2 hx2
  cases q1 with
  | true =>
    go_wp2_with fail
    refine (HR2.out _).mono ?_; rintro e w3 ⟨rfl, hb3⟩
    have HB3 := Lib.hid (HB2.out.trans (hb3.mono HB2.out.size))
    clear hb3
    go_wp2_with fail
    go_ret
    exact ⟨rfl, HB3.out⟩
  | false =>
    go_wp2_with fail
    go_ret
    exact ⟨rfl, HB2.out⟩
end
end Go.Proofs.YtiifbhiodegipaaGreatDoor
