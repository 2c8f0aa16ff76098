/- Package bits: rows of numbers; which slots a set has, by both ways; the set of numbers. -/
import Derived.Test.YthkhikmdcadceaaDoorBtOnes
import Derived.Lib.SliceRun
import Derived.Laws.OwnMore
namespace Go.Proofs.YthkhikmdcadceaaDoor
open Go.RowKit
theorem infoI : (Tryd.prog.info? 3).map (fun i => (i.zero, i.size, i.bytes)) = some (some (.int .i64 0), 1, 8) := by kernel_rfl
abbrev cellsI (xs : List Int) : List Value := xs.map (Value.int .i64)
/-- A value that reads as these numbers. -/
def SeesI (w : World) (v : Value) (xs : List Int) : Prop :=
  ∃ (ao : Option Addr) (c : Nat), v = .slice ao xs.length c ∧ xs.length ≤ c ∧ (ao = none → xs = []) ∧ ∀ a, ao = some a → ∀ i, i < xs.length → w.cell? (a.add i) = some (.int .i64 (xs.getD i 0))
/-- A value of the call's own that holds these numbers. -/
abbrev OwnsI (w : World) (B : Nat) (v : Value) (xs : List Int) : Prop := w.ownsRow B 3 1 v xs.length (cellsI xs)
theorem cell_ltI {w : World} {a : Addr} {v : Value} (h : w.cell? a = some v) : a.block < w.heap.size := by
  rcases Nat.lt_or_ge a.block w.heap.size with hlt | hge
  · exact hlt
  · simp [World.cell?, Array.getElem?_eq_none hge] at h
theorem heap_ltI {w : World} {g : Nat} {o : Obj} (h : w.heap[g]? = some o) : g < w.heap.size := (Array.getElem?_eq_some_iff.1 h).1
theorem add0 (g n : Nat) : (⟨g, 0, none⟩ : Addr).add n = ⟨g, n, none⟩ := by
  unfold Addr.add
  by_cases h : n = 0
  · subst h; rfl
  · simp [h]
theorem SeesI.keep {w w' : World} {v : Value} {xs : List Int} (h : SeesI w v xs) (hb : Below w.heap.size w w') : SeesI w' v xs := by
  obtain ⟨ao, c, e, hl, hn, hc⟩ := h
  exact ⟨ao, c, e, hl, hn, fun a ha i hi => by rw [hb.cell (cell_ltI (hc a ha i hi))]; exact hc a ha i hi⟩
theorem SeesI.nil (w : World) : SeesI w (.slice none 0 0) [] := ⟨none, 0, rfl, Nat.le_refl _, fun _ => rfl, fun _ h => by cases h⟩
theorem getD_cellsI {xs : List Int} {i : Nat} (h : i < xs.length) : (cellsI xs)[i]? = some (.int .i64 (xs.getD i 0)) := by
  simp [List.getD, List.getElem?_eq_getElem h]
theorem OwnsI.sees {w : World} {B : Nat} {v : Value} {xs : List Int} (h : OwnsI w B v xs) : SeesI w v xs := by
  have hc := fun g hg => World.ownsRow.cells h (g := g) hg
  obtain ⟨_, ⟨rfl, hn⟩ | ⟨g, cap, cur, rfl, _, _, hnc, _, _, _⟩⟩ := h
  · obtain rfl := List.eq_nil_of_length_eq_zero hn
    exact SeesI.nil w
  · exact ⟨some ⟨g, 0, none⟩, cap, rfl, hnc, (fun e => by cases e), fun a ha i hi => (by cases ha; exact hc g rfl i _ (getD_cellsI hi))⟩
theorem OwnsI.nil (w : World) (B : Nat) : OwnsI w B (.slice none 0 0) [] := World.ownsRow_nil _ _ _ _
theorem OwnsI.keep {w w' : World} {B : Nat} {v : Value} {xs : List Int} (h : OwnsI w B v xs) (hb : Below w.heap.size w w') : OwnsI w' B v xs :=
  ⟨h.1, h.2.imp id fun ⟨g, cap, cur, e, hB, hg, r⟩ => ⟨g, cap, cur, e, hB, (hb.block g (heap_ltI hg)).trans hg, r⟩⟩
theorem bel {w a b : World} (h : Below w.heap.size w a) (k : Below a.heap.size a b) : Below w.heap.size w b := h.trans (k.mono h.size)
theorem belNew (w : World) (o : Obj) : Below w.heap.size w (w.alloc o) := (Below.refl _ _).alloc (Nat.le_refl _) _
theorem belAlloc {w a : World} (h : Below w.heap.size w a) (o : Obj) : Below w.heap.size w (a.alloc o) := h.alloc h.size _
/-- The slots below i in a set. -/
def memZ (x i : Nat) : List Int := ((List.range i).filter (fun k => x.testBit k)).map (fun (n : Nat) => (n : Int))
theorem memZ_succ (x i : Nat) : memZ x (i + 1) = if x.testBit i = true then memZ x i ++ [(i : Int)] else memZ x i := by
  unfold memZ
  rw [List.range_succ, List.filter_append, List.map_append]
  split
  · rename_i h; simp [List.filter_cons, h]
  · rename_i h; simp [List.filter_cons, h]
theorem memZ_len (x i : Nat) : (memZ x i).length ≤ i := by
  unfold memZ
  rw [List.length_map]
  have := List.length_filter_le (fun k => x.testBit k) (List.range i)
  simpa using this
theorem slot_nat {i : Nat} (h : i < 64) : slotB (i : Int) = true := by unfold slotB; rw [decide_eq_true (by omega), decide_eq_true (by omega)]; rfl
theorem hasB_nat (x i : Nat) (h : i < 64) : hasB x (i : Int) = x.testBit i := by unfold hasB; rw [slot_nat h, Bool.true_and, Int.toNat_natCast]
set_option maxRecDepth 100000 in
set_option maxHeartbeats 4000000 in
theorem list_any (x : Nat) (hx : x < M64) (w : World) :
    Calls Tryd.prog 8 #[.int .u64 x] w fun e w' => ∃ v, e = .returned v ∧ OwnsI w' w.heap.size v (memZ x 64) ∧ Below w.heap.size w w' := by
  obtain ⟨i0, hi, hz0, hz1, hz2⟩ := info_parts infoI
  have HH := Lib.hid (fun (i : Nat) (h : i < 64) w => (hasB_nat x i h) ▸ has_any x (i : Int) hx w)
  go_enter Tryd.func8, Tryd.ntmps8
  go_wp2
  go_loopw [3, 5] (fun v j wr => ∃ i : Nat, i ≤ 64 ∧ j = .int .i64 i ∧ OwnsI wr w.heap.size v (memZ x i) ∧ Below w.heap.size w wr) (fun _ j _ => 64 - (intOf j).toNat)
  case atStart => exact ⟨0, by omega, rfl, OwnsI.nil _ _, Below.refl _ _⟩
  case round =>
    obtain ⟨i, hik, rfl, hown, hbel⟩ := hrel
    by_cases hlt : i < 64
    · have hh := Lib.hid (HH.out i hlt)
      have hms := memZ_succ x i
      have hlen := memZ_len x i
      cases ht : x.testBit i with
      | false =>
        rw [ht] at hh hms
        simp only [Bool.false_eq_true, if_false] at hms
        clear ht hlen
        have HM := Lib.hid hms
        clear hms
        go_wp2_with fail
        refine (hh.out _).mono ?_; rintro e w2 ⟨rfl, rfl⟩
        go_wp2_with fail
        go_roundw
        case rel => exact ⟨i + 1, by omega, by go_num, by rw [HM.out]; exact hown, hbel⟩
        case measure => simp [intOf]; omega
      | true =>
        rw [ht] at hh hms
        simp only [if_true] at hms
        clear ht
        have HM := Lib.hid hms
        clear hms
        have hsz := hbel.size
        go_wp2_with fail
        refine (hh.out _).mono ?_; rintro e w2 ⟨rfl, rfl⟩
        go_wp2_with (first | (at_builtin; refine wpList_append_own _ rfl _ _ 23 rfl w.heap.size 3 i0 (.int .i64 0) 1 8 Tryd.underlying23 hi hz0 hz1 hz2 rfl (by decide) _ _ _ rfl (hown.alloc _) ⟨wr.heap.size, 0, none⟩ 1 1 [.int .i64 (i : Int)] rfl rfl ?qc1 ?qc2 ?qc3 ?qc4 ?qc5 ?_) | go_in)
        case qc1 =>
          intro j u hj
          match j, hj with
          | 0, hj =>
            simp at hj
            subst hj
            rw [add0]
            simp
          | j + 1, hj => simp at hj
        case qc2 => first | rfl | (intro u hu; simp at hu; subst hu; rfl)
        case qc3 => unfold maxLen; omega
        case qc4 => omega
        case qc5 => first | omega | (simp; omega)
        intro v' w3 hown' hgrow _
        go_wp2
        go_roundw
        case rel =>
          refine ⟨i + 1, by omega, by go_num, ?_, ?_⟩
          · unfold OwnsI cellsI
            rw [HM.out, List.length_append]
            simpa only [List.length_singleton, List.map_append, List.map_cons, List.map_nil] using hown'
          · exact (belAlloc hbel _).grown hgrow (by simp; omega) (fun g hg => (hown.lt g hg).1)
        case measure => simp [intOf]; omega
    · obtain rfl : i = 64 := by omega
      go_wp2
      go_ret
      exact ⟨_, rfl, hown, hbel⟩
theorem bit_div (x i : Nat) : x / 2 ^ i % 2 = 1 ↔ x.testBit i = true := by
  rw [Nat.testBit, Nat.shiftRight_eq_div_pow, Nat.and_comm, Nat.and_one_is_mod]
  simp
set_option maxRecDepth 100000 in
set_option maxHeartbeats 4000000 in
theorem refList_any (x : Nat) (hx : x < M64) (w : World) :
    Calls Tryd.prog 9 #[.int .u64 x] w fun e w' => ∃ v, e = .returned v ∧ OwnsI w' w.heap.size v (memZ x 64) ∧ Below w.heap.size w w' := by
  obtain ⟨i0, hi, hz0, hz1, hz2⟩ := info_parts infoI
  have hx' : x < 18446744073709551616 := hx
  go_enter Tryd.func9, Tryd.ntmps9
  go_wp2
  go_loopw [0, 3, 4] (fun s v j wr => ∃ i : Nat, i ≤ 64 ∧ j = .int .i64 i ∧ s = .int .u64 ((x / 2 ^ i : Nat) : Int) ∧ OwnsI wr w.heap.size v (memZ x i) ∧ Below w.heap.size w wr) (fun _ _ j _ => 64 - (intOf j).toNat)
  case atStart => exact ⟨0, by omega, rfl, by rw [Nat.pow_zero, Nat.div_one], OwnsI.nil _ _, Below.refl _ _⟩
  case round =>
    obtain ⟨i, hik, rfl, rfl, hown, hbel⟩ := hrel
    by_cases hlt : i < 64
    · have hms := memZ_succ x i
      have hlen := memZ_len x i
      have hbt := bit_div x i
      have hdv : x / 2 ^ i / 2 = x / 2 ^ (i + 1) := by rw [Nat.div_div_eq_div_mul, Nat.pow_succ]
      have hle : x / 2 ^ i ≤ x := Nat.div_le_self _ _
      have HD := Lib.hid hdv
      generalize x / 2 ^ i = s at *
      cases ht : x.testBit i with
      | false =>
        rw [ht] at hms hbt
        simp only [Bool.false_eq_true, if_false, iff_false] at hms hbt
        have HM := Lib.hid hms
        have d0 : ((s : Int) % 2 == 1) = false := by simp; omega
        clear ht hlen hms hdv hbt
        go_wp2
        go_roundw
        case rel => exact ⟨i + 1, by omega, by go_num, by rw [← HD.out]; simp, by rw [HM.out]; exact hown, hbel⟩
        case measure => simp [intOf]; omega
      | true =>
        rw [ht] at hms hbt
        simp only [if_true, iff_true] at hms hbt
        have HM := Lib.hid hms
        have d0 : ((s : Int) % 2 == 1) = true := by simp; omega
        clear ht hms hdv hbt
        have hsz := hbel.size
        go_wp2_with (first | (at_builtin; refine wpList_append_own _ rfl _ _ 23 rfl w.heap.size 3 i0 (.int .i64 0) 1 8 Tryd.underlying23 hi hz0 hz1 hz2 rfl (by decide) _ _ _ rfl (hown.alloc _) ⟨wr.heap.size, 0, none⟩ 1 1 [.int .i64 (i : Int)] rfl rfl ?qc1 ?qc2 ?qc3 ?qc4 ?qc5 ?_) | go_in)
        case qc1 =>
          intro j u hj
          match j, hj with
          | 0, hj =>
            simp at hj
            subst hj
            rw [add0]
            simp
          | j + 1, hj => simp at hj
        case qc2 => first | rfl | (intro u hu; simp at hu; subst hu; rfl)
        case qc3 => unfold maxLen; omega
        case qc4 => omega
        case qc5 => first | omega | (simp; omega)
        intro v' w3 hown' hgrow _
        go_wp2
        go_roundw
        case rel =>
          refine ⟨i + 1, by omega, by go_num, by rw [← HD.out]; simp, ?_, ?_⟩
          · unfold OwnsI cellsI
            rw [HM.out, List.length_append]
            simpa only [List.length_singleton, List.map_append, List.map_cons, List.map_nil] using hown'
          · exact (belAlloc hbel _).grown hgrow (by simp; omega) (fun g hg => (hown.lt g hg).1)
        case measure => simp [intOf]; omega
    · obtain rfl : i = 64 := by omega
      go_wp2
      go_ret
      exact ⟨_, rfl, hown, hbel⟩
end Go.Proofs.YthkhikmdcadceaaDoor
