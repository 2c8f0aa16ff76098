/- Joined: BkS BkT. -/
import Derived.Test.YtlbgjmnihenmaaaGreatDoorJQ
namespace Go.Proofs.YtlbgjmnihenmaaaGreatDoor
section
open Go.RowKit
theorem infoI : (Tryz.prog.info? 3).map (fun i => (i.zero, i.size, i.bytes)) = some (some (.int .i64 0), 1, 8) := by kernel_rfl
abbrev cellsI (xs : List Int) : List Value := xs.map (Value.int .i64)
/-- A value that reads as these numbers. -/
def SeesI (w : World) (v : Value) (xs : List Int) : Prop :=
  ∃ (ao : Option Addr) (c : Nat), v = .slice ao xs.length c ∧ xs.length ≤ c ∧ (ao = none → xs = []) ∧ ∀ a, ao = some a → ∀ i, i < xs.length → w.cell? (a.add i) = some (.int .i64 (xs.getD i 0))
/-- A value of the call's own that holds these numbers. -/
abbrev OwnsI (w : World) (B : Nat) (v : Value) (xs : List Int) : Prop := w.ownsRow B 3 1 v xs.length (cellsI xs)
theorem cell_ltI {w : World} {a : Addr} {v : Value} (h : w.cell? a = some v) : a.block < w.heap.size := by
  rcases Nat.lt_or_ge a.block w.heap.size with hlt | hge
  · exact hlt
  · simp [World.cell?, Array.getElem?_eq_none hge] at h
theorem heap_ltI {w : World} {g : Nat} {o : Obj} (h : w.heap[g]? = some o) : g < w.heap.size := (Array.getElem?_eq_some_iff.1 h).1
theorem SeesI.keep {w w' : World} {v : Value} {xs : List Int} (h : SeesI w v xs) (hb : Below w.heap.size w w') : SeesI w' v xs := by
  obtain ⟨ao, c, e, hl, hn, hc⟩ := h
  exact ⟨ao, c, e, hl, hn, fun a ha i hi => by rw [hb.cell (cell_ltI (hc a ha i hi))]; exact hc a ha i hi⟩
theorem SeesI.nil (w : World) : SeesI w (.slice none 0 0) [] := ⟨none, 0, rfl, Nat.le_refl _, fun _ => rfl, fun _ h => by cases h⟩
theorem getD_cellsI {xs : List Int} {i : Nat} (h : i < xs.length) : (cellsI xs)[i]? = some (.int .i64 (xs.getD i 0)) := by
  simp [List.getD, List.getElem?_eq_getElem h]
theorem OwnsI.sees {w : World} {B : Nat} {v : Value} {xs : List Int} (h : OwnsI w B v xs) : SeesI w v xs := by
  have hc := fun g hg => World.ownsRow.cells h (g := g) hg
  obtain ⟨_, ⟨rfl, hn⟩ | ⟨g, cap, cur, rfl, _, _, hnc, _, _, _⟩⟩ := h
  · obtain rfl := List.eq_nil_of_length_eq_zero hn
    exact SeesI.nil w
  · exact ⟨some ⟨g, 0, none⟩, cap, rfl, hnc, (fun e => by cases e), fun a ha i hi => (by cases ha; exact hc g rfl i _ (getD_cellsI hi))⟩
theorem OwnsI.nil (w : World) (B : Nat) : OwnsI w B (.slice none 0 0) [] := World.ownsRow_nil _ _ _ _
theorem OwnsI.keep {w w' : World} {B : Nat} {v : Value} {xs : List Int} (h : OwnsI w B v xs) (hb : Below w.heap.size w w') : OwnsI w' B v xs :=
  ⟨h.1, h.2.imp id fun ⟨g, cap, cur, e, hB, hg, r⟩ => ⟨g, cap, cur, e, hB, (hb.block g (heap_ltI hg)).trans hg, r⟩⟩
end
section
open Go.RowKit
abbrev TArr : TypeId := 273
abbrev arrO (T : List Int) : Obj := .cells (T.map (Value.int .u8)).toArray TArr
/-- An array of bytes alone in block g. -/
def ArrAt (w : World) (g : Nat) (T : List Int) : Prop := w.heap[g]? = some (arrO T)
theorem ArrAt.cell {w : World} {g : Nat} {T : List Int} (h : ArrAt w g T) {i : Nat} {x : Int} (hx : T[i]? = some x) : w.cell? ⟨g, i, none⟩ = some (.int .u8 x) := by
  have h' : w.heap[g]? = some (.cells (T.map (Value.int .u8)).toArray TArr (0, 0)) := h
  simp [World.cell?, h', hx]
theorem ArrAt.froz {w : World} {g : Nat} {T : List Int} (h : ArrAt w g T) (i : Nat) : w.frozen? ⟨g, i, none⟩ = false := by
  have h' : w.heap[g]? = some (.cells (T.map (Value.int .u8)).toArray TArr (0, 0)) := h
  simp [World.frozen?, h']
theorem ArrAt.set {w : World} {g : Nat} {T : List Int} (h : ArrAt w g T) (i : Nat) (x : Int) : ArrAt (w.setCell ⟨g, i, none⟩ (.int .u8 x)) g (T.set i x) := by
  have h' : w.heap[g]? = some (.cells (T.map (Value.int .u8)).toArray TArr (0, 0)) := h
  show (w.setCell _ _).heap[g]? = _
  simp [World.setCell, Array.getElem?_modify, h', List.map_set]
def Z65 : List Int := List.replicate 65 0
/-- Of the first n attributes, those that are some slot's. -/
def kptA (U : Nat) (L : List PA) : Nat → List PA
  | 0 => []
  | n + 1 => if U.testBit n = true then kptA U L n ++ [atA L n] else kptA U L n
/-- Their new numbers. -/
def trnA (U : Nat) (L : List PA) : Nat → List Int
  | 0 => Z65
  | n + 1 => if U.testBit n = true then (trnA U L n).set (n + 1) ((kptA U L n).length + 1 : Nat) else trnA U L n
/-- The block without attributes that are no slot's. -/
def tidS (b : BlkS) : BlkS := { b with sl := b.sl.map (fun k => (trnA (usedN b.sl 64) b.attrs b.attrs.length).getD k.toNat 0), attrs := kptA (usedN b.sl 64) b.attrs b.attrs.length }
end
end Go.Proofs.YtlbgjmnihenmaaaGreatDoor
