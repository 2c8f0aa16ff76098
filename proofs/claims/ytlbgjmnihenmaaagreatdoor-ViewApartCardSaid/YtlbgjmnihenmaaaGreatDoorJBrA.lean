/- Joined: BrA BrB BrC. -/
import Derived.Test.YtlbgjmnihenmaaaGreatDoorJS
import Derived.ChangeKeysEq
namespace Go.Proofs.YtlbgjmnihenmaaaGreatDoor
section
open Go.RowKit
/-- A block of the document's, as a value. -/
abbrev docV (a : Int) (s : ByteArray) (v1 v2 v3 : Value) : Value := .agg #[.int .u32 a, .string s, v1, v2, v3]
end
section
open Go.RowKit
end
section
open Go.RowKit
abbrev TD : TypeId := 49
abbrev docO (a : Int) (s : ByteArray) (v1 v2 v3 : Value) : Obj := .cells #[.int .u32 a, .string s, v1, v2, v3] TD
/-- A block of the document's alone in block g. -/
def DocAt (w : World) (g : Nat) (a : Int) (s : ByteArray) (v1 v2 v3 : Value) : Prop := w.heap[g]? = some (docO a s v1 v2 v3)
section
variable {w w' : World} {g : Nat} {a : Int} {s : ByteArray} {v1 v2 v3 : Value}
theorem DocAt.cells (h : DocAt w g a s v1 v2 v3) : w.cell? ⟨g, 0, none⟩ = some (.int .u32 a) ∧ w.cell? ⟨g, 1, none⟩ = some (.string s) ∧ w.cell? ⟨g, 2, none⟩ = some v1 ∧ w.cell? ⟨g, 3, none⟩ = some v2 ∧ w.cell? ⟨g, 4, none⟩ = some v3 := by
  have h' : w.heap[g]? = some (.cells #[.int .u32 a, .string s, v1, v2, v3] TD (0, 0)) := h
  simp [World.cell?, h']
theorem DocAt.froz (h : DocAt w g a s v1 v2 v3) (i : Nat) : w.frozen? ⟨g, i, none⟩ = false := by
  have h' : w.heap[g]? = some (.cells #[.int .u32 a, .string s, v1, v2, v3] TD (0, 0)) := h
  simp [World.frozen?, h']
theorem DocAt.set2 (h : DocAt w g a s v1 v2 v3) (v : Value) : DocAt (w.setCell ⟨g, 2, none⟩ v) g a s v v2 v3 := by
  have h' : w.heap[g]? = some (.cells #[.int .u32 a, .string s, v1, v2, v3] TD (0, 0)) := h
  show (w.setCell _ _).heap[g]? = _
  simp [World.setCell, Array.getElem?_modify, h']
theorem DocAt.set3 (h : DocAt w g a s v1 v2 v3) (v : Value) : DocAt (w.setCell ⟨g, 3, none⟩ v) g a s v1 v v3 := by
  have h' : w.heap[g]? = some (.cells #[.int .u32 a, .string s, v1, v2, v3] TD (0, 0)) := h
  show (w.setCell _ _).heap[g]? = _
  simp [World.setCell, Array.getElem?_modify, h']
theorem DocAt.set4 (h : DocAt w g a s v1 v2 v3) (v : Value) : DocAt (w.setCell ⟨g, 4, none⟩ v) g a s v1 v2 v := by
  have h' : w.heap[g]? = some (.cells #[.int .u32 a, .string s, v1, v2, v3] TD (0, 0)) := h
  show (w.setCell _ _).heap[g]? = _
  simp [World.setCell, Array.getElem?_modify, h']
theorem DocAt.below (h : DocAt w g a s v1 v2 v3) (hb : Below w.heap.size w w') : DocAt w' g a s v1 v2 v3 := (hb.block g (heap_lt h)).trans h
end
/-- A row of attributes of the document's. -/
abbrev ERt : TypeId := 73
/-- The document's block in its parts, each of them the call's own. -/
structure DocRet (w w' : World) (b : BlkS) (v1 v2 v3 : Value) : Prop where
  slots : OwnsI w' w.heap.size v1 b.sl
  free : OwnsI w' w.heap.size v2 b.free
  attrs : RowA ERt w' w.heap.size v3 b.attrs
  below : Below w.heap.size w w'
end
end Go.Proofs.YtlbgjmnihenmaaaGreatDoor
namespace Go.Proofs.YtlbgjmnihenmaaaGreatDoor
open Go.RowKit
theorem loadVarD {w : World} {g : Nat} {a : Int} {s : ByteArray} {v1 v2 v3 : Value} (h : DocAt w g a s v1 v2 v3) : (loadVar TD ⟨g, 0, none⟩).run Tryz.prog w = .ok (docV a s v1 v2 v3) w := by
  obtain ⟨x0, x1, x2, x3, x4⟩ := h.cells
  have z := Tryz.sizeOf49
  have i := Tryz.isAgg49
  simp [loadVar, go_sem, x0, x1, x2, x3, x4, z, i]
end Go.Proofs.YtlbgjmnihenmaaaGreatDoor
