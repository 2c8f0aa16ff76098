/- The laws' Plain: a block as the document's. -/
import Derived.Test.YtgodmnpcedfdcaaBrB
namespace Go.Proofs.Ytgodmnpcedfdcaa
open Go.RowKit
abbrev TD : TypeId := 37
abbrev docO (a : Int) (s : ByteArray) (v1 v2 v3 : Value) : Obj := .cells #[.int .u32 a, .string s, v1, v2, v3] TD
/-- A block of the document's alone in block g. -/
def DocAt (w : World) (g : Nat) (a : Int) (s : ByteArray) (v1 v2 v3 : Value) : Prop := w.heap[g]? = some (docO a s v1 v2 v3)
section
variable {w w' : World} {g : Nat} {a : Int} {s : ByteArray} {v1 v2 v3 : Value}
theorem DocAt.cells (h : DocAt w g a s v1 v2 v3) : w.cell? ⟨g, 0, none⟩ = some (.int .u32 a) ∧ w.cell? ⟨g, 1, none⟩ = some (.string s) ∧ w.cell? ⟨g, 2, none⟩ = some v1 ∧ w.cell? ⟨g, 3, none⟩ = some v2 ∧ w.cell? ⟨g, 4, none⟩ = some v3 := by
  have h' : w.heap[g]? = some (.cells #[.int .u32 a, .string s, v1, v2, v3] TD (0, 0)) := h
  simp [World.cell?, h']
theorem DocAt.froz (h : DocAt w g a s v1 v2 v3) (i : Nat) : w.frozen? ⟨g, i, none⟩ = false := by
  have h' : w.heap[g]? = some (.cells #[.int .u32 a, .string s, v1, v2, v3] TD (0, 0)) := h
  simp [World.frozen?, h']
theorem DocAt.set2 (h : DocAt w g a s v1 v2 v3) (v : Value) : DocAt (w.setCell ⟨g, 2, none⟩ v) g a s v v2 v3 := by
  have h' : w.heap[g]? = some (.cells #[.int .u32 a, .string s, v1, v2, v3] TD (0, 0)) := h
  show (w.setCell _ _).heap[g]? = _
  simp [World.setCell, Array.getElem?_modify, h']
theorem DocAt.set3 (h : DocAt w g a s v1 v2 v3) (v : Value) : DocAt (w.setCell ⟨g, 3, none⟩ v) g a s v1 v v3 := by
  have h' : w.heap[g]? = some (.cells #[.int .u32 a, .string s, v1, v2, v3] TD (0, 0)) := h
  show (w.setCell _ _).heap[g]? = _
  simp [World.setCell, Array.getElem?_modify, h']
theorem DocAt.set4 (h : DocAt w g a s v1 v2 v3) (v : Value) : DocAt (w.setCell ⟨g, 4, none⟩ v) g a s v1 v2 v := by
  have h' : w.heap[g]? = some (.cells #[.int .u32 a, .string s, v1, v2, v3] TD (0, 0)) := h
  show (w.setCell _ _).heap[g]? = _
  simp [World.setCell, Array.getElem?_modify, h']
theorem DocAt.keepB {n : Nat} (h : DocAt w g a s v1 v2 v3) (hb : Below n w w') (hg : g < n) : DocAt w' g a s v1 v2 v3 := (hb.block g hg).trans h
theorem DocAt.below (h : DocAt w g a s v1 v2 v3) (hb : Below w.heap.size w w') : DocAt w' g a s v1 v2 v3 := (hb.block g (heap_lt h)).trans h
theorem DocAt.setO (h : DocAt w g a s v1 v2 v3) {p : Addr} (hp : g ≠ p.block) (u : Value) : DocAt (w.setCell p u) g a s v1 v2 v3 := by
  show (w.setCell p u).heap[g]? = _
  rw [Below.heap_setCell _ _ _ _ hp]
  exact h
end
/-- A row of attributes of the document's. -/
abbrev ERt : TypeId := 29
/-- The document's block in its parts, each of them the call's own. -/
structure DocRet (w w' : World) (b : BlkS) (v1 v2 v3 : Value) : Prop where
  slots : OwnsI w' w.heap.size v1 b.sl
  free : OwnsI w' w.heap.size v2 b.free
  attrs : RowA ERt w' w.heap.size v3 b.attrs
  below : Below w.heap.size w w'
end Go.Proofs.Ytgodmnpcedfdcaa
