/- The laws' Ours: a raw block as the program's. -/
import Derived.Test.YtgodmnpcedfdcaaBrD
import Derived.Test.YtgodmnpcedfdcaaGr
namespace Go.Proofs.Ytgodmnpcedfdcaa
open Go.RowKit
abbrev TR : TypeId := 27
/-- A variable that holds a raw block. -/
def RawAt (w : World) (g : Nat) (b : BlkS) (fv av : Value) : Prop := w.heap[g]? = some (.cells (blkL b fv av).toArray TR (0, 0))
theorem RawAt.addr {w : World} {g : Nat} {b : BlkS} {fv av : Value} (h : RawAt w g b fv av) : w.cell? ⟨g, 0, none⟩ = some (.int .u32 b.addr) := by
  have h' : w.heap[g]? = some (.cells (blkL b fv av).toArray TR (0, 0)) := h
  simp [World.cell?, h', blkL]
theorem RawAt.aff {w : World} {g : Nat} {b : BlkS} {fv av : Value} (h : RawAt w g b fv av) : w.cell? ⟨g, 1, none⟩ = some (.string b.aff) := by
  have h' : w.heap[g]? = some (.cells (blkL b fv av).toArray TR (0, 0)) := h
  simp [World.cell?, h', blkL]
theorem RawAt.free {w : World} {g : Nat} {b : BlkS} {fv av : Value} (h : RawAt w g b fv av) (hl : b.sl.length = 64) : w.cell? ⟨g, 66, none⟩ = some fv := by
  have h' : w.heap[g]? = some (.cells (blkL b fv av).toArray TR (0, 0)) := h
  have e : (blkL b fv av)[66]? = some fv := by
    unfold blkL
    rw [List.getElem?_cons_succ, List.getElem?_cons_succ, List.getElem?_append_right (by simp [hl])]
    simp [hl]
  simp [World.cell?, h', e]
theorem RawAt.attrs {w : World} {g : Nat} {b : BlkS} {fv av : Value} (h : RawAt w g b fv av) (hl : b.sl.length = 64) : w.cell? ⟨g, 67, none⟩ = some av := by
  have h' : w.heap[g]? = some (.cells (blkL b fv av).toArray TR (0, 0)) := h
  have e : (blkL b fv av)[67]? = some av := by
    unfold blkL
    rw [List.getElem?_cons_succ, List.getElem?_cons_succ, List.getElem?_append_right (by simp [hl])]
    simp [hl]
  simp [World.cell?, h', e]
theorem RawAt.slot {w : World} {g : Nat} {b : BlkS} {fv av : Value} (h : RawAt w g b fv av) {i : Nat} {x : Int} (hx : b.sl[i]? = some x) : w.cell? ⟨g, i + 2, none⟩ = some (.int .u8 x) := by
  have h' : w.heap[g]? = some (.cells (blkL b fv av).toArray TR (0, 0)) := h
  have hi : i < b.sl.length := (List.getElem?_eq_some_iff.1 hx).1
  have e : (blkL b fv av)[i + 2]? = some (.int .u8 x) := by
    unfold blkL
    rw [List.getElem?_cons_succ, List.getElem?_cons_succ, List.getElem?_append_left (by simpa using hi), List.getElem?_map, hx]
    rfl
  simp [World.cell?, h', e]
theorem RawAt.slots {w : World} {g : Nat} {b : BlkS} {fv av : Value} (h : RawAt w g b fv av) : w.rangeAt g 2 (b.sl.map (Value.int .u8)) := fun j v hv => by
  rw [List.getElem?_map] at hv
  cases hx : b.sl[j]? with
  | none => rw [hx] at hv; cases hv
  | some x =>
    rw [hx] at hv
    obtain rfl := Option.some.inj hv
    rw [show 2 + j = j + 2 by omega]
    exact h.slot hx
theorem RawAt.keepB {w w' : World} {g n : Nat} {b : BlkS} {fv av : Value} (h : RawAt w g b fv av) (hb : Below n w w') (hg : g < n) : RawAt w' g b fv av := (hb.block g hg).trans h
theorem RawAt.below {w w' : World} {g : Nat} {b : BlkS} {fv av : Value} (h : RawAt w g b fv av) (hb : Below w.heap.size w w') : RawAt w' g b fv av := (hb.block g (heap_lt h)).trans h
theorem RawAt.setO {w : World} {g : Nat} {b : BlkS} {fv av : Value} (h : RawAt w g b fv av) {p : Addr} (hp : g ≠ p.block) (u : Value) : RawAt (w.setCell p u) g b fv av := by
  show (w.setCell p u).heap[g]? = _
  rw [Below.heap_setCell _ _ _ _ hp]
  exact h
def OursB (w : World) (b bN : BlkS) (fv av V1 V2 : Value) (F7 : List Int) (A : List PA) (B3 B4 : Nat) (X : World) : Prop := (RawAt X w.heap.size b fv av ∧ BlkAt X (w.heap.size + 1) zB NS NS ∧ Below w.heap.size w X) ∧ BlkAt X (w.heap.size + 2) bN V1 V2 ∧ X.ownsRow B3 5 1 V1 F7.length (cells8 F7) ∧ RowA EAt X B4 V2 A ∧ B4 ≤ X.heap.size
theorem OursB.below {w : World} {b bN : BlkS} {fv av V1 V2 : Value} {F7 : List Int} {A : List PA} {B3 B4 : Nat} {X Y : World} (h : OursB w b bN fv av V1 V2 F7 A B3 B4 X) (hb : Below X.heap.size X Y) : OursB w b bN fv av V1 V2 F7 A B3 B4 Y :=
  ⟨⟨h.1.1.below hb, h.1.2.1.below hb, h.1.2.2.trans (hb.mono h.1.2.2.size)⟩, h.2.1.below hb, own_keep h.2.2.1 hb, row_keepA h.2.2.2.1 hb, Nat.le_trans h.2.2.2.2 hb.size⟩
end Go.Proofs.Ytgodmnpcedfdcaa
