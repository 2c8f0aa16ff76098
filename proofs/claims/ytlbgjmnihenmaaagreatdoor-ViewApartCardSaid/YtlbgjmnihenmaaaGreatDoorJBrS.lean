/- Joined: BrS BrT. -/
import Derived.Test.YtlbgjmnihenmaaaGreatDoorBrR
import Derived.Test.YtlbgjmnihenmaaaGreatDoorImFitsW
import Derived.Deep.DeepCutAuto
namespace Go.Proofs.YtlbgjmnihenmaaaGreatDoor
section
open Go.RowKit
/-- A variable that holds a block, with its lists. -/
structure VarB (W : World) (g : Nat) (b : BlkS) (fv av : Value) : Prop where
  blk : BlkAt W g b fv av
  free : Sees W fv b.free
  attrs : SeesA W av b.attrs
theorem VarB.below {W W' : World} {g : Nat} {b : BlkS} {fv av : Value} (h : VarB W g b fv av) (hb : Below W.heap.size W W') : VarB W' g b fv av := ⟨h.blk.below hb, h.free.keep hb, h.attrs.below hb⟩
end
section
open Go.RowKit
theorem DocRet.sees {w w' : World} {b : BlkS} {v1 v2 v3 : Value} (h : DocRet w w' b v1 v2 v3) : DocSees w' b.sl b.free b.attrs v1 v2 v3 := by
  have h1 : RowI1 w' w.heap.size v1 b.sl := by have := h.slots; unfold OwnsI at this; rw [← flat_I1] at this; exact this
  have h2 : RowI1 w' w.heap.size v2 b.free := by have := h.free; unfold OwnsI at this; rw [← flat_I1] at this; exact this
  have h3 : RowG ERt 2 encA w' w.heap.size v3 b.attrs := h.attrs
  exact ⟨h1.sees (fun _ => rfl), h2.sees (fun _ => rfl), h3.sees (fun _ => rfl)⟩
/-- The law's variables: the block, the attribute. -/
def VarsB (w : World) (g : Nat) (c : BlkS) (fv av : Value) (ga : Nat) (a : PA) (X : World) : Prop := VarB X g c fv av ∧ X.heap[ga]? = some (rtO a) ∧ Below w.heap.size w X
theorem VarsB.below {w : World} {g : Nat} {c : BlkS} {fv av : Value} {ga : Nat} {a : PA} {X Y : World} (h : VarsB w g c fv av ga a X) (hb : Below X.heap.size X Y) : VarsB w g c fv av ga a Y :=
  ⟨h.1.below hb, (hb.block _ (heap_lt h.2.1)).trans h.2.1, h.2.2.trans (hb.mono h.2.2.size)⟩
end
end Go.Proofs.YtlbgjmnihenmaaaGreatDoor
