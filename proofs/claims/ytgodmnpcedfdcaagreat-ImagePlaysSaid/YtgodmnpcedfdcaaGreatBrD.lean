/- The laws' Plain: a block as the document's. -/
import Derived.Test.YtgodmnpcedfdcaaGreatJBrA
namespace Go.Proofs.YtgodmnpcedfdcaaGreat
open Go.RowKit
theorem own_lt {w : World} {B' : Nat} {E' : TypeId} {s' n' : Nat} {v v' : Value} {xs' : List Value} (h : ∀ k, v.ownBlock = some k → k < B') (h' : w.ownsRow B' E' s' v' n' xs') : ∀ k, v.ownBlock = some k → v'.ownBlock ≠ some k := fun k hk hk' => by
  have h1 := h k hk
  have h2 := (h'.lt k hk').1
  omega
theorem loadVarD {w : World} {g : Nat} {a : Int} {s : ByteArray} {v1 v2 v3 : Value} (h : DocAt w g a s v1 v2 v3) : (loadVar TD ⟨g, 0, none⟩).run Tryz.prog w = .ok (docV a s v1 v2 v3) w := by
  obtain ⟨x0, x1, x2, x3, x4⟩ := h.cells
  have z := Tryz.sizeOf35
  have i := Tryz.isAgg35
  simp [loadVar, go_sem, x0, x1, x2, x3, x4, z, i]
end Go.Proofs.YtgodmnpcedfdcaaGreat
