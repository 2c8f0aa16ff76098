/- Package pack: the reference's Put, and texts as bytes. -/
import Derived.Test.YtgodmnpcedfdcaaPkT
import Derived.Deep.AppendSrc
namespace Go.Proofs.Ytgodmnpcedfdcaa
open Go.RowKit
def strI (s : ByteArray) : List Int := s.data.toList.map fun b => (b.toNat : Int)
theorem setCells_row (g : Nat) (e : TypeId) : ∀ (vs : List Value) (o : Nat) (w : World) (cur : Array Value), w.heap[g]? = some (.cells cur e (0, 0)) → o + vs.length ≤ cur.size →
    ∃ cur', (w.setCells g o vs).heap[g]? = some (.cells cur' e (0, 0)) ∧ cur'.size = cur.size ∧ cur'.toList.take (o + vs.length) = cur.toList.take o ++ vs ∧ w.grownBy (w.setCells g o vs) (some g)
  | [], o, w, cur, h, _ => ⟨cur, h, rfl, by simp, World.grownBy.refl _ _⟩
  | v :: r, o, w, cur, h, hl => by
    rw [List.length_cons] at hl
    have h1 : (w.setCell ⟨g, o, none⟩ v).heap[g]? = some (.cells (cur.setIfInBounds o v) e (0, 0)) := by
      simp [World.setCell, Array.getElem?_modify, h]
    obtain ⟨cur', h2, h3, h4, h5⟩ := setCells_row g e r (o + 1) _ _ h1 (by rw [Array.size_setIfInBounds]; omega)
    refine ⟨cur', h2, by rw [h3, Array.size_setIfInBounds], ?_, grown_trans (grown_set w g o v) h5⟩
    rw [List.length_cons, show o + (r.length + 1) = o + 1 + r.length from by omega, h4, Array.toList_setIfInBounds, List.take_set, List.take_add_one, List.append_cons]
    congr 1
    rw [List.getElem?_eq_getElem (by rw [Array.length_toList]; omega), Option.toList_some, List.set_append_right _ _ (by rw [List.length_take]; omega), List.length_take, show o - min o cur.toList.length = 0 from by (simp; omega)]
    rfl
/-- A text as bytes. -/
def textL (s : ByteArray) : List Int := (s.size : Int) :: strI s
end Go.Proofs.Ytgodmnpcedfdcaa
