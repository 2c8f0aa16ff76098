/- Joined: BrE Gs BrF BrG BrH BrI BrJ. -/
import Derived.Test.YtlbgjmnihenmaaaGreatDoorJBrA
import Derived.Test.YtlbgjmnihenmaaaGreatDoorGr
import Derived.Deep.AppendSrc
namespace Go.Proofs.YtlbgjmnihenmaaaGreatDoor
section
open Go.RowKit
abbrev encI1 (x : Int) : List Value := [.int .i64 x]
abbrev RowI1 (w : World) (B : Nat) (v : Value) (xs : List Int) : Prop := RowG 3 1 encI1 w B v xs
theorem flat_I1 : ∀ xs : List Int, xs.flatMap encI1 = cellsI xs
  | [] => rfl
  | a :: l => by
    rw [List.flatMap_cons, flat_I1 l]
    rfl
end
section
open Go.RowKit Go.Maps
end
section
open Go.RowKit
/-- A block of the document's, as a value, in its parts. -/
structure DocSees (w : World) (sl free : List Int) (attrs : List PA) (v1 v2 v3 : Value) : Prop where
  slots : SeesG 1 encI1 w v1 sl
  free : SeesG 1 encI1 w v2 free
  attrs : SeesG 2 encA w v3 attrs
theorem DocSees.below {w w' : World} {sl free : List Int} {attrs : List PA} {v1 v2 v3 : Value} (h : DocSees w sl free attrs v1 v2 v3) (hb : Below w.heap.size w w') : DocSees w' sl free attrs v1 v2 v3 := ⟨h.slots.below hb, h.free.below hb, h.attrs.below hb⟩
end
section
open Go.RowKit
end
section
open Go.RowKit
end
section
open Go.RowKit
end
section
open Go.RowKit
end
end Go.Proofs.YtlbgjmnihenmaaaGreatDoor
