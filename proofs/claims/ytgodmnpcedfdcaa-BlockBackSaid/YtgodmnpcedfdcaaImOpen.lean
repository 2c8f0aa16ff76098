/- How a raw block among a law's arguments reads. -/
import Derived.Test.YtgodmnpcedfdcaaBkH
import Derived.Test.YtgodmnpcedfdcaaPkOpen
import Derived.Deep.SlicePairs
namespace Go.Proofs.Ytgodmnpcedfdcaa
open Go.ChangeShapes Go.WideShapes Go.ChangeAt Go.RowKit
section
variable {H : Type} {enc : TypeId × Value → H} {W : World} {base : Nat} {v : Value} {d : DataW H} {p : List MemPlace}
end
end Go.Proofs.Ytgodmnpcedfdcaa
