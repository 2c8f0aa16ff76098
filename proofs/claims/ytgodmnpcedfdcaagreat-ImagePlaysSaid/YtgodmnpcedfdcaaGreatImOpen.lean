/- How a raw block among a law's arguments reads. -/
import Derived.Test.YtgodmnpcedfdcaaGreatBkH
import Derived.Test.YtgodmnpcedfdcaaGreatPkOpen
import Derived.Deep.SlicePairs
namespace Go.Proofs.YtgodmnpcedfdcaaGreat
open Go.ChangeShapes Go.WideShapes Go.ChangeAt Go.RowKit
section
variable {H : Type} {enc : TypeId × Value → H} {W : World} {base : Nat} {v : Value} {d : DataW H} {p : List MemPlace}
end
end Go.Proofs.YtgodmnpcedfdcaaGreat
