/- The walk of PackNil: a reader that is not there. -/
import Derived.Test.YtogcjginifcbpaaPkT
namespace Go.Proofs.Ytogcjginifcbpaa
open Go.RowKit
theorem put258 : putL 258 2 = [1, 2] := by decide
end Go.Proofs.Ytogcjginifcbpaa
