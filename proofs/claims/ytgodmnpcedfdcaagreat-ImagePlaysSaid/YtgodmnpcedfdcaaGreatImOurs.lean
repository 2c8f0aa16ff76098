/- The laws' Ours: a raw block as the program's. -/
import Derived.Test.YtgodmnpcedfdcaaGreatBrD
import Derived.Test.YtgodmnpcedfdcaaGreatGr
namespace Go.Proofs.YtgodmnpcedfdcaaGreat
open Go.RowKit
end Go.Proofs.YtgodmnpcedfdcaaGreat
