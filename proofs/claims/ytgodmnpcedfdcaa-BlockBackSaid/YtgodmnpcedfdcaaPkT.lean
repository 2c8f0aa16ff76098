/- Package pack: a reader that reads texts, and one that is not there. -/
import Derived.Test.YtgodmnpcedfdcaaPkR
namespace Go.Proofs.Ytgodmnpcedfdcaa
open Go.RowKit
end Go.Proofs.Ytgodmnpcedfdcaa
