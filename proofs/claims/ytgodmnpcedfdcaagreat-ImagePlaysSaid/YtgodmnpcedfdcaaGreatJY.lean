/- Joined: BkY BkZ. -/
import Derived.Test.YtgodmnpcedfdcaaGreatJWX
namespace Go.Proofs.YtgodmnpcedfdcaaGreat
section
open Go.RowKit
end
section
open Go.RowKit
end
end Go.Proofs.YtgodmnpcedfdcaaGreat
