/- The document's state: May. -/
import Derived.Test.YtholgmcfgnifdaaKvRef4
namespace Go.Proofs.Ytholgmcfgnifdaa
open Go.RowKit Go.Maps
end Go.Proofs.Ytholgmcfgnifdaa
