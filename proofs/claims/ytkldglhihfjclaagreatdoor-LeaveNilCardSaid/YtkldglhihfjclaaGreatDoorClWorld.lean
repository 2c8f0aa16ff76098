/- A run without inputs, worked out by the kernel. -/
import Derived.Test.YtkldglhihfjclaaGreatDoorClDat
namespace Go.Proofs.YtkldglhihfjclaaGreatDoor
open Go.Ev
theorem clWorld : closeB Tryz.prog (xOr (xOne 120) (xCl 28 aMake vMake lMake)) 100000 60 7 aWorld vWorld lWorld = true := by decide +kernel
end Go.Proofs.YtkldglhihfjclaaGreatDoor
