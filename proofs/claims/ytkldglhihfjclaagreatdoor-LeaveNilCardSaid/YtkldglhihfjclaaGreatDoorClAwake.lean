/- A run without inputs, worked out by the kernel. -/
import Derived.Test.YtkldglhihfjclaaGreatDoorClDat
namespace Go.Proofs.YtkldglhihfjclaaGreatDoor
open Go.Ev
theorem clAwake : closeB Tryz.prog (xOr (xOne 120) (xCl 7 aWorld vWorld lWorld)) 100000 60 20 aAwake vAwake lAwake = true := by decide +kernel
end Go.Proofs.YtkldglhihfjclaaGreatDoor
