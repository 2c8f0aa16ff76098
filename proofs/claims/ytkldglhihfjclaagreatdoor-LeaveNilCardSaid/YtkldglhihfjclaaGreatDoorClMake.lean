/- A run without inputs, worked out by the kernel. -/
import Derived.Test.YtkldglhihfjclaaGreatDoorClDat
namespace Go.Proofs.YtkldglhihfjclaaGreatDoor
open Go.Ev
theorem clMake : closeB Tryz.prog (xOne 120) 100000 60 28 aMake vMake lMake = true := by decide +kernel
end Go.Proofs.YtkldglhihfjclaaGreatDoor
