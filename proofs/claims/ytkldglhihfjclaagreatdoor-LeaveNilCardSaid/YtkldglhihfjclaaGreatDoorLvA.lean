/- leave: chapter 20's example runs to its end. -/
import Derived.Test.YtkldglhihfjclaaGreatDoorNmPre
import Derived.Test.YtkldglhihfjclaaGreatDoorEvOne
import Derived.Test.YtkldglhihfjclaaGreatDoorClMake
import Derived.Test.YtkldglhihfjclaaGreatDoorClWorld
import Derived.Test.YtkldglhihfjclaaGreatDoorClAwake
namespace Go.Proofs.YtkldglhihfjclaaGreatDoor
open Go.RowKit Go.Ev
theorem mix_ok : Tryz.prog.follows .mixedOrders = true := by kernel_rfl
/-- The block of bytealg.MaxLen: the only one that stood there ahead of the call that a run looks at. -/
theorem gmax {w : World} (hE : NM.Env w) : ∃ o m, w.heap[(0 : Nat)]? = some o ∧ ∀ w' : World, w'.heap[(0 : Nat)]? = some o → w'.cell? ⟨0, 0, none⟩ = some (.int .i64 m) := by
  obtain ⟨m, hm⟩ := hE.max
  have h1 : (0 : Nat) < w.heap.size := NM.cell_lt hm
  refine ⟨w.heap[(0 : Nat)], m, Array.getElem?_eq_getElem h1, fun w' h => ?_⟩
  unfold World.cell? at hm ⊢
  rw [h]
  rw [Array.getElem?_eq_getElem h1] at hm
  exact hm
theorem oneX {o : Obj} {m : Int} (h : ∀ w' : World, w'.heap[(0 : Nat)]? = some o → w'.cell? ⟨0, 0, none⟩ = some (.int .i64 m)) :
    CallOk Tryz.prog (gOne 0 o) (xOne 120) := one_sound (gOne_self _ _) h
theorem awake20_any (w : World) (hE : NM.Env w) : Calls Tryz.prog 20 #[] w fun e w' => e = .returned (.bool true) ∧ Below w.heap.size w w' := by
  obtain ⟨o, m, ho, hm⟩ := gmax hE
  have h1 := oneX hm
  have h2 := xOr_sound h1 (xCl_sound h1 mix_ok clMake)
  have h3 := xOr_sound h1 (xCl_sound h2 mix_ok clWorld)
  exact close_run h3 mix_ok clAwake rfl w (gOne_held ho rfl)
end Go.Proofs.YtkldglhihfjclaaGreatDoor
