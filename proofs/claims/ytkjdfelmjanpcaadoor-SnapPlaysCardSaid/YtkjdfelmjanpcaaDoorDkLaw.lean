/- The walks of the laws of package disk that want the program alone: awake, DiskNil. -/
import Derived.Test.YtkjdfelmjanpcaaDoorDkCrash
import Derived.Test.YtkjdfelmjanpcaaDoorPkOpen
import Derived.Lib.SlBytesConst
namespace Go.Proofs.YtkjdfelmjanpcaaDoor
open Go.RowKit Go.Maps
theorem DiskAt.lt {w : World} {g : Nat} {P : Nat → Prop} {D : DSt} (h : DiskAt w g P D) {i : Nat} (hi : P i) : i < w.heap.size := by
  obtain ⟨_, _, _, _, _, _, _, _, h7, _⟩ := h
  exact h7 i hi
theorem DiskAt.self {w : World} {g : Nat} {P : Nat → Prop} {D : DSt} (h : DiskAt w g P D) : P g := by
  obtain ⟨_, _, _, h2, _⟩ := h
  exact h2
theorem Step.ge {P P' : Nat → Prop} {a b : World} {n : Nat} (h : Step P P' a b) (hp : ∀ i, P i → n ≤ i) (hn : n ≤ a.heap.size) : (∀ i, P' i → n ≤ i) ∧ Below n a b :=
  ⟨fun i hi => (h.2 i hi).elim (hp i) (fun h' => Nat.le_trans hn h'), h.1.below hn hp⟩
theorem rename_nil (s t : ByteArray) (w : World) : Calls Tryd.prog 66 #[.pointer none, .string s, .string t] w fun e w' => e = .returned (.int .i64 2) ∧ Below w.heap.size w w' := by
  have HF := Lib.hid (find_nil s w)
  unfold zeroF at HF
  go_enter Tryd.func66, Tryd.ntmps66
  go_wp2_with fail
  refine HF.out.mono ?_; rintro e w1 ⟨rfl, hb1⟩
  go_wp2_with fail
  go_ret
  refine ⟨rfl, hb1.trans ?_⟩
  repeat (first | exact Below.refl _ _ | refine Below.setCell ?_ (by simp) _ | refine Below.alloc ?_ (by have := hb1.size; simp; omega) _)
theorem remove_nil (s : ByteArray) (w : World) : Calls Tryd.prog 85 #[.pointer none, .string s] w fun e w' => e = .returned (.int .i64 2) ∧ Below w.heap.size w w' := by
  have HF := Lib.hid (find_nil s w)
  unfold zeroF at HF
  go_enter Tryd.func85, Tryd.ntmps85
  go_wp2_with fail
  refine HF.out.mono ?_; rintro e w1 ⟨rfl, hb1⟩
  go_wp2_with fail
  go_ret
  refine ⟨rfl, hb1.trans ?_⟩
  repeat (first | exact Below.refl _ _ | refine Below.setCell ?_ (by simp) _ | refine Below.alloc ?_ (by have := hb1.size; simp; omega) _)
theorem cut_nil (s : ByteArray) (n : Int) (w : World) : Calls Tryd.prog 56 #[.pointer none, .string s, .int .i64 n] w fun e w' => e = .returned (.int .i64 2) ∧ Below w.heap.size w w' := by
  have HF := Lib.hid (find_nil s w)
  unfold zeroF at HF
  go_enter Tryd.func56, Tryd.ntmps56
  go_wp2_with fail
  refine HF.out.mono ?_; rintro e w1 ⟨rfl, hb1⟩
  go_wp2_with fail
  go_ret
  refine ⟨rfl, hb1.trans ?_⟩
  repeat (first | exact Below.refl _ _ | refine Below.setCell ?_ (by simp) _ | refine Below.alloc ?_ (by have := hb1.size; simp; omega) _)
/-- The name f. -/
def nF : ByteArray := ⟨#[102]⟩
theorem st1 : appD ⟨[], false, false, 0⟩ nF.data.toList [97, 98, 99] = (0, ⟨[([102], ([97, 98, 99], 0))], false, false, 0⟩) := by kernel_rfl
theorem st2 : syncD ⟨[([102], ([97, 98, 99], 0))], false, false, 0⟩ nF.data.toList = (0, ⟨[([102], ([97, 98, 99], 3))], false, false, 0⟩) := by kernel_rfl
theorem st3 : appD ⟨[([102], ([97, 98, 99], 3))], false, false, 0⟩ nF.data.toList [100, 101] = (0, ⟨[([102], ([97, 98, 99, 100, 101], 3))], false, false, 0⟩) := by kernel_rfl
theorem st4 : crashD ⟨[([102], ([97, 98, 99, 100, 101], 3))], false, false, 0⟩ [1] = ⟨[([102], ([97, 98, 99, 100], 4))], false, false, 0⟩ := by kernel_rfl
theorem st5 : readD ⟨[([102], ([97, 98, 99, 100], 4))], false, false, 0⟩ nF.data.toList = ([97, 98, 99, 100], 0) := by kernel_rfl
theorem abcd : strOfNums [97, 98, 99, 100] = ⟨#[97, 98, 99, 100]⟩ := by kernel_rfl
end Go.Proofs.YtkjdfelmjanpcaaDoor
