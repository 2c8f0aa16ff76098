/- Package store: chapter 11's example: its numbers. -/
import Derived.Test.YtbbefakmpmniiaaGreatDoorSt9
namespace Go.Proofs.YtbbefakmpmniiaaGreatDoor
open Go.RowKit Go.Maps
abbrev strX : ByteArray := ⟨#[120]⟩
def eA : KV.KEff := ⟨KV.strA, strX, 1, false⟩
def oA : KV.KOp := ⟨3, KV.strA, strX, 0, KV.emp, 0⟩
def oG : KV.KOp := ⟨1, KV.strA, KV.emp, 0, KV.emp, 0⟩
def bA : List Int := [1, 0, 0, 0, 0, 0, 0, 0, 1, 0, 0, 0, 1, 97, 0, 0, 0, 1, 120]
theorem bA_eq : KV.effL eA = bA := by kernel_rfl
def D0 : DSt := ⟨[], false, false, 0⟩
def dA : DSt := ⟨[([108, 111, 103], (frameL bA, 27))], false, false, 0⟩
theorem sm1 : loadD D0 nSnap.data.toList = ([], 6) := by kernel_rfl
theorem sm2 : readD D0 nLog.data.toList = ([], 6) := by kernel_rfl
theorem sm3 : settleD D0 nLog.data.toList ([] : List Int).length 0 = (0, D0) := by kernel_rfl
theorem sm4 : walA ⟨D0, 0, false⟩ nLog.data.toList bA = (0, ⟨dA, 27, false⟩) := by kernel_rfl
theorem sm5 : crashD dA [] = dA := by kernel_rfl
theorem sm6 : loadD dA nSnap.data.toList = ([], 6) := by kernel_rfl
theorem sm7 : readD dA nLog.data.toList = (frameL bA, 0) := by kernel_rfl
theorem sm8 : AllIs [bA] (frameL bA) 27 6 := by
  refine ⟨⟨by kernel_rfl, by kernel_rfl, 0, rfl, by kernel_rfl⟩, by kernel_rfl, by decide⟩
theorem sm9 : settleD dA nLog.data.toList (frameL bA).length 27 = (0, dA) := by kernel_rfl
theorem sp1 : KV.planK ⟨0, []⟩ oA = (⟨0, 1, KV.emp, []⟩, eA, true) := by
  simp only [KV.planK, KV.refuse, KV.eq_empty, oA]
  rfl
theorem sp2 : KV.rightB eA = true := by kernel_rfl
theorem sp3 : KV.mayA ⟨0, []⟩ eA = true := by kernel_rfl
theorem sok : okB bA := by intro x hx; simp [bA] at hx; omega
def sA : KV.KSt := ⟨1, [([97], (strX, 1))]⟩
theorem sp4 : KV.applyK ⟨0, []⟩ eA = sA := by kernel_rfl
theorem sp5 : KV.planK sA oG = (⟨0, 1, strX, []⟩, KV.eff0, false) := by
  simp only [KV.planK, oG]
  rfl
theorem sdec : decE bA = some eA := by
  have hI : IsEff bA eA := ⟨sp2, by decide, bA_eq⟩
  cases hd : decE bA with
  | none => exact absurd hI (decE_none hd eA)
  | some e =>
    obtain ⟨h1, h2, h3⟩ := decE_some hd
    rw [KV.eff_inj h1 sp2 h2 (by decide) (h3.trans bA_eq.symm)]
theorem srep : replayS ⟨0, []⟩ [bA] = (0, sA) := by
  rw [replayS, sdec]
  simp only [replayS, sp3, sp4]
  rfl
end Go.Proofs.YtbbefakmpmniiaaGreatDoor
