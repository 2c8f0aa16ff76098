/- Joined: BkK BkL. -/
import Derived.Laws.CopyRow
import Derived.Test.YtlbgjmnihenmaaaGreatDoorJR
namespace Go.Proofs.YtlbgjmnihenmaaaGreatDoor
section
open Go.RowKit
abbrev em : ByteArray := ⟨#[]⟩
/-- Under which attribute an address is given, if it is. -/
def undP (b : BlkS) (x : Int) : PA × Bool := if inB b.addr x = true ∧ b.sl.getD (x - b.addr).toNat 0 ≠ 0 then (atA b.attrs (b.sl.getD (x - b.addr).toNat 0 - 1).toNat, true) else ((em, em), false)
end
section
open Go.RowKit
theorem slotsLe_iff (sl : List Int) (m : Nat) : ∀ n, slotsLe sl m n = true → ∀ i, i < n → sl.getD i 0 ≤ m
  | 0, _, i, hi => by omega
  | n + 1, h, i, hi => by
    unfold slotsLe at h
    simp only [Bool.and_eq_true] at h
    by_cases e : i = n
    · subst e
      have := h.2
      simpa using this
    · exact slotsLe_iff sl m n h.1 i (by omega)
/-- What is so of a block that is right. -/
theorem right_bd {b : BlkS} (hw : BWf b) (h : rightB b = true) : b.addr % 64 = 0 ∧ ownB b.aff = true ∧ b.attrs.length ≤ 64 ∧ ∀ i, 0 ≤ b.sl.getD i 0 ∧ b.sl.getD i 0 ≤ b.attrs.length := by
  obtain ⟨_, hl, hok, _⟩ := hw
  unfold rightB at h
  simp only [Bool.and_eq_true, decide_eq_true_eq] at h
  obtain ⟨h1, h2, h3, h4, h5⟩ := h
  unfold rightA at h3
  simp only [Bool.and_eq_true, decide_eq_true_eq] at h3
  unfold rightS at h4
  simp only [Bool.and_eq_true] at h4
  refine ⟨h1, h2, h3.1, fun i => ⟨(okB_get hok i).1, ?_⟩⟩
  by_cases hi : i < 64
  · exact slotsLe_iff _ _ 64 h4.1 i hi
  · rw [List.getD_eq_getElem?_getD, List.getElem?_eq_none (by omega)]
    simp
/-- Under which attribute an address of a block is given. -/
def ofP (b : BlkS) (x : Int) : PA × Bool := if rightB b = true then undP b x else ((em, em), false)
/-! Own. -/
/-- A row that is the call's own is so to who called it. -/
theorem BlkRet.mono {w0 w w' : World} {b : BlkS} {fv av : Value} (h : BlkRet w w' b fv av) (hb : Below w0.heap.size w0 w) : BlkRet w0 w' b fv av :=
  ⟨own_le h.free hb.size, own_le h.attrs hb.size, hb.trans (h.below.mono hb.size)⟩
end
end Go.Proofs.YtlbgjmnihenmaaaGreatDoor
namespace Go.Proofs.YtlbgjmnihenmaaaGreatDoor
section
open Go.RowKit
end
section
open Go.RowKit
/-- Those that are not given. -/
def gvn (sl : List Int) (x : Int) : Bool := sl.getD x.toNat 0 != 0
def kp (sl xs : List Int) : List Int := xs.filter (fun x => !gvn sl x)
end
end Go.Proofs.YtlbgjmnihenmaaaGreatDoor
namespace Go.Proofs.YtlbgjmnihenmaaaGreatDoor
open Go.RowKit
/-- The number of the attribute that is given. -/
def givK (b : BlkS) (l : List Int) (a : PA) : Int := if a ∈ b.attrs then (ixA a b.attrs : Int) else if l = [] then -1 else b.attrs.length
end Go.Proofs.YtlbgjmnihenmaaaGreatDoor
