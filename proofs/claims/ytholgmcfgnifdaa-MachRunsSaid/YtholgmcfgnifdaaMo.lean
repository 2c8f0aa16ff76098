/- How a row of 64 bit numbers among a law's arguments reads. -/
import Derived.Test.YtholgmcfgnifdaaPkOpen
namespace Go.Proofs.Ytholgmcfgnifdaa
open Go.RowKit
/-- A value that reads as numbers of 64 bits. -/
def SeesJ (w : World) (v : Value) (ks : List Int) : Prop :=
  ∃ (ao : Option Addr) (c : Nat), v = .slice ao ks.length c ∧ ks.length ≤ c ∧ (ao = none → ks = []) ∧ ∀ a, ao = some a → ∀ i, i < ks.length → w.cell? (a.add i) = some (.int .i64 (ks.getD i 0))
theorem cellsI64 : Try.prog.cellsOf 2 = 1 := by kernel_rfl
section
open Go.ChangeShapes Go.WideShapes Go.ChangeAt
variable {H : Type} {enc : TypeId × Value → H} {W : World} {base : Nat} {v : Value} {d : DataW H} {p : List MemPlace}
set_option maxRecDepth 100000 in
theorem open_i64s (hval : Value.okWide Try.prog W .any base 23 v) (h : DataW.Trod enc Try.prog W 0 (fun _ => true) true 23 v d p) :
    ∃ xs, SeesJ W v xs ∧ xs.length ≤ maxLen := by
  obtain ⟨a0, len, cap, rfl⟩ := okWide_slice Try.underlying23 hval
  obtain ⟨fuel, hf⟩ := h
  rcases open_ints Try.underlying23 Try.underlying2 cellsI64 hf with ⟨hcs, _⟩ | ⟨a, len', cap', zs, hcs, _, hl, hm, hz, _, hcell, hwz⟩
  · simp [Value.cells] at hcs
    obtain ⟨rfl, rfl, rfl⟩ := hcs
    exact ⟨[], ⟨none, 0, rfl, Nat.le_refl _, fun _ => rfl, fun a h => by cases h⟩, Nat.zero_le _⟩
  · simp [Value.cells] at hcs
    obtain ⟨rfl, rfl, rfl⟩ := hcs
    simp only [if_true] at hz
    have e : (zs.take len).length = len := by rw [List.length_take]; omega
    refine ⟨zs.take len, ⟨some a, cap, by rw [e], by omega, (fun h => by cases h), fun b hb i hi => ?_⟩, by omega⟩
    cases hb
    rw [e] at hi
    rw [hcell i (by omega)]
    simp only [List.getD, List.getElem?_take, if_pos hi]
end
end Go.Proofs.Ytholgmcfgnifdaa
