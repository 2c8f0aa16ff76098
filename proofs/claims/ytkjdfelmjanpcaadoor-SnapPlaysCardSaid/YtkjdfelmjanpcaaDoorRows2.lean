/- Rows of byte slices, and of numbers of 16 bits, as arguments. -/
import Derived.Test.YtkjdfelmjanpcaaDoorPkOpen
import Derived.Deep.Matrix
namespace Go.Proofs.YtkjdfelmjanpcaaDoor
open Go.RowKit
/-- A value that reads as a row of slices which read so. -/
def SeesRow (w : World) (v : Value) (ls : List (List Int)) : Prop :=
  ∃ (ao : Option Addr) (c : Nat), v = .slice ao ls.length c ∧ ls.length ≤ c ∧ (ao = none → ls = []) ∧ ∀ a, ao = some a → ∀ i, i < ls.length → ∃ u, w.cell? (a.add i) = some u ∧ Sees w u (ls.getD i [])
theorem SeesRow.keep {w w' : World} {v : Value} {ls : List (List Int)} (h : SeesRow w v ls) (hb : Below w.heap.size w w') : SeesRow w' v ls := by
  obtain ⟨ao, c, e, hl, hn, hc⟩ := h
  exact ⟨ao, c, e, hl, hn, fun a ha i hi => by
    obtain ⟨u, h1, h2⟩ := hc a ha i hi
    exact ⟨u, by rw [hb.cell (cell_lt8 h1)]; exact h1, h2.keep hb⟩⟩
/-- A row of slices that came in. -/
def ArgRow (w : World) (v : Value) (ls : List (List Int)) : Prop := SeesRow w v ls ∧ (∀ p ∈ ls, okB p ∧ p.length ≤ maxLen) ∧ ls.length ≤ maxLen
section
open Go.ChangeShapes Go.WideShapes Go.ChangeAt
variable {H : Type} {enc : TypeId × Value → H} {W : World} {base : Nat} {v : Value} {d : DataW H} {p : List MemPlace}
set_option maxRecDepth 100000 in
theorem open_rows (hval : Value.okWide Tryd.prog W .any base 49 v) (h : DataW.Trod enc Tryd.prog W 0 (fun _ => true) true 49 v d p) : ∃ ls, ArgRow W v ls := by
  obtain ⟨a0, len, cap, rfl⟩ := okWide_slice Tryd.underlying49 hval
  obtain ⟨fuel, hf⟩ := h
  rcases Go.Deep.open_int_rows Tryd.underlying49 Tryd.underlying32 Tryd.underlying5 (by kernel_rfl) cellsU8 hf with ⟨hcs, _⟩ | ⟨a, len', cap', A, L, C, Z, hcs, _, hl, hm, _, hall⟩
  · simp [Value.cells] at hcs
    obtain ⟨rfl, rfl, rfl⟩ := hcs
    exact ⟨[], ⟨none, 0, rfl, Nat.le_refl _, fun _ => rfl, fun a h => by cases h⟩, (fun p hp => by cases hp), Nat.zero_le _⟩
  · simp [Value.cells] at hcs
    obtain ⟨rfl, rfl, rfl⟩ := hcs
    refine ⟨(List.range len).map fun i => (Z i).take (L i), ⟨some a, cap, by simp, by simp; omega, (fun h => by cases h), fun b hb i hi => ?_⟩, fun p hp => ?_, by simp; omega⟩
    · cases hb
      simp only [List.length_map, List.length_range] at hi
      obtain ⟨h1, h2, h3, h4, h5, h6, h7⟩ := hall i (by omega)
      have eg : ((List.range len).map fun i => (Z i).take (L i)).getD i [] = (Z i).take (L i) := by simp [List.getD, hi]
      have el : ((Z i).take (L i)).length = L i := by rw [List.length_take]; omega
      rw [eg]
      refine ⟨_, h1, A i, C i, by rw [el], by omega, fun hn => ?_, fun a' ha' j hj => ?_⟩
      · have := h6 hn
        exact List.eq_nil_of_length_eq_zero (by omega)
      · rw [el] at hj
        rw [(h7 a' ha').2 j (by omega)]
        simp only [List.getD, List.getElem?_take, if_pos hj]
    · obtain ⟨i, hi, rfl⟩ := List.mem_map.1 hp
      have hi' := List.mem_range.1 hi
      obtain ⟨h1, h2, h3, h4, h5, h6, h7⟩ := hall i (by omega)
      exact ⟨fun x hx => wf_u8 (h5 x (List.mem_of_mem_take hx)), by rw [List.length_take]; omega⟩
end
/-- A value that reads as numbers of 16 bits. -/
def SeesU (w : World) (v : Value) (ks : List Int) : Prop :=
  ∃ (ao : Option Addr) (c : Nat), v = .slice ao ks.length c ∧ ks.length ≤ c ∧ (ao = none → ks = []) ∧ ∀ a, ao = some a → ∀ i, i < ks.length → w.cell? (a.add i) = some (.int .u16 (ks.getD i 0))
theorem cellsU16 : Tryd.prog.cellsOf 92 = 1 := by kernel_rfl
section
open Go.ChangeShapes Go.WideShapes Go.ChangeAt
variable {H : Type} {enc : TypeId × Value → H} {W : World} {base : Nat} {v : Value} {d : DataW H} {p : List MemPlace}
set_option maxRecDepth 100000 in
theorem open_u16s (hval : Value.okWide Tryd.prog W .any base 33 v) (h : DataW.Trod enc Tryd.prog W 0 (fun _ => true) true 33 v d p) :
    ∃ xs, SeesU W v xs ∧ (∀ x ∈ xs, 0 ≤ x ∧ x < 65536) ∧ xs.length ≤ maxLen := by
  obtain ⟨a0, len, cap, rfl⟩ := okWide_slice Tryd.underlying33 hval
  obtain ⟨fuel, hf⟩ := h
  rcases open_ints Tryd.underlying33 Tryd.underlying92 cellsU16 hf with ⟨hcs, _⟩ | ⟨a, len', cap', zs, hcs, _, hl, hm, hz, _, hcell, hwz⟩
  · simp [Value.cells] at hcs
    obtain ⟨rfl, rfl, rfl⟩ := hcs
    exact ⟨[], ⟨none, 0, rfl, Nat.le_refl _, fun _ => rfl, fun a h => by cases h⟩, (fun x hx => by cases hx), Nat.zero_le _⟩
  · simp [Value.cells] at hcs
    obtain ⟨rfl, rfl, rfl⟩ := hcs
    simp only [if_true] at hz
    have e : (zs.take len).length = len := by rw [List.length_take]; omega
    refine ⟨zs.take len, ⟨some a, cap, by rw [e], by omega, (fun h => by cases h), fun b hb i hi => ?_⟩, fun x hx => wf_u16 (hwz x (List.mem_of_mem_take hx)), by omega⟩
    cases hb
    rw [e] at hi
    rw [hcell i (by omega)]
    simp only [List.getD, List.getElem?_take, if_pos hi]
end
end Go.Proofs.YtkjdfelmjanpcaaDoor
