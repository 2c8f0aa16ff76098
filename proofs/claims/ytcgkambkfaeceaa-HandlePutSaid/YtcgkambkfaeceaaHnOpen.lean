/- How a row of counts among a law's arguments reads. -/
import Derived.Test.YtcgkambkfaeceaaHnLaw
import Derived.Test.YtcgkambkfaeceaaPkOpen
import Derived.Deep.SlicePairs
namespace Go.Proofs.Ytcgkambkfaeceaa
open Go.ChangeShapes Go.WideShapes Go.ChangeAt Go.RowKit
section
variable {H : Type} {enc : TypeId × Value → H} {W : World} {base : Nat} {v : Value} {d : DataW H} {p : List MemPlace}
set_option maxRecDepth 100000 in
theorem open_cnts (hval : Value.okWide Try.prog W .any base 22 v) (h : DataW.Trod enc Try.prog W 0 (fun _ => true) true 22 v d p) : ∃ L, SeesC W v L ∧ CntBd L ∧ L.length ≤ maxLen := by
  obtain ⟨a0, len, cap, rfl⟩ := okWide_slice Try.underlying22 hval
  obtain ⟨fuel, hf⟩ := h
  rcases Go.Deep.open_slice_pairs Try.underlying22 Try.underlying49 (by kernel_rfl) rfl rfl (by kernel_rfl) (by kernel_rfl) hf with ⟨hcs, _⟩ | ⟨a, len', cap', m, k, V0, V1, D0, D1, P0, P1, hcs, _, hl, hm, hmm, _, hall⟩
  · simp [Value.cells] at hcs
    obtain ⟨rfl, rfl, rfl⟩ := hcs
    exact ⟨[], SeesC.nil W, (fun p hp => by cases hp), Nat.zero_le _⟩
  · simp [Value.cells] at hcs
    obtain ⟨rfl, rfl, rfl⟩ := hcs
    simp only [if_true] at hmm
    have key : ∀ i, i < len → W.cell? (a.add (i * 2)) = some (.int .u32 (intOf (V0 i))) ∧ W.cell? (a.add (i * 2 + 1)) = some (.int .i64 (intOf (V1 i))) ∧ (0 ≤ intOf (V0 i) ∧ intOf (V0 i) < 4294967296) ∧ -9223372036854775808 ≤ intOf (V1 i) ∧ intOf (V1 i) ≤ 9223372036854775807 := fun i hi => by
      obtain ⟨h0, h1, t0, t1⟩ := hall i (by omega)
      obtain ⟨x0, e0, _, f0⟩ := DataW.trod_int Try.underlying41 t0
      obtain ⟨x1, e1, _, f1⟩ := DataW.trod_int Try.underlying3 t1
      simp at e0 e1
      rw [h0, h1, e0, e1]
      exact ⟨rfl, rfl, wf_u32 f0, wf_i64 f1⟩
    refine ⟨(List.range len).map fun i => (intOf (V0 i), intOf (V1 i)), ⟨some a, cap, by simp, by simp; omega, (fun h => by cases h), fun b hb i q hq => ?_⟩, fun q hq => ?_, by simp; omega⟩
    · cases hb
      have hi : i < len := by
        have := (List.getElem?_eq_some_iff.1 hq).1
        simpa using this
      have eg : q = (intOf (V0 i), intOf (V1 i)) := by
        simp [hi] at hq
        exact hq.symm
      obtain ⟨h0, h1, _⟩ := key i hi
      rw [eg, Addr.add_add]
      exact ⟨h0, h1⟩
    · obtain ⟨i, hi, rfl⟩ := List.mem_map.1 hq
      obtain ⟨_, _, h2⟩ := key i (List.mem_range.1 hi)
      exact h2
end
end Go.Proofs.Ytcgkambkfaeceaa
