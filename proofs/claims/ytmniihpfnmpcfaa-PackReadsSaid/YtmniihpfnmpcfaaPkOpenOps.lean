/- How a row of reads among a law's arguments reads. -/
import Derived.Test.YtmniihpfnmpcfaaPackReadsW
import Derived.Test.YtmniihpfnmpcfaaPkOpen
import Derived.Deep.SlicePairs
namespace Go.Proofs.Ytmniihpfnmpcfaa
open Go.ChangeShapes Go.WideShapes Go.ChangeAt Go.RowKit
section
variable {H : Type} {enc : TypeId × Value → H} {W : World} {base : Nat} {v : Value} {d : DataW H} {p : List MemPlace}
set_option maxRecDepth 100000 in
theorem open_ops (hval : Value.okWide Try.prog W .any base 23 v) (h : DataW.Trod enc Try.prog W 0 (fun _ => true) true 23 v d p) : ∃ ks, SeesOps W v ks := by
  obtain ⟨a0, len, cap, rfl⟩ := okWide_slice Try.underlying23 hval
  obtain ⟨fuel, hf⟩ := h
  rcases Go.Deep.open_slice_pairs Try.underlying23 Try.underlying31 (by kernel_rfl) rfl rfl (by kernel_rfl) (by kernel_rfl) hf with ⟨hcs, _⟩ | ⟨a, len', cap', m, k, V0, V1, D0, D1, P0, P1, hcs, _, hl, hm, hmm, _, hall⟩
  · simp [Value.cells] at hcs
    obtain ⟨rfl, rfl, rfl⟩ := hcs
    exact ⟨[], none, 0, rfl, Nat.zero_le _, fun _ => rfl, fun a h => by cases h⟩
  · simp [Value.cells] at hcs
    obtain ⟨rfl, rfl, rfl⟩ := hcs
    simp only [if_true] at hmm
    refine ⟨(List.range len).map fun i => (intOf (V0 i), intOf (V1 i)), some a, cap, by simp, by simp; omega, (fun h => by cases h), fun b hb i hi => ?_⟩
    cases hb
    simp only [List.length_map, List.length_range] at hi
    obtain ⟨h0, h1, t0, t1⟩ := hall i (by omega)
    obtain ⟨x0, e0, _, _⟩ := DataW.trod_int Try.underlying3 t0
    obtain ⟨x1, e1, _, _⟩ := DataW.trod_int Try.underlying3 t1
    simp at e0 e1
    have eg : ((List.range len).map fun i => (intOf (V0 i), intOf (V1 i))).getD i (0, 0) = (intOf (V0 i), intOf (V1 i)) := by
      simp [List.getD, hi]
    rw [eg, h0, h1, e0, e1]
    exact ⟨rfl, rfl⟩
end
end Go.Proofs.Ytmniihpfnmpcfaa
