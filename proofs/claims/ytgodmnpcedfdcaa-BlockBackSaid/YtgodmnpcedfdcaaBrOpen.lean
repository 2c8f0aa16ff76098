/- How an attribute among a law's arguments reads. -/
import Derived.Test.YtgodmnpcedfdcaaImOpen
import Derived.Lib.SmallJoins
namespace Go.Proofs.Ytgodmnpcedfdcaa
open Go.ChangeShapes Go.WideShapes Go.ChangeAt Go.RowKit
section
variable {H : Type} {enc : TypeId × Value → H} {W : World} {base : Nat} {v : Value} {d : DataW H} {p : List MemPlace}
set_option maxRecDepth 100000 in
theorem open_rt (hval : Value.okWide Try.prog W .any base 29 v) (h : DataW.Trod enc Try.prog W 0 (fun _ => true) true 29 v d p) : ∃ q : ByteArray × ByteArray, v = .agg #[.string q.1, .string q.2] ∧ p = [] ∧ q.1.size ≤ maxLen ∧ q.2.size ≤ maxLen := by
  obtain ⟨c0, c1, y0, y1, m0, rfl, rfl, rfl, hy0, hy1⟩ := Joins.open_agg2 Try.underlying29 (by kernel_rfl) (show Try.prog.cellsOf 29 = 2 from by kernel_rfl) hval h
  obtain ⟨s, es, rfl, ws⟩ := DataW.trod_string Try.underlying9 hy0
  obtain ⟨t, et, rfl, wt⟩ := DataW.trod_string Try.underlying9 hy1
  simp at es et
  subst es et
  exact ⟨(s, t), rfl, rfl, ws, wt⟩
end
end Go.Proofs.Ytgodmnpcedfdcaa
