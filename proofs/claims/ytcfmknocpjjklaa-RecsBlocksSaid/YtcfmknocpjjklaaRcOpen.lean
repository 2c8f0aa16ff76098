/- Package recs: a pool that came in, opened. -/
import Derived.Test.YtcfmknocpjjklaaRcPool
import Derived.Test.YtcfmknocpjjklaaPkOpen
import Derived.Lib.SmallJoins
namespace Go.Proofs.Ytcfmknocpjjklaa
open Go.ChangeShapes Go.WideShapes Go.ChangeAt Go.RowKit
section
variable {H : Type} {enc : TypeId × Value → H} {W : World} {base : Nat} {v : Value} {d : DataW H} {p : List MemPlace}
theorem cellsPool : Try.prog.cellsOf 26 = 3 := by kernel_rfl
theorem cellsNet : Try.prog.cellsOf 24 = 2 := by kernel_rfl
theorem cellsBool : Try.prog.cellsOf 4 = 1 := by kernel_rfl
theorem cellsU32 : Try.prog.cellsOf 22 = 1 := by kernel_rfl
theorem cellsInt : Try.prog.cellsOf 3 = 1 := by kernel_rfl
theorem array3 {cs : Array Value} (h : cs.size = 3) : ∃ a b c, cs = #[a, b, c] := by
  obtain ⟨l⟩ := cs
  match l, h with
  | [a, b, c], _ => exact ⟨a, b, c, rfl⟩
theorem open_pool (hval : Value.okWide Try.prog W .any base 26 v) (h : DataW.Trod enc Try.prog W 0 (fun _ => true) true 26 v d p) :
    ∃ (a b : Int) (o : Bool), v = .agg #[.int .u32 a, .int .i64 b, .bool o] ∧ p = [] ∧ (0 ≤ a ∧ a < 4294967296) ∧ (-9223372036854775808 ≤ b ∧ b ≤ 9223372036854775807) := by
  obtain ⟨cs, rfl, hsz⟩ := okWide_struct Try.underlying26 hval
  obtain ⟨c0, c1, c2, rfl⟩ := array3 (hsz.trans cellsPool)
  obtain ⟨fuel, hf⟩ := h
  obtain ⟨y0, y1, n, hx, _, h0, h1⟩ := trod_struct2 Try.underlying26 hf
  simp only [Value.cells, cellsNet, cellsBool, List.drop_succ_cons, List.drop_zero, List.take_succ_cons, List.take_zero] at h0 h1
  obtain ⟨z0, z1, m, hy, _, k0, k1⟩ := trod_struct2 Try.underlying24 h0
  simp only [cellsU32, cellsInt, List.drop_succ_cons, List.drop_zero, List.take_succ_cons, List.take_zero] at k0 k1
  obtain ⟨a, ea, ga, wa⟩ := DataW.trod_int Try.underlying22 k0
  obtain ⟨b, eb, gb, wb⟩ := DataW.trod_int Try.underlying3 k1
  obtain ⟨o, eo, go⟩ := DataW.trod_bool Try.underlying4 h1
  simp at ea eb eo
  subst ea eb eo
  refine ⟨a, b, o, rfl, ?_, wf_u32 wa, wf_i64 wb⟩
  have e1 := congrArg Prod.snd hx
  simp only [] at e1
  rw [e1, hy, ga, gb, go]
  rfl
end
end Go.Proofs.Ytcfmknocpjjklaa
