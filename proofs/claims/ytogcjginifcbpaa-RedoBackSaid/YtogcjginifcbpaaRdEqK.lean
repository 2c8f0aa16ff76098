/- Two effects (kv.Effect) are equal. -/
import Derived.Test.YtogcjginifcbpaaRdMath
namespace Go.Proofs.Ytogcjginifcbpaa
open Go.RowKit Go.Maps
theorem eqEffK (e f : KEff) (w : World) : (binOp .eql 38 (effV e) (effV f)).run Try.prog w = .ok (.bool (decide (e.key = f.key ∧ e.val = f.val ∧ e.rev = f.rev ∧ e.gone = f.gone))) w := by
  have hS : Try.prog.underlying 38 = some (.struct (Try.prog.fieldsOf 38)) := by kernel_rfl
  have hp : Try.prog.stoodInHeld 38 = false := by kernel_rfl
  have u3 := Try.underlying9
  have a3 := Try.isAgg9
  have z3 := Try.sizeOf9
  have u4 := Try.underlying2
  have a4 := Try.isAgg2
  have z4 := Try.sizeOf2
  have u5 := Try.underlying4
  have a5 := Try.isAgg4
  have z5 := Try.sizeOf4
  rw [run_eql_struct, show (10000 : Nat) = 9999 + 1 from rfl, run_equalIn_agg w 9999 38 _ _ hS hp]
  simp only [Program.fieldsOf, Try.underlying38]
  have hk := eqB e.key f.key
  have hv := eqB e.val f.val
  go_simp
  by_cases h1 : e.key = f.key <;> by_cases h2 : e.val = f.val <;> by_cases h3 : e.rev = f.rev <;> by_cases h4 : e.gone = f.gone <;> simp_all
end Go.Proofs.Ytogcjginifcbpaa
