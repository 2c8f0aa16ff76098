/- The document's Right. Made by g_brr.py. -/
import Derived.Test.YtgodmnpcedfdcaaGreatJBrE
import Derived.Test.YtgodmnpcedfdcaaGreatJQ
namespace Go.Proofs.YtgodmnpcedfdcaaGreat
open Go.RowKit Go.Maps
theorem eqlRt (p q : PA) (w : World) : (binOp .eql 38 (atV p) (atV q)).run Tryz.prog w = .ok (.bool (decide (p = q))) w := by
  have hS : Tryz.prog.underlying 38 = some (.struct (Tryz.prog.fieldsOf 38)) := by kernel_rfl
  have hp : Tryz.prog.stoodInHeld 38 = false := by kernel_rfl
  have u3 := Tryz.underlying9
  have a3 := Tryz.isAgg9
  have z3 := Tryz.sizeOf9
  rw [run_eql_struct, show (10000 : Nat) = 9999 + 1 from rfl, run_equalIn_agg w 9999 38 _ _ hS hp]
  simp only [Program.fieldsOf, Tryz.underlying38]
  go_simp
  obtain ⟨a, b⟩ := p
  obtain ⟨c, d⟩ := q
  by_cases h1 : a.toList = c.toList <;> by_cases h2 : b.toList = d.toList
  · simp [klB_inj h1, klB_inj h2]
  · have : ¬ b = d := fun e => h2 (by rw [e])
    simp [h1, h2, this]
  · have : ¬ a = c := fun e => h1 (by rw [e])
    simp [h1, this]
  · have : ¬ a = c := fun e => h1 (by rw [e])
    simp [h1, this]
theorem SeesG.cnt {w : World} {v : Value} {l : List Int} (h : SeesG 1 encI1 w v l) : SeesN w v l := by
  obtain ⟨ao, c, rfl, h1, h2, h3⟩ := h
  refine ⟨ao, c, rfl, h1, h2, fun a ha i hi => ?_⟩
  have h4 : w.cell? (a.add (i * 1)) = some (.int .i64 (l.getD i 0)) := h3 a ha i (l.getD i 0) (by rw [List.getD_eq_getElem?_getD, List.getElem?_eq_getElem hi]; rfl) 0 _ rfl
  rwa [Nat.mul_one] at h4
end Go.Proofs.YtgodmnpcedfdcaaGreat
