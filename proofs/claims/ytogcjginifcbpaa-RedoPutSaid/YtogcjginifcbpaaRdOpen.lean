/- How one effect (virgateref09.Effect) among a law's arguments reads. -/
import Derived.Test.YtogcjginifcbpaaRdMath
import Derived.Test.YtogcjginifcbpaaPkOpen
namespace Go.Proofs.Ytogcjginifcbpaa
open Go.RowKit Go.Maps
section
open Go.ChangeShapes Go.WideShapes Go.ChangeAt
variable {H : Type} {enc : TypeId × Value → H} {W : World} {base : Nat} {v : Value} {d : DataW H} {p : List MemPlace}
theorem cellsEff9 : Try.prog.cellsOf 43 = 4 := by kernel_rfl
set_option maxRecDepth 100000 in
/-- One effect that came in. -/
theorem open_eff9 (hval : Value.okWide Try.prog W .any base 43 v) (h : DataW.Trod enc Try.prog W 0 (fun _ => true) true 43 v d p) : ∃ o : KEff, v = effV o ∧ o.rev ≤ 9223372036854775807 := by
  obtain ⟨cs, rfl, hsz⟩ := okWide_struct Try.underlying43 hval
  rw [cellsEff9] at hsz
  obtain ⟨fuel, hf⟩ := h
  obtain ⟨xs, k, hk, hxe, hlen, hxl, hfl⟩ := DataW.trod_struct Try.underlying43 hf
  obtain ⟨vs⟩ := cs
  match vs, hsz with
  | [v0, v1, v2, v3], _ =>
    match xs, hxl with
    | [y0, y1, y2, y3], _ =>
      have g0 := hfl 0 _ rfl
      have g1 := hfl 1 _ rfl
      have g2 := hfl 2 _ rfl
      have g3 := hfl 3 _ rfl
      rw [show Try.prog.cellsOf _ = 1 from by kernel_rfl] at g0 g1 g2 g3
      simp only [Value.cells, List.getElem?_cons_zero, List.getElem?_cons_succ] at g0 g1 g2 g3
      obtain ⟨x0, e0, _, w0⟩ := DataW.trod_string Try.underlying9 g0
      obtain ⟨x1, e1, _, w1⟩ := DataW.trod_string Try.underlying9 g1
      obtain ⟨x2, e2, _, w2⟩ := DataW.trod_int Try.underlying2 g2
      obtain ⟨x3, e3, _⟩ := DataW.trod_bool Try.underlying4 g3
      simp at e0 e1 e2 e3
      subst e0 e1 e2 e3
      exact ⟨⟨x0, x1, x2, x3⟩, rfl, (wf_i64 w2).2⟩
end
end Go.Proofs.Ytogcjginifcbpaa
