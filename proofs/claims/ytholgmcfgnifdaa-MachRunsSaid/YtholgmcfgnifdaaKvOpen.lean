/- How operations (virgateref09.Op), one or a row of them, among a law's arguments read; how long their texts are. -/
import Derived.Test.YtholgmcfgnifdaaKvDo
import Derived.Test.YtholgmcfgnifdaaPkOpen
import Derived.Deep.SlicePairs
import Derived.SizedLaws
namespace Go.Proofs.Ytholgmcfgnifdaa
open Go.RowKit Go.Maps
instance : Inhabited KOp := ⟨⟨0, emp, emp, 0, emp, 0⟩⟩
def SeesOp9 (w : World) (a : Addr) (o : KOp) : Prop :=
  w.cell? a = some (.int .i64 o.kind) ∧ w.cell? (a.add 1) = some (.string o.key) ∧ w.cell? (a.add 2) = some (.string o.val) ∧ w.cell? (a.add 3) = some (.int .i64 o.rev) ∧ w.cell? (a.add 4) = some (.string o.iff) ∧ w.cell? (a.add 5) = some (.int .i64 o.ifRev)
def Op9Ok (o : KOp) : Prop := o.key.size ≤ maxLen ∧ o.val.size ≤ maxLen ∧ o.iff.size ≤ maxLen
def ArgOps9 (w : World) (v : Value) (os : List KOp) : Prop :=
  (∃ (ao : Option Addr) (c : Nat), v = .slice ao os.length c ∧ os.length ≤ c ∧ (ao = none → os = []) ∧ ∀ a, ao = some a → ∀ i, i < os.length → SeesOp9 w (a.add (i * 6)) (os.getD i default)) ∧ (∀ o ∈ os, Op9Ok o) ∧ os.length ≤ maxLen
section
open Go.ChangeShapes Go.WideShapes Go.ChangeAt
variable {H : Type} {enc : TypeId × Value → H} {P : Program} {w : World} {base : Nat} {held : Bool}
/-- A slice of structs: each element's cells, each field's own reading, and each element's datum. -/
theorem open_structsD {t e : TypeId} {fs : Array Field} {fuel : Nat} {cs : List Value} {x : DataW H × List MemPlace} (ht : P.underlying t = some (.slice e)) (he : P.underlying e = some (.struct fs))
    (h : DataW.trod enc P w base (fun _ => true) held fuel t cs = some x) :
    cs = [.slice none 0 0] ∨ ∃ (a : Addr) (len cap n : Nat) (D : Nat → DataW H) (rest : List (DataW H)), cs = [.slice (some a) len cap] ∧ len ≤ cap ∧ cap ≤ maxLen ∧ x.1 = .slice ((List.range len).map D) rest ∧ ∀ i, i < cap → ∃ (vs : List Value) (xs : List (DataW H × List MemPlace)), vs.length = P.cellsOf e ∧ (∀ j, j < P.cellsOf e → w.cell? (a.add (i * P.cellsOf e + j)) = vs[j]?) ∧ D i = .agg (xs.map (·.1)) ∧
      ∀ (j : Nat) (f : Field), fs[j]? = some f → ∃ y, xs[j]? = some y ∧ DataW.trod enc P w base (fun _ => true) held n f.type ((vs.drop f.offset).take (P.cellsOf f.type)) = some y := by
  rcases Go.Deep.open_slice ht h with h0 | ⟨a, len, cap, m, n, D, Pl, rfl, hb, hl, hm, hmm, rfl, hx⟩
  · exact Or.inl h0.1
  right
  simp only [if_true] at hmm
  have hmm' := hmm.symm
  subst hmm'
  refine ⟨a, len, cap, n - 1, D, _, rfl, hl, hm, rfl, fun i hi => ?_⟩
  obtain ⟨cs', h1, h2⟩ := hx i hi
  obtain ⟨_, hlen, hcell⟩ := World.cells?_some h1
  obtain ⟨xs, k, hk, hxe, _, hxl, hf⟩ := DataW.trod_struct he h2
  have hk' : k = n - 1 := by omega
  subst hk'
  refine ⟨cs', xs, hlen, fun j hj => ?_, (Prod.mk.inj hxe).1, fun j f hjf => ?_⟩
  · have := hcell j hj
    rwa [Go.Deep.add_add] at this
  · have hj : j < fs.size := by
      rcases Nat.lt_or_ge j fs.size with h | h
      · exact h
      · rw [Array.getElem?_eq_none h] at hjf; cases hjf
    have hx : xs[j]? = some (xs[j]'(by omega)) := List.getElem?_eq_getElem (by omega)
    exact ⟨xs[j]'(by omega), hx, by rw [hf j f hjf, hx]⟩
end
section
open Go.ChangeShapes Go.WideShapes Go.ChangeAt
variable {H : Type} {enc : TypeId × Value → H} {W : World} {base : Nat} {v : Value} {d : DataW H} {p : List MemPlace}
theorem cellsOp9 : Try.prog.cellsOf 40 = 6 := by kernel_rfl
theorem cellsIt9 : Try.prog.cellsOf 89 = 3 := by kernel_rfl
set_option maxRecDepth 100000 in
theorem open_ops9 (hval : Value.okWide Try.prog W .any base 22 v) (h : DataW.Trod enc Try.prog W 0 (fun _ => true) true 22 v d p) : ∃ os, ArgOps9 W v os := by
  obtain ⟨a0, len, cap, rfl⟩ := okWide_slice Try.underlying22 hval
  obtain ⟨fuel, hf⟩ := h
  rcases open_structsD Try.underlying22 Try.underlying40 hf with hcs | ⟨a, len', cap', n, D, rest, hcs, hl, hm, hxd, hall⟩
  · simp [Value.cells] at hcs
    obtain ⟨rfl, rfl, rfl⟩ := hcs
    exact ⟨[], ⟨none, 0, rfl, Nat.le_refl _, fun _ => rfl, fun a h => by cases h⟩, (fun p hp => by cases hp), Nat.zero_le _⟩
  · simp [Value.cells] at hcs
    obtain ⟨rfl, rfl, rfl⟩ := hcs
    rw [cellsOp9] at hall
    have each : ∀ i, i < cap → ∃ o : KOp, SeesOp9 W (a.add (i * 6)) o ∧ Op9Ok o := by
      intro i hi
      obtain ⟨vs, xs, hlen, hc, hDi, hfl⟩ := hall i hi
      match vs, hlen with
      | [v0, v1, v2, v3, v4, v5], _ =>
        obtain ⟨y0, z0, g0⟩ := hfl 0 _ rfl
        obtain ⟨y1, z1, g1⟩ := hfl 1 _ rfl
        obtain ⟨y2, z2, g2⟩ := hfl 2 _ rfl
        obtain ⟨y3, z3, g3⟩ := hfl 3 _ rfl
        obtain ⟨y4, z4, g4⟩ := hfl 4 _ rfl
        obtain ⟨y5, z5, g5⟩ := hfl 5 _ rfl
        rw [show Try.prog.cellsOf _ = 1 from by kernel_rfl] at g0 g1 g2 g3 g4 g5
        obtain ⟨x0, e0, _, w0⟩ := DataW.trod_int Try.underlying3 g0
        obtain ⟨x1, e1, _, w1⟩ := DataW.trod_string Try.underlying9 g1
        obtain ⟨x2, e2, _, w2⟩ := DataW.trod_string Try.underlying9 g2
        obtain ⟨x3, e3, _, w3⟩ := DataW.trod_int Try.underlying2 g3
        obtain ⟨x4, e4, _, w4⟩ := DataW.trod_string Try.underlying9 g4
        obtain ⟨x5, e5, _, w5⟩ := DataW.trod_int Try.underlying2 g5
        simp at e0 e1 e2 e3 e4 e5
        subst e0 e1 e2 e3 e4 e5
        have c0 := hc 0 (by omega)
        have c1 := hc 1 (by omega)
        have c2 := hc 2 (by omega)
        have c3 := hc 3 (by omega)
        have c4 := hc 4 (by omega)
        have c5 := hc 5 (by omega)
        rw [← Go.Deep.add_add] at c1 c2 c3 c4 c5
        rw [Nat.add_zero] at c0
        exact ⟨⟨x0, x1, x2, x3, x4, x5⟩, ⟨c0, c1, c2, c3, c4, c5⟩, ⟨w1, w2, w4⟩⟩
    obtain ⟨q, hq⟩ := Go.Deep.choose_lt each
    refine ⟨(List.range len).map q, ⟨some a, cap, by simp, by simp; omega, (fun h => by cases h), fun b hb i hi => ?_⟩, fun o ho => ?_, by simp; omega⟩
    · cases hb
      simp only [List.length_map, List.length_range] at hi
      have eg : ((List.range len).map q).getD i default = q i := by simp [List.getD, hi]
      rw [eg]
      exact (hq i (by omega)).1
    · obtain ⟨i, hi, rfl⟩ := List.mem_map.1 ho
      have hi' := List.mem_range.1 hi
      exact (hq i (by omega)).2
set_option maxRecDepth 100000 in
/-- One operation that came in. -/
theorem open_op9 (hval : Value.okWide Try.prog W .any base 40 v) (h : DataW.Trod enc Try.prog W 0 (fun _ => true) true 40 v d p) : ∃ o : KOp, v = opV o ∧ Op9Ok o := by
  obtain ⟨cs, rfl, hsz⟩ := okWide_struct Try.underlying40 hval
  rw [cellsOp9] at hsz
  obtain ⟨fuel, hf⟩ := h
  obtain ⟨xs, k, hk, hxe, hlen, hxl, hfl⟩ := DataW.trod_struct Try.underlying40 hf
  obtain ⟨vs⟩ := cs
  match vs, hsz with
  | [v0, v1, v2, v3, v4, v5], _ =>
    match xs, hxl with
    | [y0, y1, y2, y3, y4, y5], _ =>
      have g0 := hfl 0 _ rfl
      have g1 := hfl 1 _ rfl
      have g2 := hfl 2 _ rfl
      have g3 := hfl 3 _ rfl
      have g4 := hfl 4 _ rfl
      have g5 := hfl 5 _ rfl
      rw [show Try.prog.cellsOf _ = 1 from by kernel_rfl] at g0 g1 g2 g3 g4 g5
      simp only [Value.cells, List.getElem?_cons_zero, List.getElem?_cons_succ] at g0 g1 g2 g3 g4 g5
      obtain ⟨x0, e0, _, w0⟩ := DataW.trod_int Try.underlying3 g0
      obtain ⟨x1, e1, _, w1⟩ := DataW.trod_string Try.underlying9 g1
      obtain ⟨x2, e2, _, w2⟩ := DataW.trod_string Try.underlying9 g2
      obtain ⟨x3, e3, _, w3⟩ := DataW.trod_int Try.underlying2 g3
      obtain ⟨x4, e4, _, w4⟩ := DataW.trod_string Try.underlying9 g4
      obtain ⟨x5, e5, _, w5⟩ := DataW.trod_int Try.underlying2 g5
      simp at e0 e1 e2 e3 e4 e5
      subst e0 e1 e2 e3 e4 e5
      exact ⟨⟨x0, x1, x2, x3, x4, x5⟩, rfl, ⟨w1, w2, w4⟩⟩
end
end Go.Proofs.Ytholgmcfgnifdaa
