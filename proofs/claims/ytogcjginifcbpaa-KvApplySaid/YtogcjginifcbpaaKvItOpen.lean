/- How items (virgateref09.Item), a row of them, and an effect among a law's arguments read. -/
import Derived.Test.YtogcjginifcbpaaKvRow
import Derived.Test.YtogcjginifcbpaaKvOpen
namespace Go.Proofs.Ytogcjginifcbpaa
open Go.RowKit Go.Maps
def ItOk (p : KEnt) : Prop := (⟨p.1.toArray⟩ : ByteArray).size ≤ maxLen ∧ p.2.1.size ≤ maxLen ∧ -9223372036854775808 ≤ p.2.2 ∧ p.2.2 ≤ 9223372036854775807
def ArgItems (w : World) (v : Value) (L : List KEnt) : Prop := SeesI w v L ∧ (∀ p ∈ L, ItOk p) ∧ L.length ≤ maxLen
def EffOk (e : KEff) : Prop := e.key.size ≤ maxLen ∧ e.val.size ≤ maxLen ∧ -9223372036854775808 ≤ e.rev ∧ e.rev ≤ 9223372036854775807
section
open Go.ChangeShapes Go.WideShapes Go.ChangeAt
variable {H : Type} {enc : TypeId × Value → H} {W : World} {base : Nat} {v : Value} {d : DataW H} {p : List MemPlace}
set_option maxRecDepth 100000 in
theorem open_items9 (hval : Value.okWide Try.prog W .any base 25 v) (h : DataW.Trod enc Try.prog W 0 (fun _ => true) true 25 v d p) : ∃ L, ArgItems W v L := by
  obtain ⟨a0, len, cap, rfl⟩ := okWide_slice Try.underlying25 hval
  obtain ⟨fuel, hf⟩ := h
  rcases open_structsD Try.underlying25 Try.underlying88 hf with hcs | ⟨a, len', cap', n, D, rest, hcs, hl, hm, hxd, hall⟩
  · simp [Value.cells] at hcs
    obtain ⟨rfl, rfl, rfl⟩ := hcs
    exact ⟨[], ⟨none, 0, rfl, Nat.le_refl _, fun _ => rfl, fun a h => by cases h⟩, (fun p hp => by cases hp), Nat.zero_le _⟩
  · simp [Value.cells] at hcs
    obtain ⟨rfl, rfl, rfl⟩ := hcs
    rw [cellsIt9] at hall
    have each : ∀ i, i < cap → ∃ q : KEnt, (W.cell? (a.add (i * 3)) = some (.string ⟨q.1.toArray⟩) ∧ W.cell? ((a.add (i * 3)).add 1) = some (.string q.2.1) ∧ W.cell? ((a.add (i * 3)).add 2) = some (.int .i64 q.2.2)) ∧ ItOk q := by
      intro i hi
      obtain ⟨vs, xs, hlen, hc, hDi, hfl⟩ := hall i hi
      match vs, hlen with
      | [v0, v1, v2], _ =>
        obtain ⟨y0, z0, g0⟩ := hfl 0 _ rfl
        obtain ⟨y1, z1, g1⟩ := hfl 1 _ rfl
        obtain ⟨y2, z2, g2⟩ := hfl 2 _ rfl
        rw [show Try.prog.cellsOf _ = 1 from by kernel_rfl] at g0 g1 g2
        obtain ⟨x0, e0, _, w0⟩ := DataW.trod_string Try.underlying9 g0
        obtain ⟨x1, e1, _, w1⟩ := DataW.trod_string Try.underlying9 g1
        obtain ⟨x2, e2, _, w2⟩ := DataW.trod_int Try.underlying2 g2
        simp at e0 e1 e2
        subst e0 e1 e2
        have c0 := hc 0 (by omega)
        have c1 := hc 1 (by omega)
        have c2 := hc 2 (by omega)
        rw [← Go.Deep.add_add] at c1 c2
        rw [Nat.add_zero] at c0
        refine ⟨(kl x0, (x1, x2)), ⟨?_, c1, c2⟩, ?_, w1, (wf_i64 w2).1, (wf_i64 w2).2⟩
        · show _ = some (Value.string ⟨(kl x0).toArray⟩)
          rw [kl_str]
          exact c0
        · show (⟨(kl x0).toArray⟩ : ByteArray).size ≤ maxLen
          rw [kl_str]
          exact w0
    obtain ⟨q, hq⟩ := Go.Deep.choose_lt each
    refine ⟨(List.range len).map q, ⟨some a, cap, by simp, by simp; omega, (fun h => by cases h), fun b hb i r hr => ?_⟩, fun o ho => ?_, by simp; omega⟩
    · cases hb
      rw [List.getElem?_map] at hr
      rcases Nat.lt_or_ge i len with hi | hi
      · rw [List.getElem?_range hi] at hr
        obtain rfl := Option.some.inj hr
        exact (hq i (by omega)).1
      · rw [List.getElem?_eq_none (by simpa using hi)] at hr
        cases hr
    · obtain ⟨i, hi, rfl⟩ := List.mem_map.1 ho
      have hi' := List.mem_range.1 hi
      exact (hq i (by omega)).2
theorem cellsEffF : Try.prog.cellsOf 43 = 4 := by kernel_rfl
set_option maxRecDepth 100000 in
theorem open_effF (hval : Value.okWide Try.prog W .any base 43 v) (h : DataW.Trod enc Try.prog W 0 (fun _ => true) true 43 v d p) : ∃ o : KEff, v = effV o ∧ EffOk o := by
  obtain ⟨cs, rfl, hsz⟩ := okWide_struct Try.underlying43 hval
  rw [cellsEffF] at hsz
  obtain ⟨fuel, hf⟩ := h
  obtain ⟨xs, k, hk, hxe, hlen, hxl, hfl⟩ := DataW.trod_struct Try.underlying43 hf
  obtain ⟨vs⟩ := cs
  match vs, hsz with
  | [v0, v1, v2, v3], _ =>
    match xs, hxl with
    | [y0, y1, y2, y3], _ =>
      have g0 := hfl 0 _ rfl
      have g1 := hfl 1 _ rfl
      have g2 := hfl 2 _ rfl
      have g3 := hfl 3 _ rfl
      rw [show Try.prog.cellsOf _ = 1 from by kernel_rfl] at g0 g1 g2 g3
      simp only [Value.cells, List.getElem?_cons_zero, List.getElem?_cons_succ] at g0 g1 g2 g3
      obtain ⟨x0, e0, _, w0⟩ := DataW.trod_string Try.underlying9 g0
      obtain ⟨x1, e1, _, w1⟩ := DataW.trod_string Try.underlying9 g1
      obtain ⟨x2, e2, _, w2⟩ := DataW.trod_int Try.underlying2 g2
      obtain ⟨x3, e3, _⟩ := DataW.trod_bool Try.underlying4 g3
      simp at e0 e1 e2 e3
      subst e0 e1 e2 e3
      exact ⟨⟨x0, x1, x2, x3⟩, rfl, w0, w1, (wf_i64 w2).1, (wf_i64 w2).2⟩
end
end Go.Proofs.Ytogcjginifcbpaa
