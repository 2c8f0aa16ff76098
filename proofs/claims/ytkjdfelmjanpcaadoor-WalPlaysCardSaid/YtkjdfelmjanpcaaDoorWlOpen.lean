/- How a row of calls (virgatelaw07.Op) among a law's arguments reads. -/
import Derived.Test.YtkjdfelmjanpcaaDoorWlStep
import Derived.Test.YtkjdfelmjanpcaaDoorPkOpen
import Derived.Deep.SlicePairs
namespace Go.Proofs.YtkjdfelmjanpcaaDoor
open Go.RowKit Go.Maps
structure Op7 where
  k : Int
  pv : Value
  ps : List Int
  n : Int
  kv : Value
  ks : List Int
instance : Inhabited Op7 := ⟨⟨0, default, [], 0, default, []⟩⟩
def SeesOp7 (w : World) (a : Addr) (o : Op7) : Prop :=
  w.cell? a = some (.int .i64 o.k) ∧ w.cell? (a.add 1) = some o.pv ∧ w.cell? (a.add 2) = some (.int .i64 o.n) ∧ w.cell? (a.add 3) = some o.kv ∧ Sees w o.pv o.ps ∧ SeesU w o.kv o.ks
def Op7.Ok (o : Op7) : Prop := okB o.ps ∧ (-9223372036854775808 ≤ o.n ∧ o.n ≤ 9223372036854775807) ∧ ∀ x ∈ o.ks, 0 ≤ x ∧ x < 65536
def ArgOps7 (w : World) (v : Value) (os : List Op7) : Prop :=
  (∃ (ao : Option Addr) (c : Nat), v = .slice ao os.length c ∧ os.length ≤ c ∧ (ao = none → os = []) ∧ ∀ a, ao = some a → ∀ i, i < os.length → SeesOp7 w (a.add (i * 4)) (os.getD i default)) ∧ (∀ o ∈ os, o.Ok) ∧ os.length ≤ maxLen
section
open Go.ChangeShapes Go.WideShapes Go.ChangeAt
section
variable {H : Type} {enc : TypeId × Value → H} {P : Program} {w : World} {base : Nat} {held : Bool}
/-- A slice of structs: each element's cells, each field's own reading. -/
theorem open_structs {t e : TypeId} {fs : Array Field} {fuel : Nat} {cs : List Value} {x : DataW H × List MemPlace} (ht : P.underlying t = some (.slice e)) (he : P.underlying e = some (.struct fs))
    (h : DataW.trod enc P w base (fun _ => true) held fuel t cs = some x) :
    cs = [.slice none 0 0] ∨ ∃ (a : Addr) (len cap n : Nat), cs = [.slice (some a) len cap] ∧ len ≤ cap ∧ cap ≤ maxLen ∧ ∀ i, i < cap → ∃ vs : List Value, vs.length = P.cellsOf e ∧ (∀ j, j < P.cellsOf e → w.cell? (a.add (i * P.cellsOf e + j)) = vs[j]?) ∧
      ∀ (j : Nat) (f : Field), fs[j]? = some f → ∃ y, DataW.trod enc P w base (fun _ => true) held n f.type ((vs.drop f.offset).take (P.cellsOf f.type)) = some y := by
  rcases Go.Deep.open_slice ht h with h0 | ⟨a, len, cap, m, n, D, Pl, rfl, hb, hl, hm, hmm, rfl, hx⟩
  · exact Or.inl h0.1
  right
  simp only [if_true] at hmm
  have hmm' := hmm.symm
  subst hmm'
  refine ⟨a, len, cap, n - 1, rfl, hl, hm, fun i hi => ?_⟩
  obtain ⟨cs', h1, h2⟩ := hx i hi
  obtain ⟨_, hlen, hcell⟩ := World.cells?_some h1
  obtain ⟨xs, k, hk, _, _, hxl, hf⟩ := DataW.trod_struct he h2
  have hk' : k = n - 1 := by omega
  subst hk'
  refine ⟨cs', hlen, fun j hj => ?_, fun j f hjf => ?_⟩
  · have := hcell j hj
    rwa [Go.Deep.add_add] at this
  · have hj : j < fs.size := by
      rcases Nat.lt_or_ge j fs.size with h | h
      · exact h
      · rw [Array.getElem?_eq_none h] at hjf; cases hjf
    exact ⟨xs[j]'(by omega), by rw [hf j f hjf, List.getElem?_eq_getElem (by omega)]⟩
end
variable {H : Type} {enc : TypeId × Value → H} {W : World} {base : Nat} {v : Value} {d : DataW H} {p : List MemPlace}
theorem wide_u16s {n : Nat} {u : Value} {y : DataW H × List MemPlace} (hf : DataW.trod enc Tryd.prog W base (fun _ => true) true n 33 [u] = some y) : ∃ xs, SeesU W u xs ∧ (∀ x ∈ xs, 0 ≤ x ∧ x < 65536) ∧ xs.length ≤ maxLen := by
  rcases open_ints Tryd.underlying33 Tryd.underlying92 cellsU16 hf with ⟨hcs, _⟩ | ⟨a, len', cap', zs, hcs, _, hl, hm, hz, _, hcell, hwz⟩
  · obtain rfl : u = .slice none 0 0 := by simpa using hcs
    exact ⟨[], ⟨none, 0, rfl, Nat.le_refl _, fun _ => rfl, fun a h => by cases h⟩, (fun x hx => by cases hx), Nat.zero_le _⟩
  · obtain rfl : u = .slice (some a) len' cap' := by simpa using hcs
    simp only [if_true] at hz
    have e : (zs.take len').length = len' := by rw [List.length_take]; omega
    refine ⟨zs.take len', ⟨some a, cap', by rw [e], by omega, (fun h => by cases h), fun b hb i hi => ?_⟩, fun x hx => wf_u16 (hwz x (List.mem_of_mem_take hx)), by omega⟩
    cases hb
    rw [e] at hi
    rw [hcell i (by omega)]
    simp only [List.getD, List.getElem?_take, if_pos hi]
theorem wide_u8s {n : Nat} {u : Value} {y : DataW H × List MemPlace} (hf : DataW.trod enc Tryd.prog W base (fun _ => true) true n 32 [u] = some y) : ∃ xs, Sees W u xs ∧ okB xs ∧ xs.length ≤ maxLen := by
  rcases open_ints Tryd.underlying32 Tryd.underlying5 cellsU8 hf with ⟨hcs, _⟩ | ⟨a, len', cap', zs, hcs, _, hl, hm, hz, _, hcell, hwz⟩
  · obtain rfl : u = .slice none 0 0 := by simpa using hcs
    exact ⟨[], Sees.nil _, (fun x hx => by cases hx), Nat.zero_le _⟩
  · obtain rfl : u = .slice (some a) len' cap' := by simpa using hcs
    simp only [if_true] at hz
    have e : (zs.take len').length = len' := by rw [List.length_take]; omega
    refine ⟨zs.take len', ⟨some a, cap', by rw [e], by omega, (fun h => by cases h), fun b hb i hi => ?_⟩, fun x hx => wf_u8 (hwz x (List.mem_of_mem_take hx)), by omega⟩
    cases hb
    rw [e] at hi
    rw [hcell i (by omega)]
    simp only [List.getD, List.getElem?_take, if_pos hi]
theorem cellsOp7 : Tryd.prog.cellsOf 35 = 4 := by kernel_rfl
set_option maxRecDepth 100000 in
theorem open_ops7 (hval : Value.okWide Tryd.prog W .any base 22 v) (h : DataW.Trod enc Tryd.prog W 0 (fun _ => true) true 22 v d p) : ∃ os, ArgOps7 W v os := by
  obtain ⟨a0, len, cap, rfl⟩ := okWide_slice Tryd.underlying22 hval
  obtain ⟨fuel, hf⟩ := h
  rcases open_structs Tryd.underlying22 Tryd.underlying35 hf with hcs | ⟨a, len', cap', n, hcs, hl, hm, hall⟩
  · simp [Value.cells] at hcs
    obtain ⟨rfl, rfl, rfl⟩ := hcs
    exact ⟨[], ⟨none, 0, rfl, Nat.le_refl _, fun _ => rfl, fun a h => by cases h⟩, (fun p hp => by cases hp), Nat.zero_le _⟩
  · simp [Value.cells] at hcs
    obtain ⟨rfl, rfl, rfl⟩ := hcs
    rw [cellsOp7] at hall
    have each : ∀ i, i < cap → ∃ o : Op7, SeesOp7 W (a.add (i * 4)) o ∧ o.Ok := by
      intro i hi
      obtain ⟨vs, hlen, hc, hfl⟩ := hall i hi
      match vs, hlen with
      | [v0, v1, v2, v3], _ =>
        obtain ⟨y0, g0⟩ := hfl 0 _ rfl
        obtain ⟨y1, g1⟩ := hfl 1 _ rfl
        obtain ⟨y2, g2⟩ := hfl 2 _ rfl
        obtain ⟨y3, g3⟩ := hfl 3 _ rfl
        rw [show Tryd.prog.cellsOf _ = 1 from by kernel_rfl] at g0 g1 g2 g3
        obtain ⟨x0, e0, _, w0⟩ := DataW.trod_int Tryd.underlying3 g0
        obtain ⟨x1, s1, o1, m1⟩ := wide_u8s g1
        obtain ⟨x2, e2, _, w2⟩ := DataW.trod_int Tryd.underlying3 g2
        obtain ⟨xs, s5, o5, m5⟩ := wide_u16s g3
        simp at e0 e2
        subst e0 e2
        have c0 := hc 0 (by omega)
        have c1 := hc 1 (by omega)
        have c2 := hc 2 (by omega)
        have c3 := hc 3 (by omega)
        rw [← Go.Deep.add_add] at c1 c2 c3
        rw [Nat.add_zero] at c0
        exact ⟨⟨x0, v1, x1, x2, v3, xs⟩, ⟨c0, c1, c2, c3, s1, s5⟩, o1, wf_i64 w2, o5⟩
    obtain ⟨q, hq⟩ := Go.Deep.choose_lt each
    refine ⟨(List.range len).map q, ⟨some a, cap, by simp, by simp; omega, (fun h => by cases h), fun b hb i hi => ?_⟩, fun o ho => ?_, by simp; omega⟩
    · cases hb
      simp only [List.length_map, List.length_range] at hi
      have eg : ((List.range len).map q).getD i default = q i := by simp [List.getD, hi]
      rw [eg]
      exact (hq i (by omega)).1
    · obtain ⟨i, hi, rfl⟩ := List.mem_map.1 ho
      exact (hq i (by have := List.mem_range.1 hi; omega)).2
end
end Go.Proofs.YtkjdfelmjanpcaaDoor
