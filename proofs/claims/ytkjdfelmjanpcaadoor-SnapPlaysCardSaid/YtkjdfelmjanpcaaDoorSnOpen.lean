/- How a row of calls (virgatelaw08.Op) among a law's arguments reads; how long its names are. -/
import Derived.Test.YtkjdfelmjanpcaaDoorDkTwo
import Derived.Test.YtkjdfelmjanpcaaDoorPkOpen
import Derived.Deep.SlicePairs
import Derived.SizedLaws
namespace Go.Proofs.YtkjdfelmjanpcaaDoor
open Go.RowKit Go.Maps
structure Op8 where
  k : Int
  nm : ByteArray
  pv : Value
  ps : List Int
  n : Int
  kv : Value
  ks : List Int
instance : Inhabited Op8 := ⟨⟨0, default, default, [], 0, default, []⟩⟩
def SeesOp8 (w : World) (a : Addr) (o : Op8) : Prop :=
  w.cell? a = some (.int .i64 o.k) ∧ w.cell? (a.add 1) = some (.string o.nm) ∧ w.cell? (a.add 2) = some o.pv ∧ w.cell? (a.add 3) = some (.int .i64 o.n) ∧ w.cell? (a.add 4) = some o.kv ∧ Sees w o.pv o.ps ∧ SeesU w o.kv o.ks
def Op8.Ok (o : Op8) : Prop := okB o.ps ∧ (-9223372036854775808 ≤ o.n ∧ o.n ≤ 9223372036854775807) ∧ ∀ x ∈ o.ks, 0 ≤ x ∧ x < 65536
def ArgOps8 (w : World) (v : Value) (os : List Op8) : Prop :=
  (∃ (ao : Option Addr) (c : Nat), v = .slice ao os.length c ∧ os.length ≤ c ∧ (ao = none → os = []) ∧ ∀ a, ao = some a → ∀ i, i < os.length → SeesOp8 w (a.add (i * 5)) (os.getD i default)) ∧ (∀ o ∈ os, o.Ok ∧ o.nm.size ≤ reachBytes) ∧ os.length ≤ maxLen
section
open Go.ChangeShapes Go.WideShapes Go.ChangeAt
theorem weightsAll_in {H : Type} {P : Program} {e : TypeId} {d : DataW H} : ∀ {l : List (DataW H)}, d ∈ l → ∀ n ∈ d.weights P e, n ∈ DataW.weightsAll P e l
  | [], hd, _, _ => by cases hd
  | a :: l, hd, n, hn => by
    simp only [DataW.weightsAll, List.mem_append]
    rcases List.mem_cons.1 hd with rfl | h
    · exact Or.inl hn
    · exact Or.inr (weightsAll_in h n hn)
section
variable {H : Type} {enc : TypeId × Value → H} {P : Program} {w : World} {base : Nat} {held : Bool}
/-- A slice of structs: each element's cells, each field's own reading, and each element's datum. -/
theorem open_structsD {t e : TypeId} {fs : Array Field} {fuel : Nat} {cs : List Value} {x : DataW H × List MemPlace} (ht : P.underlying t = some (.slice e)) (he : P.underlying e = some (.struct fs))
    (h : DataW.trod enc P w base (fun _ => true) held fuel t cs = some x) :
    cs = [.slice none 0 0] ∨ ∃ (a : Addr) (len cap n : Nat) (D : Nat → DataW H) (rest : List (DataW H)), cs = [.slice (some a) len cap] ∧ len ≤ cap ∧ cap ≤ maxLen ∧ x.1 = .slice ((List.range len).map D) rest ∧ ∀ i, i < cap → ∃ (vs : List Value) (xs : List (DataW H × List MemPlace)), vs.length = P.cellsOf e ∧ (∀ j, j < P.cellsOf e → w.cell? (a.add (i * P.cellsOf e + j)) = vs[j]?) ∧ D i = .agg (xs.map (·.1)) ∧
      ∀ (j : Nat) (f : Field), fs[j]? = some f → ∃ y, xs[j]? = some y ∧ DataW.trod enc P w base (fun _ => true) held n f.type ((vs.drop f.offset).take (P.cellsOf f.type)) = some y := by
  rcases Go.Deep.open_slice ht h with h0 | ⟨a, len, cap, m, n, D, Pl, rfl, hb, hl, hm, hmm, rfl, hx⟩
  · exact Or.inl h0.1
  right
  simp only [if_true] at hmm
  have hmm' := hmm.symm
  subst hmm'
  refine ⟨a, len, cap, n - 1, D, _, rfl, hl, hm, rfl, fun i hi => ?_⟩
  obtain ⟨cs', h1, h2⟩ := hx i hi
  obtain ⟨_, hlen, hcell⟩ := World.cells?_some h1
  obtain ⟨xs, k, hk, hxe, _, hxl, hf⟩ := DataW.trod_struct he h2
  have hk' : k = n - 1 := by omega
  subst hk'
  refine ⟨cs', xs, hlen, fun j hj => ?_, (Prod.mk.inj hxe).1, fun j f hjf => ?_⟩
  · have := hcell j hj
    rwa [Go.Deep.add_add] at this
  · have hj : j < fs.size := by
      rcases Nat.lt_or_ge j fs.size with h | h
      · exact h
      · rw [Array.getElem?_eq_none h] at hjf; cases hjf
    have hx : xs[j]? = some (xs[j]'(by omega)) := List.getElem?_eq_getElem (by omega)
    exact ⟨xs[j]'(by omega), hx, by rw [hf j f hjf, hx]⟩
end
variable {H : Type} {enc : TypeId × Value → H} {W : World} {base : Nat} {v : Value} {d : DataW H} {p : List MemPlace}
theorem wide_u16s {n : Nat} {u : Value} {y : DataW H × List MemPlace} (hf : DataW.trod enc Tryd.prog W base (fun _ => true) true n 33 [u] = some y) : ∃ xs, SeesU W u xs ∧ (∀ x ∈ xs, 0 ≤ x ∧ x < 65536) ∧ xs.length ≤ maxLen := by
  rcases open_ints Tryd.underlying33 Tryd.underlying92 cellsU16 hf with ⟨hcs, _⟩ | ⟨a, len', cap', zs, hcs, _, hl, hm, hz, _, hcell, hwz⟩
  · obtain rfl : u = .slice none 0 0 := by simpa using hcs
    exact ⟨[], ⟨none, 0, rfl, Nat.le_refl _, fun _ => rfl, fun a h => by cases h⟩, (fun x hx => by cases hx), Nat.zero_le _⟩
  · obtain rfl : u = .slice (some a) len' cap' := by simpa using hcs
    simp only [if_true] at hz
    have e : (zs.take len').length = len' := by rw [List.length_take]; omega
    refine ⟨zs.take len', ⟨some a, cap', by rw [e], by omega, (fun h => by cases h), fun b hb i hi => ?_⟩, fun x hx => wf_u16 (hwz x (List.mem_of_mem_take hx)), by omega⟩
    cases hb
    rw [e] at hi
    rw [hcell i (by omega)]
    simp only [List.getD, List.getElem?_take, if_pos hi]
theorem wide_u8s {n : Nat} {u : Value} {y : DataW H × List MemPlace} (hf : DataW.trod enc Tryd.prog W base (fun _ => true) true n 32 [u] = some y) : ∃ xs, Sees W u xs ∧ okB xs ∧ xs.length ≤ maxLen := by
  rcases open_ints Tryd.underlying32 Tryd.underlying5 cellsU8 hf with ⟨hcs, _⟩ | ⟨a, len', cap', zs, hcs, _, hl, hm, hz, _, hcell, hwz⟩
  · obtain rfl : u = .slice none 0 0 := by simpa using hcs
    exact ⟨[], Sees.nil _, (fun x hx => by cases hx), Nat.zero_le _⟩
  · obtain rfl : u = .slice (some a) len' cap' := by simpa using hcs
    simp only [if_true] at hz
    have e : (zs.take len').length = len' := by rw [List.length_take]; omega
    refine ⟨zs.take len', ⟨some a, cap', by rw [e], by omega, (fun h => by cases h), fun b hb i hi => ?_⟩, fun x hx => wf_u8 (hwz x (List.mem_of_mem_take hx)), by omega⟩
    cases hb
    rw [e] at hi
    rw [hcell i (by omega)]
    simp only [List.getD, List.getElem?_take, if_pos hi]
theorem cellsOp8 : Tryd.prog.cellsOf 66 = 5 := by kernel_rfl
set_option maxRecDepth 100000 in
theorem open_ops8 (hval : Value.okWide Tryd.prog W .any base 64 v) (h : DataW.Trod enc Tryd.prog W 0 (fun _ => true) true 64 v d p) (hw : ∀ n ∈ d.weights Tryd.prog 64, n ≤ reachBytes) : ∃ os, ArgOps8 W v os := by
  obtain ⟨a0, len, cap, rfl⟩ := okWide_slice Tryd.underlying64 hval
  obtain ⟨fuel, hf⟩ := h
  rcases open_structsD Tryd.underlying64 Tryd.underlying66 hf with hcs | ⟨a, len', cap', n, D, rest, hcs, hl, hm, hxd, hall⟩
  · simp [Value.cells] at hcs
    obtain ⟨rfl, rfl, rfl⟩ := hcs
    exact ⟨[], ⟨none, 0, rfl, Nat.le_refl _, fun _ => rfl, fun a h => by cases h⟩, (fun p hp => by cases hp), Nat.zero_le _⟩
  · simp [Value.cells] at hcs
    obtain ⟨rfl, rfl, rfl⟩ := hcs
    rw [cellsOp8] at hall
    have hd : d = .slice ((List.range len).map D) rest := hxd
    have each : ∀ i, i < cap → ∃ o : Op8, SeesOp8 W (a.add (i * 5)) o ∧ o.Ok ∧ (i < len → o.nm.size ≤ reachBytes) := by
      intro i hi
      obtain ⟨vs, xs, hlen, hc, hDi, hfl⟩ := hall i hi
      match vs, hlen with
      | [v0, v1, v2, v3, v4], _ =>
        obtain ⟨y0, z0, g0⟩ := hfl 0 _ rfl
        obtain ⟨y1, z1, g1⟩ := hfl 1 _ rfl
        obtain ⟨y2, z2, g2⟩ := hfl 2 _ rfl
        obtain ⟨y3, z3, g3⟩ := hfl 3 _ rfl
        obtain ⟨y4, z4, g4⟩ := hfl 4 _ rfl
        rw [show Tryd.prog.cellsOf _ = 1 from by kernel_rfl] at g0 g1 g2 g3 g4
        obtain ⟨x0, e0, _, w0⟩ := DataW.trod_int Tryd.underlying3 g0
        obtain ⟨x1, e1, hy1, w1⟩ := DataW.trod_string Tryd.underlying9 g1
        obtain ⟨x2, s2, o2, m2⟩ := wide_u8s g2
        obtain ⟨x3, e3, _, w3⟩ := DataW.trod_int Tryd.underlying3 g3
        obtain ⟨x4, s4, o4, m4⟩ := wide_u16s g4
        simp at e0 e1 e3
        subst e0 e1 e3
        have c0 := hc 0 (by omega)
        have c1 := hc 1 (by omega)
        have c2 := hc 2 (by omega)
        have c3 := hc 3 (by omega)
        have c4 := hc 4 (by omega)
        rw [← Go.Deep.add_add] at c1 c2 c3 c4
        rw [Nat.add_zero] at c0
        refine ⟨⟨x0, x1, v2, x2, x3, v4, x4⟩, ⟨c0, c1, c2, c3, c4, s2, s4⟩, ⟨o2, wf_i64 w3, o4⟩, fun hil => ?_⟩
        refine hw _ ?_
        rw [hd]
        simp only [DataW.weights, Tryd.underlying64, List.mem_cons, List.mem_append]
        refine Or.inr (Or.inl (weightsAll_in (d := D i) (List.mem_map.2 ⟨i, List.mem_range.2 hil, rfl⟩) _ ?_))
        rw [hDi]
        simp only [DataW.weights, Tryd.underlying66]
        refine DataW.weights_mem_each (j := 1) (t := 9) (d := .lit (.string x1.data.toList)) (by rfl) (by rw [List.getElem?_map, z1, hy1]; rfl) _ ?_
        simp only [DataW.weights, List.mem_singleton]
        rw [Array.length_toList]
        rfl
    obtain ⟨q, hq⟩ := Go.Deep.choose_lt each
    refine ⟨(List.range len).map q, ⟨some a, cap, by simp, by simp; omega, (fun h => by cases h), fun b hb i hi => ?_⟩, fun o ho => ?_, by simp; omega⟩
    · cases hb
      simp only [List.length_map, List.length_range] at hi
      have eg : ((List.range len).map q).getD i default = q i := by simp [List.getD, hi]
      rw [eg]
      exact (hq i (by omega)).1
    · obtain ⟨i, hi, rfl⟩ := List.mem_map.1 ho
      have hi' := List.mem_range.1 hi
      exact ⟨(hq i (by omega)).2.1, (hq i (by omega)).2.2 hi'⟩
end
end Go.Proofs.YtkjdfelmjanpcaaDoor
