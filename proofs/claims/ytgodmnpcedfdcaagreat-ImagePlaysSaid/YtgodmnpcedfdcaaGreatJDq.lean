/- Joined: BdQ BdR. -/
import Derived.Test.YtgodmnpcedfdcaaGreatBdMa
import Derived.Test.YtgodmnpcedfdcaaGreatBdMb
import Derived.Test.YtgodmnpcedfdcaaGreatBdMc
import Derived.Test.YtgodmnpcedfdcaaGreatJDn
import Derived.Test.YtgodmnpcedfdcaaGreatJDo
import Derived.Test.YtgodmnpcedfdcaaGreatBdOa
import Derived.Test.YtgodmnpcedfdcaaGreatBdOb
import Derived.Test.YtgodmnpcedfdcaaGreatJDp
import Derived.Test.YtgodmnpcedfdcaaGreatImOpen
import Derived.Deep.SlicePairs
namespace Go.Proofs.YtgodmnpcedfdcaaGreat
section
open Go.RowKit
theorem do15_law (b : BlkS) (fv av v1 v2 v3 : Value) (k n : Int) (a : PA) (l1 : Option Addr) (l2 l3 : Nat) (l : List Int) (s : ByteArray) (w : World) (hB : Both w b fv av v1 v2 v3) (h1 : a.1.size ≤ maxLen) (h2 : a.2.size ≤ maxLen) (hls : SeesU w (.slice l1 l2 l3) l) (hlx : ∀ x ∈ l, 0 ≤ x ∧ x < 4294967296) (hss : s.size ≤ maxLen) :
    Calls Tryz.prog 6 #[.agg (blkL b fv av).toArray, docV b.addr b.aff v1 v2 v3, stV k n a (.slice l1 l2 l3) s] w (DoP w b fv av v1 v2 v3) := by
  obtain ⟨f1, a1, p1, q1, r1, f2, f3, a2, a3, p2, p3, q2, q3, r2, r3, rfl, rfl, rfl, rfl, rfl⟩ := hB.form
  by_cases h01 : k = 0 ∨ k = 1
  · cases hm : mayP a with
    | false => exact do01_may b f1 a1 p1 q1 r1 f2 f3 a2 a3 p2 p3 q2 q3 r2 r3 k n a l1 l2 l3 l s w hB h1 h2 hls hlx hss h01 hm
    | true =>
      by_cases hn : 0 ≤ n
      · exact do01_good b f1 a1 p1 q1 r1 f2 f3 a2 a3 p2 p3 q2 q3 r2 r3 k n a l1 l2 l3 l s w hB h1 h2 hls hlx hss h01 hm hn
      · exact do01_neg b f1 a1 p1 q1 r1 f2 f3 a2 a3 p2 p3 q2 q3 r2 r3 k n a l1 l2 l3 l s w hB h1 h2 hls hlx hss h01 hm (by omega)
  by_cases h23 : k = 2 ∨ k = 3
  · exact do23 b f1 a1 p1 q1 r1 f2 f3 a2 a3 p2 p3 q2 q3 r2 r3 k n a l1 l2 l3 l s w hB h1 h2 hls hlx hss h23
  by_cases h4 : k = 4
  · subst h4; exact do4 b f1 a1 p1 q1 r1 f2 f3 a2 a3 p2 p3 q2 q3 r2 r3 n a l1 l2 l3 l s w hB h1 h2 hls hlx hss
  by_cases h5 : k = 5
  · subst h5
    by_cases he : a.1 = em
    · exact do5_none b f1 a1 p1 q1 r1 f2 f3 a2 a3 p2 p3 q2 q3 r2 r3 n a l1 l2 l3 l s w hB h1 h2 hls hlx hss he
    · exact do5 b f1 a1 p1 q1 r1 f2 f3 a2 a3 p2 p3 q2 q3 r2 r3 n a l1 l2 l3 l s w hB h1 h2 hls hlx hss he
  by_cases h6 : k = 6
  · subst h6
    by_cases he : a.2 = em
    · exact do6_none b f1 a1 p1 q1 r1 f2 f3 a2 a3 p2 p3 q2 q3 r2 r3 n a l1 l2 l3 l s w hB h1 h2 hls hlx hss he
    · exact do6 b f1 a1 p1 q1 r1 f2 f3 a2 a3 p2 p3 q2 q3 r2 r3 n a l1 l2 l3 l s w hB h1 h2 hls hlx hss he
  by_cases h7 : k = 7
  · subst h7
    cases ho : ownB s with
    | false => exact do7_bad b f1 a1 p1 q1 r1 f2 f3 a2 a3 p2 p3 q2 q3 r2 r3 n a l1 l2 l3 l s w hB h1 h2 hls hlx hss ho
    | true => exact do7_ok b f1 a1 p1 q1 r1 f2 f3 a2 a3 p2 p3 q2 q3 r2 r3 n a l1 l2 l3 l s w hB h1 h2 hls hlx hss ho
  exact do_other b f1 a1 p1 q1 r1 f2 f3 a2 a3 p2 p3 q2 q3 r2 r3 k n a l1 l2 l3 l s w hB h1 h2 hls hlx hss ⟨fun e => h01 (Or.inl e), fun e => h01 (Or.inr e), fun e => h23 (Or.inl e), fun e => h23 (Or.inr e), h4, h5, h6, h7⟩
end
section
open Go.RowKit
/-- A step. -/
structure StepS where
  k : Int
  n : Int
  a : PA
  lv : Value
  l : List Int
  s : ByteArray
instance : Inhabited StepS := ⟨⟨0, 0, (em, em), NS, [], em⟩⟩
def StepAt (w : World) (a : Addr) (p : StepS) : Prop :=
  w.cell? a = some (.int .i64 p.k) ∧ w.cell? (a.add 1) = some (.int .i64 p.n) ∧ w.cell? (a.add 2) = some (.string p.a.1) ∧ w.cell? (a.add 3) = some (.string p.a.2) ∧ w.cell? (a.add 4) = some p.lv ∧ w.cell? (a.add 5) = some (.string p.s)
def StepOk (w : World) (p : StepS) : Prop := p.a.1.size ≤ maxLen ∧ p.a.2.size ≤ maxLen ∧ p.s.size ≤ maxLen ∧ SeesU w p.lv p.l ∧ ∀ x ∈ p.l, 0 ≤ x ∧ x < 4294967296
def ArgSt (w : World) (v : Value) (L : List StepS) : Prop :=
  (∃ (ao : Option Addr) (c : Nat), v = .slice ao L.length c ∧ L.length ≤ c ∧ (ao = none → L = []) ∧ ∀ a, ao = some a → ∀ i, i < L.length → StepAt w (a.add (i * 6)) (L.getD i default)) ∧ (∀ o ∈ L, StepOk w o) ∧ L.length ≤ maxLen
theorem cell_below {w w' : World} {a : Addr} {v : Value} (h : w.cell? a = some v) (hb : Below w.heap.size w w') : w'.cell? a = some v :=
  (World.cell?_of_block (hb.block _ (cell_lt8 h))).trans h
theorem StepAt.below {w w' : World} {a : Addr} {p : StepS} (h : StepAt w a p) (hb : Below w.heap.size w w') : StepAt w' a p :=
  ⟨cell_below h.1 hb, cell_below h.2.1 hb, cell_below h.2.2.1 hb, cell_below h.2.2.2.1 hb, cell_below h.2.2.2.2.1 hb, cell_below h.2.2.2.2.2 hb⟩
theorem StepOk.below {w w' : World} {p : StepS} (h : StepOk w p) (hb : Below w.heap.size w w') : StepOk w' p := ⟨h.1, h.2.1, h.2.2.1, h.2.2.2.1.later hb, h.2.2.2.2⟩
theorem ArgSt.below {w w' : World} {v : Value} {L : List StepS} (h : ArgSt w v L) (hb : Below w.heap.size w w') : ArgSt w' v L := by
  obtain ⟨⟨ao, c, e, h1, h2, h3⟩, h4, h5⟩ := h
  exact ⟨⟨ao, c, e, h1, h2, fun a ha i hi => (h3 a ha i hi).below hb⟩, fun o ho => (h4 o ho).below hb, h5⟩
section
open Go.ChangeShapes Go.WideShapes Go.ChangeAt
variable {H : Type} {enc : TypeId × Value → H} {P : Program} {w : World} {base : Nat} {held : Bool}
/-- A slice of structs: each element's cells, each field's own reading. -/
theorem open_structsS {t e : TypeId} {fs : Array Field} {fuel : Nat} {cs : List Value} {x : DataW H × List MemPlace} (ht : P.underlying t = some (.slice e)) (he : P.underlying e = some (.struct fs))
    (h : DataW.trod enc P w base (fun _ => true) held fuel t cs = some x) :
    cs = [.slice none 0 0] ∨ ∃ (a : Addr) (len cap n : Nat), cs = [.slice (some a) len cap] ∧ len ≤ cap ∧ cap ≤ maxLen ∧ ∀ i, i < cap → ∃ (vs : List Value) (xs : List (DataW H × List MemPlace)), vs.length = P.cellsOf e ∧ (∀ j, j < P.cellsOf e → w.cell? (a.add (i * P.cellsOf e + j)) = vs[j]?) ∧
      ∀ (j : Nat) (f : Field), fs[j]? = some f → ∃ y, xs[j]? = some y ∧ DataW.trod enc P w base (fun _ => true) held n f.type ((vs.drop f.offset).take (P.cellsOf f.type)) = some y := by
  rcases Go.Deep.open_slice ht h with h0 | ⟨a, len, cap, m, n, D, Pl, rfl, hb, hl, hm, hmm, rfl, hx⟩
  · exact Or.inl h0.1
  right
  simp only [if_true] at hmm
  have hmm' := hmm.symm
  subst hmm'
  refine ⟨a, len, cap, n - 1, rfl, hl, hm, fun i hi => ?_⟩
  obtain ⟨cs', h1, h2⟩ := hx i hi
  obtain ⟨_, hlen, hcell⟩ := World.cells?_some h1
  obtain ⟨xs, k, hk, hxe, _, hxl, hf⟩ := DataW.trod_struct he h2
  have hk' : k = n - 1 := by omega
  subst hk'
  refine ⟨cs', xs, hlen, fun j hj => ?_, fun j f hjf => ?_⟩
  · have := hcell j hj
    rwa [Go.Deep.add_add] at this
  · have hj : j < fs.size := by
      rcases Nat.lt_or_ge j fs.size with h | h
      · exact h
      · rw [Array.getElem?_eq_none h] at hjf; cases hjf
    have hx : xs[j]? = some (xs[j]'(by omega)) := List.getElem?_eq_getElem (by omega)
    exact ⟨xs[j]'(by omega), hx, by rw [hf j f hjf, hx]⟩
end
section
open Go.ChangeShapes Go.WideShapes Go.ChangeAt
variable {H : Type} {enc : TypeId × Value → H} {W : World} {base : Nat} {v : Value} {d : DataW H} {p : List MemPlace}
theorem cellsU32 : Tryz.prog.cellsOf 22 = 1 := by kernel_rfl
theorem cellsSt : Tryz.prog.cellsOf 41 = 6 := by kernel_rfl
set_option maxRecDepth 100000 in
theorem trod_u32s {fuel : Nat} {u : Value} {x : DataW H × List MemPlace} (hf : DataW.trod enc Tryz.prog W 0 (fun _ => true) true fuel 39 [u] = some x) :
    ∃ xs, SeesU W u xs ∧ ∀ x ∈ xs, 0 ≤ x ∧ x < 4294967296 := by
  rcases open_ints Tryz.underlying39 Tryz.underlying22 cellsU32 hf with ⟨hcs, _⟩ | ⟨a, len, cap, zs, hcs, _, hl, hm, hz, _, hcell, hwz⟩
  · simp at hcs
    subst hcs
    exact ⟨[], ⟨none, 0, rfl, Nat.le_refl _, fun _ => rfl, fun _ h => by cases h⟩, (fun x hx => by cases hx)⟩
  · simp at hcs
    subst hcs
    simp only [if_true] at hz
    have e : (zs.take len).length = len := by rw [List.length_take]; omega
    refine ⟨zs.take len, ⟨some a, cap, by rw [e], by omega, (fun h => by cases h), fun b hb i hi => ?_⟩, fun x hx => wf_u32 (hwz x (List.mem_of_mem_take hx))⟩
    cases hb
    rw [e] at hi
    rw [hcell i (by omega)]
    simp only [List.getD, List.getElem?_take, if_pos hi]
set_option maxRecDepth 100000 in
theorem trod_rt1 {fuel : Nat} {u1 u2 : Value} {x : DataW H × List MemPlace} (hf : DataW.trod enc Tryz.prog W 0 (fun _ => true) true fuel 38 [u1, u2] = some x) :
    ∃ q : PA, u1 = .string q.1 ∧ u2 = .string q.2 ∧ q.1.size ≤ maxLen ∧ q.2.size ≤ maxLen := by
  obtain ⟨xs, k, -, -, -, hxl, hfl⟩ := DataW.trod_struct Tryz.underlying38 hf
  match xs, hxl with
  | [y0, y1], _ =>
    have g0 := hfl 0 _ rfl
    have g1 := hfl 1 _ rfl
    rw [show Tryz.prog.cellsOf _ = 1 from by kernel_rfl] at g0 g1
    obtain ⟨x0, e0, _, w0⟩ := DataW.trod_string Tryz.underlying9 g0
    obtain ⟨x1, e1, _, w1⟩ := DataW.trod_string Tryz.underlying9 g1
    simp at e0 e1
    exact ⟨(x0, x1), e0, e1, w0, w1⟩
set_option maxRecDepth 100000 in
theorem open_steps (hval : Value.okWide Tryz.prog W .any base 23 v) (h : DataW.Trod enc Tryz.prog W 0 (fun _ => true) true 23 v d p) : ∃ os, ArgSt W v os := by
  obtain ⟨a0, len, cap, rfl⟩ := okWide_slice Tryz.underlying23 hval
  obtain ⟨fuel, hf⟩ := h
  rcases open_structsS Tryz.underlying23 Tryz.underlying41 hf with hcs | ⟨a, len', cap', n, hcs, hl, hm, hall⟩
  · simp [Value.cells] at hcs
    obtain ⟨rfl, rfl, rfl⟩ := hcs
    exact ⟨[], ⟨none, 0, rfl, Nat.le_refl _, fun _ => rfl, fun a h => by cases h⟩, (fun p hp => by cases hp), Nat.zero_le _⟩
  · simp [Value.cells] at hcs
    obtain ⟨rfl, rfl, rfl⟩ := hcs
    rw [cellsSt] at hall
    have each : ∀ i, i < cap → ∃ o : StepS, StepAt W (a.add (i * 6)) o ∧ StepOk W o := by
      intro i hi
      obtain ⟨vs, xs, hlen, hc, hfl⟩ := hall i hi
      match vs, hlen with
      | [v0, v1, v2, v3, v4, v5], _ =>
        obtain ⟨y0, _, g0⟩ := hfl 0 _ rfl
        obtain ⟨y1, _, g1⟩ := hfl 1 _ rfl
        obtain ⟨y2, _, g2⟩ := hfl 2 _ rfl
        obtain ⟨y3, _, g3⟩ := hfl 3 _ rfl
        obtain ⟨y4, _, g4⟩ := hfl 4 _ rfl
        rw [show Tryz.prog.cellsOf _ = 1 from by kernel_rfl] at g0 g1 g3 g4
        rw [show Tryz.prog.cellsOf _ = 2 from by kernel_rfl] at g2
        have k2 : DataW.trod enc Tryz.prog W 0 (fun _ => true) true n 38 [v2, v3] = some y2 := g2
        have k3 : DataW.trod enc Tryz.prog W 0 (fun _ => true) true n 39 [v4] = some y3 := g3
        obtain ⟨x0, e0, _, _⟩ := DataW.trod_int Tryz.underlying3 g0
        obtain ⟨x1, e1, _, _⟩ := DataW.trod_int Tryz.underlying3 g1
        obtain ⟨q, e2, e3, w2, w3⟩ := trod_rt1 k2
        obtain ⟨ls, sl, bl⟩ := trod_u32s k3
        obtain ⟨x5, e5, _, w5⟩ := DataW.trod_string Tryz.underlying9 g4
        simp at e0 e1 e5
        subst e0 e1 e2 e3 e5
        have c0 := hc 0 (by omega)
        have c1 := hc 1 (by omega)
        have c2 := hc 2 (by omega)
        have c3 := hc 3 (by omega)
        have c4 := hc 4 (by omega)
        have c5 := hc 5 (by omega)
        rw [← Go.Deep.add_add] at c1 c2 c3 c4 c5
        rw [Nat.add_zero] at c0
        exact ⟨⟨x0, x1, q, v4, ls, x5⟩, ⟨c0, c1, c2, c3, c4, c5⟩, ⟨w2, w3, w5, sl, bl⟩⟩
    obtain ⟨q, hq⟩ := Go.Deep.choose_lt each
    refine ⟨(List.range len).map q, ⟨some a, cap, by simp, by simp; omega, (fun h => by cases h), fun b hb i hi => ?_⟩, fun o ho => ?_, by simp; omega⟩
    · cases hb
      have hi' : i < len := by simpa using hi
      have e : ((List.range len).map q).getD i default = q i := by simp [List.getD, hi']
      rw [e]
      exact (hq i (by omega)).1
    · obtain ⟨i, hi, rfl⟩ := List.mem_map.1 ho
      exact (hq i (by have := List.mem_range.1 hi; omega)).2
end
end
end Go.Proofs.YtgodmnpcedfdcaaGreat
