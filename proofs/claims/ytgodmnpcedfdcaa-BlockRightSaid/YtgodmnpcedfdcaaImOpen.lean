/- How a raw block among a law's arguments reads. -/
import Derived.Test.YtgodmnpcedfdcaaBkH
import Derived.Test.YtgodmnpcedfdcaaPkOpen
import Derived.Deep.SlicePairs
namespace Go.Proofs.Ytgodmnpcedfdcaa
open Go.ChangeShapes Go.WideShapes Go.ChangeAt Go.RowKit
section
variable {H : Type} {enc : TypeId × Value → H} {W : World} {base : Nat} {v : Value} {d : DataW H} {p : List MemPlace}
set_option maxRecDepth 100000 in
theorem trod_bytes {fuel : Nat} {u : Value} {x : DataW H × List MemPlace} (hf : DataW.trod enc Try.prog W 0 (fun _ => true) true fuel 24 [u] = some x) :
    ∃ xs, Sees W u xs ∧ okB xs ∧ xs.length ≤ maxLen := by
  rcases open_ints Try.underlying24 Try.underlying5 cellsU8 hf with ⟨hcs, _⟩ | ⟨a, len, cap, zs, hcs, _, hl, hm, hz, _, hcell, hwz⟩
  · simp at hcs
    subst hcs
    exact ⟨[], Sees.nil W, (fun x hx => by cases hx), Nat.zero_le _⟩
  · simp at hcs
    subst hcs
    simp only [if_true] at hz
    have e : (zs.take len).length = len := by rw [List.length_take]; omega
    refine ⟨zs.take len, ⟨some a, cap, by rw [e], by omega, (fun h => by cases h), fun b hb i hi => ?_⟩, fun x hx => wf_u8 (hwz x (List.mem_of_mem_take hx)), by omega⟩
    cases hb
    rw [e] at hi
    rw [hcell i (by omega)]
    simp only [List.getD, List.getElem?_take, if_pos hi]
def strOf : Value → ByteArray
  | .string s => s
  | _ => ⟨#[]⟩
set_option maxRecDepth 100000 in
theorem trod_rts {fuel : Nat} {u : Value} {x : DataW H × List MemPlace} (hf : DataW.trod enc Try.prog W 0 (fun _ => true) true fuel 25 [u] = some x) :
    ∃ L, SeesA W u L ∧ L.length ≤ maxLen ∧ ∀ p ∈ L, p.1.size ≤ maxLen ∧ p.2.size ≤ maxLen := by
  rcases Go.Deep.open_slice_pairs Try.underlying25 Try.underlying29 (by kernel_rfl) rfl rfl (by kernel_rfl) (by kernel_rfl) hf with ⟨hcs, _⟩ | ⟨a, len, cap, m, k, V0, V1, D0, D1, P0, P1, hcs, _, hl, hm, hmm, _, hall⟩
  · simp at hcs
    subst hcs
    exact ⟨[], ⟨none, 0, rfl, Nat.le_refl _, fun _ => rfl, fun _ h => by cases h⟩, Nat.zero_le _, fun p hp => by cases hp⟩
  · simp at hcs
    subst hcs
    simp only [if_true] at hmm
    have key : ∀ i, i < len → W.cell? (a.add (i * 2)) = some (.string (strOf (V0 i))) ∧ W.cell? (a.add (i * 2 + 1)) = some (.string (strOf (V1 i))) ∧ (strOf (V0 i)).size ≤ maxLen ∧ (strOf (V1 i)).size ≤ maxLen := fun i hi => by
      obtain ⟨h0, h1, t0, t1⟩ := hall i (by omega)
      obtain ⟨x0, e0, _, f0⟩ := DataW.trod_string Try.underlying9 t0
      obtain ⟨x1, e1, _, f1⟩ := DataW.trod_string Try.underlying9 t1
      simp at e0 e1
      rw [h0, h1, e0, e1]
      exact ⟨rfl, rfl, f0, f1⟩
    refine ⟨(List.range len).map fun i => (strOf (V0 i), strOf (V1 i)), ⟨some a, cap, by simp, by simp; omega, (fun h => by cases h), fun b hb i q hq => ?_⟩, by simp; omega, fun q hq => ?_⟩
    · cases hb
      have hi : i < len := by
        have := (List.getElem?_eq_some_iff.1 hq).1
        simpa using this
      have eg : q = (strOf (V0 i), strOf (V1 i)) := by
        simp [hi] at hq
        exact hq.symm
      obtain ⟨h0, h1, _⟩ := key i hi
      rw [eg, Addr.add_add]
      exact ⟨h0, h1⟩
    · obtain ⟨i, hi, rfl⟩ := List.mem_map.1 hq
      obtain ⟨_, _, h2⟩ := key i (List.mem_range.1 hi)
      exact h2
theorem all_u8 : ∀ {cs : List Value}, (∀ (i : Nat) (c : Value), cs[i]? = some c → ∃ z : Int, c = Value.int .u8 z ∧ 0 ≤ z ∧ z ≤ 255) → ∃ sl, cs = sl.map (Value.int .u8) ∧ okB sl
  | [], _ => ⟨[], rfl, fun x hx => by cases hx⟩
  | c :: cs, h => by
    obtain ⟨z, rfl, hz⟩ := h 0 c rfl
    obtain ⟨sl, rfl, ho⟩ := all_u8 (cs := cs) (fun i c hc => h (i + 1) c (by simpa using hc))
    exact ⟨z :: sl, rfl, fun x hx => (List.mem_cons.1 hx).elim (fun e => e ▸ hz) (ho x)⟩
theorem take1_drop {l : List Value} {i : Nat} {c : Value} (h : l[i]? = some c) : (l.drop i).take 1 = [c] := by
  obtain ⟨hi, e⟩ := List.getElem?_eq_some_iff.1 h
  rw [List.drop_eq_getElem_cons hi, e]
  rfl
set_option maxRecDepth 100000 in
theorem trod_slots {fuel : Nat} {cs : List Value} {x : DataW H × List MemPlace} (hf : DataW.trod enc Try.prog W 0 (fun _ => true) true fuel 23 cs = some x) :
    ∃ sl, cs = sl.map (Value.int .u8) ∧ sl.length = 64 ∧ okB sl := by
  obtain ⟨xs, m, -, -, hlen, hxl, hall⟩ := DataW.trod_array Try.underlying23 hf
  have h64 : cs.length = 64 := hlen.trans (by kernel_rfl)
  obtain ⟨sl, rfl, ho⟩ := all_u8 (cs := cs) (fun i c hc => by
    have hi : i < cs.length := (List.getElem?_eq_some_iff.1 hc).1
    have h := hall i (by omega)
    rw [cellsU8, Nat.mul_one] at h
    rw [take1_drop hc, List.getElem?_eq_getElem (by omega)] at h
    obtain ⟨z, e, _, w⟩ := DataW.trod_int Try.underlying5 h
    simp at e
    exact ⟨z, e, wf_u8 w⟩)
  exact ⟨sl, rfl, by simpa using h64, ho⟩
set_option maxRecDepth 100000 in
theorem open_raw (hval : Value.okWide Try.prog W .any base 27 v) (h : DataW.Trod enc Try.prog W 0 (fun _ => true) true 27 v d p) : ∃ cs b, v = .agg cs ∧ BlkIs W cs b := by
  obtain ⟨cs, rfl, hsz⟩ := okWide_struct Try.underlying27 hval
  have hsz : cs.size = 68 := hsz.trans (by kernel_rfl)
  obtain ⟨fuel, hf⟩ := h
  obtain ⟨xs, k, hk, hxe, hlen, hxl, hfl⟩ := DataW.trod_struct Try.underlying27 hf
  obtain ⟨vs⟩ := cs
  have hsz : vs.length = 68 := hsz
  match xs, hxl with
  | [y0, y1, y2, y3, y4], _ =>
    have g0 := hfl 0 _ rfl
    have g1 := hfl 1 _ rfl
    have g2 := hfl 2 _ rfl
    have g3 := hfl 3 _ rfl
    have g4 := hfl 4 _ rfl
    clear hfl hf hval
    rw [show Try.prog.cellsOf _ = 1 from by kernel_rfl] at g0 g1 g3 g4
    rw [show Try.prog.cellsOf _ = 64 from by kernel_rfl] at g2
    simp only [Value.cells, List.getElem?_cons_zero, List.getElem?_cons_succ] at g0 g1 g2 g3 g4
    match vs, hsz with
    | v0 :: v1 :: vs, hsz =>
      simp only [List.length_cons] at hsz
      have k0 : DataW.trod enc Try.prog W 0 (fun _ => true) true k 22 [v0] = some y0 := g0
      have k1 : DataW.trod enc Try.prog W 0 (fun _ => true) true k 9 [v1] = some y1 := g1
      have k2 : DataW.trod enc Try.prog W 0 (fun _ => true) true k 23 (vs.take 64) = some y2 := g2
      have k3 : DataW.trod enc Try.prog W 0 (fun _ => true) true k 24 ((vs.drop 64).take 1) = some y3 := g3
      have k4 : DataW.trod enc Try.prog W 0 (fun _ => true) true k 25 ((vs.drop 65).take 1) = some y4 := g4
      obtain ⟨x0, e0, _, w0⟩ := DataW.trod_int Try.underlying22 k0
      obtain ⟨x1, e1, _, w1⟩ := DataW.trod_string Try.underlying9 k1
      simp at e0 e1
      subst e0 e1
      obtain ⟨sl, hs, hl, ho⟩ := trod_slots k2
      obtain ⟨fv, hfv⟩ : ∃ fv, (vs.drop 64).take 1 = [fv] := by
        exact ⟨vs[64]'(by omega), take1_drop (List.getElem?_eq_getElem (by omega))⟩
      obtain ⟨av, hav⟩ : ∃ av, (vs.drop 65).take 1 = [av] := by
        exact ⟨vs[65]'(by omega), take1_drop (List.getElem?_eq_getElem (by omega))⟩
      rw [hfv] at k3
      rw [hav] at k4
      obtain ⟨fr, sF, oF, mF⟩ := trod_bytes k3
      obtain ⟨L, sA, mA, pA⟩ := trod_rts k4
      refine ⟨_, ⟨x0, x1, sl, fr, L⟩, rfl, fv, av, ?_, sF, sA, wf_u32 w0, hl, ho, oF, w1, mF, mA, pA⟩
      have e : vs = sl.map (Value.int .u8) ++ [fv, av] := by
        have h1 : vs = vs.take 64 ++ ((vs.drop 64).take 1 ++ (vs.drop 65).take 1) := by
          have h2 : vs.drop 64 = (vs.drop 64).take 1 ++ (vs.drop 64).drop 1 := (List.take_append_drop 1 _).symm
          have h3 : (vs.drop 64).drop 1 = (vs.drop 65).take 1 := by
            rw [List.drop_drop, List.take_of_length_le (by simp; omega)]
          rw [h3] at h2
          rw [← h2]
          exact (List.take_append_drop 64 vs).symm
        rw [h1, hs, hfv, hav]
        rfl
      rw [e]
      rfl
end
end Go.Proofs.Ytgodmnpcedfdcaa
