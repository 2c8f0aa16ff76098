/- Package disk: Names, first. -/
import Derived.Test.YtkjdfelmjanpcaaDoorDkSync
namespace Go.Proofs.YtkjdfelmjanpcaaDoor
open Go.RowKit Go.Maps Go.Sort Go.Shelf
/-- A value that reads as a row of texts. -/
def SeesT (w : World) (v : Value) (ks : List (List UInt8)) : Prop :=
  ∃ (ao : Option Addr) (c : Nat), v = .slice ao ks.length c ∧ ks.length ≤ c ∧ (ao = none → ks = []) ∧ ∀ a, ao = some a → ∀ i, i < ks.length → w.cell? (a.add i) = some (encStr (ks.getD i []))
theorem SeesT.of_row {w : World} {B : Nat} {v : Value} {ks : List (List UInt8)} (h : w.ownsRow B 9 1 v ks.length (ks.map encStr)) : SeesT w v ks := by
  have hc := fun g hg => World.ownsRow.cells h (g := g) hg
  obtain ⟨_, ⟨rfl, hn⟩ | ⟨g, cap, cur, rfl, _, _, hnc, _, _, _⟩⟩ := h
  · obtain rfl := List.eq_nil_of_length_eq_zero hn
    exact ⟨none, 0, rfl, Nat.le_refl _, fun _ => rfl, fun a ha => by cases ha⟩
  · exact ⟨some ⟨g, 0, none⟩, cap, rfl, hnc, (fun e => by cases e), fun a ha i hi => (by
      cases ha
      exact hc g rfl i _ (by rw [List.getElem?_map, List.getElem?_eq_getElem hi]; simp [List.getD, List.getElem?_eq_getElem hi]))⟩
theorem keys_all2 {w : World} {P : Nat → Prop} : ∀ {es : List Ent} {fs : List FEnt}, All2 (FileOk w P) es fs → es.map (·.1) = fs.map (·.1)
  | [], [], _ => rfl
  | a :: es, b :: fs, ⟨h1, h2⟩ => by rw [List.map_cons, List.map_cons, h1.1, keys_all2 h2]
set_option maxRecDepth 100000 in
set_option maxHeartbeats 2000000 in
theorem names_any (g : Nat) (P : Nat → Prop) (D : DSt) (w : World) (h : DiskAt w g P D) (hn : D.fs.length ≤ 1000000) :
    Calls Tryd.prog 38 #[ptr g] w fun e w' => ∃ v, e = .returned v ∧ SeesT w' v (D.fs.map (·.1)) ∧ Below w.heap.size w w' ∧ ∀ d, v.ownBlock = some d → w.heap.size ≤ d := by
  obtain ⟨mb, es, h, h2, h3, h4, h5, h6, h7, h8, h9⟩ := h
  have hk := keys_all2 h4
  have hlen : es.length ≤ 1000000 := by rw [All2.len h4]; exact hn
  have q := eqNilD
  obtain ⟨c0, -⟩ := dcells h.1
  cases mb with
  | some b =>
    have hM := h.2.1 b rfl
    have hmax : Maps.size (datum es) ≤ maxLen := by rw [size_datum]; unfold maxLen; omega
    have hbytes : Maps.size (datum es) * 16 ≤ 140737488355328 := by rw [size_datum]; omega
    have HK := Lib.hid (And.intro hk (And.intro h6 (And.intro hmax hbytes)))
    have HM := Lib.hid hM
    clear h h4 hk hmax hbytes hM h7 h3 h2
    refine (callsIn_wide (n := 6)).1 ?_
    have hfK : Fence.wide.fn 76 := trivial
    have hfS : Fence.wide.fn 75 := trivial
    refine callsIn_of_wp Tryd.func38 rfl trivial ?_ rfl
    simp only [Tryd.ntmps38, List.size_toArray, List.length_cons, List.length_nil, Nat.reduceAdd, Nat.reduceSub, Array.replicate_succ, Array.replicate_zero, List.push_toArray, List.append_toArray, List.nil_append, List.cons_append]
    gi_wp2_with (first
      | (gi_at_call 76; refine (Tryd.maps_Keys_76 _ _).mono ?_; rintro e w' ⟨rfl, rfl⟩)
      | (gi_at_call 75; refine (Tryd.slices_Sorted_keys_75_76 b es.length (datum es) Rv w HM.out HK.out.2.2.1 HK.out.2.2.2).mono ?_; rintro e w' ⟨v, ss, rfl, hS, hrow, hnil, hb⟩))
    go_ret
    obtain ⟨hk, h6, -, -⟩ := HK.out
    have e1 := sorted_keys h6 hS
    rw [hk] at e1
    have hl : ss.length = (D.fs.map (·.1)).length := by rw [← e1]; exact (List.length_mergeSort ss).symm
    rw [e1, hl] at hrow
    refine ⟨v, rfl, SeesT.of_row hrow, ((Below.refl _ w).alloc (Nat.le_refl _) _).trans (hb.mono (by simp)), fun d hd => ?_⟩
    have := (World.ownsRow.lt hrow d hd).1
    simp at this
    omega
  | none =>
    have hE := h.2.2.1 rfl
    subst hE
    have hk0 : D.fs.map (·.1) = [] := hk.symm
    rw [hk0]
    clear h h4 hk h7 h3 h2 hk0
    refine (callsIn_wide (n := 6)).1 ?_
    have hfK : Fence.wide.fn 76 := trivial
    have hfS : Fence.wide.fn 75 := trivial
    refine callsIn_of_wp Tryd.func38 rfl trivial ?_ rfl
    simp only [Tryd.ntmps38, List.size_toArray, List.length_cons, List.length_nil, Nat.reduceAdd, Nat.reduceSub, Array.replicate_succ, Array.replicate_zero, List.push_toArray, List.append_toArray, List.nil_append, List.cons_append]
    gi_wp2_with (first
      | (gi_at_call 76; refine (Tryd.maps_Keys_76 _ _).mono ?_; rintro e w' ⟨rfl, rfl⟩)
      | (gi_at_call 75; refine (Tryd.slices_Sorted_keys_nil_75_76 w).mono ?_; rintro e w' ⟨v, ss, rfl, hS, hrow, hnil, hb⟩))
    go_ret
    refine ⟨.slice none 0 0, by rw [hnil.2 hS]; rfl, ⟨none, 0, rfl, Nat.le_refl _, fun _ => rfl, fun a ha => by cases ha⟩, ((Below.refl _ w).alloc (Nat.le_refl _) _).trans (hb.mono (by simp)), fun d hd => by cases hd⟩
theorem names_nil (w : World) : Calls Tryd.prog 38 #[.pointer none] w fun e w' => e = .returned (.slice none 0 0) ∧ w = w' := by
  have q := eqNilD
  go_enter Tryd.func38, Tryd.ntmps38
  go_wp2
  go_ret
  exact ⟨rfl, rfl⟩
set_option maxHeartbeats 1000000 in
theorem first_any (sv : Value) (su n : Nat) (xs : List Int) (w : World) (h : Sees w sv xs) (hn : n ≤ xs.length) (hl : xs.length ≤ 100000000000) :
    Calls Tryd.prog 52 #[.agg #[sv, .int .i64 (su : Nat)], .int .i64 (n : Nat)] w fun e w' => ∃ v, e = .returned (.agg #[v, .int .i64 (n : Nat)]) ∧ Owns w' w.heap.size v (xs.take n) ∧ Below w.heap.size w w' := by
  obtain ⟨ao, c, rfl, hlc, hnil, hc⟩ := h
  have hs : Sees w (.slice ao xs.length c) xs := ⟨ao, c, rfl, hlc, hnil, hc⟩
  have e0 : (xs.take n).length = n := by rw [List.length_take]; omega
  have hh : Sees w (.slice ao n c) (xs.take n) := by
    refine ⟨ao, c, by rw [e0], by omega, fun h => by rw [hnil h]; exact List.take_nil, fun a ha i hi => ?_⟩
    rw [e0] at hi
    rw [hc a ha i (by omega)]
    simp only [List.getD, List.getElem?_take, if_pos hi]
  have hb1 := belAlloc (belNew w (.cells #[.slice ao xs.length c, .int .i64 (su : Nat)] 85)) (.cells #[.slice none 0 0, .int .i64 0] 85)
  have HC := Lib.hid (clone_any _ (xs.take n) _ (hh.keep hb1) (by rw [e0]; omega))
  have HB := Lib.hid hb1
  have n1 : n ≤ c := by omega
  clear hs hh hc e0 hb1
  go_enter Tryd.func52, Tryd.ntmps52
  go_wp2_with fail
  refine HC.out.mono ?_; rintro e w1 ⟨v, rfl, ho, hb⟩
  obtain ⟨a2, c2, rfl, -⟩ := id ho.sees
  have hl2 : (xs.take n).length = n := by rw [List.length_take]; omega
  rw [hl2] at ho ⊢
  have hbk : w1.heap[w.heap.size + 1]? = some (.cells #[.slice none 0 0, .int .i64 0] 85 (0, 0)) := (hb.block (w.heap.size + 1) (by simp)).trans (by
    have := heap_alloc_new (w.alloc (.cells #[.slice ao xs.length c, .int .i64 (su : Nat)] 85)) (.cells #[.slice none 0 0, .int .i64 0] 85)
    simpa using this)
  have k0 : w1.cell? ⟨w.heap.size + 1, 0, none⟩ = some (.slice none 0 0) := by simp [World.cell?, hbk]
  have k1 : w1.cell? ⟨w.heap.size + 1, 1, none⟩ = some (.int .i64 0) := by simp [World.cell?, hbk]
  have f0 : w1.frozen? ⟨w.heap.size + 1, 0, none⟩ = false := by simp [World.frozen?, hbk]
  have f1 : w1.frozen? ⟨w.heap.size + 1, 1, none⟩ = false := by simp [World.frozen?, hbk]
  have HO := Lib.hid ho
  have HK := Lib.hid hbk
  clear ho hbk hl2
  go_wp2_with fail
  have hbk := HK.out
  have hs1 := dset hbk 0 (.slice a2 n c2)
  have hs2 := dset hs1 1 (.int .i64 (n : Nat))
  refine bodyPost_ret (v := .agg #[.slice a2 n c2, .int .i64 (n : Nat)]) (by simp [results, Tryd.results52, go_sem, World.cell?, hs2]) rfl ⟨_, rfl, ?_, ?_⟩
  · have hne : (Value.slice a2 n c2).ownBlock = none ∨ (Value.slice a2 n c2).ownBlock ≠ some (w.heap.size + 1) := by
      cases hv : (Value.slice a2 n c2).ownBlock with
      | none => exact Or.inl rfl
      | some d =>
        refine Or.inr (fun e => ?_)
        have h1 := (World.ownsRow.lt HO.out d hv).1
        have h2 := Option.some.inj e
        simp at h1
        omega
    have h1 := World.ownsRow.kept HO.out (grown_set w1 (w.heap.size + 1) 0 (.slice a2 n c2)) hne
    have h2 := World.ownsRow.kept h1 (grown_set _ (w.heap.size + 1) 1 (.int .i64 (n : Nat))) hne
    exact Owns.le h2 (by simp; omega)
  · exact ((bel HB.out hb).setCell (p := ⟨w.heap.size + 1, 0, none⟩) (by simp) _).setCell (p := ⟨w.heap.size + 1, 1, none⟩) (by simp) _
end Go.Proofs.YtkjdfelmjanpcaaDoor
