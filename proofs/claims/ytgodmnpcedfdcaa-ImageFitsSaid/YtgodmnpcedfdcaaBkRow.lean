/- Rows of attributes: what is read of them, append of one, a copy; a copy of bytes. -/
import Derived.Test.YtgodmnpcedfdcaaBkH
import Derived.Maps.AppendAt
import Derived.Lib.SliceRun
namespace Go.Proofs.Ytgodmnpcedfdcaa
open Go.RowKit Go.Lib
theorem add0 (g n : Nat) : (⟨g, 0, none⟩ : Addr).add n = ⟨g, n, none⟩ := by
  unfold Addr.add
  by_cases h : n = 0
  · subst h; rfl
  · simp [h]
theorem bcell {w W : World} {a : Addr} {v : Value} (hb : Below w.heap.size w W) (h : w.cell? a = some v) : W.cell? a = some v := bcellB hb h
abbrev encA (p : PA) : List Value := [.string p.1, .string p.2]
def zeroA : Value := .agg #[.string ⟨#[]⟩, .string ⟨#[]⟩]
theorem flat_atA : ∀ (L : List PA) (i j : Nat) (f : PA), L[i]? = some f → j < 2 → (L.flatMap encA)[i * 2 + j]? = (encA f)[j]?
  | [], i, j, f, h, _ => by simp at h
  | a :: L, 0, j, f, h, hj => by
    obtain rfl : a = f := by simpa using h
    rw [List.flatMap_cons, Nat.zero_mul, Nat.zero_add, List.getElem?_append_left (by simp; omega)]
  | a :: L, i + 1, j, f, h, hj => by
    rw [List.flatMap_cons, List.getElem?_append_right (by simp; omega)]
    have e : (i + 1) * 2 + j - (encA a).length = i * 2 + j := by simp; omega
    rw [e]
    exact flat_atA L i j f (by simpa using h) hj
theorem flat_lenA (L : List PA) : (L.flatMap encA).length = L.length * 2 := by
  induction L with
  | nil => rfl
  | cons a L ih => rw [List.flatMap_cons, List.length_append, ih]; simp; omega
theorem flat_oneA (L : List PA) : ∀ u ∈ L.flatMap encA, u.oneCell' = true := by
  intro u hu
  obtain ⟨p, _, hp⟩ := List.mem_flatMap.1 hu
  simp only [List.mem_cons, List.not_mem_nil, or_false] at hp
  rcases hp with rfl | rfl <;> rfl
abbrev RowA (E : TypeId) (w : World) (B : Nat) (v : Value) (L : List PA) : Prop := w.ownsRow B E 2 v L.length (L.flatMap encA)
theorem RowA.sees {E : TypeId} {w : World} {B : Nat} {v : Value} {L : List PA} (h : RowA E w B v L) : SeesA w v L := by
  rcases h.2 with ⟨e, h0⟩ | ⟨g, cap, cur, e, _, hb, hn, _⟩
  · have h1 : L = [] := List.eq_nil_of_length_eq_zero h0
    subst h1
    exact ⟨none, 0, e, Nat.le_refl _, (fun _ => rfl), (fun a ha => by cases ha)⟩
  · refine ⟨_, _, e, hn, (fun h => by cases h), fun a ha i f hf => ?_⟩
    cases ha
    have hc := World.ownsRow.cells h (g := g) (by rw [e]; rfl)
    have h0 := hc (i * 2 + 0) _ ((flat_atA L i 0 f hf (by omega)).trans rfl)
    have h1 := hc (i * 2 + 1) _ ((flat_atA L i 1 f hf (by omega)).trans rfl)
    rw [Addr.add_add]
    exact ⟨h0, h1⟩
theorem SeesA.nil (w : World) : SeesA w (.slice none 0 0) [] := ⟨none, 0, rfl, Nat.le_refl _, fun _ => rfl, fun _ h => by cases h⟩
theorem row_leA {E : TypeId} {w : World} {B B' : Nat} {v : Value} {L : List PA} (h : RowA E w B v L) (hb : B' ≤ B) : RowA E w B' v L := ⟨h.1, h.2.imp id fun ⟨g, cap, cur, e, b, r⟩ => ⟨g, cap, cur, e, Nat.le_trans hb b, r⟩⟩
theorem row_keepA {E : TypeId} {w w' : World} {B : Nat} {v : Value} {L : List PA} (h : RowA E w B v L) (hb : Below w.heap.size w w') : RowA E w' B v L :=
  ⟨h.1, h.2.imp id fun ⟨g, cap, cur, e, b, hg, r⟩ => ⟨g, cap, cur, e, b, (hb.block g (heap_lt hg)).trans hg, r⟩⟩
theorem infoA : (Try.prog.info? 45).map (fun i => (i.zero, i.size, i.bytes)) = some (some zeroA, 2, 32) := by kernel_rfl
theorem infoRA : (Try.prog.info? 29).map (fun i => (i.zero, i.size, i.bytes)) = some (some zeroA, 2, 32) := by kernel_rfl
theorem acells {w : World} {g : Nat} {x y : Value} {t : TypeId} {fr : Nat × Nat} (h : w.heap[g]? = some (.cells #[x, y] t fr)) : w.cell? ⟨g, 0, none⟩ = some x ∧ w.cell? ⟨g, 1, none⟩ = some y := by simp [World.cell?, h]
theorem ofsA1 {w : World} {a : Addr} {i : Nat} {v : Value} (h : w.cell? ((a.add i).add 1) = some v) : w.cell? { block := (a.add i).block, off := (a.add i).off + 1 } = some v := by
  have e : ({ block := (a.add i).block, off := (a.add i).off + 1 } : Addr) = (a.add i).add 1 := by
    unfold Addr.add
    simp
  rw [e]; exact h
abbrev cntA (p : PA) (t : TypeId) : Obj := .cells #[.string p.1, .string p.2] t
/-- append of one count to a row of the call's own. -/
theorem wpList_pushA {T E : TypeId} (hTE : Try.prog.underlying T = some (.slice E)) (hI : (Try.prog.info? E).map (fun i => (i.zero, i.size, i.bytes)) = some (some zeroA, 2, 32)) {w0 : World} {ops : Array Oper} {rest : List Oper} {o : Oper} {a : Act} {Q : Exit → Act → World → Prop} (hgd : o.guard = none) (s x : Operand)
    (ho : o.op = .call { callee := .builtin .append, args := #[s, x], argTypes := #[T, T] }) (B : Nat) (v : Value) (L : List PA) (u : PA)
    (k : Nat) (hk : k = w0.heap.size) (hs : a.eval s = v) (hx : a.eval x = .slice (some ⟨k, 0, none⟩) 1 1) (hrow : RowA E w0 B v L) (hlen : L.length ≤ 1000001) (hB : B ≤ w0.heap.size)
    (h : ∀ v' w', RowA E w' B v' (L ++ [u]) → Below B w0 w' → w0.grownBy w' v.ownBlock → wpList Try.prog ops Q rest (a.put o.dst v') w') :
    wpList Try.prog ops Q (o :: rest) a (w0.alloc (cntA u E)) := by
  subst hk
  obtain ⟨i0, hi, hz0, hz1, hz2⟩ := info_parts hI
  have hbk : (w0.alloc (cntA u E)).heap[w0.heap.size]? = some (cntA u E) := heap_alloc_new w0 _
  refine wpList_append_own _ hgd s x T ho B E i0 zeroA 2 32 hTE hi hz0 hz1 hz2 rfl (by decide) v _ _ hs (hrow.alloc _) ⟨w0.heap.size, 0, none⟩ 1 1 [.string u.1, .string u.2] hx rfl (fun j y hj => ?_) ?_ (by unfold maxLen; omega) (by omega) (by simp; omega) ?_
  · rw [add0]
    rcases j with _ | _ | j
    · obtain rfl : Value.string u.1 = y := by simpa using hj
      exact (acells hbk).1
    · obtain rfl : Value.string u.2 = y := by simpa using hj
      exact (acells hbk).2
    · simp at hj
  · intro y hy
    simp only [List.mem_cons, List.not_mem_nil, or_false] at hy
    rcases hy with rfl | rfl <;> rfl
  · intro v' w' hown' hgrow _
    have hg0 : w0.grownBy w' v.ownBlock := World.grownBy.trans (b := w0.alloc (cntA u E)) ⟨rfl, rfl, rfl, by simp, fun k hk _ => Below.heap_alloc w0 _ k hk⟩ hgrow
    refine h v' w' ?_ ((Below.refl B w0).grown hg0 hB (fun k hk => (hrow.lt k hk).1)) hg0
    have e1 : (L ++ [u]).length = L.length + 1 := by simp
    have e2 : (L ++ [u]).flatMap encA = L.flatMap encA ++ [.string u.1, .string u.2] := by simp [List.flatMap_append]
    show w'.ownsRow _ _ _ _ _ _
    rw [e1, e2]
    exact hown'
theorem heap_new (w : World) (o : Obj) : (w.alloc o).heap[w.heap.size]? = some o := by
  show (w.heap.push o)[w.heap.size]? = some o
  simp
def atA (L : List PA) (k : Nat) : PA := L.getD k (⟨#[]⟩, ⟨#[]⟩)
theorem atA_get {L : (List PA)} {k : Nat} (h : k < L.length) : L[k]? = some (atA L k) := by
  unfold atA
  rw [List.getD_eq_getElem?_getD, List.getElem?_eq_getElem h]; rfl
abbrev EAt : TypeId := 45
abbrev TAt : TypeId := 30
theorem flat_appA (L M : (List PA)) : (L ++ M).flatMap encA = L.flatMap encA ++ M.flatMap encA := by simp [List.flatMap_append]
theorem sees_flatA {w : World} {a : Addr} {n c : Nat} {L : (List PA)} (h : SeesA w (.slice (some a) n c) L) : ∀ j u, (L.flatMap encA)[j]? = some u → w.cell? (a.add j) = some u := by
  obtain ⟨ao, c', e, _, _, hc⟩ := h
  obtain ⟨rfl, _, _⟩ : ao = some a ∧ n = L.length ∧ c = c' := by cases e; exact ⟨rfl, rfl, rfl⟩
  intro j u hj
  have hl : j < L.length * 2 := by
    have := (List.getElem?_eq_some_iff.1 hj).1
    rwa [flat_lenA] at this
  have hi : j / 2 < L.length := by omega
  obtain ⟨q0, q1⟩ := hc a rfl (j / 2) _ (atA_get hi)
  rw [Addr.add_add] at q1
  have h2 : j % 2 = 0 ∨ j % 2 = 1 := by omega
  have e0 := flat_atA L (j / 2) (j % 2) _ (atA_get hi) (by omega)
  rw [show j / 2 * 2 + j % 2 = j from by omega, hj] at e0
  rcases h2 with h2 | h2
  · rw [h2] at e0
    rw [show j / 2 * 2 = j from by omega] at q0
    rw [q0, e0]; rfl
  · rw [h2] at e0
    rw [show j / 2 * 2 + 1 = j from by omega] at q1
    rw [q1, e0]; rfl
theorem row_partsA {B : Nat} {t : TypeId} {w : World} {v : Value} {L : (List PA)} (h : RowA t w B v L) (hL : L ≠ []) : ∃ g cap cur, v = .slice (some ⟨g, 0, none⟩) L.length cap ∧ B ≤ g ∧ w.heap[g]? = some (.cells cur t (0, 0)) ∧ L.length ≤ cap ∧ cap ≤ maxLen ∧ cur.size = cap * 2 ∧
    ∀ j u, (L.flatMap encA)[j]? = some u → w.cell? ⟨g, j, none⟩ = some u := by
  have hc := fun (g : Nat) (hg : v.ownBlock = some g) => World.ownsRow.cells h (g := g) hg
  obtain ⟨_, ⟨_, h0⟩ | ⟨g, cap, cur, e, hb, hg, hn, hm, hs, _⟩⟩ := h
  · exact absurd (List.eq_nil_of_length_eq_zero h0) hL
  · refine ⟨g, cap, cur, e, hb, hg, hn, hm, hs, fun j u hj => ?_⟩
    have := hc g (by rw [e]; rfl) j u hj
    rwa [add0] at this
theorem cloneA_any (v : Value) (L : (List PA)) (w : World) (h : SeesA w v L) (hl : L.length ≤ 1000000) :
    Calls Try.prog 92 #[v] w fun e w' => ∃ v', e = .returned v' ∧ RowA EAt w' w.heap.size v' L ∧ Below w.heap.size w w' := by
  obtain ⟨ao, c, rfl, hlc, hnil, hc⟩ := id h
  cases ao with
  | none =>
    obtain rfl : L = [] := hnil rfl
    have hq : ∀ w, (binOp .eql TAt (.slice none 0 c) (.slice none 0 0)).run Try.prog w = .ok (.bool true) w := fun w => run_eql_slice_nil w TAt EAt none 0 c 0 0 Try.underlying30
    clear h hc hnil
    go_enter Try.func92, Try.ntmps92
    go_wp2_with fail
    go_ret
    exact ⟨_, rfl, World.ownsRow_nil _ _ _ _, Below.refl _ _⟩
  | some a =>
    obtain ⟨i0, hi, hz0, hz1, hz2⟩ := info_parts infoA
    have HO : Hid ((w.alloc (.cells #[] EAt)).ownsRow w.heap.size EAt 2 (.slice (some ⟨w.heap.size, 0, none⟩) 0 0) 0 []) := Lib.hid (World.ownsRow_lit (base := w.heap.size) (e := EAt) (size := 2) w #[] 0 (Nat.le_refl _) (by unfold maxLen; omega) rfl)
    have HS := Lib.hid (sees_flatA (h.below (belNew w (.cells #[] EAt))))
    have hq : ∀ w, (binOp .eql TAt (.slice (some a) L.length c) (.slice none 0 0)).run Try.prog w = .ok (.bool false) w := fun w => run_eql_slice_nil w TAt EAt (some a) L.length c 0 0 Try.underlying30
    clear h hc hnil
    go_enter Try.func92, Try.ntmps92
    go_wp2_with (at_builtin; refine wpList_append_own _ rfl _ _ TAt rfl w.heap.size EAt i0 zeroA 2 32 Try.underlying30 hi hz0 hz1 hz2 rfl (by decide) (.slice (some ⟨w.heap.size, 0, none⟩) 0 0) 0 [] rfl HO.out a L.length c (L.flatMap encA) rfl (flat_lenA L) HS.out (flat_oneA L) (by unfold maxLen; omega) (by omega) (belNew w _).size ?_; intro v' w' ho hg hn)
    go_ret
    refine ⟨_, rfl, ?_, (belNew w _).grown hg (belNew w _).size (fun j hj => by cases hj; exact Nat.le_refl _)⟩
    have ho2 : RowA EAt w' w.heap.size v' L := by
      have := ho
      rw [Nat.zero_add, List.nil_append] at this
      exact this
    exact ho2
theorem cloneU_any (v : Value) (xs : List Int) (w : World) (h : Sees w v xs) (hl : xs.length ≤ 1000000) :
    Calls Try.prog 91 #[v] w fun e w' => ∃ v', e = .returned v' ∧ Owns w' w.heap.size v' xs ∧ Below w.heap.size w w' := by
  obtain ⟨ao, c, rfl, hlc, hnil, hc⟩ := id h
  cases ao with
  | none =>
    obtain rfl : xs = [] := hnil rfl
    have hq : ∀ w, (binOp .eql 24 (.slice none 0 c) (.slice none 0 0)).run Try.prog w = .ok (.bool true) w := fun w => run_eql_slice_nil w 24 5 none 0 c 0 0 Try.underlying24
    clear h hc hnil
    go_enter Try.func91, Try.ntmps91
    go_wp2_with fail
    go_ret
    exact ⟨_, rfl, World.ownsRow_nil _ _ _ _, Below.refl _ _⟩
  | some a =>
    obtain ⟨i0, hi, hz0, hz1, hz2⟩ := info_parts info8
    have HO : Hid ((w.alloc (.cells #[] 5)).ownsRow w.heap.size 5 1 (.slice (some ⟨w.heap.size, 0, none⟩) 0 0) 0 []) := Lib.hid (World.ownsRow_lit (base := w.heap.size) (e := 5) (size := 1) w #[] 0 (Nat.le_refl _) (by unfold maxLen; omega) rfl)
    have HS : Hid (∀ j u, (cells8 xs)[j]? = some u → (w.alloc (.cells #[] 5)).cell? (a.add j) = some u) := Lib.hid (fun j u hj => by
      obtain ⟨ao', c', e', _, _, hc'⟩ := h.keep (belNew w (.cells #[] 5))
      obtain rfl : ao' = some a := by cases e'; rfl
      have hjl : j < xs.length := by
        have := (List.getElem?_eq_some_iff.1 hj).1
        simpa using this
      rw [getD_cells hjl] at hj
      rw [← hj]
      exact hc' a rfl j hjl)
    have hq : ∀ w, (binOp .eql 24 (.slice (some a) xs.length c) (.slice none 0 0)).run Try.prog w = .ok (.bool false) w := fun w => run_eql_slice_nil w 24 5 (some a) xs.length c 0 0 Try.underlying24
    clear h hc hnil
    go_enter Try.func91, Try.ntmps91
    go_wp2_with (at_builtin; refine wpList_append_own _ rfl _ _ 24 rfl w.heap.size 5 i0 (.int .u8 0) 1 1 Try.underlying24 hi hz0 hz1 hz2 rfl (by decide) (.slice (some ⟨w.heap.size, 0, none⟩) 0 0) 0 [] rfl HO.out a xs.length c (cells8 xs) rfl (by simp) HS.out (fun u hu => by obtain ⟨z, _, rfl⟩ := List.mem_map.1 hu; rfl) (by unfold maxLen; omega) (by omega) (belNew w _).size ?_; intro v' w' ho hg hn)
    go_ret
    refine ⟨_, rfl, ?_, (belNew w _).grown hg (belNew w _).size (fun j hj => by cases hj; exact Nat.le_refl _)⟩
    have ho2 : Owns w' w.heap.size v' xs := by
      have := ho
      rw [Nat.zero_add, List.nil_append] at this
      exact this
    exact ho2
end Go.Proofs.Ytgodmnpcedfdcaa
