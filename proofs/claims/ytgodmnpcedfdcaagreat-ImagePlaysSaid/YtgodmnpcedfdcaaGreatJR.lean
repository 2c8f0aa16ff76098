/- Joined: BkRow BkI BkJ. -/
import Derived.Test.YtgodmnpcedfdcaaGreatBkH
import Derived.Maps.AppendAt
import Derived.Lib.SliceRun
namespace Go.Proofs.YtgodmnpcedfdcaaGreat
section
open Go.RowKit Go.Lib
theorem add0 (g n : Nat) : (⟨g, 0, none⟩ : Addr).add n = ⟨g, n, none⟩ := by
  unfold Addr.add
  by_cases h : n = 0
  · subst h; rfl
  · simp [h]
theorem bcell {w W : World} {a : Addr} {v : Value} (hb : Below w.heap.size w W) (h : w.cell? a = some v) : W.cell? a = some v := bcellB hb h
abbrev encA (p : PA) : List Value := [.string p.1, .string p.2]
def zeroA : Value := .agg #[.string ⟨#[]⟩, .string ⟨#[]⟩]
theorem flat_atA : ∀ (L : List PA) (i j : Nat) (f : PA), L[i]? = some f → j < 2 → (L.flatMap encA)[i * 2 + j]? = (encA f)[j]?
  | [], i, j, f, h, _ => by simp at h
  | a :: L, 0, j, f, h, hj => by
    obtain rfl : a = f := by simpa using h
    rw [List.flatMap_cons, Nat.zero_mul, Nat.zero_add, List.getElem?_append_left (by simp; omega)]
  | a :: L, i + 1, j, f, h, hj => by
    rw [List.flatMap_cons, List.getElem?_append_right (by simp; omega)]
    have e : (i + 1) * 2 + j - (encA a).length = i * 2 + j := by simp; omega
    rw [e]
    exact flat_atA L i j f (by simpa using h) hj
theorem flat_lenA (L : List PA) : (L.flatMap encA).length = L.length * 2 := by
  induction L with
  | nil => rfl
  | cons a L ih => rw [List.flatMap_cons, List.length_append, ih]; simp; omega
theorem flat_oneA (L : List PA) : ∀ u ∈ L.flatMap encA, u.oneCell' = true := by
  intro u hu
  obtain ⟨p, _, hp⟩ := List.mem_flatMap.1 hu
  simp only [List.mem_cons, List.not_mem_nil, or_false] at hp
  rcases hp with rfl | rfl <;> rfl
abbrev RowA (E : TypeId) (w : World) (B : Nat) (v : Value) (L : List PA) : Prop := w.ownsRow B E 2 v L.length (L.flatMap encA)
theorem RowA.sees {E : TypeId} {w : World} {B : Nat} {v : Value} {L : List PA} (h : RowA E w B v L) : SeesA w v L := by
  rcases h.2 with ⟨e, h0⟩ | ⟨g, cap, cur, e, _, hb, hn, _⟩
  · have h1 : L = [] := List.eq_nil_of_length_eq_zero h0
    subst h1
    exact ⟨none, 0, e, Nat.le_refl _, (fun _ => rfl), (fun a ha => by cases ha)⟩
  · refine ⟨_, _, e, hn, (fun h => by cases h), fun a ha i f hf => ?_⟩
    cases ha
    have hc := World.ownsRow.cells h (g := g) (by rw [e]; rfl)
    have h0 := hc (i * 2 + 0) _ ((flat_atA L i 0 f hf (by omega)).trans rfl)
    have h1 := hc (i * 2 + 1) _ ((flat_atA L i 1 f hf (by omega)).trans rfl)
    rw [Addr.add_add]
    exact ⟨h0, h1⟩
theorem SeesA.nil (w : World) : SeesA w (.slice none 0 0) [] := ⟨none, 0, rfl, Nat.le_refl _, fun _ => rfl, fun _ h => by cases h⟩
theorem row_leA {E : TypeId} {w : World} {B B' : Nat} {v : Value} {L : List PA} (h : RowA E w B v L) (hb : B' ≤ B) : RowA E w B' v L := ⟨h.1, h.2.imp id fun ⟨g, cap, cur, e, b, r⟩ => ⟨g, cap, cur, e, Nat.le_trans hb b, r⟩⟩
theorem row_keepA {E : TypeId} {w w' : World} {B : Nat} {v : Value} {L : List PA} (h : RowA E w B v L) (hb : Below w.heap.size w w') : RowA E w' B v L :=
  ⟨h.1, h.2.imp id fun ⟨g, cap, cur, e, b, hg, r⟩ => ⟨g, cap, cur, e, b, (hb.block g (heap_lt hg)).trans hg, r⟩⟩
theorem infoA : (Tryz.prog.info? 55).map (fun i => (i.zero, i.size, i.bytes)) = some (some zeroA, 2, 32) := by kernel_rfl
theorem infoRA : (Tryz.prog.info? 38).map (fun i => (i.zero, i.size, i.bytes)) = some (some zeroA, 2, 32) := by kernel_rfl
theorem acells {w : World} {g : Nat} {x y : Value} {t : TypeId} {fr : Nat × Nat} (h : w.heap[g]? = some (.cells #[x, y] t fr)) : w.cell? ⟨g, 0, none⟩ = some x ∧ w.cell? ⟨g, 1, none⟩ = some y := by simp [World.cell?, h]
theorem ofsA1 {w : World} {a : Addr} {i : Nat} {v : Value} (h : w.cell? ((a.add i).add 1) = some v) : w.cell? { block := (a.add i).block, off := (a.add i).off + 1 } = some v := by
  have e : ({ block := (a.add i).block, off := (a.add i).off + 1 } : Addr) = (a.add i).add 1 := by
    unfold Addr.add
    simp
  rw [e]; exact h
abbrev cntA (p : PA) (t : TypeId) : Obj := .cells #[.string p.1, .string p.2] t
/-- append of one count to a row of the call's own. -/
theorem wpList_pushA {T E : TypeId} (hTE : Tryz.prog.underlying T = some (.slice E)) (hI : (Tryz.prog.info? E).map (fun i => (i.zero, i.size, i.bytes)) = some (some zeroA, 2, 32)) {w0 : World} {ops : Array Oper} {rest : List Oper} {o : Oper} {a : Act} {Q : Exit → Act → World → Prop} (hgd : o.guard = none) (s x : Operand)
    (ho : o.op = .call { callee := .builtin .append, args := #[s, x], argTypes := #[T, T] }) (B : Nat) (v : Value) (L : List PA) (u : PA)
    (k : Nat) (hk : k = w0.heap.size) (hs : a.eval s = v) (hx : a.eval x = .slice (some ⟨k, 0, none⟩) 1 1) (hrow : RowA E w0 B v L) (hlen : L.length ≤ 1000001) (hB : B ≤ w0.heap.size)
    (h : ∀ v' w', RowA E w' B v' (L ++ [u]) → Below B w0 w' → w0.grownBy w' v.ownBlock → wpList Tryz.prog ops Q rest (a.put o.dst v') w') :
    wpList Tryz.prog ops Q (o :: rest) a (w0.alloc (cntA u E)) := by
  subst hk
  obtain ⟨i0, hi, hz0, hz1, hz2⟩ := info_parts hI
  have hbk : (w0.alloc (cntA u E)).heap[w0.heap.size]? = some (cntA u E) := heap_alloc_new w0 _
  refine wpList_append_own _ hgd s x T ho B E i0 zeroA 2 32 hTE hi hz0 hz1 hz2 rfl (by decide) v _ _ hs (hrow.alloc _) ⟨w0.heap.size, 0, none⟩ 1 1 [.string u.1, .string u.2] hx rfl (fun j y hj => ?_) ?_ (by unfold maxLen; omega) (by omega) (by simp; omega) ?_
  · rw [add0]
    rcases j with _ | _ | j
    · obtain rfl : Value.string u.1 = y := by simpa using hj
      exact (acells hbk).1
    · obtain rfl : Value.string u.2 = y := by simpa using hj
      exact (acells hbk).2
    · simp at hj
  · intro y hy
    simp only [List.mem_cons, List.not_mem_nil, or_false] at hy
    rcases hy with rfl | rfl <;> rfl
  · intro v' w' hown' hgrow _
    have hg0 : w0.grownBy w' v.ownBlock := World.grownBy.trans (b := w0.alloc (cntA u E)) ⟨rfl, rfl, rfl, by simp, fun k hk _ => Below.heap_alloc w0 _ k hk⟩ hgrow
    refine h v' w' ?_ ((Below.refl B w0).grown hg0 hB (fun k hk => (hrow.lt k hk).1)) hg0
    have e1 : (L ++ [u]).length = L.length + 1 := by simp
    have e2 : (L ++ [u]).flatMap encA = L.flatMap encA ++ [.string u.1, .string u.2] := by simp [List.flatMap_append]
    show w'.ownsRow _ _ _ _ _ _
    rw [e1, e2]
    exact hown'
theorem heap_new (w : World) (o : Obj) : (w.alloc o).heap[w.heap.size]? = some o := by
  show (w.heap.push o)[w.heap.size]? = some o
  simp
def atA (L : List PA) (k : Nat) : PA := L.getD k (⟨#[]⟩, ⟨#[]⟩)
theorem atA_get {L : (List PA)} {k : Nat} (h : k < L.length) : L[k]? = some (atA L k) := by
  unfold atA
  rw [List.getD_eq_getElem?_getD, List.getElem?_eq_getElem h]; rfl
abbrev EAt : TypeId := 55
abbrev TAt : TypeId := 26
theorem sees_flatA {w : World} {a : Addr} {n c : Nat} {L : (List PA)} (h : SeesA w (.slice (some a) n c) L) : ∀ j u, (L.flatMap encA)[j]? = some u → w.cell? (a.add j) = some u := by
  obtain ⟨ao, c', e, _, _, hc⟩ := h
  obtain ⟨rfl, _, _⟩ : ao = some a ∧ n = L.length ∧ c = c' := by cases e; exact ⟨rfl, rfl, rfl⟩
  intro j u hj
  have hl : j < L.length * 2 := by
    have := (List.getElem?_eq_some_iff.1 hj).1
    rwa [flat_lenA] at this
  have hi : j / 2 < L.length := by omega
  obtain ⟨q0, q1⟩ := hc a rfl (j / 2) _ (atA_get hi)
  rw [Addr.add_add] at q1
  have h2 : j % 2 = 0 ∨ j % 2 = 1 := by omega
  have e0 := flat_atA L (j / 2) (j % 2) _ (atA_get hi) (by omega)
  rw [show j / 2 * 2 + j % 2 = j from by omega, hj] at e0
  rcases h2 with h2 | h2
  · rw [h2] at e0
    rw [show j / 2 * 2 = j from by omega] at q0
    rw [q0, e0]; rfl
  · rw [h2] at e0
    rw [show j / 2 * 2 + 1 = j from by omega] at q1
    rw [q1, e0]; rfl
theorem cloneA_any (v : Value) (L : (List PA)) (w : World) (h : SeesA w v L) (hl : L.length ≤ 1000000) :
    Calls Tryz.prog 87 #[v] w fun e w' => ∃ v', e = .returned v' ∧ RowA EAt w' w.heap.size v' L ∧ Below w.heap.size w w' := by
  obtain ⟨ao, c, rfl, hlc, hnil, hc⟩ := id h
  cases ao with
  | none =>
    obtain rfl : L = [] := hnil rfl
    have hq : ∀ w, (binOp .eql TAt (.slice none 0 c) (.slice none 0 0)).run Tryz.prog w = .ok (.bool true) w := fun w => run_eql_slice_nil w TAt EAt none 0 c 0 0 Tryz.underlying26
    clear h hc hnil
    go_enter Tryz.func87, Tryz.ntmps87
    go_wp2_with fail
    go_ret
    exact ⟨_, rfl, World.ownsRow_nil _ _ _ _, Below.refl _ _⟩
  | some a =>
    obtain ⟨i0, hi, hz0, hz1, hz2⟩ := info_parts infoA
    have HO : Hid ((w.alloc (.cells #[] EAt)).ownsRow w.heap.size EAt 2 (.slice (some ⟨w.heap.size, 0, none⟩) 0 0) 0 []) := Lib.hid (World.ownsRow_lit (base := w.heap.size) (e := EAt) (size := 2) w #[] 0 (Nat.le_refl _) (by unfold maxLen; omega) rfl)
    have HS := Lib.hid (sees_flatA (h.below (belNew w (.cells #[] EAt))))
    have hq : ∀ w, (binOp .eql TAt (.slice (some a) L.length c) (.slice none 0 0)).run Tryz.prog w = .ok (.bool false) w := fun w => run_eql_slice_nil w TAt EAt (some a) L.length c 0 0 Tryz.underlying26
    clear h hc hnil
    go_enter Tryz.func87, Tryz.ntmps87
    go_wp2_with (at_builtin; refine wpList_append_own _ rfl _ _ TAt rfl w.heap.size EAt i0 zeroA 2 32 Tryz.underlying26 hi hz0 hz1 hz2 rfl (by decide) (.slice (some ⟨w.heap.size, 0, none⟩) 0 0) 0 [] rfl HO.out a L.length c (L.flatMap encA) rfl (flat_lenA L) HS.out (flat_oneA L) (by unfold maxLen; omega) (by omega) (belNew w _).size ?_; intro v' w' ho hg hn)
    go_ret
    refine ⟨_, rfl, ?_, (belNew w _).grown hg (belNew w _).size (fun j hj => by cases hj; exact Nat.le_refl _)⟩
    have ho2 : RowA EAt w' w.heap.size v' L := by
      have := ho
      rw [Nat.zero_add, List.nil_append] at this
      exact this
    exact ho2
theorem cloneU_any (v : Value) (xs : List Int) (w : World) (h : Sees w v xs) (hl : xs.length ≤ 1000000) :
    Calls Tryz.prog 86 #[v] w fun e w' => ∃ v', e = .returned v' ∧ Owns w' w.heap.size v' xs ∧ Below w.heap.size w w' := by
  obtain ⟨ao, c, rfl, hlc, hnil, hc⟩ := id h
  cases ao with
  | none =>
    obtain rfl : xs = [] := hnil rfl
    have hq : ∀ w, (binOp .eql 25 (.slice none 0 c) (.slice none 0 0)).run Tryz.prog w = .ok (.bool true) w := fun w => run_eql_slice_nil w 25 5 none 0 c 0 0 Tryz.underlying25
    clear h hc hnil
    go_enter Tryz.func86, Tryz.ntmps86
    go_wp2_with fail
    go_ret
    exact ⟨_, rfl, World.ownsRow_nil _ _ _ _, Below.refl _ _⟩
  | some a =>
    obtain ⟨i0, hi, hz0, hz1, hz2⟩ := info_parts info8
    have HO : Hid ((w.alloc (.cells #[] 5)).ownsRow w.heap.size 5 1 (.slice (some ⟨w.heap.size, 0, none⟩) 0 0) 0 []) := Lib.hid (World.ownsRow_lit (base := w.heap.size) (e := 5) (size := 1) w #[] 0 (Nat.le_refl _) (by unfold maxLen; omega) rfl)
    have HS : Hid (∀ j u, (cells8 xs)[j]? = some u → (w.alloc (.cells #[] 5)).cell? (a.add j) = some u) := Lib.hid (fun j u hj => by
      obtain ⟨ao', c', e', _, _, hc'⟩ := h.keep (belNew w (.cells #[] 5))
      obtain rfl : ao' = some a := by cases e'; rfl
      have hjl : j < xs.length := by
        have := (List.getElem?_eq_some_iff.1 hj).1
        simpa using this
      rw [getD_cells hjl] at hj
      rw [← hj]
      exact hc' a rfl j hjl)
    have hq : ∀ w, (binOp .eql 25 (.slice (some a) xs.length c) (.slice none 0 0)).run Tryz.prog w = .ok (.bool false) w := fun w => run_eql_slice_nil w 25 5 (some a) xs.length c 0 0 Tryz.underlying25
    clear h hc hnil
    go_enter Tryz.func86, Tryz.ntmps86
    go_wp2_with (at_builtin; refine wpList_append_own _ rfl _ _ 25 rfl w.heap.size 5 i0 (.int .u8 0) 1 1 Tryz.underlying25 hi hz0 hz1 hz2 rfl (by decide) (.slice (some ⟨w.heap.size, 0, none⟩) 0 0) 0 [] rfl HO.out a xs.length c (cells8 xs) rfl (by simp) HS.out (fun u hu => by obtain ⟨z, _, rfl⟩ := List.mem_map.1 hu; rfl) (by unfold maxLen; omega) (by omega) (belNew w _).size ?_; intro v' w' ho hg hn)
    go_ret
    refine ⟨_, rfl, ?_, (belNew w _).grown hg (belNew w _).size (fun j hj => by cases hj; exact Nat.le_refl _)⟩
    have ho2 : Owns w' w.heap.size v' xs := by
      have := ho
      rw [Nat.zero_add, List.nil_append] at this
      exact this
    exact ho2
end
section
open Go.RowKit
theorem own_grown {E : TypeId} {s B n g : Nat} {w w' : World} {v : Value} {xs : List Value} (h : w.ownsRow B E s v n xs) (hg : w.grownBy w' (some g)) (hB : g < B) : w'.ownsRow B E s v n xs :=
  ⟨h.1, h.2.imp id fun ⟨b, cap, cur, e, hb, hh, r⟩ => ⟨b, cap, cur, e, hb, (hg.block b (heap_lt hh) (fun e => by have := Option.some.inj e; omega)).trans hh, r⟩⟩
theorem own_set {E : TypeId} {s B n : Nat} {w : World} {v : Value} {xs : List Value} (h : w.ownsRow B E s v n xs) {a : Addr} (ha : a.block < B) (u : Value) : (w.setCell a u).ownsRow B E s v n xs :=
  ownsRow_setCell_other h (fun e => by have := (h.lt _ e).1; omega) u
theorem blk_setO {w : World} {g : Nat} {b : BlkS} {fv av : Value} (h : BlkAt w g b fv av) {a : Addr} (ha : g ≠ a.block) (u : Value) : BlkAt (w.setCell a u) g b fv av := by
  show (w.setCell a u).heap[g]? = _
  rw [Below.heap_setCell _ _ _ _ ha]
  exact h
theorem size_set {n : Nat} {w : World} (h : n ≤ w.heap.size) (a : Addr) (u : Value) : n ≤ (w.setCell a u).heap.size := by simpa [World.setCell] using h
theorem two_newB (w : World) (o p : Obj) : Below w.heap.size w ((w.alloc o).alloc p) ∧ ((w.alloc o).alloc p).heap[w.heap.size]? = some o ∧ ((w.alloc o).alloc p).heap[w.heap.size + 1]? = some p ∧ ((w.alloc o).alloc p).heap.size = w.heap.size + 2 := by
  have hs : (w.alloc o).heap.size = w.heap.size + 1 := by show (w.heap.push _).size = _; simp
  refine ⟨belAlloc (belNew _ _) _, ?_, ?_, ?_⟩
  · exact (Below.heap_alloc (w.alloc o) _ _ (by omega)).trans (heap_new w _)
  · have := heap_new (w.alloc o) p
    rwa [hs] at this
  · show ((w.alloc o).heap.push _).size = _
    simp [hs]
set_option maxRecDepth 100000 in
set_option maxHeartbeats 8000000 in
theorem copied_any (b : BlkS) (fv av : Value) (w : World) (hf : Sees w fv b.free) (ha : SeesA w av b.attrs) (hl : b.sl.length = 64) (hfl : b.free.length ≤ 1000000) (hal : b.attrs.length ≤ 1000000) :
    Calls Tryz.prog 62 #[.agg (blkL b fv av).toArray] w fun e w' => ∃ fv' av', e = .returned (.agg (blkL b fv' av').toArray) ∧ Owns w' w.heap.size fv' b.free ∧ RowA EAt w' w.heap.size av' b.attrs ∧ Below w.heap.size w w' := by
  obtain ⟨W, hW⟩ : ∃ W, W = (w.alloc (blkO b fv av)).alloc (blkO zB NS NS) := ⟨_, rfl⟩
  obtain ⟨hb0, hA, hR, hsz⟩ := two_newB w (blkO b fv av) (blkO zB NS NS)
  rw [← hW] at hb0 hA hR hsz
  have HCU := Lib.hid (fun w1 (h : Sees w1 fv b.free) => cloneU_any fv b.free w1 h hfl)
  have HCA := Lib.hid (fun w1 (h : SeesA w1 av b.attrs) => cloneA_any av b.attrs w1 h hal)
  have HSF := Lib.hid hf
  have HSA := Lib.hid ha
  have HXc : Hid (BlkAt W.drew w.heap.size b fv av) := Lib.hid hA
  have HZc : Hid (BlkAt W.drew (w.heap.size + 1) zB NS NS) := Lib.hid hR
  have HBc : Hid (Below w.heap.size w W.drew) := Lib.hid ⟨hb0.os, hb0.tape, hb0.output, hb0.size, hb0.block⟩
  have HSC : Hid (w.heap.size + 2 ≤ W.drew.heap.size) := Lib.hid (Nat.le_of_eq hsz.symm)
  have HW := Lib.hid hW
  clear hW hb0 hA hR hsz hf ha
  go_enter Tryz.func62, Tryz.ntmps62
  go_upto_region 1 with fail
  change Code.wp _ _ _ _ ((w.alloc (blkO b fv av)).alloc (blkO zB NS NS))
  rw [← HW.out]
  clear HW
  refine wp_region_held_drew (S := (fun X => Below w.heap.size w X)) (by kernel_rfl) ?_ (fun r0 => ?_)
  · exact HBc.out
  refine wpAnyH_take (i := 0) (v := ?_) rfl (by kernel_rfl) (by kernel_rfl) (by kernel_rfl) (fun _ _ _ h => h) (Or.inl ⟨by rfl, ?_⟩) (by assumption) ?_
  rotate_left
  · intro wS hSw
    (try dsimp only at hSw)
    go_simp
    first | done | with_reducible rfl
  try simp only [Act.put, List.getElem_toArray, List.getElem_cons_zero, List.setIfInBounds_toArray, List.set_cons_zero, List.set_cons_succ]
  refine wpAnyH_take (i := 3) (v := ?_) rfl (by kernel_rfl) (by kernel_rfl) (by kernel_rfl) (fun _ _ _ h => h) (Or.inl ⟨by rfl, ?_⟩) (by assumption) ?_
  rotate_left
  · intro wS hSw
    (try dsimp only at hSw)
    go_simp
    first | done | with_reducible rfl
  try simp only [Act.put, List.getElem_toArray, List.getElem_cons_succ, List.getElem_cons_zero, List.setIfInBounds_toArray, List.set_cons_zero, List.set_cons_succ]
  refine wpAnyH_ready (rs := [1, 4]) (by kernel_rfl) (by simp) ?_
  refine AllReadyH.cons rfl (fun K hK => ?_) (AllReadyH.cons rfl (fun K hK => ?_) AllReadyH.nil)
  · have k0 := HXc.out.free hl
    go_simp
    refine hK.out _ _ ?_ (fun rN => ?_)
    · exact HBc.out
    try simp only [Act.put, List.getElem_toArray, List.getElem_cons_succ, List.getElem_cons_zero, List.setIfInBounds_toArray, List.set_cons_zero, List.set_cons_succ]
    refine wpAnyH_ready (rs := [2, 4]) (by kernel_rfl) (by simp) ?_
    refine AllReadyH.cons rfl (fun K hK => ?_) (AllReadyH.cons rfl (fun K hK => ?_) AllReadyH.nil)
    · go_simp
      refine (HCU.out _ (HSF.out.keep HBc.out)).mono ?_; rintro x wn ⟨fvn, rfl, hof, hbn⟩
      have hBn := HBc.out.trans (hbn.mono HBc.out.size)
      refine hK.out _ _ ?_ (fun rN => ?_)
      · exact hBn
      try simp only [Act.put, List.getElem_toArray, List.getElem_cons_succ, List.getElem_cons_zero, List.setIfInBounds_toArray, List.set_cons_zero, List.set_cons_succ]
      have HBc := Lib.hid hBn
      have HXc := Lib.hid (HXc.out.below hbn)
      have HZc := Lib.hid (HZc.out.below hbn)
      have HOF : Hid (Owns wn (w.heap.size + 2) fvn b.free) := Lib.hid ⟨hof.1, hof.2.imp id fun ⟨g, cap, cur, e, hb, r⟩ => ⟨g, cap, cur, e, Nat.le_trans HSC.out hb, r⟩⟩
      have HSC := Lib.hid (Nat.le_trans HSC.out hbn.size)
      obtain ⟨fo, fc, rfl, -⟩ := HOF.out.sees
      clear hof hbn hBn
      refine wpAnyH_ready (rs := [4]) (by kernel_rfl) (by simp) ?_
      refine AllReadyH.cons rfl (fun K hK => ?_) AllReadyH.nil
      have k0 := HXc.out.attrs hl
      go_simp
      refine hK.out _ _ ?_ (fun rN => ?_)
      · exact HBc.out
      try simp only [Act.put, List.getElem_toArray, List.getElem_cons_succ, List.getElem_cons_zero, List.setIfInBounds_toArray, List.set_cons_zero, List.set_cons_succ]
      refine wpAnyH_take (i := 6) (v := ?_) rfl (by kernel_rfl) (by kernel_rfl) (by kernel_rfl) (fun _ _ _ h => h) (Or.inl ⟨by rfl, ?_⟩) (by assumption) ?_
      rotate_left
      · intro wS hSw
        (try dsimp only at hSw)
        go_simp
        first | done | with_reducible rfl
      try simp only [Act.put, List.getElem_toArray, List.getElem_cons_succ, List.getElem_cons_zero, List.setIfInBounds_toArray, List.set_cons_zero, List.set_cons_succ]
      refine wpAnyH_ready (rs := [5]) (by kernel_rfl) (by simp) ?_
      refine AllReadyH.cons rfl (fun K hK => ?_) AllReadyH.nil
      go_simp
      refine (HCA.out _ (HSA.out.below HBc.out)).mono ?_; rintro x wn ⟨avn, rfl, hoa, hbn⟩
      have hBn := HBc.out.trans (hbn.mono HBc.out.size)
      refine hK.out _ _ ?_ (fun rN => ?_)
      · exact hBn
      try simp only [Act.put, List.getElem_toArray, List.getElem_cons_succ, List.getElem_cons_zero, List.setIfInBounds_toArray, List.set_cons_zero, List.set_cons_succ]
      have HBc := Lib.hid hBn
      have HXc := Lib.hid (HXc.out.below hbn)
      have HZc := Lib.hid (HZc.out.below hbn)
      have HOF := Lib.hid (HOF.out.keep hbn)
      have HOA : Hid (RowA EAt wn (w.heap.size + 2) avn b.attrs) := Lib.hid (row_leA hoa HSC.out)
      have HSC := Lib.hid (Nat.le_trans HSC.out hbn.size)
      obtain ⟨ao, ac, rfl, -⟩ := hoa.sees
      clear hoa hbn hBn
      refine wpAnyH_ready (rs := [7]) (by kernel_rfl) (by simp) ?_
      refine AllReadyH.cons rfl (fun K hK => ?_) AllReadyH.nil
      have k1 := HXc.out.free hl
      have k2 := HXc.out.froz 66
      go_simp
      have hBn := HBc.out.setCell (p := ⟨w.heap.size, 66, none⟩) (Nat.le_refl _) (.slice fo b.free.length fc)
      refine hK.out _ _ ?_ (fun rN => ?_)
      · exact hBn
      try simp only [Act.put, List.getElem_toArray, List.getElem_cons_succ, List.getElem_cons_zero, List.setIfInBounds_toArray, List.set_cons_zero, List.set_cons_succ]
      have HXc := Lib.hid (HXc.out.setFree hl (.slice fo b.free.length fc))
      have HZc := Lib.hid (blk_setO HZc.out (a := ⟨w.heap.size, 66, none⟩) (by simp) (.slice fo b.free.length fc))
      have HOF := Lib.hid (own_set HOF.out (a := ⟨w.heap.size, 66, none⟩) (by show w.heap.size < w.heap.size + 2; omega) (.slice fo b.free.length fc))
      first | have HOA := Lib.hid (own_set HOA.out (a := ⟨w.heap.size, 66, none⟩) (by show w.heap.size < w.heap.size + 2; omega) (.slice fo b.free.length fc)) | skip
      have HSC := Lib.hid (size_set HSC.out ⟨w.heap.size, 66, none⟩ (.slice fo b.free.length fc))
      have HBc := Lib.hid hBn
      clear hBn k1 k2
      refine wpAnyH_take (i := 8) (v := ?_) rfl (by kernel_rfl) (by kernel_rfl) (by kernel_rfl) (fun _ _ _ h => h) (Or.inl ⟨by rfl, ?_⟩) (by assumption) ?_
      rotate_left
      · intro wS hSw
        (try dsimp only at hSw)
        go_simp
        first | done | with_reducible rfl
      try simp only [Act.put, List.getElem_toArray, List.getElem_cons_succ, List.getElem_cons_zero, List.setIfInBounds_toArray, List.set_cons_zero, List.set_cons_succ]
      refine wpAnyH_ready (rs := [9]) (by kernel_rfl) (by simp) ?_
      refine AllReadyH.cons rfl (fun K hK => ?_) AllReadyH.nil
      have k1 := HXc.out.attrs hl
      have k2 := HXc.out.froz 67
      go_simp
      have hBn := HBc.out.setCell (p := ⟨w.heap.size, 67, none⟩) (Nat.le_refl _) (.slice ao b.attrs.length ac)
      refine hK.out _ _ ?_ (fun rN => ?_)
      · exact hBn
      try simp only [Act.put, List.getElem_toArray, List.getElem_cons_succ, List.getElem_cons_zero, List.setIfInBounds_toArray, List.set_cons_zero, List.set_cons_succ]
      have HXc := Lib.hid (HXc.out.setAttrs hl (.slice ao b.attrs.length ac))
      have HZc := Lib.hid (blk_setO HZc.out (a := ⟨w.heap.size, 67, none⟩) (by simp) (.slice ao b.attrs.length ac))
      have HOF := Lib.hid (own_set HOF.out (a := ⟨w.heap.size, 67, none⟩) (by show w.heap.size < w.heap.size + 2; omega) (.slice ao b.attrs.length ac))
      have HOA := Lib.hid (own_set HOA.out (a := ⟨w.heap.size, 67, none⟩) (by show w.heap.size < w.heap.size + 2; omega) (.slice ao b.attrs.length ac))
      have HBc := Lib.hid hBn
      clear hBn k1 k2
      refine wpAnyH_done (by kernel_rfl) ?_ _
      go_wp2_with (first
        | (refine wpLdB rfl _ rfl rfl HXc.out hl ?_)
        | (refine wpStB rfl _ _ rfl rfl rfl HZc.out zB_len hl rfl rfl ?_; intro w7 hx7 hg7))
      have HN := Lib.hid (loadVarB hx7 hl)
      have HBN := Lib.hid (HBc.out.grown hg7 HBc.out.size (fun k hk => by cases hk; omega))
      refine bodyPost_ret (resB1 Tryz.results62 rfl HN.out) rfl ⟨_, _, rfl, ?_, ?_, HBN.out⟩
      · have := own_grown HOF.out hg7 (by omega)
        exact ⟨this.1, this.2.imp id fun ⟨g, cap, cur, e, hb, r⟩ => ⟨g, cap, cur, e, by omega, r⟩⟩
      · exact row_leA (own_grown HOA.out hg7 (by omega)) (by omega)
    · have k0 := HXc.out.attrs hl
      go_simp
      refine hK.out _ _ ?_ (fun rN => ?_)
      · exact HBc.out
      try simp only [Act.put, List.getElem_toArray, List.getElem_cons_succ, List.getElem_cons_zero, List.setIfInBounds_toArray, List.set_cons_zero, List.set_cons_succ]
      refine wpAnyH_ready (rs := [2]) (by kernel_rfl) (by simp) ?_
      refine AllReadyH.cons rfl (fun K hK => ?_) AllReadyH.nil
      go_simp
      refine (HCU.out _ (HSF.out.keep HBc.out)).mono ?_; rintro x wn ⟨fvn, rfl, hof, hbn⟩
      have hBn := HBc.out.trans (hbn.mono HBc.out.size)
      refine hK.out _ _ ?_ (fun rN => ?_)
      · exact hBn
      try simp only [Act.put, List.getElem_toArray, List.getElem_cons_succ, List.getElem_cons_zero, List.setIfInBounds_toArray, List.set_cons_zero, List.set_cons_succ]
      have HBc := Lib.hid hBn
      have HXc := Lib.hid (HXc.out.below hbn)
      have HZc := Lib.hid (HZc.out.below hbn)
      have HOF : Hid (Owns wn (w.heap.size + 2) fvn b.free) := Lib.hid ⟨hof.1, hof.2.imp id fun ⟨g, cap, cur, e, hb, r⟩ => ⟨g, cap, cur, e, Nat.le_trans HSC.out hb, r⟩⟩
      have HSC := Lib.hid (Nat.le_trans HSC.out hbn.size)
      obtain ⟨fo, fc, rfl, -⟩ := HOF.out.sees
      clear hof hbn hBn
      refine wpAnyH_take (i := 6) (v := ?_) rfl (by kernel_rfl) (by kernel_rfl) (by kernel_rfl) (fun _ _ _ h => h) (Or.inl ⟨by rfl, ?_⟩) (by assumption) ?_
      rotate_left
      · intro wS hSw
        (try dsimp only at hSw)
        go_simp
        first | done | with_reducible rfl
      try simp only [Act.put, List.getElem_toArray, List.getElem_cons_succ, List.getElem_cons_zero, List.setIfInBounds_toArray, List.set_cons_zero, List.set_cons_succ]
      refine wpAnyH_ready (rs := [5]) (by kernel_rfl) (by simp) ?_
      refine AllReadyH.cons rfl (fun K hK => ?_) AllReadyH.nil
      go_simp
      refine (HCA.out _ (HSA.out.below HBc.out)).mono ?_; rintro x wn ⟨avn, rfl, hoa, hbn⟩
      have hBn := HBc.out.trans (hbn.mono HBc.out.size)
      refine hK.out _ _ ?_ (fun rN => ?_)
      · exact hBn
      try simp only [Act.put, List.getElem_toArray, List.getElem_cons_succ, List.getElem_cons_zero, List.setIfInBounds_toArray, List.set_cons_zero, List.set_cons_succ]
      have HBc := Lib.hid hBn
      have HXc := Lib.hid (HXc.out.below hbn)
      have HZc := Lib.hid (HZc.out.below hbn)
      have HOF := Lib.hid (HOF.out.keep hbn)
      have HOA : Hid (RowA EAt wn (w.heap.size + 2) avn b.attrs) := Lib.hid (row_leA hoa HSC.out)
      have HSC := Lib.hid (Nat.le_trans HSC.out hbn.size)
      obtain ⟨ao, ac, rfl, -⟩ := hoa.sees
      clear hoa hbn hBn
      refine wpAnyH_ready (rs := [7]) (by kernel_rfl) (by simp) ?_
      refine AllReadyH.cons rfl (fun K hK => ?_) AllReadyH.nil
      have k1 := HXc.out.free hl
      have k2 := HXc.out.froz 66
      go_simp
      have hBn := HBc.out.setCell (p := ⟨w.heap.size, 66, none⟩) (Nat.le_refl _) (.slice fo b.free.length fc)
      refine hK.out _ _ ?_ (fun rN => ?_)
      · exact hBn
      try simp only [Act.put, List.getElem_toArray, List.getElem_cons_succ, List.getElem_cons_zero, List.setIfInBounds_toArray, List.set_cons_zero, List.set_cons_succ]
      have HXc := Lib.hid (HXc.out.setFree hl (.slice fo b.free.length fc))
      have HZc := Lib.hid (blk_setO HZc.out (a := ⟨w.heap.size, 66, none⟩) (by simp) (.slice fo b.free.length fc))
      have HOF := Lib.hid (own_set HOF.out (a := ⟨w.heap.size, 66, none⟩) (by show w.heap.size < w.heap.size + 2; omega) (.slice fo b.free.length fc))
      first | have HOA := Lib.hid (own_set HOA.out (a := ⟨w.heap.size, 66, none⟩) (by show w.heap.size < w.heap.size + 2; omega) (.slice fo b.free.length fc)) | skip
      have HSC := Lib.hid (size_set HSC.out ⟨w.heap.size, 66, none⟩ (.slice fo b.free.length fc))
      have HBc := Lib.hid hBn
      clear hBn k1 k2
      refine wpAnyH_take (i := 8) (v := ?_) rfl (by kernel_rfl) (by kernel_rfl) (by kernel_rfl) (fun _ _ _ h => h) (Or.inl ⟨by rfl, ?_⟩) (by assumption) ?_
      rotate_left
      · intro wS hSw
        (try dsimp only at hSw)
        go_simp
        first | done | with_reducible rfl
      try simp only [Act.put, List.getElem_toArray, List.getElem_cons_succ, List.getElem_cons_zero, List.setIfInBounds_toArray, List.set_cons_zero, List.set_cons_succ]
      refine wpAnyH_ready (rs := [9]) (by kernel_rfl) (by simp) ?_
      refine AllReadyH.cons rfl (fun K hK => ?_) AllReadyH.nil
      have k1 := HXc.out.attrs hl
      have k2 := HXc.out.froz 67
      go_simp
      have hBn := HBc.out.setCell (p := ⟨w.heap.size, 67, none⟩) (Nat.le_refl _) (.slice ao b.attrs.length ac)
      refine hK.out _ _ ?_ (fun rN => ?_)
      · exact hBn
      try simp only [Act.put, List.getElem_toArray, List.getElem_cons_succ, List.getElem_cons_zero, List.setIfInBounds_toArray, List.set_cons_zero, List.set_cons_succ]
      have HXc := Lib.hid (HXc.out.setAttrs hl (.slice ao b.attrs.length ac))
      have HZc := Lib.hid (blk_setO HZc.out (a := ⟨w.heap.size, 67, none⟩) (by simp) (.slice ao b.attrs.length ac))
      have HOF := Lib.hid (own_set HOF.out (a := ⟨w.heap.size, 67, none⟩) (by show w.heap.size < w.heap.size + 2; omega) (.slice ao b.attrs.length ac))
      have HOA := Lib.hid (own_set HOA.out (a := ⟨w.heap.size, 67, none⟩) (by show w.heap.size < w.heap.size + 2; omega) (.slice ao b.attrs.length ac))
      have HBc := Lib.hid hBn
      clear hBn k1 k2
      refine wpAnyH_done (by kernel_rfl) ?_ _
      go_wp2_with (first
        | (refine wpLdB rfl _ rfl rfl HXc.out hl ?_)
        | (refine wpStB rfl _ _ rfl rfl rfl HZc.out zB_len hl rfl rfl ?_; intro w7 hx7 hg7))
      have HN := Lib.hid (loadVarB hx7 hl)
      have HBN := Lib.hid (HBc.out.grown hg7 HBc.out.size (fun k hk => by cases hk; omega))
      refine bodyPost_ret (resB1 Tryz.results62 rfl HN.out) rfl ⟨_, _, rfl, ?_, ?_, HBN.out⟩
      · have := own_grown HOF.out hg7 (by omega)
        exact ⟨this.1, this.2.imp id fun ⟨g, cap, cur, e, hb, r⟩ => ⟨g, cap, cur, e, by omega, r⟩⟩
      · exact row_leA (own_grown HOA.out hg7 (by omega)) (by omega)
  · have k0 := HXc.out.attrs hl
    go_simp
    refine hK.out _ _ ?_ (fun rN => ?_)
    · exact HBc.out
    try simp only [Act.put, List.getElem_toArray, List.getElem_cons_succ, List.getElem_cons_zero, List.setIfInBounds_toArray, List.set_cons_zero, List.set_cons_succ]
    refine wpAnyH_ready (rs := [1]) (by kernel_rfl) (by simp) ?_
    refine AllReadyH.cons rfl (fun K hK => ?_) AllReadyH.nil
    have k0 := HXc.out.free hl
    go_simp
    refine hK.out _ _ ?_ (fun rN => ?_)
    · exact HBc.out
    try simp only [Act.put, List.getElem_toArray, List.getElem_cons_succ, List.getElem_cons_zero, List.setIfInBounds_toArray, List.set_cons_zero, List.set_cons_succ]
    refine wpAnyH_ready (rs := [2]) (by kernel_rfl) (by simp) ?_
    refine AllReadyH.cons rfl (fun K hK => ?_) AllReadyH.nil
    go_simp
    refine (HCU.out _ (HSF.out.keep HBc.out)).mono ?_; rintro x wn ⟨fvn, rfl, hof, hbn⟩
    have hBn := HBc.out.trans (hbn.mono HBc.out.size)
    refine hK.out _ _ ?_ (fun rN => ?_)
    · exact hBn
    try simp only [Act.put, List.getElem_toArray, List.getElem_cons_succ, List.getElem_cons_zero, List.setIfInBounds_toArray, List.set_cons_zero, List.set_cons_succ]
    have HBc := Lib.hid hBn
    have HXc := Lib.hid (HXc.out.below hbn)
    have HZc := Lib.hid (HZc.out.below hbn)
    have HOF : Hid (Owns wn (w.heap.size + 2) fvn b.free) := Lib.hid ⟨hof.1, hof.2.imp id fun ⟨g, cap, cur, e, hb, r⟩ => ⟨g, cap, cur, e, Nat.le_trans HSC.out hb, r⟩⟩
    have HSC := Lib.hid (Nat.le_trans HSC.out hbn.size)
    obtain ⟨fo, fc, rfl, -⟩ := HOF.out.sees
    clear hof hbn hBn
    refine wpAnyH_take (i := 6) (v := ?_) rfl (by kernel_rfl) (by kernel_rfl) (by kernel_rfl) (fun _ _ _ h => h) (Or.inl ⟨by rfl, ?_⟩) (by assumption) ?_
    rotate_left
    · intro wS hSw
      (try dsimp only at hSw)
      go_simp
      first | done | with_reducible rfl
    try simp only [Act.put, List.getElem_toArray, List.getElem_cons_succ, List.getElem_cons_zero, List.setIfInBounds_toArray, List.set_cons_zero, List.set_cons_succ]
    refine wpAnyH_ready (rs := [5]) (by kernel_rfl) (by simp) ?_
    refine AllReadyH.cons rfl (fun K hK => ?_) AllReadyH.nil
    go_simp
    refine (HCA.out _ (HSA.out.below HBc.out)).mono ?_; rintro x wn ⟨avn, rfl, hoa, hbn⟩
    have hBn := HBc.out.trans (hbn.mono HBc.out.size)
    refine hK.out _ _ ?_ (fun rN => ?_)
    · exact hBn
    try simp only [Act.put, List.getElem_toArray, List.getElem_cons_succ, List.getElem_cons_zero, List.setIfInBounds_toArray, List.set_cons_zero, List.set_cons_succ]
    have HBc := Lib.hid hBn
    have HXc := Lib.hid (HXc.out.below hbn)
    have HZc := Lib.hid (HZc.out.below hbn)
    have HOF := Lib.hid (HOF.out.keep hbn)
    have HOA : Hid (RowA EAt wn (w.heap.size + 2) avn b.attrs) := Lib.hid (row_leA hoa HSC.out)
    have HSC := Lib.hid (Nat.le_trans HSC.out hbn.size)
    obtain ⟨ao, ac, rfl, -⟩ := hoa.sees
    clear hoa hbn hBn
    refine wpAnyH_ready (rs := [7]) (by kernel_rfl) (by simp) ?_
    refine AllReadyH.cons rfl (fun K hK => ?_) AllReadyH.nil
    have k1 := HXc.out.free hl
    have k2 := HXc.out.froz 66
    go_simp
    have hBn := HBc.out.setCell (p := ⟨w.heap.size, 66, none⟩) (Nat.le_refl _) (.slice fo b.free.length fc)
    refine hK.out _ _ ?_ (fun rN => ?_)
    · exact hBn
    try simp only [Act.put, List.getElem_toArray, List.getElem_cons_succ, List.getElem_cons_zero, List.setIfInBounds_toArray, List.set_cons_zero, List.set_cons_succ]
    have HXc := Lib.hid (HXc.out.setFree hl (.slice fo b.free.length fc))
    have HZc := Lib.hid (blk_setO HZc.out (a := ⟨w.heap.size, 66, none⟩) (by simp) (.slice fo b.free.length fc))
    have HOF := Lib.hid (own_set HOF.out (a := ⟨w.heap.size, 66, none⟩) (by show w.heap.size < w.heap.size + 2; omega) (.slice fo b.free.length fc))
    first | have HOA := Lib.hid (own_set HOA.out (a := ⟨w.heap.size, 66, none⟩) (by show w.heap.size < w.heap.size + 2; omega) (.slice fo b.free.length fc)) | skip
    have HSC := Lib.hid (size_set HSC.out ⟨w.heap.size, 66, none⟩ (.slice fo b.free.length fc))
    have HBc := Lib.hid hBn
    clear hBn k1 k2
    refine wpAnyH_take (i := 8) (v := ?_) rfl (by kernel_rfl) (by kernel_rfl) (by kernel_rfl) (fun _ _ _ h => h) (Or.inl ⟨by rfl, ?_⟩) (by assumption) ?_
    rotate_left
    · intro wS hSw
      (try dsimp only at hSw)
      go_simp
      first | done | with_reducible rfl
    try simp only [Act.put, List.getElem_toArray, List.getElem_cons_succ, List.getElem_cons_zero, List.setIfInBounds_toArray, List.set_cons_zero, List.set_cons_succ]
    refine wpAnyH_ready (rs := [9]) (by kernel_rfl) (by simp) ?_
    refine AllReadyH.cons rfl (fun K hK => ?_) AllReadyH.nil
    have k1 := HXc.out.attrs hl
    have k2 := HXc.out.froz 67
    go_simp
    have hBn := HBc.out.setCell (p := ⟨w.heap.size, 67, none⟩) (Nat.le_refl _) (.slice ao b.attrs.length ac)
    refine hK.out _ _ ?_ (fun rN => ?_)
    · exact hBn
    try simp only [Act.put, List.getElem_toArray, List.getElem_cons_succ, List.getElem_cons_zero, List.setIfInBounds_toArray, List.set_cons_zero, List.set_cons_succ]
    have HXc := Lib.hid (HXc.out.setAttrs hl (.slice ao b.attrs.length ac))
    have HZc := Lib.hid (blk_setO HZc.out (a := ⟨w.heap.size, 67, none⟩) (by simp) (.slice ao b.attrs.length ac))
    have HOF := Lib.hid (own_set HOF.out (a := ⟨w.heap.size, 67, none⟩) (by show w.heap.size < w.heap.size + 2; omega) (.slice ao b.attrs.length ac))
    have HOA := Lib.hid (own_set HOA.out (a := ⟨w.heap.size, 67, none⟩) (by show w.heap.size < w.heap.size + 2; omega) (.slice ao b.attrs.length ac))
    have HBc := Lib.hid hBn
    clear hBn k1 k2
    refine wpAnyH_done (by kernel_rfl) ?_ _
    go_wp2_with (first
      | (refine wpLdB rfl _ rfl rfl HXc.out hl ?_)
      | (refine wpStB rfl _ _ rfl rfl rfl HZc.out zB_len hl rfl rfl ?_; intro w7 hx7 hg7))
    have HN := Lib.hid (loadVarB hx7 hl)
    have HBN := Lib.hid (HBc.out.grown hg7 HBc.out.size (fun k hk => by cases hk; omega))
    refine bodyPost_ret (resB1 Tryz.results62 rfl HN.out) rfl ⟨_, _, rfl, ?_, ?_, HBN.out⟩
    · have := own_grown HOF.out hg7 (by omega)
      exact ⟨this.1, this.2.imp id fun ⟨g, cap, cur, e, hb, r⟩ => ⟨g, cap, cur, e, by omega, r⟩⟩
    · exact row_leA (own_grown HOA.out hg7 (by omega)) (by omega)
end
section
open Go.RowKit
def zS (a : Int) (s : ByteArray) : BlkS := ⟨a, s, List.replicate 64 0, [], []⟩
theorem buildZ (w : World) : (Instr.build TB #[]).run Tryz.prog w = .ok (.agg (blkL zB NS NS).toArray) w := by kernel_rfl
/-- append of one cell to a row of the call's own. -/
theorem wpList_push1 {T E : TypeId} {z : Value} {by1 : Nat} (hTE : Tryz.prog.underlying T = some (.slice E)) (hI : (Tryz.prog.info? E).map (fun i => (i.zero, i.size, i.bytes)) = some (some z, 1, by1)) (hzc : z.cells.size = 1) (hby : by1 ≤ 16) {w0 : World} {ops : Array Oper} {rest : List Oper} {o : Oper} {a : Act} {Q : Exit → Act → World → Prop} (hgd : o.guard = none) (s x : Operand)
    (ho : o.op = .call { callee := .builtin .append, args := #[s, x], argTypes := #[T, T] }) (B : Nat) (v : Value) (n : Nat) (xs : List Value) (u : Value)
    (k : Nat) (hk : k = w0.heap.size) (hs : a.eval s = v) (hx : a.eval x = .slice (some ⟨k, 0, none⟩) 1 1) (hrow : w0.ownsRow B E 1 v n xs) (hlen : n ≤ 1000001) (hB : B ≤ w0.heap.size) (h1 : u.oneCell' = true)
    (h : ∀ v' w', w'.ownsRow B E 1 v' (n + 1) (xs ++ [u]) → Below B w0 w' → w0.grownBy w' v.ownBlock → wpList Tryz.prog ops Q rest (a.put o.dst v') w') :
    wpList Tryz.prog ops Q (o :: rest) a (w0.alloc (.cells #[u] E)) := by
  subst hk
  obtain ⟨i0, hi, hz0, hz1, hz2⟩ := info_parts hI
  have hbk : (w0.alloc (.cells #[u] E)).heap[w0.heap.size]? = some (.cells #[u] E (0, 0)) := heap_alloc_new w0 _
  refine wpList_append_own _ hgd s x T ho B E i0 z 1 by1 hTE hi hz0 hz1 hz2 hzc (by decide) v _ _ hs (hrow.alloc _) ⟨w0.heap.size, 0, none⟩ 1 1 [u] hx rfl (fun j y hj => ?_) ?_ (by unfold maxLen; omega) (by have : (n + 1) * by1 ≤ (n + 1) * 16 := Nat.mul_le_mul_left _ hby; omega) (by simp; omega) ?_
  · rw [add0]
    rcases j with _ | j
    · obtain rfl : u = y := by simpa using hj
      exact cell_of_one hbk
    · simp at hj
  · intro y hy
    obtain rfl : y = u := by simpa using hy
    exact h1
  · intro v' w' hown' hgrow _
    have hg0 : w0.grownBy w' v.ownBlock := World.grownBy.trans (b := w0.alloc (.cells #[u] E)) ⟨rfl, rfl, rfl, by simp, fun k hk _ => Below.heap_alloc w0 _ k hk⟩ hgrow
    exact h v' w' hown' ((Below.refl B w0).grown hg0 hB (fun k hk => (hrow.lt k hk).1)) hg0
def rangeI (n : Nat) : List Int := (List.range n).map fun (i : Nat) => (i : Int)
theorem rangeI_succ (n : Nat) : rangeI (n + 1) = rangeI n ++ [(n : Int)] := by unfold rangeI; rw [List.range_succ, List.map_append]; rfl
theorem rangeI_len (n : Nat) : (rangeI n).length = n := by unfold rangeI; simp
/-- The block of an address, of which nothing is given. -/
def newS (a : Int) (s : ByteArray) : BlkS := ⟨a - a % 64, s, List.replicate 64 0, rangeI 64, []⟩
theorem own_form {E : TypeId} {s B n : Nat} {w : World} {v : Value} {xs : List Value} (h : w.ownsRow B E s v n xs) : ∃ ao m c, v = .slice ao m c := by
  rcases h.2 with ⟨e, _⟩ | ⟨g, cap, cur, e, _⟩
  · exact ⟨_, _, _, e⟩
  · exact ⟨_, _, _, e⟩
theorem own_le {E : TypeId} {s B B' n : Nat} {w : World} {v : Value} {xs : List Value} (h : w.ownsRow B E s v n xs) (hb : B' ≤ B) : w.ownsRow B' E s v n xs :=
  ⟨h.1, h.2.imp id fun ⟨g, cap, cur, e, b, r⟩ => ⟨g, cap, cur, e, Nat.le_trans hb b, r⟩⟩
theorem own_keep {E : TypeId} {s B n : Nat} {w w' : World} {v : Value} {xs : List Value} (h : w.ownsRow B E s v n xs) (hb : Below w.heap.size w w') : w'.ownsRow B E s v n xs :=
  ⟨h.1, h.2.imp id fun ⟨g, cap, cur, e, b, hg, r⟩ => ⟨g, cap, cur, e, b, (hb.block g (heap_lt hg)).trans hg, r⟩⟩
theorem BlkAt.keepB {w w' : World} {g n : Nat} {b : BlkS} {fv av : Value} (h : BlkAt w g b fv av) (hb : Below n w w') (hg : g < n) : BlkAt w' g b fv av := (hb.block g hg).trans h
/-- What a block is that is told. -/
structure BlkRet (w w' : World) (b : BlkS) (fv av : Value) : Prop where
  free : Owns w' w.heap.size fv b.free
  attrs : RowA EAt w' w.heap.size av b.attrs
  below : Below w.heap.size w w'
set_option maxRecDepth 100000 in
set_option maxHeartbeats 8000000 in
theorem newB_any (a : Int) (s : ByteArray) (w : World) (ha : 0 ≤ a) (ha' : a < 4294967296) (hs : s.size ≤ maxLen) (hok : ownB s = true) :
    Calls Tryz.prog 4 #[.int .u32 a, .string s] w fun e w' => ∃ fv av, e = .returned (.tuple #[.agg (blkL (newS a s) fv av).toArray, .int .i64 0]) ∧ BlkRet w w' (newS a s) fv av := by
  obtain ⟨W, hW⟩ : ∃ W, W = w.alloc (blkO zB NS NS) := ⟨_, rfl⟩
  have hb0 : Below w.heap.size w W := by rw [hW]; exact belNew _ _
  have hZ : BlkAt W w.heap.size zB NS NS := by rw [hW]; exact heap_new w _
  have HM := Lib.hid (mayOwn_any s hs W)
  rw [hok] at HM
  have HF := Lib.hid (fun w => first_any a ha ha' w)
  have HB0 := Lib.hid hb0
  have HZ := Lib.hid hZ
  have HW := Lib.hid hW
  have HEQ : Hid (∀ fv av, blkL (zS (a - a % 64) s) fv av = blkL (newS a s) fv av) := Lib.hid (fun fv av => rfl)
  have HNF : Hid ((newS a s).free = rangeI 64 ∧ (newS a s).attrs = []) := Lib.hid ⟨rfl, rfl⟩
  generalize newS a s = Nw at *
  generalize a - a % 64 = fa at *
  clear hW hb0 hZ hok ha ha'
  go_enter Tryz.func4, Tryz.ntmps4
  go_upto_region 1 with fail
  change Code.wp _ _ _ _ (w.alloc (blkO zB NS NS))
  rw [← HW.out]
  clear HW
  go_wp2_with fail
  refine HM.out.mono ?_; rintro e w1 ⟨rfl, hb1⟩
  have HZ1 := Lib.hid (HZ.out.below hb1)
  have HB1 := Lib.hid (HB0.out.trans (hb1.mono HB0.out.size))
  clear hb1
  go_wp2_with fail
  refine (HF.out _).mono ?_; rintro e w2 ⟨rfl, hb2⟩
  have HZ2 := Lib.hid (HZ1.out.below hb2)
  have HB2 := Lib.hid (HB1.out.trans (hb2.mono HB1.out.size))
  clear hb2
  obtain ⟨w3, hw3⟩ : ∃ w3, w3 = w2.alloc (blkO zB NS NS) := ⟨_, rfl⟩
  have hx3 : BlkAt w3 w2.heap.size zB NS NS := by rw [hw3]; exact heap_new w2 _
  have HX3 := Lib.hid hx3
  have HB3 : Hid (Below w.heap.size w w3) := Lib.hid (by rw [hw3]; exact HB2.out.trans ((belNew w2 _).mono HB2.out.size))
  have HZ3 : Hid (BlkAt w3 w.heap.size zB NS NS) := Lib.hid (by rw [hw3]; exact HZ2.out.below (belNew w2 _))
  have HSW : Hid (w.heap.size < w2.heap.size ∧ w2.heap.size < w3.heap.size) := Lib.hid ⟨heap_lt HZ2.out, heap_lt hx3⟩
  have hlN : (zS fa s).sl.length = 64 := zB_len
  have HW3 := Lib.hid hw3
  clear hw3 hx3
  go_wp2_with (
    (change wpList _ _ _ _ _ (w2.alloc (blkO zB NS NS))); rw [← HW3.out]; refine wpStB (b := (zS (fa) s)) (fv := NS) (av := NS) rfl _ _ rfl rfl (by kernel_rfl) HX3.out zB_len hlN rfl rfl ?_; intro w4 hx4 hg4)
  have HX4 := Lib.hid hx4
  have HZ4 : Hid (BlkAt w4 w.heap.size zB NS NS) := Lib.hid ((hg4.block _ (heap_lt HZ3.out) (fun e => by have := Option.some.inj e; have := HSW.out; omega)).trans HZ3.out)
  have HB4 : Hid (Below w.heap.size w w4) := Lib.hid (HB3.out.grown hg4 HB3.out.size (fun k hk => by cases hk; have := HSW.out; omega))
  have HS4 : Hid (w3.heap.size ≤ w4.heap.size) := Lib.hid hg4.size
  clear hx4 hg4
  obtain ⟨bN, hbN⟩ : ∃ bN : BlkS, bN = (zS (fa) s) := ⟨_, rfl⟩
  rw [← hbN] at HX4 hlN HEQ
  clear hbN
  go_wp2_with fail
  go_loopw [16] (fun j wr => ∃ i : Nat, i ≤ 64 ∧ j = .int .i64 i ∧ Hid (∃ ao n c, BlkAt wr w2.heap.size bN (.slice ao n c) NS ∧ wr.ownsRow w3.heap.size 5 1 (.slice ao n c) i (cells8 (rangeI i)) ∧ BlkAt wr w.heap.size zB NS NS ∧ Below w.heap.size w wr ∧ w3.heap.size ≤ wr.heap.size)) (fun j _ => 64 - (intOf j).toNat)
  case atStart => exact ⟨0, by omega, rfl, Lib.hid ⟨none, 0, 0, HX4.out, World.ownsRow_nil _ _ _ _, HZ4.out, HB4.out, HS4.out⟩⟩
  case round =>
    obtain ⟨i, hi, rfl, HI⟩ := hrel
    obtain ⟨ao, n, c, hx, ho, hz, hbw, hsz⟩ := HI.out
    have HO := Lib.hid ho
    have HXr := Lib.hid hx
    have HZr := Lib.hid hz
    have HBr := Lib.hid hbw
    have HSr := Lib.hid hsz
    by_cases hlt : i < 64
    · have d1 : decide ((i : Int) < 64) = true := by simp; omega
      have hwu : IntKind.u8.wrap (i : Int) = (i : Int) := by rw [IntKind.wrap_u8]; omega
      have c66 := hx.free hlN
      have HLT := Lib.hid hlt
      have hiB : i ≤ 1000001 := by omega
      clear hx ho hz hbw hsz hlt
      go_wp2_with (at_builtin; refine wpList_push1 (w0 := wr) Tryz.underlying25 info8 rfl (by decide) rfl (.tmp 20) (.tmp 23) rfl w3.heap.size _ i (cells8 (rangeI i)) (.int .u8 i) wr.heap.size rfl rfl rfl HO.out hiB HSr.out rfl ?_; intro v' w5 ho5 hb5 _; have HO5 := Lib.hid ho5; have HX5 := Lib.hid (HXr.out.keepB hb5 HSW.out.2); have HZ5 := Lib.hid (HZr.out.keepB hb5 (Nat.lt_trans HSW.out.1 HSW.out.2)); have HB5 := Lib.hid (HBr.out.trans (hb5.mono (Nat.le_of_lt (Nat.lt_trans HSW.out.1 HSW.out.2)))); have HS5 := Lib.hid (Nat.le_trans HSr.out hb5.size); obtain ⟨ao5, n5, c5, rfl⟩ := own_form ho5; have k1 := HX5.out.free hlN; have k2 := HX5.out.froz 66; clear ho5 hb5 c66)
      have HN : Hid (∃ ao n c, BlkAt (w5.setCell ⟨w2.heap.size, 66, none⟩ (.slice ao5 n5 c5)) w2.heap.size bN (.slice ao n c) NS ∧ (w5.setCell ⟨w2.heap.size, 66, none⟩ (.slice ao5 n5 c5)).ownsRow w3.heap.size 5 1 (.slice ao n c) (i + 1) (cells8 (rangeI (i + 1))) ∧ BlkAt (w5.setCell ⟨w2.heap.size, 66, none⟩ (.slice ao5 n5 c5)) w.heap.size zB NS NS ∧ Below w.heap.size w (w5.setCell ⟨w2.heap.size, 66, none⟩ (.slice ao5 n5 c5)) ∧ w3.heap.size ≤ (w5.setCell ⟨w2.heap.size, 66, none⟩ (.slice ao5 n5 c5)).heap.size) := Lib.hid (by
        refine ⟨ao5, n5, c5, HX5.out.setFree hlN _, own_set ?_ (a := ⟨w2.heap.size, 66, none⟩) HSW.out.2 _, blk_setO HZ5.out (a := ⟨w2.heap.size, 66, none⟩) (Nat.ne_of_lt HSW.out.1) _, HB5.out.setCell (p := ⟨w2.heap.size, 66, none⟩) (Nat.le_of_lt HSW.out.1) _, size_set HS5.out _ _⟩
        have := HO5.out
        rw [show cells8 (rangeI (i + 1)) = cells8 (rangeI i) ++ [.int .u8 i] from by rw [rangeI_succ]; unfold cells8; rw [List.map_append]; rfl]
        exact this)
      clear k1 k2
      go_roundw
      case rel => exact ⟨i + 1, HLT.out, by go_num, HN⟩
      case measure => simp [intOf]; have := HLT.out; omega
    · obtain rfl : i = 64 := by omega
      have d1 : decide (((64 : Nat) : Int) < 64) = false := by decide
      clear hx ho hz hbw hsz hlt
      go_wp2_with (first
        | (refine wpLdB rfl _ rfl rfl HXr.out hlN ?_)
        | (refine wpStB (b := bN) rfl _ _ rfl rfl rfl HZr.out zB_len hlN rfl rfl ?_; intro w7 hx7 hg7))
      have HBN := Lib.hid (HBr.out.grown hg7 HBr.out.size (fun k hk => by cases hk; omega))
      refine bodyPost_ret (resB2 Tryz.results4 rfl (loadVarB hx7 hlN)) rfl ⟨.slice ao n c, NS, by rw [← HEQ.out]; rfl, ?_, ?_, HBN.out⟩
      · rw [HNF.out.1]
        exact own_le (own_grown HO.out hg7 (Nat.lt_trans HSW.out.1 HSW.out.2)) (Nat.le_of_lt (Nat.lt_trans HSW.out.1 HSW.out.2))
      · rw [HNF.out.2]
        exact World.ownsRow_nil _ _ _ _
end
end Go.Proofs.YtgodmnpcedfdcaaGreat
