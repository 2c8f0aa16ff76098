/- Joined: BkRow BkI BkJ. -/
import Derived.Test.YtlbgjmnihenmaaaGreatDoorBkH
import Derived.Maps.AppendAt
import Derived.Lib.SliceRun
namespace Go.Proofs.YtlbgjmnihenmaaaGreatDoor
section
open Go.RowKit Go.Lib
theorem add0 (g n : Nat) : (⟨g, 0, none⟩ : Addr).add n = ⟨g, n, none⟩ := by
  unfold Addr.add
  by_cases h : n = 0
  · subst h; rfl
  · simp [h]
theorem bcell {w W : World} {a : Addr} {v : Value} (hb : Below w.heap.size w W) (h : w.cell? a = some v) : W.cell? a = some v := bcellB hb h
abbrev encA (p : PA) : List Value := [.string p.1, .string p.2]
def zeroA : Value := .agg #[.string ⟨#[]⟩, .string ⟨#[]⟩]
theorem flat_atA : ∀ (L : List PA) (i j : Nat) (f : PA), L[i]? = some f → j < 2 → (L.flatMap encA)[i * 2 + j]? = (encA f)[j]?
  | [], i, j, f, h, _ => by simp at h
  | a :: L, 0, j, f, h, hj => by
    obtain rfl : a = f := by simpa using h
    rw [List.flatMap_cons, Nat.zero_mul, Nat.zero_add, List.getElem?_append_left (by simp; omega)]
  | a :: L, i + 1, j, f, h, hj => by
    rw [List.flatMap_cons, List.getElem?_append_right (by simp; omega)]
    have e : (i + 1) * 2 + j - (encA a).length = i * 2 + j := by simp; omega
    rw [e]
    exact flat_atA L i j f (by simpa using h) hj
abbrev RowA (E : TypeId) (w : World) (B : Nat) (v : Value) (L : List PA) : Prop := w.ownsRow B E 2 v L.length (L.flatMap encA)
theorem RowA.sees {E : TypeId} {w : World} {B : Nat} {v : Value} {L : List PA} (h : RowA E w B v L) : SeesA w v L := by
  rcases h.2 with ⟨e, h0⟩ | ⟨g, cap, cur, e, _, hb, hn, _⟩
  · have h1 : L = [] := List.eq_nil_of_length_eq_zero h0
    subst h1
    exact ⟨none, 0, e, Nat.le_refl _, (fun _ => rfl), (fun a ha => by cases ha)⟩
  · refine ⟨_, _, e, hn, (fun h => by cases h), fun a ha i f hf => ?_⟩
    cases ha
    have hc := World.ownsRow.cells h (g := g) (by rw [e]; rfl)
    have h0 := hc (i * 2 + 0) _ ((flat_atA L i 0 f hf (by omega)).trans rfl)
    have h1 := hc (i * 2 + 1) _ ((flat_atA L i 1 f hf (by omega)).trans rfl)
    rw [Addr.add_add]
    exact ⟨h0, h1⟩
theorem SeesA.nil (w : World) : SeesA w (.slice none 0 0) [] := ⟨none, 0, rfl, Nat.le_refl _, fun _ => rfl, fun _ h => by cases h⟩
theorem row_leA {E : TypeId} {w : World} {B B' : Nat} {v : Value} {L : List PA} (h : RowA E w B v L) (hb : B' ≤ B) : RowA E w B' v L := ⟨h.1, h.2.imp id fun ⟨g, cap, cur, e, b, r⟩ => ⟨g, cap, cur, e, Nat.le_trans hb b, r⟩⟩
theorem row_keepA {E : TypeId} {w w' : World} {B : Nat} {v : Value} {L : List PA} (h : RowA E w B v L) (hb : Below w.heap.size w w') : RowA E w' B v L :=
  ⟨h.1, h.2.imp id fun ⟨g, cap, cur, e, b, hg, r⟩ => ⟨g, cap, cur, e, b, (hb.block g (heap_lt hg)).trans hg, r⟩⟩
theorem infoA : (Tryz.prog.info? 76).map (fun i => (i.zero, i.size, i.bytes)) = some (some zeroA, 2, 32) := by kernel_rfl
theorem infoRA : (Tryz.prog.info? 73).map (fun i => (i.zero, i.size, i.bytes)) = some (some zeroA, 2, 32) := by kernel_rfl
theorem acells {w : World} {g : Nat} {x y : Value} {t : TypeId} {fr : Nat × Nat} (h : w.heap[g]? = some (.cells #[x, y] t fr)) : w.cell? ⟨g, 0, none⟩ = some x ∧ w.cell? ⟨g, 1, none⟩ = some y := by simp [World.cell?, h]
abbrev cntA (p : PA) (t : TypeId) : Obj := .cells #[.string p.1, .string p.2] t
/-- append of one count to a row of the call's own. -/
theorem wpList_pushA {T E : TypeId} (hTE : Tryz.prog.underlying T = some (.slice E)) (hI : (Tryz.prog.info? E).map (fun i => (i.zero, i.size, i.bytes)) = some (some zeroA, 2, 32)) {w0 : World} {ops : Array Oper} {rest : List Oper} {o : Oper} {a : Act} {Q : Exit → Act → World → Prop} (hgd : o.guard = none) (s x : Operand)
    (ho : o.op = .call { callee := .builtin .append, args := #[s, x], argTypes := #[T, T] }) (B : Nat) (v : Value) (L : List PA) (u : PA)
    (k : Nat) (hk : k = w0.heap.size) (hs : a.eval s = v) (hx : a.eval x = .slice (some ⟨k, 0, none⟩) 1 1) (hrow : RowA E w0 B v L) (hlen : L.length ≤ 1000001) (hB : B ≤ w0.heap.size)
    (h : ∀ v' w', RowA E w' B v' (L ++ [u]) → Below B w0 w' → w0.grownBy w' v.ownBlock → wpList Tryz.prog ops Q rest (a.put o.dst v') w') :
    wpList Tryz.prog ops Q (o :: rest) a (w0.alloc (cntA u E)) := by
  subst hk
  obtain ⟨i0, hi, hz0, hz1, hz2⟩ := info_parts hI
  have hbk : (w0.alloc (cntA u E)).heap[w0.heap.size]? = some (cntA u E) := heap_alloc_new w0 _
  refine wpList_append_own _ hgd s x T ho B E i0 zeroA 2 32 hTE hi hz0 hz1 hz2 rfl (by decide) v _ _ hs (hrow.alloc _) ⟨w0.heap.size, 0, none⟩ 1 1 [.string u.1, .string u.2] hx rfl (fun j y hj => ?_) ?_ (by unfold maxLen; omega) (by omega) (by simp; omega) ?_
  · rw [add0]
    rcases j with _ | _ | j
    · obtain rfl : Value.string u.1 = y := by simpa using hj
      exact (acells hbk).1
    · obtain rfl : Value.string u.2 = y := by simpa using hj
      exact (acells hbk).2
    · simp at hj
  · intro y hy
    simp only [List.mem_cons, List.not_mem_nil, or_false] at hy
    rcases hy with rfl | rfl <;> rfl
  · intro v' w' hown' hgrow _
    have hg0 : w0.grownBy w' v.ownBlock := World.grownBy.trans (b := w0.alloc (cntA u E)) ⟨rfl, rfl, rfl, by simp, fun k hk _ => Below.heap_alloc w0 _ k hk⟩ hgrow
    refine h v' w' ?_ ((Below.refl B w0).grown hg0 hB (fun k hk => (hrow.lt k hk).1)) hg0
    have e1 : (L ++ [u]).length = L.length + 1 := by simp
    have e2 : (L ++ [u]).flatMap encA = L.flatMap encA ++ [.string u.1, .string u.2] := by simp [List.flatMap_append]
    show w'.ownsRow _ _ _ _ _ _
    rw [e1, e2]
    exact hown'
theorem heap_new (w : World) (o : Obj) : (w.alloc o).heap[w.heap.size]? = some o := by
  show (w.heap.push o)[w.heap.size]? = some o
  simp
def atA (L : List PA) (k : Nat) : PA := L.getD k (⟨#[]⟩, ⟨#[]⟩)
abbrev EAt : TypeId := 76
end
section
open Go.RowKit
theorem own_grown {E : TypeId} {s B n g : Nat} {w w' : World} {v : Value} {xs : List Value} (h : w.ownsRow B E s v n xs) (hg : w.grownBy w' (some g)) (hB : g < B) : w'.ownsRow B E s v n xs :=
  ⟨h.1, h.2.imp id fun ⟨b, cap, cur, e, hb, hh, r⟩ => ⟨b, cap, cur, e, hb, (hg.block b (heap_lt hh) (fun e => by have := Option.some.inj e; omega)).trans hh, r⟩⟩
theorem own_set {E : TypeId} {s B n : Nat} {w : World} {v : Value} {xs : List Value} (h : w.ownsRow B E s v n xs) {a : Addr} (ha : a.block < B) (u : Value) : (w.setCell a u).ownsRow B E s v n xs :=
  ownsRow_setCell_other h (fun e => by have := (h.lt _ e).1; omega) u
theorem blk_setO {w : World} {g : Nat} {b : BlkS} {fv av : Value} (h : BlkAt w g b fv av) {a : Addr} (ha : g ≠ a.block) (u : Value) : BlkAt (w.setCell a u) g b fv av := by
  show (w.setCell a u).heap[g]? = _
  rw [Below.heap_setCell _ _ _ _ ha]
  exact h
end
section
open Go.RowKit
def zS (a : Int) (s : ByteArray) : BlkS := ⟨a, s, List.replicate 64 0, [], []⟩
theorem buildZ (w : World) : (Instr.build TB #[]).run Tryz.prog w = .ok (.agg (blkL zB NS NS).toArray) w := by kernel_rfl
/-- append of one cell to a row of the call's own. -/
theorem wpList_push1 {T E : TypeId} {z : Value} {by1 : Nat} (hTE : Tryz.prog.underlying T = some (.slice E)) (hI : (Tryz.prog.info? E).map (fun i => (i.zero, i.size, i.bytes)) = some (some z, 1, by1)) (hzc : z.cells.size = 1) (hby : by1 ≤ 16) {w0 : World} {ops : Array Oper} {rest : List Oper} {o : Oper} {a : Act} {Q : Exit → Act → World → Prop} (hgd : o.guard = none) (s x : Operand)
    (ho : o.op = .call { callee := .builtin .append, args := #[s, x], argTypes := #[T, T] }) (B : Nat) (v : Value) (n : Nat) (xs : List Value) (u : Value)
    (k : Nat) (hk : k = w0.heap.size) (hs : a.eval s = v) (hx : a.eval x = .slice (some ⟨k, 0, none⟩) 1 1) (hrow : w0.ownsRow B E 1 v n xs) (hlen : n ≤ 1000001) (hB : B ≤ w0.heap.size) (h1 : u.oneCell' = true)
    (h : ∀ v' w', w'.ownsRow B E 1 v' (n + 1) (xs ++ [u]) → Below B w0 w' → w0.grownBy w' v.ownBlock → wpList Tryz.prog ops Q rest (a.put o.dst v') w') :
    wpList Tryz.prog ops Q (o :: rest) a (w0.alloc (.cells #[u] E)) := by
  subst hk
  obtain ⟨i0, hi, hz0, hz1, hz2⟩ := info_parts hI
  have hbk : (w0.alloc (.cells #[u] E)).heap[w0.heap.size]? = some (.cells #[u] E (0, 0)) := heap_alloc_new w0 _
  refine wpList_append_own _ hgd s x T ho B E i0 z 1 by1 hTE hi hz0 hz1 hz2 hzc (by decide) v _ _ hs (hrow.alloc _) ⟨w0.heap.size, 0, none⟩ 1 1 [u] hx rfl (fun j y hj => ?_) ?_ (by unfold maxLen; omega) (by have : (n + 1) * by1 ≤ (n + 1) * 16 := Nat.mul_le_mul_left _ hby; omega) (by simp; omega) ?_
  · rw [add0]
    rcases j with _ | j
    · obtain rfl : u = y := by simpa using hj
      exact cell_of_one hbk
    · simp at hj
  · intro y hy
    obtain rfl : y = u := by simpa using hy
    exact h1
  · intro v' w' hown' hgrow _
    have hg0 : w0.grownBy w' v.ownBlock := World.grownBy.trans (b := w0.alloc (.cells #[u] E)) ⟨rfl, rfl, rfl, by simp, fun k hk _ => Below.heap_alloc w0 _ k hk⟩ hgrow
    exact h v' w' hown' ((Below.refl B w0).grown hg0 hB (fun k hk => (hrow.lt k hk).1)) hg0
theorem own_form {E : TypeId} {s B n : Nat} {w : World} {v : Value} {xs : List Value} (h : w.ownsRow B E s v n xs) : ∃ ao m c, v = .slice ao m c := by
  rcases h.2 with ⟨e, _⟩ | ⟨g, cap, cur, e, _⟩
  · exact ⟨_, _, _, e⟩
  · exact ⟨_, _, _, e⟩
theorem own_le {E : TypeId} {s B B' n : Nat} {w : World} {v : Value} {xs : List Value} (h : w.ownsRow B E s v n xs) (hb : B' ≤ B) : w.ownsRow B' E s v n xs :=
  ⟨h.1, h.2.imp id fun ⟨g, cap, cur, e, b, r⟩ => ⟨g, cap, cur, e, Nat.le_trans hb b, r⟩⟩
theorem own_keep {E : TypeId} {s B n : Nat} {w w' : World} {v : Value} {xs : List Value} (h : w.ownsRow B E s v n xs) (hb : Below w.heap.size w w') : w'.ownsRow B E s v n xs :=
  ⟨h.1, h.2.imp id fun ⟨g, cap, cur, e, b, hg, r⟩ => ⟨g, cap, cur, e, b, (hb.block g (heap_lt hg)).trans hg, r⟩⟩
/-- What a block is that is told. -/
structure BlkRet (w w' : World) (b : BlkS) (fv av : Value) : Prop where
  free : Owns w' w.heap.size fv b.free
  attrs : RowA EAt w' w.heap.size av b.attrs
  below : Below w.heap.size w w'
end
end Go.Proofs.YtlbgjmnihenmaaaGreatDoor
