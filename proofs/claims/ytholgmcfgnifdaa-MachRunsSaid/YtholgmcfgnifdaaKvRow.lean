/- Rows of items: what is read of them; append of one to a row of the call's own. -/
import Derived.Test.YtholgmcfgnifdaaKvSort
import Derived.Maps.AppendAt
import Derived.Sort.KeysCollected
namespace Go.Proofs.Ytholgmcfgnifdaa
open Go.RowKit Go.Maps
/-- What is read of a row of items. -/
def SeesI (w : World) (v : Value) (L : List KEnt) : Prop :=
  ∃ (ao : Option Addr) (c : Nat), v = .slice ao L.length c ∧ L.length ≤ c ∧ (ao = none → L = []) ∧ ∀ a, ao = some a → ∀ i p, L[i]? = some p →
    w.cell? (a.add (i * 3)) = some (.string ⟨p.1.toArray⟩) ∧ w.cell? ((a.add (i * 3)).add 1) = some (.string p.2.1) ∧ w.cell? ((a.add (i * 3)).add 2) = some (.int .i64 p.2.2)
abbrev RowE (E : TypeId) (w : World) (B : Nat) (v : Value) (L : List KEnt) : Prop := w.ownsRow B E 3 v L.length (L.flatMap encI)
abbrev RowR (w : World) (B : Nat) (v : Value) (L : List KEnt) : Prop := RowE 89 w B v L
theorem RowE.sees {E : TypeId} {w : World} {B : Nat} {v : Value} {L : List KEnt} (h : RowE E w B v L) : SeesI w v L := by
  rcases h.2 with ⟨e, h0⟩ | ⟨g, cap, cur, e, _, hb, hn, _⟩
  · have h1 : L = [] := List.eq_nil_of_length_eq_zero h0
    subst h1
    exact ⟨none, 0, e, Nat.le_refl _, (fun _ => rfl), (fun a ha => by cases ha)⟩
  · refine ⟨_, _, e, hn, (fun h => by cases h), fun a ha i f hf => ?_⟩
    cases ha
    have hc := World.ownsRow.cells h (g := g) (by rw [e]; rfl)
    have h0 := hc (i * 3 + 0) _ ((flat_atI L i 0 f hf (by omega)).trans rfl)
    have h1 := hc (i * 3 + 1) _ ((flat_atI L i 1 f hf (by omega)).trans rfl)
    have h2 := hc (i * 3 + 2) _ ((flat_atI L i 2 f hf (by omega)).trans rfl)
    rw [Addr.add_add, Addr.add_add]
    exact ⟨h0, h1, h2⟩
theorem SeesI.keep {w w' : World} {v : Value} {L : List KEnt} (h : SeesI w v L) (hb : ∀ d, v.ownBlock = some d → d < w.heap.size → w'.heap[d]? = w.heap[d]?) : SeesI w' v L := by
  obtain ⟨ao, c, rfl, h1, h2, h3⟩ := h
  refine ⟨ao, c, rfl, h1, h2, fun a ha i f hf => ?_⟩
  obtain ⟨q1, q2, q3⟩ := h3 a ha i f hf
  subst ha
  have hl : a.block < w.heap.size := by have := cell_lt8 q1; rwa [add_block] at this
  have e := hb a.block rfl hl
  exact ⟨(World.cell?_of_block (by rw [add_block]; exact e)).trans q1, (World.cell?_of_block (by rw [add_block, add_block]; exact e)).trans q2, (World.cell?_of_block (by rw [add_block, add_block]; exact e)).trans q3⟩
theorem SeesI.below {w w' : World} {v : Value} {L : List KEnt} (h : SeesI w v L) (hb : Below w.heap.size w w') : SeesI w' v L := h.keep (fun d _ hd => hb.block d hd)
theorem row_leE {E : TypeId} {w : World} {B B' : Nat} {v : Value} {L : List KEnt} (h : RowE E w B v L) (hb : B' ≤ B) : RowE E w B' v L := ⟨h.1, h.2.imp id fun ⟨g, cap, cur, e, b, r⟩ => ⟨g, cap, cur, e, Nat.le_trans hb b, r⟩⟩
theorem row_neE {E : TypeId} {w : World} {B r : Nat} {v : Value} {L : List KEnt} (h : RowE E w B v L) (hr : r < B) : v.ownBlock = none ∨ v.ownBlock ≠ some r := by
  cases hv : v.ownBlock with
  | none => exact Or.inl rfl
  | some d => exact Or.inr (fun e => by have h1 := (World.ownsRow.lt h d hv).1; have h2 := Option.some.inj e; omega)
theorem row_keep {E : TypeId} {w w' : World} {B : Nat} {v : Value} {L : List KEnt} (h : RowE E w B v L) (hb : Below w.heap.size w w') : RowE E w' B v L :=
  ⟨h.1, h.2.imp id fun ⟨g, cap, cur, e, b, hg, r⟩ => ⟨g, cap, cur, e, b, (hb.block g (heap_lt hg)).trans hg, r⟩⟩
theorem infoK : (Try.prog.info? 76).map (fun i => (i.zero, i.size, i.bytes)) = some (some zeroF, 3, 40) := by kernel_rfl
theorem infoR : (Try.prog.info? 89).map (fun i => (i.zero, i.size, i.bytes)) = some (some zeroF, 3, 40) := by kernel_rfl
theorem add0 (g n : Nat) : (⟨g, 0, none⟩ : Addr).add n = ⟨g, n, none⟩ := by
  unfold Addr.add
  by_cases h : n = 0
  · subst h; rfl
  · simp [h]
/-- append of one item to a row of the call's own. -/
theorem wpList_push {T E : TypeId} (hTE : Try.prog.underlying T = some (.slice E)) (hI : (Try.prog.info? E).map (fun i => (i.zero, i.size, i.bytes)) = some (some zeroF, 3, 40)) {w0 : World} {ops : Array Oper} {rest : List Oper} {o : Oper} {a : Act} {Q : Exit → Act → World → Prop} (hgd : o.guard = none) (s x : Operand)
    (ho : o.op = .call { callee := .builtin .append, args := #[s, x], argTypes := #[T, T] }) (B : Nat) (v : Value) (L : List KEnt) (nm : ByteArray) (u : ByteArray × Int)
    (k : Nat) (hk : k = w0.heap.size) (hs : a.eval s = v) (hx : a.eval x = .slice (some ⟨k, 0, none⟩) 1 1) (hrow : RowE E w0 B v L) (hlen : L.length ≤ 1000001) (hB : B ≤ w0.heap.size)
    (h : ∀ v' w', RowE E w' B v' (L ++ [(nm.data.toList, u)]) → Below B w0 w' → w0.grownBy w' v.ownBlock → wpList Try.prog ops Q rest (a.put o.dst v') w') :
    wpList Try.prog ops Q (o :: rest) a (w0.alloc (.cells #[.string nm, .string u.1, .int .i64 u.2] E)) := by
  subst hk
  obtain ⟨i0, hi, hz0, hz1, hz2⟩ := info_parts hI
  have hbk := heap_alloc_new w0 (.cells #[.string nm, .string u.1, .int .i64 u.2] E)
  refine wpList_append_own _ hgd s x T ho B E i0 zeroF 3 40 hTE hi hz0 hz1 hz2 rfl (by decide) v _ _ hs (hrow.alloc _) ⟨w0.heap.size, 0, none⟩ 1 1 [.string nm, .string u.1, .int .i64 u.2] hx rfl (fun j y hj => ?_) ?_ (by unfold maxLen; omega) (by omega) (by simp; omega) ?_
  · rw [add0]
    rcases j with _ | _ | _ | j
    · obtain rfl : Value.string nm = y := by simpa using hj
      exact (rcells hbk).1
    · obtain rfl : Value.string u.1 = y := by simpa using hj
      exact (rcells hbk).2.1
    · obtain rfl : Value.int .i64 u.2 = y := by simpa using hj
      exact (rcells hbk).2.2
    · simp at hj
  · intro y hy
    simp only [List.mem_cons, List.not_mem_nil, or_false] at hy
    rcases hy with rfl | rfl | rfl <;> rfl
  · intro v' w' hown' hgrow _
    have hg0 : w0.grownBy w' v.ownBlock := World.grownBy.trans (b := w0.alloc (.cells #[.string nm, .string u.1, .int .i64 u.2] E)) ⟨rfl, rfl, rfl, by simp, fun k hk _ => Below.heap_alloc w0 _ k hk⟩ hgrow
    refine h v' w' ?_ ((Below.refl B w0).grown hg0 hB (fun k hk => (hrow.lt k hk).1)) hg0
    have e1 : (L ++ [(nm.data.toList, u)]).length = L.length + 1 := by simp
    have e2 : (L ++ [(nm.data.toList, u)]).flatMap encI = L.flatMap encI ++ [.string nm, .string u.1, .int .i64 u.2] := by simp [List.flatMap_append]
    show w'.ownsRow _ _ _ _ _ _
    rw [e1, e2]
    exact hown'
theorem dat_at {L : List KEnt} {k : List UInt8} {c : Value} (h : ∀ zd, (datum (entsV L)).atKey (.string k) zd = .held c) : ∃ u, getE L k = some u ∧ c = itV k u := by
  have h1 := h .nil
  rw [datum_at, getE_ents] at h1
  cases hg : getE L k with
  | none => rw [hg] at h1; cases h1
  | some u => rw [hg] at h1; exact ⟨u, rfl, (DataW.held.inj h1).symm⟩
theorem getE_memL {β : Type} {es : List (List UInt8 × β)} {k : List UInt8} {v : β} (h : getE es k = some v) : (k, v) ∈ es := by
  unfold getE at h
  cases hf : es.find? (fun p => p.1 == k) with
  | none => rw [hf] at h; cases h
  | some p =>
    rw [hf] at h
    have h1 := List.mem_of_find?_eq_some hf
    have h2 := List.find?_some hf
    have h3 : p.2 = v := Option.some.inj h
    have h4 : p.1 = k := by simpa using h2
    rw [← h3, ← h4]
    exact h1
/-- What a range over a map of items has met so far, of those whose keys are wanted. -/
def Met (L : List KEnt) (pf : List UInt8 → Bool) (left : Lit → Bool) (T : List KEnt) : Prop := T.Pairwise (fun p q => p.1 ≠ q.1) ∧ ∀ p, p ∈ T ↔ (p ∈ L ∧ pf p.1 = true ∧ left (.string p.1) = false)
theorem has_ents (L : List KEnt) (p : KEnt) (h : p ∈ L) : Maps.has (datum (entsV L)) (.string p.1) = true := by
  refine List.any_eq_true.2 ⟨(Lit.string p.1, DataW.held (itV p.1 p.2)), ?_, by simp [Lit.sameKey]⟩
  exact List.mem_map.2 ⟨(p.1, itV p.1 p.2), List.mem_map.2 ⟨p, h, rfl⟩, rfl⟩
theorem Met.start (L : List KEnt) (pf : List UInt8 → Bool) : Met L pf (Maps.has (datum (entsV L))) [] :=
  ⟨List.Pairwise.nil, fun p => by
    constructor
    · intro h; cases h
    · rintro ⟨h1, _, h2⟩
      rw [has_ents L p h1] at h2; cases h2⟩
theorem Rising.keys {β : Type} {L : List (List UInt8 × β)} (h : Rising L) {p q : List UInt8 × β} (hp : p ∈ L) (hq : q ∈ L) (e : p.1 = q.1) : p = q := by
  induction L with
  | nil => cases hp
  | cons a L ih =>
    obtain ⟨h1, h2⟩ := List.pairwise_cons.1 h
    rcases List.mem_cons.1 hp with e1 | hp1 <;> rcases List.mem_cons.1 hq with e2 | hq1
    · rw [e1, e2]
    · have := h1 q hq1; rw [← e1, e, WideAt.bytes_irrefl] at this; cases this
    · have := h1 p hp1; rw [← e2, e, WideAt.bytes_irrefl] at this; cases this
    · exact ih h2 hp1 hq1
theorem Met.step {L : List KEnt} {pf : List UInt8 → Bool} {left : Lit → Bool} {T : List KEnt} (h : Met L pf left T) (hr : Rising L) {k : List UInt8} {u : ByteArray × Int} (hm : (k, u) ∈ L) (hl : left (.string k) = true) :
    Met L pf (fun z => left z && !z.sameKey (.string k)) (if pf k = true then T ++ [(k, u)] else T) := by
  have hs : ∀ x : List UInt8, (Lit.string x).sameKey (.string k) = decide (x = k) := fun x => by by_cases e : x = k <;> simp [Lit.sameKey, e]
  have hno : ∀ p ∈ T, p.1 ≠ k := fun p hp e => by
    have := ((h.2 p).1 hp).2.2
    rw [e, hl] at this; cases this
  have key : ∀ p : KEnt, p ∈ L → (p.1 = k ↔ p = (k, u)) := fun p hp => ⟨fun e => hr.keys hp hm e, fun e => by rw [e]⟩
  by_cases hp : pf k = true
  · rw [if_pos hp]
    refine ⟨List.pairwise_append.2 ⟨h.1, List.pairwise_singleton _ _, fun p hpT q hq => ?_⟩, fun p => ?_⟩
    · obtain rfl : q = (k, u) := by simpa using hq
      exact hno p hpT
    · rw [List.mem_append, h.2 p, List.mem_singleton]
      simp only [hs]
      constructor
      · rintro (⟨h1, h2, h3⟩ | rfl)
        · exact ⟨h1, h2, by rw [h3]; rfl⟩
        · exact ⟨hm, hp, by simp⟩
      · rintro ⟨h1, h2, h3⟩
        by_cases e : p.1 = k
        · exact Or.inr ((key p h1).1 e)
        · refine Or.inl ⟨h1, h2, by simpa [e] using h3⟩
  · rw [if_neg hp]
    refine ⟨h.1, fun p => ?_⟩
    rw [h.2 p]
    simp only [hs]
    constructor
    · rintro ⟨h1, h2, h3⟩
      exact ⟨h1, h2, by rw [h3]; rfl⟩
    · rintro ⟨h1, h2, h3⟩
      have e : p.1 ≠ k := fun e => hp (e ▸ h2)
      exact ⟨h1, h2, by simpa [e] using h3⟩
/-- All have been met: sorted they are those that are wanted, in order. -/
theorem Met.done {L : List KEnt} {pf : List UInt8 → Bool} {left : Lit → Bool} {T T' : List KEnt} (h : Met L pf left T) (hr : Rising L) (hl : ∀ z, left z = false) (hp : T'.Perm T) (hs : Rising T') : T' = L.filter (fun p => pf p.1) := by
  have h2 : Rising (L.filter fun p => pf p.1) := List.Pairwise.filter _ hr
  have hmem : ∀ p, p ∈ T' ↔ p ∈ L.filter (fun p => pf p.1) := fun p => by
    rw [hp.mem_iff, h.2 p, List.mem_filter]
    simp [hl]
  have nd : ∀ {M : List KEnt}, Rising M → M.Nodup := fun hM => hM.imp fun {a b} hab e => by rw [e, WideAt.bytes_irrefl] at hab; cases hab
  have hperm : T'.Perm (L.filter fun p => pf p.1) := (List.perm_ext_iff_of_nodup (nd hs) (nd h2)).2 hmem
  refine List.Perm.eq_of_pairwise (le := fun (a b : KEnt) => bytesBefore a.1 b.1 = true) (fun a b _ _ h1 h2 => ?_) hs h2 hperm
  have := WideShapes.bytes_trans _ _ _ h1 h2
  rw [WideAt.bytes_irrefl] at this; cases this
end Go.Proofs.Ytholgmcfgnifdaa
