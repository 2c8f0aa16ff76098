/- A map as a list of its entries, whatever its keys and elements: what its operations come to. -/
import Derived.Test.YtlbgjmnihenmaaaGreatDoorJPk
import Derived.Maps.OwnOps
import Derived.Maps.OwnSet
import Derived.Maps.Views
namespace Go.Proofs.YtlbgjmnihenmaaaGreatDoor
open Go.RowKit Go.Maps
namespace VM
abbrev Ent := Lit × Value
/-- How an element reads: as itself. -/
def Rv (v : Value) : Option (DataW Value × List MemPlace) := some (.held v, [])
def datum (fs : List Ent) : DataW Value := .map (fs.map fun p => (p.1, DataW.held p.2))
def getE {β : Type} (fs : List (Lit × β)) (k : Lit) : Option β := (fs.find? (fun p => p.1.sameKey k)).map (·.2)
def insE {β : Type} (x : Lit × β) : List (Lit × β) → List (Lit × β)
  | [] => [x]
  | y :: r => if x.1.before y.1 then x :: y :: r else y :: insE x r
def delE {β : Type} (k : Lit) (fs : List (Lit × β)) : List (Lit × β) := fs.filter (fun p => !p.1.sameKey k)
def putE {β : Type} (k : Lit) (v : β) (fs : List (Lit × β)) : List (Lit × β) := insE (k, v) (delE k fs)
theorem insE_eq (x : Ent) : ∀ fs : List Ent, (insE x fs).map (fun p => (p.1, DataW.held p.2)) = DataW.insert (x.1, DataW.held x.2) (fs.map fun p => (p.1, DataW.held p.2))
  | [] => rfl
  | y :: r => by
    rw [insE, List.map_cons, DataW.insert]
    by_cases h : x.1.before y.1 = true
    · rw [if_pos h, if_pos (show x.1.before y.1 = true from h)]
      rfl
    · rw [if_neg h, if_neg (show ¬ x.1.before y.1 = true from h), List.map_cons, insE_eq x r]
theorem delE_eq (k : Lit) (fs : List Ent) : (delE k fs).map (fun p => (p.1, DataW.held p.2)) = (fs.map fun p => (p.1, (DataW.held p.2 : DataW Value))).filter (fun p => !p.1.sameKey k) := by
  unfold delE
  rw [List.filter_map]
  rfl
theorem datum_put (k : Lit) (v : Value) (fs : List Ent) : (datum fs).put k (.held v) = datum (putE k v fs) := by
  unfold datum putE
  rw [insE_eq, delE_eq]
  rfl
theorem datum_at (k : Lit) (z : DataW Value) : ∀ fs : List Ent, (datum fs).atKey k z = match getE fs k with | some v => .held v | none => z
  | [] => rfl
  | p :: r => by
    have ih := datum_at k z r
    unfold datum DataW.atKey getE at ih ⊢
    simp only [List.map_cons, List.find?_cons] at ih ⊢
    cases h : p.1.sameKey k with
    | true => rfl
    | false => exact ih
/-- Block b holds just these entries; keys are of type K. -/
def MapIs (K : TypeId) (w : World) (b n : Nat) (fs : List Ent) : Prop := w.ownsMap Tryz.prog K Rv b n (datum fs)
section
variable {K T E : TypeId} {w : World} {b n : Nat} {fs : List Ent}
theorem MapIs.lt (h : MapIs K w b n fs) : b < w.heap.size := World.ownsMap.lt h
theorem MapIs.made (K : TypeId) (w : World) : MapIs K (w.alloc (.map #[] 0)) w.heap.size 0 [] := World.ownsMap_made w _ _ _
theorem MapIs.heap {w' : World} (h : MapIs K w b n fs) (hb : w'.heap[b]? = w.heap[b]?) : MapIs K w' b n fs := by
  obtain ⟨es, clock, h1, F, hs, hD⟩ := h
  exact ⟨es, clock, hb.trans h1, F, hs, hD⟩
theorem MapIs.below {w' : World} (h : MapIs K w b n fs) (hb : Below w.heap.size w w') : MapIs K w' b n fs := h.heap (hb.block _ h.lt)
theorem MapIs.look (h : MapIs K w b n fs) (hK : Keyed Tryz.prog K) (ht : Tryz.prog.underlying T = some (.map K E)) {z : Value} (hz : (zeroValue E).run Tryz.prog w = .ok z w) {key : Value} {kl : Lit} (hk : keyOf Tryz.prog K key = some kl) (c : Bool) :
    (Instr.lookup T (.map (some b)) key c).run Tryz.prog w = .ok (if c then .tuple #[(getE fs kl).getD z, .bool (getE fs kl).isSome] else (getE fs kl).getD z) w := by
  obtain ⟨es, clock, hb, F, hsz, hD⟩ := h
  rcases fit_look c hK ht hz hb F hk with ⟨hrun, _, hat⟩ | ⟨e0, y, _, _, hrun, hRv, hat, _⟩
  · have h1 := hat (.held z)
    have h2 := hat .nil
    rw [← hD, datum_at] at h1 h2
    cases hg : getE fs kl with
    | none => rw [hrun]; rfl
    | some v => rw [hg] at h2; cases h2
  · have h2 := hat .nil
    rw [← hD, datum_at] at h2
    have e : y = (DataW.held e0.val, []) := by unfold Rv at hRv; exact (Option.some.inj hRv).symm
    rw [e] at h2
    cases hg : getE fs kl with
    | none => rw [hg] at h2; cases h2
    | some v =>
      rw [hg] at h2
      obtain rfl : v = e0.val := DataW.held.inj h2
      rw [hrun]
      rfl
theorem MapIs.put (h : MapIs K w b n fs) (hK : Keyed Tryz.prog K) (ht : Tryz.prog.underlying T = some (.map K E)) (hn : n < maxLen) {key : Value} {kl : Lit} (hk : keyOf Tryz.prog K key = some kl) (v : Value) :
    ∃ w', (Instr.mapUpdate T (.map (some b)) key v).run Tryz.prog w = .ok () w' ∧ MapIs K w' b (n + 1) (putE kl v fs) ∧ w.grownBy w' (some b) := by
  obtain ⟨w', hrun, h1, h2⟩ := World.ownsMap.update h hK ht hn hk (show Rv v = some (.held v, []) from rfl)
  rw [datum_put] at h1
  exact ⟨w', hrun, h1, h2⟩
theorem size_datum (fs : List Ent) : Maps.size (datum fs) = fs.length := by unfold datum; rw [size_eq, List.length_map]
theorem MapIs.len (h : MapIs K w b n fs) (ht : Tryz.prog.underlying T = some (.map K E)) (ty : TypeId) : (Builtin.len_ #[T] ty #[.map (some b)]).run Tryz.prog w = .ok (.int .i64 fs.length) w := by
  have := World.ownsMap.len h ht ty
  rwa [size_datum] at this
end
theorem same_iff {a b : Lit} (h : WideAt.IsKeyLit b) : a.sameKey b = true ↔ a = b := by
  cases a <;> cases b <;> first
    | (simp [WideAt.IsKeyLit] at h; done)
    | (simp [Lit.sameKey]; done)
theorem find_ins {β : Type} {x : Lit × β} {q : Lit × β → Bool} (hx : q x = false) : ∀ L : List (Lit × β), (insE x L).find? q = L.find? q
  | [] => by simp [insE, hx]
  | y :: r => by
    rw [insE]
    split
    · simp [hx]
    · rw [List.find?_cons, List.find?_cons, find_ins hx r]
theorem find_insT {β : Type} {x : Lit × β} {q : Lit × β → Bool} (hx : q x = true) : ∀ L : List (Lit × β), L.find? q = none → (insE x L).find? q = some x
  | [], _ => by simp [insE, hx]
  | y :: r, h => by
    rw [List.find?_cons] at h
    rw [insE]
    cases hy : q y with
    | true => rw [hy] at h; cases h
    | false =>
      rw [hy] at h
      split
      · simp [hx]
      · rw [List.find?_cons, hy]
        exact find_insT hx r h
theorem get_put {β : Type} {k : Lit} (hk : WideAt.IsKeyLit k) (v : β) (fs : List (Lit × β)) : getE (putE k v fs) k = some v := by
  unfold getE putE
  rw [find_insT (q := fun p => p.1.sameKey k) (x := (k, v)) ((same_iff hk).2 rfl)]
  · rfl
  · rw [List.find?_eq_none]
    intro p hp hq
    have := (List.mem_filter.1 hp).2
    rw [hq] at this
    cases this
theorem get_put_ne {β : Type} {k k' : Lit} (hk : WideAt.IsKeyLit k) (hk' : WideAt.IsKeyLit k') (hne : k ≠ k') (v : β) (fs : List (Lit × β)) : getE (putE k v fs) k' = getE fs k' := by
  unfold getE putE
  rw [find_ins (q := fun p => p.1.sameKey k') (x := (k, v)) (by
    cases h : k.sameKey k' with
    | false => rfl
    | true => exact absurd ((same_iff hk').1 h) hne)]
  unfold delE
  congr 1
  induction fs with
  | nil => rfl
  | cons y r ih =>
    rw [List.filter_cons, List.find?_cons]
    cases h1 : y.1.sameKey k with
    | true =>
      have e1 : y.1 = k := (same_iff hk).1 h1
      have h2 : y.1.sameKey k' = false := by
        cases h : y.1.sameKey k' with
        | false => rfl
        | true => exact absurd (e1.symm.trans ((same_iff hk').1 h)) hne
      rw [h2]
      exact ih
    | false =>
      simp only [Bool.not_false, if_true]
      rw [List.find?_cons]
      cases y.1.sameKey k' with
      | true => rfl
      | false => exact ih
end VM
end Go.Proofs.YtlbgjmnihenmaaaGreatDoor
