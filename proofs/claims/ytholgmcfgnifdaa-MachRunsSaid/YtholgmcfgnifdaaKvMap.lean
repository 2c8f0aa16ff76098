/- A map from keys to items as a list that rises: what its operations come to. Conditions: a name's size is one that Go's strings have. -/
import Derived.Test.YtholgmcfgnifdaaPkR
import Derived.Maps.OwnOps
namespace Go.Proofs.Ytholgmcfgnifdaa
open Go.RowKit Go.Maps
abbrev Ent := List UInt8 × Value
/-- How an element reads: as itself. -/
def Rv (v : Value) : Option (DataW Value × List MemPlace) := some (.held v, [])
def datum (fs : List Ent) : DataW Value := .map (fs.map fun p => (Lit.string p.1, DataW.held p.2))
/-- Block b holds just these entries. -/
def MapIs (w : World) (b n : Nat) (fs : List Ent) : Prop := w.ownsMap Try.prog 9 Rv b n (datum fs)
def getE {β : Type} (fs : List (List UInt8 × β)) (k : List UInt8) : Option β := (fs.find? (fun p => p.1 == k)).map (·.2)
def insE {β : Type} (x : List UInt8 × β) : List (List UInt8 × β) → List (List UInt8 × β)
  | [] => [x]
  | y :: r => if bytesBefore x.1 y.1 then x :: y :: r else y :: insE x r
def delE {β : Type} (k : List UInt8) (fs : List (List UInt8 × β)) : List (List UInt8 × β) := fs.filter (fun p => !(p.1 == k))
def putE {β : Type} (k : List UInt8) (v : β) (fs : List (List UInt8 × β)) : List (List UInt8 × β) := insE (k, v) (delE k fs)
theorem keyedS : Keyed Try.prog 9 := string_keyed Try.underlying9
theorem keyS {s : ByteArray} (hs : s.size ≤ maxLen) : keyOf Try.prog 9 (.string s) = some (.string s.data.toList) := Go.WideMaps.keyOf_string_mk Try.underlying9 hs
theorem insE_eq (x : Ent) : ∀ fs : List Ent, (insE x fs).map (fun p => (Lit.string p.1, DataW.held p.2)) = DataW.insert (Lit.string x.1, DataW.held x.2) (fs.map fun p => (Lit.string p.1, DataW.held p.2))
  | [] => rfl
  | y :: r => by
    rw [insE, List.map_cons, DataW.insert]
    by_cases h : bytesBefore x.1 y.1 = true
    · rw [if_pos h, if_pos (show (Lit.string x.1).before (Lit.string y.1) = true from h)]
      rfl
    · rw [if_neg h, if_neg (show ¬ (Lit.string x.1).before (Lit.string y.1) = true from h), List.map_cons, insE_eq x r]
theorem delE_eq (k : List UInt8) (fs : List Ent) : (delE k fs).map (fun p => (Lit.string p.1, DataW.held p.2)) = (fs.map fun p => (Lit.string p.1, (DataW.held p.2 : DataW Value))).filter (fun p => !p.1.sameKey (.string k)) := by
  unfold delE
  rw [List.filter_map]
  rfl
theorem datum_put (k : List UInt8) (v : Value) (fs : List Ent) : (datum fs).put (.string k) (.held v) = datum (putE k v fs) := by
  unfold datum putE
  rw [insE_eq, delE_eq]
  rfl
theorem datum_del (k : List UInt8) (fs : List Ent) : (datum fs).del (.string k) = datum (delE k fs) := by
  unfold datum
  rw [delE_eq]
  rfl
theorem datum_at (k : List UInt8) (z : DataW Value) : ∀ fs : List Ent, (datum fs).atKey (.string k) z = match getE fs k with | some v => .held v | none => z
  | [] => rfl
  | p :: r => by
    have ih := datum_at k z r
    unfold datum DataW.atKey getE at ih ⊢
    simp only [List.map_cons, List.find?_cons] at ih ⊢
    by_cases h : p.1 = k
    · have e1 : (Lit.string p.1).sameKey (Lit.string k) = true := by simp [Lit.sameKey, h]
      have e2 : (p.1 == k) = true := by simp [h]
      rw [e1, e2]
      rfl
    · have e1 : (Lit.string p.1).sameKey (Lit.string k) = false := by simp [Lit.sameKey, h]
      have e2 : (p.1 == k) = false := by simp [h]
      rw [e1, e2]
      exact ih
theorem MapIs.lt {w : World} {b n : Nat} {fs : List Ent} (h : MapIs w b n fs) : b < w.heap.size := World.ownsMap.lt h
theorem MapIs.len {w : World} {b n : Nat} {fs : List Ent} (h : MapIs w b n fs) : fs.length ≤ n := by
  obtain ⟨es, clock, hb, F, hs, hD⟩ := h
  unfold datum at hD
  injection hD with hD
  have h2 := congrArg List.length hD
  rw [List.length_map, length_sorted, List.length_map] at h2
  have h3 : es.toList.length = es.size := Array.length_toList
  omega
theorem MapIs.made (w : World) : MapIs (w.alloc (.map #[] 0)) w.heap.size 0 [] := World.ownsMap_made w _ _ _
theorem MapIs.heap {w w' : World} {b n : Nat} {fs : List Ent} (h : MapIs w b n fs) (hb : w'.heap[b]? = w.heap[b]?) : MapIs w' b n fs := by
  obtain ⟨es, clock, h1, F, hs, hD⟩ := h
  exact ⟨es, clock, hb.trans h1, F, hs, hD⟩
/-- The zero value of an item. -/
def zeroF : Value := .agg #[.string ⟨#[]⟩, .string ⟨#[]⟩, .int .i64 0]
theorem zeroFile (w : World) : (zeroValue 76).run Try.prog w = .ok zeroF w := by kernel_rfl
theorem MapIs.look {w : World} {b n : Nat} {fs : List Ent} (h : MapIs w b n fs) {s : ByteArray} (hs : s.size ≤ maxLen) (c : Bool) :
    (Instr.lookup 77 (.map (some b)) (.string s) c).run Try.prog w = .ok (if c then .tuple #[(getE fs s.data.toList).getD zeroF, .bool (getE fs s.data.toList).isSome] else (getE fs s.data.toList).getD zeroF) w := by
  obtain ⟨es, clock, hb, F, hsz, hD⟩ := h
  rcases fit_look c keyedS Try.underlying77 (zeroFile w) hb F (keyS hs) with ⟨hrun, _, hat⟩ | ⟨e0, y, _, _, hrun, hRv, hat, _⟩
  · have h1 := hat (.held zeroF)
    have h2 := hat .nil
    rw [← hD, datum_at] at h1 h2
    cases hg : getE fs s.data.toList with
    | none => rw [hrun]; rfl
    | some v => rw [hg] at h2; cases h2
  · have h2 := hat .nil
    rw [← hD, datum_at] at h2
    have e : y = (DataW.held e0.val, []) := by unfold Rv at hRv; exact (Option.some.inj hRv).symm
    rw [e] at h2
    cases hg : getE fs s.data.toList with
    | none => rw [hg] at h2; cases h2
    | some v =>
      rw [hg] at h2
      obtain rfl : v = e0.val := DataW.held.inj h2
      rw [hrun]
      rfl
theorem MapIs.put {w : World} {b n : Nat} {fs : List Ent} (h : MapIs w b n fs) (hn : n < maxLen) {s : ByteArray} (hs : s.size ≤ maxLen) (v : Value) :
    ∃ w', (Instr.mapUpdate 77 (.map (some b)) (.string s) v).run Try.prog w = .ok () w' ∧ MapIs w' b (n + 1) (putE s.data.toList v fs) ∧ w.grownBy w' (some b) := by
  obtain ⟨w', hrun, h1, h2⟩ := World.ownsMap.update h keyedS Try.underlying77 hn (keyS hs) (show Rv v = some (.held v, []) from rfl)
  rw [datum_put] at h1
  exact ⟨w', hrun, h1, h2⟩
theorem MapIs.del {w : World} {b n : Nat} {fs : List Ent} (h : MapIs w b n fs) {s : ByteArray} (hs : s.size ≤ maxLen) (ty : TypeId) :
    ∃ w', (Builtin.delete_ #[77, 9] ty #[.map (some b), .string s]).run Try.prog w = .ok (.tuple #[]) w' ∧ MapIs w' b n (delE s.data.toList fs) ∧ w.grownBy w' (some b) := by
  obtain ⟨es, clock, hb, F, hsz, hD⟩ := h
  obtain ⟨es', hrun, F', hsz', hdel, _⟩ := fit_drop (w := w) (ty := ty) keyedS Try.underlying77 hb F (keyS hs)
  refine ⟨_, hrun, ⟨es', clock, ChangeMaps.heap_setBlock_same hb _, F', Nat.le_trans hsz' hsz, ?_⟩, ⟨rfl, rfl, rfl, by simp [ChangeMaps.setBlock], fun i _ hi => ChangeMaps.heap_setBlock_other hb _ (fun e => hi (by rw [e]))⟩⟩
  rw [hdel, ← datum_del, hD]
  rfl
/-! Names rise. -/
def Rising {β : Type} (fs : List (List UInt8 × β)) : Prop := fs.Pairwise (fun p q => bytesBefore p.1 q.1 = true)
theorem lt_of_before : ∀ {a b : List UInt8}, bytesBefore a b = true → a < b
  | [], [], h => by simp [bytesBefore] at h
  | [], _ :: _, _ => List.nil_lt_cons _ _
  | _ :: _, [], h => by simp [bytesBefore] at h
  | x :: r, y :: s, h => by
    simp only [bytesBefore, Bool.or_eq_true, Bool.and_eq_true, decide_eq_true_eq, beq_iff_eq] at h
    rw [List.cons_lt_cons_iff]
    rcases h with h | ⟨h1, h2⟩
    · exact Or.inl h
    · exact Or.inr ⟨h1, lt_of_before h2⟩
theorem le_of_before {a b : List UInt8} (h : bytesBefore a b = true) : a ≤ b := List.le_of_lt (lt_of_before h)
theorem size_datum (fs : List Ent) : Maps.size (datum fs) = fs.length := by unfold datum; rw [size_eq, List.length_map]
theorem mem_insE {β : Type} {x p : List UInt8 × β} : ∀ {fs : List (List UInt8 × β)}, p ∈ insE x fs ↔ p = x ∨ p ∈ fs
  | [] => by simp [insE]
  | y :: r => by
    rw [insE]
    split
    · simp
    · rw [List.mem_cons, mem_insE, List.mem_cons]
      constructor
      · rintro (h | h | h)
        · exact Or.inr (Or.inl h)
        · exact Or.inl h
        · exact Or.inr (Or.inr h)
      · rintro (h | h | h)
        · exact Or.inr (Or.inl h)
        · exact Or.inl h
        · exact Or.inr (Or.inr h)
theorem Rising.del {β : Type} {fs : List (List UInt8 × β)} (h : Rising fs) (k : List UInt8) : Rising (delE k fs) := List.Pairwise.filter _ h
theorem Rising.ins {β : Type} : ∀ {fs : List (List UInt8 × β)} {x : List UInt8 × β}, Rising fs → (∀ p ∈ fs, p.1 ≠ x.1) → Rising (insE x fs)
  | [], x, _, _ => by simp [insE, Rising]
  | y :: r, x, h, hne => by
    obtain ⟨h1, h2⟩ := List.pairwise_cons.1 h
    rw [insE]
    by_cases hb : bytesBefore x.1 y.1 = true
    · rw [if_pos hb]
      refine List.pairwise_cons.2 ⟨fun q hq => ?_, h⟩
      rcases List.mem_cons.1 hq with rfl | hq
      · exact hb
      · exact WideShapes.bytes_trans _ _ _ hb (h1 q hq)
    · rw [if_neg hb]
      refine List.pairwise_cons.2 ⟨fun q hq => ?_, Rising.ins h2 (fun p hp => hne p (List.mem_cons_of_mem _ hp))⟩
      rcases mem_insE.1 hq with rfl | hq
      · rcases WideAt.bytes_total _ _ (hne y List.mem_cons_self) with h' | h'
        · exact h'
        · exact absurd h' hb
      · exact h1 q hq
theorem Rising.put {β : Type} {fs : List (List UInt8 × β)} (h : Rising fs) (k : List UInt8) (v : β) : Rising (putE k v fs) :=
  Rising.ins (h.del k) fun p hp => by
    have := (List.mem_filter.1 hp).2
    simpa using this
end Go.Proofs.Ytholgmcfgnifdaa
