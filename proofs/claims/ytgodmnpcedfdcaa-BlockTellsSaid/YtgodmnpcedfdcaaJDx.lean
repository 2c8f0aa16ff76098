/- Joined: BdW BdX. -/
import Derived.Test.YtgodmnpcedfdcaaBdT
import Derived.Maps.OwnOps
import Derived.Maps.OwnSet
import Derived.Maps.Views
import Derived.DeepKeys4
import Derived.WideKeyEntry
import Derived.Test.YtgodmnpcedfdcaaJDo
import Derived.Deep.DeepCutAuto
namespace Go.Proofs.Ytgodmnpcedfdcaa
section
open Go.RowKit Go.Maps Go.MapKept
abbrev Ent := List UInt8 × Value
/-- How an element reads: as itself. -/
def Rv (v : Value) : Option (DataW Value × List MemPlace) := some (.held v, [])
def datum (fs : List Ent) : DataW Value := .map (fs.map fun p => (Lit.string p.1, DataW.held p.2))
def getE {β : Type} (fs : List (List UInt8 × β)) (k : List UInt8) : Option β := (fs.find? (fun p => p.1 == k)).map (·.2)
def insE {β : Type} (x : List UInt8 × β) : List (List UInt8 × β) → List (List UInt8 × β)
  | [] => [x]
  | y :: r => if bytesBefore x.1 y.1 then x :: y :: r else y :: insE x r
def delE {β : Type} (k : List UInt8) (fs : List (List UInt8 × β)) : List (List UInt8 × β) := fs.filter (fun p => !(p.1 == k))
def putE {β : Type} (k : List UInt8) (v : β) (fs : List (List UInt8 × β)) : List (List UInt8 × β) := insE (k, v) (delE k fs)
theorem insE_eq (x : Ent) : ∀ fs : List Ent, (insE x fs).map (fun p => (Lit.string p.1, DataW.held p.2)) = DataW.insert (Lit.string x.1, DataW.held x.2) (fs.map fun p => (Lit.string p.1, DataW.held p.2))
  | [] => rfl
  | y :: r => by
    rw [insE, List.map_cons, DataW.insert]
    by_cases h : bytesBefore x.1 y.1 = true
    · rw [if_pos h, if_pos (show (Lit.string x.1).before (Lit.string y.1) = true from h)]
      rfl
    · rw [if_neg h, if_neg (show ¬ (Lit.string x.1).before (Lit.string y.1) = true from h), List.map_cons, insE_eq x r]
theorem delE_eq (k : List UInt8) (fs : List Ent) : (delE k fs).map (fun p => (Lit.string p.1, DataW.held p.2)) = (fs.map fun p => (Lit.string p.1, (DataW.held p.2 : DataW Value))).filter (fun p => !p.1.sameKey (.string k)) := by
  unfold delE
  rw [List.filter_map]
  rfl
theorem datum_put (k : List UInt8) (v : Value) (fs : List Ent) : (datum fs).put (.string k) (.held v) = datum (putE k v fs) := by
  unfold datum putE
  rw [insE_eq, delE_eq]
  rfl
theorem datum_at (k : List UInt8) (z : DataW Value) : ∀ fs : List Ent, (datum fs).atKey (.string k) z = match getE fs k with | some v => .held v | none => z
  | [] => rfl
  | p :: r => by
    have ih := datum_at k z r
    unfold datum DataW.atKey getE at ih ⊢
    simp only [List.map_cons, List.find?_cons] at ih ⊢
    by_cases h : p.1 = k
    · have e1 : (Lit.string p.1).sameKey (Lit.string k) = true := by simp [Lit.sameKey, h]
      have e2 : (p.1 == k) = true := by simp [h]
      rw [e1, e2]
      rfl
    · have e1 : (Lit.string p.1).sameKey (Lit.string k) = false := by simp [Lit.sameKey, h]
      have e2 : (p.1 == k) = false := by simp [h]
      rw [e1, e2]
      exact ih
abbrev TMp : TypeId := 54
abbrev KAt : TypeId := 45
theorem wideA : (match Try.prog.underlying KAt with | some (.array _ _) | some (.struct _) => true | _ => false) = true := by rw [Try.underlying45]
theorem rowKA : (KAt : TypeId) < Try.prog.types.size := of_decide_eq_true (by kernel_rfl)
set_option maxRecDepth 100000 in
theorem klawA : WideMaps.KeyLaw Try.prog KAt := deep_law_laid (by kernel_rfl) (m := 2) (by omega) rowKA (by kernel_rfl) wideA
theorem keyedA : Keyed Try.prog KAt := Keyed.of_law klawA
/-- A key's bytes. -/
def keyD (p : PA) : List UInt8 := keyBytes [.string p.1.data.toList, .string p.2.data.toList]
theorem keyA {p : PA} (h1 : p.1.size ≤ maxLen) (h2 : p.2.size ≤ maxLen) : keyOf Try.prog KAt (atV p) = some (.string (keyD p)) := by
  have hk : Try.prog.keyType KAt = true := by kernel_rfl
  have hf : (atV p).formed Try.prog KAt = true := by
    simp [Value.formed, Try.underlying45]
    kernel_rfl
  obtain ⟨n, hn⟩ : ∃ n, Try.prog.types.size = n + 1 := Nat.exists_eq_succ_of_ne_zero (Nat.ne_of_gt (Nat.lt_of_le_of_lt (Nat.zero_le _) rowKA))
  unfold keyOf
  rw [Try.underlying45, hn]
  simp only [hk, hf, Bool.and_self, if_true]
  have c : Try.prog.cellsOf KAt = 2 := by kernel_rfl
  have c9 : Try.prog.cellsOf 9 = 1 := by kernel_rfl
  simp [Program.keyLits, Try.underlying45, Try.underlying9, c, c9, h1, h2, Value.cells, keyD]
theorem keyD_inj {p q : PA} (h1 : p.1.size ≤ maxLen) (h2 : p.2.size ≤ maxLen) (h3 : q.1.size ≤ maxLen) (h4 : q.2.size ≤ maxLen) (h : keyD p = keyD q) : p = q := by
  have h5 := keyedA.inj (keyA h1 h2) (by rw [h]; exact keyA h3 h4)
  obtain ⟨a, b⟩ := p
  obtain ⟨c, d⟩ := q
  injection h5 with h5
  injection h5 with h5
  injection h5 with e1 e2
  injection e1 with e1
  injection e2 with e2
  injection e2 with e2
  exact Prod.ext e1 e2
/-- Block b holds just these entries. -/
def MapIs (w : World) (b n : Nat) (fs : List Ent) : Prop := w.ownsMap Try.prog KAt Rv b n (datum fs)
theorem MapIs.lt {w : World} {b n : Nat} {fs : List Ent} (h : MapIs w b n fs) : b < w.heap.size := World.ownsMap.lt h
theorem MapIs.made (w : World) : MapIs (w.alloc (.map #[] 0)) w.heap.size 0 [] := World.ownsMap_made w _ _ _
theorem MapIs.heap {w w' : World} {b n : Nat} {fs : List Ent} (h : MapIs w b n fs) (hb : w'.heap[b]? = w.heap[b]?) : MapIs w' b n fs := by
  obtain ⟨es, clock, h1, F, hs, hD⟩ := h
  exact ⟨es, clock, hb.trans h1, F, hs, hD⟩
theorem MapIs.below {w w' : World} {b n : Nat} {fs : List Ent} (h : MapIs w b n fs) (hb : Below w.heap.size w w') : MapIs w' b n fs := h.heap (hb.block _ h.lt)
def zeroN : Value := .int .i64 0
theorem zeroNat (w : World) : (zeroValue 3).run Try.prog w = .ok zeroN w := by kernel_rfl
theorem MapIs.look {w : World} {b n : Nat} {fs : List Ent} (h : MapIs w b n fs) {p : PA} (h1 : p.1.size ≤ maxLen) (h2 : p.2.size ≤ maxLen) :
    (Instr.lookup TMp (.map (some b)) (atV p) false).run Try.prog w = .ok ((getE fs (keyD p)).getD zeroN) w := by
  obtain ⟨es, clock, hb, F, hsz, hD⟩ := h
  rcases fit_look false keyedA Try.underlying54 (zeroNat w) hb F (keyA h1 h2) with ⟨hrun, _, hat⟩ | ⟨e0, y, _, _, hrun, hRv, hat, _⟩
  · have h1 := hat (.held zeroN)
    have h2 := hat .nil
    rw [← hD, datum_at] at h1 h2
    cases hg : getE fs (keyD p) with
    | none => rw [hrun]; rfl
    | some v => rw [hg] at h2; cases h2
  · have h2 := hat .nil
    rw [← hD, datum_at] at h2
    have e : y = (DataW.held e0.val, []) := by unfold Rv at hRv; exact (Option.some.inj hRv).symm
    rw [e] at h2
    cases hg : getE fs (keyD p) with
    | none => rw [hg] at h2; cases h2
    | some v =>
      rw [hg] at h2
      obtain rfl : v = e0.val := DataW.held.inj h2
      rw [hrun]
      rfl
/-- 'm[k]++', in the model's three steps: the entry laid, the look-up (ahead of that or behind it), the store by the way back. -/
theorem MapIs.entry {w : World} {b n : Nat} {fs : List Ent} (h : MapIs w b n fs) (hn : n < maxLen) {p : PA} (h1 : p.1.size ≤ maxLen) (h2 : p.2.size ≤ maxLen) :
    ∃ (v0 : Value) (st : Int) (w1 : World), (Instr.mapEntry TMp (.map (some b)) (atV p)).run Try.prog w = .ok (.tuple #[v0, .int .i64 st]) w1 ∧ w.grownBy w1 (some b) ∧ (Instr.lookup TMp (.map (some b)) (atV p) false).run Try.prog w1 = .ok ((getE fs (keyD p)).getD zeroN) w1 ∧
      ∀ (w2 : World) (val : Value), w2.heap[b]? = w1.heap[b]? → ∃ w3, (Instr.entryStore TMp (.map (some b)) (.int .i64 st) val).run Try.prog w2 = .ok () w3 ∧ MapIs w3 b (n + 1) (putE (keyD p) val fs) ∧ w2.grownBy w3 (some b) := by
  have hl := h.look h1 h2
  obtain ⟨es, clock, hb, F, hsz, hD⟩ := h
  have hk := keyA h1 h2
  obtain ⟨v0, st, es1, clock1, e1, e2, e3⟩ := WideElems.entry_then_store klawA Try.underlying54 zeroNat hb F hk
  have hb1 := ChangeMaps.heap_setBlock_same hb (.map es1 clock1)
  have hgr : ∀ (u : World) (o : Obj) {es0 : Array MapEntry} {c0 : Nat}, u.heap[b]? = some (.map es0 c0) → u.grownBy (ChangeMaps.setBlock u b o) (some b) := fun u o es0 c0 hu => ⟨rfl, rfl, rfl, by simp [ChangeMaps.setBlock], fun i _ hi => ChangeMaps.heap_setBlock_other hu _ (fun e => hi (by rw [e]))⟩
  refine ⟨v0, (st : Int), _, e1, hgr w _ hb, ?_, fun w2 val hw2 => ?_⟩
  · obtain ⟨x0, hx0⟩ : ∃ x0, x0 = (getE fs (keyD p)).getD zeroN := ⟨_, rfl⟩
    rw [← hx0] at hl ⊢
    rcases klawA.find w hk es.toList F.keys with ⟨f1, f2⟩ | ⟨j, e0, f1, f2, f3⟩
    · have r1 : (Instr.mapEntry TMp (.map (some b)) (atV p)).run Try.prog w = .ok (.tuple #[zeroN, goInt clock]) (ChangeMaps.setBlock w b (.map (es.push ⟨atV p, zeroN, clock⟩) (clock + 1))) := by
        simp [Instr.mapEntry, run_underlying Try.underlying54, MapKept.run_getObj_map hb, klawA.check w false hk, f1, MapKept.run_setObj_map _ hb, Result.andThen, ChangeMaps.setBlock, zeroN]
      have r2 : (Instr.lookup TMp (.map (some b)) (atV p) false).run Try.prog w = .ok zeroN w := by
        simp [Instr.lookup, run_underlying Try.underlying54, MapKept.run_getObj_map hb, klawA.check w _ hk, f1, Result.andThen, zeroN]
      rw [r2] at hl
      obtain rfl : zeroN = x0 := by injection hl
      rw [r1] at e1
      have e4 : ChangeMaps.setBlock w b (.map (es.push ⟨atV p, zeroN, clock⟩) (clock + 1)) = ChangeMaps.setBlock w b (.map es1 clock1) := by injection e1
      have e5 := ChangeMaps.heap_setBlock_same hb (.map (es.push ⟨atV p, zeroN, clock⟩) (clock + 1))
      rw [e4] at e5
      rcases klawA.find (ChangeMaps.setBlock w b (.map es1 clock1)) hk (es.push ⟨atV p, zeroN, clock⟩).toList (fun e he => by
        rw [Array.toList_push] at he
        rcases List.mem_append.1 he with he | he
        · exact F.keys e he
        · rw [List.mem_singleton.1 he]; exact ⟨_, hk⟩) with ⟨_, g2⟩ | ⟨i, e', g1, g2, g3⟩
      · exact absurd rfl (g2 ⟨atV p, zeroN, clock⟩ (by rw [Array.toList_push]; simp))
      · have hm := List.mem_of_getElem? g2
        rw [Array.toList_push] at hm
        have hv : e'.val = zeroN := by
          rcases List.mem_append.1 hm with hm | hm
          · exact absurd g3 (f2 e' hm)
          · rw [List.mem_singleton.1 hm]
        rw [hv, Array.toList_push] at g1
        simp [Instr.lookup, run_underlying Try.underlying54, MapKept.run_getObj_map e5, klawA.check _ _ hk, g1, Result.andThen]
    · have hj : es[j]? = some e0 := by simpa using f2
      have hsame : es.modify j (fun e => { e with key := atV p }) = es := by
        apply Array.ext'
        rw [Array.toList_modify, ChangeMaps.modify_eq_set _ _ _ _ f2]
        have : ({ e0 with key := atV p } : MapEntry) = e0 := by rw [← f3]
        rw [this]
        exact WideElems.set_self _ _ _ f2
      have r1 : (Instr.mapEntry TMp (.map (some b)) (atV p)).run Try.prog w = .ok (.tuple #[e0.val, goInt e0.born]) (ChangeMaps.setBlock w b (.map es clock)) := by
        simp [Instr.mapEntry, run_underlying Try.underlying54, MapKept.run_getObj_map hb, klawA.check w false hk, f1, hj, f3, klawA.stays w hk, hsame, MapKept.run_setObj_map _ hb, Result.andThen, ChangeMaps.setBlock]
      rw [r1] at e1
      have e4 : ChangeMaps.setBlock w b (.map es clock) = ChangeMaps.setBlock w b (.map es1 clock1) := by injection e1
      have e5 := ChangeMaps.heap_setBlock_same hb (.map es clock)
      rw [e4] at e5
      exact MapIs.look (n := n) (fs := fs) ⟨es, clock, e5, F, hsz, hD⟩ h1 h2 |>.trans (by rw [hx0])
  · obtain ⟨es', clock', k1, k2⟩ := e3 w2 val (hw2.trans hb1)
    refine ⟨_, k1, ?_, hgr w2 _ (hw2.trans hb1)⟩
    obtain ⟨w', q1, q2, q3⟩ := World.ownsMap.update (show w.ownsMap Try.prog KAt Rv b n (datum fs) from ⟨es, clock, hb, F, hsz, hD⟩) keyedA Try.underlying54 hn hk (show Rv val = some (.held val, []) from rfl)
    rw [k2] at q1
    obtain rfl : ChangeMaps.setBlock w b (.map es' clock') = w' := by injection q1
    rw [datum_put] at q2
    exact MapIs.heap (show MapIs _ b (n + 1) (putE (keyD p) val fs) from q2) (by rw [ChangeMaps.heap_setBlock_same (hw2.trans hb1), ChangeMaps.heap_setBlock_same hb])
theorem lt_of_before : ∀ {a b : List UInt8}, bytesBefore a b = true → a < b
  | [], [], h => by simp [bytesBefore] at h
  | [], _ :: _, _ => List.nil_lt_cons _ _
  | _ :: _, [], h => by simp [bytesBefore] at h
  | x :: r, y :: s, h => by
    simp only [bytesBefore, Bool.or_eq_true, Bool.and_eq_true, decide_eq_true_eq, beq_iff_eq] at h
    rw [List.cons_lt_cons_iff]
    rcases h with h | ⟨h1, h2⟩
    · exact Or.inl h
    · exact Or.inr ⟨h1, lt_of_before h2⟩
def Rising {β : Type} (fs : List (List UInt8 × β)) : Prop := fs.Pairwise (fun p q => bytesBefore p.1 q.1 = true)
theorem mem_insE {β : Type} {x p : List UInt8 × β} : ∀ {fs : List (List UInt8 × β)}, p ∈ insE x fs ↔ p = x ∨ p ∈ fs
  | [] => by simp [insE]
  | y :: r => by
    rw [insE]
    split
    · simp
    · rw [List.mem_cons, mem_insE, List.mem_cons]
      constructor
      · rintro (h | h | h)
        · exact Or.inr (Or.inl h)
        · exact Or.inl h
        · exact Or.inr (Or.inr h)
      · rintro (h | h | h)
        · exact Or.inr (Or.inl h)
        · exact Or.inl h
        · exact Or.inr (Or.inr h)
theorem Rising.del {β : Type} {fs : List (List UInt8 × β)} (h : Rising fs) (k : List UInt8) : Rising (delE k fs) := List.Pairwise.filter _ h
theorem Rising.ins {β : Type} : ∀ {fs : List (List UInt8 × β)} {x : List UInt8 × β}, Rising fs → (∀ p ∈ fs, p.1 ≠ x.1) → Rising (insE x fs)
  | [], x, _, _ => by simp [insE, Rising]
  | y :: r, x, h, hne => by
    obtain ⟨h1, h2⟩ := List.pairwise_cons.1 h
    rw [insE]
    by_cases hb : bytesBefore x.1 y.1 = true
    · rw [if_pos hb]
      refine List.pairwise_cons.2 ⟨fun q hq => ?_, h⟩
      rcases List.mem_cons.1 hq with rfl | hq
      · exact hb
      · exact WideShapes.bytes_trans _ _ _ hb (h1 q hq)
    · rw [if_neg hb]
      refine List.pairwise_cons.2 ⟨fun q hq => ?_, Rising.ins h2 (fun p hp => hne p (List.mem_cons_of_mem _ hp))⟩
      rcases mem_insE.1 hq with rfl | hq
      · rcases WideAt.bytes_total _ _ (hne y List.mem_cons_self) with h' | h'
        · exact h'
        · exact absurd h' hb
      · exact h1 q hq
theorem Rising.put {β : Type} {fs : List (List UInt8 × β)} (h : Rising fs) (k : List UInt8) (v : β) : Rising (putE k v fs) :=
  Rising.ins (h.del k) fun p hp => by
    have := (List.mem_filter.1 hp).2
    simpa using this
theorem size_datum (fs : List Ent) : Maps.size (datum fs) = fs.length := by unfold datum; rw [size_eq, List.length_map]
theorem getE_ins {β : Type} (k k' : List UInt8) (u : β) : ∀ L : List (List UInt8 × β), (∀ p ∈ L, p.1 ≠ k) → getE (insE (k, u) L) k' = if k' = k then some u else getE L k'
  | [], _ => by
    unfold insE getE
    by_cases e : k' = k
    · subst e; simp
    · rw [if_neg e]; simp [Ne.symm e]
  | a :: L, hno => by
    have ih := getE_ins k k' u L (fun p hp => hno p (List.mem_cons_of_mem _ hp))
    have hak : a.1 ≠ k := hno a List.mem_cons_self
    rw [insE]
    split
    · unfold getE
      rw [List.find?_cons]
      by_cases e : k' = k
      · subst e; simp
      · rw [if_neg e, show ((k, u).1 == k') = false from by simpa using Ne.symm e]
    · unfold getE at ih ⊢
      rw [List.find?_cons, List.find?_cons]
      by_cases e2 : a.1 = k'
      · rw [show (a.1 == k') = true from by simpa using e2, if_neg (by rw [← e2]; exact hak)]
      · rw [show (a.1 == k') = false from by simpa using e2]
        exact ih
theorem getE_del {β : Type} (k k' : List UInt8) : ∀ L : List (List UInt8 × β), getE (delE k L) k' = if k' = k then none else getE L k'
  | [] => by unfold delE getE; simp
  | a :: L => by
    have ih := getE_del k k' L
    unfold delE getE at ih ⊢
    by_cases ha : a.1 = k
    · rw [List.filter_cons_of_neg (by simp [ha])]
      rw [ih]
      by_cases e : k' = k
      · rw [if_pos e, if_pos e]
      · rw [if_neg e, if_neg e, List.find?_cons, show (a.1 == k') = false from by simpa [ha] using Ne.symm e]
    · rw [List.filter_cons_of_pos (by simp [ha]), List.find?_cons, List.find?_cons]
      by_cases e2 : a.1 = k'
      · rw [show (a.1 == k') = true from by simpa using e2, if_neg (by rw [← e2]; exact ha)]
      · rw [show (a.1 == k') = false from by simpa using e2]
        exact ih
theorem getE_put {β : Type} (k k' : List UInt8) (u : β) (L : List (List UInt8 × β)) : getE (putE k u L) k' = if k' = k then some u else getE L k' := by
  unfold putE
  rw [getE_ins k k' u (delE k L) (fun p hp => by have := (List.mem_filter.1 hp).2; simpa using this), getE_del]
  split <;> rfl
end
section
open Go.RowKit Go.Maps
/-- How many of the first n slots are given under p. -/
def cntP (b : BlkS) (p : PA) : Nat → Nat
  | 0 => 0
  | n + 1 => if b.sl.getD n 0 ≠ 0 ∧ atA b.attrs (b.sl.getD n 0 - 1).toNat = p then cntP b p n + 1 else cntP b p n
theorem cntP_succ (b : BlkS) (p : PA) (n : Nat) : cntP b p (n + 1) = if b.sl.getD n 0 ≠ 0 ∧ atA b.attrs (b.sl.getD n 0 - 1).toNat = p then cntP b p n + 1 else cntP b p n := rfl
theorem cntP_le (b : BlkS) (p : PA) : ∀ n, cntP b p n ≤ n
  | 0 => Nat.le_refl _
  | n + 1 => by
    have := cntP_le b p n
    unfold cntP
    split <;> omega
theorem cntP_pos {b : BlkS} {p : PA} : ∀ {n i : Nat}, i < n → b.sl.getD i 0 ≠ 0 → atA b.attrs (b.sl.getD i 0 - 1).toNat = p → 0 < cntP b p n
  | 0, _, h, _, _ => absurd h (Nat.not_lt_zero _)
  | n + 1, i, h, h1, h2 => by
    unfold cntP
    by_cases hi : i = n
    · subst hi
      rw [if_pos ⟨h1, h2⟩]
      omega
    · have := cntP_pos (n := n) (i := i) (by omega) h1 h2
      split <;> omega
/-- The counts of the first k slots, as entries. -/
structure FsOk (b : BlkS) (k : Nat) (fs : List Ent) : Prop where
  rising : Rising fs
  get : ∀ p ∈ b.attrs, getE fs (keyD p) = if cntP b p k = 0 then none else some (.int .i64 (cntP b p k))
  mem : ∀ e ∈ fs, ∃ p ∈ b.attrs, e.1 = keyD p
theorem FsOk.start (b : BlkS) : FsOk b 0 [] := ⟨List.Pairwise.nil, fun p _ => rfl, fun e he => by cases he⟩
theorem FsOk.skip {b : BlkS} {k : Nat} {fs : List Ent} (h : FsOk b k fs) (hz : b.sl.getD k 0 = 0) : FsOk b (k + 1) fs :=
  ⟨h.rising, fun p hp => by
    have e : cntP b p (k + 1) = cntP b p k := by rw [cntP_succ, if_neg (fun h => h.1 hz)]
    rw [h.get p hp, e], h.mem⟩
theorem FsOk.look {b : BlkS} {k : Nat} {fs : List Ent} (h : FsOk b k fs) {p : PA} (hp : p ∈ b.attrs) : (getE fs (keyD p)).getD zeroN = .int .i64 (cntP b p k) := by
  rw [h.get p hp]
  by_cases hc : cntP b p k = 0
  · rw [if_pos hc, hc]; rfl
  · rw [if_neg hc]; rfl
theorem FsOk.put {b : BlkS} {k : Nat} {fs : List Ent} (h : FsOk b k fs) (hs : ∀ p ∈ b.attrs, p.1.size ≤ maxLen ∧ p.2.size ≤ maxLen) {q : PA} (hq : q ∈ b.attrs) (hz : b.sl.getD k 0 ≠ 0) (ha : atA b.attrs (b.sl.getD k 0 - 1).toNat = q) : FsOk b (k + 1) (putE (keyD q) (.int .i64 ((cntP b q k : Int) + 1)) fs) := by
  refine ⟨h.rising.put _ _, fun p hp => ?_, fun e he => ?_⟩
  · rw [getE_put, h.get p hp]
    by_cases hpq : p = q
    · subst hpq
      have e : cntP b p (k + 1) = cntP b p k + 1 := by rw [cntP_succ, if_pos ⟨hz, ha⟩]
      rw [if_pos rfl, e, if_neg (Nat.succ_ne_zero _)]
      rfl
    · have e : cntP b p (k + 1) = cntP b p k := by rw [cntP_succ, if_neg (fun h => hpq (h.2.symm.trans ha))]
      rw [if_neg (fun e => hpq (keyD_inj (hs p hp).1 (hs p hp).2 (hs q hq).1 (hs q hq).2 e)), e]
  · unfold putE at he
    rcases mem_insE.1 he with rfl | he
    · exact ⟨q, hq, rfl⟩
    · exact h.mem e (List.mem_filter.1 he).1
theorem nodup_sub {α : Type} [BEq α] [LawfulBEq α] : ∀ {l m : List α}, l.Nodup → (∀ i ∈ l, i ∈ m) → l.length ≤ m.length
  | [], _, _, _ => Nat.zero_le _
  | a :: l, m, hn, hs => by
    have ha := hs a (by simp)
    have h1 := List.nodup_cons.1 hn
    have h2 : l.length ≤ (m.erase a).length := nodup_sub h1.2 (fun i hi => by
      have hne : i ≠ a := fun e => h1.1 (e ▸ hi)
      exact (List.mem_erase_of_ne hne).2 (hs i (by simp [hi])))
    rw [List.length_erase_of_mem ha] at h2
    have : 0 < m.length := List.length_pos_of_mem ha
    rw [List.length_cons]
    omega
theorem getE_some {fs : List Ent} {k : List UInt8} {v : Value} (h : getE fs k = some v) : k ∈ fs.map (·.1) := by
  unfold getE at h
  cases hf : fs.find? (fun p => p.1 == k) with
  | none => rw [hf] at h; cases h
  | some x =>
    have h1 := List.find?_some hf
    have h2 : x.1 = k := by simpa using h1
    exact List.mem_map.2 ⟨x, List.mem_of_find?_eq_some hf, h2⟩
/-- A right block's counts: as many as it has attributes. -/
theorem FsOk.length {b : BlkS} (hl : b.sl.length = 64) (hr : rightB b = true) (hs : ∀ p ∈ b.attrs, p.1.size ≤ maxLen ∧ p.2.size ≤ maxLen) {fs : List Ent} (h : FsOk b 64 fs) : fs.length = b.attrs.length := by
  have hn1 : (fs.map (·.1)).Nodup := by
    rw [List.Nodup, List.pairwise_map]
    exact h.rising.imp (fun hb e => by rw [e] at hb; exact absurd (lt_of_before hb) (List.lt_irrefl _))
  have hnd := (right_loose hl hr).2.2.2.2.1
  have hn2 : (b.attrs.map keyD).Nodup := by
    rw [List.Nodup, List.pairwise_map]
    exact hnd.imp_of_mem (fun hp hq hne e => hne (keyD_inj (hs _ hp).1 (hs _ hp).2 (hs _ hq).1 (hs _ hq).2 e))
  have h1 := nodup_sub hn1 (m := b.attrs.map keyD) (fun k hk => by
    obtain ⟨e, he, rfl⟩ := List.mem_map.1 hk
    obtain ⟨p, hp, e2⟩ := h.mem e he
    exact List.mem_map.2 ⟨p, hp, e2.symm⟩)
  have h2 := nodup_sub hn2 (m := fs.map (·.1)) (fun k hk => by
    obtain ⟨p, hp, rfl⟩ := List.mem_map.1 hk
    obtain ⟨j, hj, ej⟩ := List.getElem_of_mem hp
    have h4 := ((right_iff b hl).1 hr).2.2.2.1 j hj
    have hm : ((j : Int) + 1) ∈ b.sl := cnt_pos.1 h4.2.1
    obtain ⟨i, hi, ei⟩ := mem_getD.1 hm
    have hp0 : 0 < cntP b p 64 := cntP_pos (i := i) (by omega) (by rw [ei]; omega) (by
      rw [ei, show ((j : Int) + 1 - 1).toNat = j by omega]
      unfold atA
      rw [List.getD_eq_getElem?_getD, List.getElem?_eq_getElem hj, ← ej]
      rfl)
    have hg := h.get p hp
    rw [if_neg (by omega)] at hg
    exact getE_some hg)
  rw [List.length_map, List.length_map] at h1 h2
  omega
theorem may_ne {p : PA} (hm : mayP p = true) : ¬ p.1 = em ∧ ¬ p.2 = em := by
  unfold mayP at hm
  rw [Bool.and_eq_true] at hm
  refine ⟨fun e => ?_, fun e => ?_⟩
  · rw [e] at hm; exact absurd hm.1 (by decide)
  · rw [e] at hm; exact absurd hm.2 (by decide)
/-- .. each as many as the document's Given of it tells. -/
theorem cnt_given {b : BlkS} {p : PA} (hm : mayP p = true) : ∀ n, (gvD b.addr b.sl b.attrs p.1 p.2 n).length = cntP b p n
  | 0 => rfl
  | n + 1 => by
    have ih := cnt_given (b := b) hm n
    have hne := may_ne hm
    unfold gvD cntP
    have e : gvP b.sl b.attrs p.1 p.2 n = true ↔ (b.sl.getD n 0 ≠ 0 ∧ atA b.attrs (b.sl.getD n 0 - 1).toNat = p) := by
      unfold gvP
      have h1 : (p.1.toList == ([] : List UInt8)) = false := by rw [nil_toList]; exact decide_eq_false hne.1
      have h2 : (p.2.toList == ([] : List UInt8)) = false := by rw [nil_toList]; exact decide_eq_false hne.2
      rw [h1, h2, str_eq_iff, str_eq_iff]
      show (!(b.sl.getD n 0 == 0) && ((false || decide ((atA b.attrs (b.sl.getD n 0 - 1).toNat).1 = p.1)) && (false || decide ((atA b.attrs (b.sl.getD n 0 - 1).toNat).2 = p.2)))) = true ↔ _
      generalize atA b.attrs (b.sl.getD n 0 - 1).toNat = q
      simp only [Bool.false_or, Bool.and_eq_true, decide_eq_true_eq, Bool.not_eq_true', beq_eq_false_iff_ne, ne_eq]
      constructor
      · rintro ⟨h3, h4, h5⟩; exact ⟨h3, Prod.ext h4 h5⟩
      · rintro ⟨h3, rfl⟩; exact ⟨h3, rfl, rfl⟩
    by_cases hc : b.sl.getD n 0 ≠ 0 ∧ atA b.attrs (b.sl.getD n 0 - 1).toNat = p
    · rw [if_pos hc, if_pos (e.2 hc), List.length_append, ih]; rfl
    · rw [if_neg hc, if_neg (fun h => hc (e.1 h)), List.append_nil, ih]
set_option maxRecDepth 100000 in
set_option maxHeartbeats 16000000 in
theorem count15_any (b : BlkS) (fv av : Value) (w : World) (hf : Sees w fv b.free) (ha : SeesA w av b.attrs) (hw : BWf b) (hr : rightB b = true) :
    Calls Try.prog 24 #[.agg (blkL b fv av).toArray] w fun e w' => ∃ g fs n, e = .returned (.map (some g)) ∧ FsOk b 64 fs ∧ MapIs w' g n fs ∧ Below w.heap.size w w' := by
  obtain ⟨W, hW⟩ : ∃ W, W = w.alloc (blkO b fv av) := ⟨_, rfl⟩
  have hb0 : Below w.heap.size w W := by rw [hW]; exact belNew _ _
  have hA : BlkAt W w.heap.size b fv av := by rw [hW]; exact heap_new w _
  have HX0 := Lib.hid hA
  have HB0 := Lib.hid hb0
  have HW := Lib.hid hW
  have HRB := rightBlk_any (blkL b fv av).toArray b W ⟨fv, av, rfl, hf.keep hb0, ha.below hb0, hw⟩
  rw [hr] at HRB
  have HRB := Lib.hid HRB
  have hl := hw.2.1
  have HBD := Lib.hid (right_bd hw hr)
  have HSZ := Lib.hid hw.2.2.2.2.2.2.2
  have HI := Lib.hid (fun (i : Nat) (hi : i < 64) (w : World) => index64 (get64 hl hi) hl w)
  have HSA := Lib.hid (ha.below hb0)
  obtain ⟨ao, an, ac, hav⟩ : ∃ ao an ac, av = .slice ao an ac := by
    obtain ⟨ao, c, e, -⟩ := ha
    exact ⟨_, _, _, e⟩
  have hmm := @run_makeMap Try.prog
  clear hW hb0 hA hf ha hw hr
  subst hav
  go_enter Try.func24, Try.ntmps24
  go_upto_region 1 with fail
  change Code.wp _ _ _ _ (w.alloc (blkO b fv (.slice ao an ac)))
  rw [← HW.out]
  clear HW
  go_wp2_with (refine wpLdB rfl _ rfl rfl HX0.out hl ?_)
  refine HRB.out.mono ?_; rintro e w3 ⟨rfl, hb3⟩
  have HX3 := Lib.hid (HX0.out.below hb3)
  have HB3 := Lib.hid (HB0.out.trans (hb3.mono HB0.out.size))
  have HSA3 := Lib.hid (HSA.out.below hb3)
  clear hb3 HRB HX0 HSA
  go_upto_region 4 with fail
  change Code.wp _ _ _ _ (w3.alloc (.map #[] 0))
  have hm4 := MapIs.made w3
  have hb4 := belNew w3 (.map #[] 0)
  obtain ⟨X, hX⟩ : ∃ X, X = w3 := ⟨_, rfl⟩
  obtain ⟨w4, hw4⟩ : ∃ w4, w4 = w3.alloc (.map #[] 0) := ⟨_, rfl⟩
  obtain ⟨gm, hgm⟩ : ∃ gm, gm = w3.heap.size := ⟨_, rfl⟩
  rw [← hw4] at hm4 hb4 ⊢
  rw [← hgm] at hm4 ⊢
  have HBG : Hid (X.heap.size ≤ gm) := Lib.hid (by rw [hX, hgm]; exact Nat.le_refl _)
  rw [← hX] at hb4 HX3 HB3 HSA3
  have HM4 := Lib.hid hm4
  have HB4 := Lib.hid hb4
  have c67 := HX3.out.attrs hl
  have HX4 := Lib.hid (HX3.out.below hb4)
  clear hw4 hgm hX hm4 hb4 hmm
  go_wp2_with (refine wpLd64 rfl _ rfl rfl HX4.out hl ?_)
  go_loopw [12] (fun j wr => ∃ i : Nat, i ≤ 64 ∧ j = .int .i64 i ∧ Hid (∃ fs, FsOk b i fs ∧ MapIs wr gm i fs ∧ Below X.heap.size X wr)) (fun j _ => 64 - (intOf j).toNat)
  case atStart => exact ⟨0, by omega, rfl, Lib.hid ⟨[], FsOk.start b, HM4.out, HB4.out⟩⟩
  case round =>
    clear HM4 HB4 HX4
    obtain ⟨i, hi, rfl, HE0⟩ := hrel
    obtain ⟨fs, hfs, hmr, hxb⟩ := HE0.out
    have HFS := Lib.hid hfs
    have HMr := Lib.hid hmr
    have HXB := Lib.hid hxb
    clear hfs hmr hxb HE0
    by_cases hlt : i < 64
    · have d1 : decide ((i : Int) < 64) = true := by simp; omega
      have hix := HI.out i hlt wr
      have hbx := HBD.out.2.2.2 i
      have hal := HBD.out.2.2.1
      have HLT := Lib.hid hlt
      have HI64 := Lib.hid hi
      obtain ⟨s, hs⟩ : ∃ s, s = b.sl.getD i 0 := ⟨_, rfl⟩
      rw [← hs] at hix hbx
      by_cases hz : s = 0
      · have HF2 := Lib.hid (HFS.out.skip (by rw [← hs]; exact hz))
        subst hz
        clear hs hbx hal
        go_wp2_with fail
        go_roundw
        case rel => exact ⟨i + 1, by have := HLT.out; omega, by go_num, Lib.hid ⟨fs, HF2.out, by obtain ⟨es, clock, h1, h2, h3, h4⟩ := HMr.out; exact ⟨es, clock, h1, h2, Nat.le_succ_of_le h3, h4⟩, HXB.out⟩⟩
        case measure => simp [intOf]; have := HLT.out; omega
      · obtain ⟨j, hj⟩ := Int.eq_ofNat_of_zero_le (show 0 ≤ s - 1 by omega)
        have hjl : j < b.attrs.length := by omega
        have dk : (s == 0) = false := by simpa using hz
        have dn : (s != 0) = true := by simpa using hz
        have hw1 : IntKind.u8.wrap (s - 1) = (j : Int) := by rw [IntKind.wrap_u8]; omega
        obtain ⟨q, hq⟩ : ∃ q, q = atA b.attrs j := ⟨_, rfl⟩
        have hqm : q ∈ b.attrs := by rw [hq]; exact List.mem_of_getElem? (atA_get hjl)
        have hqs : atA b.attrs (b.sl.getD i 0 - 1).toNat = q := by rw [← hs, hj, Int.toNat_natCast, hq]
        have HQ := Lib.hid (HSZ.out q hqm)
        have HFS2 := Lib.hid (HFS.out.put HSZ.out hqm (by rw [← hs]; exact hz) hqs)
        have HCV0 := HFS.out.look hqm
        have hcle := cntP_le b q i
        obtain ⟨cc, hcc⟩ : ∃ cc : Int, cc = (cntP b q i : Int) := ⟨_, rfl⟩
        rw [← hcc] at HFS2 HCV0
        have HCV : Hid ((getE fs (keyD q)).getD zeroN = .int .i64 cc) := Lib.hid HCV0
        have hw2 : IntKind.i64.wrap (cc + 1) = cc + 1 := IntWalk.i64_in _ (by omega)
        obtain ⟨ad, rfl⟩ : ∃ ad, ao = some ad := by
          obtain ⟨ao', c', e, -, hnil, -⟩ := HSA3.out
          injection e with e1 e2 e3
          subst e1
          cases ao with
          | none => rw [hnil rfl] at hjl; simp at hjl
          | some ad => exact ⟨ad, rfl⟩
        have han : an = b.attrs.length := by
          obtain ⟨ao', c', e, -⟩ := HSA3.out
          injection e
        subst han
        have HAT : Hid (∀ Y, Below X.heap.size X Y → Y.cell? (ad.add (j * 2)) = some (.string q.1) ∧ Y.cell? ((ad.add (j * 2)).add 1) = some (.string q.2)) := Lib.hid (fun Y hY => by
          obtain ⟨ao', c', e, -, -, hc⟩ := HSA3.out.below hY
          obtain rfl : ao' = some ad := by injection e with e1; exact e1.symm
          exact hc ad rfl j q (by rw [hq]; exact atA_get hjl))
        have j0 : (0 : Int) ≤ (j : Int) := by omega
        have j1 : (j : Int) < (b.attrs.length : Int) := by omega
        clear HCV0 hqm hqs hq hjl hcc hcle hz hbx hal hs hj hi
        go_upto_region 8 with fail
        refine wp_region_held_drew (S := (fun Y => Below X.heap.size X Y)) (by kernel_rfl) ?_ (fun rN => ?_)
        · exact HXB.out.trans ⟨rfl, rfl, rfl, Nat.le_refl _, fun _ _ => rfl⟩
        obtain ⟨wn, hwn⟩ : ∃ wn, wn = wr.drew := ⟨_, rfl⟩
        have HM : Hid (MapIs wn gm i fs) := Lib.hid (by rw [hwn]; exact HMr.out.heap rfl)
        rw [← hwn] at rN ⊢
        clear hwn HMr
        have rN : Below X.heap.size X wn := rN
        refine wpAnyH_take (i := 0) (v := ?_) rfl (by kernel_rfl) (by kernel_rfl) (by kernel_rfl) (fun _ _ _ h => h) (Or.inl ⟨by rfl, ?_⟩) (by assumption) ?_
        rotate_left
        · intro wS hSw
          (try dsimp only at hSw)
          go_simp
          first | done | with_reducible rfl
        try simp only [Act.put, List.getElem_toArray, List.getElem_cons_zero, List.setIfInBounds_toArray, List.set_cons_zero, List.set_cons_succ]
        refine wpAnyH_take (i := 1) (v := ?_) rfl (by kernel_rfl) (by kernel_rfl) (by kernel_rfl) (fun _ _ _ h => h) (Or.inl ⟨by rfl, ?_⟩) (by assumption) ?_
        rotate_left
        · intro wS hSw
          (try dsimp only at hSw)
          go_simp
          first | done | with_reducible rfl
        try simp only [Act.put, List.getElem_toArray, List.getElem_cons_succ, List.getElem_cons_zero, List.setIfInBounds_toArray, List.set_cons_zero, List.set_cons_succ]
        refine wpAnyH_take (i := 2) (v := ?_) rfl (by kernel_rfl) (by kernel_rfl) (by kernel_rfl) (fun _ _ _ h => h) (Or.inl ⟨by rfl, ?_⟩) (by assumption) ?_
        rotate_left
        · intro wS hSw
          (try dsimp only at hSw)
          have c67 := bcellB hSw c67
          go_simp
          first | done | with_reducible rfl
        try simp only [Act.put, List.getElem_toArray, List.getElem_cons_succ, List.getElem_cons_zero, List.setIfInBounds_toArray, List.set_cons_zero, List.set_cons_succ]
        refine wpAnyH_take (i := 3) (v := ?_) rfl (by kernel_rfl) (by kernel_rfl) (by kernel_rfl) (fun _ _ _ h => h) (Or.inl ⟨by rfl, ?_⟩) (by assumption) ?_
        rotate_left
        · intro wS hSw
          (try dsimp only at hSw)
          go_simp
          first | done | with_reducible rfl
        try simp only [Act.put, List.getElem_toArray, List.getElem_cons_succ, List.getElem_cons_zero, List.setIfInBounds_toArray, List.set_cons_zero, List.set_cons_succ]
        refine wpAnyH_take (i := 4) (v := ?_) rfl (by kernel_rfl) (by kernel_rfl) (by kernel_rfl) (fun _ _ _ h => h) (Or.inl ⟨by rfl, ?_⟩) (by assumption) ?_
        rotate_left
        · intro wS hSw
          (try dsimp only at hSw)
          go_simp
          first | done | with_reducible rfl
        try simp only [Act.put, List.getElem_toArray, List.getElem_cons_succ, List.getElem_cons_zero, List.setIfInBounds_toArray, List.set_cons_zero, List.set_cons_succ]
        refine wpAnyH_take (i := 5) (v := ?_) rfl (by kernel_rfl) (by kernel_rfl) (by kernel_rfl) (fun _ _ _ h => h) (Or.inl ⟨by rfl, ?_⟩) (by assumption) ?_
        rotate_left
        · intro wS hSw
          (try dsimp only at hSw)
          go_simp
          first | done | with_reducible rfl
        try simp only [Act.put, List.getElem_toArray, List.getElem_cons_succ, List.getElem_cons_zero, List.setIfInBounds_toArray, List.set_cons_zero, List.set_cons_succ]
        refine wpAnyH_take (i := 6) (v := ?_) rfl (by kernel_rfl) (by kernel_rfl) (by kernel_rfl) (fun _ _ _ h => h) (Or.inl ⟨by rfl, ?_⟩) (by assumption) ?_
        rotate_left
        · intro wS hSw
          (try dsimp only at hSw)
          obtain ⟨q0, q1⟩ := HAT.out _ hSw
          have q2 := ofsA1 q1
          go_simp
          first | done | with_reducible rfl
        try simp only [Act.put, List.getElem_toArray, List.getElem_cons_succ, List.getElem_cons_zero, List.setIfInBounds_toArray, List.set_cons_zero, List.set_cons_succ]
        refine wpAnyH_ready (rs := [7, 9]) (by kernel_rfl) (by simp) ?_
        refine AllReadyH.cons rfl (fun K hK => ?_) (AllReadyH.cons rfl (fun K hK => ?_) AllReadyH.nil)
        · have hlk := HM.out.look HQ.out.1 HQ.out.2
          rw [HCV.out] at hlk
          go_simp
          have rM := rN
          refine hK.out _ _ ?_ (fun _ => ?_)
          · exact rM
          try simp only [Act.put, List.getElem_toArray, List.getElem_cons_succ, List.getElem_cons_zero, List.setIfInBounds_toArray, List.set_cons_zero, List.set_cons_succ]
          have rN := rM
          refine wpAnyH_take (i := 8) (v := ?_) rfl (by kernel_rfl) (by kernel_rfl) (by kernel_rfl) (fun _ _ _ h => h) (Or.inl ⟨by rfl, ?_⟩) (by assumption) ?_
          rotate_left
          · intro wS hSw
            (try dsimp only at hSw)
            go_simp
            first | done | with_reducible rfl
          try simp only [Act.put, List.getElem_toArray, List.getElem_cons_succ, List.getElem_cons_zero, List.setIfInBounds_toArray, List.set_cons_zero, List.set_cons_succ]
          refine wpAnyH_ready (rs := [9]) (by kernel_rfl) (by simp) ?_
          refine AllReadyH.cons rfl (fun K hK => ?_) AllReadyH.nil
          obtain ⟨v0, sn, w1, e1, g1, e2, e3⟩ := HM.out.entry (by have := HI64.out; unfold maxLen; omega) HQ.out.1 HQ.out.2
          have HE := Lib.hid (And.intro e2 (And.intro e3 g1))
          have rM : Below X.heap.size X w1 := rN.grown g1 rN.size (fun k hk => by cases hk; exact HBG.out)
          clear e2 e3 g1
          go_simp
          clear e1
          refine hK.out _ _ ?_ (fun _ => ?_)
          · exact rM
          try simp only [Act.put, List.getElem_toArray, List.getElem_cons_succ, List.getElem_cons_zero, List.setIfInBounds_toArray, List.set_cons_zero, List.set_cons_succ]
          have rN := rM
          refine wpAnyH_take (i := 10) (v := ?_) rfl (by kernel_rfl) (by kernel_rfl) (by kernel_rfl) (fun _ _ _ h => h) (Or.inl ⟨by rfl, ?_⟩) (by assumption) ?_
          rotate_left
          · intro wS hSw
            (try dsimp only at hSw)
            go_simp
            first | done | with_reducible rfl
          try simp only [Act.put, List.getElem_toArray, List.getElem_cons_succ, List.getElem_cons_zero, List.setIfInBounds_toArray, List.set_cons_zero, List.set_cons_succ]
          refine wpAnyH_ready (rs := [11]) (by kernel_rfl) (by simp) ?_
          refine AllReadyH.cons rfl (fun K hK => ?_) AllReadyH.nil
          obtain ⟨w3, e1, m3, g3⟩ := HE.out.2.1 w1 (.int .i64 (cc + 1)) rfl
          have rM : Below X.heap.size X w3 := rN.grown g3 rN.size (fun k hk => by cases hk; exact HBG.out)
          have HM3 := Lib.hid m3
          clear m3 g3
          go_simp
          clear e1
          refine hK.out _ _ ?_ (fun _ => ?_)
          · exact rM
          try simp only [Act.put, List.getElem_toArray, List.getElem_cons_succ, List.getElem_cons_zero, List.setIfInBounds_toArray, List.set_cons_zero, List.set_cons_succ]
          have rN := rM
          refine wpAnyH_done (by kernel_rfl) ?_ _
          (try go_wp2_with fail)
          go_roundw
          case rel => exact ⟨i + 1, by have := HLT.out; omega, by go_num, Lib.hid ⟨_, HFS2.out, HM3.out, rN⟩⟩
          case measure => simp [intOf]; have := HLT.out; omega
        · obtain ⟨v0, sn, w1, e1, g1, e2, e3⟩ := HM.out.entry (by have := HI64.out; unfold maxLen; omega) HQ.out.1 HQ.out.2
          have HE := Lib.hid (And.intro e2 (And.intro e3 g1))
          have rM : Below X.heap.size X w1 := rN.grown g1 rN.size (fun k hk => by cases hk; exact HBG.out)
          clear e2 e3 g1
          go_simp
          clear e1
          refine hK.out _ _ ?_ (fun _ => ?_)
          · exact rM
          try simp only [Act.put, List.getElem_toArray, List.getElem_cons_succ, List.getElem_cons_zero, List.setIfInBounds_toArray, List.set_cons_zero, List.set_cons_succ]
          have rN := rM
          refine wpAnyH_take (i := 10) (v := ?_) rfl (by kernel_rfl) (by kernel_rfl) (by kernel_rfl) (fun _ _ _ h => h) (Or.inl ⟨by rfl, ?_⟩) (by assumption) ?_
          rotate_left
          · intro wS hSw
            (try dsimp only at hSw)
            go_simp
            first | done | with_reducible rfl
          try simp only [Act.put, List.getElem_toArray, List.getElem_cons_succ, List.getElem_cons_zero, List.setIfInBounds_toArray, List.set_cons_zero, List.set_cons_succ]
          refine wpAnyH_ready (rs := [7]) (by kernel_rfl) (by simp) ?_
          refine AllReadyH.cons rfl (fun K hK => ?_) AllReadyH.nil
          have hlk := HE.out.1
          rw [HCV.out] at hlk
          go_simp
          have rM := rN
          refine hK.out _ _ ?_ (fun _ => ?_)
          · exact rM
          try simp only [Act.put, List.getElem_toArray, List.getElem_cons_succ, List.getElem_cons_zero, List.setIfInBounds_toArray, List.set_cons_zero, List.set_cons_succ]
          have rN := rM
          refine wpAnyH_take (i := 8) (v := ?_) rfl (by kernel_rfl) (by kernel_rfl) (by kernel_rfl) (fun _ _ _ h => h) (Or.inl ⟨by rfl, ?_⟩) (by assumption) ?_
          rotate_left
          · intro wS hSw
            (try dsimp only at hSw)
            go_simp
            first | done | with_reducible rfl
          try simp only [Act.put, List.getElem_toArray, List.getElem_cons_succ, List.getElem_cons_zero, List.setIfInBounds_toArray, List.set_cons_zero, List.set_cons_succ]
          refine wpAnyH_ready (rs := [11]) (by kernel_rfl) (by simp) ?_
          refine AllReadyH.cons rfl (fun K hK => ?_) AllReadyH.nil
          obtain ⟨w3, e1, m3, g3⟩ := HE.out.2.1 w1 (.int .i64 (cc + 1)) rfl
          have rM : Below X.heap.size X w3 := rN.grown g3 rN.size (fun k hk => by cases hk; exact HBG.out)
          have HM3 := Lib.hid m3
          clear m3 g3
          go_simp
          clear e1
          refine hK.out _ _ ?_ (fun _ => ?_)
          · exact rM
          try simp only [Act.put, List.getElem_toArray, List.getElem_cons_succ, List.getElem_cons_zero, List.setIfInBounds_toArray, List.set_cons_zero, List.set_cons_succ]
          have rN := rM
          refine wpAnyH_done (by kernel_rfl) ?_ _
          (try go_wp2_with fail)
          go_roundw
          case rel => exact ⟨i + 1, by have := HLT.out; omega, by go_num, Lib.hid ⟨_, HFS2.out, HM3.out, rN⟩⟩
          case measure => simp [intOf]; have := HLT.out; omega
    · obtain rfl : i = 64 := by omega
      go_wp2_with fail
      go_ret
      exact ⟨gm, fs, 64, rfl, HFS.out, HMr.out, HB3.out.trans (HXB.out.mono HB3.out.size)⟩
end
end Go.Proofs.Ytgodmnpcedfdcaa
