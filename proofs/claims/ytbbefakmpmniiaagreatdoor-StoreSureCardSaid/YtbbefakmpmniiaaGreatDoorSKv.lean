/- Joined: KvMap KvSt KvA KvB KvC KvSort KvRow KvUnder KvUnder2. -/
import Derived.Test.YtbbefakmpmniiaaGreatDoorSPk
import Derived.Maps.OwnOps
import Derived.StillTailTactics
import Derived.WalkSmall
import Derived.Deep.RegionHeld3
import Derived.Deep.Cut
import Derived.Maps.OwnSet
import Derived.Maps.RangeWalk
import Derived.Test.YtbbefakmpmniiaaGreatDoorShelf
import Derived.Test.YtbbefakmpmniiaaGreatDoorShelfSort
import Derived.Maps.AppendAt
import Derived.Sort.KeysCollected
import Derived.Deep.LoopGhost
import Derived.LoopN
import Derived.Laws.IdiomRangeMap
namespace Go.Proofs.YtbbefakmpmniiaaGreatDoor.KV
section
open Go.RowKit Go.Maps
abbrev Ent := List UInt8 × Value
/-- How an element reads: as itself. -/
def Rv (v : Value) : Option (DataW Value × List MemPlace) := some (.held v, [])
def datum (fs : List Ent) : DataW Value := .map (fs.map fun p => (Lit.string p.1, DataW.held p.2))
/-- Block b holds just these entries. -/
def MapIs (w : World) (b n : Nat) (fs : List Ent) : Prop := w.ownsMap Tryz.prog 9 Rv b n (datum fs)
def getE {β : Type} (fs : List (List UInt8 × β)) (k : List UInt8) : Option β := (fs.find? (fun p => p.1 == k)).map (·.2)
def insE {β : Type} (x : List UInt8 × β) : List (List UInt8 × β) → List (List UInt8 × β)
  | [] => [x]
  | y :: r => if bytesBefore x.1 y.1 then x :: y :: r else y :: insE x r
def delE {β : Type} (k : List UInt8) (fs : List (List UInt8 × β)) : List (List UInt8 × β) := fs.filter (fun p => !(p.1 == k))
def putE {β : Type} (k : List UInt8) (v : β) (fs : List (List UInt8 × β)) : List (List UInt8 × β) := insE (k, v) (delE k fs)
theorem keyedS : Keyed Tryz.prog 9 := string_keyed Tryz.underlying9
theorem keyS {s : ByteArray} (hs : s.size ≤ maxLen) : keyOf Tryz.prog 9 (.string s) = some (.string s.data.toList) := Go.WideMaps.keyOf_string_mk Tryz.underlying9 hs
theorem insE_eq (x : Ent) : ∀ fs : List Ent, (insE x fs).map (fun p => (Lit.string p.1, DataW.held p.2)) = DataW.insert (Lit.string x.1, DataW.held x.2) (fs.map fun p => (Lit.string p.1, DataW.held p.2))
  | [] => rfl
  | y :: r => by
    rw [insE, List.map_cons, DataW.insert]
    by_cases h : bytesBefore x.1 y.1 = true
    · rw [if_pos h, if_pos (show (Lit.string x.1).before (Lit.string y.1) = true from h)]
      rfl
    · rw [if_neg h, if_neg (show ¬ (Lit.string x.1).before (Lit.string y.1) = true from h), List.map_cons, insE_eq x r]
theorem delE_eq (k : List UInt8) (fs : List Ent) : (delE k fs).map (fun p => (Lit.string p.1, DataW.held p.2)) = (fs.map fun p => (Lit.string p.1, (DataW.held p.2 : DataW Value))).filter (fun p => !p.1.sameKey (.string k)) := by
  unfold delE
  rw [List.filter_map]
  rfl
theorem datum_put (k : List UInt8) (v : Value) (fs : List Ent) : (datum fs).put (.string k) (.held v) = datum (putE k v fs) := by
  unfold datum putE
  rw [insE_eq, delE_eq]
  rfl
theorem datum_del (k : List UInt8) (fs : List Ent) : (datum fs).del (.string k) = datum (delE k fs) := by
  unfold datum
  rw [delE_eq]
  rfl
theorem datum_at (k : List UInt8) (z : DataW Value) : ∀ fs : List Ent, (datum fs).atKey (.string k) z = match getE fs k with | some v => .held v | none => z
  | [] => rfl
  | p :: r => by
    have ih := datum_at k z r
    unfold datum DataW.atKey getE at ih ⊢
    simp only [List.map_cons, List.find?_cons] at ih ⊢
    by_cases h : p.1 = k
    · have e1 : (Lit.string p.1).sameKey (Lit.string k) = true := by simp [Lit.sameKey, h]
      have e2 : (p.1 == k) = true := by simp [h]
      rw [e1, e2]
      rfl
    · have e1 : (Lit.string p.1).sameKey (Lit.string k) = false := by simp [Lit.sameKey, h]
      have e2 : (p.1 == k) = false := by simp [h]
      rw [e1, e2]
      exact ih
theorem MapIs.lt {w : World} {b n : Nat} {fs : List Ent} (h : MapIs w b n fs) : b < w.heap.size := World.ownsMap.lt h
theorem MapIs.len {w : World} {b n : Nat} {fs : List Ent} (h : MapIs w b n fs) : fs.length ≤ n := by
  obtain ⟨es, clock, hb, F, hs, hD⟩ := h
  unfold datum at hD
  injection hD with hD
  have h2 := congrArg List.length hD
  rw [List.length_map, length_sorted, List.length_map] at h2
  have h3 : es.toList.length = es.size := Array.length_toList
  omega
theorem MapIs.made (w : World) : MapIs (w.alloc (.map #[] 0)) w.heap.size 0 [] := World.ownsMap_made w _ _ _
theorem MapIs.heap {w w' : World} {b n : Nat} {fs : List Ent} (h : MapIs w b n fs) (hb : w'.heap[b]? = w.heap[b]?) : MapIs w' b n fs := by
  obtain ⟨es, clock, h1, F, hs, hD⟩ := h
  exact ⟨es, clock, hb.trans h1, F, hs, hD⟩
/-- The zero value of an item. -/
def zeroF : Value := .agg #[.string ⟨#[]⟩, .string ⟨#[]⟩, .int .i64 0]
theorem zeroFile (w : World) : (zeroValue 86).run Tryz.prog w = .ok zeroF w := by kernel_rfl
theorem MapIs.look {w : World} {b n : Nat} {fs : List Ent} (h : MapIs w b n fs) {s : ByteArray} (hs : s.size ≤ maxLen) (c : Bool) :
    (Instr.lookup 162 (.map (some b)) (.string s) c).run Tryz.prog w = .ok (if c then .tuple #[(getE fs s.data.toList).getD zeroF, .bool (getE fs s.data.toList).isSome] else (getE fs s.data.toList).getD zeroF) w := by
  obtain ⟨es, clock, hb, F, hsz, hD⟩ := h
  rcases fit_look c keyedS Tryz.underlying162 (zeroFile w) hb F (keyS hs) with ⟨hrun, _, hat⟩ | ⟨e0, y, _, _, hrun, hRv, hat, _⟩
  · have h1 := hat (.held zeroF)
    have h2 := hat .nil
    rw [← hD, datum_at] at h1 h2
    cases hg : getE fs s.data.toList with
    | none => rw [hrun]; rfl
    | some v => rw [hg] at h2; cases h2
  · have h2 := hat .nil
    rw [← hD, datum_at] at h2
    have e : y = (DataW.held e0.val, []) := by unfold Rv at hRv; exact (Option.some.inj hRv).symm
    rw [e] at h2
    cases hg : getE fs s.data.toList with
    | none => rw [hg] at h2; cases h2
    | some v =>
      rw [hg] at h2
      obtain rfl : v = e0.val := DataW.held.inj h2
      rw [hrun]
      rfl
theorem MapIs.put {w : World} {b n : Nat} {fs : List Ent} (h : MapIs w b n fs) (hn : n < maxLen) {s : ByteArray} (hs : s.size ≤ maxLen) (v : Value) :
    ∃ w', (Instr.mapUpdate 162 (.map (some b)) (.string s) v).run Tryz.prog w = .ok () w' ∧ MapIs w' b (n + 1) (putE s.data.toList v fs) ∧ w.grownBy w' (some b) := by
  obtain ⟨w', hrun, h1, h2⟩ := World.ownsMap.update h keyedS Tryz.underlying162 hn (keyS hs) (show Rv v = some (.held v, []) from rfl)
  rw [datum_put] at h1
  exact ⟨w', hrun, h1, h2⟩
theorem MapIs.del {w : World} {b n : Nat} {fs : List Ent} (h : MapIs w b n fs) {s : ByteArray} (hs : s.size ≤ maxLen) (ty : TypeId) :
    ∃ w', (Builtin.delete_ #[162, 9] ty #[.map (some b), .string s]).run Tryz.prog w = .ok (.tuple #[]) w' ∧ MapIs w' b n (delE s.data.toList fs) ∧ w.grownBy w' (some b) := by
  obtain ⟨es, clock, hb, F, hsz, hD⟩ := h
  obtain ⟨es', hrun, F', hsz', hdel, _⟩ := fit_drop (w := w) (ty := ty) keyedS Tryz.underlying162 hb F (keyS hs)
  refine ⟨_, hrun, ⟨es', clock, ChangeMaps.heap_setBlock_same hb _, F', Nat.le_trans hsz' hsz, ?_⟩, ⟨rfl, rfl, rfl, by simp [ChangeMaps.setBlock], fun i _ hi => ChangeMaps.heap_setBlock_other hb _ (fun e => hi (by rw [e]))⟩⟩
  rw [hdel, ← datum_del, hD]
  rfl
/-! Names rise. -/
def Rising {β : Type} (fs : List (List UInt8 × β)) : Prop := fs.Pairwise (fun p q => bytesBefore p.1 q.1 = true)
theorem lt_of_before : ∀ {a b : List UInt8}, bytesBefore a b = true → a < b
  | [], [], h => by simp [bytesBefore] at h
  | [], _ :: _, _ => List.nil_lt_cons _ _
  | _ :: _, [], h => by simp [bytesBefore] at h
  | x :: r, y :: s, h => by
    simp only [bytesBefore, Bool.or_eq_true, Bool.and_eq_true, decide_eq_true_eq, beq_iff_eq] at h
    rw [List.cons_lt_cons_iff]
    rcases h with h | ⟨h1, h2⟩
    · exact Or.inl h
    · exact Or.inr ⟨h1, lt_of_before h2⟩
theorem le_of_before {a b : List UInt8} (h : bytesBefore a b = true) : a ≤ b := List.le_of_lt (lt_of_before h)
theorem size_datum (fs : List Ent) : Maps.size (datum fs) = fs.length := by unfold datum; rw [size_eq, List.length_map]
theorem mem_insE {β : Type} {x p : List UInt8 × β} : ∀ {fs : List (List UInt8 × β)}, p ∈ insE x fs ↔ p = x ∨ p ∈ fs
  | [] => by simp [insE]
  | y :: r => by
    rw [insE]
    split
    · simp
    · rw [List.mem_cons, mem_insE, List.mem_cons]
      constructor
      · rintro (h | h | h)
        · exact Or.inr (Or.inl h)
        · exact Or.inl h
        · exact Or.inr (Or.inr h)
      · rintro (h | h | h)
        · exact Or.inr (Or.inl h)
        · exact Or.inl h
        · exact Or.inr (Or.inr h)
theorem Rising.del {β : Type} {fs : List (List UInt8 × β)} (h : Rising fs) (k : List UInt8) : Rising (delE k fs) := List.Pairwise.filter _ h
theorem Rising.ins {β : Type} : ∀ {fs : List (List UInt8 × β)} {x : List UInt8 × β}, Rising fs → (∀ p ∈ fs, p.1 ≠ x.1) → Rising (insE x fs)
  | [], x, _, _ => by simp [insE, Rising]
  | y :: r, x, h, hne => by
    obtain ⟨h1, h2⟩ := List.pairwise_cons.1 h
    rw [insE]
    by_cases hb : bytesBefore x.1 y.1 = true
    · rw [if_pos hb]
      refine List.pairwise_cons.2 ⟨fun q hq => ?_, h⟩
      rcases List.mem_cons.1 hq with rfl | hq
      · exact hb
      · exact WideShapes.bytes_trans _ _ _ hb (h1 q hq)
    · rw [if_neg hb]
      refine List.pairwise_cons.2 ⟨fun q hq => ?_, Rising.ins h2 (fun p hp => hne p (List.mem_cons_of_mem _ hp))⟩
      rcases mem_insE.1 hq with rfl | hq
      · rcases WideAt.bytes_total _ _ (hne y List.mem_cons_self) with h' | h'
        · exact h'
        · exact absurd h' hb
      · exact h1 q hq
theorem Rising.put {β : Type} {fs : List (List UInt8 × β)} (h : Rising fs) (k : List UInt8) (v : β) : Rising (putE k v fs) :=
  Rising.ins (h.del k) fun p hp => by
    have := (List.mem_filter.1 hp).2
    simpa using this
end
section
open Go.RowKit Go.Maps
abbrev ptr (g : Nat) : Value := .pointer (some ⟨g, 0, none⟩)
abbrev KEnt := List UInt8 × (ByteArray × Int)
structure KSt where
  rev : Int
  L : List KEnt
structure KOp where
  kind : Int
  key : ByteArray
  val : ByteArray
  rev : Int
  iff : ByteArray
  ifRev : Int
structure KEff where
  key : ByteArray
  val : ByteArray
  rev : Int
  gone : Bool
abbrev kl (s : ByteArray) : List UInt8 := s.data.toList
abbrev emp : ByteArray := ⟨#[]⟩
theorem kl_str (s : ByteArray) : (⟨(kl s).toArray⟩ : ByteArray) = s := by cases s; simp [kl]
theorem kl_inj {a b : ByteArray} (h : kl a = kl b) : a = b := by rw [← kl_str a, ← kl_str b, h]
theorem kl_len (s : ByteArray) : (kl s).length = s.size := by cases s; simp [kl, ByteArray.size]
def itV (k : List UInt8) (u : ByteArray × Int) : Value := .agg #[.string ⟨k.toArray⟩, .string u.1, .int .i64 u.2]
def entsV (L : List KEnt) : List Ent := L.map fun p => (p.1, itV p.1 p.2)
abbrev opV (o : KOp) : Value := .agg #[.int .i64 o.kind, .string o.key, .string o.val, .int .i64 o.rev, .string o.iff, .int .i64 o.ifRev]
abbrev effV (e : KEff) : Value := .agg #[.string e.key, .string e.val, .int .i64 e.rev, .bool e.gone]
abbrev eff0 : KEff := ⟨emp, emp, 0, false⟩
/-- The item that a look-up tells. -/
def gotU (L : List KEnt) (s : ByteArray) : ByteArray × ByteArray × Int := match getE L (kl s) with
  | some u => (s, u.1, u.2)
  | none => (emp, emp, 0)
def there (L : List KEnt) (s : ByteArray) : Bool := (getE L (kl s)).isSome
def revOf (L : List KEnt) (s : ByteArray) : Int := (gotU L s).2.2
def valOf (L : List KEnt) (s : ByteArray) : ByteArray := (gotU L s).2.1
theorem getE_ents (L : List KEnt) (k : List UInt8) : getE (entsV L) k = (getE L k).map (itV k) := by
  induction L with
  | nil => rfl
  | cons a L ih =>
    unfold getE entsV at ih ⊢
    rw [List.map_cons, List.find?_cons, List.find?_cons]
    by_cases h : a.1 = k
    · rw [show (a.1 == k) = true from by simp [h]]
      simp [h]
    · rw [show (a.1 == k) = false from by simp [h]]
      exact ih
/-- A state in block g; all that is its own lies in blocks of which P holds. -/
def KvAt (w : World) (g : Nat) (P : Nat → Prop) (S : KSt) : Prop :=
  ∃ mb, w.heap[g]? = some (.cells #[.int .i64 S.rev, .map mb] 164 (0, 0)) ∧ (∀ b, mb = some b → MapIs w b S.L.length (entsV S.L) ∧ P b) ∧ (mb = none → S.L = []) ∧ P g ∧ ∀ i, P i → i < w.heap.size
theorem MapIs.tight {w : World} {b n : Nat} {fs : List Ent} (h : MapIs w b n fs) : MapIs w b fs.length fs := by
  obtain ⟨es, clock, hb, F, hs, hD⟩ := h
  refine ⟨es, clock, hb, F, ?_, hD⟩
  unfold datum at hD
  injection hD with hD
  have h2 := congrArg List.length hD
  rw [List.length_map, length_sorted, List.length_map] at h2
  have h3 : es.toList.length = es.size := Array.length_toList
  omega
theorem look_nil {s : ByteArray} (hs : s.size ≤ maxLen) (c : Bool) (w : World) :
    (Instr.lookup 162 (.map none) (.string s) c).run Tryz.prog w = .ok (if c then .tuple #[zeroF, .bool false] else zeroF) w := by
  have hc := fun em => keyedS.check w em (keyS hs)
  rcases keyedS.find w (keyS hs) [] (by simp) with ⟨h1, _⟩ | ⟨j, e0, _, h2, _⟩
  · cases c <;> simp [Instr.lookup, run_underlying Tryz.underlying162, hc, h1, zeroFile w, Result.andThen]
  · simp at h2
/-- What may turn. -/
def Touch (P : Nat → Prop) (w w' : World) : Prop := w'.os = w.os ∧ w'.tape = w.tape ∧ w'.output = w.output ∧ w.heap.size ≤ w'.heap.size ∧ ∀ k, k < w.heap.size → ¬ P k → w'.heap[k]? = w.heap[k]?
theorem Touch.refl (P : Nat → Prop) (w : World) : Touch P w w := ⟨rfl, rfl, rfl, Nat.le_refl _, fun _ _ _ => rfl⟩
theorem Touch.of_below {w w' : World} (P : Nat → Prop) (h : Below w.heap.size w w') : Touch P w w' := ⟨h.os, h.tape, h.output, h.size, fun k hk _ => h.block k hk⟩
theorem Touch.of_grown {w w' : World} {r : Option Nat} {P : Nat → Prop} (h : w.grownBy w' r) (hr : ∀ k, r = some k → P k) : Touch P w w' := ⟨h.os, h.tape, h.output, h.size, fun k hk hn => h.block k hk (fun e => hn (hr k e.symm))⟩
theorem Touch.trans {P Q : Nat → Prop} {a b c : World} (h : Touch P a b) (k : Touch Q b c) (hq : ∀ i, i < a.heap.size → Q i → P i) : Touch P a c :=
  ⟨k.1.trans h.1, k.2.1.trans h.2.1, k.2.2.1.trans h.2.2.1, Nat.le_trans h.2.2.2.1 k.2.2.2.1, fun i hi hn => (k.2.2.2.2 i (Nat.lt_of_lt_of_le hi h.2.2.2.1) (fun hqi => hn (hq i hi hqi))).trans (h.2.2.2.2 i hi hn)⟩
theorem Touch.mono {P Q : Nat → Prop} {a b : World} (h : Touch P a b) (hq : ∀ i, i < a.heap.size → P i → Q i) : Touch Q a b := (Touch.refl Q a).trans h hq
theorem Touch.below {P : Nat → Prop} {a b : World} {n : Nat} (h : Touch P a b) (hn : n ≤ a.heap.size) (hp : ∀ i, P i → n ≤ i) : Below n a b :=
  ⟨h.1, h.2.1, h.2.2.1, h.2.2.2.1, fun k hk => h.2.2.2.2 k (Nat.lt_of_lt_of_le hk hn) (fun hP => Nat.not_lt.2 (hp k hP) hk)⟩
theorem dset {w : World} {g : Nat} {cs : Array Value} {t : TypeId} (h : w.heap[g]? = some (.cells cs t (0, 0))) (i : Nat) (x : Value) : (w.setCell ⟨g, i, none⟩ x).heap[g]? = some (.cells (cs.setIfInBounds i x) t (0, 0)) := by
  simp [World.setCell, Array.getElem?_modify, h]
theorem MapIs.ne {w : World} {b n g : Nat} {fs : List Ent} {cs : Array Value} {t : TypeId} {r : Nat × Nat} (h : MapIs w b n fs) (hg : w.heap[g]? = some (.cells cs t r)) : b ≠ g := by
  rintro rfl
  obtain ⟨es, clock, h1, _⟩ := h
  rw [hg] at h1
  cases h1
theorem touch_set (w : World) (g i : Nat) (x : Value) : Touch (· = g) w (w.setCell ⟨g, i, none⟩ x) := Touch.of_grown (grown_set w g i x) (fun _ hk => (Option.some.inj hk).symm)
theorem rcells {w : World} {g : Nat} {a b c : Value} {t : TypeId} (h : w.heap[g]? = some (.cells #[a, b, c] t (0, 0))) : w.cell? ⟨g, 0, none⟩ = some a ∧ w.cell? ⟨g, 1, none⟩ = some b ∧ w.cell? ⟨g, 2, none⟩ = some c := by simp [World.cell?, h]
theorem rfroz {w : World} {g : Nat} {a b c : Value} {t : TypeId} (h : w.heap[g]? = some (.cells #[a, b, c] t (0, 0))) (i : Nat) : w.frozen? ⟨g, i, none⟩ = false := by simp [World.frozen?, h]
theorem KvAt.keep {w w' : World} {g : Nat} {P Q : Nat → Prop} {S : KSt} (h : KvAt w g P S) (ht : Touch Q w w') (hq : ∀ i, P i → ¬ Q i) : KvAt w' g P S := by
  obtain ⟨mb, h1, h2, h3, h4, h5⟩ := h
  exact ⟨mb, (ht.2.2.2.2 g (heap_lt h1) (hq g h4)).trans h1, fun b e => ⟨(h2 b e).1.heap (ht.2.2.2.2 b (h5 b (h2 b e).2) (hq b (h2 b e).2)), (h2 b e).2⟩, h3, h4, fun i hi => Nat.lt_of_lt_of_le (h5 i hi) ht.2.2.2.1⟩
theorem KvAt.below {w w' : World} {g : Nat} {P : Nat → Prop} {S : KSt} (h : KvAt w g P S) (hb : Below w.heap.size w w') : KvAt w' g P S :=
  h.keep (Touch.of_below (fun _ => False) hb) (fun _ _ h => h)
theorem KvAt.lt {w : World} {g : Nat} {P : Nat → Prop} {S : KSt} (h : KvAt w g P S) : g < w.heap.size := by
  obtain ⟨mb, h1, _⟩ := h
  exact heap_lt h1
/-- What a look-up in the map of a state comes to. -/
def LookL (w : World) (mb : Option Nat) (L : List KEnt) : Prop := ∀ (s : ByteArray), s.size ≤ maxLen → (Instr.lookup 162 (.map mb) (.string s) true).run Tryz.prog w = .ok (.tuple #[.agg #[.string (gotU L s).1, .string (gotU L s).2.1, .int .i64 (gotU L s).2.2], .bool (there L s)]) w
theorem look_of {w : World} {mb : Option Nat} {L : List KEnt} (h1 : ∀ b, mb = some b → MapIs w b L.length (entsV L)) (h2 : mb = none → L = []) : LookL w mb L := by
  intro s hs
  cases mb with
  | none =>
    rw [h2 rfl, look_nil hs true]
    rfl
  | some b =>
    rw [(h1 b rfl).look hs true, if_pos rfl, getE_ents]
    unfold gotU there
    cases hg : getE L (kl s) with
    | none => rfl
    | some u => simp [itV]
theorem KvAt.cells {w : World} {g : Nat} {P : Nat → Prop} {S : KSt} (h : KvAt w g P S) : ∃ mb, w.cell? ⟨g, 0, none⟩ = some (.int .i64 S.rev) ∧ w.cell? ⟨g, 1, none⟩ = some (.map mb) ∧ ∀ w', Below w.heap.size w w' → LookL w' mb S.L := by
  obtain ⟨mb, h1, h2, h3, h4, h5⟩ := h
  refine ⟨mb, by simp [World.cell?, h1], by simp [World.cell?, h1], fun w' hb => look_of (fun b e => (h2 b e).1.heap (hb.block b (h5 b (h2 b e).2))) h3⟩
theorem eqNilK (w : World) (a : Option Addr) : (binOp .eql 93 (.pointer a) (.pointer none)).run Tryz.prog w = .ok (.bool a.isNone) w := by cases a <;> kernel_rfl
/-! What may be. -/
def mayK (s : ByteArray) : Bool := decide (1 ≤ s.size ∧ s.size ≤ 128)
def mayV (s : ByteArray) : Bool := decide (s.size ≤ 65536)
theorem ne_empty (s : ByteArray) : (s.toList != (emp).toList) = decide (1 ≤ s.size) := by
  rw [ByteArray.toList_eq, ByteArray.toList_eq]
  have h := kl_len s
  unfold kl at h
  cases hl : s.data.toList with
  | nil => rw [hl] at h; simp at h; simp [← h]
  | cons a l => rw [hl] at h; simp at h; simp [← h]
end
section
open Go.RowKit Go.Maps
theorem eq_empty (s : ByteArray) : (s.toList == ([] : List UInt8)) = decide (s.size = 0) := by
  rw [ByteArray.toList_eq]
  have h := kl_len s
  unfold kl at h
  cases hl : s.data.toList with
  | nil => rw [hl] at h; simp at h; simp [← h]
  | cons a l => rw [hl] at h; simp at h; simp [← h]
theorem mayKey_any (s : ByteArray) (w : World) : Calls Tryz.prog 148 #[.string s] w fun e w' => e = .returned (.bool (mayK s)) ∧ w = w' := by
  by_cases h : s.size = 0
  · have d0 : (s.toList == ([] : List UInt8)) = true := by rw [eq_empty]; simpa using h
    have hm : mayK s = false := by unfold mayK; simp; omega
    rw [hm]
    go_enter Tryz.func148, Tryz.ntmps148
    go_wp2
    go_ret
    exact ⟨rfl, rfl⟩
  · have d0 : (s.toList == ([] : List UInt8)) = false := by rw [eq_empty]; simpa using h
    have hm : Hid (mayK s = decide ((s.size : Int) ≤ 128)) := Lib.hid (by unfold mayK; rw [Bool.eq_iff_iff]; simp; omega)
    go_enter Tryz.func148, Tryz.ntmps148
    go_wp2
    go_ret
    exact ⟨congrArg (fun b => Ending.returned (.bool b)) hm.out.symm, rfl⟩
theorem mayVal_any (s : ByteArray) (w : World) : Calls Tryz.prog 149 #[.string s] w fun e w' => e = .returned (.bool (mayV s)) ∧ w = w' := by
  have hm : Hid (mayV s = decide ((s.size : Int) ≤ 65536)) := Lib.hid (by unfold mayV; rw [Bool.eq_iff_iff]; simp; omega)
  go_enter Tryz.func149, Tryz.ntmps149
  go_wp2
  go_ret
  exact ⟨congrArg (fun b => Ending.returned (.bool b)) hm.out.symm, rfl⟩
theorem new_kv (w : World) : Calls Tryz.prog 58 #[] w fun e w' => ∃ g, e = .returned (ptr g) ∧ KvAt w' g (· = g) ⟨0, []⟩ ∧ w.heap.size ≤ g ∧ Below w.heap.size w w' := by
  go_enter Tryz.func58, Tryz.ntmps58
  go_wp2
  go_ret
  exact ⟨w.heap.size, rfl, ⟨none, heap_alloc_new w _, (fun b h => by cases h), fun _ => rfl, rfl, fun i hi => by simp [hi]⟩, Nat.le_refl _, belNew w _⟩
theorem rev_any (g : Nat) (P : Nat → Prop) (S : KSt) (w : World) (h : KvAt w g P S) : Calls Tryz.prog 48 #[ptr g] w fun e w' => e = .returned (.int .i64 S.rev) ∧ w = w' := by
  obtain ⟨mb, c0, c1, -⟩ := h.cells
  have q := eqNilK
  go_enter Tryz.func48, Tryz.ntmps48
  go_wp2
  go_ret
  exact ⟨rfl, rfl⟩
theorem rev_nil (w : World) : Calls Tryz.prog 48 #[.pointer none] w fun e w' => e = .returned (.int .i64 0) ∧ w = w' := by
  have q := eqNilK
  go_enter Tryz.func48, Tryz.ntmps48
  go_wp2
  go_ret
  exact ⟨rfl, rfl⟩
theorem held_any (g : Nat) (rv : Int) (mb : Option Nat) (w : World) (c1 : w.heap[g]? = some (.cells #[.int .i64 rv, .map mb] 164 (0, 0))) : Calls Tryz.prog 125 #[ptr g] w fun e w' => e = .returned (.map mb) ∧ w = w' := by
  have c1 := cell1 c1
  have q := eqNilK
  go_enter Tryz.func125, Tryz.ntmps125
  go_wp2
  go_ret
  exact ⟨rfl, rfl⟩
theorem held_nil (w : World) : Calls Tryz.prog 125 #[.pointer none] w fun e w' => e = .returned (.map none) ∧ w = w' := by
  have q := eqNilK
  go_enter Tryz.func125, Tryz.ntmps125
  go_wp2
  go_ret
  exact ⟨rfl, rfl⟩
theorem datum_size (L : List KEnt) : Maps.size (datum (entsV L)) = L.length := by rw [size_datum]; unfold entsV; rw [List.length_map]
theorem len_any (g : Nat) (P : Nat → Prop) (S : KSt) (w : World) (h : KvAt w g P S) : Calls Tryz.prog 112 #[ptr g] w fun e w' => e = .returned (.int .i64 S.L.length) ∧ w = w' := by
  obtain ⟨mb, h1, h2, h3, -⟩ := h
  have HH := Lib.hid (held_any g S.rev mb w h1)
  cases mb with
  | none =>
    have e0 : S.L.length = 0 := by rw [h3 rfl]; rfl
    rw [e0]
    clear h1 h2 h3
    go_enter Tryz.func112, Tryz.ntmps112
    go_wp2_with fail
    refine HH.out.mono ?_; rintro e w' ⟨rfl, rfl⟩
    go_wp2_with fail
    go_ret
    exact ⟨rfl, rfl⟩
  | some b =>
    have hl := fun ty => (World.ownsMap.len (h2 b rfl).1 (t := 162) Tryz.underlying162 ty)
    simp only [datum_size] at hl
    clear h1 h2 h3
    go_enter Tryz.func112, Tryz.ntmps112
    go_wp2_with fail
    refine HH.out.mono ?_; rintro e w' ⟨rfl, rfl⟩
    go_wp2_with fail
    go_ret
    exact ⟨rfl, rfl⟩
theorem len_nil (w : World) : Calls Tryz.prog 112 #[.pointer none] w fun e w' => e = .returned (.int .i64 0) ∧ w = w' := by
  have HH := Lib.hid (held_nil w)
  go_enter Tryz.func112, Tryz.ntmps112
  go_wp2_with fail
  refine HH.out.mono ?_; rintro e w' ⟨rfl, rfl⟩
  go_wp2_with fail
  go_ret
  exact ⟨rfl, rfl⟩
end
section
open Go.RowKit Go.Maps
def mayW (o : KOp) : Bool := if o.kind = 3 ∨ o.kind = 4 then mayK o.key && mayV o.val else if o.kind = 5 then mayK o.key else false
set_option maxHeartbeats 1000000 in
theorem mayWrite_any (o : KOp) (w : World) : Calls Tryz.prog 130 #[opV o] w fun e w' => e = .returned (.bool (mayW o)) ∧ Below w.heap.size w w' := by
  obtain ⟨k, key, val, rv, ifk, ir⟩ := o
  have HK : Hid (∀ w, Calls Tryz.prog 148 #[.string key] w fun e w' => e = .returned (.bool (mayK key)) ∧ w = w') := Lib.hid (mayKey_any key)
  have HV : Hid (∀ w, Calls Tryz.prog 149 #[.string val] w fun e w' => e = .returned (.bool (mayV val)) ∧ w = w') := Lib.hid (mayVal_any val)
  have HB := Lib.hid (belNew w (.cells #[.int .i64 k, .string key, .string val, .int .i64 rv, .string ifk, .int .i64 ir] 38))
  by_cases h3 : k = 3 ∨ k = 4
  · have HR : Hid (mayW ⟨k, key, val, rv, ifk, ir⟩ = (mayK key && mayV val)) := Lib.hid (by unfold mayW; rw [if_pos h3])
    generalize mayK key = b1 at HK HR
    generalize mayV val = b2 at HV HR
    rcases h3 with rfl | rfl <;> cases b1 <;> cases b2
    all_goals
      go_enter Tryz.func130, Tryz.ntmps130
      go_wp2_with (first | (go_at_call 148; refine (HK.out _).mono ?_; rintro e w' ⟨rfl, rfl⟩) | (go_at_call 149; refine (HV.out _).mono ?_; rintro e w' ⟨rfl, rfl⟩))
      go_ret
      exact ⟨congrArg (fun b => Ending.returned (.bool b)) HR.out.symm, HB.out⟩
  · have d3 : (k == 3) = false := by simp; omega
    have d4 : (k == 4) = false := by simp; omega
    by_cases h5 : k = 5
    · have HR : Hid (mayW ⟨k, key, val, rv, ifk, ir⟩ = mayK key) := Lib.hid (by unfold mayW; rw [if_neg h3, if_pos h5])
      have d5 : (k == 5) = true := by simpa using h5
      clear h3 h5
      go_enter Tryz.func130, Tryz.ntmps130
      go_wp2_with (first | (go_at_call 148; refine (HK.out _).mono ?_; rintro e w' ⟨rfl, rfl⟩))
      go_ret
      exact ⟨congrArg (fun b => Ending.returned (.bool b)) HR.out.symm, HB.out⟩
    · have HR : Hid (mayW ⟨k, key, val, rv, ifk, ir⟩ = false) := Lib.hid (by unfold mayW; rw [if_neg h3, if_neg h5])
      have d5 : (k == 5) = false := by simpa using h5
      clear h3 h5
      go_enter Tryz.func130, Tryz.ntmps130
      go_wp2_with fail
      go_ret
      exact ⟨congrArg (fun b => Ending.returned (.bool b)) HR.out.symm, HB.out⟩
abbrev resV (code rev : Int) (val : ByteArray) (its : Value) : Value := .agg #[.int .i64 code, .int .i64 rev, .string val, its]
def getR (L : List KEnt) (key : ByteArray) : Int × Int × ByteArray := if there L key = true then (0, revOf L key, valOf L key) else (6, 0, emp)
set_option maxRecDepth 100000 in
set_option maxHeartbeats 1000000 in
theorem get_any (g : Nat) (P : Nat → Prop) (S : KSt) (key : ByteArray) (w : World) (h : KvAt w g P S) (hs : key.size ≤ maxLen) :
    Calls Tryz.prog 81 #[ptr g, .string key] w fun e w' => e = .returned (resV (getR S.L key).1 (getR S.L key).2.1 (getR S.L key).2.2 (.slice none 0 0)) ∧ Below w.heap.size w w' := by
  obtain ⟨mb, c0, c1, hL⟩ := h.cells
  have hz := World.block_lt_of_cell? w _ c0
  have hb1 := belNew w (.cells #[.int .i64 0, .int .i64 0, .string emp, .slice none 0 0] 49)
  have hL0 := hL _ hb1 key hs
  have c1' : (w.alloc (.cells #[.int .i64 0, .int .i64 0, .string emp, .slice none 0 0] 49)).cell? ⟨g, 1, none⟩ = some (.map mb) := by rw [World.cell?_alloc_lt w _ ⟨g, 1, none⟩ hz]; exact c1
  unfold getR revOf valOf
  cases ht : there S.L key with
  | true =>
    rw [ht] at hL0
    generalize gotU S.L key = u at hL0
    obtain ⟨u1, u2, u3⟩ := u
    clear hL h c0 c1 hb1 ht
    go_enter Tryz.func81, Tryz.ntmps81
    go_wp2
    refine bodyPost_ret (v := resV 0 u3 u2 (.slice none 0 0)) (by simp [results, Tryz.results81, go_sem]) rfl ⟨rfl, ?_⟩
    repeat (first | exact Below.refl _ _ | refine Below.setCell ?_ (by simp) _ | refine Below.alloc ?_ (by simp) _)
  | false =>
    rw [ht] at hL0
    generalize gotU S.L key = u at hL0
    obtain ⟨u1, u2, u3⟩ := u
    clear hL h c0 c1 hb1 ht
    go_enter Tryz.func81, Tryz.ntmps81
    go_wp2
    refine bodyPost_ret (v := resV 6 0 emp (.slice none 0 0)) (by simp [results, Tryz.results81, go_sem]) rfl ⟨rfl, ?_⟩
    repeat (first | exact Below.refl _ _ | refine Below.setCell ?_ (by simp) _ | refine Below.alloc ?_ (by simp) _)
def stands (L : List KEnt) (key : ByteArray) (rev : Int) : Bool := there L key && decide (revOf L key = rev)
set_option maxRecDepth 100000 in
set_option maxHeartbeats 1000000 in
theorem has_any (g : Nat) (P : Nat → Prop) (S : KSt) (key : ByteArray) (rev : Int) (w : World) (h : KvAt w g P S) (hs : key.size ≤ maxLen) :
    Calls Tryz.prog 131 #[ptr g, .string key, .int .i64 rev] w fun e w' => e = .returned (.bool (stands S.L key rev)) ∧ Below w.heap.size w w' := by
  obtain ⟨mb, c0, c1, hL⟩ := h.cells
  have hL0 := hL _ (Below.refl _ w) key hs
  unfold stands revOf
  cases ht : there S.L key with
  | true =>
    rw [ht] at hL0
    generalize gotU S.L key = u at hL0
    obtain ⟨u1, u2, u3⟩ := u
    clear hL h c0 ht
    go_enter Tryz.func131, Tryz.ntmps131
    go_wp2
    go_ret
    refine ⟨rfl, ?_⟩
    repeat (first | exact Below.refl _ _ | refine Below.setCell ?_ (by simp) _ | refine Below.alloc ?_ (by simp) _)
  | false =>
    rw [ht] at hL0
    generalize gotU S.L key = u at hL0
    obtain ⟨u1, u2, u3⟩ := u
    clear hL h c0 ht
    go_enter Tryz.func131, Tryz.ntmps131
    go_wp2
    go_ret
    refine ⟨rfl, ?_⟩
    repeat (first | exact Below.refl _ _ | refine Below.setCell ?_ (by simp) _ | refine Below.alloc ?_ (by simp) _)
def effOf (o : KOp) (rev : Int) : KEff := if o.kind = 5 then ⟨o.key, emp, rev, true⟩ else ⟨o.key, o.val, rev, false⟩
set_option maxRecDepth 100000 in
set_option maxHeartbeats 1000000 in
theorem effectOf_any (o : KOp) (rev : Int) (w : World) : Calls Tryz.prog 84 #[opV o, .int .i64 rev] w fun e w' => e = .returned (effV (effOf o rev)) ∧ Below w.heap.size w w' := by
  obtain ⟨k, key, val, rv, ifk, ir⟩ := o
  unfold effOf
  by_cases h5 : k = 5
  · have d5 : (k == 5) = true := by simpa using h5
    rw [if_pos h5]
    clear h5
    go_enter Tryz.func84, Tryz.ntmps84
    go_wp2
    refine bodyPost_ret (v := effV ⟨key, emp, rev, true⟩) (by simp [results, Tryz.results84, go_sem]) rfl ⟨rfl, ?_⟩
    repeat (first | exact Below.refl _ _ | refine Below.setCell ?_ (by simp) _ | refine Below.alloc ?_ (by simp) _)
  · have d5 : (k == 5) = false := by simpa using h5
    rw [if_neg h5]
    clear h5
    go_enter Tryz.func84, Tryz.ntmps84
    go_wp2
    refine bodyPost_ret (v := effV ⟨key, val, rev, false⟩) (by simp [results, Tryz.results84, go_sem]) rfl ⟨rfl, ?_⟩
    repeat (first | exact Below.refl _ _ | refine Below.setCell ?_ (by simp) _ | refine Below.alloc ?_ (by simp) _)
end
section
open Go.RowKit Go.Maps
def refB (mw k3 th re ie st mx : Bool) : Int := if mw = false then 1 else if k3 && th then 7 else if !k3 && !th then 6 else if !k3 && !re then 8 else if !ie && !st then 8 else if mx then 1 else 0
def refuse (S : KSt) (o : KOp) : Int := refB (mayW o) (o.kind == 3) (there S.L o.key) (revOf S.L o.key == o.rev) (o.iff.toList == ([] : List UInt8)) (stands S.L o.iff o.ifRev) (S.rev == 9223372036854775807)
theorem bcell {w W : World} {a : Addr} {v : Value} (hb : Below w.heap.size w W) (h : w.cell? a = some v) : W.cell? a = some v := (hb.cell (cell_lt8 h)).trans h
theorem bne_of {α : Type} [BEq α] {a b : α} {t : Bool} (h : (a == b) = t) : (a != b) = !t := by rw [bne, h]
theorem bdrew {w W : World} {n : Nat} (h : Below n w W) : Below n w W.drew := ⟨h.os, h.tape, h.output, h.size, h.block⟩
theorem kv_cell {w : World} {g : Nat} {P : Nat → Prop} {S : KSt} (h : KvAt w g P S) : w.cell? ⟨g, 0, none⟩ = some (.int .i64 S.rev) := by
  obtain ⟨mb, c0, -⟩ := h.cells
  exact c0
theorem KvAt.facts {w : World} {g : Nat} {P : Nat → Prop} {S : KSt} (h : KvAt w g P S) (s : ByteArray) (hs : s.size ≤ maxLen) : ∀ w', Below w.heap.size w w' → ∃ mb, w'.cell? ⟨g, 0, none⟩ = some (.int .i64 S.rev) ∧ w'.cell? ⟨g, 1, none⟩ = some (.map mb) ∧
    ∀ w'', Below w'.heap.size w' w'' → (Instr.lookup 162 (.map mb) (.string s) true).run Tryz.prog w'' = .ok (.tuple #[.agg #[.string (gotU S.L s).1, .string (gotU S.L s).2.1, .int .i64 (gotU S.L s).2.2], .bool (there S.L s)]) w'' := fun w' hb => by
  obtain ⟨mb, c0, c1, hL⟩ := (h.below hb).cells
  exact ⟨mb, c0, c1, fun w'' hb' => hL _ hb' s hs⟩
theorem opcells {w : World} {g : Nat} {o : KOp} {t : TypeId} (h : w.heap[g]? = some (.cells #[.int .i64 o.kind, .string o.key, .string o.val, .int .i64 o.rev, .string o.iff, .int .i64 o.ifRev] t (0, 0))) :
    w.cell? ⟨g, 0, none⟩ = some (.int .i64 o.kind) ∧ w.cell? ⟨g, 1, none⟩ = some (.string o.key) ∧ w.cell? ⟨g, 2, none⟩ = some (.string o.val) ∧ w.cell? ⟨g, 3, none⟩ = some (.int .i64 o.rev) ∧ w.cell? ⟨g, 4, none⟩ = some (.string o.iff) ∧ w.cell? ⟨g, 5, none⟩ = some (.int .i64 o.ifRev) := by simp [World.cell?, h]
set_option maxRecDepth 100000 in
set_option maxHeartbeats 4000000 in
theorem refusal_any (g : Nat) (P : Nat → Prop) (S : KSt) (o : KOp) (w : World) (h : KvAt w g P S) (hs : o.key.size ≤ maxLen) (hs2 : o.iff.size ≤ maxLen) :
    Calls Tryz.prog 83 #[ptr g, opV o] w fun e w' => e = .returned (.int .i64 (refuse S o)) ∧ Below w.heap.size w w' := by
  have HB0 := Lib.hid (belNew w (.cells #[.int .i64 o.kind, .string o.key, .string o.val, .int .i64 o.rev, .string o.iff, .int .i64 o.ifRev] 38))
  have HX := Lib.hid (heap_alloc_new w (.cells #[.int .i64 o.kind, .string o.key, .string o.val, .int .i64 o.rev, .string o.iff, .int .i64 o.ifRev] 38))
  have HM := Lib.hid (mayWrite_any o (w.alloc (.cells #[.int .i64 o.kind, .string o.key, .string o.val, .int .i64 o.rev, .string o.iff, .int .i64 o.ifRev] 38)))
  have HH : Hid (∀ w', Below w.heap.size w w' → Calls Tryz.prog 131 #[ptr g, .string o.iff, .int .i64 o.ifRev] w' fun e w'' => e = .returned (.bool (stands S.L o.iff o.ifRev)) ∧ Below w'.heap.size w' w'') := Lib.hid (fun w' hb => has_any g P S _ _ w' (h.below hb) hs2)
  have HF := Lib.hid (h.facts o.key hs)
  unfold refuse revOf
  generalize mayW o = mw at HM
  generalize stands S.L o.iff o.ifRev = st at HH
  generalize there S.L o.key = th at HF
  generalize gotU S.L o.key = u at HF
  obtain ⟨u1, u2, u3⟩ := u
  generalize hR : refB mw (o.kind == 3) th (u3 == o.rev) (o.iff.toList == ([] : List UInt8)) st (S.rev == 9223372036854775807) = R
  have HR := Lib.hid hR
  clear h hR
  go_enter Tryz.func83, Tryz.ntmps83
  go_wp2_with fail
  refine HM.out.mono ?_; rintro e w1 ⟨rfl, hb1⟩
  cases mw with
  | false =>
    go_wp2_with fail
    go_ret
    exact ⟨congrArg (fun x => Ending.returned (.int .i64 x)) HR.out, HB0.out.trans (hb1.mono HB0.out.size)⟩
  | true =>
    have hB1 := HB0.out.trans (hb1.mono HB0.out.size)
    have HB1 := Lib.hid hB1
    have HBK := Lib.hid ((hb1.block w.heap.size (by simp)).trans HX.out)
    obtain ⟨k0, k1, k2, k3, k4, k5⟩ := opcells HBK.out
    obtain ⟨mb, c0, c1, hL1⟩ := HF.out w1 hB1
    clear hB1 hb1
    go_upto_region 3 with fail
    refine wp_region_held_drew (S := (fun W => Below w1.heap.size w1 W)) (by kernel_rfl) ?_ (fun r0 => ?_)
    · exact ⟨rfl, rfl, rfl, Nat.le_refl _, fun _ _ => rfl⟩
    refine wpAnyH_take (i := 0) (v := ?_) rfl (by kernel_rfl) (by kernel_rfl) (by kernel_rfl) (fun _ _ _ h => h) (Or.inl ⟨by rfl, ?_⟩) (by assumption) ?_
    rotate_left
    · intro wS hSw
      (try dsimp only at hSw)
      go_simp
      first | done | with_reducible rfl
    try simp only [Act.put, List.getElem_toArray, List.getElem_cons_zero, List.setIfInBounds_toArray, List.set_cons_zero, List.set_cons_succ]
    refine wpAnyH_take (i := 1) (v := ?_) rfl (by kernel_rfl) (by kernel_rfl) (by kernel_rfl) (fun _ _ _ h => h) (Or.inl ⟨by rfl, ?_⟩) (by assumption) ?_
    rotate_left
    · intro wS hSw
      (try dsimp only at hSw)
      go_simp
      first | done | with_reducible rfl
    try simp only [Act.put, List.getElem_toArray, List.getElem_cons_succ, List.getElem_cons_zero, List.setIfInBounds_toArray, List.set_cons_zero, List.set_cons_succ]
    refine wpAnyH_take (i := 2) (v := ?_) rfl (by kernel_rfl) (by kernel_rfl) (by kernel_rfl) (fun _ _ _ h => h) (Or.inl ⟨by rfl, ?_⟩) (by assumption) ?_
    rotate_left
    · intro wS hSw
      (try dsimp only at hSw)
      go_simp
      first | done | with_reducible rfl
    try simp only [Act.put, List.getElem_toArray, List.getElem_cons_succ, List.getElem_cons_zero, List.setIfInBounds_toArray, List.set_cons_zero, List.set_cons_succ]
    refine wpAnyH_take (i := 3) (v := ?_) rfl (by kernel_rfl) (by kernel_rfl) (by kernel_rfl) (fun _ _ _ h => h) (Or.inl ⟨by rfl, ?_⟩) (by assumption) ?_
    rotate_left
    · intro wS hSw
      (try dsimp only at hSw)
      have c1 := bcell hSw c1
      have k1 := bcell hSw k1
      go_simp
      first | done | with_reducible rfl
    try simp only [Act.put, List.getElem_toArray, List.getElem_cons_succ, List.getElem_cons_zero, List.setIfInBounds_toArray, List.set_cons_zero, List.set_cons_succ]
    refine wpAnyH_take (i := 4) (v := ?_) rfl (by kernel_rfl) (by kernel_rfl) (by kernel_rfl) (fun _ _ _ h => h) (Or.inl ⟨by rfl, ?_⟩) (by assumption) ?_
    rotate_left
    · intro wS hSw
      (try dsimp only at hSw)
      go_simp
      first | done | with_reducible rfl
    try simp only [Act.put, List.getElem_toArray, List.getElem_cons_succ, List.getElem_cons_zero, List.setIfInBounds_toArray, List.set_cons_zero, List.set_cons_succ]
    refine wpAnyH_take (i := 5) (v := ?_) rfl (by kernel_rfl) (by kernel_rfl) (by kernel_rfl) (fun _ _ _ h => h) (Or.inl ⟨by rfl, ?_⟩) (by assumption) ?_
    rotate_left
    · intro wS hSw
      (try dsimp only at hSw)
      have c1 := bcell hSw c1
      have k1 := bcell hSw k1
      go_simp
      first | done | with_reducible rfl
    try simp only [Act.put, List.getElem_toArray, List.getElem_cons_succ, List.getElem_cons_zero, List.setIfInBounds_toArray, List.set_cons_zero, List.set_cons_succ]
    refine wpAnyH_take (i := 6) (v := ?_) rfl (by kernel_rfl) (by kernel_rfl) (by kernel_rfl) (fun _ _ _ h => h) (Or.inl ⟨by rfl, ?_⟩) (by assumption) ?_
    rotate_left
    · intro wS hSw
      (try dsimp only at hSw)
      have hL0 := hL1 _ hSw
      go_simp
      first | done | with_reducible rfl
    try simp only [Act.put, List.getElem_toArray, List.getElem_cons_succ, List.getElem_cons_zero, List.setIfInBounds_toArray, List.set_cons_zero, List.set_cons_succ]
    refine wpAnyH_take (i := 7) (v := ?_) rfl (by kernel_rfl) (by kernel_rfl) (by kernel_rfl) (fun _ _ _ h => h) (Or.inl ⟨by rfl, ?_⟩) (by assumption) ?_
    rotate_left
    · intro wS hSw
      (try dsimp only at hSw)
      go_simp
      first | done | with_reducible rfl
    try simp only [Act.put, List.getElem_toArray, List.getElem_cons_succ, List.getElem_cons_zero, List.setIfInBounds_toArray, List.set_cons_zero, List.set_cons_succ]
    refine wpAnyH_take (i := 8) (v := ?_) rfl (by kernel_rfl) (by kernel_rfl) (by kernel_rfl) (fun _ _ _ h => h) (Or.inl ⟨by rfl, ?_⟩) (by assumption) ?_
    rotate_left
    · intro wS hSw
      (try dsimp only at hSw)
      go_simp
      first | done | with_reducible rfl
    try simp only [Act.put, List.getElem_toArray, List.getElem_cons_succ, List.getElem_cons_zero, List.setIfInBounds_toArray, List.set_cons_zero, List.set_cons_succ]
    refine wpAnyH_take (i := 9) (v := ?_) rfl (by kernel_rfl) (by kernel_rfl) (by kernel_rfl) (fun _ _ _ h => h) (Or.inl ⟨by rfl, ?_⟩) (by assumption) ?_
    rotate_left
    · intro wS hSw
      (try dsimp only at hSw)
      go_simp
      first | done | with_reducible rfl
    try simp only [Act.put, List.getElem_toArray, List.getElem_cons_succ, List.getElem_cons_zero, List.setIfInBounds_toArray, List.set_cons_zero, List.set_cons_succ]
    refine wpAnyH_ready (rs := [10]) (by kernel_rfl) (by simp) ?_
    refine AllReadyH.cons rfl (fun K hK => ?_) AllReadyH.nil
    go_simp
    refine hK.out _ _ ?_ (fun r1 => ?_)
    · show Below _ _ _
      repeat (first | exact r0 | exact Below.refl _ _ | refine bdrew ?_ | refine Below.setCell ?_ (by simp) _ | refine Below.alloc ?_ (by simp) _)
    try simp only [Act.put, List.getElem_toArray, List.getElem_cons_succ, List.getElem_cons_zero, List.setIfInBounds_toArray, List.set_cons_zero, List.set_cons_succ]
    refine wpAnyH_ready (rs := [11]) (by kernel_rfl) (by simp) ?_
    refine AllReadyH.cons rfl (fun K hK => ?_) AllReadyH.nil
    go_simp
    refine hK.out _ _ ?_ (fun r2 => ?_)
    · show Below _ _ _
      repeat (first | exact r1 | exact Below.refl _ _ | refine bdrew ?_ | refine Below.setCell ?_ (by simp) _ | refine Below.alloc ?_ (by simp) _)
    try simp only [Act.put, List.getElem_toArray, List.getElem_cons_succ, List.getElem_cons_zero, List.setIfInBounds_toArray, List.set_cons_zero, List.set_cons_succ]
    refine wpAnyH_take (i := 12) (v := ?_) rfl (by kernel_rfl) (by kernel_rfl) (by kernel_rfl) (fun _ _ _ h => h) (Or.inl ⟨by rfl, ?_⟩) (by assumption) ?_
    rotate_left
    · intro wS hSw
      (try dsimp only at hSw)
      go_simp
      first | done | with_reducible rfl
    try simp only [Act.put, List.getElem_toArray, List.getElem_cons_succ, List.getElem_cons_zero, List.setIfInBounds_toArray, List.set_cons_zero, List.set_cons_succ]
    refine wpAnyH_done (by kernel_rfl) ?_ _
    obtain ⟨w2, hw2⟩ : ∃ w2, w2 = (w1.alloc (.cells #[.string u1, .string u2, .int .i64 u3] 86)).drew := ⟨_, rfl⟩
    rw [← hw2]
    have hb2 : Below w1.heap.size w1 w2 := by rw [hw2]; exact bdrew (belNew _ _)
    have hn2 : w2.heap[w1.heap.size]? = some (.cells #[.string u1, .string u2, .int .i64 u3] 86 (0, 0)) := by rw [hw2]; exact heap_alloc_new w1 _
    obtain ⟨-, -, j2⟩ := rcells hn2
    have k0 := bcell hb2 k0
    have k1 := bcell hb2 k1
    have k2 := bcell hb2 k2
    have k3 := bcell hb2 k3
    have k4 := bcell hb2 k4
    have k5 := bcell hb2 k5
    have c0 := bcell hb2 c0
    have c1 := bcell hb2 c1
    have HB2 := Lib.hid (HB1.out.trans (hb2.mono HB1.out.size))
    clear hw2 hb2 hn2 hL1 r0 r1 r2
    cases hk : (o.kind == 3) <;> rw [hk] at HR <;> have hk2 := bne_of hk <;> cases th
    · go_wp2_with fail
      go_ret
      exact ⟨congrArg (fun x => Ending.returned (.int .i64 x)) HR.out, HB2.out⟩
    · cases hr : (u3 == o.rev) <;> rw [hr] at HR <;> have hr2 := bne_of hr
      · go_wp2_with fail
        go_ret
        exact ⟨congrArg (fun x => Ending.returned (.int .i64 x)) HR.out, HB2.out⟩
      · cases hi : (o.iff.toList == ([] : List UInt8)) <;> rw [hi] at HR <;> have hi2 := bne_of hi
        · have HH2 := Lib.hid (HH.out w2 HB2.out)
          cases st
          · go_wp2_with (first | (go_at_call 131; refine HH2.out.mono ?_; rintro e w3 ⟨rfl, hb3⟩))
            go_ret
            exact ⟨congrArg (fun x => Ending.returned (.int .i64 x)) HR.out, HB2.out.trans (hb3.mono HB2.out.size)⟩
          · cases hx : (S.rev == 9223372036854775807) <;> rw [hx] at HR
            · go_wp2_with (first | (go_at_call 131; refine HH2.out.mono ?_; rintro e w3 ⟨rfl, hb3⟩; have c0 := bcell hb3 c0))
              go_ret
              exact ⟨congrArg (fun x => Ending.returned (.int .i64 x)) HR.out, HB2.out.trans (hb3.mono HB2.out.size)⟩
            · go_wp2_with (first | (go_at_call 131; refine HH2.out.mono ?_; rintro e w3 ⟨rfl, hb3⟩; have c0 := bcell hb3 c0))
              go_ret
              exact ⟨congrArg (fun x => Ending.returned (.int .i64 x)) HR.out, HB2.out.trans (hb3.mono HB2.out.size)⟩
        · cases hx : (S.rev == 9223372036854775807) <;> rw [hx] at HR
          · go_wp2_with fail
            go_ret
            exact ⟨congrArg (fun x => Ending.returned (.int .i64 x)) HR.out, HB2.out⟩
          · go_wp2_with fail
            go_ret
            exact ⟨congrArg (fun x => Ending.returned (.int .i64 x)) HR.out, HB2.out⟩
    · cases hi : (o.iff.toList == ([] : List UInt8)) <;> rw [hi] at HR <;> have hi2 := bne_of hi
      · have HH2 := Lib.hid (HH.out w2 HB2.out)
        cases st
        · go_wp2_with (first | (go_at_call 131; refine HH2.out.mono ?_; rintro e w3 ⟨rfl, hb3⟩))
          go_ret
          exact ⟨congrArg (fun x => Ending.returned (.int .i64 x)) HR.out, HB2.out.trans (hb3.mono HB2.out.size)⟩
        · cases hx : (S.rev == 9223372036854775807) <;> rw [hx] at HR
          · go_wp2_with (first | (go_at_call 131; refine HH2.out.mono ?_; rintro e w3 ⟨rfl, hb3⟩; have c0 := bcell hb3 c0))
            go_ret
            exact ⟨congrArg (fun x => Ending.returned (.int .i64 x)) HR.out, HB2.out.trans (hb3.mono HB2.out.size)⟩
          · go_wp2_with (first | (go_at_call 131; refine HH2.out.mono ?_; rintro e w3 ⟨rfl, hb3⟩; have c0 := bcell hb3 c0))
            go_ret
            exact ⟨congrArg (fun x => Ending.returned (.int .i64 x)) HR.out, HB2.out.trans (hb3.mono HB2.out.size)⟩
      · cases hx : (S.rev == 9223372036854775807) <;> rw [hx] at HR
        · go_wp2_with fail
          go_ret
          exact ⟨congrArg (fun x => Ending.returned (.int .i64 x)) HR.out, HB2.out⟩
        · go_wp2_with fail
          go_ret
          exact ⟨congrArg (fun x => Ending.returned (.int .i64 x)) HR.out, HB2.out⟩
    · go_wp2_with fail
      go_ret
      exact ⟨congrArg (fun x => Ending.returned (.int .i64 x)) HR.out, HB2.out⟩
end
section
open Go.RowKit Go.Maps Go.Sort Go.Shelf Go.WideShapes Go.WideAt
abbrev encI (p : KEnt) : List Value := [.string ⟨p.1.toArray⟩, .string p.2.1, .int .i64 p.2.2]
/-- A row of items of the call's own. -/
abbrev RowI (w : World) (B : Nat) (v : Value) (L : List KEnt) : Prop := w.ownsRow B 86 3 v L.length (L.flatMap encI)
def cmpK (x y : KEnt) : Int := Lib.compareBytes x.1 y.1
theorem cmp_lt : ∀ a b : List UInt8, decide (Lib.compareBytes a b < 0) = bytesBefore a b
  | [], [] => rfl
  | [], _ :: _ => rfl
  | _ :: _, [] => rfl
  | x :: r, y :: s => by
    rw [Lib.compareBytes, bytesBefore]
    by_cases h1 : x < y
    · simp [h1]
    · by_cases h2 : y < x
      · have h3 : x ≠ y := fun e => by subst e; exact UInt8.lt_irrefl _ h2
        simp [h1, h2, h3]
      · have h3 : x = y := UInt8.le_antisymm (UInt8.not_lt.1 h2) (UInt8.not_lt.1 h1)
        subst h3
        simp [cmp_lt r s]
theorem lt_cmpK (x y : KEnt) : ltOf cmpK x y = bytesBefore x.1 y.1 := cmp_lt x.1 y.1
theorem not_before {a b : List UInt8} (h : bytesBefore a b = false) : a = b ∨ bytesBefore b a = true := by
  by_cases e : a = b
  · exact Or.inl e
  · rcases bytes_total a b e with h1 | h1
    · rw [h] at h1; cases h1
    · exact Or.inr h1
theorem swoK : SWO (ltOf cmpK) where
  irrefl x := by rw [lt_cmpK]; exact bytes_irrefl _
  trans x y z h1 h2 := by rw [lt_cmpK] at *; exact bytes_trans _ _ _ h1 h2
  ntrans x y z h1 h2 := by
    rw [lt_cmpK] at *
    rcases not_before h1 with e | h1
    · rw [e]; exact h2
    · rcases not_before h2 with e | h2
      · rw [← e]
        cases h : bytesBefore x.1 y.1 with
        | false => rfl
        | true =>
          have := bytes_trans _ _ _ h1 h
          rw [bytes_irrefl] at this; cases this
      · cases h : bytesBefore x.1 z.1 with
        | false => rfl
        | true =>
          have := bytes_trans _ _ _ (bytes_trans _ _ _ h2 h1) h
          rw [bytes_irrefl] at this; cases this
set_option maxHeartbeats 1000000 in
theorem closure_any (x y : KEnt) (W : World) : Calls Tryz.prog 128 #[.agg (encI x).toArray, .agg (encI y).toArray] W fun e w' => e = .returned (.int .i64 (cmpK x y)) ∧ ∃ q os', w' = grow (W.drewN q) os' := by
  have hcon := fun W' => Tryz.strings_Compare ⟨x.1.toArray⟩ ⟨y.1.toArray⟩ W'
  have e : Lib.compareBytes (⟨x.1.toArray⟩ : ByteArray).data.toList (⟨y.1.toArray⟩ : ByteArray).data.toList = cmpK x y := rfl
  simp only [e] at hcon
  generalize cmpK x y = r at hcon
  clear e
  go_enter Tryz.func128, Tryz.ntmps128
  go_wp2_with (go_at_call 129; refine (hcon _).mono ?_; rintro e w' ⟨rfl, rfl⟩)
  go_ret
  exact ⟨rfl, 0, _, by rw [alloc_eq_grow, alloc_eq_grow, grow_grow]; rfl⟩
theorem cmpLaysK (blk off size : Nat) (w : World) : CmpLays Tryz.prog 128 #[] encI 3 cmpK blk off size w :=
  fun _ _ _ _ x y => closure_any x y _
theorem flat_atI : ∀ (L : List KEnt) (i j : Nat) (f : KEnt), L[i]? = some f → j < 3 → (L.flatMap encI)[i * 3 + j]? = (encI f)[j]?
  | [], i, j, f, h, _ => by simp at h
  | a :: L, 0, j, f, h, hj => by
    obtain rfl : a = f := by simpa using h
    rw [List.flatMap_cons, Nat.zero_mul, Nat.zero_add, List.getElem?_append_left (by simp; omega)]
  | a :: L, i + 1, j, f, h, hj => by
    rw [List.flatMap_cons, List.getElem?_append_right (by simp; omega)]
    have e : (i + 1) * 3 + j - (encI a).length = i * 3 + j := by simp; omega
    rw [e]
    exact flat_atI L i j f (by simpa using h) hj
theorem flat_len (L : List KEnt) : (L.flatMap encI).length = L.length * 3 := by
  induction L with
  | nil => rfl
  | cons a L ih => rw [List.flatMap_cons, List.length_append, ih]; simp; omega
theorem flatK_list (d : Array KEnt) : (flatK encI 3 d).toList = d.toList.flatMap encI := by
  apply List.ext_getElem?
  intro t
  by_cases ht : t < d.size * 3
  · have h1 : t / 3 < d.size := by omega
    have h2 := flat_atI d.toList (t / 3) (t % 3) d[t / 3]! (by rw [getElem!_pos d _ h1]; simp [h1]) (by omega)
    rw [show t / 3 * 3 + t % 3 = t from by omega] at h2
    rw [h2, Array.getElem?_toList, Array.getElem?_eq_getElem (by simpa using ht)]
    have h3 := get_flatK encI 3 d t ht
    rw [getElem!_pos _ t (by simpa using ht)] at h3
    rw [h3]
    have h4 : t % 3 < 3 := Nat.mod_lt _ (by omega)
    generalize t % 3 = j at h4
    match j, h4 with
    | 0, _ => rfl
    | 1, _ => rfl
    | 2, _ => rfl
  · rw [List.getElem?_eq_none (by simp; omega), List.getElem?_eq_none (by rw [flat_len]; simp; omega)]
theorem putCells_take (d : Array Value) (cur : Array Value) (h : d.size ≤ cur.size) : (putCells id 0 d cur).size = cur.size ∧ (putCells id 0 d cur).toList.take d.size = d.toList := by
  refine ⟨by simp [putCells], ?_⟩
  apply List.ext_getElem?
  intro i
  by_cases hi : i < d.size
  · rw [List.getElem?_take, if_pos hi, Array.getElem?_toList, Array.getElem?_toList, Array.getElem?_eq_getElem (by simp [putCells]; omega), Array.getElem?_eq_getElem hi]
    simp [putCells, hi]
  · rw [List.getElem?_take, if_neg hi, Array.getElem?_toList, Array.getElem?_eq_none (by omega)]
theorem sorted_perm {T T' : List KEnt} (hp : T'.Perm T) (hd : T.Pairwise (fun p q => p.1 ≠ q.1)) (hs : T'.Pairwise (fun p q => bytesBefore q.1 p.1 = false)) : Rising T' := by
  have hd' : T'.Pairwise (fun p q => p.1 ≠ q.1) := (hp.pairwise_iff (fun h => Ne.symm h)).2 hd
  exact (hs.and hd').imp fun {p q} h => by
    rcases not_before h.1 with e | h1
    · exact absurd e.symm h.2
    · exact h1
set_option maxHeartbeats 1000000 in
theorem sort_any (w : World) (B : Nat) (v : Value) (T : List KEnt) (h : RowI w B v T) (hd : T.Pairwise (fun p q => p.1 ≠ q.1)) (hl : T.length < 4611686018427387904) :
    Calls Tryz.prog 127 #[v, .func (.func 128) #[] #[]] w fun e w' => e = .returned (.tuple #[]) ∧ ∃ T', T'.Perm T ∧ Rising T' ∧ RowI w' B v T' ∧ Touch (fun i => v.ownBlock = some i) w w' := by
  obtain ⟨hlen, ⟨rfl, h0⟩ | ⟨g, cap, cur, rfl, hB, hb, hn, hm, hz, ht⟩⟩ := h
  · obtain rfl := List.eq_nil_of_length_eq_zero h0
    refine (AnyF.slices_SortFunc_none { Tryz.sortIt with } none 0 (.func (.func 128) #[] #[]) w).mono ?_
    rintro e w' ⟨rfl, rfl⟩
    exact ⟨rfl, [], List.Perm.refl _, List.Pairwise.nil, World.ownsRow_nil _ _ _ _, Touch.refl _ _⟩
  · have hH : HoldsK encI 3 w g 0 T.toArray := by
      intro j hj
      rw [size_flatK] at hj
      have hj' : j < T.length * 3 := by simpa using hj
      have e1 : (flatK encI 3 T.toArray)[j]? = some (flatK encI 3 T.toArray)[j]! := by
        rw [getElem!_pos _ j (by simpa using hj)]; exact Array.getElem?_eq_getElem _
      have e2 : cur[j]? = some (flatK encI 3 T.toArray)[j]! := by
        rw [← e1, ← Array.getElem?_toList, ← Array.getElem?_toList, flatK_list, ← ht, List.getElem?_take, if_pos hj']
      refine ⟨?_, by simp [World.frozen?, hb]⟩
      simp [World.cell?, hb, e2]
    have eg : ∀ args w, (callFunc 128 args).run Tryz.prog w = .ok (.enter 128 args) w := enters_of Tryz.func128 (by kernel_rfl) rfl
    have hcon := AnyQ.slices_SortFunc Tryz.sortIt 3 Tryz.isAgg86 Tryz.sizeOf86 encI (fun _ => rfl) (fun x v hv => by simp at hv; rcases hv with rfl | rfl | rfl <;> rfl) cmpK swoK 128 #[] g 0 cap T.toArray w eg (cmpLaysK g 0 _ w) hH (heap_lt hb) (by simpa using hl)
    refine hcon.mono ?_
    rintro e w' ⟨rfl, d', n, os, hp, hs, rfl⟩
    have hsz : d'.size = T.length := by simpa using hp.1
    have hperm : d'.toList.Perm T := by
      have := hp.2.2
      have e1 : d'.extract 0 T.toArray.size = d' := by rw [Array.extract_eq_self_iff]; right; simp [hsz]
      have e2 : T.toArray.extract 0 T.toArray.size = T.toArray := by rw [Array.extract_eq_self_iff]; right; simp
      rw [e1, e2] at this
      simpa using this
    have hsort : d'.toList.Pairwise (fun p q => bytesBefore q.1 p.1 = false) := by
      rw [List.pairwise_iff_getElem]
      intro i j hi hj hij
      have hi' : i < d'.size := by simpa using hi
      have hj' : j < d'.size := by simpa using hj
      have := hs i j (Nat.zero_le _) hij (by simpa [hsz] using hj')
      rw [lt_cmpK, getElem!_pos d' i hi', getElem!_pos d' j hj'] at this
      simpa using this
    refine ⟨rfl, d'.toList, hperm, sorted_perm hperm hd hsort, ?_, ?_⟩
    · have hpc := putCells_take (flatK encI 3 d') cur (by rw [size_flatK, hz, hsz]; exact Nat.mul_le_mul_right _ hn)
      refine ⟨by rw [flat_len], Or.inr ⟨g, cap, putCells id 0 (flatK encI 3 d') cur, by simp [hsz], hB, ?_, by rw [Array.length_toList, hsz]; exact hn, hm, by rw [hpc.1, hz], ?_⟩⟩
      · show (w.heap.modify g (onCells (putCells id 0 (flatK encI 3 d'))) ++ os)[g]? = _
        rw [Array.getElem?_append_left (by simpa using heap_lt hb), Array.getElem?_modify, if_pos rfl, hb]
        rfl
      · rw [Array.length_toList, ← flatK_list, ← hpc.2, size_flatK]
    · refine ⟨rfl, rfl, rfl, ?_, fun k hk hne => ?_⟩
      · show w.heap.size ≤ (w.heap.modify g (onCells (putCells id 0 (flatK encI 3 d'))) ++ os).size
        simp
      · show (w.heap.modify g (onCells (putCells id 0 (flatK encI 3 d'))) ++ os)[k]? = _
        rw [Array.getElem?_append_left (by simpa using hk), Array.getElem?_modify, if_neg (fun e => hne (by rw [← e]; rfl))]
end
section
open Go.RowKit Go.Maps
/-- What is read of a row of items. -/
def SeesI (w : World) (v : Value) (L : List KEnt) : Prop :=
  ∃ (ao : Option Addr) (c : Nat), v = .slice ao L.length c ∧ L.length ≤ c ∧ (ao = none → L = []) ∧ ∀ a, ao = some a → ∀ i p, L[i]? = some p →
    w.cell? (a.add (i * 3)) = some (.string ⟨p.1.toArray⟩) ∧ w.cell? ((a.add (i * 3)).add 1) = some (.string p.2.1) ∧ w.cell? ((a.add (i * 3)).add 2) = some (.int .i64 p.2.2)
abbrev RowE (E : TypeId) (w : World) (B : Nat) (v : Value) (L : List KEnt) : Prop := w.ownsRow B E 3 v L.length (L.flatMap encI)
abbrev RowR (w : World) (B : Nat) (v : Value) (L : List KEnt) : Prop := RowE 118 w B v L
theorem RowE.sees {E : TypeId} {w : World} {B : Nat} {v : Value} {L : List KEnt} (h : RowE E w B v L) : SeesI w v L := by
  rcases h.2 with ⟨e, h0⟩ | ⟨g, cap, cur, e, _, hb, hn, _⟩
  · have h1 : L = [] := List.eq_nil_of_length_eq_zero h0
    subst h1
    exact ⟨none, 0, e, Nat.le_refl _, (fun _ => rfl), (fun a ha => by cases ha)⟩
  · refine ⟨_, _, e, hn, (fun h => by cases h), fun a ha i f hf => ?_⟩
    cases ha
    have hc := World.ownsRow.cells h (g := g) (by rw [e]; rfl)
    have h0 := hc (i * 3 + 0) _ ((flat_atI L i 0 f hf (by omega)).trans rfl)
    have h1 := hc (i * 3 + 1) _ ((flat_atI L i 1 f hf (by omega)).trans rfl)
    have h2 := hc (i * 3 + 2) _ ((flat_atI L i 2 f hf (by omega)).trans rfl)
    rw [Addr.add_add, Addr.add_add]
    exact ⟨h0, h1, h2⟩
theorem SeesI.keep {w w' : World} {v : Value} {L : List KEnt} (h : SeesI w v L) (hb : ∀ d, v.ownBlock = some d → d < w.heap.size → w'.heap[d]? = w.heap[d]?) : SeesI w' v L := by
  obtain ⟨ao, c, rfl, h1, h2, h3⟩ := h
  refine ⟨ao, c, rfl, h1, h2, fun a ha i f hf => ?_⟩
  obtain ⟨q1, q2, q3⟩ := h3 a ha i f hf
  subst ha
  have hl : a.block < w.heap.size := by have := cell_lt8 q1; rwa [add_block] at this
  have e := hb a.block rfl hl
  exact ⟨(World.cell?_of_block (by rw [add_block]; exact e)).trans q1, (World.cell?_of_block (by rw [add_block, add_block]; exact e)).trans q2, (World.cell?_of_block (by rw [add_block, add_block]; exact e)).trans q3⟩
theorem SeesI.below {w w' : World} {v : Value} {L : List KEnt} (h : SeesI w v L) (hb : Below w.heap.size w w') : SeesI w' v L := h.keep (fun d _ hd => hb.block d hd)
theorem row_leE {E : TypeId} {w : World} {B B' : Nat} {v : Value} {L : List KEnt} (h : RowE E w B v L) (hb : B' ≤ B) : RowE E w B' v L := ⟨h.1, h.2.imp id fun ⟨g, cap, cur, e, b, r⟩ => ⟨g, cap, cur, e, Nat.le_trans hb b, r⟩⟩
theorem row_neE {E : TypeId} {w : World} {B r : Nat} {v : Value} {L : List KEnt} (h : RowE E w B v L) (hr : r < B) : v.ownBlock = none ∨ v.ownBlock ≠ some r := by
  cases hv : v.ownBlock with
  | none => exact Or.inl rfl
  | some d => exact Or.inr (fun e => by have h1 := (World.ownsRow.lt h d hv).1; have h2 := Option.some.inj e; omega)
theorem row_keep {E : TypeId} {w w' : World} {B : Nat} {v : Value} {L : List KEnt} (h : RowE E w B v L) (hb : Below w.heap.size w w') : RowE E w' B v L :=
  ⟨h.1, h.2.imp id fun ⟨g, cap, cur, e, b, hg, r⟩ => ⟨g, cap, cur, e, b, (hb.block g (heap_lt hg)).trans hg, r⟩⟩
theorem infoK : (Tryz.prog.info? 86).map (fun i => (i.zero, i.size, i.bytes)) = some (some zeroF, 3, 40) := by kernel_rfl
theorem infoR : (Tryz.prog.info? 118).map (fun i => (i.zero, i.size, i.bytes)) = some (some zeroF, 3, 40) := by kernel_rfl
theorem add0 (g n : Nat) : (⟨g, 0, none⟩ : Addr).add n = ⟨g, n, none⟩ := by
  unfold Addr.add
  by_cases h : n = 0
  · subst h; rfl
  · simp [h]
/-- append of one item to a row of the call's own. -/
theorem wpList_push {T E : TypeId} (hTE : Tryz.prog.underlying T = some (.slice E)) (hI : (Tryz.prog.info? E).map (fun i => (i.zero, i.size, i.bytes)) = some (some zeroF, 3, 40)) {w0 : World} {ops : Array Oper} {rest : List Oper} {o : Oper} {a : Act} {Q : Exit → Act → World → Prop} (hgd : o.guard = none) (s x : Operand)
    (ho : o.op = .call { callee := .builtin .append, args := #[s, x], argTypes := #[T, T] }) (B : Nat) (v : Value) (L : List KEnt) (nm : ByteArray) (u : ByteArray × Int)
    (k : Nat) (hk : k = w0.heap.size) (hs : a.eval s = v) (hx : a.eval x = .slice (some ⟨k, 0, none⟩) 1 1) (hrow : RowE E w0 B v L) (hlen : L.length ≤ 1000001) (hB : B ≤ w0.heap.size)
    (h : ∀ v' w', RowE E w' B v' (L ++ [(nm.data.toList, u)]) → Below B w0 w' → w0.grownBy w' v.ownBlock → wpList Tryz.prog ops Q rest (a.put o.dst v') w') :
    wpList Tryz.prog ops Q (o :: rest) a (w0.alloc (.cells #[.string nm, .string u.1, .int .i64 u.2] E)) := by
  subst hk
  obtain ⟨i0, hi, hz0, hz1, hz2⟩ := info_parts hI
  have hbk := heap_alloc_new w0 (.cells #[.string nm, .string u.1, .int .i64 u.2] E)
  refine wpList_append_own _ hgd s x T ho B E i0 zeroF 3 40 hTE hi hz0 hz1 hz2 rfl (by decide) v _ _ hs (hrow.alloc _) ⟨w0.heap.size, 0, none⟩ 1 1 [.string nm, .string u.1, .int .i64 u.2] hx rfl (fun j y hj => ?_) ?_ (by unfold maxLen; omega) (by omega) (by simp; omega) ?_
  · rw [add0]
    rcases j with _ | _ | _ | j
    · obtain rfl : Value.string nm = y := by simpa using hj
      exact (rcells hbk).1
    · obtain rfl : Value.string u.1 = y := by simpa using hj
      exact (rcells hbk).2.1
    · obtain rfl : Value.int .i64 u.2 = y := by simpa using hj
      exact (rcells hbk).2.2
    · simp at hj
  · intro y hy
    simp only [List.mem_cons, List.not_mem_nil, or_false] at hy
    rcases hy with rfl | rfl | rfl <;> rfl
  · intro v' w' hown' hgrow _
    have hg0 : w0.grownBy w' v.ownBlock := World.grownBy.trans (b := w0.alloc (.cells #[.string nm, .string u.1, .int .i64 u.2] E)) ⟨rfl, rfl, rfl, by simp, fun k hk _ => Below.heap_alloc w0 _ k hk⟩ hgrow
    refine h v' w' ?_ ((Below.refl B w0).grown hg0 hB (fun k hk => (hrow.lt k hk).1)) hg0
    have e1 : (L ++ [(nm.data.toList, u)]).length = L.length + 1 := by simp
    have e2 : (L ++ [(nm.data.toList, u)]).flatMap encI = L.flatMap encI ++ [.string nm, .string u.1, .int .i64 u.2] := by simp [List.flatMap_append]
    show w'.ownsRow _ _ _ _ _ _
    rw [e1, e2]
    exact hown'
theorem dat_at {L : List KEnt} {k : List UInt8} {c : Value} (h : ∀ zd, (datum (entsV L)).atKey (.string k) zd = .held c) : ∃ u, getE L k = some u ∧ c = itV k u := by
  have h1 := h .nil
  rw [datum_at, getE_ents] at h1
  cases hg : getE L k with
  | none => rw [hg] at h1; cases h1
  | some u => rw [hg] at h1; exact ⟨u, rfl, (DataW.held.inj h1).symm⟩
theorem getE_memL {β : Type} {es : List (List UInt8 × β)} {k : List UInt8} {v : β} (h : getE es k = some v) : (k, v) ∈ es := by
  unfold getE at h
  cases hf : es.find? (fun p => p.1 == k) with
  | none => rw [hf] at h; cases h
  | some p =>
    rw [hf] at h
    have h1 := List.mem_of_find?_eq_some hf
    have h2 := List.find?_some hf
    have h3 : p.2 = v := Option.some.inj h
    have h4 : p.1 = k := by simpa using h2
    rw [← h3, ← h4]
    exact h1
/-- What a range over a map of items has met so far, of those whose keys are wanted. -/
def Met (L : List KEnt) (pf : List UInt8 → Bool) (left : Lit → Bool) (T : List KEnt) : Prop := T.Pairwise (fun p q => p.1 ≠ q.1) ∧ ∀ p, p ∈ T ↔ (p ∈ L ∧ pf p.1 = true ∧ left (.string p.1) = false)
theorem has_ents (L : List KEnt) (p : KEnt) (h : p ∈ L) : Maps.has (datum (entsV L)) (.string p.1) = true := by
  refine List.any_eq_true.2 ⟨(Lit.string p.1, DataW.held (itV p.1 p.2)), ?_, by simp [Lit.sameKey]⟩
  exact List.mem_map.2 ⟨(p.1, itV p.1 p.2), List.mem_map.2 ⟨p, h, rfl⟩, rfl⟩
theorem Met.start (L : List KEnt) (pf : List UInt8 → Bool) : Met L pf (Maps.has (datum (entsV L))) [] :=
  ⟨List.Pairwise.nil, fun p => by
    constructor
    · intro h; cases h
    · rintro ⟨h1, _, h2⟩
      rw [has_ents L p h1] at h2; cases h2⟩
theorem Rising.keys {β : Type} {L : List (List UInt8 × β)} (h : Rising L) {p q : List UInt8 × β} (hp : p ∈ L) (hq : q ∈ L) (e : p.1 = q.1) : p = q := by
  induction L with
  | nil => cases hp
  | cons a L ih =>
    obtain ⟨h1, h2⟩ := List.pairwise_cons.1 h
    rcases List.mem_cons.1 hp with e1 | hp1 <;> rcases List.mem_cons.1 hq with e2 | hq1
    · rw [e1, e2]
    · have := h1 q hq1; rw [← e1, e, WideAt.bytes_irrefl] at this; cases this
    · have := h1 p hp1; rw [← e2, e, WideAt.bytes_irrefl] at this; cases this
    · exact ih h2 hp1 hq1
theorem Met.step {L : List KEnt} {pf : List UInt8 → Bool} {left : Lit → Bool} {T : List KEnt} (h : Met L pf left T) (hr : Rising L) {k : List UInt8} {u : ByteArray × Int} (hm : (k, u) ∈ L) (hl : left (.string k) = true) :
    Met L pf (fun z => left z && !z.sameKey (.string k)) (if pf k = true then T ++ [(k, u)] else T) := by
  have hs : ∀ x : List UInt8, (Lit.string x).sameKey (.string k) = decide (x = k) := fun x => by by_cases e : x = k <;> simp [Lit.sameKey, e]
  have hno : ∀ p ∈ T, p.1 ≠ k := fun p hp e => by
    have := ((h.2 p).1 hp).2.2
    rw [e, hl] at this; cases this
  have key : ∀ p : KEnt, p ∈ L → (p.1 = k ↔ p = (k, u)) := fun p hp => ⟨fun e => hr.keys hp hm e, fun e => by rw [e]⟩
  by_cases hp : pf k = true
  · rw [if_pos hp]
    refine ⟨List.pairwise_append.2 ⟨h.1, List.pairwise_singleton _ _, fun p hpT q hq => ?_⟩, fun p => ?_⟩
    · obtain rfl : q = (k, u) := by simpa using hq
      exact hno p hpT
    · rw [List.mem_append, h.2 p, List.mem_singleton]
      simp only [hs]
      constructor
      · rintro (⟨h1, h2, h3⟩ | rfl)
        · exact ⟨h1, h2, by rw [h3]; rfl⟩
        · exact ⟨hm, hp, by simp⟩
      · rintro ⟨h1, h2, h3⟩
        by_cases e : p.1 = k
        · exact Or.inr ((key p h1).1 e)
        · refine Or.inl ⟨h1, h2, by simpa [e] using h3⟩
  · rw [if_neg hp]
    refine ⟨h.1, fun p => ?_⟩
    rw [h.2 p]
    simp only [hs]
    constructor
    · rintro ⟨h1, h2, h3⟩
      exact ⟨h1, h2, by rw [h3]; rfl⟩
    · rintro ⟨h1, h2, h3⟩
      have e : p.1 ≠ k := fun e => hp (e ▸ h2)
      exact ⟨h1, h2, by simpa [e] using h3⟩
/-- All have been met: sorted they are those that are wanted, in order. -/
theorem Met.done {L : List KEnt} {pf : List UInt8 → Bool} {left : Lit → Bool} {T T' : List KEnt} (h : Met L pf left T) (hr : Rising L) (hl : ∀ z, left z = false) (hp : T'.Perm T) (hs : Rising T') : T' = L.filter (fun p => pf p.1) := by
  have h2 : Rising (L.filter fun p => pf p.1) := List.Pairwise.filter _ hr
  have hmem : ∀ p, p ∈ T' ↔ p ∈ L.filter (fun p => pf p.1) := fun p => by
    rw [hp.mem_iff, h.2 p, List.mem_filter]
    simp [hl]
  have nd : ∀ {M : List KEnt}, Rising M → M.Nodup := fun hM => hM.imp fun {a b} hab e => by rw [e, WideAt.bytes_irrefl] at hab; cases hab
  have hperm : T'.Perm (L.filter fun p => pf p.1) := (List.perm_ext_iff_of_nodup (nd hs) (nd h2)).2 hmem
  refine List.Perm.eq_of_pairwise (le := fun (a b : KEnt) => bytesBefore a.1 b.1 = true) (fun a b _ _ h1 h2 => ?_) hs h2 hperm
  have := WideShapes.bytes_trans _ _ _ h1 h2
  rw [WideAt.bytes_irrefl] at this; cases this
end
section
open Go.RowKit Go.Maps Go.Shelf
/-- Those whose keys begin so. -/
def begins (s : ByteArray) (k : List UInt8) : Bool := Lib.hasPrefix k (kl s)
def beginL (L : List KEnt) (s : ByteArray) : List KEnt := L.filter (fun p => begins s p.1)
theorem rising_ents {L : List KEnt} : Rising L → True := fun _ => trivial
set_option maxRecDepth 100000 in
set_option maxHeartbeats 4000000 in
theorem under_some (g b : Nat) (rv : Int) (L : List KEnt) (s : ByteArray) (w : World) (h : w.heap[g]? = some (.cells #[.int .i64 rv, .map (some b)] 164 (0, 0))) (hm : MapIs w b L.length (entsV L)) (hr : Rising L) (hn : L.length ≤ 1000000) :
    Calls Tryz.prog 82 #[ptr g, .string s] w fun e w' => ∃ v, e = .returned v ∧ RowI w' w.heap.size v (beginL L s) ∧ Below w.heap.size w w' := by
  have HH := Lib.hid (held_any g rv (some b) w h)
  have HR := Lib.hid hr
  have hown : w.ownsMap Tryz.prog 9 Rv b L.length (datum (entsV L)) := hm
  have HSZ : Hid (Maps.size (datum (entsV L)) = L.length) := Lib.hid (datum_size L)
  have HP : Hid (∀ (k : List UInt8) (w' : World), Calls Tryz.prog 126 #[.string ⟨k.toArray⟩, .string s] w' fun e w'' => e = .returned (.bool (begins s k)) ∧ w'' = w') := Lib.hid (fun k w' => Tryz.strings_HasPrefix ⟨k.toArray⟩ s w')
  have hbl := hm.lt
  clear h hr hm
  go_enter Tryz.func82, Tryz.ntmps82
  go_wp2_with (first
    | (go_at_call 125; refine HH.out.mono ?_; rintro e w' ⟨rfl, rfl⟩)
    | (at_range; refine wpList_range_own _ rfl _ 162 rfl 9 86 keyedS Tryz.underlying162 Rv b L.length (datum (entsV L)) rfl hown ?_; intro w0 hrg0 hg0 hs0)
    | go_in)
  go_frame
  have HG0 := Lib.hid hg0
  clear hs0
  go_loopw [5] (fun v wr => ∃ (T : List KEnt) (left : Lit → Bool) (cnt : Nat), wr.ranges Tryz.prog 9 Rv b w.heap.size L.length (datum (entsV L)) left cnt ∧ RowI wr (w.heap.size + 1) v T ∧ Aside (Met L (begins s) left T) ∧ T.length + cnt ≤ L.length ∧ Below w.heap.size w wr ∧ w.heap.size < wr.heap.size)
    (fun _ wr => wr.rangeLeft b w.heap.size)
  case atStart =>
    refine ⟨[], _, _, hrg0, World.ownsRow_nil _ _ _ _, Met.start L _, by rw [HSZ.out]; simp, (Below.refl _ w).grown hg0 (Nat.le_refl _) (fun j hj => by cases hj), hrg0.lt⟩
  case round =>
    obtain ⟨T, left, cnt, hrg, hrow, hM, hcnt, hB, hlt0⟩ := hrel
    go_wp2_with (first
      | (at_next; refine wpList_next_ranges _ rfl _ rfl 9 keyedS Rv encStr id (fun key kl hk => by obtain ⟨x, hx, _⟩ := Maps.keyOf_str Tryz.underlying9 hk; exact ⟨x, hx⟩) (fun v _ _ => ⟨v, rfl⟩) b w.heap.size L.length _ _ _ rfl hrg ?_ ?_)
      | go_in)
    · -- nothing is left
      intro _ hl0
      have HL0 := Lib.hid hl0
      have HB := Lib.hid hB
      go_wp2_with (first
        | (go_at_call 127; refine (sort_any wr (w.heap.size + 1) u5 T hrow hM.out.1 (by omega)).mono ?_; rintro e w2 ⟨rfl, T', hperm, hris, hrow2, ht2⟩)
        | fail)
      go_ret
      have e := hM.out.done HR.out HL0.out hperm hris
      refine ⟨_, rfl, ?_, HB.out.trans (ht2.below HB.out.size (fun i hi => Nat.le_of_succ_le (World.ownsRow.lt hrow i hi).1))⟩
      rw [e] at hrow2
      exact row_leE hrow2 (Nat.le_succ _)
    · intro x c kl0 yd yp w1 cnt1 hkey hlx hv hat hrg1 hlt hg1 hs1 hen
      obtain ⟨x', ex, rfl, hxl⟩ := Maps.keyOf_str Tryz.underlying9 hkey
      obtain rfl : x = x' := encStr_inj ex
      have hy : yd = .held c := by unfold Rv at hv; exact (congrArg Prod.fst (Option.some.inj hv)).symm
      subst hy
      obtain ⟨u, hu, rfl⟩ := dat_at hat
      have hM2 := hM.out.step HR.out (getE_memL hu) hlx
      have hb1 : Below w.heap.size w w1 := hB.grown hg1 (by omega) (fun j hj => by cases hj; exact Nat.le_refl _)
      have hrow1 : RowI w1 (w.heap.size + 1) u5 T := World.ownsRow.kept hrow hg1 (by
        cases hv : u5.ownBlock with
        | none => exact Or.inl rfl
        | some d => exact Or.inr (fun e => by have h1 := (World.ownsRow.lt hrow d hv).1; have h2 := Option.some.inj e; omega))
      have hl1 : w.heap.size < w1.heap.size := by rw [hs1]; exact hlt0
      have HLX := Lib.hid (And.intro hg1 (And.intro hlt hrg1))
      have HB1 := Lib.hid hb1
      clear hs1 hat hu hkey hv ex hb1 hlx
      simp only [itV, encStr] at hen ⊢
      cases hp : begins s x with
      | true =>
        have HPx := HP.out x
        rw [hp] at HPx
        rw [if_pos hp] at hM2
        have HPX := Lib.hid HPx
        have HM2 := Lib.hid hM2
        clear HPx hM2 hp
        have hrow2 := hrow1.alloc (.cells #[.string ⟨x.toArray⟩, .string u.1, .int .i64 u.2] 86)
        go_wp2_with (first
          | (go_at_call 126; refine (HPX.out _).mono ?_; rintro e w' ⟨rfl, rfl⟩)
          | (at_builtin; refine wpList_push Tryz.underlying47 infoK rfl (.tmp 19) (.tmp 21) rfl (w.heap.size + 1) u5 T ⟨x.toArray⟩ u (w1.heap.size + 1) (by simp) rfl rfl hrow2 (by omega) (by simp; omega) ?_; intro v2 w2 hrow3 hb2 hg2)
          | go_in)
        have hn0 : u5.ownBlock ≠ some w.heap.size := fun e => by have h1 := (World.ownsRow.lt hrow1 _ e).1; omega
        have hnb : u5.ownBlock ≠ some b := fun e => by have h1 := (World.ownsRow.lt hrow1 _ e).1; omega
        have hrg2 := (HLX.out.2.2.alloc (.cells #[.string ⟨x.toArray⟩, .string u.1, .int .i64 u.2] 86)).kept hg2 (fun e => hnb e.symm) (fun e => hn0 e.symm)
        go_roundw
        case rel =>
          refine ⟨T ++ [(x, u)], _, cnt1, hrg2, hrow3, HM2.out, by have := HLX.out.2.1; rw [List.length_append]; simp; omega, (belAlloc HB1.out _).trans (hb2.mono (Nat.le_succ _)), ?_⟩
          have := hb2.size
          have h4 := HLX.out.1
          have := hg2.size
          simp at this
          omega
        case measure => rw [hrg2.left_eq, hrg.left_eq]; exact HLX.out.2.1
      | false =>
        have HPx := HP.out x
        rw [hp] at HPx
        rw [if_neg (by rw [hp]; simp)] at hM2
        have HPX := Lib.hid HPx
        have HM2 := Lib.hid hM2
        clear HPx hM2 hp
        go_wp2_with (first
          | (go_at_call 126; refine (HPX.out _).mono ?_; rintro e w' ⟨rfl, rfl⟩)
          | go_in)
        have hrg2 := HLX.out.2.2.alloc (.cells #[.string ⟨x.toArray⟩, .string u.1, .int .i64 u.2] 86)
        go_roundw
        case rel =>
          refine ⟨T, _, cnt1, hrg2, hrow1.alloc _, HM2.out, by have := HLX.out.2.1; omega, belAlloc HB1.out _, by simp; omega⟩
        case measure => rw [hrg2.left_eq, hrg.left_eq]; exact HLX.out.2.1
end
section
open Go.RowKit Go.Maps Go.Shelf
set_option maxRecDepth 100000 in
set_option maxHeartbeats 4000000 in
theorem under_zero (pv : Value) (s : ByteArray) (w : World) (h : Calls Tryz.prog 125 #[pv] w fun e w' => e = .returned (.map none) ∧ w = w') :
    Calls Tryz.prog 82 #[pv, .string s] w fun e w' => ∃ v, e = .returned v ∧ RowI w' w.heap.size v [] ∧ Below w.heap.size w w' := by
  have HH := Lib.hid h
  have hrg := run_range_nilMap (P := Tryz.prog) w 162 _ _ Tryz.underlying162
  have hnx : ∀ ty, (Instr.next (.pointer (some ⟨w.heap.size, 0, none⟩)) false ty).run Tryz.prog (w.alloc (.mapIter none 0 #[] 0)) = _ := fun ty => run_next_nilMap _ ty 0 0 #[]
  clear h
  go_enter Tryz.func82, Tryz.ntmps82
  go_wp2_with (first
    | (go_at_call 125; refine HH.out.mono ?_; rintro e w' ⟨rfl, rfl⟩)
    | go_in)
  refine wp_loop_rounds 1 ?_
  rw [rounds_succ]
  go_wp2_with (first
    | (go_at_call 127; refine (sort_any _ 0 (.slice none 0 0) [] (World.ownsRow_nil _ _ _ _) List.Pairwise.nil (by simp)).mono ?_; rintro e w2 ⟨rfl, T', hperm, hris, hrow2, ht2⟩)
    | go_in)
  go_ret
  refine ⟨_, rfl, World.ownsRow_nil _ _ _ _, (belNew w _).trans (ht2.below (by simp) (fun i hi => by cases hi))⟩
theorem beginL_nil (s : ByteArray) : beginL [] s = [] := rfl
theorem beginL_emp (L : List KEnt) : beginL L emp = L := by
  unfold beginL begins
  rw [List.filter_eq_self]
  intro p _
  simp [Lib.hasPrefix, kl]
theorem under_any (g : Nat) (P : Nat → Prop) (S : KSt) (s : ByteArray) (w : World) (h : KvAt w g P S) (hr : Rising S.L) (hn : S.L.length ≤ 1000000) :
    Calls Tryz.prog 82 #[ptr g, .string s] w fun e w' => ∃ v, e = .returned v ∧ RowI w' w.heap.size v (beginL S.L s) ∧ Below w.heap.size w w' := by
  obtain ⟨mb, h1, h2, h3, -⟩ := h
  cases mb with
  | none =>
    rw [h3 rfl]
    exact under_zero (ptr g) s w (held_any g S.rev none w h1)
  | some b => exact under_some g b S.rev S.L s w h1 (h2 b rfl).1 hr hn
theorem all_any (g : Nat) (P : Nat → Prop) (S : KSt) (w : World) (h : KvAt w g P S) (hr : Rising S.L) (hn : S.L.length ≤ 1000000) :
    Calls Tryz.prog 49 #[ptr g] w fun e w' => ∃ v, e = .returned v ∧ RowI w' w.heap.size v S.L ∧ Below w.heap.size w w' := by
  have HU := Lib.hid (under_any g P S emp w h hr hn)
  rw [beginL_emp] at HU
  clear h hr hn
  go_enter Tryz.func49, Tryz.ntmps49
  go_wp2_with (first
    | (go_at_call 82; refine HU.out.mono ?_; rintro e w' ⟨v, rfl, hr, hb⟩)
    | go_in)
  go_ret
  exact ⟨_, rfl, hr, hb⟩
theorem all_nil (w : World) : Calls Tryz.prog 49 #[.pointer none] w fun e w' => ∃ v, e = .returned v ∧ RowI w' w.heap.size v [] ∧ Below w.heap.size w w' := by
  have HU := Lib.hid (under_zero (.pointer none) emp w (held_nil w))
  go_enter Tryz.func49, Tryz.ntmps49
  go_wp2_with (first
    | (go_at_call 82; refine HU.out.mono ?_; rintro e w' ⟨v, rfl, hr, hb⟩)
    | go_in)
  go_ret
  exact ⟨_, rfl, hr, hb⟩
end
end Go.Proofs.YtbbefakmpmniiaaGreatDoor.KV
