/- Package kv: a state as it lies in memory; New, Rev, held, Len, what a key and a value may be, get, has, mayWrite, refusal, effectOf. -/
import Derived.Test.YtholgmcfgnifdaaKvMap
import Derived.StillTailTactics
import Derived.WalkSmall
import Derived.Deep.RegionHeld3
namespace Go.Proofs.Ytholgmcfgnifdaa
open Go.RowKit Go.Maps
abbrev ptr (g : Nat) : Value := .pointer (some ⟨g, 0, none⟩)
abbrev KEnt := List UInt8 × (ByteArray × Int)
structure KSt where
  rev : Int
  L : List KEnt
structure KOp where
  kind : Int
  key : ByteArray
  val : ByteArray
  rev : Int
  iff : ByteArray
  ifRev : Int
structure KEff where
  key : ByteArray
  val : ByteArray
  rev : Int
  gone : Bool
abbrev kl (s : ByteArray) : List UInt8 := s.data.toList
abbrev emp : ByteArray := ⟨#[]⟩
theorem kl_str (s : ByteArray) : (⟨(kl s).toArray⟩ : ByteArray) = s := by cases s; simp [kl]
theorem kl_inj {a b : ByteArray} (h : kl a = kl b) : a = b := by rw [← kl_str a, ← kl_str b, h]
theorem kl_len (s : ByteArray) : (kl s).length = s.size := by cases s; simp [kl, ByteArray.size]
def itV (k : List UInt8) (u : ByteArray × Int) : Value := .agg #[.string ⟨k.toArray⟩, .string u.1, .int .i64 u.2]
def entsV (L : List KEnt) : List Ent := L.map fun p => (p.1, itV p.1 p.2)
abbrev opV (o : KOp) : Value := .agg #[.int .i64 o.kind, .string o.key, .string o.val, .int .i64 o.rev, .string o.iff, .int .i64 o.ifRev]
abbrev effV (e : KEff) : Value := .agg #[.string e.key, .string e.val, .int .i64 e.rev, .bool e.gone]
abbrev eff0 : KEff := ⟨emp, emp, 0, false⟩
/-- The item that a look-up tells. -/
def gotU (L : List KEnt) (s : ByteArray) : ByteArray × ByteArray × Int := match getE L (kl s) with
  | some u => (s, u.1, u.2)
  | none => (emp, emp, 0)
def there (L : List KEnt) (s : ByteArray) : Bool := (getE L (kl s)).isSome
def revOf (L : List KEnt) (s : ByteArray) : Int := (gotU L s).2.2
def valOf (L : List KEnt) (s : ByteArray) : ByteArray := (gotU L s).2.1
theorem getE_ents (L : List KEnt) (k : List UInt8) : getE (entsV L) k = (getE L k).map (itV k) := by
  induction L with
  | nil => rfl
  | cons a L ih =>
    unfold getE entsV at ih ⊢
    rw [List.map_cons, List.find?_cons, List.find?_cons]
    by_cases h : a.1 = k
    · rw [show (a.1 == k) = true from by simp [h]]
      simp [h]
    · rw [show (a.1 == k) = false from by simp [h]]
      exact ih
/-- A state in block g; all that is its own lies in blocks of which P holds. -/
def KvAt (w : World) (g : Nat) (P : Nat → Prop) (S : KSt) : Prop :=
  ∃ mb, w.heap[g]? = some (.cells #[.int .i64 S.rev, .map mb] 79 (0, 0)) ∧ (∀ b, mb = some b → MapIs w b S.L.length (entsV S.L) ∧ P b) ∧ (mb = none → S.L = []) ∧ P g ∧ ∀ i, P i → i < w.heap.size
theorem MapIs.tight {w : World} {b n : Nat} {fs : List Ent} (h : MapIs w b n fs) : MapIs w b fs.length fs := by
  obtain ⟨es, clock, hb, F, hs, hD⟩ := h
  refine ⟨es, clock, hb, F, ?_, hD⟩
  unfold datum at hD
  injection hD with hD
  have h2 := congrArg List.length hD
  rw [List.length_map, length_sorted, List.length_map] at h2
  have h3 : es.toList.length = es.size := Array.length_toList
  omega
theorem look_nil {s : ByteArray} (hs : s.size ≤ maxLen) (c : Bool) (w : World) :
    (Instr.lookup 77 (.map none) (.string s) c).run Try.prog w = .ok (if c then .tuple #[zeroF, .bool false] else zeroF) w := by
  have hc := fun em => keyedS.check w em (keyS hs)
  rcases keyedS.find w (keyS hs) [] (by simp) with ⟨h1, _⟩ | ⟨j, e0, _, h2, _⟩
  · cases c <;> simp [Instr.lookup, run_underlying Try.underlying77, hc, h1, zeroFile w, Result.andThen]
  · simp at h2
/-- What may turn. -/
def Touch (P : Nat → Prop) (w w' : World) : Prop := w'.os = w.os ∧ w'.tape = w.tape ∧ w'.output = w.output ∧ w.heap.size ≤ w'.heap.size ∧ ∀ k, k < w.heap.size → ¬ P k → w'.heap[k]? = w.heap[k]?
theorem Touch.refl (P : Nat → Prop) (w : World) : Touch P w w := ⟨rfl, rfl, rfl, Nat.le_refl _, fun _ _ _ => rfl⟩
theorem Touch.of_below {w w' : World} (P : Nat → Prop) (h : Below w.heap.size w w') : Touch P w w' := ⟨h.os, h.tape, h.output, h.size, fun k hk _ => h.block k hk⟩
theorem Touch.of_grown {w w' : World} {r : Option Nat} {P : Nat → Prop} (h : w.grownBy w' r) (hr : ∀ k, r = some k → P k) : Touch P w w' := ⟨h.os, h.tape, h.output, h.size, fun k hk hn => h.block k hk (fun e => hn (hr k e.symm))⟩
theorem Touch.trans {P Q : Nat → Prop} {a b c : World} (h : Touch P a b) (k : Touch Q b c) (hq : ∀ i, i < a.heap.size → Q i → P i) : Touch P a c :=
  ⟨k.1.trans h.1, k.2.1.trans h.2.1, k.2.2.1.trans h.2.2.1, Nat.le_trans h.2.2.2.1 k.2.2.2.1, fun i hi hn => (k.2.2.2.2 i (Nat.lt_of_lt_of_le hi h.2.2.2.1) (fun hqi => hn (hq i hi hqi))).trans (h.2.2.2.2 i hi hn)⟩
theorem Touch.mono {P Q : Nat → Prop} {a b : World} (h : Touch P a b) (hq : ∀ i, i < a.heap.size → P i → Q i) : Touch Q a b := (Touch.refl Q a).trans h hq
theorem Touch.below {P : Nat → Prop} {a b : World} {n : Nat} (h : Touch P a b) (hn : n ≤ a.heap.size) (hp : ∀ i, P i → n ≤ i) : Below n a b :=
  ⟨h.1, h.2.1, h.2.2.1, h.2.2.2.1, fun k hk => h.2.2.2.2 k (Nat.lt_of_lt_of_le hk hn) (fun hP => Nat.not_lt.2 (hp k hP) hk)⟩
theorem dset {w : World} {g : Nat} {cs : Array Value} {t : TypeId} (h : w.heap[g]? = some (.cells cs t (0, 0))) (i : Nat) (x : Value) : (w.setCell ⟨g, i, none⟩ x).heap[g]? = some (.cells (cs.setIfInBounds i x) t (0, 0)) := by
  simp [World.setCell, Array.getElem?_modify, h]
theorem MapIs.ne {w : World} {b n g : Nat} {fs : List Ent} {cs : Array Value} {t : TypeId} {r : Nat × Nat} (h : MapIs w b n fs) (hg : w.heap[g]? = some (.cells cs t r)) : b ≠ g := by
  rintro rfl
  obtain ⟨es, clock, h1, _⟩ := h
  rw [hg] at h1
  cases h1
theorem touch_set (w : World) (g i : Nat) (x : Value) : Touch (· = g) w (w.setCell ⟨g, i, none⟩ x) := Touch.of_grown (grown_set w g i x) (fun _ hk => (Option.some.inj hk).symm)
theorem rcells {w : World} {g : Nat} {a b c : Value} {t : TypeId} (h : w.heap[g]? = some (.cells #[a, b, c] t (0, 0))) : w.cell? ⟨g, 0, none⟩ = some a ∧ w.cell? ⟨g, 1, none⟩ = some b ∧ w.cell? ⟨g, 2, none⟩ = some c := by simp [World.cell?, h]
theorem rfroz {w : World} {g : Nat} {a b c : Value} {t : TypeId} (h : w.heap[g]? = some (.cells #[a, b, c] t (0, 0))) (i : Nat) : w.frozen? ⟨g, i, none⟩ = false := by simp [World.frozen?, h]
theorem KvAt.keep {w w' : World} {g : Nat} {P Q : Nat → Prop} {S : KSt} (h : KvAt w g P S) (ht : Touch Q w w') (hq : ∀ i, P i → ¬ Q i) : KvAt w' g P S := by
  obtain ⟨mb, h1, h2, h3, h4, h5⟩ := h
  exact ⟨mb, (ht.2.2.2.2 g (heap_lt h1) (hq g h4)).trans h1, fun b e => ⟨(h2 b e).1.heap (ht.2.2.2.2 b (h5 b (h2 b e).2) (hq b (h2 b e).2)), (h2 b e).2⟩, h3, h4, fun i hi => Nat.lt_of_lt_of_le (h5 i hi) ht.2.2.2.1⟩
theorem KvAt.below {w w' : World} {g : Nat} {P : Nat → Prop} {S : KSt} (h : KvAt w g P S) (hb : Below w.heap.size w w') : KvAt w' g P S :=
  h.keep (Touch.of_below (fun _ => False) hb) (fun _ _ h => h)
theorem KvAt.lt {w : World} {g : Nat} {P : Nat → Prop} {S : KSt} (h : KvAt w g P S) : g < w.heap.size := by
  obtain ⟨mb, h1, _⟩ := h
  exact heap_lt h1
/-- What a look-up in the map of a state comes to. -/
def LookL (w : World) (mb : Option Nat) (L : List KEnt) : Prop := ∀ (s : ByteArray), s.size ≤ maxLen → (Instr.lookup 77 (.map mb) (.string s) true).run Try.prog w = .ok (.tuple #[.agg #[.string (gotU L s).1, .string (gotU L s).2.1, .int .i64 (gotU L s).2.2], .bool (there L s)]) w
theorem look_of {w : World} {mb : Option Nat} {L : List KEnt} (h1 : ∀ b, mb = some b → MapIs w b L.length (entsV L)) (h2 : mb = none → L = []) : LookL w mb L := by
  intro s hs
  cases mb with
  | none =>
    rw [h2 rfl, look_nil hs true]
    rfl
  | some b =>
    rw [(h1 b rfl).look hs true, if_pos rfl, getE_ents]
    unfold gotU there
    cases hg : getE L (kl s) with
    | none => rfl
    | some u => simp [itV]
theorem KvAt.cells {w : World} {g : Nat} {P : Nat → Prop} {S : KSt} (h : KvAt w g P S) : ∃ mb, w.cell? ⟨g, 0, none⟩ = some (.int .i64 S.rev) ∧ w.cell? ⟨g, 1, none⟩ = some (.map mb) ∧ ∀ w', Below w.heap.size w w' → LookL w' mb S.L := by
  obtain ⟨mb, h1, h2, h3, h4, h5⟩ := h
  refine ⟨mb, by simp [World.cell?, h1], by simp [World.cell?, h1], fun w' hb => look_of (fun b e => (h2 b e).1.heap (hb.block b (h5 b (h2 b e).2))) h3⟩
theorem eqNilK (w : World) (a : Option Addr) : (binOp .eql 53 (.pointer a) (.pointer none)).run Try.prog w = .ok (.bool a.isNone) w := by cases a <;> kernel_rfl
/-! What may be. -/
def mayK (s : ByteArray) : Bool := decide (1 ≤ s.size ∧ s.size ≤ 128)
def mayV (s : ByteArray) : Bool := decide (s.size ≤ 65536)
theorem ne_empty (s : ByteArray) : (s.toList != (emp).toList) = decide (1 ≤ s.size) := by
  rw [ByteArray.toList_eq, ByteArray.toList_eq]
  have h := kl_len s
  unfold kl at h
  cases hl : s.data.toList with
  | nil => rw [hl] at h; simp at h; simp [← h]
  | cons a l => rw [hl] at h; simp at h; simp [← h]
end Go.Proofs.Ytholgmcfgnifdaa
