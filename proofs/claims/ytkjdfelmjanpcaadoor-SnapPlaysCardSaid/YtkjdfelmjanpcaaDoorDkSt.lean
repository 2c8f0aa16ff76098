/- A disk's state: its files by their names, each bytes and how many are sure; lost, armed, and how many writes are left. -/
import Derived.Test.YtkjdfelmjanpcaaDoorDkGrow
namespace Go.Proofs.YtkjdfelmjanpcaaDoor
open Go.RowKit Go.Maps
abbrev FEnt := List UInt8 × (List Int × Nat)
structure DSt where
  fs : List FEnt
  lost : Bool
  armed : Bool
  left : Int
def All2 {α β : Type} (R : α → β → Prop) : List α → List β → Prop
  | [], [] => True
  | a :: l, b :: m => R a b ∧ All2 R l m
  | _, _ => False
theorem All2.imp {α β : Type} {R S : α → β → Prop} : ∀ {l : List α} {m : List β}, (∀ a ∈ l, ∀ b, R a b → S a b) → All2 R l m → All2 S l m
  | [], [], _, _ => trivial
  | a :: _, b :: _, h, ⟨h1, h2⟩ => ⟨h a List.mem_cons_self b h1, All2.imp (fun x hx => h x (List.mem_cons_of_mem _ hx)) h2⟩
theorem All2.len {α β : Type} {R : α → β → Prop} : ∀ {l : List α} {m : List β}, All2 R l m → l.length = m.length
  | [], [], _ => rfl
  | _ :: _, _ :: _, ⟨_, h2⟩ => by rw [List.length_cons, List.length_cons, All2.len h2]
section
variable {β γ : Type} {R : List UInt8 × β → List UInt8 × γ → Prop}
theorem All2.del (hR : ∀ a b, R a b → a.1 = b.1) (k : List UInt8) : ∀ {l : List (List UInt8 × β)} {m : List (List UInt8 × γ)}, All2 R l m → All2 R (delE k l) (delE k m)
  | [], [], _ => trivial
  | a :: l, b :: m, ⟨h1, h2⟩ => by
    have ih := All2.del hR k h2
    have e := hR a b h1
    unfold delE at ih ⊢
    by_cases hk : a.1 = k
    · rw [List.filter_cons_of_neg (by simp [hk]), List.filter_cons_of_neg (by simp [← e, hk])]
      exact ih
    · rw [List.filter_cons_of_pos (by simp [hk]), List.filter_cons_of_pos (by simp [← e, hk])]
      exact ⟨h1, ih⟩
theorem All2.ins (hR : ∀ a b, R a b → a.1 = b.1) {x : List UInt8 × β} {y : List UInt8 × γ} (hxy : R x y) : ∀ {l : List (List UInt8 × β)} {m : List (List UInt8 × γ)}, All2 R l m → All2 R (insE x l) (insE y m)
  | [], [], _ => ⟨hxy, trivial⟩
  | a :: l, b :: m, ⟨h1, h2⟩ => by
    have ih := All2.ins hR hxy h2
    rw [insE, insE, hR a b h1, hR x y hxy]
    split
    · exact ⟨hxy, h1, h2⟩
    · exact ⟨h1, ih⟩
theorem All2.get (hR : ∀ a b, R a b → a.1 = b.1) (k : List UInt8) : ∀ {l : List (List UInt8 × β)} {m : List (List UInt8 × γ)}, All2 R l m →
    (getE l k = none ∧ getE m k = none) ∨ ∃ v u, getE l k = some v ∧ getE m k = some u ∧ R (k, v) (k, u)
  | [], [], _ => Or.inl ⟨rfl, rfl⟩
  | a :: l, b :: m, ⟨h1, h2⟩ => by
    have ih := All2.get hR k h2
    have e := hR a b h1
    unfold getE at ih ⊢
    rw [List.find?_cons, List.find?_cons]
    by_cases hk : a.1 = k
    · have e1 : (a.1 == k) = true := by simp [hk]
      have e2 : (b.1 == k) = true := by simp [← e, hk]
      rw [e1, e2]
      refine Or.inr ⟨a.2, b.2, rfl, rfl, ?_⟩
      have e3 : a = (k, a.2) := by rw [← hk]
      have e4 : b = (k, b.2) := by rw [← hk, e]
      rw [← e3, ← e4]
      exact h1
    · have e1 : (a.1 == k) = false := by simp [hk]
      have e2 : (b.1 == k) = false := by simp [← e, hk]
      rw [e1, e2]
      exact ih
end
/-- The block of a file's bytes. -/
def blkE (e : Ent) : Option Nat := match e.2 with
  | .agg cs => (cs.getD 0 undef).ownBlock
  | _ => none
def FileOk (w : World) (P : Nat → Prop) (e : Ent) (f : FEnt) : Prop :=
  e.1 = f.1 ∧ ∃ sv, e.2 = .agg #[sv, .int .i64 (f.2.2 : Nat)] ∧ Owns w 0 sv f.2.1 ∧ okB f.2.1 ∧ f.2.2 ≤ f.2.1.length ∧ ∀ d, sv.ownBlock = some d → P d
def Apart (p q : Ent) : Prop := ∀ d, blkE p = some d → blkE q ≠ some d
theorem Apart.symm {p q : Ent} (h : Apart p q) : Apart q p := fun d hq hp => h d hp hq
/-- A disk in block g; all that is its own lies in blocks of which P holds. -/
def DiskAt (w : World) (g : Nat) (P : Nat → Prop) (D : DSt) : Prop :=
  ∃ mb es, DiskE w g mb es D.lost D.armed D.left ∧ P g ∧ (∀ b, mb = some b → P b) ∧ All2 (FileOk w P) es D.fs ∧ es.Pairwise Apart ∧ Rising es ∧ (∀ i, P i → i < w.heap.size) ∧ 0 ≤ D.left ∧ D.left ≤ 9223372036854775807
theorem FileOk.keep {w w' : World} {P Q : Nat → Prop} {e : Ent} {f : FEnt} (h : FileOk w P e f) (ht : Touch Q w w') (hq : ∀ d, blkE e = some d → ¬ Q d) {P' : Nat → Prop} (hp : ∀ d, P d → P' d) : FileOk w' P' e f := by
  obtain ⟨h1, sv, h2, h3, h4, h5, h6⟩ := h
  refine ⟨h1, sv, h2, ⟨h3.1, h3.2.imp id fun ⟨g, cap, cur, e1, e2, e3, r⟩ => ⟨g, cap, cur, e1, e2, (ht.2.2.2.2 g (heap_lt e3) (hq g ?_)).trans e3, r⟩⟩, h4, h5, fun d hd => hp d (h6 d hd)⟩
  unfold blkE
  rw [h2, e1]
  rfl
theorem FileOk.blk {w : World} {P : Nat → Prop} {e : Ent} {f : FEnt} (h : FileOk w P e f) {d : Nat} (hd : blkE e = some d) : P d := by
  obtain ⟨h1, sv, h2, h3, h4, h5, h6⟩ := h
  unfold blkE at hd
  rw [h2] at hd
  exact h6 d hd
/-- A call that leaves the disk as it is, or turns what is its own. -/
def Step (P P' : Nat → Prop) (w w' : World) : Prop := Touch P w w' ∧ ∀ i, P' i → P i ∨ w.heap.size ≤ i
theorem DiskAt.keep {w w' : World} {g : Nat} {P Q : Nat → Prop} {D : DSt} (h : DiskAt w g P D) (ht : Touch Q w w') (hq : ∀ d, P d → ¬ Q d) : DiskAt w' g P D := by
  obtain ⟨mb, es, h1, h2, h3, h4, h5, h6, h7, h8⟩ := h
  refine ⟨mb, es, h1.heap (ht.2.2.2.2 g (h7 g h2) (hq g h2)) (fun b e => ht.2.2.2.2 b (h7 b (h3 b e)) (hq b (h3 b e))), h2, h3, ?_, h5, h6, fun i hi => Nat.lt_of_lt_of_le (h7 i hi) ht.2.2.2.1, h8⟩
  exact All2.imp (fun e _ f hf => hf.keep ht (fun d hd => hq d (hf.blk hd)) (fun _ h => h)) h4
theorem DiskAt.below {w w' : World} {g : Nat} {P : Nat → Prop} {D : DSt} (h : DiskAt w g P D) (hb : Below w.heap.size w w') : DiskAt w' g P D := h.keep (Touch.of_below (fun _ => False) hb) (fun _ _ h => h)
theorem fileKey {w : World} {P : Nat → Prop} : ∀ (e : Ent) (f : FEnt), FileOk w P e f → e.1 = f.1 := fun _ _ h => h.1
theorem insE_perm {β : Type} (x : List UInt8 × β) : ∀ l : List (List UInt8 × β), (insE x l).Perm (x :: l)
  | [] => List.Perm.refl _
  | y :: r => by
    rw [insE]
    split
    · exact List.Perm.refl _
    · exact ((insE_perm x r).cons y).trans (List.Perm.swap x y r)
theorem insE_length {β : Type} (x : List UInt8 × β) (l : List (List UInt8 × β)) : (insE x l).length = l.length + 1 := by
  have := (insE_perm x l).length_eq
  simpa using this
theorem putE_length {β : Type} (k : List UInt8) (v : β) (l : List (List UInt8 × β)) : (putE k v l).length ≤ l.length + 1 := by
  unfold putE
  rw [insE_length]
  have := List.length_filter_le (fun p : List UInt8 × β => !(p.1 == k)) l
  unfold delE
  omega
/-- The footprint behind a call. -/
abbrev grow' (P : Nat → Prop) (w w' : World) : Nat → Prop := fun i => P i ∨ w.heap.size ≤ i ∧ i < w'.heap.size
theorem step_grow {P Q : Nat → Prop} {w w' : World} (h : Touch Q w w') (hq : ∀ i, Q i → P i) : Step P (grow' P w w') w w' := ⟨h.mono (fun i _ hi => hq i hi), fun _ hi => hi.imp id (fun h => h.1)⟩
theorem DiskAt.put {w w' : World} {g : Nat} {P Q : Nat → Prop} {mb mb' : Option Nat} {es : List Ent} {fs : List FEnt} {k : List UInt8} {sv : Value} {xs : List Int} {su : Nat} {lost armed : Bool} {left : Int}
    (hPg : P g) (hPb : ∀ b, mb = some b → P b) (hall : All2 (FileOk w P) es fs) (hap : es.Pairwise Apart) (hri : Rising es) (hPs : ∀ i, P i → i < w.heap.size)
    (hD : DiskE w' g mb' (putE k (.agg #[sv, .int .i64 (su : Nat)]) es) lost armed left) (hl0 : 0 ≤ left) (hl1 : left ≤ 9223372036854775807) (hmb : mb' = mb ∨ ∃ b, mb' = some b ∧ w.heap.size ≤ b) (ht : Touch Q w w')
    (hq : ∀ e ∈ es, e.1 ≠ k → ∀ d, blkE e = some d → ¬ Q d) (ho : Owns w' 0 sv xs) (hok : okB xs) (hsu : su ≤ xs.length) (hsv : ∀ d, sv.ownBlock = some d → (∃ v, getE es k = some v ∧ blkE (k, v) = some d) ∨ w.heap.size ≤ d) :
    DiskAt w' g (grow' P w w') { fs := putE k (xs, su) fs, lost := lost, armed := armed, left := left } := by
  have hsz := ht.2.2.2.1
  have hP' : ∀ d, P d → grow' P w w' d := fun d h => Or.inl h
  have hblk : ∀ e ∈ es, ∀ d, blkE e = some d → d < w.heap.size := by
    intro e he d hd
    obtain ⟨f, hf⟩ : ∃ f, FileOk w P e f := by
      clear hap hri hD hq hsv
      induction es generalizing fs with
      | nil => cases he
      | cons a l ih =>
        cases fs with
        | nil => exact hall.elim
        | cons b m =>
          rcases List.mem_cons.1 he with rfl | he
          · exact ⟨b, hall.1⟩
          · exact ih hall.2 he
    exact hPs d (hf.blk hd)
  have hnew : ∀ d, sv.ownBlock = some d → grow' P w w' d := fun d hd => by
    rcases hsv d hd with ⟨v, h1, h2⟩ | h1
    · rcases All2.get fileKey k hall with ⟨h3, _⟩ | ⟨v', u, h3, _, h5⟩
      · rw [h1] at h3; cases h3
      · rw [h1] at h3
        obtain rfl := Option.some.inj h3
        exact Or.inl (h5.blk h2)
    · refine Or.inr ⟨h1, ?_⟩
      exact (World.ownsRow.lt ho d hd).2
  refine ⟨mb', _, hD, Or.inl hPg, fun b hb => ?_, ?_, ?_, hri.put k _, fun i hi => ?_, hl0, hl1⟩
  · rcases hmb with rfl | ⟨b', e, h1⟩
    · exact Or.inl (hPb b hb)
    · rw [hb] at e
      obtain rfl := Option.some.inj e
      exact Or.inr ⟨h1, (hD.2.1 b hb).lt⟩
  · refine All2.ins fileKey ⟨rfl, sv, rfl, ho, hok, hsu, hnew⟩ ?_
    refine All2.imp (fun e he f hf => ?_) (All2.del fileKey k hall)
    have h1 := List.mem_filter.1 he
    exact hf.keep ht (hq e h1.1 (by simpa using h1.2)) hP'
  · refine (List.Perm.pairwise_iff (fun {a b} h => Apart.symm h) (insE_perm _ _)).2 (List.pairwise_cons.2 ⟨fun q hqm d hd => ?_, hap.filter _⟩)
    have h1 := List.mem_filter.1 hqm
    have hne : q.1 ≠ k := by simpa using h1.2
    intro hqd
    rcases hsv d hd with ⟨v, h2, h3⟩ | h2
    · have hm := getE_mem h2
      have hap2 : ∀ a ∈ es, ∀ b ∈ es, a ≠ b → Apart a b := fun a ha b hb hab => by
        rcases List.pairwise_iff_getElem.1 hap with hp
        obtain ⟨i, hi, rfl⟩ := List.mem_iff_getElem.1 ha
        obtain ⟨j, hj, rfl⟩ := List.mem_iff_getElem.1 hb
        rcases Nat.lt_trichotomy i j with h | h | h
        · exact hp i j hi hj h
        · subst h; exact absurd rfl hab
        · exact (hp j i hj hi h).symm
      exact hap2 _ hm _ h1.1 (fun e => hne (by rw [← e])) d h3 hqd
    · have := hblk q h1.1 d hqd
      omega
  · rcases hi with hi | hi
    · have := hPs i hi; omega
    · exact hi.2
end Go.Proofs.YtkjdfelmjanpcaaDoor
