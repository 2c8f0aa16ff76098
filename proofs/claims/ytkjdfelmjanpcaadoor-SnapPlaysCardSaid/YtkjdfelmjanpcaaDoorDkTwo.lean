/- Two disks in one world, the program's and the document's, over one state; how big a state is behind so many calls. -/
import Derived.Test.YtkjdfelmjanpcaaDoorDkRefs
import Derived.Test.YtkjdfelmjanpcaaDoorDkLaw
import Derived.Lib.ConvBytes
namespace Go.Proofs.YtkjdfelmjanpcaaDoor
open Go.RowKit Go.Maps
/-- At most n files, each with a name that may be, at most 50 n bytes, of which so many as are there are sure. -/
def SmallF (n : Nat) (fs : List FEnt) : Prop := fs.length ≤ n ∧ ∀ f ∈ fs, f.1.length ≤ maxLen ∧ f.2.1.length ≤ 50 * n ∧ f.2.2 ≤ f.2.1.length
theorem SmallF.nil : SmallF 0 [] := ⟨Nat.le_refl _, fun f h => by cases h⟩
theorem SmallF.mono {n m : Nat} {fs : List FEnt} (h : SmallF n fs) (hm : n ≤ m) : SmallF m fs := ⟨by have := h.1; omega, fun f hf => ⟨(h.2 f hf).1, by have := (h.2 f hf).2.1; omega, (h.2 f hf).2.2⟩⟩
theorem mem_putE {β : Type} {k : List UInt8} {v : β} {l : List (List UInt8 × β)} {p : List UInt8 × β} (h : p ∈ putE k v l) : p = (k, v) ∨ p ∈ l := by
  unfold putE at h
  rcases List.mem_cons.1 ((insE_perm _ _).mem_iff.1 h) with h | h
  · exact Or.inl h
  · exact Or.inr (List.mem_filter.1 h).1
theorem SmallF.del {n : Nat} {fs : List FEnt} (h : SmallF n fs) (k : List UInt8) : SmallF n (delE k fs) :=
  ⟨Nat.le_trans (List.length_filter_le _ _) h.1, fun f hf => h.2 f (List.mem_filter.1 hf).1⟩
theorem SmallF.put {n : Nat} {fs : List FEnt} (h : SmallF n fs) {k : List UInt8} {u : List Int × Nat} (hk : k.length ≤ maxLen) (h1 : u.1.length ≤ 50 * (n + 1)) (h2 : u.2 ≤ u.1.length) : SmallF (n + 1) (putE k u fs) := by
  refine ⟨Nat.le_trans (putE_length _ _ _) (by have := h.1; omega), fun f hf => ?_⟩
  rcases mem_putE hf with rfl | hf
  · exact ⟨hk, h1, h2⟩
  · exact (h.mono (Nat.le_succ n)).2 f hf
theorem SmallF.get {n : Nat} {fs : List FEnt} (h : SmallF n fs) {k : List UInt8} {u : List Int × Nat} (hg : getE fs k = some u) : k.length ≤ maxLen ∧ u.1.length ≤ 50 * n ∧ u.2 ≤ u.1.length := h.2 _ (getE_mem hg)
theorem SmallF.getD {n : Nat} {fs : List FEnt} (h : SmallF n fs) (k : List UInt8) : ((getE fs k).getD ([], 0)).1.length ≤ 50 * n ∧ ((getE fs k).getD ([], 0)).2 ≤ ((getE fs k).getD ([], 0)).1.length := by
  cases hg : getE fs k with
  | none => exact ⟨Nat.zero_le _, Nat.le_refl _⟩
  | some u => exact (h.get hg).2
theorem SmallF.app {n : Nat} {D : DSt} (h : SmallF n D.fs) {k : List UInt8} (hk : k.length ≤ maxLen) {t : List Int} (ht : t.length ≤ 50) : SmallF (n + 1) (appD D k t).2.fs := by
  unfold appD
  split
  · exact h.mono (Nat.le_succ n)
  · have h1 := h.getD k
    exact h.put hk (by simp only [List.length_append]; omega) (by simp only [List.length_append]; omega)
theorem SmallF.sync {n : Nat} {D : DSt} (h : SmallF n D.fs) (k : List UInt8) : SmallF (n + 1) (syncD D k).2.fs := by
  unfold syncD
  split
  · exact h.mono (Nat.le_succ n)
  · rename_i u hg
    have h1 := h.get hg
    split
    · exact h.mono (Nat.le_succ n)
    · exact h.put h1.1 (by simp only []; omega) (Nat.le_refl _)
theorem SmallF.remove {n : Nat} {D : DSt} (h : SmallF n D.fs) (k : List UInt8) : SmallF (n + 1) (removeD D k).2.fs := by
  unfold removeD
  split
  · exact h.mono (Nat.le_succ n)
  · split
    · exact h.mono (Nat.le_succ n)
    · exact (h.del k).mono (Nat.le_succ n)
theorem SmallF.rename {n : Nat} {D : DSt} (h : SmallF n D.fs) (k : List UInt8) {t : List UInt8} (ht : t.length ≤ maxLen) : SmallF (n + 1) (renameD D k t).2.fs := by
  unfold renameD
  split
  · exact h.mono (Nat.le_succ n)
  · rename_i u hg
    have h1 := h.get hg
    split
    · exact h.mono (Nat.le_succ n)
    · split
      · exact h.mono (Nat.le_succ n)
      · exact (h.del k).put ht (by omega) h1.2.2
theorem SmallF.cut {n : Nat} {D : DSt} (h : SmallF n D.fs) (k : List UInt8) (m : Int) : SmallF (n + 1) (cutD D k m).2.fs := by
  unfold cutD
  split
  · exact h.mono (Nat.le_succ n)
  · rename_i u hg
    have h1 := h.get hg
    split
    · exact h.mono (Nat.le_succ n)
    · rename_i hm
      split
      · exact h.mono (Nat.le_succ n)
      · exact h.put h1.1 (by simp only [List.length_take]; omega) (by simp only [List.length_take]; omega)
theorem SmallF.crashF {n : Nat} (ks : List Int) : ∀ (fs : List FEnt) (i : Nat), (∀ f ∈ fs, f.1.length ≤ maxLen ∧ f.2.1.length ≤ 50 * n ∧ f.2.2 ≤ f.2.1.length) → ∀ f ∈ crashF ks i fs, f.1.length ≤ maxLen ∧ f.2.1.length ≤ 50 * n ∧ f.2.2 ≤ f.2.1.length
  | [], _, _, f, hf => by cases hf
  | a :: fs, i, h, f, hf => by
    have h1 := h a List.mem_cons_self
    have h2 := crashN_le ks i (u := a.2) h1.2.2
    rcases List.mem_cons.1 hf with rfl | hf
    · exact ⟨h1.1, by simp only [crashU, List.length_take]; omega, by simp only [crashU, List.length_take]; omega⟩
    · exact SmallF.crashF ks fs (i + 1) (fun f hf => h f (List.mem_cons_of_mem _ hf)) f hf
theorem SmallF.crash {n : Nat} {D : DSt} (h : SmallF n D.fs) (ks : List Int) : SmallF n (crashD D ks).fs :=
  ⟨by show (Go.Proofs.YtkjdfelmjanpcaaDoor.crashF ks 0 D.fs).length ≤ n; rw [crashF_len]; exact h.1, SmallF.crashF ks D.fs 0 h.2⟩
/-- Both disks, the program's over D, the document's over E; all of both lies behind B, apart. -/
def Pair (B : Nat) (w : World) (g : Nat) (P : Nat → Prop) (D : DSt) (r : Nat) (Q : Nat → Prop) (E : DSt) : Prop :=
  DiskAt w g P D ∧ RefAt w r Q E ∧ (∀ i, P i → ¬ Q i) ∧ (∀ i, P i → B ≤ i) ∧ ∀ i, Q i → B ≤ i
theorem RefAt.lt {w : World} {r : Nat} {Q : Nat → Prop} {D : DSt} (h : RefAt w r Q D) {i : Nat} (hi : Q i) : i < w.heap.size := by
  obtain ⟨_, _, _, _, _, h5, _⟩ := h
  exact h5 i hi
theorem RefAt.self {w : World} {r : Nat} {Q : Nat → Prop} {D : DSt} (h : RefAt w r Q D) : Q r := by
  obtain ⟨_, _, _, h3, _⟩ := h
  exact h3
theorem Pair.size {B : Nat} {w : World} {g : Nat} {P : Nat → Prop} {D : DSt} {r : Nat} {Q : Nat → Prop} {E : DSt} (h : Pair B w g P D r Q E) : B ≤ w.heap.size := by
  have := h.1.lt h.1.self
  have := h.2.2.2.1 g h.1.self
  omega
theorem Pair.callD {B : Nat} {w w' : World} {g : Nat} {P P' : Nat → Prop} {D D' : DSt} {r : Nat} {Q : Nat → Prop} {E : DSt} (h : Pair B w g P D r Q E) (hd : DiskAt w' g P' D') (hs : Step P P' w w') : Pair B w' g P' D' r Q E ∧ Below B w w' := by
  have hz := h.size
  obtain ⟨h1, h2, h3, h4, h5⟩ := h
  obtain ⟨q1, q2⟩ := hs.ge h4 hz
  exact ⟨⟨hd, h2.keep hs.1 (fun i hq hp => h3 i hp hq), fun i hi hq => (hs.2 i hi).elim (fun hp => h3 i hp hq) (fun hge => by have := h2.lt hq; omega), q1, h5⟩, q2⟩
theorem Pair.callR {B : Nat} {w w' : World} {g : Nat} {P : Nat → Prop} {D : DSt} {r : Nat} {Q Q' : Nat → Prop} {E E' : DSt} (h : Pair B w g P D r Q E) (hd : RefAt w' r Q' E') (hs : Step Q Q' w w') : Pair B w' g P D r Q' E' ∧ Below B w w' := by
  have hz := h.size
  obtain ⟨h1, h2, h3, h4, h5⟩ := h
  obtain ⟨q1, q2⟩ := hs.ge h5 hz
  exact ⟨⟨h1.keep hs.1 (fun i hp hq => h3 i hp hq), hd, fun i hp hi => (hs.2 i hi).elim (fun hq => h3 i hp hq) (fun hge => by have := h1.lt hp; omega), h4, q1⟩, q2⟩
theorem Pair.below {B : Nat} {w w' : World} {g : Nat} {P : Nat → Prop} {D : DSt} {r : Nat} {Q : Nat → Prop} {E : DSt} (h : Pair B w g P D r Q E) (hb : Below w.heap.size w w') : Pair B w' g P D r Q E :=
  ⟨h.1.below hb, h.2.1.below hb, h.2.2⟩
theorem bytes_below (w : World) (e : TypeId) (s : ByteArray) : Below w.heap.size w (Lib.bytesWorld w e s) :=
  ⟨rfl, rfl, rfl, by rw [Lib.bytesWorld_size]; omega, fun k hk => Lib.bytesWorld_at_old w e s k hk⟩
theorem bytes_sees (w : World) (s : ByteArray) : Sees (Lib.bytesWorld w 5 s) (.slice (some ⟨w.heap.size, 0, none⟩) s.size (grownCap w s.size 0 5)) (strI s) := by
  refine ⟨some ⟨w.heap.size, 0, none⟩, grownCap w s.size 0 5, by rw [strI_length], by rw [strI_length]; exact grownCap_ge w s.size 0 5, (fun h => by cases h), fun a ha i hi => ?_⟩
  cases ha
  rw [strI_length] at hi
  rw [add0, Lib.bytesWorld_cell w _ s i hi]
  have hl : i < s.data.toList.length := by rw [Array.length_toList]; exact hi
  unfold strI
  simp [List.getD, List.getElem?_eq_getElem hl]
theorem strI_of {t : List Int} (h : okB t) : strI (strOfNums t) = t := by
  unfold strI strOfNums
  simp only [List.map_map]
  refine (List.map_congr_left fun x hx => ?_).trans (List.map_id t)
  have := h x hx
  simp only [Function.comp, id]
  rw [UInt8.toNat_ofNat']
  omega
/-- A call's record of the law: what it is, the name, the other one, the bytes, the number, what is kept. -/
structure Op6 where
  k : Int
  nm : ByteArray
  to : ByteArray
  b : ByteArray
  n : Int
  kv : Value
  ks : List Int
def Op6.Ok (o : Op6) : Prop := (-9223372036854775808 ≤ o.k ∧ o.k ≤ 9223372036854775807) ∧ o.nm.size ≤ maxLen ∧ o.to.size ≤ maxLen ∧ o.b.size ≤ maxLen ∧ (-9223372036854775808 ≤ o.n ∧ o.n ≤ 9223372036854775807) ∧ (∀ x ∈ o.ks, 0 ≤ x ∧ x < 65536) ∧ o.ks.length ≤ maxLen
def Op6.val (o : Op6) : Value := .agg #[.int .i64 o.k, .string o.nm, .string o.to, .string o.b, .int .i64 o.n, o.kv]
end Go.Proofs.YtkjdfelmjanpcaaDoor
