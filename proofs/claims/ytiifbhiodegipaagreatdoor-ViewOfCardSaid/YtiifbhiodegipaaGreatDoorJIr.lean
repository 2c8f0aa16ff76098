/- Joined: ImBy ImRdA ImRd. -/
import Derived.Test.YtiifbhiodegipaaGreatDoorJQ
import Derived.Lib.ConvBytes
import Derived.Test.YtiifbhiodegipaaGreatDoorJPk
import Derived.Test.YtiifbhiodegipaaGreatDoorBrD
namespace Go.Proofs.YtiifbhiodegipaaGreatDoor
section
open Go.RowKit
abbrev rest (s p : ByteArray) : ByteArray := ⟨(Lib.trimPrefix s.data.toList p.data.toList).toArray⟩
abbrev starts (s p : ByteArray) : Bool := Lib.hasPrefix s.data.toList p.data.toList
theorem rest_size (s p : ByteArray) : (rest s p).size ≤ s.size := by
  have h : (Lib.trimPrefix s.data.toList p.data.toList).length ≤ s.data.toList.length := by
    unfold Lib.trimPrefix
    split
    · rw [List.length_drop]; omega
    · exact Nat.le_refl _
  have e1 : (rest s p).size = (Lib.trimPrefix s.data.toList p.data.toList).length := List.size_toArray
  have e2 : s.data.toList.length = s.size := Array.length_toList
  rw [e1]; omega
theorem bytes_below (w : World) (e : TypeId) (s : ByteArray) : Below w.heap.size w (Lib.bytesWorld w e s) :=
  ⟨rfl, rfl, rfl, by rw [Lib.bytesWorld_size]; omega, fun k hk => Lib.bytesWorld_at_old w e s k hk⟩
theorem bytes_sees (w : World) (s : ByteArray) : Sees (Lib.bytesWorld w 5 s) (.slice (some ⟨w.heap.size, 0, none⟩) s.size (grownCap w s.size 0 5)) (strI s) := by
  refine ⟨some ⟨w.heap.size, 0, none⟩, grownCap w s.size 0 5, by rw [strI_length], by rw [strI_length]; exact grownCap_ge w s.size 0 5, (fun h => by cases h), fun a ha i hi => ?_⟩
  cases ha
  rw [strI_length] at hi
  rw [add0, Lib.bytesWorld_cell w _ s i hi]
  have hl : i < s.data.toList.length := by rw [Array.length_toList]; exact hi
  unfold strI
  simp [List.getD, List.getElem?_eq_getElem hl]
theorem okB_strI (s : ByteArray) : okB (strI s) := fun x hx => by
  unfold strI at hx
  obtain ⟨b, _, rfl⟩ := List.mem_map.1 hx
  have := b.toNat_lt
  omega
theorem numBytes_add (m c : Int) (n : Nat) : ∀ k, k ≤ n → numBytes (m + c * 256 ^ n) k = numBytes m k
  | 0, _ => rfl
  | k + 1, h => by
    have ih := numBytes_add m c n k (by omega)
    have e : (256 : Int) ^ n = 256 ^ (n - k - 1) * 256 * 256 ^ k := by
      rw [← Int.pow_succ, ← Int.pow_add]; congr 1; omega
    have h2 : (m + c * 256 ^ n) / 256 ^ k % 256 = m / 256 ^ k % 256 := by
      rw [e, ← Int.mul_assoc, Int.add_mul_ediv_right _ _ (Int.ne_of_gt (Int.pow_pos (by omega))), ← Int.mul_assoc, Int.add_mul_emod_self_right]
    show _ :: _ = _ :: _
    rw [h2, ih]
theorem numBE_fold : ∀ (l : List Int) (a : Int), l.foldl (fun n c => n * 256 + c) a = a * 256 ^ l.length + numBE l
  | [], a => by simp [numBE]
  | c :: l, a => by
    have h1 := numBE_fold l (a * 256 + c)
    have h2 := numBE_fold l (0 * 256 + c)
    have h3 : numBE (c :: l) = l.foldl (fun n c => n * 256 + c) (0 * 256 + c) := rfl
    rw [List.foldl_cons, h1, h3, h2, List.length_cons, Int.pow_succ]
    grind
theorem numBytes_back : ∀ l : List Int, okB l → numBytes (numBE l) l.length = l
  | [], _ => rfl
  | c :: l, h => by
    have hc := h c (by simp)
    have hl : okB l := fun x hx => h x (by simp [hx])
    have ih := numBytes_back l hl
    have e : numBE (c :: l) = numBE l + c * 256 ^ l.length := by
      have := numBE_fold l (0 * 256 + c)
      show l.foldl (fun n c => n * 256 + c) (0 * 256 + c) = _
      rw [this]; grind
    obtain ⟨b0, b1⟩ := numBE_bd l hl
    rw [e, List.length_cons]
    show (numBE l + c * 256 ^ l.length) / 256 ^ l.length % 256 :: numBytes (numBE l + c * 256 ^ l.length) l.length = c :: l
    rw [numBytes_add _ _ _ _ (Nat.le_refl _), ih, Int.add_mul_ediv_right _ _ (Int.ne_of_gt (Int.pow_pos (by omega))), Int.ediv_eq_zero_of_lt b0 b1]
    congr 1
    omega
theorem rdB_back {st : Option (List Int)} {n : Int} {l' : List Int} (h : (rdB st n).2 = some l') : ∃ l, st = some l ∧ l = (rdB st n).1 ++ l' ∧ ((rdB st n).1.length : Int) = n := by
  cases st with
  | none => cases h
  | some l =>
    refine ⟨l, rfl, ?_⟩
    by_cases hc : 0 ≤ n ∧ n ≤ l.length
    · have e : rdB (some l) n = (l.take n.toNat, some (l.drop n.toNat)) := by unfold rdB; exact if_pos hc
      rw [e] at h ⊢
      obtain rfl := Option.some.inj h
      refine ⟨(List.take_append_drop _ _).symm, ?_⟩
      rw [List.length_take]
      omega
    · have e : rdB (some l) n = ([], none) := by unfold rdB; exact if_neg hc
      rw [e] at h
      cases h
theorem rdU_back {st : Option (List Int)} {k : Int} {l' : List Int} (hok : okB (st.getD [])) (h : (rdU st k).2 = some l') (hk : wOk k = true) : ∃ l, st = some l ∧ l = putL (rdU st k).1 k ++ l' ∧ okB l' ∧ 0 ≤ (rdU st k).1 ∧ (rdU st k).1 < 256 ^ k.toNat := by
  unfold rdU at h ⊢
  rw [if_pos hk] at h ⊢
  obtain ⟨l, rfl, e, hn⟩ := rdB_back h
  have ho := rdB_ok hok k
  have ho' : okB l' := fun x hx => hok x (by show x ∈ l; rw [e]; exact List.mem_append_right _ hx)
  have hb := numBE_bd _ ho
  have hlen : (rdB (some l) k).1.length = k.toNat := by omega
  refine ⟨l, rfl, ?_, ho', hb.1, by rw [← hlen]; exact hb.2⟩
  unfold putL
  rw [if_pos hk, ← hlen, numBytes_back _ ho]
  exact e
theorem strNums_size (l : List Int) : (strOfNums l).size = l.length := by
  unfold strOfNums ByteArray.size
  simp

theorem numBE_put4' {n : Int} (h : 0 ≤ n ∧ n < 4294967296) : numBE (putL n 4) = n := by
  show numBE (numBytes n 4) = n
  simp only [numBytes, numBE, List.foldl_cons, List.foldl_nil]
  simp
  omega
theorem doneB_some {st : Option (List Int)} (h : doneB st = true) : st = some [] := by
  unfold doneB at h
  cases st with
  | none => cases h
  | some l =>
    cases l with
    | nil => rfl
    | cons a t =>
      simp at h
      omega
theorem strI_cons {s : ByteArray} {c : UInt8} (h : starts s ⟨#[c]⟩ = true) : strI s = (c.toNat : Int) :: strI (rest s ⟨#[c]⟩) := by
  have h1 : Lib.hasPrefix s.data.toList [c] = true := h
  obtain ⟨t, ht⟩ := List.isPrefixOf_iff_prefix.1 (show [c].isPrefixOf s.data.toList = true from h1)
  have h2 : (rest s ⟨#[c]⟩).data.toList = t := by
    show Lib.trimPrefix s.data.toList [c] = t
    unfold Lib.trimPrefix
    rw [if_pos h1, ← ht]
    rfl
  unfold strI
  rw [h2, ← ht]
  rfl
theorem str_eq {s : ByteArray} {l : List Int} (h : strI s = l) : strOfNums l = s := by rw [← h, strOf_strI]
theorem wOk1 : wOk 1 = true := rfl
theorem wOk4 : wOk 4 = true := rfl
theorem starts_cons (c : Int) (_ : 0 ≤ c ∧ c ≤ 255) (l : List Int) (hl : okB l) : starts (strOfNums (c :: l)) ⟨#[UInt8.ofNat c.toNat]⟩ = true ∧ strI (rest (strOfNums (c :: l)) ⟨#[UInt8.ofNat c.toNat]⟩) = l := by
  have hd : (strOfNums (c :: l)).data.toList = UInt8.ofNat c.toNat :: l.map (fun n => UInt8.ofNat n.toNat) := rfl
  have h1 : Lib.hasPrefix (strOfNums (c :: l)).data.toList [UInt8.ofNat c.toNat] = true := by
    unfold Lib.hasPrefix
    rw [hd]
    simp
  refine ⟨h1, ?_⟩
  have h2 : (rest (strOfNums (c :: l)) ⟨#[UInt8.ofNat c.toNat]⟩).data.toList = l.map (fun n => UInt8.ofNat n.toNat) := by
    show Lib.trimPrefix (strOfNums (c :: l)).data.toList [UInt8.ofNat c.toNat] = _
    unfold Lib.trimPrefix
    rw [if_pos h1, hd]
    rfl
  unfold strI
  rw [h2, List.map_map]
  have h3 : ∀ x ∈ l, ((fun b : UInt8 => (b.toNat : Int)) ∘ fun n : Int => UInt8.ofNat n.toNat) x = x := fun x hx => by
    have := hl x hx
    simp
    omega
  rw [List.map_congr_left h3, List.map_id']
theorem okB_app {a b : List Int} (ha : okB a) (hb : okB b) : okB (a ++ b) := fun x hx => (List.mem_append.1 hx).elim (ha x) (hb x)
theorem okB_numB (n : Int) : ∀ k, okB (numBytes n k)
  | 0 => fun x hx => by cases hx
  | k + 1 => fun x hx => by
    rcases List.mem_cons.1 hx with rfl | hx
    · omega
    · exact okB_numB n k x hx
theorem okB_putL (n k : Int) : okB (putL n k) := by
  unfold putL
  split
  · exact okB_numB _ _
  · intro x hx; cases hx
theorem rdU_bd2 (st : Option (List Int)) (hst : okB (st.getD [])) (k : Int) (_ : 0 ≤ k) : 0 ≤ (rdU st k).1 ∧ (rdU st k).1 < 256 ^ k.toNat ∧ okB ((rdU st k).2.getD []) := by
  unfold rdU
  split
  · have h1 := numBE_bd _ (rdB_ok hst k)
    have h2 := rdB_len st k
    refine ⟨h1.1, Int.lt_of_lt_of_le h1.2 ?_, ?_⟩
    · have h3 : (rdB st k).1.length ≤ k.toNat := by omega
      have h4 : (256 : Nat) ^ (rdB st k).1.length ≤ 256 ^ k.toNat := Nat.pow_le_pow_right (by omega) h3
      have h5 : ((256 ^ (rdB st k).1.length : Nat) : Int) ≤ ((256 ^ k.toNat : Nat) : Int) := Int.ofNat_le.2 h4
      rw [Int.natCast_pow, Int.natCast_pow] at h5
      exact h5
    · unfold rdB
      cases st with
      | none => intro x hx; cases hx
      | some l =>
        simp only []
        split
        · exact okB.drop hst _
        · intro x hx; cases hx
  · refine ⟨Int.le_refl _, Int.pow_pos (by omega), ?_⟩
    intro x hx; cases hx
abbrev pB : ByteArray := ⟨#[66]⟩
theorem strI_of {t : List Int} (h : okB t) : strI (strOfNums t) = t := by
  unfold strI strOfNums
  simp only [List.map_map]
  refine (List.map_congr_left fun x hx => ?_).trans (List.map_id t)
  have := h x hx
  simp only [Function.comp, id]
  rw [UInt8.toNat_ofNat']
  omega
theorem rdB_okr {st : Option (List Int)} (h : okB (st.getD [])) (n : Int) : okB ((rdB st n).2.getD []) := by
  unfold rdB
  cases st with
  | none => intro x hx; cases hx
  | some l =>
    simp only []
    split
    · exact okB.drop h _
    · intro x hx; cases hx
theorem rdT_bd {st : Option (List Int)} (h : okB (st.getD [])) : okB (rdT st).1 ∧ (rdT st).1.length ≤ 64 ∧ okB ((rdT st).2.getD []) := by
  obtain ⟨h0, h1, h2⟩ := rdU_bd2 st h 1 (by decide)
  unfold rdT
  split
  · rename_i h3
    refine ⟨rdB_ok h2 _, ?_, rdB_okr h2 _⟩
    have := rdB_len (rdU st 1).2 (rdU st 1).1
    omega
  · exact ⟨(fun x hx => by cases hx), Nat.zero_le _, (fun x hx => by cases hx)⟩
theorem rdT_back {st : Option (List Int)} {l' : List Int} (hok : okB (st.getD [])) (h : (rdT st).2 = some l') : ∃ l, st = some l ∧ l = textL (strOfNums (rdT st).1) ++ l' ∧ okB l' ∧ (strOfNums (rdT st).1).size ≤ 64 := by
  have hb := rdT_bd hok
  unfold rdT at h ⊢ hb
  by_cases hle : (rdU st 1).1 ≤ 64
  · rw [if_pos hle] at h hb ⊢
    obtain ⟨m, h1, h2, h3⟩ := rdB_back h
    obtain ⟨l, e1, e2, e3, e4, e5⟩ := rdU_back hok h1 wOk1
    refine ⟨l, e1, ?_, ?_, by rw [strOfNums_size]; exact hb.2.1⟩
    · have h4 : (rdU st 1).1 = ((rdB (rdU st 1).2 (rdU st 1).1).1.length : Int) := h3.symm
      rw [e2, imPutL_one _ e4 (by omega)]
      unfold textL
      rw [strOfNums_size, strI_of hb.1, ← h4, h2]
      simp
    · rw [h] at hb
      exact hb.2.2
  · rw [if_neg hle] at h
    cases h
def rdAs : Nat → Option (List Int) → List PA × Option (List Int)
  | 0, st => ([], st)
  | k + 1, st => ((strOfNums (rdT st).1, strOfNums (rdT (rdT st).2).1) :: (rdAs k (rdT (rdT st).2).2).1, (rdAs k (rdT (rdT st).2).2).2)
def rdFs : Nat → Option (List Int) → List Int × Option (List Int)
  | 0, st => ([], st)
  | k + 1, st => ((rdU st 1).1 :: (rdFs k (rdU st 1).2).1, (rdFs k (rdU st 1).2).2)
theorem rdAs_len : ∀ k st, (rdAs k st).1.length = k
  | 0, _ => rfl
  | k + 1, st => by rw [rdAs, List.length_cons, rdAs_len k]
theorem rdFs_len : ∀ k st, (rdFs k st).1.length = k
  | 0, _ => rfl
  | k + 1, st => by rw [rdFs, List.length_cons, rdFs_len k]
theorem rdAs_bd : ∀ (k : Nat) (st : Option (List Int)), okB (st.getD []) → (∀ p ∈ (rdAs k st).1, p.1.size ≤ 64 ∧ p.2.size ≤ 64) ∧ okB ((rdAs k st).2.getD [])
  | 0, st, h => ⟨(fun p hp => by cases hp), h⟩
  | k + 1, st, h => by
    have h1 := rdT_bd h
    have h2 := rdT_bd h1.2.2
    have ih := rdAs_bd k _ h2.2.2
    rw [rdAs]
    refine ⟨fun p hp => ?_, ih.2⟩
    rcases List.mem_cons.1 hp with rfl | hp
    · exact ⟨by rw [strOfNums_size]; exact h1.2.1, by rw [strOfNums_size]; exact h2.2.1⟩
    · exact ih.1 p hp
theorem rdFs_bd : ∀ (k : Nat) (st : Option (List Int)), okB (st.getD []) → okB (rdFs k st).1 ∧ okB ((rdFs k st).2.getD [])
  | 0, st, h => ⟨(fun p hp => by cases hp), h⟩
  | k + 1, st, h => by
    obtain ⟨h0, h1, h2⟩ := rdU_bd2 st h 1 (by decide)
    have ih := rdFs_bd k _ h2
    have h1 : (rdU st 1).1 < 256 := h1
    rw [rdFs]
    refine ⟨fun p hp => ?_, ih.2⟩
    rcases List.mem_cons.1 hp with rfl | hp
    · exact ⟨h0, by omega⟩
    · exact ih.1 p hp
theorem rdT_none : rdT none = ([], none) := by
  have h : (rdU none 1).2 = none := rfl
  unfold rdT
  split
  · rw [h]; rfl
  · rfl
theorem rdU1_none : (rdU none 1).2 = none := rfl
theorem rdAs_none : ∀ k, (rdAs k none).2 = none
  | 0 => rfl
  | k + 1 => by rw [rdAs, rdT_none]; simp only []; rw [rdT_none]; exact rdAs_none k
theorem rdFs_none : ∀ k, (rdFs k none).2 = none
  | 0 => rfl
  | k + 1 => by rw [rdFs, rdU1_none]; exact rdFs_none k
theorem rdAs_back : ∀ (k : Nat) (st : Option (List Int)) (l' : List Int), okB (st.getD []) → (rdAs k st).2 = some l' → ∃ l, st = some l ∧ l = (rdAs k st).1.flatMap attrL ++ l'
  | 0, st, l', _, h => ⟨l', h, rfl⟩
  | k + 1, st, l', hok, h => by
    rw [rdAs] at h ⊢
    simp only [] at h ⊢
    have h1 := rdT_bd hok
    have h2 := rdT_bd h1.2.2
    obtain ⟨l2, e1, e2⟩ := rdAs_back k _ l' h2.2.2 h
    obtain ⟨l1, e3, e4, -, -⟩ := rdT_back h1.2.2 e1
    obtain ⟨l0, e5, e6, -, -⟩ := rdT_back hok e3
    refine ⟨l0, e5, ?_⟩
    rw [e6, e4, e2, List.flatMap_cons]
    simp [attrL]
theorem rdFs_back : ∀ (k : Nat) (st : Option (List Int)) (l' : List Int), okB (st.getD []) → (rdFs k st).2 = some l' → ∃ l, st = some l ∧ l = (rdFs k st).1 ++ l'
  | 0, st, l', _, h => ⟨l', h, rfl⟩
  | k + 1, st, l', hok, h => by
    rw [rdFs] at h ⊢
    simp only [] at h ⊢
    obtain ⟨h0, h1, h2⟩ := rdU_bd2 st hok 1 (by decide)
    have h1 : (rdU st 1).1 < 256 := h1
    obtain ⟨l2, e1, e2⟩ := rdFs_back k _ l' h2 h
    obtain ⟨l0, e5, e6, -, -, -⟩ := rdU_back hok e1 wOk1
    refine ⟨l0, e5, ?_⟩
    rw [e6, imPutL_one _ h0 (by omega), e2]
    simp
/-- What is read of bytes, behind the sign. -/
def imRd (st : Option (List Int)) : BlkS × Option (List Int) :=
  (⟨(rdU st 4).1, strOfNums (rdT (rdU st 4).2).1,
    (rdFs 64 (rdAs (rdU (rdT (rdU st 4).2).2 1).1.toNat (rdU (rdT (rdU st 4).2).2 1).2).2).1,
    (rdFs (rdU (rdFs 64 (rdAs (rdU (rdT (rdU st 4).2).2 1).1.toNat (rdU (rdT (rdU st 4).2).2 1).2).2).2 1).1.toNat (rdU (rdFs 64 (rdAs (rdU (rdT (rdU st 4).2).2 1).1.toNat (rdU (rdT (rdU st 4).2).2 1).2).2).2 1).2).1,
    (rdAs (rdU (rdT (rdU st 4).2).2 1).1.toNat (rdU (rdT (rdU st 4).2).2 1).2).1⟩,
   (rdFs (rdU (rdFs 64 (rdAs (rdU (rdT (rdU st 4).2).2 1).1.toNat (rdU (rdT (rdU st 4).2).2 1).2).2).2 1).1.toNat (rdU (rdFs 64 (rdAs (rdU (rdT (rdU st 4).2).2 1).1.toNat (rdU (rdT (rdU st 4).2).2 1).2).2).2 1).2).2)
set_option maxRecDepth 100000 in
theorem imRd_wf (st : Option (List Int)) (h : okB (st.getD [])) : BWf (imRd st).1 ∧ (imRd st).1.free.length ≤ 255 ∧ (imRd st).1.attrs.length ≤ 255 := by
  obtain ⟨a0, a1, a2⟩ := rdU_bd2 st h 4 (by decide)
  have t := rdT_bd a2
  obtain ⟨n0, n1, n2⟩ := rdU_bd2 _ t.2.2 1 (by decide)
  have A := rdAs_bd (rdU (rdT (rdU st 4).2).2 1).1.toNat _ n2
  have S := rdFs_bd 64 _ A.2
  obtain ⟨m0, m1, m2⟩ := rdU_bd2 _ S.2 1 (by decide)
  have F := rdFs_bd (rdU (rdFs 64 (rdAs (rdU (rdT (rdU st 4).2).2 1).1.toNat (rdU (rdT (rdU st 4).2).2 1).2).2).2 1).1.toNat _ m2
  have c4 : (256 : Int) ^ (4 : Int).toNat = 4294967296 := by decide
  have c1 : (256 : Int) ^ (1 : Int).toNat = 256 := by decide
  rw [c4] at a1
  rw [c1] at n1 m1
  have hm : (64 : Nat) ≤ maxLen ∧ 255 ≤ maxLen := by unfold maxLen; omega
  refine ⟨⟨⟨a0, a1⟩, rdFs_len _ _, S.1, F.1, ?_, ?_, ?_, fun p hp => ?_⟩, ?_, ?_⟩
  · show (strOfNums (rdT (rdU st 4).2).1).size ≤ maxLen
    rw [strOfNums_size]; omega
  · show (rdFs _ _).1.length ≤ maxLen
    rw [rdFs_len]; omega
  · show (rdAs _ _).1.length ≤ maxLen
    rw [rdAs_len]; omega
  · have := A.1 p hp
    omega
  · show (rdFs _ _).1.length ≤ 255
    rw [rdFs_len]; omega
  · show (rdAs _ _).1.length ≤ 255
    rw [rdAs_len]; omega
/-- A block's bytes behind the sign. -/
def imT (b : BlkS) : List Int := putL b.addr 4 ++ (textL b.aff ++ ((b.attrs.length : Int) :: (b.attrs.flatMap attrL ++ (b.sl ++ ((b.free.length : Int) :: (b.free ++ []))))))
theorem imB_cons (b : BlkS) : imB b = 66 :: imT b := by unfold imB imH imT; simp
set_option maxRecDepth 100000 in
theorem imRd_back {l : List Int} (hok : okB l) (h : (imRd (some l)).2 = some []) (_ : rightB (imRd (some l)).1 = true) : 66 :: l = imB (imRd (some l)).1 := by
  rw [imB_cons]
  congr 1
  obtain ⟨a0, a1, a2⟩ := rdU_bd2 (some l) hok 4 (by decide)
  have t := rdT_bd a2
  obtain ⟨n0, n1, n2⟩ := rdU_bd2 _ t.2.2 1 (by decide)
  have A := rdAs_bd (rdU (rdT (rdU (some l) 4).2).2 1).1.toNat _ n2
  have S := rdFs_bd 64 _ A.2
  obtain ⟨m0, m1, m2⟩ := rdU_bd2 _ S.2 1 (by decide)
  have c1 : (256 : Int) ^ (1 : Int).toNat = 256 := by decide
  rw [c1] at n1 m1
  have lA := rdAs_len (rdU (rdT (rdU (some l) 4).2).2 1).1.toNat (rdU (rdT (rdU (some l) 4).2).2 1).2
  have lF := rdFs_len (rdU (rdFs 64 (rdAs (rdU (rdT (rdU (some l) 4).2).2 1).1.toNat (rdU (rdT (rdU (some l) 4).2).2 1).2).2).2 1).1.toNat (rdU (rdFs 64 (rdAs (rdU (rdT (rdU (some l) 4).2).2 1).1.toNat (rdU (rdT (rdU (some l) 4).2).2 1).2).2).2 1).2
  unfold imRd at h ⊢
  simp only [] at h ⊢
  obtain ⟨l6, e6, f6⟩ := rdFs_back _ _ _ m2 h
  obtain ⟨l5, e5, f5, -, -, -⟩ := rdU_back S.2 e6 wOk1
  obtain ⟨l4, e4, f4⟩ := rdFs_back _ _ _ A.2 e5
  obtain ⟨l3, e3, f3⟩ := rdAs_back _ _ _ n2 e4
  obtain ⟨l2, e2, f2, -, -, -⟩ := rdU_back t.2.2 e3 wOk1
  obtain ⟨l1, e1, f1, -, -⟩ := rdT_back a2 e2
  obtain ⟨l0, e0, f0, -, -, -⟩ := rdU_back (st := some l) hok e1 wOk4
  have e0 := Option.some.inj e0
  clear e1 e2 e3 e4 e5 e6 h a2 t A S m2 n2
  generalize rdU (some l) 4 = ra at *
  generalize rdT ra.2 = rt at *
  generalize rdU rt.2 1 = rn at *
  generalize rdAs rn.1.toNat rn.2 = rA at *
  generalize rdFs 64 rA.2 = rS at *
  generalize rdU rS.2 1 = rm at *
  generalize rdFs rm.1.toNat rm.2 = rF at *
  have hn : (rA.1.length : Int) = rn.1 := by rw [lA, Int.toNat_of_nonneg n0]
  have hm : (rF.1.length : Int) = rm.1 := by rw [lF, Int.toNat_of_nonneg m0]
  rw [imPutL_one _ n0 (by omega)] at f2
  rw [imPutL_one _ m0 (by omega)] at f5
  unfold imT
  simp only []
  rw [e0, f0, f1, f2, f3, f4, f5, f6, hn, hm]
  simp
end
section
open Go.RowKit
theorem RdP.belowN {g B n : Nat} {st : Option (List Int)} {w w' : World} (hr : RdP g B st w) (hb : Below n w w') (hg : g < n) : RdP g B st w' := by
  obtain ⟨v, h, hs, hd, ho, hl, hB⟩ := hr
  refine ⟨v, (hb.block g hg).trans h, sees_heap hs (fun d hd' _ => hb.block d (by have := hd d hd'; omega)), hd, ho, hl, hB⟩
theorem grown_belowB {g B : Nat} {w a b : World} (h : w.grownBy a (some g)) (k : Below B a b) (hB : w.heap.size ≤ B) : w.grownBy b (some g) :=
  ⟨k.os.trans h.os, k.tape.trans h.tape, k.output.trans h.output, Nat.le_trans h.size k.size, fun i hi hne => (k.block i (by omega)).trans (h.block i hi hne)⟩
theorem rdAs_step {n i : Nat} {st s1 : Option (List Int)} {X : List PA} (h : rdAs n st = (X ++ (rdAs (n - i) s1).1, (rdAs (n - i) s1).2)) (hi : i < n) :
    rdAs n st = ((X ++ [(strOfNums (rdT s1).1, strOfNums (rdT (rdT s1).2).1)]) ++ (rdAs (n - (i + 1)) (rdT (rdT s1).2).2).1, (rdAs (n - (i + 1)) (rdT (rdT s1).2).2).2) := by
  rw [h, show n - i = (n - (i + 1)) + 1 from by omega, rdAs]
  simp
theorem rdFs_step {n i : Nat} {st s1 : Option (List Int)} {X : List Int} (h : rdFs n st = (X ++ (rdFs (n - i) s1).1, (rdFs (n - i) s1).2)) (hi : i < n) :
    rdFs n st = ((X ++ [(rdU s1 1).1]) ++ (rdFs (n - (i + 1)) (rdU s1 1).2).1, (rdFs (n - (i + 1)) (rdU s1 1).2).2) := by
  rw [h, show n - i = (n - (i + 1)) + 1 from by omega, rdFs]
  simp
set_option maxRecDepth 100000 in
set_option maxHeartbeats 4000000 in
theorem readAttrs_any (g : Nat) (st : Option (List Int)) (n : Nat) (w : World) (h : RdP g g st w) (hn : n ≤ 255) :
    Calls Tryz.prog 128 #[.pointer (some ⟨g, 0, none⟩), .int .i64 n] w fun e w' => ∃ v', e = .returned v' ∧ RowA EAt w' w.heap.size v' (rdAs n st).1 ∧ RdP g g (rdAs n st).2 w' ∧ w.grownBy w' (some g) := by
  have hgw : g < w.heap.size := by obtain ⟨_, hh, _⟩ := h; exact heap_lt hh
  have HR := Lib.hid h
  have HGW := Lib.hid hgw
  clear h hgw
  go_enter Tryz.func128, Tryz.ntmps128
  go_wp2_with fail
  go_loopw [5, 8] (fun u j wr => ∃ (i : Nat) (X : List PA) (s1 : Option (List Int)), i ≤ n ∧ j = .int .i64 i ∧ Hid (∃ ao m c, u = .slice ao m c) ∧ Hid (X.length = i ∧ rdAs n st = (X ++ (rdAs (n - i) s1).1, (rdAs (n - i) s1).2)) ∧ Hid (RowA EAt wr w.heap.size u X) ∧ Hid (RdP g g s1 wr) ∧ Hid (w.grownBy wr (some g))) (fun _ j _ => n - (intOf j).toNat)
  case atStart => exact ⟨0, [], st, Nat.zero_le _, rfl, Lib.hid ⟨none, 0, 0, rfl⟩, Lib.hid ⟨rfl, by simp⟩, Lib.hid (World.ownsRow_nil _ _ _ _), HR, Lib.hid (World.grownBy.refl _ _)⟩
  case round =>
    obtain ⟨i, X, s1, hi, rfl, HU, HE, HO, HRd, HG⟩ := hrel
    obtain ⟨ao, m, c, rfl⟩ := HU.out
    by_cases hlt : i < n
    · have d1 : decide ((i : Int) < (n : Int)) = true := by simp; omega
      have HT1 := Lib.hid (text_any g g s1 _ HRd.out)
      have HST := Lib.hid (rdAs_step HE.out.2 hlt)
      have HLT := Lib.hid hlt
      have hXl : X.length ≤ 1000001 := by rw [HE.out.1]; omega
      have HT2 := Lib.hid (fun w h => text_any g g (rdT s1).2 w h)
      generalize rdT (rdT s1).2 = t2 at *
      generalize rdT s1 = t1 at *
      clear hlt
      go_wp2_with fail
      refine HT1.out.mono ?_; rintro e w2 ⟨rfl, hR2, hg2⟩
      have HO2 : Hid (RowA EAt w2 w.heap.size (.slice ao m c) X) := Lib.hid (own_grown HO.out hg2 HGW.out)
      have HG2 := Lib.hid (grown_trans HG.out hg2)
      have HT3 := Lib.hid (HT2.out _ hR2)
      clear hR2 hg2
      go_wp2_with fail
      refine HT3.out.mono ?_; rintro e w3 ⟨rfl, hR3, hg3⟩
      have HO3 : Hid (RowA EAt w3 w.heap.size (.slice ao m c) X) := Lib.hid (own_grown HO2.out hg3 HGW.out)
      have HG3 := Lib.hid (grown_trans HG2.out hg3)
      have HR3 := Lib.hid hR3
      clear hR3 hg3
      go_wp2_with (at_builtin; refine wpList_pushA (w0 := w3) Tryz.underlying57 infoA rfl (.tmp 12) (.tmp 17) rfl w.heap.size _ X (strOfNums t1.1, strOfNums t2.1) w3.heap.size rfl rfl rfl HO3.out hXl HG3.out.size ?_; intro v5 w5 ho5 hb5 hg5; have HO5 := Lib.hid ho5; have HG5 := Lib.hid (grown_belowB HG3.out hb5 (Nat.le_refl _)); have HR5 := Lib.hid (HR3.out.belowN hb5 HGW.out); have HU5 := Lib.hid (own_form ho5); clear ho5 hb5 hg5)
      go_roundw
      case rel => exact ⟨i + 1, X ++ [(strOfNums t1.1, strOfNums t2.1)], t2.2, HLT.out, by go_num, HU5, Lib.hid ⟨by rw [List.length_append, HE.out.1]; rfl, HST.out⟩, HO5, HR5, HG5⟩
      case measure => simp [intOf]; have := HLT.out; omega
    · obtain rfl : i = n := by omega
      have d1 : decide ((i : Int) < (i : Int)) = false := by simp
      have HV : Hid (rdAs i st = (X, s1)) := Lib.hid (by
        rw [HE.out.2, Nat.sub_self]; simp [rdAs])
      go_wp2_with fail
      go_ret
      exact ⟨_, rfl, by rw [HV.out]; exact HO.out, by rw [HV.out]; exact HRd.out, HG.out⟩
set_option maxRecDepth 100000 in
set_option maxHeartbeats 4000000 in
theorem readFree_any (g : Nat) (st : Option (List Int)) (n : Nat) (w : World) (h : RdP g g st w) (hn : n ≤ 255) :
    Calls Tryz.prog 129 #[.pointer (some ⟨g, 0, none⟩), .int .i64 n] w fun e w' => ∃ v', e = .returned v' ∧ Owns w' w.heap.size v' (rdFs n st).1 ∧ RdP g g (rdFs n st).2 w' ∧ w.grownBy w' (some g) := by
  have hgw : g < w.heap.size := by obtain ⟨_, hh, _⟩ := h; exact heap_lt hh
  have HR := Lib.hid h
  have HGW := Lib.hid hgw
  clear h hgw
  go_enter Tryz.func129, Tryz.ntmps129
  go_wp2_with fail
  go_loopw [5, 7] (fun u j wr => ∃ (i : Nat) (X : List Int) (s1 : Option (List Int)), i ≤ n ∧ j = .int .i64 i ∧ Hid (∃ ao m c, u = .slice ao m c) ∧ Hid (X.length = i ∧ rdFs n st = (X ++ (rdFs (n - i) s1).1, (rdFs (n - i) s1).2)) ∧ Hid (wr.ownsRow w.heap.size 5 1 u i (cells8 X)) ∧ Hid (RdP g g s1 wr) ∧ Hid (w.grownBy wr (some g))) (fun _ j _ => n - (intOf j).toNat)
  case atStart => exact ⟨0, [], st, Nat.zero_le _, rfl, Lib.hid ⟨none, 0, 0, rfl⟩, Lib.hid ⟨rfl, by simp⟩, Lib.hid (World.ownsRow_nil _ _ _ _), HR, Lib.hid (World.grownBy.refl _ _)⟩
  case round =>
    obtain ⟨i, X, s1, hi, rfl, HU, HE, HO, HRd, HG⟩ := hrel
    obtain ⟨ao, m, c, rfl⟩ := HU.out
    by_cases hlt : i < n
    · have d1 : decide ((i : Int) < (n : Int)) = true := by simp; omega
      have HT1 := Lib.hid (u_any g g s1 1 _ HRd.out)
      have HST := Lib.hid (rdFs_step HE.out.2 hlt)
      have HLT := Lib.hid hlt
      obtain ⟨h0, h1⟩ := rdU_ok HRd.out 1
      have h1 : (rdU s1 1).1 < 256 := h1
      generalize rdU s1 1 = t1 at *
      have hw1 : IntKind.u8.wrap t1.1 = t1.1 := by rw [IntKind.wrap_u8]; omega
      have hXl : i ≤ 1000001 := by omega
      clear hlt h0 h1
      go_wp2_with fail
      refine HT1.out.mono ?_; rintro e w2 ⟨rfl, hR2, hg2⟩
      have HO2 := Lib.hid (own_grown HO.out hg2 HGW.out)
      have HG2 := Lib.hid (grown_trans HG.out hg2)
      have HR2 := Lib.hid hR2
      clear hR2 hg2
      go_wp2_with (at_builtin; refine wpList_push1 (w0 := w2) Tryz.underlying56 info8 rfl (by decide) rfl (.tmp 9) (.tmp 13) rfl w.heap.size _ i (cells8 X) (.int .u8 t1.1) w2.heap.size rfl rfl rfl HO2.out hXl HG2.out.size rfl ?_; intro v5 w5 ho5 hb5 _; have HO5 := Lib.hid ho5; have HG5 := Lib.hid (grown_belowB HG2.out hb5 (Nat.le_refl _)); have HR5 := Lib.hid (HR2.out.belowN hb5 HGW.out); have HU5 := Lib.hid (own_form ho5); clear ho5 hb5)
      go_roundw
      case rel => exact ⟨i + 1, X ++ [t1.1], t1.2, HLT.out, by go_num, HU5, Lib.hid ⟨by rw [List.length_append, HE.out.1]; rfl, HST.out⟩, Lib.hid (by have := HO5.out; unfold cells8; rw [List.map_append]; exact this), HR5, HG5⟩
      case measure => simp [intOf]; have := HLT.out; omega
    · obtain rfl : i = n := by omega
      have d1 : decide ((i : Int) < (i : Int)) = false := by simp
      have HV : Hid (rdFs i st = (X, s1)) := Lib.hid (by
        rw [HE.out.2, Nat.sub_self]; simp [rdFs])
      have HO' : Hid (Owns wr w.heap.size (.slice ao m c) X) := Lib.hid (by have := HO.out; rw [← HE.out.1] at this; exact this)
      go_wp2_with fail
      go_ret
      exact ⟨_, rfl, by rw [HV.out]; exact HO'.out, by rw [HV.out]; exact HRd.out, HG.out⟩
end
section
open Go.RowKit
def imOk (s : ByteArray) : Bool := starts s pB && (doneB (imRd (some (strI (rest s pB)))).2 && rightB (imRd (some (strI (rest s pB)))).1)
def imC (s : ByteArray) : BlkS := if imOk s = true then (imRd (some (strI (rest s pB)))).1 else zB
/-- While a block is read: the reader, the block's variable, the result's. -/
structure RdI (w0 : World) (g gb : Nat) (st : Option (List Int)) (b : BlkS) (fv av : Value) (X : World) : Prop where
  rd : RdP g g st X
  blk : BlkAt X gb b fv av
  zero : BlkAt X w0.heap.size zB NS NS
  below : Below w0.heap.size w0 X
  lt : w0.heap.size < g ∧ g < gb
theorem RdI.grown {w0 : World} {g gb : Nat} {st st' : Option (List Int)} {b : BlkS} {fv av : Value} {X Y : World} (h : RdI w0 g gb st b fv av X) (hg : X.grownBy Y (some g)) (hr : RdP g g st' Y) : RdI w0 g gb st' b fv av Y :=
  ⟨hr, (hg.block gb (heap_lt h.blk) (fun e => by have := Option.some.inj e; have := h.lt; omega)).trans h.blk, (hg.block _ (heap_lt h.zero) (fun e => by have := Option.some.inj e; have := h.lt; omega)).trans h.zero, h.below.grown hg h.below.size (fun k hk => by cases hk; have := h.lt; omega), h.lt⟩
theorem RdI.set {w0 : World} {g gb : Nat} {st : Option (List Int)} {b b' : BlkS} {fv av fv' av' : Value} {X : World} (h : RdI w0 g gb st b fv av X) (i : Nat) (v : Value) (hb : BlkAt (X.setCell ⟨gb, i, none⟩ v) gb b' fv' av') : RdI w0 g gb st b' fv' av' (X.setCell ⟨gb, i, none⟩ v) :=
  ⟨h.rd.grown (grown_set X gb i v) (by have := h.lt; omega) (by have := h.lt; omega), hb, blk_setO h.zero (a := ⟨gb, i, none⟩) (by show w0.heap.size ≠ gb; have := h.lt; omega) v, h.below.setCell (p := ⟨gb, i, none⟩) (by show w0.heap.size ≤ gb; have := h.lt; omega) v, h.lt⟩
def ovr (L : List Int) (i : Nat) : List Int := L.take i ++ (List.replicate 64 0).drop i
theorem ovr_zero (L : List Int) : ovr L 0 = List.replicate 64 0 := by simp [ovr]
theorem ovr_all {L : List Int} (h : L.length = 64) : ovr L 64 = L := by unfold ovr; rw [List.take_of_length_le (by omega), List.drop_of_length_le (by simp)]; simp
theorem ovr_len {L : List Int} (h : L.length = 64) (i : Nat) (hi : i ≤ 64) : (ovr L i).length = 64 := by unfold ovr; simp; omega
theorem ovr_set {L : List Int} (h : L.length = 64) {i : Nat} (hi : i < 64) {x : Int} (hx : L[i]? = some x) : (ovr L i).set i x = ovr L (i + 1) := by
  unfold ovr
  have hl : (L.take i).length = i := by rw [List.length_take]; omega
  have hd : (List.replicate 64 (0 : Int)).drop i = 0 :: (List.replicate 64 (0 : Int)).drop (i + 1) := by
    rw [List.drop_eq_getElem_cons (by rw [List.length_replicate]; exact hi), List.getElem_replicate]
  rw [List.set_append_right _ _ (by omega), hl, Nat.sub_self, hd, List.set_cons_zero, List.take_add_one, hx]
  simp
theorem rdFs_get {X Y : List Int} {x : Int} : (X ++ [x] ++ Y)[X.length]? = some x := by simp
theorem st_new5 {b0 : BlkS} {fv0 av0 : Value} {w w3 : World} (hg3 : (w.alloc (blkO b0 fv0 av0)).grownBy w3 (some w.heap.size)) : Below w.heap.size w w3 := (belNew w _).grown hg3 (by simp) (fun k hk => by cases hk; exact Nat.le_refl _)
set_option maxRecDepth 100000 in
set_option maxHeartbeats 16000000 in
theorem imRead_any (s : ByteArray) (w : World) (hs : s.size ≤ 100000) :
    Calls Tryz.prog 92 #[.string s] w fun e w' => ∃ fv av, e = .returned (.tuple #[.agg (blkL (imC s) fv av).toArray, .int .i64 (if imOk s = true then 0 else 3)]) ∧ BlkRet w w' (imC s) fv av := by
  obtain ⟨hwf, hfl, hal⟩ := imRd_wf (some (strI (rest s pB))) (okB_strI _)
  have hok : imOk s = (starts s pB && (doneB (imRd (some (strI (rest s pB)))).2 && rightB (imRd (some (strI (rest s pB)))).1)) := rfl
  have hcc : imC s = if imOk s = true then (imRd (some (strI (rest s pB)))).1 else zB := rfl
  obtain ⟨W, hW⟩ : ∃ W, W = w.alloc (blkO zB NS NS) := ⟨_, rfl⟩
  have hb0 : Below w.heap.size w W := by rw [hW]; exact belNew _ _
  have hA : BlkAt W w.heap.size zB NS NS := by rw [hW]; exact heap_new w _
  have HC := Lib.hid (Tryz.strings_CutPrefix s pB W)
  have hr : (⟨(Lib.trimPrefix s.data.toList pB.data.toList).toArray⟩ : ByteArray) = rest s pB := rfl
  rw [hr] at HC
  have hz : (Lib.hasPrefix s.data.toList pB.data.toList) = starts s pB := rfl
  rw [hz] at HC
  have hsz : (rest s pB).size ≤ 100000 := Nat.le_trans (rest_size s pB) hs
  generalize starts s pB = ST at *
  generalize rest s pB = r at *
  have hcv := Lib.run_convert_string_bytes (P := Tryz.prog) W 9 56 5 r Tryz.underlying9 Tryz.underlying56 Tryz.underlying5
  have hbz := bytes_below W 5 r
  have hse := bytes_sees W r
  obtain ⟨wz, hwz⟩ : ∃ wz, wz = Lib.bytesWorld W 5 r := ⟨_, rfl⟩
  rw [← hwz] at hcv hbz hse
  have hokb := okB_strI r
  have HN := Lib.hid (new_any _ (strI r) wz hse hokb (by rw [strI_length]; omega))
  generalize strI r = bs at *
  have HBZ := Lib.hid hbz
  -- what is read, part by part
  have hIM : imRd (some bs) = (⟨(rdU (some bs) 4).1, strOfNums (rdT (rdU (some bs) 4).2).1, (rdFs 64 (rdAs (rdU (rdT (rdU (some bs) 4).2).2 1).1.toNat (rdU (rdT (rdU (some bs) 4).2).2 1).2).2).1, (rdFs (rdU (rdFs 64 (rdAs (rdU (rdT (rdU (some bs) 4).2).2 1).1.toNat (rdU (rdT (rdU (some bs) 4).2).2 1).2).2).2 1).1.toNat (rdU (rdFs 64 (rdAs (rdU (rdT (rdU (some bs) 4).2).2 1).1.toNat (rdU (rdT (rdU (some bs) 4).2).2 1).2).2).2 1).2).1, (rdAs (rdU (rdT (rdU (some bs) 4).2).2 1).1.toNat (rdU (rdT (rdU (some bs) 4).2).2 1).2).1⟩, (rdFs (rdU (rdFs 64 (rdAs (rdU (rdT (rdU (some bs) 4).2).2 1).1.toNat (rdU (rdT (rdU (some bs) 4).2).2 1).2).2).2 1).1.toNat (rdU (rdFs 64 (rdAs (rdU (rdT (rdU (some bs) 4).2).2 1).1.toNat (rdU (rdT (rdU (some bs) 4).2).2 1).2).2).2 1).2).2) := rfl
  obtain ⟨a0, a1, a2⟩ := rdU_bd2 (some bs) hokb 4 (by decide)
  have tb := rdT_bd a2
  obtain ⟨n0, n1, n2⟩ := rdU_bd2 _ tb.2.2 1 (by decide)
  have Ab := rdAs_bd (rdU (rdT (rdU (some bs) 4).2).2 1).1.toNat _ n2
  have Sb := rdFs_bd 64 _ Ab.2
  obtain ⟨m0, m1, -⟩ := rdU_bd2 _ Sb.2 1 (by decide)
  have c4 : (256 : Int) ^ (4 : Int).toNat = 4294967296 := by decide
  have c1 : (256 : Int) ^ (1 : Int).toNat = 256 := by decide
  rw [c4] at a1
  rw [c1] at n1 m1
  have HU4 := Lib.hid (fun g w h => u_any g g (some bs) 4 w h)
  have HTX := Lib.hid (fun g w h => text_any g g (rdU (some bs) 4).2 w h)
  have HUN := Lib.hid (fun g w h => u_any g g (rdT (rdU (some bs) 4).2).2 1 w h)
  have HRA := Lib.hid (fun g w h => readAttrs_any g (rdU (rdT (rdU (some bs) 4).2).2 1).2 (rdU (rdT (rdU (some bs) 4).2).2 1).1.toNat w h (by omega))
  have HUM := Lib.hid (fun g w h => u_any g g (rdFs 64 (rdAs (rdU (rdT (rdU (some bs) 4).2).2 1).1.toNat (rdU (rdT (rdU (some bs) 4).2).2 1).2).2).2 1 w h)
  have HRF := Lib.hid (fun g w h => readFree_any g (rdU (rdFs 64 (rdAs (rdU (rdT (rdU (some bs) 4).2).2 1).1.toNat (rdU (rdT (rdU (some bs) 4).2).2 1).2).2).2 1).2 (rdU (rdFs 64 (rdAs (rdU (rdT (rdU (some bs) 4).2).2 1).1.toNat (rdU (rdT (rdU (some bs) 4).2).2 1).2).2).2 1).1.toNat w h (by omega))
  clear a2 tb n2 Ab Sb c4 c1 hsz hr hz hs hokb
  generalize rdU (some bs) 4 = U at *
  generalize rdT U.2 = T at *
  generalize rdU T.2 1 = Nn at *
  generalize rdAs Nn.1.toNat Nn.2 = RA at *
  have HSL := Lib.hid (rdFs_len 64 RA.2)
  have HSF : Hid (∃ S, S = rdFs 64 RA.2) := Lib.hid ⟨_, rfl⟩
  generalize hSR : rdFs 64 RA.2 = S at *
  generalize rdU S.2 1 = Mm at *
  generalize rdFs Mm.1.toNat Mm.2 = F at *
  have HSR := Lib.hid hSR
  generalize imRd (some bs) = IM at *
  subst hIM
  obtain ⟨U1, U2⟩ := U
  obtain ⟨T1, T2⟩ := T
  obtain ⟨N1, N2⟩ := Nn
  obtain ⟨M1, M2⟩ := Mm
  simp only [] at *
  obtain ⟨nn, rfl⟩ := Int.eq_ofNat_of_zero_le n0
  obtain ⟨mm, rfl⟩ := Int.eq_ofNat_of_zero_le m0
  simp only [Int.toNat_natCast] at HRA HRF
  have hwu : IntKind.u32.wrap U1 = U1 := by rw [IntKind.wrap_u32]; omega
  have hwn : IntKind.i64.wrap (nn : Int) = (nn : Int) := IntWalk.i64_in _ (by omega)
  have hwm : IntKind.i64.wrap (mm : Int) = (mm : Int) := IntWalk.i64_in _ (by omega)
  generalize hD : doneB F.2 = D at *
  have HD := Lib.hid hD
  have HWF := Lib.hid (And.intro hwf (And.intro hfl hal))
  have HOK := Lib.hid (And.intro hok hcc)
  generalize imOk s = OK at *
  generalize imC s = CC at *
  obtain ⟨cd, hcd⟩ : ∃ cd : Int, cd = if OK = true then 0 else 3 := ⟨_, rfl⟩
  rw [← hcd]
  have HCD := Lib.hid hcd
  clear hcd
  generalize strOfNums T1 = af at *
  have HW := Lib.hid hW
  have HB0 := Lib.hid hb0
  have HA := Lib.hid hA
  clear hW hb0 hA hwz hbz hse hSR HSF hD hwf hfl hal hok hcc a0 a1 n0 n1 m0 m1
  go_enter Tryz.func92, Tryz.ntmps92
  go_upto_region 1 with fail
  change Code.wp _ _ _ _ (w.alloc (blkO zB NS NS))
  rw [← HW.out]
  clear HW
  go_wp2_with (first
    | (go_at_call 118; refine HC.out.mono ?_; rintro e w1 ⟨rfl, rfl⟩)
    | fail)
  refine HN.out.mono ?_; rintro e w2 ⟨g, rfl, hR2, hg2, hb2⟩
  have HB2 := Lib.hid (HB0.out.trans ((bel HBZ.out hb2).mono HB0.out.size))
  have HZ2 : Hid (BlkAt w2 w.heap.size zB NS NS) := Lib.hid (HA.out.below (bel HBZ.out hb2))
  have HGS : Hid (w.heap.size < g) := Lib.hid (by have := heap_lt HA.out; have := HBZ.out.size; omega)
  have HU4' := Lib.hid (HU4.out g w2 hR2)
  clear hR2 hg2 hb2 HN HC
  go_wp2_with fail
  refine HU4'.out.mono ?_; rintro e w3 ⟨rfl, hR3, hg3⟩
  have HZ3 : Hid (BlkAt w3 w.heap.size zB NS NS) := Lib.hid ((hg3.block _ (heap_lt HZ2.out) (fun e => by have := Option.some.inj e; have := HGS.out; omega)).trans HZ2.out)
  have HB3 : Hid (Below w.heap.size w w3) := Lib.hid (HB2.out.grown hg3 HB2.out.size (fun k hk => by cases hk; have := HGS.out; omega))
  have HTX' := Lib.hid (HTX.out g w3 hR3)
  clear hR3 hg3 HU4' HU4
  go_wp2_with fail
  refine HTX'.out.mono ?_; rintro e w4 ⟨rfl, hR4, hg4⟩
  have HZ4 : Hid (BlkAt w4 w.heap.size zB NS NS) := Lib.hid ((hg4.block _ (heap_lt HZ3.out) (fun e => by have := Option.some.inj e; have := HGS.out; omega)).trans HZ3.out)
  have HB4 : Hid (Below w.heap.size w w4) := Lib.hid (HB3.out.grown hg4 HB3.out.size (fun k hk => by cases hk; have := HGS.out; omega))
  have HR4 := Lib.hid hR4
  have HG4 : Hid (g < w4.heap.size) := Lib.hid (by obtain ⟨_, hh, _⟩ := hR4; exact heap_lt hh)
  have HX4 : Hid (BlkAt (w4.alloc (blkO zB NS NS)) w4.heap.size zB NS NS) := Lib.hid (heap_new w4 _)
  have hlN : (zS U1 af).sl.length = 64 := zB_len
  have HEB : Hid (zS U1 af = ⟨U1, af, ovr S.1 0, [], []⟩) := Lib.hid (by rw [ovr_zero]; rfl)
  clear hR4 hg4 HTX' HTX
  go_upto_region 4 with ((change wpList _ _ _ _ _ (w4.alloc (blkO zB NS NS))); refine wpStB (b := zS U1 af) (fv := NS) (av := NS) rfl _ _ rfl rfl (by kernel_rfl) HX4.out zB_len hlN rfl rfl ?_; intro w5 hx5 hg5)
  have HBN := Lib.hid (st_new5 hg5)
  have HI5 : Hid (RdI w g w4.heap.size T2 ⟨U1, af, ovr S.1 0, [], []⟩ NS NS w5) := Lib.hid ⟨HR4.out.below HBN.out, by rw [← HEB.out]; exact hx5, HZ4.out.below HBN.out, bel HB4.out HBN.out, HGS.out, HG4.out⟩
  obtain ⟨gb, hgb⟩ : ∃ gb, gb = w4.heap.size := ⟨_, rfl⟩
  rw [← hgb] at HI5 ⊢
  have HUN' := Lib.hid (HUN.out g w5 HI5.out.rd)
  clear hx5 hg5 hgb HX4 HR4 HG4 HZ4 HB4 HZ3 HB3 HZ2 HB2 HEB hlN HBN
  go_wp2_with fail
  refine HUN'.out.mono ?_; rintro e w6 ⟨rfl, hR6, hg6⟩
  have HI6 := Lib.hid (HI5.out.grown hg6 hR6)
  have HRA' := Lib.hid (HRA.out g w6 hR6)
  clear hR6 hg6 HUN' HUN HI5
  go_wp2_with fail
  refine HRA'.out.mono ?_; rintro e w7 ⟨av, rfl, ho7, hR7, hg7⟩
  have HI7 := Lib.hid (HI6.out.grown hg7 hR7)
  obtain ⟨ao, an, ac, rfl⟩ := own_form ho7
  have HAV7 := Lib.hid (row_leA ho7 (show gb + 1 ≤ w6.heap.size from heap_lt HI6.out.blk))
  have f67 := HI7.out.blk.froz 67
  have hlO : (⟨U1, af, ovr S.1 0, [], []⟩ : BlkS).sl.length = 64 := ovr_len HSL.out 0 (by omega)
  have c67 := HI7.out.blk.attrs hlO
  have hx8 := HI7.out.blk.setAttrs hlO (.slice ao an ac)
  have HI8 := Lib.hid (HI7.out.set 67 (.slice ao an ac) hx8)
  have HAV8 : Hid (RowA EAt (w7.setCell ⟨gb, 67, none⟩ (.slice ao an ac)) (gb + 1) (.slice ao an ac) RA.1) := Lib.hid (own_set HAV7.out (a := ⟨gb, 67, none⟩) (Nat.lt_succ_self _) _)
  clear ho7 hR7 hg7 hx8 HRA' HRA HI6 hlO HAV7 HI7
  go_upto_region 5 with fail
  change Code.wp _ _ _ _ (w7.setCell ⟨gb, 67, none⟩ (.slice ao an ac))
  generalize w7.setCell ⟨gb, 67, none⟩ (.slice ao an ac) = w8 at HI8 HAV8 ⊢
  clear f67 c67
  go_wp2_with fail
  go_loopw [29] (fun j wr => ∃ (i : Nat) (s1 : Option (List Int)), i ≤ 64 ∧ j = .int .i64 i ∧ Hid (rdFs 64 RA.2 = (S.1.take i ++ (rdFs (64 - i) s1).1, (rdFs (64 - i) s1).2)) ∧ Hid (RdI w g gb s1 ⟨U1, af, ovr S.1 i, [], []⟩ NS (.slice ao an ac) wr ∧ RowA EAt wr (gb + 1) (.slice ao an ac) RA.1)) (fun j _ => 64 - (intOf j).toNat)
  case atStart => exact ⟨0, RA.2, Nat.zero_le _, rfl, Lib.hid (by rw [List.take_zero, List.nil_append, Nat.sub_zero]), Lib.hid ⟨HI8.out, HAV8.out⟩⟩
  case round =>
    clear HI8 HAV8
    obtain ⟨i, s1, hi, rfl, HE, HI⟩ := hrel
    by_cases hlt : i < 64
    · have d1 : decide ((i : Int) < 64) = true := by simp; omega
      have hix : S.1[i]? = some (rdU s1 1).1 := by
        have h1 := rdFs_step HE.out hlt
        rw [← HSR.out, h1]
        have hl : (S.1.take i).length = i := by rw [List.length_take]; have := HSL.out; omega
        have h2 := rdFs_get (X := S.1.take i) (x := (rdU s1 1).1) (Y := (rdFs (64 - (i + 1)) (rdU s1 1).2).1)
        rw [hl] at h2
        exact h2
      have HS64 : Hid (S.1.length = 64) := Lib.hid HSL.out
      have HSO := Lib.hid (ovr_set HS64.out hlt hix)
      have HEN : Hid (rdFs 64 RA.2 = (S.1.take (i + 1) ++ (rdFs (64 - (i + 1)) (rdU s1 1).2).1, (rdFs (64 - (i + 1)) (rdU s1 1).2).2)) := Lib.hid (by
        have h1 := rdFs_step HE.out hlt
        rw [h1, List.take_add_one, hix]
        rfl)
      have HT1 := Lib.hid (u_any g g s1 1 _ HI.out.1.rd)
      obtain ⟨h0, h1⟩ := rdU_ok HI.out.1.rd 1
      have h1 : (rdU s1 1).1 < 256 := h1
      generalize rdU s1 1 = t1 at *
      have hw1 : IntKind.u8.wrap t1.1 = t1.1 := by rw [IntKind.wrap_u8]; omega
      have hlO : (⟨U1, af, ovr S.1 i, [], []⟩ : BlkS).sl.length = 64 := ovr_len HS64.out i (by omega)
      have HLT := Lib.hid hlt
      have b0 : (0 : Int) ≤ (i : Int) := by omega
      have b1 : (i : Int) < 64 := by omega
      clear hix h0 h1 hlt
      go_wp2_with fail
      refine HT1.out.mono ?_; rintro e w9 ⟨rfl, hR9, hg9⟩
      have HI9 := Lib.hid (HI.out.1.grown hg9 hR9)
      have HAV9 : Hid (RowA EAt w9 (gb + 1) (.slice ao an ac) RA.1) := Lib.hid (own_grown HI.out.2 hg9 (by have := HI9.out.lt; omega))
      obtain ⟨x0, hx0⟩ : ∃ x0, (ovr S.1 i)[i]? = some x0 := ⟨_, List.getElem?_eq_getElem (by have : (ovr S.1 i).length = 64 := hlO; have := HLT.out; omega)⟩
      have k1 := HI9.out.blk.slot (b := ⟨U1, af, ovr S.1 i, [], []⟩) hx0
      rw [Nat.add_comm] at k1
      have k2 := HI9.out.blk.froz (2 + i)
      have hx10 := HI9.out.blk.setSlot i (by show i < (ovr S.1 i).length; have : (ovr S.1 i).length = 64 := hlO; have := HLT.out; omega) t1.1
      rw [Nat.add_comm] at hx10
      have hx10 : BlkAt (w9.setCell ⟨gb, 2 + i, none⟩ (.int .u8 t1.1)) gb ⟨U1, af, ovr S.1 (i + 1), [], []⟩ NS (.slice ao an ac) := by
        have h := hx10
        simp only [] at h
        rw [HSO.out] at h
        exact h
      have HI10 := Lib.hid (HI9.out.set (2 + i) (.int .u8 t1.1) hx10)
      have HAV10 : Hid (RowA EAt (w9.setCell ⟨gb, 2 + i, none⟩ (.int .u8 t1.1)) (gb + 1) (.slice ao an ac) RA.1) := Lib.hid (own_set HAV9.out (a := ⟨gb, 2 + i, none⟩) (Nat.lt_succ_self _) _)
      clear hR9 hg9 hx0 hx10
      go_wp2_with fail
      go_roundw
      case rel => exact ⟨i + 1, t1.2, HLT.out, by go_num, HEN, Lib.hid ⟨HI10.out, HAV10.out⟩⟩
      case measure => simp [intOf]; have := HLT.out; omega
    · obtain rfl : i = 64 := by omega
      have d1 : decide (((64 : Nat) : Int) < 64) = false := by decide
      have HS64 : Hid (S.1.length = 64) := Lib.hid HSL.out
      have hS1 : S = (S.1, s1) := by
        have h := HE.out
        rw [HSR.out, List.take_of_length_le (by have := HS64.out; omega)] at h
        simpa [rdFs] using h
      have hs1 : S.2 = s1 := by rw [hS1]
      have HI11 : Hid (RdI w g gb S.2 ⟨U1, af, S.1, [], []⟩ NS (.slice ao an ac) wr) := Lib.hid (by
        have h := HI.out.1
        rw [ovr_all HS64.out, ← hs1] at h
        exact h)
      have HAV11 := Lib.hid HI.out.2
      have HUM' := Lib.hid (HUM.out g _ HI11.out.rd)
      clear hS1 hs1 HI hlt
      go_wp2_with fail
      refine HUM'.out.mono ?_; rintro e w12 ⟨rfl, hR12, hg12⟩
      have HI12 := Lib.hid (HI11.out.grown hg12 hR12)
      have HAV12 : Hid (RowA EAt w12 (gb + 1) (.slice ao an ac) RA.1) := Lib.hid (own_grown HAV11.out hg12 (by have := HI12.out.lt; omega))
      have HRF' := Lib.hid (HRF.out g w12 hR12)
      clear hR12 hg12 HUM' HI11 HAV11
      go_wp2_with fail
      refine HRF'.out.mono ?_; rintro e w13 ⟨fv, rfl, ho13, hR13, hg13⟩
      have HI13 := Lib.hid (HI12.out.grown hg13 hR13)
      have HAV13 : Hid (RowA EAt w13 (gb + 1) (.slice ao an ac) RA.1) := Lib.hid (own_grown HAV12.out hg13 (by have := HI13.out.lt; omega))
      obtain ⟨fo, fn, fc, rfl⟩ := own_form ho13
      have HFV13 := Lib.hid (Owns.le ho13 (show gb + 1 ≤ w12.heap.size from heap_lt HI12.out.blk))
      have hlS : (⟨U1, af, S.1, [], []⟩ : BlkS).sl.length = 64 := HS64.out
      have f66 := HI13.out.blk.froz 66
      have c66 := HI13.out.blk.free hlS
      have hx14 := HI13.out.blk.setFree hlS (.slice fo fn fc)
      have HI14 := Lib.hid (HI13.out.set 66 (.slice fo fn fc) hx14)
      have HAV14 : Hid (RowA EAt (w13.setCell ⟨gb, 66, none⟩ (.slice fo fn fc)) (gb + 1) (.slice ao an ac) RA.1) := Lib.hid (own_set HAV13.out (a := ⟨gb, 66, none⟩) (Nat.lt_succ_self _) _)
      have HFV14 : Hid (Owns (w13.setCell ⟨gb, 66, none⟩ (.slice fo fn fc)) (gb + 1) (.slice fo fn fc) F.1) := Lib.hid (own_set HFV13.out (a := ⟨gb, 66, none⟩) (Nat.lt_succ_self _) _)
      clear ho13 hR13 hg13 hx14 HRF' HI12 HI13 HAV12 HAV13 HFV13
      go_upto_region 11 with fail
      change Code.wp _ _ _ _ (w13.setCell ⟨gb, 66, none⟩ (.slice fo fn fc))
      generalize w13.setCell ⟨gb, 66, none⟩ (.slice fo fn fc) = w14 at HI14 HAV14 HFV14 ⊢
      clear f66 c66
      obtain ⟨bb, hbb⟩ : ∃ bb : BlkS, bb = ⟨U1, af, S.1, F.1, RA.1⟩ := ⟨_, rfl⟩
      rw [← hbb] at HOK HWF
      have HXB : Hid (BlkAt w14 gb bb (.slice fo fn fc) (.slice ao an ac)) := Lib.hid (by rw [hbb]; exact HI14.out.blk)
      have HSF : Hid (Sees w14 (.slice fo fn fc) bb.free) := Lib.hid (by rw [hbb]; exact HFV14.out.sees)
      have HSA : Hid (SeesA w14 (.slice ao an ac) bb.attrs) := Lib.hid (by rw [hbb]; exact RowA.sees HAV14.out)
      have HFV : Hid (Owns w14 (gb + 1) (.slice fo fn fc) bb.free) := Lib.hid (by rw [hbb]; exact HFV14.out)
      have HAV : Hid (RowA EAt w14 (gb + 1) (.slice ao an ac) bb.attrs) := Lib.hid (by rw [hbb]; exact HAV14.out)
      have hlB : bb.sl.length = 64 := by rw [hbb]; exact HS64.out
      have HRB := Lib.hid (rightBlk_any (blkL bb (.slice fo fn fc) (.slice ao an ac)).toArray bb w14 ⟨_, _, rfl, HSF.out, HSA.out, HWF.out.1⟩)
      have HDN := Lib.hid (done_any g g F.2 w14 HI14.out.rd)
      rw [HD.out] at HDN
      have HZ := Lib.hid (And.intro HI14.out.zero (And.intro HI14.out.below HI14.out.lt))
      clear hbb HFV14 HAV14 HI14 hlS
      have kz := fun w => buildZ w
      have HNO : Hid (OK = false → ∀ w' : World, BlkAt w' w.heap.size zB NS NS → Below w.heap.size w w' → ∃ fv av, Ending.returned (.tuple #[.agg (blkL zB NS NS).toArray, .int .i64 3]) = .returned (.tuple #[.agg (blkL CC fv av).toArray, .int .i64 cd]) ∧ BlkRet w w' CC fv av) := Lib.hid (fun h w' _ hb => by
        have hc : CC = zB := by rw [HOK.out.2, h]; rfl
        have h3 : cd = 3 := by rw [HCD.out, h]; rfl
        rw [hc, h3]
        exact ⟨NS, NS, rfl, Owns.nil _ _, World.ownsRow_nil _ _ _ _, hb⟩)
      cases ST with
      | false =>
        have hO : OK = false := by rw [HOK.out.1]; rfl
        have HNO' := Lib.hid (HNO.out hO)
        clear hO
        go_wp2_with (refine wpStB (b := zB) (fv := NS) (av := NS) rfl _ _ rfl rfl rfl HZ.out.1 zB_len zB_len rfl rfl ?_; intro w20 hx20 hg20)
        exact bodyPost_ret (resB2 Tryz.results92 rfl (loadVarB hx20 zB_len)) rfl (HNO'.out _ hx20 (HZ.out.2.1.grown hg20 HZ.out.2.1.size (fun k hk => by cases hk; exact Nat.le_refl _)))
      | true =>
        go_wp2_with fail
        refine HDN.out.mono ?_; rintro e w15 ⟨rfl, rfl⟩
        cases D with
        | false =>
          have hO : OK = false := by rw [HOK.out.1]; rfl
          have HNO' := Lib.hid (HNO.out hO)
          clear hO
          go_wp2_with (refine wpStB (b := zB) (fv := NS) (av := NS) rfl _ _ rfl rfl rfl HZ.out.1 zB_len zB_len rfl rfl ?_; intro w20 hx20 hg20)
          exact bodyPost_ret (resB2 Tryz.results92 rfl (loadVarB hx20 zB_len)) rfl (HNO'.out _ hx20 (HZ.out.2.1.grown hg20 HZ.out.2.1.size (fun k hk => by cases hk; exact Nat.le_refl _)))
        | true =>
          go_wp2_with (refine wpLdBg (by rfl) _ rfl rfl HXB.out hlB ?_)
          refine HRB.out.mono ?_; rintro e w16 ⟨rfl, hb16⟩
          have HZ6 := Lib.hid (And.intro (HZ.out.1.below hb16) (And.intro (HZ.out.2.1.trans (hb16.mono HZ.out.2.1.size)) HZ.out.2.2))
          have HXB6 := Lib.hid (HXB.out.below hb16)
          have HFV6 := Lib.hid (own_keep HFV.out hb16)
          have HAV6 := Lib.hid (row_keepA HAV.out hb16)
          clear hb16 HZ HXB HFV HAV
          cases hrb : rightB bb with
          | false =>
            have hO : OK = false := by rw [HOK.out.1, hrb]; rfl
            have HNO' := Lib.hid (HNO.out hO)
            clear hO hrb
            go_wp2_with (refine wpStB (b := zB) (fv := NS) (av := NS) rfl _ _ rfl rfl rfl HZ6.out.1 zB_len zB_len rfl rfl ?_; intro w20 hx20 hg20)
            exact bodyPost_ret (resB2 Tryz.results92 rfl (loadVarB hx20 zB_len)) rfl (HNO'.out _ hx20 (HZ6.out.2.1.grown hg20 HZ6.out.2.1.size (fun k hk => by cases hk; exact Nat.le_refl _)))
          | true =>
            have hO : OK = true := by rw [HOK.out.1, hrb]; rfl
            have HCC : Hid (bb = CC ∧ (0 : Int) = cd) := Lib.hid ⟨by rw [HOK.out.2, hO]; rfl, by rw [HCD.out, hO]; rfl⟩
            clear hO hrb
            go_wp2_with (first
              | (refine wpLdB rfl _ rfl rfl HXB6.out hlB ?_)
              | (refine wpStB (b := bb) rfl _ _ rfl rfl rfl HZ6.out.1 zB_len hlB rfl rfl ?_; intro w20 hx20 hg20))
            refine bodyPost_ret (resB2 Tryz.results92 rfl (loadVarB hx20 hlB)) rfl ⟨.slice fo fn fc, .slice ao an ac, by rw [← HCC.out.1, ← HCC.out.2]; rfl, ?_⟩
            rw [← HCC.out.1]
            exact ⟨own_le (own_grown HFV6.out hg20 (by have := HZ6.out.2.2; omega)) (by have := HZ6.out.2.2; omega), own_le (own_grown HAV6.out hg20 (by have := HZ6.out.2.2; omega)) (by have := HZ6.out.2.2; omega), HZ6.out.2.1.grown hg20 HZ6.out.2.1.size (fun k hk => by cases hk; exact Nat.le_refl _)⟩
end
end Go.Proofs.YtiifbhiodegipaaGreatDoor
