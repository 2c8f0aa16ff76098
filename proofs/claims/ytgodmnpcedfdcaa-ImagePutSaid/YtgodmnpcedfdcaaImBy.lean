/- Lists of bytes: what is read of bytes that were put, and the other way round. -/
import Derived.Test.YtgodmnpcedfdcaaJIm
import Derived.Lib.ConvBytes
namespace Go.Proofs.Ytgodmnpcedfdcaa
open Go.RowKit
abbrev rest (s p : ByteArray) : ByteArray := ⟨(Lib.trimPrefix s.data.toList p.data.toList).toArray⟩
abbrev starts (s p : ByteArray) : Bool := Lib.hasPrefix s.data.toList p.data.toList
theorem rest_size (s p : ByteArray) : (rest s p).size ≤ s.size := by
  have h : (Lib.trimPrefix s.data.toList p.data.toList).length ≤ s.data.toList.length := by
    unfold Lib.trimPrefix
    split
    · rw [List.length_drop]; omega
    · exact Nat.le_refl _
  have e1 : (rest s p).size = (Lib.trimPrefix s.data.toList p.data.toList).length := List.size_toArray
  have e2 : s.data.toList.length = s.size := Array.length_toList
  rw [e1]; omega
theorem bytes_below (w : World) (e : TypeId) (s : ByteArray) : Below w.heap.size w (Lib.bytesWorld w e s) :=
  ⟨rfl, rfl, rfl, by rw [Lib.bytesWorld_size]; omega, fun k hk => Lib.bytesWorld_at_old w e s k hk⟩
theorem bytes_sees (w : World) (s : ByteArray) : Sees (Lib.bytesWorld w 5 s) (.slice (some ⟨w.heap.size, 0, none⟩) s.size (grownCap w s.size 0 5)) (strI s) := by
  refine ⟨some ⟨w.heap.size, 0, none⟩, grownCap w s.size 0 5, by rw [strI_length], by rw [strI_length]; exact grownCap_ge w s.size 0 5, (fun h => by cases h), fun a ha i hi => ?_⟩
  cases ha
  rw [strI_length] at hi
  rw [add0, Lib.bytesWorld_cell w _ s i hi]
  have hl : i < s.data.toList.length := by rw [Array.length_toList]; exact hi
  unfold strI
  simp [List.getD, List.getElem?_eq_getElem hl]
theorem okB_strI (s : ByteArray) : okB (strI s) := fun x hx => by
  unfold strI at hx
  obtain ⟨b, _, rfl⟩ := List.mem_map.1 hx
  have := b.toNat_lt
  omega
theorem numBytes_add (m c : Int) (n : Nat) : ∀ k, k ≤ n → numBytes (m + c * 256 ^ n) k = numBytes m k
  | 0, _ => rfl
  | k + 1, h => by
    have ih := numBytes_add m c n k (by omega)
    have e : (256 : Int) ^ n = 256 ^ (n - k - 1) * 256 * 256 ^ k := by
      rw [← Int.pow_succ, ← Int.pow_add]; congr 1; omega
    have h2 : (m + c * 256 ^ n) / 256 ^ k % 256 = m / 256 ^ k % 256 := by
      rw [e, ← Int.mul_assoc, Int.add_mul_ediv_right _ _ (Int.ne_of_gt (Int.pow_pos (by omega))), ← Int.mul_assoc, Int.add_mul_emod_self_right]
    show _ :: _ = _ :: _
    rw [h2, ih]
theorem numBE_fold : ∀ (l : List Int) (a : Int), l.foldl (fun n c => n * 256 + c) a = a * 256 ^ l.length + numBE l
  | [], a => by simp [numBE]
  | c :: l, a => by
    have h1 := numBE_fold l (a * 256 + c)
    have h2 := numBE_fold l (0 * 256 + c)
    have h3 : numBE (c :: l) = l.foldl (fun n c => n * 256 + c) (0 * 256 + c) := rfl
    rw [List.foldl_cons, h1, h3, h2, List.length_cons, Int.pow_succ]
    grind
theorem numBytes_back : ∀ l : List Int, okB l → numBytes (numBE l) l.length = l
  | [], _ => rfl
  | c :: l, h => by
    have hc := h c (by simp)
    have hl : okB l := fun x hx => h x (by simp [hx])
    have ih := numBytes_back l hl
    have e : numBE (c :: l) = numBE l + c * 256 ^ l.length := by
      have := numBE_fold l (0 * 256 + c)
      show l.foldl (fun n c => n * 256 + c) (0 * 256 + c) = _
      rw [this]; grind
    obtain ⟨b0, b1⟩ := numBE_bd l hl
    rw [e, List.length_cons]
    show (numBE l + c * 256 ^ l.length) / 256 ^ l.length % 256 :: numBytes (numBE l + c * 256 ^ l.length) l.length = c :: l
    rw [numBytes_add _ _ _ _ (Nat.le_refl _), ih, Int.add_mul_ediv_right _ _ (Int.ne_of_gt (Int.pow_pos (by omega))), Int.ediv_eq_zero_of_lt b0 b1]
    congr 1
    omega
theorem rdB_back {st : Option (List Int)} {n : Int} {l' : List Int} (h : (rdB st n).2 = some l') : ∃ l, st = some l ∧ l = (rdB st n).1 ++ l' ∧ ((rdB st n).1.length : Int) = n := by
  cases st with
  | none => cases h
  | some l =>
    refine ⟨l, rfl, ?_⟩
    by_cases hc : 0 ≤ n ∧ n ≤ l.length
    · have e : rdB (some l) n = (l.take n.toNat, some (l.drop n.toNat)) := by unfold rdB; exact if_pos hc
      rw [e] at h ⊢
      obtain rfl := Option.some.inj h
      refine ⟨(List.take_append_drop _ _).symm, ?_⟩
      rw [List.length_take]
      omega
    · have e : rdB (some l) n = ([], none) := by unfold rdB; exact if_neg hc
      rw [e] at h
      cases h
theorem rdU_back {st : Option (List Int)} {k : Int} {l' : List Int} (hok : okB (st.getD [])) (h : (rdU st k).2 = some l') (hk : wOk k = true) : ∃ l, st = some l ∧ l = putL (rdU st k).1 k ++ l' ∧ okB l' ∧ 0 ≤ (rdU st k).1 ∧ (rdU st k).1 < 256 ^ k.toNat := by
  unfold rdU at h ⊢
  rw [if_pos hk] at h ⊢
  obtain ⟨l, rfl, e, hn⟩ := rdB_back h
  have ho := rdB_ok hok k
  have ho' : okB l' := fun x hx => hok x (by show x ∈ l; rw [e]; exact List.mem_append_right _ hx)
  have hb := numBE_bd _ ho
  have hlen : (rdB (some l) k).1.length = k.toNat := by omega
  refine ⟨l, rfl, ?_, ho', hb.1, by rw [← hlen]; exact hb.2⟩
  unfold putL
  rw [if_pos hk, ← hlen, numBytes_back _ ho]
  exact e
theorem strNums_size (l : List Int) : (strOfNums l).size = l.length := by
  unfold strOfNums ByteArray.size
  simp

theorem strOf_strI (s : ByteArray) : strOfNums (strI s) = s := by
  apply ByteArray.ext
  unfold strOfNums strI
  simp only [List.map_map]
  rw [show ((fun n : Int => UInt8.ofNat n.toNat) ∘ fun b : UInt8 => (b.toNat : Int)) = id from funext fun b => by simp]
  simp
theorem rd_ahead (a b : List Int) : rdB (some (a ++ b)) a.length = (a, some b) := by
  rw [rdB_yes (by simp)]
  simp
theorem rd_put {n k : Int} (b : List Int) (hk : wOk k = true) : rdU (some (putL n k ++ b)) k = (numBE (putL n k), some b) := by
  have e : (putL n k).length = k.toNat := by unfold putL; rw [if_pos hk, numBytes_length]
  have h1 := of_decide_eq_true hk
  unfold rdU
  have h2 := rd_ahead (putL n k) b
  rw [e, show ((k.toNat : Nat) : Int) = k from by omega] at h2
  rw [if_pos hk, h2]

theorem numBE_put4' {n : Int} (h : 0 ≤ n ∧ n < 4294967296) : numBE (putL n 4) = n := by
  show numBE (numBytes n 4) = n
  simp only [numBytes, numBE, List.foldl_cons, List.foldl_nil]
  simp
  omega
theorem doneB_some {st : Option (List Int)} (h : doneB st = true) : st = some [] := by
  unfold doneB at h
  cases st with
  | none => cases h
  | some l =>
    cases l with
    | nil => rfl
    | cons a t =>
      simp at h
      omega
theorem strI_cons {s : ByteArray} {c : UInt8} (h : starts s ⟨#[c]⟩ = true) : strI s = (c.toNat : Int) :: strI (rest s ⟨#[c]⟩) := by
  have h1 : Lib.hasPrefix s.data.toList [c] = true := h
  obtain ⟨t, ht⟩ := List.isPrefixOf_iff_prefix.1 (show [c].isPrefixOf s.data.toList = true from h1)
  have h2 : (rest s ⟨#[c]⟩).data.toList = t := by
    show Lib.trimPrefix s.data.toList [c] = t
    unfold Lib.trimPrefix
    rw [if_pos h1, ← ht]
    rfl
  unfold strI
  rw [h2, ← ht]
  rfl
theorem str_eq {s : ByteArray} {l : List Int} (h : strI s = l) : strOfNums l = s := by rw [← h, strOf_strI]
theorem wOk1 : wOk 1 = true := rfl
theorem wOk4 : wOk 4 = true := rfl
theorem starts_cons (c : Int) (_ : 0 ≤ c ∧ c ≤ 255) (l : List Int) (hl : okB l) : starts (strOfNums (c :: l)) ⟨#[UInt8.ofNat c.toNat]⟩ = true ∧ strI (rest (strOfNums (c :: l)) ⟨#[UInt8.ofNat c.toNat]⟩) = l := by
  have hd : (strOfNums (c :: l)).data.toList = UInt8.ofNat c.toNat :: l.map (fun n => UInt8.ofNat n.toNat) := rfl
  have h1 : Lib.hasPrefix (strOfNums (c :: l)).data.toList [UInt8.ofNat c.toNat] = true := by
    unfold Lib.hasPrefix
    rw [hd]
    simp
  refine ⟨h1, ?_⟩
  have h2 : (rest (strOfNums (c :: l)) ⟨#[UInt8.ofNat c.toNat]⟩).data.toList = l.map (fun n => UInt8.ofNat n.toNat) := by
    show Lib.trimPrefix (strOfNums (c :: l)).data.toList [UInt8.ofNat c.toNat] = _
    unfold Lib.trimPrefix
    rw [if_pos h1, hd]
    rfl
  unfold strI
  rw [h2, List.map_map]
  have h3 : ∀ x ∈ l, ((fun b : UInt8 => (b.toNat : Int)) ∘ fun n : Int => UInt8.ofNat n.toNat) x = x := fun x hx => by
    have := hl x hx
    simp
    omega
  rw [List.map_congr_left h3, List.map_id']
theorem okB_app {a b : List Int} (ha : okB a) (hb : okB b) : okB (a ++ b) := fun x hx => (List.mem_append.1 hx).elim (ha x) (hb x)
theorem okB_numB (n : Int) : ∀ k, okB (numBytes n k)
  | 0 => fun x hx => by cases hx
  | k + 1 => fun x hx => by
    rcases List.mem_cons.1 hx with rfl | hx
    · omega
    · exact okB_numB n k x hx
theorem okB_putL (n k : Int) : okB (putL n k) := by
  unfold putL
  split
  · exact okB_numB _ _
  · intro x hx; cases hx
theorem rdU_bd2 (st : Option (List Int)) (hst : okB (st.getD [])) (k : Int) (_ : 0 ≤ k) : 0 ≤ (rdU st k).1 ∧ (rdU st k).1 < 256 ^ k.toNat ∧ okB ((rdU st k).2.getD []) := by
  unfold rdU
  split
  · have h1 := numBE_bd _ (rdB_ok hst k)
    have h2 := rdB_len st k
    refine ⟨h1.1, Int.lt_of_lt_of_le h1.2 ?_, ?_⟩
    · have h3 : (rdB st k).1.length ≤ k.toNat := by omega
      have h4 : (256 : Nat) ^ (rdB st k).1.length ≤ 256 ^ k.toNat := Nat.pow_le_pow_right (by omega) h3
      have h5 : ((256 ^ (rdB st k).1.length : Nat) : Int) ≤ ((256 ^ k.toNat : Nat) : Int) := Int.ofNat_le.2 h4
      rw [Int.natCast_pow, Int.natCast_pow] at h5
      exact h5
    · unfold rdB
      cases st with
      | none => intro x hx; cases hx
      | some l =>
        simp only []
        split
        · exact okB.drop hst _
        · intro x hx; cases hx
  · refine ⟨Int.le_refl _, Int.pow_pos (by omega), ?_⟩
    intro x hx; cases hx
abbrev pB : ByteArray := ⟨#[66]⟩
theorem strI_of {t : List Int} (h : okB t) : strI (strOfNums t) = t := by
  unfold strI strOfNums
  simp only [List.map_map]
  refine (List.map_congr_left fun x hx => ?_).trans (List.map_id t)
  have := h x hx
  simp only [Function.comp, id]
  rw [UInt8.toNat_ofNat']
  omega
theorem rdU_one {x : Int} (h0 : 0 ≤ x) (h1 : x ≤ 255) (r : List Int) : rdU (some (x :: r)) 1 = (x, some r) := by
  have h := rd_put (n := x) r wOk1
  rw [imPutL_one x h0 h1] at h
  have e : numBE [x] = x := by simp [numBE]
  rw [e] at h
  exact h
theorem rdT_put {s : ByteArray} (hs : s.size ≤ 64) (r : List Int) : rdT (some (textL s ++ r)) = (strI s, some r) := by
  have h1 : rdU (some (textL s ++ r)) 1 = ((s.size : Int), some (strI s ++ r)) := rdU_one (by omega) (by omega) _
  unfold rdT
  rw [h1, if_pos (by simp only []; omega)]
  have h2 := rd_ahead (strI s) r
  rw [strI_length] at h2
  exact h2
theorem rdB_len' {st : Option (List Int)} {n : Int} : (rdB st n).2 = none → (rdB st n).1 = [] := by
  unfold rdB
  cases st with
  | none => intro _; rfl
  | some l =>
    simp only []
    split
    · intro h; cases h
    · intro _; rfl
theorem rdB_okr {st : Option (List Int)} (h : okB (st.getD [])) (n : Int) : okB ((rdB st n).2.getD []) := by
  unfold rdB
  cases st with
  | none => intro x hx; cases hx
  | some l =>
    simp only []
    split
    · exact okB.drop h _
    · intro x hx; cases hx
theorem rdT_bd {st : Option (List Int)} (h : okB (st.getD [])) : okB (rdT st).1 ∧ (rdT st).1.length ≤ 64 ∧ okB ((rdT st).2.getD []) := by
  obtain ⟨h0, h1, h2⟩ := rdU_bd2 st h 1 (by decide)
  unfold rdT
  split
  · rename_i h3
    refine ⟨rdB_ok h2 _, ?_, rdB_okr h2 _⟩
    have := rdB_len (rdU st 1).2 (rdU st 1).1
    omega
  · exact ⟨(fun x hx => by cases hx), Nat.zero_le _, (fun x hx => by cases hx)⟩
theorem rdT_back {st : Option (List Int)} {l' : List Int} (hok : okB (st.getD [])) (h : (rdT st).2 = some l') : ∃ l, st = some l ∧ l = textL (strOfNums (rdT st).1) ++ l' ∧ okB l' ∧ (strOfNums (rdT st).1).size ≤ 64 := by
  have hb := rdT_bd hok
  unfold rdT at h ⊢ hb
  by_cases hle : (rdU st 1).1 ≤ 64
  · rw [if_pos hle] at h hb ⊢
    obtain ⟨m, h1, h2, h3⟩ := rdB_back h
    obtain ⟨l, e1, e2, e3, e4, e5⟩ := rdU_back hok h1 wOk1
    refine ⟨l, e1, ?_, ?_, by rw [strOfNums_size]; exact hb.2.1⟩
    · have h4 : (rdU st 1).1 = ((rdB (rdU st 1).2 (rdU st 1).1).1.length : Int) := h3.symm
      rw [e2, imPutL_one _ e4 (by omega)]
      unfold textL
      rw [strOfNums_size, strI_of hb.1, ← h4, h2]
      simp
    · rw [h] at hb
      exact hb.2.2
  · rw [if_neg hle] at h
    cases h
def rdAs : Nat → Option (List Int) → List PA × Option (List Int)
  | 0, st => ([], st)
  | k + 1, st => ((strOfNums (rdT st).1, strOfNums (rdT (rdT st).2).1) :: (rdAs k (rdT (rdT st).2).2).1, (rdAs k (rdT (rdT st).2).2).2)
def rdFs : Nat → Option (List Int) → List Int × Option (List Int)
  | 0, st => ([], st)
  | k + 1, st => ((rdU st 1).1 :: (rdFs k (rdU st 1).2).1, (rdFs k (rdU st 1).2).2)
theorem rdAs_len : ∀ k st, (rdAs k st).1.length = k
  | 0, _ => rfl
  | k + 1, st => by rw [rdAs, List.length_cons, rdAs_len k]
theorem rdFs_len : ∀ k st, (rdFs k st).1.length = k
  | 0, _ => rfl
  | k + 1, st => by rw [rdFs, List.length_cons, rdFs_len k]
theorem rdAs_bd : ∀ (k : Nat) (st : Option (List Int)), okB (st.getD []) → (∀ p ∈ (rdAs k st).1, p.1.size ≤ 64 ∧ p.2.size ≤ 64) ∧ okB ((rdAs k st).2.getD [])
  | 0, st, h => ⟨(fun p hp => by cases hp), h⟩
  | k + 1, st, h => by
    have h1 := rdT_bd h
    have h2 := rdT_bd h1.2.2
    have ih := rdAs_bd k _ h2.2.2
    rw [rdAs]
    refine ⟨fun p hp => ?_, ih.2⟩
    rcases List.mem_cons.1 hp with rfl | hp
    · exact ⟨by rw [strOfNums_size]; exact h1.2.1, by rw [strOfNums_size]; exact h2.2.1⟩
    · exact ih.1 p hp
theorem rdFs_bd : ∀ (k : Nat) (st : Option (List Int)), okB (st.getD []) → okB (rdFs k st).1 ∧ okB ((rdFs k st).2.getD [])
  | 0, st, h => ⟨(fun p hp => by cases hp), h⟩
  | k + 1, st, h => by
    obtain ⟨h0, h1, h2⟩ := rdU_bd2 st h 1 (by decide)
    have ih := rdFs_bd k _ h2
    have h1 : (rdU st 1).1 < 256 := h1
    rw [rdFs]
    refine ⟨fun p hp => ?_, ih.2⟩
    rcases List.mem_cons.1 hp with rfl | hp
    · exact ⟨h0, by omega⟩
    · exact ih.1 p hp
theorem rdAs_put : ∀ (L : List PA) (r : List Int), (∀ p ∈ L, p.1.size ≤ 64 ∧ p.2.size ≤ 64) → rdAs L.length (some (L.flatMap attrL ++ r)) = (L, some r)
  | [], r, _ => rfl
  | p :: L, r, h => by
    have hp := h p (by simp)
    have ih := rdAs_put L r (fun q hq => h q (by simp [hq]))
    have e : (p :: L).flatMap attrL ++ r = textL p.1 ++ (textL p.2 ++ (L.flatMap attrL ++ r)) := by
      rw [List.flatMap_cons]; simp [attrL]
    rw [List.length_cons, e, rdAs, rdT_put hp.1]
    simp only []
    rw [rdT_put hp.2]
    simp only []
    rw [ih, strOf_strI, strOf_strI]
theorem rdFs_put : ∀ (L r : List Int), okB L → rdFs L.length (some (L ++ r)) = (L, some r)
  | [], r, _ => rfl
  | x :: L, r, h => by
    have hx := h x (by simp)
    have ih := rdFs_put L r (fun q hq => h q (by simp [hq]))
    rw [List.length_cons, List.cons_append, rdFs, rdU_one hx.1 hx.2]
    simp only []
    rw [ih]
theorem rdT_none : rdT none = ([], none) := by
  have h : (rdU none 1).2 = none := rfl
  unfold rdT
  split
  · rw [h]; rfl
  · rfl
theorem rdU1_none : (rdU none 1).2 = none := rfl
theorem rdAs_none : ∀ k, (rdAs k none).2 = none
  | 0 => rfl
  | k + 1 => by rw [rdAs, rdT_none]; simp only []; rw [rdT_none]; exact rdAs_none k
theorem rdFs_none : ∀ k, (rdFs k none).2 = none
  | 0 => rfl
  | k + 1 => by rw [rdFs, rdU1_none]; exact rdFs_none k
theorem rdAs_back : ∀ (k : Nat) (st : Option (List Int)) (l' : List Int), okB (st.getD []) → (rdAs k st).2 = some l' → ∃ l, st = some l ∧ l = (rdAs k st).1.flatMap attrL ++ l'
  | 0, st, l', _, h => ⟨l', h, rfl⟩
  | k + 1, st, l', hok, h => by
    rw [rdAs] at h ⊢
    simp only [] at h ⊢
    have h1 := rdT_bd hok
    have h2 := rdT_bd h1.2.2
    obtain ⟨l2, e1, e2⟩ := rdAs_back k _ l' h2.2.2 h
    obtain ⟨l1, e3, e4, -, -⟩ := rdT_back h1.2.2 e1
    obtain ⟨l0, e5, e6, -, -⟩ := rdT_back hok e3
    refine ⟨l0, e5, ?_⟩
    rw [e6, e4, e2, List.flatMap_cons]
    simp [attrL]
theorem rdFs_back : ∀ (k : Nat) (st : Option (List Int)) (l' : List Int), okB (st.getD []) → (rdFs k st).2 = some l' → ∃ l, st = some l ∧ l = (rdFs k st).1 ++ l'
  | 0, st, l', _, h => ⟨l', h, rfl⟩
  | k + 1, st, l', hok, h => by
    rw [rdFs] at h ⊢
    simp only [] at h ⊢
    obtain ⟨h0, h1, h2⟩ := rdU_bd2 st hok 1 (by decide)
    have h1 : (rdU st 1).1 < 256 := h1
    obtain ⟨l2, e1, e2⟩ := rdFs_back k _ l' h2 h
    obtain ⟨l0, e5, e6, -, -, -⟩ := rdU_back hok e1 wOk1
    refine ⟨l0, e5, ?_⟩
    rw [e6, imPutL_one _ h0 (by omega), e2]
    simp
/-- What is read of bytes, behind the sign. -/
def imRd (st : Option (List Int)) : BlkS × Option (List Int) :=
  (⟨(rdU st 4).1, strOfNums (rdT (rdU st 4).2).1,
    (rdFs 64 (rdAs (rdU (rdT (rdU st 4).2).2 1).1.toNat (rdU (rdT (rdU st 4).2).2 1).2).2).1,
    (rdFs (rdU (rdFs 64 (rdAs (rdU (rdT (rdU st 4).2).2 1).1.toNat (rdU (rdT (rdU st 4).2).2 1).2).2).2 1).1.toNat (rdU (rdFs 64 (rdAs (rdU (rdT (rdU st 4).2).2 1).1.toNat (rdU (rdT (rdU st 4).2).2 1).2).2).2 1).2).1,
    (rdAs (rdU (rdT (rdU st 4).2).2 1).1.toNat (rdU (rdT (rdU st 4).2).2 1).2).1⟩,
   (rdFs (rdU (rdFs 64 (rdAs (rdU (rdT (rdU st 4).2).2 1).1.toNat (rdU (rdT (rdU st 4).2).2 1).2).2).2 1).1.toNat (rdU (rdFs 64 (rdAs (rdU (rdT (rdU st 4).2).2 1).1.toNat (rdU (rdT (rdU st 4).2).2 1).2).2).2 1).2).2)
set_option maxRecDepth 100000 in
theorem imRd_wf (st : Option (List Int)) (h : okB (st.getD [])) : BWf (imRd st).1 ∧ (imRd st).1.free.length ≤ 255 ∧ (imRd st).1.attrs.length ≤ 255 := by
  obtain ⟨a0, a1, a2⟩ := rdU_bd2 st h 4 (by decide)
  have t := rdT_bd a2
  obtain ⟨n0, n1, n2⟩ := rdU_bd2 _ t.2.2 1 (by decide)
  have A := rdAs_bd (rdU (rdT (rdU st 4).2).2 1).1.toNat _ n2
  have S := rdFs_bd 64 _ A.2
  obtain ⟨m0, m1, m2⟩ := rdU_bd2 _ S.2 1 (by decide)
  have F := rdFs_bd (rdU (rdFs 64 (rdAs (rdU (rdT (rdU st 4).2).2 1).1.toNat (rdU (rdT (rdU st 4).2).2 1).2).2).2 1).1.toNat _ m2
  have c4 : (256 : Int) ^ (4 : Int).toNat = 4294967296 := by decide
  have c1 : (256 : Int) ^ (1 : Int).toNat = 256 := by decide
  rw [c4] at a1
  rw [c1] at n1 m1
  have hm : (64 : Nat) ≤ maxLen ∧ 255 ≤ maxLen := by unfold maxLen; omega
  refine ⟨⟨⟨a0, a1⟩, rdFs_len _ _, S.1, F.1, ?_, ?_, ?_, fun p hp => ?_⟩, ?_, ?_⟩
  · show (strOfNums (rdT (rdU st 4).2).1).size ≤ maxLen
    rw [strOfNums_size]; omega
  · show (rdFs _ _).1.length ≤ maxLen
    rw [rdFs_len]; omega
  · show (rdAs _ _).1.length ≤ maxLen
    rw [rdAs_len]; omega
  · have := A.1 p hp
    omega
  · show (rdFs _ _).1.length ≤ 255
    rw [rdFs_len]; omega
  · show (rdAs _ _).1.length ≤ 255
    rw [rdAs_len]; omega
/-- A block's bytes behind the sign. -/
def imT (b : BlkS) : List Int := putL b.addr 4 ++ (textL b.aff ++ ((b.attrs.length : Int) :: (b.attrs.flatMap attrL ++ (b.sl ++ ((b.free.length : Int) :: (b.free ++ []))))))
theorem imB_cons (b : BlkS) : imB b = 66 :: imT b := by unfold imB imH imT; simp
set_option maxRecDepth 100000 in
theorem imRd_put {b : BlkS} (hw : BWf b) (hr : rightB b = true) : imRd (some (imT b)) = (b, some []) := by
  have hl := hw.2.1
  have hown := ((right_iff b hl).1 hr).2.1
  have hal := ((right_iff b hl).1 hr).2.2.1
  have hfl := (right_free hr).2.2
  have hm := right_may hl hr
  have c4 : rdU (some (imT b)) 4 = (b.addr, some (textL b.aff ++ ((b.attrs.length : Int) :: (b.attrs.flatMap attrL ++ (b.sl ++ ((b.free.length : Int) :: (b.free ++ []))))))) := by
    unfold imT
    rw [rd_put _ wOk4, numBE_put4' hw.1]
  have cT := rdT_put (ownB_size hown) ((b.attrs.length : Int) :: (b.attrs.flatMap attrL ++ (b.sl ++ ((b.free.length : Int) :: (b.free ++ [])))))
  have cN := rdU_one (x := (b.attrs.length : Int)) (by omega) (by omega) (b.attrs.flatMap attrL ++ (b.sl ++ ((b.free.length : Int) :: (b.free ++ []))))
  have cA := rdAs_put b.attrs (b.sl ++ ((b.free.length : Int) :: (b.free ++ []))) (fun p hp => by have := attrL_bd (hm p hp); omega)
  have cS := rdFs_put b.sl ((b.free.length : Int) :: (b.free ++ [])) hw.2.2.1
  rw [hl] at cS
  have cM := rdU_one (x := (b.free.length : Int)) (by omega) (by omega) (b.free ++ [])
  have cF := rdFs_put b.free [] hw.2.2.2.1
  unfold imRd
  simp only [c4, cT, cN, Int.toNat_natCast, cA, cS, cM, cF, strOf_strI]
set_option maxRecDepth 100000 in
theorem imRd_back {l : List Int} (hok : okB l) (h : (imRd (some l)).2 = some []) (_ : rightB (imRd (some l)).1 = true) : 66 :: l = imB (imRd (some l)).1 := by
  rw [imB_cons]
  congr 1
  obtain ⟨a0, a1, a2⟩ := rdU_bd2 (some l) hok 4 (by decide)
  have t := rdT_bd a2
  obtain ⟨n0, n1, n2⟩ := rdU_bd2 _ t.2.2 1 (by decide)
  have A := rdAs_bd (rdU (rdT (rdU (some l) 4).2).2 1).1.toNat _ n2
  have S := rdFs_bd 64 _ A.2
  obtain ⟨m0, m1, m2⟩ := rdU_bd2 _ S.2 1 (by decide)
  have c1 : (256 : Int) ^ (1 : Int).toNat = 256 := by decide
  rw [c1] at n1 m1
  have lA := rdAs_len (rdU (rdT (rdU (some l) 4).2).2 1).1.toNat (rdU (rdT (rdU (some l) 4).2).2 1).2
  have lF := rdFs_len (rdU (rdFs 64 (rdAs (rdU (rdT (rdU (some l) 4).2).2 1).1.toNat (rdU (rdT (rdU (some l) 4).2).2 1).2).2).2 1).1.toNat (rdU (rdFs 64 (rdAs (rdU (rdT (rdU (some l) 4).2).2 1).1.toNat (rdU (rdT (rdU (some l) 4).2).2 1).2).2).2 1).2
  unfold imRd at h ⊢
  simp only [] at h ⊢
  obtain ⟨l6, e6, f6⟩ := rdFs_back _ _ _ m2 h
  obtain ⟨l5, e5, f5, -, -, -⟩ := rdU_back S.2 e6 wOk1
  obtain ⟨l4, e4, f4⟩ := rdFs_back _ _ _ A.2 e5
  obtain ⟨l3, e3, f3⟩ := rdAs_back _ _ _ n2 e4
  obtain ⟨l2, e2, f2, -, -, -⟩ := rdU_back t.2.2 e3 wOk1
  obtain ⟨l1, e1, f1, -, -⟩ := rdT_back a2 e2
  obtain ⟨l0, e0, f0, -, -, -⟩ := rdU_back (st := some l) hok e1 wOk4
  have e0 := Option.some.inj e0
  clear e1 e2 e3 e4 e5 e6 h a2 t A S m2 n2
  generalize rdU (some l) 4 = ra at *
  generalize rdT ra.2 = rt at *
  generalize rdU rt.2 1 = rn at *
  generalize rdAs rn.1.toNat rn.2 = rA at *
  generalize rdFs 64 rA.2 = rS at *
  generalize rdU rS.2 1 = rm at *
  generalize rdFs rm.1.toNat rm.2 = rF at *
  have hn : (rA.1.length : Int) = rn.1 := by rw [lA, Int.toNat_of_nonneg n0]
  have hm : (rF.1.length : Int) = rm.1 := by rw [lF, Int.toNat_of_nonneg m0]
  rw [imPutL_one _ n0 (by omega)] at f2
  rw [imPutL_one _ m0 (by omega)] at f5
  unfold imT
  simp only []
  rw [e0, f0, f1, f2, f3, f4, f5, f6, hn, hm]
  simp
end Go.Proofs.Ytgodmnpcedfdcaa
