/- Package handle: what is read of bytes is just those that were put: lists of bytes. -/
import Derived.Test.YtcgkambkfaeceaaHnRefD
import Derived.Lib.ConvBytes
namespace Go.Proofs.Ytcgkambkfaeceaa
open Go.RowKit
abbrev rest (s p : ByteArray) : ByteArray := ⟨(Lib.trimPrefix s.data.toList p.data.toList).toArray⟩
abbrev starts (s p : ByteArray) : Bool := Lib.hasPrefix s.data.toList p.data.toList
abbrev em : ByteArray := ⟨#[]⟩
theorem rest_size (s p : ByteArray) : (rest s p).size ≤ s.size := by
  have h : (Lib.trimPrefix s.data.toList p.data.toList).length ≤ s.data.toList.length := by
    unfold Lib.trimPrefix
    split
    · rw [List.length_drop]; omega
    · exact Nat.le_refl _
  have e1 : (rest s p).size = (Lib.trimPrefix s.data.toList p.data.toList).length := List.size_toArray
  have e2 : s.data.toList.length = s.size := Array.length_toList
  rw [e1]; omega
theorem bytes_below (w : World) (e : TypeId) (s : ByteArray) : Below w.heap.size w (Lib.bytesWorld w e s) :=
  ⟨rfl, rfl, rfl, by rw [Lib.bytesWorld_size]; omega, fun k hk => Lib.bytesWorld_at_old w e s k hk⟩
theorem bytes_sees (w : World) (s : ByteArray) : Sees (Lib.bytesWorld w 5 s) (.slice (some ⟨w.heap.size, 0, none⟩) s.size (grownCap w s.size 0 5)) (strI s) := by
  refine ⟨some ⟨w.heap.size, 0, none⟩, grownCap w s.size 0 5, by rw [strI_length], by rw [strI_length]; exact grownCap_ge w s.size 0 5, (fun h => by cases h), fun a ha i hi => ?_⟩
  cases ha
  rw [strI_length] at hi
  rw [add0, Lib.bytesWorld_cell w _ s i hi]
  have hl : i < s.data.toList.length := by rw [Array.length_toList]; exact hi
  unfold strI
  simp [List.getD, List.getElem?_eq_getElem hl]
theorem okB_strI (s : ByteArray) : okB (strI s) := fun x hx => by
  unfold strI at hx
  obtain ⟨b, _, rfl⟩ := List.mem_map.1 hx
  have := b.toNat_lt
  omega
theorem numBytes_add (m c : Int) (n : Nat) : ∀ k, k ≤ n → numBytes (m + c * 256 ^ n) k = numBytes m k
  | 0, _ => rfl
  | k + 1, h => by
    have ih := numBytes_add m c n k (by omega)
    have e : (256 : Int) ^ n = 256 ^ (n - k - 1) * 256 * 256 ^ k := by
      rw [← Int.pow_succ, ← Int.pow_add]; congr 1; omega
    have h2 : (m + c * 256 ^ n) / 256 ^ k % 256 = m / 256 ^ k % 256 := by
      rw [e, ← Int.mul_assoc, Int.add_mul_ediv_right _ _ (Int.ne_of_gt (Int.pow_pos (by omega))), ← Int.mul_assoc, Int.add_mul_emod_self_right]
    show _ :: _ = _ :: _
    rw [h2, ih]
theorem numBE_fold : ∀ (l : List Int) (a : Int), l.foldl (fun n c => n * 256 + c) a = a * 256 ^ l.length + numBE l
  | [], a => by simp [numBE]
  | c :: l, a => by
    have h1 := numBE_fold l (a * 256 + c)
    have h2 := numBE_fold l (0 * 256 + c)
    have h3 : numBE (c :: l) = l.foldl (fun n c => n * 256 + c) (0 * 256 + c) := rfl
    rw [List.foldl_cons, h1, h3, h2, List.length_cons, Int.pow_succ]
    grind
theorem numBytes_back : ∀ l : List Int, okB l → numBytes (numBE l) l.length = l
  | [], _ => rfl
  | c :: l, h => by
    have hc := h c (by simp)
    have hl : okB l := fun x hx => h x (by simp [hx])
    have ih := numBytes_back l hl
    have e : numBE (c :: l) = numBE l + c * 256 ^ l.length := by
      have := numBE_fold l (0 * 256 + c)
      show l.foldl (fun n c => n * 256 + c) (0 * 256 + c) = _
      rw [this]; grind
    obtain ⟨b0, b1⟩ := numBE_bd l hl
    rw [e, List.length_cons]
    show (numBE l + c * 256 ^ l.length) / 256 ^ l.length % 256 :: numBytes (numBE l + c * 256 ^ l.length) l.length = c :: l
    rw [numBytes_add _ _ _ _ (Nat.le_refl _), ih, Int.add_mul_ediv_right _ _ (Int.ne_of_gt (Int.pow_pos (by omega))), Int.ediv_eq_zero_of_lt b0 b1]
    congr 1
    omega
theorem rdB_back {st : Option (List Int)} {n : Int} {l' : List Int} (h : (rdB st n).2 = some l') : ∃ l, st = some l ∧ l = (rdB st n).1 ++ l' ∧ ((rdB st n).1.length : Int) = n := by
  cases st with
  | none => cases h
  | some l =>
    refine ⟨l, rfl, ?_⟩
    by_cases hc : 0 ≤ n ∧ n ≤ l.length
    · have e : rdB (some l) n = (l.take n.toNat, some (l.drop n.toNat)) := by unfold rdB; exact if_pos hc
      rw [e] at h ⊢
      obtain rfl := Option.some.inj h
      refine ⟨(List.take_append_drop _ _).symm, ?_⟩
      rw [List.length_take]
      omega
    · have e : rdB (some l) n = ([], none) := by unfold rdB; exact if_neg hc
      rw [e] at h
      cases h
theorem rdU_back {st : Option (List Int)} {k : Int} {l' : List Int} (hok : okB (st.getD [])) (h : (rdU st k).2 = some l') (hk : wOk k = true) : ∃ l, st = some l ∧ l = putL (rdU st k).1 k ++ l' ∧ okB l' ∧ 0 ≤ (rdU st k).1 ∧ (rdU st k).1 < 256 ^ k.toNat := by
  unfold rdU at h ⊢
  rw [if_pos hk] at h ⊢
  obtain ⟨l, rfl, e, hn⟩ := rdB_back h
  have ho := rdB_ok hok k
  have ho' : okB l' := fun x hx => hok x (by show x ∈ l; rw [e]; exact List.mem_append_right _ hx)
  have hb := numBE_bd _ ho
  have hlen : (rdB (some l) k).1.length = k.toNat := by omega
  refine ⟨l, rfl, ?_, ho', hb.1, by rw [← hlen]; exact hb.2⟩
  unfold putL
  rw [if_pos hk, ← hlen, numBytes_back _ ho]
  exact e
theorem strNums_size (l : List Int) : (strOfNums l).size = l.length := by
  unfold strOfNums ByteArray.size
  simp

theorem strOf_strI (s : ByteArray) : strOfNums (strI s) = s := by
  apply ByteArray.ext
  unfold strOfNums strI
  simp only [List.map_map]
  rw [show ((fun n : Int => UInt8.ofNat n.toNat) ∘ fun b : UInt8 => (b.toNat : Int)) = id from funext fun b => by simp]
  simp
theorem rd_ahead (a b : List Int) : rdB (some (a ++ b)) a.length = (a, some b) := by
  rw [rdB_yes (by simp)]
  simp
theorem rd_put {n k : Int} (b : List Int) (hk : wOk k = true) : rdU (some (putL n k ++ b)) k = (numBE (putL n k), some b) := by
  have e : (putL n k).length = k.toNat := by unfold putL; rw [if_pos hk, numBytes_length]
  have h1 := of_decide_eq_true hk
  unfold rdU
  have h2 := rd_ahead (putL n k) b
  rw [e, show ((k.toNat : Nat) : Int) = k from by omega] at h2
  rw [if_pos hk, h2]

theorem numBE_put4' {n : Int} (h : 0 ≤ n ∧ n < 4294967296) : numBE (putL n 4) = n := by
  show numBE (numBytes n 4) = n
  simp only [numBytes, numBE, List.foldl_cons, List.foldl_nil]
  simp
  omega
theorem doneB_some {st : Option (List Int)} (h : doneB st = true) : st = some [] := by
  unfold doneB at h
  cases st with
  | none => cases h
  | some l =>
    cases l with
    | nil => rfl
    | cons a t =>
      simp at h
      omega
theorem strI_cons {s : ByteArray} {c : UInt8} (h : starts s ⟨#[c]⟩ = true) : strI s = (c.toNat : Int) :: strI (rest s ⟨#[c]⟩) := by
  have h1 : Lib.hasPrefix s.data.toList [c] = true := h
  obtain ⟨t, ht⟩ := List.isPrefixOf_iff_prefix.1 (show [c].isPrefixOf s.data.toList = true from h1)
  have h2 : (rest s ⟨#[c]⟩).data.toList = t := by
    show Lib.trimPrefix s.data.toList [c] = t
    unfold Lib.trimPrefix
    rw [if_pos h1, ← ht]
    rfl
  unfold strI
  rw [h2, ← ht]
  rfl
theorem str_eq {s : ByteArray} {l : List Int} (h : strI s = l) : strOfNums l = s := by rw [← h, strOf_strI]
theorem wOk1 : wOk 1 = true := rfl
theorem wOk4 : wOk 4 = true := rfl
theorem starts_cons (c : Int) (hc : 0 ≤ c ∧ c ≤ 255) (l : List Int) (hl : okB l) : starts (strOfNums (c :: l)) ⟨#[UInt8.ofNat c.toNat]⟩ = true ∧ strI (rest (strOfNums (c :: l)) ⟨#[UInt8.ofNat c.toNat]⟩) = l := by
  have hd : (strOfNums (c :: l)).data.toList = UInt8.ofNat c.toNat :: l.map (fun n => UInt8.ofNat n.toNat) := rfl
  have h1 : Lib.hasPrefix (strOfNums (c :: l)).data.toList [UInt8.ofNat c.toNat] = true := by
    unfold Lib.hasPrefix
    rw [hd]
    simp
  refine ⟨h1, ?_⟩
  have h2 : (rest (strOfNums (c :: l)) ⟨#[UInt8.ofNat c.toNat]⟩).data.toList = l.map (fun n => UInt8.ofNat n.toNat) := by
    show Lib.trimPrefix (strOfNums (c :: l)).data.toList [UInt8.ofNat c.toNat] = _
    unfold Lib.trimPrefix
    rw [if_pos h1, hd]
    rfl
  unfold strI
  rw [h2, List.map_map]
  have h3 : ∀ x ∈ l, ((fun b : UInt8 => (b.toNat : Int)) ∘ fun n : Int => UInt8.ofNat n.toNat) x = x := fun x hx => by
    have := hl x hx
    simp
    omega
  rw [List.map_congr_left h3, List.map_id']
theorem okB_app {a b : List Int} (ha : okB a) (hb : okB b) : okB (a ++ b) := fun x hx => (List.mem_append.1 hx).elim (ha x) (hb x)
theorem okB_numB (n : Int) : ∀ k, okB (numBytes n k)
  | 0 => fun x hx => by cases hx
  | k + 1 => fun x hx => by
    rcases List.mem_cons.1 hx with rfl | hx
    · omega
    · exact okB_numB n k x hx
theorem okB_putL (n k : Int) : okB (putL n k) := by
  unfold putL
  split
  · exact okB_numB _ _
  · intro x hx; cases hx
abbrev pH : ByteArray := ⟨#[72]⟩
theorem numBE_put2' {n : Int} (h : 0 ≤ n ∧ n < 65536) : numBE (putL n 2) = n := by
  have e : putL n 2 = [n / 256 % 256, n % 256] := by
    unfold putL
    rw [if_pos (by decide)]
    simp [numBytes]
  rw [e]
  simp [numBE]
  omega
theorem wOk2 : wOk 2 = true := rfl
/-- The counts that are read of bytes, so many at the most; what is left. -/
def rdC : Nat → Option (List Int) → CntL × Option (List Int)
  | 0, st => ([], st)
  | _ + 1, none => ([], none)
  | k + 1, some l => (((rdU (some l) 4).1, (rdU (rdU (some l) 4).2 2).1) :: (rdC k (rdU (rdU (some l) 4).2 2).2).1, (rdC k (rdU (rdU (some l) 4).2 2).2).2)
theorem rdC_none (k : Nat) : rdC k none = ([], none) := by cases k <;> rfl
theorem rdU_short {l : List Int} {k : Int} (hk : wOk k = true) (h : (l.length : Int) < k) : (rdU (some l) k).2 = none := by
  unfold rdU
  rw [if_pos hk, rdB_no (by simp; omega)]
theorem rdU_left {l : List Int} {k : Int} (hk : wOk k = true) (h : k ≤ (l.length : Int)) : (rdU (some l) k).2 = some (l.drop k.toNat) := by
  have h1 := of_decide_eq_true hk
  unfold rdU rdB
  rw [if_pos hk]
  simp only []
  rw [if_pos ⟨by omega, h⟩]
theorem rdU_none (k : Int) : (rdU none k).2 = none := by
  unfold rdU rdB
  split <;> rfl
theorem rdC_len : ∀ (k : Nat) (st : Option (List Int)), (rdC k st).1.length * 6 ≤ (st.getD []).length + 6
  | 0, st => by simp [rdC]
  | k + 1, none => by simp [rdC]
  | k + 1, some l => by
    have ih := rdC_len k (rdU (rdU (some l) 4).2 2).2
    have e : (rdC (k + 1) (some l)).1.length = (rdC k (rdU (rdU (some l) 4).2 2).2).1.length + 1 := rfl
    rw [e]
    by_cases h4 : (4 : Int) ≤ (l.length : Int)
    · rw [rdU_left wOk4 h4] at ih ⊢
      by_cases h2 : (2 : Int) ≤ ((l.drop (4 : Int).toNat).length : Int)
      · rw [rdU_left wOk2 h2] at ih ⊢
        have t4 : (4 : Int).toNat = 4 := rfl
        have t2 : (2 : Int).toNat = 2 := rfl
        simp only [Option.getD_some, List.length_drop, t4, t2] at ih h2 ⊢
        omega
      · rw [rdU_short wOk2 (by omega), rdC_none] at ih ⊢
        simp
    · rw [rdU_short wOk4 (by omega), rdU_none, rdC_none] at ih ⊢
      simp
theorem rdC_back : ∀ (k : Nat) (st : Option (List Int)) (l' : List Int), okB (st.getD []) → (rdC k st).2 = some l' → ∃ l, st = some l ∧ l = (rdC k st).1.flatMap cnt8 ++ l' ∧ (rdC k st).1.length = k
  | 0, st, l', _, h => ⟨l', h, by simp [rdC], rfl⟩
  | k + 1, none, l', _, h => by cases h
  | k + 1, some l, l', hok, h => by
    have e1 : (rdC (k + 1) (some l)).1 = ((rdU (some l) 4).1, (rdU (rdU (some l) 4).2 2).1) :: (rdC k (rdU (rdU (some l) 4).2 2).2).1 := rfl
    have h0 : (rdC k (rdU (rdU (some l) 4).2 2).2).2 = some l' := h
    -- the bytes left behind the two numbers are there
    cases h4 : (rdU (some l) 4).2 with
    | none => rw [h4, rdU_none, rdC_none] at h0; cases h0
    | some m =>
      obtain ⟨x, hx, hxe, hxo, -, -⟩ := rdU_back hok h4 wOk4
      cases h2 : (rdU (some m) 2).2 with
      | none => rw [h4, h2, rdC_none] at h0; cases h0
      | some q =>
        obtain ⟨y, hy, hye, hyo, -, -⟩ := rdU_back (st := some m) hxo h2 wOk2
        rw [h4, h2] at h0
        obtain ⟨z, hz, hze, hzl⟩ := rdC_back k (some q) l' hyo h0
        cases hx; cases hy; cases hz
        have E : l = putL (rdU (some l) 4).1 4 ++ (putL (rdU (some m) 2).1 2 ++ ((rdC k (some q)).1.flatMap cnt8 ++ l')) := hxe.trans (congrArg _ (hye.trans (congrArg _ hze)))
        refine ⟨l, rfl, ?_, ?_⟩
        · rw [e1, h4, h2, List.flatMap_cons]
          exact E.trans (by simp [cnt8])
        · rw [e1, h4, h2, List.length_cons, hzl]
theorem rdC_put : ∀ (L : CntL) (r : List Int), (∀ p ∈ L, (0 ≤ p.1 ∧ p.1 < 4294967296) ∧ 0 ≤ p.2 ∧ p.2 < 65536) → rdC L.length (some (L.flatMap cnt8 ++ r)) = (L, some r)
  | [], r, _ => by simp [rdC]
  | p :: L, r, h => by
    obtain ⟨h1, h2⟩ := h p (by simp)
    have ih := rdC_put L r (fun q hq => h q (by simp [hq]))
    have e : (p :: L).flatMap cnt8 ++ r = putL p.1 4 ++ (putL p.2 2 ++ (L.flatMap cnt8 ++ r)) := by
      rw [List.flatMap_cons]; simp [cnt8]
    rw [List.length_cons, e, rdC, rd_put _ wOk4, rd_put _ wOk2, numBE_put4' h1, numBE_put2' h2, ih]
theorem rdU_bd2 (st : Option (List Int)) (hst : okB (st.getD [])) (k : Int) (_ : 0 ≤ k) : 0 ≤ (rdU st k).1 ∧ (rdU st k).1 < 256 ^ k.toNat ∧ okB ((rdU st k).2.getD []) := by
  unfold rdU
  split
  · have h1 := numBE_bd _ (rdB_ok hst k)
    have h2 := rdB_len st k
    refine ⟨h1.1, Int.lt_of_lt_of_le h1.2 ?_, ?_⟩
    · have h3 : (rdB st k).1.length ≤ k.toNat := by omega
      have h4 : (256 : Nat) ^ (rdB st k).1.length ≤ 256 ^ k.toNat := Nat.pow_le_pow_right (by omega) h3
      have h5 : ((256 ^ (rdB st k).1.length : Nat) : Int) ≤ ((256 ^ k.toNat : Nat) : Int) := Int.ofNat_le.2 h4
      rw [Int.natCast_pow, Int.natCast_pow] at h5
      exact h5
    · unfold rdB
      cases st with
      | none => intro x hx; cases hx
      | some l =>
        simp only []
        split
        · exact okB.drop hst _
        · intro x hx; cases hx
  · refine ⟨Int.le_refl _, Int.pow_pos (by omega), ?_⟩
    intro x hx; cases hx
theorem rdC_bd : ∀ (k : Nat) (st : Option (List Int)), okB (st.getD []) → ∀ p ∈ (rdC k st).1, (0 ≤ p.1 ∧ p.1 < 4294967296) ∧ 0 ≤ p.2 ∧ p.2 < 65536
  | 0, st, _, p, hp => by cases hp
  | k + 1, none, _, p, hp => by cases hp
  | k + 1, some l, hok, p, hp => by
    obtain ⟨a1, a2, a3⟩ := rdU_bd2 (some l) hok 4 (by decide)
    obtain ⟨b1, b2, b3⟩ := rdU_bd2 (rdU (some l) 4).2 a3 2 (by decide)
    rcases List.mem_cons.1 hp with rfl | hp
    · exact ⟨⟨a1, a2⟩, b1, b2⟩
    · exact rdC_bd k _ b3 p hp
end Go.Proofs.Ytcgkambkfaeceaa
