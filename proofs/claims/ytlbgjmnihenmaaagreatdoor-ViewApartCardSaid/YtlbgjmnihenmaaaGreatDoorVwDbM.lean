/- The document's view: a block that is read: what is read is what the program reads. -/
import Derived.Test.YtlbgjmnihenmaaaGreatDoorJIw
namespace Go.Proofs.YtlbgjmnihenmaaaGreatDoor
open Go.RowKit
def dAs : Nat → Option (List Int) → List PA × Option (List Int)
  | 0, st => ([], st)
  | _ + 1, none => ([], none)
  | k + 1, some l => ((strOfNums (rdT (some l)).1, strOfNums (rdT (rdT (some l)).2).1) :: (dAs k (rdT (rdT (some l)).2).2).1, (dAs k (rdT (rdT (some l)).2).2).2)
theorem dAs_eq : ∀ k st, (dAs k st).2 ≠ none → rdAs k st = dAs k st
  | 0, _, _ => rfl
  | k + 1, none, h => absurd rfl h
  | k + 1, some l, h => by
    rw [dAs] at h ⊢
    rw [rdAs, dAs_eq k _ h]
theorem dAs_eq2 : ∀ k st, (rdAs k st).2 ≠ none → dAs k st = rdAs k st
  | 0, _, _ => rfl
  | k + 1, none, h => absurd (rdAs_none (k + 1)) h
  | k + 1, some l, h => by
    rw [rdAs] at h ⊢
    rw [dAs, dAs_eq2 k _ h]
theorem rdU1_cons (x : Int) (l : List Int) : rdU (some (x :: l)) 1 = (x, some l) := by
  have h : (1 : Int) ≤ (l.length : Int) + 1 := by omega
  unfold rdU rdB
  simp [wOk, numBE, h]
theorem rdU1_nil : (rdU (some []) 1).2 = none := by
  unfold rdU rdB
  simp [wOk]
theorem rdFs_take : ∀ (k : Nat) (l : List Int), (rdFs k (some l)).2 ≠ none → rdFs k (some l) = (l.take k, some (l.drop k)) ∧ k ≤ l.length
  | 0, l, _ => by simp [rdFs]
  | k + 1, [], h => absurd (by rw [rdFs, rdU1_nil]; exact rdFs_none k) h
  | k + 1, x :: l, h => by
    rw [rdFs, rdU1_cons] at h ⊢
    obtain ⟨e, hl⟩ := rdFs_take k l h
    simp only [] at h ⊢
    rw [e]
    simp
    omega
theorem rdFs_yes : ∀ (k : Nat) (l : List Int), k ≤ l.length → rdFs k (some l) = (l.take k, some (l.drop k))
  | 0, l, _ => by simp [rdFs]
  | k + 1, [], h => by simp at h
  | k + 1, x :: l, h => by
    rw [rdFs, rdU1_cons]
    simp only []
    rw [rdFs_yes k l (by simpa using h)]
    simp
theorem rdB_nn {st : Option (List Int)} {n : Int} (h : (rdB st n).2 ≠ none) : ∃ l, st = some l ∧ 0 ≤ n ∧ n ≤ l.length ∧ rdB st n = (l.take n.toNat, some (l.drop n.toNat)) := by
  cases st with
  | none => exact absurd rfl h
  | some l =>
    by_cases hc : 0 ≤ n ∧ n ≤ l.length
    · exact ⟨l, rfl, hc.1, hc.2, by unfold rdB; exact if_pos hc⟩
    · exact absurd (by unfold rdB; simp only []; rw [if_neg hc]) h
theorem rdFs_eq2 {st : Option (List Int)} {n : Int} (h : (rdB st n).2 ≠ none) : rdFs n.toNat st = rdB st n := by
  obtain ⟨l, rfl, h0, h1, e⟩ := rdB_nn h
  rw [e, rdFs_yes _ _ (by omega)]
theorem rdFs_eq {st : Option (List Int)} {n : Int} (h0 : 0 ≤ n) (h : (rdFs n.toNat st).2 ≠ none) : rdB st n = rdFs n.toNat st := by
  cases st with
  | none => exact absurd (rdFs_none _) h
  | some l =>
    obtain ⟨e, hl⟩ := rdFs_take _ _ h
    rw [e]
    unfold rdB
    exact if_pos ⟨h0, by omega⟩
def dRd (st : Option (List Int)) : BlkS × Option (List Int) :=
  (⟨(rdU st 4).1, strOfNums (rdT (rdU st 4).2).1,
    (rdB (dAs (rdU (rdT (rdU st 4).2).2 1).1.toNat (rdU (rdT (rdU st 4).2).2 1).2).2 64).1,
    (rdB (rdU (rdB (dAs (rdU (rdT (rdU st 4).2).2 1).1.toNat (rdU (rdT (rdU st 4).2).2 1).2).2 64).2 1).2 (rdU (rdB (dAs (rdU (rdT (rdU st 4).2).2 1).1.toNat (rdU (rdT (rdU st 4).2).2 1).2).2 64).2 1).1).1,
    (dAs (rdU (rdT (rdU st 4).2).2 1).1.toNat (rdU (rdT (rdU st 4).2).2 1).2).1⟩,
   (rdB (rdU (rdB (dAs (rdU (rdT (rdU st 4).2).2 1).1.toNat (rdU (rdT (rdU st 4).2).2 1).2).2 64).2 1).2 (rdU (rdB (dAs (rdU (rdT (rdU st 4).2).2 1).1.toNat (rdU (rdT (rdU st 4).2).2 1).2).2 64).2 1).1).2)
theorem dRd_eq {st : Option (List Int)} (h : (dRd st).2 ≠ none) : imRd st = dRd st := by
  unfold dRd at h
  unfold imRd dRd
  simp only [] at h
  generalize rdT (rdU st 4).2 = t at h ⊢
  generalize rdU t.2 1 = n at h ⊢
  have h1 := rdFs_eq2 h
  have h2 : (rdB (dAs n.1.toNat n.2).2 64).2 ≠ none := fun e => by
    rw [e] at h
    exact h rfl
  have h3 := rdFs_eq2 h2
  have h4 : (dAs n.1.toNat n.2).2 ≠ none := fun e => by
    rw [e] at h2
    exact h2 rfl
  have h5 := dAs_eq _ _ h4
  rw [h5, show (64 : Nat) = (64 : Int).toNat from rfl, h3, h1]
theorem rdT_okr {st : Option (List Int)} (h : okB (st.getD [])) : okB ((rdT st).2.getD []) := by
  unfold rdT
  split
  · exact rdB_okr (rdU_bd2 st h 1 (by omega)).2.2 _
  · exact fun x hx => by cases hx
theorem rdAs_okr : ∀ (k : Nat) (st : Option (List Int)), okB (st.getD []) → okB ((rdAs k st).2.getD [])
  | 0, _, h => h
  | k + 1, st, h => by rw [rdAs]; exact rdAs_okr k _ (rdT_okr (rdT_okr h))
theorem rdFs_okr : ∀ (k : Nat) (st : Option (List Int)), okB (st.getD []) → okB ((rdFs k st).2.getD [])
  | 0, _, h => h
  | k + 1, st, h => by rw [rdFs]; exact rdFs_okr k _ (rdU_bd2 st h 1 (by omega)).2.2
theorem dRd_eq2 {st : Option (List Int)} (hok : okB (st.getD [])) (h : (imRd st).2 ≠ none) : dRd st = imRd st := by
  unfold imRd at h
  unfold imRd dRd
  simp only [] at h
  have o1 := rdT_okr (rdU_bd2 st hok 4 (by omega)).2.2
  generalize rdT (rdU st 4).2 = t at h o1 ⊢
  have o2 := (rdU_bd2 t.2 o1 1 (by omega)).2.2
  generalize rdU t.2 1 = n at h o2 ⊢
  have o3 := rdFs_okr 64 _ (rdAs_okr n.1.toNat n.2 o2)
  have o4 := (rdU_bd2 _ o3 1 (by omega)).1
  have h1 := rdFs_eq o4 h
  have h2 : (rdFs 64 (rdAs n.1.toNat n.2).2).2 ≠ none := fun e => by
    rw [e] at h
    exact h (rdFs_none _)
  have h3 : rdB (rdAs n.1.toNat n.2).2 64 = rdFs 64 (rdAs n.1.toNat n.2).2 := rdFs_eq (n := 64) (by omega) h2
  have h4 : (rdAs n.1.toNat n.2).2 ≠ none := fun e => by
    rw [e] at h2
    exact h2 (rdFs_none _)
  have h5 := dAs_eq2 _ _ h4
  rw [h5, h3, h1]
/-- What the document says of bytes: they are a block's. -/
def dbOk (s : ByteArray) : Bool := doneB (dRd (rdU (some (strI s)) 1).2).2 && rightB (dRd (rdU (some (strI s)) 1).2).1 && decide (strOfNums (imB (dRd (rdU (some (strI s)) 1).2).1) = s)
theorem dbOk_yes {s : ByteArray} (h : imOk s = true) : dbOk s = true ∧ (dRd (rdU (some (strI s)) 1).2).1 = imC s := by
  obtain ⟨hwf, -, -, hr, hs⟩ := im_read_put h
  have hc : imC s = (imRd (some (strI (rest s pB)))).1 := by unfold imC; rw [if_pos h]
  have h0 := h
  unfold imOk at h
  rw [Bool.and_eq_true, Bool.and_eq_true] at h
  obtain ⟨h1, h2, h3⟩ := h
  have e1 : strI s = 66 :: strI (rest s pB) := strI_cons (c := 66) h1
  have e2 := doneB_some h2
  have e3 := dRd_eq2 (st := some (strI (rest s pB))) (okB_strI (rest s pB)) (by rw [e2]; simp)
  have e4 : (rdU (some (strI s)) 1).2 = some (strI (rest s pB)) := by rw [e1, rdU1_cons]
  refine ⟨?_, by rw [e4, e3, hc]⟩
  unfold dbOk
  rw [e4, e3, h2, h3, ← hc, hs]
  simp
theorem dbOk_no {s : ByteArray} (h : dbOk s = true) : imOk s = true := by
  unfold dbOk at h
  rw [Bool.and_eq_true, Bool.and_eq_true, decide_eq_true_eq] at h
  obtain ⟨⟨h1, h2⟩, h3⟩ := h
  have hp : starts s pB = true := by
    rw [← h3, imB_cons]
    unfold starts Lib.hasPrefix
    simp [strOfNums]
  have e1 : strI s = 66 :: strI (rest s pB) := strI_cons (c := 66) hp
  have e4 : (rdU (some (strI s)) 1).2 = some (strI (rest s pB)) := by rw [e1, rdU1_cons]
  rw [e4] at h1 h2
  have e3 := dRd_eq (by rw [doneB_some h1]; simp)
  unfold imOk
  rw [hp, e3, h1, h2]
  rfl
theorem dbOk_eq (s : ByteArray) : dbOk s = imOk s := by
  cases h : imOk s with
  | true => exact (dbOk_yes h).1
  | false =>
    cases h2 : dbOk s with
    | false => rfl
    | true => rw [dbOk_no h2] at h; cases h
end Go.Proofs.YtlbgjmnihenmaaaGreatDoor
