/- Package handle: lists of counts, by themselves: what is right, what is set. -/
import Derived.Test.YtcgkambkfaeceaaHnRow
namespace Go.Proofs.Ytcgkambkfaeceaa
abbrev CntL := List (Int × Int)
def at2 (L : CntL) (k : Nat) : Int × Int := L.getD k (0, 0)
theorem at2_get {L : CntL} {k : Nat} (h : k < L.length) : L[k]? = some (at2 L k) := by
  unfold at2
  rw [List.getD_eq_getElem?_getD, List.getElem?_eq_getElem h]; rfl
/-- Is the k-th of a row of counts right? -/
def okAt (L : CntL) (k : Nat) : Bool :=
  (decide (k = 0) || decide ((at2 L (k - 1)).1 < (at2 L k).1)) && decide ((at2 L k).1 % 64 = 0) && decide (1 ≤ (at2 L k).2) && decide ((at2 L k).2 ≤ 65535)
def okTo (L : CntL) : Nat → Bool
  | 0 => true
  | k + 1 => okTo L k && okAt L k
/-- May counts be a handle's? -/
def rightH (L : CntL) : Bool := okTo L L.length
theorem okTo_no {L : CntL} {i n : Nat} (h : okTo L i = false) (hn : i ≤ n) : okTo L n = false := by
  induction n with
  | zero => rwa [Nat.le_zero.1 hn] at h
  | succ n ih =>
    by_cases e : i = n + 1
    · rwa [← e]
    · unfold okTo
      rw [ih (by omega)]
      rfl
theorem okTo_iff (L : CntL) : ∀ n, okTo L n = true ↔ ∀ k, k < n → okAt L k = true
  | 0 => by simp [okTo]
  | n + 1 => by
    unfold okTo
    rw [Bool.and_eq_true, okTo_iff L n]
    constructor
    · rintro ⟨h1, h2⟩ k hk
      by_cases e : k = n
      · rw [e]; exact h2
      · exact h1 k (by omega)
    · intro h
      exact ⟨fun k hk => h k (by omega), h n (by omega)⟩
/-- The counts are right: each by itself, and they rise. -/
def CntOk (p : Int × Int) : Prop := p.1 % 64 = 0 ∧ 1 ≤ p.2 ∧ p.2 ≤ 65535
theorem right_iff (L : CntL) : rightH L = true ↔ (∀ p ∈ L, CntOk p) ∧ L.Pairwise (fun p q => p.1 < q.1) := by
  have key : rightH L = true ↔ (∀ p ∈ L, CntOk p) ∧ (∀ k, k + 1 < L.length → (at2 L k).1 < (at2 L (k + 1)).1) := by
    unfold rightH
    rw [okTo_iff]
    unfold okAt
    simp only [Bool.and_eq_true, Bool.or_eq_true, decide_eq_true_eq]
    constructor
    · intro h
      refine ⟨fun p hp => ?_, fun k hk => ?_⟩
      · obtain ⟨i, hi, rfl⟩ := List.getElem_of_mem hp
        have e : at2 L i = L[i] := by
          have := at2_get hi
          rw [List.getElem?_eq_getElem hi] at this
          exact (Option.some.inj this).symm
        have := h i hi
        rw [e] at this
        exact ⟨this.1.1.2, this.1.2, this.2⟩
      · have := (h (k + 1) hk).1.1.1
        rcases this with h0 | h0
        · omega
        · exact h0
    · rintro ⟨h1, h2⟩ k hk
      have hm : at2 L k ∈ L := List.mem_of_getElem? (at2_get hk)
      obtain ⟨q1, q2, q3⟩ := h1 _ hm
      refine ⟨⟨⟨?_, q1⟩, q2⟩, q3⟩
      cases k with
      | zero => exact Or.inl rfl
      | succ k => exact Or.inr (h2 k hk)
  rw [key]
  refine and_congr_right fun _ => ?_
  constructor
  · intro h
    rw [List.pairwise_iff_getElem]
    intro i j hi hj hij
    have e : ∀ k (hk : k < L.length), L[k] = at2 L k := fun k hk => by
      have := at2_get hk
      rw [List.getElem?_eq_getElem hk] at this
      exact Option.some.inj this
    rw [e i hi, e j hj]
    obtain ⟨d, rfl⟩ : ∃ d, j = i + 1 + d := ⟨j - i - 1, by omega⟩
    clear hij
    induction d with
    | zero => exact h i hj
    | succ d ih =>
      have h1 := ih (by omega)
      have h2 := h (i + 1 + d) (by omega)
      rw [show i + 1 + (d + 1) = i + 1 + d + 1 from by omega]
      omega
  · intro h k hk
    rw [List.pairwise_iff_getElem] at h
    have := h k (k + 1) (by omega) hk (by omega)
    have e : ∀ k (hk : k < L.length), L[k] = at2 L k := fun k hk => by
      have := at2_get hk
      rw [List.getElem?_eq_getElem hk] at this
      exact Option.some.inj this
    rw [e, e] at this
    exact this
/-- How many stand ahead of a block. -/
def cntB (L : CntL) (b : Int) : Nat := (L.takeWhile (fun p => decide (p.1 < b))).length
def thereB (L : CntL) (b : Int) : Bool := decide (cntB L b < L.length) && decide ((at2 L (cntB L b)).1 = b)
def ofH (L : CntL) (b : Int) : Int := if thereB L b = true then (at2 L (cntB L b)).2 else 0
/-- Just n in the block. -/
def setH (L : CntL) (b n : Int) : CntL := match L with
  | [] => if n = 0 then [] else [(b, n)]
  | p :: L => if p.1 < b then p :: setH L b n else if p.1 = b then (if n = 0 then L else (b, n) :: L) else (if n = 0 then p :: L else (b, n) :: p :: L)
def totalH (L : CntL) : Int := (L.map (·.2)).sum
theorem cntB_cons_lt {p : Int × Int} {L : CntL} {b : Int} (h : p.1 < b) : cntB (p :: L) b = cntB L b + 1 := by
  unfold cntB
  rw [List.takeWhile_cons_of_pos (by simpa using h)]; rfl
theorem cntB_cons_ge {p : Int × Int} {L : CntL} {b : Int} (h : ¬ p.1 < b) : cntB (p :: L) b = 0 := by
  unfold cntB
  rw [List.takeWhile_cons_of_neg (by simpa using h)]; rfl
theorem cntB_le (L : CntL) (b : Int) : cntB L b ≤ L.length := List.Sublist.length_le (List.takeWhile_sublist _)
theorem at2_succ (p : Int × Int) (L : CntL) (k : Nat) : at2 (p :: L) (k + 1) = at2 L k := by unfold at2; simp
theorem at2_zero (p : Int × Int) (L : CntL) : at2 (p :: L) 0 = p := by unfold at2; simp
theorem thereB_cons_lt {p : Int × Int} {L : CntL} {b : Int} (h : p.1 < b) : thereB (p :: L) b = thereB L b := by
  unfold thereB
  rw [cntB_cons_lt h, at2_succ, List.length_cons]
  congr 1
  simp
theorem thereB_cons_ge {p : Int × Int} {L : CntL} {b : Int} (h : ¬ p.1 < b) : thereB (p :: L) b = decide (p.1 = b) := by
  unfold thereB
  rw [cntB_cons_ge h, at2_zero, List.length_cons]
  simp
theorem ofH_cons_lt {p : Int × Int} {L : CntL} {b : Int} (h : p.1 < b) : ofH (p :: L) b = ofH L b := by
  unfold ofH
  rw [thereB_cons_lt h, cntB_cons_lt h, at2_succ]
theorem ofH_cons_ge {p : Int × Int} {L : CntL} {b : Int} (h : ¬ p.1 < b) : ofH (p :: L) b = if p.1 = b then p.2 else 0 := by
  unfold ofH
  rw [thereB_cons_ge h, cntB_cons_ge h, at2_zero]
  by_cases e : p.1 = b <;> simp [e]
/-- What is set, by the place. -/
theorem setH_eq (L : CntL) (b n : Int) : setH L b n =
    if thereB L b = true then (if n = 0 then L.take (cntB L b) ++ L.drop (cntB L b + 1) else L.take (cntB L b) ++ (b, n) :: L.drop (cntB L b + 1))
    else (if n = 0 then L else L.take (cntB L b) ++ (b, n) :: L.drop (cntB L b)) := by
  induction L with
  | nil =>
    have h1 : cntB [] b = 0 := rfl
    have h2 : thereB [] b = false := by unfold thereB; simp
    rw [h2]
    simp [setH, h1]
  | cons p L ih =>
    by_cases h : p.1 < b
    · rw [setH, if_pos h, ih, thereB_cons_lt h, cntB_cons_lt h]
      split <;> split <;> simp
    · rw [setH, if_neg h, thereB_cons_ge h, cntB_cons_ge h]
      by_cases e : p.1 = b
      · simp [e]
      · simp [e]
theorem setH_mem {L : CntL} {b n : Int} {q : Int × Int} (h : q ∈ setH L b n) : q ∈ L ∨ (q = (b, n) ∧ n ≠ 0) := by
  induction L with
  | nil =>
    unfold setH at h
    split at h
    · cases h
    · rename_i hn
      exact Or.inr ⟨by simpa using h, hn⟩
  | cons p L ih =>
    unfold setH at h
    split at h
    · rcases List.mem_cons.1 h with rfl | h
      · exact Or.inl (by simp)
      · rcases ih h with h | h
        · exact Or.inl (List.mem_cons_of_mem _ h)
        · exact Or.inr h
    · split at h <;> split at h
      · exact Or.inl (List.mem_cons_of_mem _ h)
      · rename_i hn
        rcases List.mem_cons.1 h with rfl | h
        · exact Or.inr ⟨rfl, hn⟩
        · exact Or.inl (List.mem_cons_of_mem _ h)
      · exact Or.inl h
      · rename_i hn
        rcases List.mem_cons.1 h with rfl | h
        · exact Or.inr ⟨rfl, hn⟩
        · exact Or.inl h
theorem setH_right {L : CntL} {b n : Int} (h : rightH L = true) (hb : b % 64 = 0) (h0 : 0 ≤ n) (h1 : n ≤ 65535) : rightH (setH L b n) = true := by
  rw [right_iff] at h ⊢
  obtain ⟨h2, h3⟩ := h
  refine ⟨fun q hq => ?_, ?_⟩
  · rcases setH_mem hq with hq | ⟨rfl, hn⟩
    · exact h2 q hq
    · exact ⟨hb, by show 1 ≤ n; omega, h1⟩
  · clear h2
    induction L with
    | nil =>
      unfold setH
      split
      · exact List.Pairwise.nil
      · exact List.pairwise_singleton _ _
    | cons p L ih =>
      obtain ⟨k1, k2⟩ := List.pairwise_cons.1 h3
      unfold setH
      split
      · rename_i hlt
        refine List.pairwise_cons.2 ⟨fun q hq => ?_, ih k2⟩
        rcases setH_mem hq with hq | ⟨rfl, _⟩
        · exact k1 q hq
        · exact hlt
      · rename_i hge
        split
        · rename_i he
          split
          · exact k2
          · exact List.pairwise_cons.2 ⟨fun q hq => by have := k1 q hq; show b < q.1; omega, k2⟩
        · rename_i he
          split
          · exact h3
          · refine List.pairwise_cons.2 ⟨fun q hq => ?_, h3⟩
            rcases List.mem_cons.1 hq with rfl | hq
            · show b < q.1; omega
            · have := k1 q hq
              show b < q.1; omega
/-- What is of the block, set or not. -/
theorem setH_set {L : CntL} {b m n : Int} (h : L.Pairwise (fun p q => p.1 < q.1)) : setH (setH L b m) b n = setH L b n := by
  induction L with
  | nil =>
    by_cases hm : m = 0 <;> by_cases hn : n = 0 <;> simp [setH, hm, hn]
  | cons p L ih =>
    obtain ⟨k1, k2⟩ := List.pairwise_cons.1 h
    by_cases hlt : p.1 < b
    · simp only [setH, if_pos hlt, ih k2]
    · by_cases he : p.1 = b
      · have hL : ∀ n, setH L b n = if n = 0 then L else (b, n) :: L := fun n => by
          cases L with
          | nil => rfl
          | cons q L =>
            have := k1 q (by simp)
            rw [setH, if_neg (by omega), if_neg (by omega)]
        by_cases hm : m = 0 <;> by_cases hn : n = 0 <;> simp [setH, he, hm, hn, hL]
      · by_cases hm : m = 0 <;> by_cases hn : n = 0 <;> simp [setH, hlt, he, hm, hn]
theorem setH_self {L : CntL} {b : Int} (h : L.Pairwise (fun p q => p.1 < q.1)) (h2 : ∀ p ∈ L, p.2 ≠ 0) : setH L b (ofH L b) = L := by
  induction L with
  | nil =>
    have : ofH [] b = 0 := by unfold ofH thereB; simp
    rw [this]; rfl
  | cons p L ih =>
    obtain ⟨k1, k2⟩ := List.pairwise_cons.1 h
    by_cases hlt : p.1 < b
    · rw [setH, if_pos hlt, ofH_cons_lt hlt, ih k2 (fun q hq => h2 q (by simp [hq]))]
    · rw [setH, if_neg hlt, ofH_cons_ge hlt]
      by_cases he : p.1 = b
      · rw [if_pos he, if_pos he, if_neg (h2 p (by simp)), ← he]
      · rw [if_neg he, if_neg he, if_pos rfl]
theorem ofH_set {L : CntL} {b n : Int} (h : L.Pairwise (fun p q => p.1 < q.1)) : ofH (setH L b n) b = n := by
  induction L with
  | nil =>
    by_cases hn : n = 0
    · rw [setH, if_pos hn, hn]; unfold ofH thereB; simp
    · rw [setH, if_neg hn, ofH_cons_ge (by simp)]; simp
  | cons p L ih =>
    obtain ⟨k1, k2⟩ := List.pairwise_cons.1 h
    by_cases hlt : p.1 < b
    · rw [setH, if_pos hlt, ofH_cons_lt hlt, ih k2]
    · rw [setH, if_neg hlt]
      by_cases he : p.1 = b
      · rw [if_pos he]
        by_cases hn : n = 0
        · rw [if_pos hn, hn]
          cases L with
          | nil => unfold ofH thereB; simp
          | cons q L =>
            have := k1 q (by simp)
            rw [ofH_cons_ge (by omega), if_neg (by omega)]
        · rw [if_neg hn, ofH_cons_ge (by simp)]; simp
      · rw [if_neg he]
        by_cases hn : n = 0
        · rw [if_pos hn, ofH_cons_ge hlt, if_neg he, hn]
        · rw [if_neg hn, ofH_cons_ge (by simp)]; simp
theorem totalH_set {L : CntL} {b n : Int} (h : L.Pairwise (fun p q => p.1 < q.1)) : totalH (setH L b n) = totalH L - ofH L b + n := by
  unfold totalH
  induction L with
  | nil =>
    have : ofH [] b = 0 := by unfold ofH thereB; simp
    rw [this]
    by_cases hn : n = 0 <;> simp [setH, hn]
  | cons p L ih =>
    obtain ⟨k1, k2⟩ := List.pairwise_cons.1 h
    by_cases hlt : p.1 < b
    · rw [setH, if_pos hlt, ofH_cons_lt hlt, List.map_cons, List.sum_cons, ih k2, List.map_cons, List.sum_cons]; omega
    · rw [setH, if_neg hlt, ofH_cons_ge hlt]
      by_cases he : p.1 = b
      · rw [if_pos he, if_pos he]
        by_cases hn : n = 0 <;> simp [hn] <;> omega
      · rw [if_neg he, if_neg he]
        by_cases hn : n = 0 <;> simp [hn] <;> omega
theorem ofH_bd {L : CntL} {b : Int} (h : ∀ p ∈ L, CntOk p) : 0 ≤ ofH L b ∧ ofH L b ≤ 65535 := by
  unfold ofH
  split
  · rename_i ht
    unfold thereB at ht
    simp only [Bool.and_eq_true, decide_eq_true_eq] at ht
    obtain ⟨_, q2, q3⟩ := h _ (List.mem_of_getElem? (at2_get ht.1))
    omega
  · omega
theorem setH_len (L : CntL) (b n : Int) : (setH L b n).length ≤ L.length + 1 := by
  induction L with
  | nil => unfold setH; split <;> simp
  | cons p L ih =>
    unfold setH
    split
    · simp; omega
    · split <;> split <;> simp only [List.length_cons] <;> omega
end Go.Proofs.Ytcgkambkfaeceaa
