/- Frames cut off anywhere; the walk of FrameTorn. -/
import Derived.Test.YtkjdfelmjanpcaaDoorFrMany
namespace Go.Proofs.YtkjdfelmjanpcaaDoor
open Go.RowKit
/-- Where the frames end. -/
def endsF : Nat → List (List Int) → List Int
  | _, [] => []
  | k, p :: ps => ((k + (8 + p.length) : Nat) : Int) :: endsF (k + (8 + p.length)) ps
theorem endsF_len : ∀ (ps : List (List Int)) (k : Nat), (endsF k ps).length = ps.length
  | [], _ => rfl
  | p :: ps, k => by rw [endsF, List.length_cons, List.length_cons, endsF_len ps]
theorem flatF_cons (p : List Int) (ps : List (List Int)) : flatF (p :: ps) = frameL p ++ flatF ps := by unfold flatF; rw [List.flatMap_cons]
theorem endsF_snoc : ∀ (ps : List (List Int)) (k : Nat) (p : List Int), endsF k (ps ++ [p]) = endsF k ps ++ [((k + (flatF ps ++ frameL p).length : Nat) : Int)]
  | [], k, p => by
    show [((k + (8 + p.length) : Nat) : Int)] = [((k + (([] : List Int) ++ frameL p).length : Nat) : Int)]
    rw [List.nil_append, frameL_len]
  | q :: ps, k, p => by
    rw [List.cons_append, endsF, endsF_snoc ps, endsF, List.cons_append, flatF_cons, List.append_assoc]
    congr 3
    simp only [List.length_append, frameL_len]
    omega
/-- How many frames end by c, and where the last of these does. -/
def cntTo (c : Nat) (k : Nat) : List (List Int) → Nat × Nat
  | [] => (0, k)
  | p :: ps => if k + (8 + p.length) ≤ c then ((cntTo c (k + (8 + p.length)) ps).1 + 1, (cntTo c (k + (8 + p.length)) ps).2) else (0, k)
/-- The same, counted one end behind the other. -/
def tally (c : Nat) (l : List Int) : Nat × Nat := l.foldl (fun s e => if e ≤ (c : Int) then (s.1 + 1, e.toNat) else s) (0, 0)
theorem tally_snoc (c : Nat) (l : List Int) (e : Int) : tally c (l ++ [e]) = if e ≤ (c : Int) then ((tally c l).1 + 1, e.toNat) else tally c l := by unfold tally; rw [List.foldl_append]; rfl
theorem foldl_none (c : Nat) : ∀ (ps : List (List Int)) (k : Nat) (s : Nat × Nat), c < k → (endsF k ps).foldl (fun s e => if e ≤ (c : Int) then (s.1 + 1, e.toNat) else s) s = s
  | [], _, _, _ => rfl
  | p :: ps, k, s, h => by
    rw [endsF, List.foldl_cons, if_neg (by omega)]
    exact foldl_none c ps _ s (by omega)
theorem foldl_ends (c : Nat) : ∀ (ps : List (List Int)) (k : Nat) (s : Nat × Nat), s.2 = k → (endsF k ps).foldl (fun s e => if e ≤ (c : Int) then (s.1 + 1, e.toNat) else s) s = (s.1 + (cntTo c k ps).1, (cntTo c k ps).2)
  | [], k, s, h => by
    show s = (s.1 + 0, k)
    rw [← h]; rfl
  | p :: ps, k, s, h => by
    rw [endsF, List.foldl_cons]
    by_cases hc : k + (8 + p.length) ≤ c
    · rw [if_pos (by omega), foldl_ends c ps (k + (8 + p.length)) _ (by simp only []; omega), cntTo, if_pos hc]
      refine Prod.ext ?_ rfl
      simp only []
      omega
    · rw [if_neg (by omega), foldl_none c ps _ s (by omega), cntTo, if_neg hc]
      exact Prod.ext rfl h
theorem tally_ends (c : Nat) (ps : List (List Int)) : tally c (endsF 0 ps) = cntTo c 0 ps := by
  unfold tally
  rw [foldl_ends c ps 0 (0, 0) rfl]
  exact Prod.ext (by simp only []; omega) rfl
theorem cntTo_at (c : Nat) : ∀ (ps : List (List Int)) (k : Nat), (cntTo c k ps).1 ≤ ps.length ∧ (cntTo c k ps).2 = k + (flatF (ps.take (cntTo c k ps).1)).length ∧ (k ≤ c → (cntTo c k ps).2 ≤ c)
  | [], k => ⟨Nat.le_refl _, rfl, fun h => h⟩
  | p :: ps, k => by
    rw [cntTo]
    by_cases hc : k + (8 + p.length) ≤ c
    · rw [if_pos hc]
      obtain ⟨a, b, d⟩ := cntTo_at c ps (k + (8 + p.length))
      simp only []
      refine ⟨by rw [List.length_cons]; omega, ?_, fun _ => d hc⟩
      rw [b, List.take_succ_cons, flatF_cons, List.length_append, frameL_len]
      omega
    · rw [if_neg hc]
      exact ⟨Nat.zero_le _, rfl, fun h => h⟩
/-- A frame cut off: more is wanted, or nothing is there. -/
theorem next_torn {p t : List Int} (h1 : 1 ≤ p.length) (h2 : p.length ≤ 1048576) {n : Nat} (hn : n < (frameL p).length) : nextE ((frameL p ++ t).take n) = if n = 0 then 6 else 4 := by
  have hl : ((frameL p ++ t).take n).length = n := by rw [List.length_take, List.length_append]; omega
  unfold nextE
  rw [hl]
  by_cases h0 : n = 0
  · rw [if_pos h0, if_pos h0]
  rw [if_neg h0, if_neg h0]
  by_cases h8 : n < 8
  · rw [if_pos h8]
  rw [if_neg h8]
  have e : cntL ((frameL p ++ t).take n) = p.length := by
    have h := (frame_cnt (t := t) h2).1
    unfold cntL at h ⊢
    rw [List.take_take, show min 4 n = 4 from by omega]
    exact h
  rw [frameL_len] at hn
  rw [e, if_neg (by omega), if_pos (by omega)]
theorem torn_all : ∀ (ps : List (List Int)) (c k : Nat), goodP ps → k ≤ c → c - k ≤ (flatF ps).length →
    AllIs (ps.take (cntTo c k ps).1) ((flatF ps).take (c - k)) ((cntTo c k ps).2 - k) (if (cntTo c k ps).2 = c then 6 else 4)
  | [], c, k, _, hk, hc => by
    have e : c - k = 0 := by simpa [flatF] using hc
    have : k = c := by omega
    subst this
    rw [Nat.sub_self]
    refine ⟨?_, ?_, ?_⟩
    · show (k - k) = 0; omega
    · show nextE (List.drop (k - k) _) = if k = k then 6 else 4
      rw [Nat.sub_self, if_pos rfl]; rfl
    · show (if k = k then 6 else 4) ≠ 0
      rw [if_pos rfl]; decide
  | p :: ps, c, k, h, hk, hc => by
    obtain ⟨h1, h2, h3⟩ := h p List.mem_cons_self
    rw [flatF_cons, List.length_append, frameL_len] at hc
    rw [cntTo]
    by_cases hle : k + (8 + p.length) ≤ c
    · rw [if_pos hle]
      simp only []
      obtain ⟨a, b, d⟩ := torn_all ps c (k + (8 + p.length)) (fun q hq => h q (List.mem_cons_of_mem _ hq)) hle (by omega)
      have hat := cntTo_at c ps (k + (8 + p.length))
      obtain ⟨n1, n2, n3⟩ := next_frame (t := (flatF ps).take (c - (k + (8 + p.length)))) h1 h2 (by omega)
      have et : (flatF (p :: ps)).take (c - k) = frameL p ++ (flatF ps).take (c - (k + (8 + p.length))) := by
        rw [flatF_cons, List.take_append, frameL_len, List.take_of_length_le (by rw [frameL_len]; omega)]
        congr 2
        omega
      have ed : (frameL p ++ (flatF ps).take (c - (k + (8 + p.length)))).drop (8 + p.length) = (flatF ps).take (c - (k + (8 + p.length))) := by
        have := List.drop_left (l₁ := frameL p) (l₂ := (flatF ps).take (c - (k + (8 + p.length))))
        rwa [frameL_len] at this
      rw [et, List.take_succ_cons]
      refine ⟨⟨n1, n2, _, by rw [n3, ed]; exact a, by rw [n3, hat.2.1]; omega⟩, ?_, d⟩
      have e2 : (cntTo c (k + (8 + p.length)) ps).2 - k = (8 + p.length) + ((cntTo c (k + (8 + p.length)) ps).2 - (k + (8 + p.length))) := by rw [hat.2.1]; omega
      rw [e2, ← List.drop_drop, ed]
      exact b
    · rw [if_neg hle]
      simp only []
      rw [Nat.sub_self, List.take_zero]
      refine ⟨rfl, ?_, by split <;> decide⟩
      rw [List.drop_zero, flatF_cons, next_torn h2 (by omega) (by rw [frameL_len]; omega)]
      by_cases hkc : k = c
      · rw [if_pos hkc, if_pos (by omega)]
      · rw [if_neg hkc, if_neg (by omega)]
end Go.Proofs.YtkjdfelmjanpcaaDoor
