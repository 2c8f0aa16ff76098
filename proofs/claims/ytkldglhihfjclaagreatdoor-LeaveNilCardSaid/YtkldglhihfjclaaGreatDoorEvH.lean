import Derived.Test.YtkldglhihfjclaaGreatDoorEvG
namespace Go.Ev
noncomputable section
variable {P : Program} {N : Nat} {E : Env} {w : World}

def evalL (tm : List Value) : List Operand → Option (List Value)
  | [] => some []
  | x :: l => match evalO tm x, evalL tm l with
    | some v, some vs => some (v :: vs)
    | _, _ => none
theorem evalL_sound {tm : List Value} (ht : ∀ v ∈ tm, ok N E v) : ∀ {l : List Operand} {vs : List Value}, evalL tm l = some vs → l.map (act E tm).eval = vs.map (ren E) ∧ ∀ v ∈ vs, ok N E v
  | [], vs, h => by cases h; simp
  | x :: l, vs, h => by
    simp only [evalL] at h
    split at h
    · rename_i v us hv hus
      cases h
      have h1 := eval_sound ht hv
      have h2 := evalL_sound ht hus
      exact ⟨by simp [h1.1, h2.1], by simpa using ⟨h1.2, h2.2⟩⟩
    · cases h

/-- Is one of the two nil, the other one not? Are both the same place? -/
def nilEq (P : Program) (t : TypeId) (x y : Value) : Option Bool :=
  match P.underlying t, x, y with
  | some (.pointer _), .pointer (some _), .pointer none => some false
  | some (.pointer _), .pointer none, .pointer (some _) => some false
  | some (.slice _), .slice (some _) _ _, .slice none _ _ => some false
  | some (.slice _), .slice none _ _, .slice (some _) _ _ => some false
  | some (.map _ _), .map (some _), .map none => some false
  | some (.map _ _), .map none, .map (some _) => some false
  | some (.func _ _ _), .func _ _ _, .nilFunc => some false
  | some (.func _ _ _), .nilFunc, .func _ _ _ => some false
  | _, _, _ => none
theorem nilEq_in {t : TypeId} {x y : Value} {b : Bool} (h : nilEq P t x y = some b) (d : Nat) (w : World) : (Op.equalIn (d + 1) t (ren E x) (ren E y)).run P w = .ok b w := by
  unfold nilEq at h
  split at h <;> first | (simp at h; done) | (rename_i hu; cases h; unfold Op.equalIn; rw [Sem.run_bind, run_underlying hu]; rfl)
theorem nilEq_eql {t : TypeId} {x y : Value} {b : Bool} (h : nilEq P t x y = some b) (w : World) : (binOp .eql t (ren E x) (ren E y)).run P w = .ok (.bool b) w ∧ (binOp .neq t (ren E x) (ren E y)).run P w = .ok (.bool !b) w := by
  have h1 := nilEq_in (E := E) h 9999 w
  have h2 : (binOp .eql t (ren E x) (ren E y)) = (do pure (.bool (← Op.equal t (ren E x) (ren E y)))) ∧ (binOp .neq t (ren E x) (ren E y)) = (do pure (.bool (!(← Op.equal t (ren E x) (ren E y))))) := by
    unfold nilEq at h
    split at h <;> first | (simp at h; done) | exact ⟨rfl, rfl⟩
  rw [h2.1, h2.2, Sem.run_bind, Sem.run_bind]
  have h3 : (Op.equal t (ren E x) (ren E y)).run P w = .ok b w := h1
  rw [h3]
  exact ⟨rfl, rfl⟩

theorem nilEq_guard {t : TypeId} {x y : Value} {b : Bool} (h : nilEq P t x y = some b) (op : BinOp) (p q : Operand) (w : World) : (eqGuard op t p q (ren E x) (ren E y)).run P w = .ok () w := by
  unfold nilEq at h
  split at h <;> first | (simp at h; done) | (cases h; unfold eqGuard; simp only [ren]; cases op <;> rfl)

def fillL (place : Nat → Option (Nat × Nat)) (cells : List Value) : List (Nat × Value) → Option (List Value)
  | [] => some cells
  | (i, v) :: rest => match place i with
    | none => none
    | some (off, size) => match Nat.beq v.cells.toList.length size && Nat.ble (off + size) cells.length with
      | true => fillL place (setAt cells off v.cells.toList) rest
      | false => none
theorem foldl_setAt (vs : List Value) (off : Nat) : ∀ (cells : List Value) (k : Nat), off + k + vs.length ≤ cells.length →
    (vs.zipIdx k).foldl (fun (cs : Array Value) (x : Value × Nat) => cs.setIfInBounds (off + x.2) x.1) cells.toArray = (setAt cells (off + k) vs).toArray := by
  induction vs with
  | nil =>
    intro cells k h
    simp only [List.zipIdx_nil, List.foldl_nil]
    congr 1
    apply List.ext_getElem?
    intro j
    rw [setAt_out cells _ [] (by simpa using h) j (by simp; omega)]
  | cons v vs ih =>
    intro cells k h
    simp only [List.zipIdx_cons, List.foldl_cons, List.setIfInBounds_toArray]
    rw [ih (cells.set (off + k) v) (k + 1) (by simp at h ⊢; omega)]
    congr 1
    have hl : off + (k + 1) + vs.length ≤ (cells.set (off + k) v).length := by simp at h ⊢; omega
    apply List.ext_getElem?
    intro j
    have h' : off + k + (v :: vs).length ≤ cells.length := h
    by_cases hj : off + k ≤ j ∧ j < off + k + (v :: vs).length
    · obtain ⟨i, rfl⟩ : ∃ i, j = off + k + i := ⟨j - (off + k), by omega⟩
      rw [setAt_in cells _ (v :: vs) h' i (by omega)]
      cases i with
      | zero =>
        rw [setAt_out _ _ vs hl _ (by omega)]
        have : off + k < cells.length := by simp at h; omega
        simp [this]
      | succ i =>
        rw [show off + k + (i + 1) = off + (k + 1) + i by omega, setAt_in _ _ vs hl i (by simp at hj; omega)]
        simp
    · rw [setAt_out cells _ (v :: vs) h' j (by omega), setAt_out _ _ vs hl j (by simp at hj ⊢; omega)]
      rw [List.getElem?_set_ne (by simp at hj; omega)]
theorem fill_sound (place : Nat → Option (Nat × Nat)) : ∀ (parts : List (Nat × Value)) (cells r : List Value), fillL place cells parts = some r →
    Instr.fill place (cells.map (ren E)).toArray (parts.map fun x => (x.1, ren E x.2)) = some (r.map (ren E)).toArray ∧ r.length = cells.length ∧
    ((∀ v ∈ cells, ok N E v) → (∀ x ∈ parts, ok N E x.2) → ∀ v ∈ r, ok N E v)
  | [], cells, r, h => by cases h; exact ⟨rfl, rfl, fun hc _ => hc⟩
  | (i, v) :: rest, cells, r, h => by
    simp only [fillL] at h
    split at h
    · cases h
    · rename_i off size hp
      split at h
      · rename_i hb
        have hb' : v.cells.toList.length = size ∧ off + size ≤ cells.length := by simpa using hb
        have ih := fill_sound place rest _ r h
        have hl : (setAt cells off v.cells.toList).length = cells.length := setAt_length _ _ _ (by omega)
        refine ⟨?_, by rw [ih.2.1, hl], fun hc hp' => ih.2.2 (fun u hu => ?_) (fun x hx => hp' x (List.mem_cons_of_mem _ hx))⟩
        · simp only [List.map_cons, Instr.fill, hp]
          have hs : (ren E v).cells.size = size := by
            have := congrArg List.length (ren_cells E v)
            simp at this
            rw [this]; simpa using hb'.1
          have e : (ren E v).cells = (v.cells.toList.map (ren E)).toArray := by rw [← ren_cells]
          simp only [hs, ne_eq, not_true_eq_false, decide_false, Bool.false_or, List.size_toArray, List.length_map]
          rw [if_neg (by simp; omega)]
          rw [show Array.foldl (fun cs (x : Value × Nat) => match x with | (c, j) => cs.setIfInBounds (off + j) c) (cells.map (ren E)).toArray (ren E v).cells.zipIdx =
            (setAt (cells.map (ren E)) (off + 0) (v.cells.toList.map (ren E))).toArray from ?_]
          · have e2 : setAt (cells.map (ren E)) (off + 0) (v.cells.toList.map (ren E)) = (setAt cells off v.cells.toList).map (ren E) := by
              apply List.ext_getElem?
              intro j
              by_cases hj : off ≤ j ∧ j < off + v.cells.toList.length
              · obtain ⟨i, rfl⟩ : ∃ i, j = off + i := ⟨j - off, by omega⟩
                rw [Nat.add_zero, setAt_in _ _ _ (by simp at hb' ⊢; omega) i (by simp at hj ⊢; omega), List.getElem?_map, List.getElem?_map, setAt_in cells off _ (by omega) i (by omega)]
              · rw [Nat.add_zero, setAt_out _ _ _ (by simp at hb' ⊢; omega) j (by simp at hj ⊢; omega), List.getElem?_map, List.getElem?_map, setAt_out cells off _ (by omega) j (by omega)]
            rw [e2]
            exact ih.1
          · rw [e, ← Array.foldl_toList]
            simp only [Array.toList_zipIdx]
            exact foldl_setAt (v.cells.toList.map (ren E)) off (cells.map (ren E)) 0 (by simp at hb' ⊢; omega)
        · rcases setAt_mem _ _ _ _ hu with hu | hu
          · exact hc u hu
          · exact ok_cells (hp' (i, v) List.mem_cons_self) u hu
      · cases h
end
end Go.Ev
