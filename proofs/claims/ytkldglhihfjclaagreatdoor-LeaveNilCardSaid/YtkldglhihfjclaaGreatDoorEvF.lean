import Derived.Test.YtkldglhihfjclaaGreatDoorEvE
namespace Go.Ev
noncomputable section
variable {P : Program} {N : Nat} {E : Env} {w : World}

def evalO (tm : List Value) : Operand → Option Value
  | .tmp t => tm[t]?
  | .const v => match plain v with
    | true => some v
    | false => none
  | .func f => some (.func (.func f) #[] #[])
  | .global _ => none
def act (E : Env) (tm : List Value) : Act := { tmps := (tm.map (ren E)).toArray, defers := [] }

theorem eval_sound {tm : List Value} (ht : ∀ v ∈ tm, ok N E v) {x : Operand} {v : Value} (h : evalO tm x = some v) : (act E tm).eval x = ren E v ∧ ok N E v := by
  cases x with
  | tmp t =>
    simp only [evalO] at h
    refine ⟨?_, ht v (List.mem_of_getElem? h)⟩
    simp [Act.eval, act, h]
  | const c =>
    simp only [evalO] at h
    split at h
    · rename_i hp; cases h; exact ⟨(ren_plain E _ hp).symm, ok_plain _ _ _ hp⟩
    · cases h
  | func f => cases h; exact ⟨rfl, by simp [ok, okA, okL]⟩
  | global g => cases h

def peel (P : Program) {α : Type} : Sem α → Option α
  | .pure a => some a
  | .program k => peel P (k P)
  | .mark _ k => peel P k
  | _ => none
theorem peel_sound {α : Type} : ∀ (s : Sem α) (a : α), peel P s = some a → ∀ w, s.run P w = .ok a w
  | .pure a, b, h, w => by simp only [peel] at h; cases h; rfl
  | .program k, b, h, w => peel_sound (k P) b h w
  | .mark _ k, b, h, w => peel_sound k b h w

def notSel : Op → Bool
  | .select .. => false
  | _ => true
def allPlain (tm : List Value) : List Operand → Bool
  | [] => true
  | x :: l => match evalO tm x with
    | some v => plain v && allPlain tm l
    | none => false
theorem allPlain_spec {tm : List Value} : ∀ {l : List Operand}, allPlain tm l = true → ∀ x ∈ l, ∃ v, evalO tm x = some v ∧ plain v = true
  | y :: l, h, x, hx => by
    simp only [allPlain] at h
    split at h
    · rename_i v hv
      simp only [Bool.and_eq_true] at h
      rcases List.mem_cons.mp hx with rfl | hx
      · exact ⟨v, hv, h.1⟩
      · exact allPlain_spec h.2 x hx
    · cases h

/-- What needs no memory, of values without places: the model's own. -/
def evPlain (P : Program) (tm : List Value) (o : Oper) : Option Value :=
  match notSel o.op && allPlain tm o.op.operands.toList with
  | true => match peel P (execOp (fun x => (evalO tm x).getD undef) o) with
    | some (.value v) => match plain v with
      | true => some v
      | false => none
    | _ => none
  | false => none

def Pure (P : Program) (N : Nat) (E : Env) (a : Act) (o : Oper) (v : Value) : Prop :=
  (∀ w, (execOp a.eval o).run P w = .ok (.value (ren E v)) w) ∧ ok N E v

theorem evPlain_sound {tm : List Value} (ht : ∀ v ∈ tm, ok N E v) {o : Oper} {v : Value} (h : evPlain P tm o = some v) : Pure P N E (act E tm) o v := by
  unfold evPlain at h
  split at h
  · rename_i hc
    simp only [Bool.and_eq_true] at hc
    split at h
    · rename_i u hu
      split at h
      · rename_i hp
        cases h
        refine ⟨fun w => ?_, ok_plain _ _ _ hp⟩
        rw [ren_plain E _ hp]
        have hcong : execOp (act E tm).eval o = execOp (fun x => (evalO tm x).getD undef) o := by
          refine execOp_congr o (fun cs b e => by rw [e] at hc; simp [notSel] at hc) fun x hx => ?_
          obtain ⟨y, hy, hyp⟩ := allPlain_spec hc.2 x (by simpa using hx)
          rw [(eval_sound ht hy).1, hy, ren_plain E _ hyp]; rfl
        rw [hcong]
        exact peel_sound _ _ hu w
      · cases h
    · cases h
  · cases h

/-! The parts of a value. -/
def szT (P : Program) (t : TypeId) : Option Nat := (P.info? t).map (·.size)
def rowT (P : Program) (t : TypeId) : Option Bool := (P.underlying t).map TypeDesc.isRow
def aPart (P : Program) (t : TypeId) (cs : List Value) (off : Nat) : Option Value :=
  match rowT P t with
  | some true => match szT P t with
    | some n => some (.agg ((cs.drop off).take n).toArray)
    | none => none
  | some false => cs[off]?
  | none => none

theorem run_sizeOf {t n : Nat} (h : szT P t = some n) (w : World) : (sizeOf t).run P w = .ok n w := by
  unfold szT at h
  cases hq : P.info? t with
  | none => simp [hq] at h
  | some i => simp [hq] at h; simp [sizeOf, typeInfo, hq, h]
theorem run_isAgg {t : Nat} {b : Bool} (h : rowT P t = some b) (w : World) : (isAgg t).run P w = .ok b w := by
  unfold rowT at h
  cases hq : P.underlying t with
  | none => simp [hq] at h
  | some d =>
    simp [hq] at h
    unfold isAgg
    rw [Sem.run_bind, run_underlying hq w]
    cases d <;> simp_all
theorem aPart_sound {t : TypeId} {cs : List Value} {off : Nat} {v : Value} (h : aPart P t cs off = some v) (hc : ∀ x ∈ cs, ok N E x) (w : World) :
    (part t (cs.map (ren E)).toArray off).run P w = .ok (ren E v) w ∧ ok N E v := by
  unfold aPart at h
  split at h
  · rename_i hr
    split at h
    · rename_i n hn
      cases h
      constructor
      · simp [part, Sem.run_bind, run_isAgg hr, run_sizeOf hn, ren, renA, renL_map]
      · simp only [ok, okA_iff]
        intro x hx
        exact hc x (List.mem_of_mem_drop (List.mem_of_mem_take hx))
    · cases h
  · rename_i hr
    constructor
    · simp [part, Sem.run_bind, run_isAgg hr, h]
    · exact hc v (List.mem_of_getElem? h)
  · cases h
end
end Go.Ev
