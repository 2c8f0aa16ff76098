import Derived.Test.YtkldglhihfjclaaGreatDoorEvR
namespace Go.Ev
noncomputable section
variable {P : Program} {K : Nat → Bool} {w0 w : World} {σ : St} {E : Env}

def Good (N : Nat) (E : Env) (tm : List Value) : Prop := ∀ v ∈ tm, ok N E v
def putT (tm : List Value) (d : Option Tmp) (v : Value) : List Value := match d with
  | some d => tm.set d v
  | none => tm
theorem putT_act {N : Nat} {E E' : Env} {tm : List Value} (ht : Good N E tm) (he : Ext N E E') (d : Option Tmp) (v : Value) :
    (act E tm).put d (ren E' v) = act E' (putT tm d v) := by
  have := map_ren_ext he ht
  cases d with
  | none => simp [Act.put, act, putT, this]
  | some d => simp [Act.put, act, putT, List.map_set, this]
theorem putT_good {N N' : Nat} {E E' : Env} {tm : List Value} (ht : Good N E tm) (hn : N ≤ N') (he : Ext N E E') (d : Option Tmp) {v : Value} (hv : ok N' E' v) : Good N' E' (putT tm d v) := by
  intro x hx
  cases d with
  | none => exact ok_ext hn he x (ht x hx)
  | some d =>
    rcases List.mem_or_eq_of_mem_set hx with hx | hx
    · exact ok_ext hn he x (ht x hx)
    · rw [hx]; exact hv
theorem act_ext {N : Nat} {E E' : Env} {tm : List Value} (ht : Good N E tm) (he : Ext N E E') : act E' tm = act E tm := by simp [act, map_ren_ext he ht]

def wantedT (ops : Array Oper) (tm : List Value) (o : Oper) : Bool := match o.guard with
  | none => true
  | some (j, want) => match ((ops[j]?).bind (·.dst)).bind fun (t : Tmp) => tm[t]? with
    | some (.bool true) => want
    | some (.bool false) => !want
    | _ => false
theorem wantedT_sound (ops : Array Oper) (tm : List Value) (o : Oper) : Region.wanted o (yielded ops (act E tm).tmps) = wantedT ops tm o := by
  unfold Region.wanted wantedT
  cases o.guard with
  | none => rfl
  | some jw =>
    obtain ⟨j, want⟩ := jw
    simp only [yielded]
    cases hd : (ops[j]?).bind (·.dst) with
    | none => simp
    | some t =>
      simp only [Option.bind_some, act, List.getElem?_toArray, List.getElem?_map]
      cases ht : tm[t]? with
      | none => simp
      | some v =>
        simp only [Option.map_some]
        cases v with
        | bool b => cases b <;> cases want <;> simp [ren]
        | pointer a => cases a <;> simp [ren]
        | slice a => cases a <;> simp [ren]
        | map a => cases a <;> simp [ren]
        | _ => simp [ren]

def stepO0 (P : Program) (call : CallT) (ops : Array Oper) (tm : List Value) (σ : St) (o : Oper) : Option (List Value × St) :=
  match wantedT ops tm o with
  | false => some (putT tm o.dst undef, σ)
  | true => match kindOf P o.op with
    | 0 => match evM P tm σ o with
      | some v => some (putT tm o.dst v, σ)
      | none => none
    | 1 => match evE P tm σ o with
      | some (v, σ') => some (putT tm o.dst v, σ')
      | none => none
    | _ => match evC P call tm σ o with
      | some (v, σ') => some (putT tm o.dst v, σ')
      | none => none

/-- What comes behind a step. -/
def Then (K : Nat → Bool) (w0 : World) (σ : St) (E : Env) (tm' : List Value) (σ' : St) (next : Env → Act → World → Prop) : Prop :=
  ∀ E' w', Rel K w0 σ' E' w' → Ext σ.next E E' → Good σ'.next E' tm' → σ.next ≤ σ'.next → next E' (act E' tm') w'

theorem ok_undef {N : Nat} {E : Env} : ok N E undef := by simp [undef, ok, okA, okL]

theorem stepO0_sound {G : Nat → Option Obj} {call : CallT} (hc : CallOk P G call) (hK : Held G K w0) {ops : Array Oper} {tm tm' : List Value} {o : Oper} {σ' : St} {i : Nat} (hi : ops[i]? = some o)
    (h : stepO0 P call ops tm σ o = some (tm', σ')) (hr : Rel K w0 σ E w) (ht : Good σ.next E tm) {next : Act → World → Prop} {Q : Exit → Act → World → Prop}
    (hn : Then K w0 σ E tm' σ' fun _ => next) : wpOp P ops Q i next (act E tm) w := by
  unfold wpOp
  simp only [hi, wantedT_sound]
  unfold stepO0 at h
  split at h
  · rename_i hw
    cases h
    simp only [hw, Bool.false_eq_true, if_false]
    have e := putT_act ht (Ext.refl σ.next E) o.dst undef
    rw [ren_undef] at e
    rw [e]
    exact hn E w hr (Ext.refl _ _) (putT_good ht (Nat.le_refl _) (Ext.refl _ _) _ ok_undef) (Nat.le_refl _)
  · rename_i hw
    simp only [hw, if_true]
    refine Or.inl ?_
    split at h
    · split at h
      · rename_i v hv
        cases h
        have hy := evM_sound hr ht hv
        refine wp_yield hy ?_
        rw [putT_act ht (Ext.refl σ.next E)]
        exact hn E w hr (Ext.refl _ _) (putT_good ht (Nat.le_refl _) (Ext.refl _ _) _ hy.2) (Nat.le_refl _)
      · cases h
    · split at h
      · rename_i v s hv
        cases h
        refine wp_leads (evE_sound ht hv hr) fun E' w' e1 e2 e3 e4 => ?_
        show next ((act E tm).put o.dst (ren E' v)) w'
        rw [putT_act ht e2]
        exact hn E' w' e1 e2 (putT_good ht e4 e2 _ e3) e4
      · cases h
    · split at h
      · rename_i v s hv
        cases h
        refine wp_call hc hK ht hv hr fun E' w' e1 e2 e3 e4 => ?_
        show next ((act E tm).put o.dst (ren E' v)) w'
        rw [putT_act ht e2]
        exact hn E' w' e1 e2 (putT_good ht e4 e2 _ e3) e4
      · cases h

structure SF where
  run : List Value → St → Option (List Value × St)
def putN (l : List Value) : Nat → Value → List Value := List.rec (motive := fun _ => Nat → Value → List Value) (fun _ _ => [])
  (fun x t ih n v => Nat.rec (motive := fun _ => List Value) (v :: t) (fun m _ => x :: ih m v) n) l
theorem putN_eq : ∀ (l : List Value) (n : Nat) (v : Value), putN l n v = l.set n v
  | [], _, _ => rfl
  | _ :: _, 0, _ => rfl
  | x :: l, n + 1, v => by
    show x :: putN l n v = _
    rw [putN_eq l n v]; rfl
structure PF where
  f : List Value → Value → List Value
def cPut : Option Tmp → PF
  | some d => ⟨fun tm v => putN tm d v⟩
  | none => ⟨fun tm _ => tm⟩
theorem cPut_eq (d : Option Tmp) (tm : List Value) (v : Value) : (cPut d).f tm v = putT tm d v := by
  cases d <;> simp [cPut, putT, putN_eq]
def cBody (P : Program) (call : CallT) (o : Oper) : SF := match kindOf P o.op with
  | 0 => ⟨fun tm σ => match (cOp P o).run tm σ with
    | some v => some ((cPut o.dst).f tm v, σ)
    | none => none⟩
  | 1 => ⟨fun tm σ => match (cEff P o).run tm σ with
    | some (v, σ') => some ((cPut o.dst).f tm v, σ')
    | none => none⟩
  | _ => ⟨fun tm σ => match evC P call tm σ o with
    | some (v, σ') => some ((cPut o.dst).f tm v, σ')
    | none => none⟩
def cStep (P : Program) (call : CallT) (ops : Array Oper) (o : Oper) : SF := match o.guard with
  | none => cBody P call o
  | some (j, want) => match (ops[j]?).bind (·.dst) with
    | some t => match want with
      | true => ⟨fun tm σ => match nth tm t with
        | some (.bool true) => (cBody P call o).run tm σ
        | _ => some ((cPut o.dst).f tm undef, σ)⟩
      | false => ⟨fun tm σ => match nth tm t with
        | some (.bool false) => (cBody P call o).run tm σ
        | _ => some ((cPut o.dst).f tm undef, σ)⟩
    | none => ⟨fun tm σ => some ((cPut o.dst).f tm undef, σ)⟩
def stepO (P : Program) (call : CallT) (ops : Array Oper) (tm : List Value) (σ : St) (o : Oper) : Option (List Value × St) := (cStep P call ops o).run tm σ
theorem cBody_eq {call : CallT} {ops : Array Oper} {tm : List Value} {o : Oper} {r : List Value × St} (h : (cBody P call o).run tm σ = some r) (hw : wantedT ops tm o = true) : stepO0 P call ops tm σ o = some r := by
  unfold stepO0
  rw [hw]
  unfold cBody at h
  simp only []
  generalize kindOf P o.op = k at h ⊢
  match k with
  | 0 => simp only [cPut_eq] at h; exact h
  | 1 => simp only [cPut_eq] at h; exact h
  | k + 2 => simp only [cPut_eq] at h; exact h
theorem stepO_eq {call : CallT} {ops : Array Oper} {tm : List Value} {o : Oper} {r : List Value × St} (h : stepO P call ops tm σ o = some r) : stepO0 P call ops tm σ o = some r := by
  unfold stepO cStep at h
  split at h
  · rename_i hg; exact cBody_eq h (by simp [wantedT, hg])
  · rename_i j want hg
    split at h
    · rename_i t ht
      cases want with
      | true =>
        simp only [nth_eq, cPut_eq] at h
        split at h
        · rename_i hb; exact cBody_eq h (by simp [wantedT, hg, ht, hb])
        · rename_i hb
          have hw : wantedT ops tm o = false := by
            unfold wantedT
            rw [hg]
            simp only [ht, Option.bind_some]
            split
            · rename_i e; exact absurd e hb
            · rfl
            · rfl
          unfold stepO0; rw [hw]; exact h
      | false =>
        simp only [nth_eq, cPut_eq] at h
        split at h
        · rename_i hb; exact cBody_eq h (by simp [wantedT, hg, ht, hb])
        · rename_i hb
          have hw : wantedT ops tm o = false := by
            unfold wantedT
            rw [hg]
            simp only [ht, Option.bind_some]
            split
            · rfl
            · rename_i e; exact absurd e hb
            · rfl
          unfold stepO0; rw [hw]; exact h
    · rename_i ht
      have hw : wantedT ops tm o = false := by
        unfold wantedT; rw [hg]; simp [ht]
      simp only [cPut_eq] at h
      unfold stepO0; rw [hw]; exact h
theorem stepO_sound {G : Nat → Option Obj} {call : CallT} (hc : CallOk P G call) (hK : Held G K w0) {ops : Array Oper} {tm tm' : List Value} {o : Oper} {σ' : St} {i : Nat} (hi : ops[i]? = some o)
    (h : stepO P call ops tm σ o = some (tm', σ')) (hr : Rel K w0 σ E w) (ht : Good σ.next E tm) {next : Act → World → Prop} {Q : Exit → Act → World → Prop}
    (hn : Then K w0 σ E tm' σ' fun _ => next) : wpOp P ops Q i next (act E tm) w := stepO0_sound hc hK hi (stepO_eq h) hr ht hn

/-! A region in its own order. -/
def cSeq (P : Program) (call : CallT) (ops : Array Oper) : List Oper → SF
  | [] => ⟨fun tm σ => some (tm, σ)⟩
  | o :: l => ⟨fun tm σ => match (cStep P call ops o).run tm σ with
    | some (tm', σ') => (cSeq P call ops l).run tm' σ'
    | none => none⟩
def seqO (P : Program) (call : CallT) (ops : Array Oper) (l : List Oper) (tm : List Value) (σ : St) : Option (List Value × St) := (cSeq P call ops l).run tm σ
theorem seqO_sound {G : Nat → Option Obj} {call : CallT} (hc : CallOk P G call) (hK : Held G K w0) {ops : Array Oper} {Q : Exit → Act → World → Prop} : ∀ (l : List Oper) (k : Nat) (tm : List Value) (σ : St) (E : Env) (w : World) (tm' : List Value) (σ' : St),
    ops.toList.drop k = l → seqO P call ops l tm σ = some (tm', σ') → Rel K w0 σ E w → Good σ.next E tm → (Then K w0 σ E tm' σ' fun _ => Q .normal) →
    wpOps P ops Q ((List.range ops.size).drop k) (act E tm) w
  | [], k, tm, σ, E, w, tm', σ', hl, h, hr, ht, hn => by
    simp only [seqO, cSeq] at h
    cases h
    have hk : ops.size ≤ k := by have := congrArg List.length hl; simp at this; omega
    rw [List.drop_eq_nil_of_le (by simpa using hk)]
    exact hn E w hr (Ext.refl _ _) ht (Nat.le_refl _)
  | o :: l, k, tm, σ, E, w, tm', σ', hl, h, hr, ht, hn => by
    simp only [seqO, cSeq] at h
    split at h
    · rename_i tm1 σ1 h1
      have h1 : stepO P call ops tm σ o = some (tm1, σ1) := h1
      have hk : k < ops.size := by
        rcases Nat.lt_or_ge k ops.size with h2 | h2
        · exact h2
        · rw [List.drop_eq_nil_of_le (by simpa using h2)] at hl; cases hl
      have ho : ops[k]? = some o := by
        have := congrArg (fun x : List Oper => x[0]?) hl
        simpa using this
      have hd : (List.range ops.size).drop k = k :: (List.range ops.size).drop (k + 1) := by
        rw [List.drop_eq_getElem_cons (by simpa using hk)]; simp
      rw [hd, wpOps_cons]
      refine stepO_sound hc hK ho h1 hr ht fun E1 w1 e1 e2 e3 e4 => ?_
      refine seqO_sound hc hK l (k + 1) tm1 σ1 E1 w1 tm' σ' ?_ h e1 e3 fun E' w' f1 f2 f3 f4 => hn E' w' f1 (e2.trans e4 f2) f3 (Nat.le_trans e4 f4)
      have := congrArg List.tail hl
      simpa [List.tail_drop] using this
    · cases h

theorem region_sound {G : Nat → Option Obj} {call : CallT} (hc : CallOk P G call) (hK : Held G K w0) {ops : Array Oper} {id : Nat} {Q : Exit → Act → World → Prop} {tm tm' : List Value} {σ' : St}
    (h : seqO P call ops ops.toList tm σ = some (tm', σ')) (hr : Rel K w0 σ E w) (ht : Good σ.next E tm) (hn : Then K w0 σ E tm' σ' fun _ => Q .normal) :
    (Code.region id ops false).wp P Q (act E tm) w :=
  wp_region (by have := seqO_sound hc hK ops.toList 0 tm σ E w tm' σ' rfl h hr ht hn; simpa using this)
end
end Go.Ev
