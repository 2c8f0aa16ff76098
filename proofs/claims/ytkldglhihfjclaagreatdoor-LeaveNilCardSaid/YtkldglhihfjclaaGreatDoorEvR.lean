import Derived.Test.YtkldglhihfjclaaGreatDoorEvQ
namespace Go.Ev
noncomputable section
variable {P : Program} {K : Nat → Bool} {w0 w : World} {σ : St} {E : Env}

def evE0 (P : Program) (tm : List Value) (σ : St) (o : Oper) : Option (Value × St) :=
  match o.op with
  | .alloc t => eAlloc P σ t
  | .box _ x => match evalO tm x with
    | some v => eBox σ v
    | none => none
  | .buildSlice t n parts => match evalP tm parts.toList with
    | some ps => eBuildSlice P σ t n ps
    | none => none
  | .store t p x => match evalO tm p, evalO tm x with
    | some a, some v => eStore P σ t a v
    | _, _ => none
  | .makeMap _ none => eMakeMap' σ
  | .makeMap t (some n) => match evalO tm n with
    | some c => eMakeMapN P σ t c
    | none => none
  | .makeSlice t l c => match evalO tm l, evalO tm c with
    | some a, some b => eMakeSlice P σ t a b
    | _, _ => none
  | .range t x => match evalO tm x with
    | some v => eRange P σ t v
    | none => none
  | .next it b => match evalO tm it with
    | some v => eNext σ v b
    | none => none
  | .convert src dst x => match evalO tm x with
    | some (.string s) => eBytes P σ src dst s
    | some v => eSame P σ src dst v
    | none => none
  | .slice t x none (some hi) (some mx) => match evalO tm x, evalO tm hi, evalO tm mx with
    | some v, some h, some m => eSlice3 P σ t v h m
    | _, _, _ => none
  | .mapUpdate t m k x => match evalO tm m, evalO tm k, evalO tm x with
    | some m, some k, some v => eMapUpdate P σ t m k v
    | _, _, _ => none
  | .call { callee := .builtin .append, args := args, argTypes := ty } => match args.toList, ty.toList with
    | [s, x], [t, u] => match evalO tm s, evalO tm x with
      | some a, some v => eAppend P σ t u a v
      | _, _ => none
    | _, _ => none
  | .call { callee := .builtin .delete, args := args, argTypes := ty } => match args.toList, ty.toList with
    | [s, x], [t, _] => match evalO tm s, evalO tm x with
      | some a, some v => eDelete P σ t a v
      | _, _ => none
    | _, _ => none
  | _ => none

theorem toArray2 {α : Type} {xs : Array α} {a b : α} (h : xs.toList = [a, b]) : xs = #[a, b] := by rw [← Array.toArray_toList (xs := xs), h]

theorem evE0_sound {tm : List Value} (ht : ∀ v ∈ tm, ok σ.next E v) {o : Oper} {v : Value} {σ' : St} (h : evE0 P tm σ o = some (v, σ')) (hr : Rel K w0 σ E w) :
    Leads K w0 σ E v σ' ((execOp (act E tm).eval o).run P w) := by
  unfold evE0 at h
  split at h
  · rename_i t hop
    have := eAlloc_sound h hr
    simpa only [execOp, hop] using this
  · rename_i t x hop
    split at h
    · rename_i u hu
      have h1 := eval_sound ht hu
      have := eBox_sound (P := P) (t := t) h hr h1.2
      simpa only [execOp, hop, h1.1] using this
    · cases h
  · rename_i t n parts hop
    split at h
    · rename_i ps hps
      have h1 := evalP_sound ht hps
      have := eBuildSlice_sound h hr h1.2
      have e : parts.map (fun x => (x.1, (act E tm).eval x.2)) = (ps.map fun x => (x.1, ren E x.2)).toArray := by apply Array.ext'; rw [Array.toList_map, h1.1]
      rw [← e] at this
      simpa only [execOp, hop] using this
    · cases h
  · rename_i t p x hop
    split at h
    · rename_i a u ha hu
      have h1 := eval_sound ht ha
      have h2 := eval_sound ht hu
      have := eStore_sound h hr h2.2
      simpa only [execOp, hop, h1.1, h2.1] using this
    · cases h
  · rename_i t hop
    have := eMakeMap_sound (P := P) (t := t) h hr
    simpa only [execOp, hop, Option.map_none] using this
  · rename_i t n hop
    split at h
    · rename_i c hc
      have h1 := eval_sound ht hc
      have := eMakeMapN_sound h hr
      simpa only [execOp, hop, Option.map_some, h1.1] using this
    · cases h
  · rename_i t x y hop
    split at h
    · rename_i u z hu hz
      have h1 := eval_sound ht hu
      have h2 := eval_sound ht hz
      have := eMakeSlice_sound h hr
      simpa only [execOp, hop, h1.1, h2.1] using this
    · cases h
  · rename_i t x hop
    split at h
    · rename_i u hu
      have h1 := eval_sound ht hu
      have := eRange_sound h hr
      simpa only [execOp, hop, h1.1] using this
    · cases h
  · rename_i it b hop
    split at h
    · rename_i u hu
      have h1 := eval_sound ht hu
      have := eNext_sound (P := P) (ty := o.type) h hr
      simpa only [execOp, hop, h1.1] using this
    · cases h
  · rename_i src dst x hop
    split at h
    · rename_i s hu
      have h1 := eval_sound ht hu
      have := eBytes_sound h hr
      simpa only [execOp, hop, h1.1] using this
    · rename_i v _ hu
      have h1 := eval_sound ht hu
      have := eSame_sound h hr h1.2
      simpa only [execOp, hop, h1.1] using this
    · cases h
  · rename_i t x hi mx hop
    split at h
    · rename_i a u z ha hu hz
      have h1 := eval_sound ht ha
      have h2 := eval_sound ht hu
      have h3 := eval_sound ht hz
      have := eSlice3_sound h hr h1.2
      simpa only [execOp, hop, h1.1, h2.1, h3.1, Option.map_none, Option.map_some] using this
    · cases h
  · rename_i t m k x hop
    split at h
    · rename_i a u z ha hu hz
      have h1 := eval_sound ht ha
      have h2 := eval_sound ht hu
      have h3 := eval_sound ht hz
      have := eMapUpdate_sound h hr h3.2
      simpa only [execOp, hop, h1.1, h2.1, h3.1] using this
    · cases h
  · rename_i args ty hop
    split at h
    · rename_i s x t u hargs hty
      split at h
      · rename_i a z ha hz
        have h1 := eval_sound ht ha
        have h2 := eval_sound ht hz
        have := eAppend_sound (ty := o.type) h hr h1.2 h2.2
        have ea := toArray2 hargs
        have et := toArray2 hty
        subst ea; subst et
        unfold execOp
        simp only [hop]
        simpa [resolve, invoke, builtin, h1.1, h2.1] using this
      · cases h
    · cases h
  · rename_i args ty hop
    split at h
    · rename_i s x t u hargs hty
      split at h
      · rename_i a z ha hz
        have h1 := eval_sound ht ha
        have h2 := eval_sound ht hz
        have := eDelete_sound (ty := o.type) (xt := u) h hr
        have ea := toArray2 hargs
        have et := toArray2 hty
        subst ea; subst et
        unfold execOp
        simp only [hop]
        simpa [resolve, invoke, builtin, h1.1, h2.1] using this
      · cases h
    · cases h
  · cases h

structure EF where
  run : List Value → St → Option (Value × St)
def cEff (P : Program) (o : Oper) : EF := match o.op with
  | .alloc t => ⟨fun _ σ => eAlloc P σ t⟩
  | .box _ x => ⟨fun tm σ => match (cO x).g tm with
    | some v => eBox σ v
    | none => none⟩
  | .store t p x => ⟨fun tm σ => match (cO p).g tm, (cO x).g tm with
    | some a, some v => eStore P σ t a v
    | _, _ => none⟩
  | .call { callee := .builtin .append, args := args, argTypes := ty } => match args.toList, ty.toList with
    | [s, x], [t, u] => ⟨fun tm σ => match (cO s).g tm, (cO x).g tm with
      | some a, some v => eAppend P σ t u a v
      | _, _ => none⟩
    | _, _ => ⟨fun _ _ => none⟩
  | _ => ⟨fun tm σ => evE0 P tm σ o⟩
def evE (P : Program) (tm : List Value) (σ : St) (o : Oper) : Option (Value × St) := (cEff P o).run tm σ
theorem evE_eq {tm : List Value} {o : Oper} {r : Value × St} (h : evE P tm σ o = some r) : evE0 P tm σ o = some r := by
  unfold evE cEff at h
  split at h
  · rename_i t hop; simp only [evE0, hop]; exact h
  · rename_i t x hop; simp only [cO_eq] at h; simp only [evE0, hop]; exact h
  · rename_i t p x hop; simp only [cO_eq] at h; simp only [evE0, hop]; exact h
  · rename_i args ty hop
    simp only [evE0, hop]
    split at h
    · rename_i s x t u ha ht
      simp only [cO_eq] at h
      exact h
    · cases h
  · exact h
theorem evE_sound {tm : List Value} (ht : ∀ v ∈ tm, ok σ.next E v) {o : Oper} {v : Value} {σ' : St} (h : evE P tm σ o = some (v, σ')) (hr : Rel K w0 σ E w) :
    Leads K w0 σ E v σ' ((execOp (act E tm).eval o).run P w) := evE0_sound ht (evE_eq h) hr

/-- 0: needs no change of the memory; 1: changes it; 2: a call. -/
def kindOf (P : Program) : Op → Nat
  | .alloc _ | .box _ _ | .buildSlice _ _ _ | .store _ _ _ | .makeMap _ _ | .makeSlice _ _ _ | .range _ _ | .next _ _ | .mapUpdate _ _ _ _ => 1
  | .slice _ _ _ _ (some _) => 1
  | .convert src dst _ => match (strT P src || Nat.beq src dst) && bytesT P dst with
    | true => 1
    | false => 0
  | .call { callee := .builtin .append, .. } | .call { callee := .builtin .copy, .. } | .call { callee := .builtin .delete, .. } => 1
  | .call { callee := .value (.func f), .. } => match P.funcs[f]? with
    | some fn => match fn.body with
      | some _ => 2
      | none => 0
    | none => 0
  | .call { callee := .value _, .. } => 2
  | _ => 0

abbrev CallT := FuncId → List Value → St → Option (Value × St)
def enters (P : Program) (f : FuncId) : Bool := match P.funcs[f]? with
  | some fn => !(fn.name == "runtime.NumGoroutine") && fn.body.isSome
  | none => false
def evC (P : Program) (call : CallT) (tm : List Value) (σ : St) (o : Oper) : Option (Value × St) :=
  match o.op with
  | .call { callee := .value x, args := args, .. } => match evalO tm x, evalL tm args.toList with
    | some (.func (.func f) first capt), some vs => match enters P f with
      | true => call f (first.toList ++ vs ++ capt.toList) σ
      | false => none
    | _, _ => none
  | _ => none

/-- What stands from the start and is never touched. -/
def Held (G : Nat → Option Obj) (K : Nat → Bool) (w0 : World) : Prop := ∀ r o, G r = some o → K r = false ∧ w0.heap[r]? = some o
theorem held_now {G : Nat → Option Obj} (h : Held G K w0) (hr : Rel K w0 σ E w) {r : Nat} {o : Obj} (hg : G r = some o) : w.heap[r]? = some o := by
  obtain ⟨h1, h2⟩ := h r o hg
  rw [hr.frame r (by rw [Array.getElem?_eq_some_iff] at h2; exact h2.1) h1]; exact h2

def CallOk (P : Program) (G : Nat → Option Obj) (call : CallT) : Prop := ∀ f args σ v σ', call f args σ = some (v, σ') → ∀ (K : Nat → Bool) (w0 : World), Held G K w0 → ∀ (E : Env) (w : World), Rel K w0 σ E w → (∀ x ∈ args, ok σ.next E x) →
  Calls P f (args.map (ren E)).toArray w fun e w' => ∃ E', e = .returned (ren E' v) ∧ Rel K w0 σ' E' w' ∧ Ext σ.next E E' ∧ ok σ'.next E' v ∧ σ.next ≤ σ'.next

/-- Behind an operation. -/
def After (K : Nat → Bool) (w0 : World) (σ : St) (E : Env) (v : Value) (σ' : St) (next : Env → World → Prop) : Prop :=
  ∀ E' w', Rel K w0 σ' E' w' → Ext σ.next E E' → ok σ'.next E' v → σ.next ≤ σ'.next → next E' w'

theorem ren_undef (E : Env) : ren E undef = undef := by simp [undef, ren, renA, renL]

theorem wp_yield {tm : List Value} {o : Oper} {v : Value} {next : Act → World → Prop} {Q : Exit → Act → World → Prop} (h : Yield P σ.next E w (act E tm) o v) (hn : next ((act E tm).put o.dst (ren E v)) w) :
    o.wp P (act E tm) w next Q := by
  unfold Oper.wp
  rw [h.1]
  exact hn
theorem wp_leads {tm : List Value} {o : Oper} {v : Value} {σ' : St} {next : Act → World → Prop} {Q : Exit → Act → World → Prop} (h : Leads K w0 σ E v σ' ((execOp (act E tm).eval o).run P w))
    (hn : After K w0 σ E v σ' fun E' w' => next ((act E tm).put o.dst (ren E' v)) w') : o.wp P (act E tm) w next Q := by
  obtain ⟨E', w', x, h1, h2, h3, h4, h5, h6⟩ := h
  unfold Oper.wp
  rw [h1]
  have := hn E' w' h3 h4 h5 h6
  rcases h2 with rfl | ⟨rfl, rfl⟩
  · exact this
  · rw [ren_undef] at this; exact this
theorem wp_call {G : Nat → Option Obj} {call : CallT} (hc : CallOk P G call) (hK : Held G K w0) {tm : List Value} (ht : ∀ v ∈ tm, ok σ.next E v) {o : Oper} {v : Value} {σ' : St} {next : Act → World → Prop} {Q : Exit → Act → World → Prop}
    (h : evC P call tm σ o = some (v, σ')) (hr : Rel K w0 σ E w) (hn : After K w0 σ E v σ' fun E' w' => next ((act E tm).put o.dst (ren E' v)) w') : o.wp P (act E tm) w next Q := by
  unfold evC at h
  split at h
  · rename_i x args ty hop
    split at h
    · rename_i f first capt vs hx hvs
      split at h
      · rename_i hen
        have h1 := eval_sound ht hx
        have h2 := evalL_sound ht hvs
        have h3 := h1.2
        simp only [ok, okA_iff] at h3
        have hall : ∀ y ∈ first.toList ++ vs ++ capt.toList, ok σ.next E y := by
          intro y hy
          rcases List.mem_append.mp hy with hy | hy
          · rcases List.mem_append.mp hy with hy | hy
            · exact h3.1 y hy
            · exact h2.2 y hy
          · exact h3.2 y hy
        have hC := hc f _ σ v σ' h K w0 hK E w hr hall
        have hargs : args.map (act E tm).eval = (vs.map (ren E)).toArray := by apply Array.ext'; rw [Array.toList_map, h2.1]
        unfold Oper.wp
        have hrun : (execOp (act E tm).eval o).run P w = .ok (.enter f ((first.toList ++ vs ++ capt.toList).map (ren E)).toArray) w := by
          unfold execOp
          simp only [hop]
          unfold enters at hen
          split at hen
          · rename_i fn hfn
            simp only [Bool.and_eq_true, Bool.not_eq_true'] at hen
            have hbody : fn.body.isNone = false := by cases hb : fn.body <;> simp_all
            simp only [Sem.run_bind, resolve, h1.1, ren, Deferred.ofValue, Sem.run_pure, Result.andThen_ok, invoke, callFunc, run_program, hfn, hen.1, Bool.false_eq_true, if_false, hbody]
            congr 2
            rw [hargs, renA_map, renA_map]
            apply Array.ext'
            simp [List.append_assoc]
          · cases hen
        rw [hrun]
        unfold Oper.upon
        refine Calls.mono hC fun e w' he => ?_
        obtain ⟨E', rfl, e1, e2, e3, e4⟩ := he
        exact hn E' w' e1 e2 e3 e4
      · cases h
    · cases h
  · cases h
end
end Go.Ev
