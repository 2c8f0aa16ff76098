import Derived.Test.YtkldglhihfjclaaGreatDoorEvH
namespace Go.Ev
noncomputable section
variable {P : Program} {N : Nat} {E : Env} {w : World}

def evalQ (tm : List Value) : Option Operand → Option (Option Value)
  | none => some none
  | some x => match evalO tm x with
    | some v => some (some v)
    | none => none
theorem evalQ_sound {tm : List Value} (ht : ∀ v ∈ tm, ok N E v) {x : Option Operand} {v : Option Value} (h : evalQ tm x = some v) : x.map (act E tm).eval = v.map (ren E) := by
  cases x with
  | none => cases h; rfl
  | some x =>
    simp only [evalQ] at h
    split at h
    · rename_i u hu; cases h; simp [(eval_sound ht hu).1]
    · cases h

def evalP (tm : List Value) : List (Nat × Operand) → Option (List (Nat × Value))
  | [] => some []
  | (i, x) :: l => match evalO tm x, evalP tm l with
    | some v, some vs => some ((i, v) :: vs)
    | _, _ => none
theorem evalP_sound {tm : List Value} (ht : ∀ v ∈ tm, ok N E v) : ∀ {l : List (Nat × Operand)} {vs : List (Nat × Value)}, evalP tm l = some vs →
    l.map (fun x => (x.1, (act E tm).eval x.2)) = vs.map (fun x => (x.1, ren E x.2)) ∧ ∀ x ∈ vs, ok N E x.2
  | [], vs, h => by cases h; simp
  | (i, x) :: l, vs, h => by
    simp only [evalP] at h
    split at h
    · rename_i v us hv hus
      cases h
      have h1 := eval_sound ht hv
      have h2 := evalP_sound ht hus
      exact ⟨by simp [h1.1, h2.1], fun y hy => (List.mem_cons.mp hy).elim (fun e => e ▸ h1.2) (h2.2 y)⟩
    · cases h

def zeroT (P : Program) (t : TypeId) : Option (List Value) := match (P.info? t).bind (·.zero) with
  | some z => match plainL z.cells.toList with
    | true => some z.cells.toList
    | false => none
  | none => none
theorem run_zero {t : TypeId} {z : List Value} (h : zeroT P t = some z) (w : World) : ∃ v, (zeroValue t).run P w = .ok v w ∧ v.cells = z.toArray ∧ plainL z = true := by
  unfold zeroT at h
  split at h
  · rename_i v hv
    split at h
    · rename_i hp
      cases h
      cases hq : P.info? t with
      | none => simp [hq] at hv
      | some i =>
        simp [hq] at hv
        exact ⟨v, by simp [zeroValue, typeInfo, hq, hv], by simp, hp⟩
    · cases h
  · cases h

/-- Where the fields lie. -/
def placesL (P : Program) : List Field → Option (List (Nat × Nat))
  | [] => some []
  | f :: l => match szT P f.type, placesL P l with
    | some n, some r => some ((f.offset, n) :: r)
    | _, _ => none
theorem placesL_run : ∀ {l : List Field} {r : List (Nat × Nat)}, placesL P l = some r → ∀ w, (l.mapM (fun (f : Field) => (do pure (f.offset, ← sizeOf f.type) : Sem (Nat × Nat)))).run P w = .ok r w
  | [], r, h, w => by cases h; rfl
  | f :: l, r, h, w => by
    simp only [placesL] at h
    split at h
    · rename_i n r' hn hr
      cases h
      simp only [List.mapM_cons, Sem.run_bind, run_sizeOf hn, Result.andThen_ok, Sem.run_pure, placesL_run hr w]
    · cases h

def aBuild (P : Program) (t : TypeId) (parts : List (Nat × Value)) : Option Value :=
  match P.underlying t, zeroT P t with
  | some (.struct fs), some z => match placesL P fs.toList with
    | some pl => match fillL (fun i => pl[i]?) z parts with
      | some r => some (.agg r.toArray)
      | none => none
    | none => none
  | some (.array _ e), some z => match szT P e with
    | some n => match fillL (fun i => some (i * n, n)) z parts with
      | some r => some (.agg r.toArray)
      | none => none
    | none => none
  | _, _ => none
theorem aBuild_sound {t : TypeId} {parts : List (Nat × Value)} {v : Value} (h : aBuild P t parts = some v) (hp : ∀ x ∈ parts, ok N E x.2) (w : World) :
    (Instr.build t (parts.map fun x => (x.1, ren E x.2)).toArray).run P w = .ok (ren E v) w ∧ ok N E v := by
  unfold aBuild at h
  split at h
  · rename_i fs z hu hz
    split at h
    · rename_i pl hpl
      split at h
      · rename_i r hr
        cases h
        obtain ⟨zv, hz1, hz2, hz3⟩ := run_zero hz w
        have hf := fill_sound (N := N) (E := E) _ _ _ _ hr
        rw [map_plain E hz3] at hf
        constructor
        · unfold Instr.build
          simp only [Sem.run_bind, hz1, Result.andThen_ok, run_underlying hu]
          rw [show (Array.mapM (fun (f : Field) => (do pure (f.offset, ← sizeOf f.type) : Sem (Nat × Nat))) fs).run P w = .ok pl.toArray w from ?_]
          · simp only [Result.andThen_ok, hz2]
            have : (fun (x : Nat) => pl.toArray[x]?) = (fun (i : Nat) => pl[i]?) := by funext i; simp
            rw [this, hf.1]
            simp [ren, renA, renL_map]
          · have := placesL_run hpl w
            rw [Array.mapM_eq_mapM_toList]
            simp only [bind_pure_comp] at this
            simp [this]
        · simp only [ok, okA_iff]; exact fun x hx => hf.2.2 (ok_of_plainL _ _ hz3) hp x (by simpa using hx)
      · cases h
    · cases h
  · rename_i n e z hu hz
    split at h
    · rename_i sz hsz
      split at h
      · rename_i r hr
        cases h
        obtain ⟨zv, hz1, hz2, hz3⟩ := run_zero hz w
        have hf := fill_sound (N := N) (E := E) _ _ _ _ hr
        rw [map_plain E hz3] at hf
        constructor
        · unfold Instr.build
          simp only [Sem.run_bind, hz1, Result.andThen_ok, run_underlying hu, run_sizeOf hsz, hz2]
          rw [hf.1]
          simp [ren, renA, renL_map]
        · simp only [ok, okA_iff]; exact fun x hx => hf.2.2 (ok_of_plainL _ _ hz3) hp x (by simpa using hx)
      · cases h
    · cases h
  · cases h

def evP (P : Program) (tm : List Value) (o : Oper) : Option Value :=
  match o.op with
  | .move x | .assign x => evalO tm x
  | .pick c a b => match evalO tm c with
    | some (.bool true) => evalO tm a
    | some (.bool false) => evalO tm b
    | _ => none
  | .field t x f => match evalO tm x with
    | some v => aField P t v f
    | none => none
  | .extract x i => match evalO tm x with
    | some (.tuple vs) => vs.toList[i]?
    | _ => none
  | .makeFunc fn f c => match evalL tm f.toList, evalL tm c.toList with
    | some f, some c => some (.func fn f.toArray c.toArray)
    | _, _ => none
  | .slice t x lo hi none => match evalO tm x with
    | some (.slice a n c) => match evalQ tm lo, evalQ tm hi with
      | some l, some h => aSlice P t (.slice a n c) l h
      | _, _ => none
    | _ => evPlain P tm o
  | .fieldAddr t x f => match evalO tm x with
    | some v => aFieldAddr P t v f
    | none => none
  | .indexAddr t x i => match evalO tm x, evalO tm i with
    | some v, some u => aIndexAddr P t v u
    | _, _ => none
  | .nilCheck x => match evalO tm x with
    | some (.pointer (some a)) => some (.pointer (some a))
    | some (.func (.func f) a b) => some (.func (.func f) a b)
    | _ => none
  | .build t parts => match evalP tm parts.toList with
    | some ps => aBuild P t ps
    | none => none
  | .binOp .eql t x y _ => match evalO tm x, evalO tm y with
    | some u, some v => match nilEq P t u v with
      | some b => some (.bool b)
      | none => evPlain P tm o
    | _, _ => none
  | .binOp .neq t x y _ => match evalO tm x, evalO tm y with
    | some u, some v => match nilEq P t u v with
      | some b => some (.bool !b)
      | none => evPlain P tm o
    | _, _ => none
  | .call { callee := .builtin .len, args := args, argTypes := ty } => match args.toList, ty.toList with
    | [x], [t] => match P.underlying t, evalO tm x with
      | some (.slice _), some (.slice _ n _) => some (.int .i64 n)
      | _, _ => evPlain P tm o
    | _, _ => none
  | _ => evPlain P tm o

theorem evP_sound {tm : List Value} (ht : ∀ v ∈ tm, ok N E v) {o : Oper} {v : Value} (h : evP P tm o = some v) : Pure P N E (act E tm) o v := by
  unfold evP at h
  split at h
  · rename_i x hop
    have := eval_sound ht h
    exact ⟨fun w => by simp [execOp, hop, this.1], this.2⟩
  · rename_i x hop
    have := eval_sound ht h
    exact ⟨fun w => by simp [execOp, hop, this.1], this.2⟩
  · rename_i c a b hop
    split at h
    · rename_i hc
      have h1 := eval_sound ht hc
      have h2 := eval_sound ht h
      exact ⟨fun w => by simp [execOp, hop, h1.1, h2.1, ren, asBool], h2.2⟩
    · rename_i hc
      have h1 := eval_sound ht hc
      have h2 := eval_sound ht h
      exact ⟨fun w => by simp [execOp, hop, h1.1, h2.1, ren, asBool], h2.2⟩
    · cases h
  · rename_i t x f hop
    split at h
    · rename_i u hu
      have h1 := eval_sound ht hu
      exact ⟨fun w => by simp [execOp, hop, h1.1, (aField_sound h h1.2 w).1], (aField_sound h h1.2 default).2⟩
    · cases h
  · rename_i x i hop
    split at h
    · rename_i vs hu
      have h1 := eval_sound ht hu
      have h2 := h1.2
      simp only [ok, okA_iff] at h2
      refine ⟨fun w => ?_, h2 v (List.mem_of_getElem? h)⟩
      have h3 : (renA E vs)[i]? = some (ren E v) := by
        rw [renA_map]
        simp at h
        simp [h]
      simp [execOp, hop, h1.1, ren, Instr.extract, h3]
    · cases h
  · rename_i fn f c hop
    split at h
    · rename_i fs cs hf hc
      cases h
      have h1 := evalL_sound ht hf
      have h2 := evalL_sound ht hc
      refine ⟨fun w => ?_, by simp only [ok, okA_iff]; exact ⟨h1.2, h2.2⟩⟩
      have e1 : f.map (act E tm).eval = (fs.map (ren E)).toArray := by apply Array.ext'; rw [Array.toList_map, h1.1]
      have e2 : c.map (act E tm).eval = (cs.map (ren E)).toArray := by apply Array.ext'; rw [Array.toList_map, h2.1]
      simp [execOp, hop, Instr.makeFunc, e1, e2, ren, renA, renL_map]
    · cases h
  · rename_i t x lo hi hop
    split at h
    · rename_i a n c hx
      split at h
      · rename_i l hh hl hhi
        have h1 := eval_sound ht hx
        have h2 := aSlice_sound h h1.2
        refine ⟨fun w => ?_, (h2 default).2⟩
        have h3 := (h2 w).1
        rw [← h1.1, ← evalQ_sound ht hl, ← evalQ_sound ht hhi] at h3
        simp [execOp, hop, h3]
      · cases h
    · exact evPlain_sound ht h
  · rename_i t x f hop
    split at h
    · rename_i u hu
      have h1 := eval_sound ht hu
      exact ⟨fun w => by simp [execOp, hop, h1.1, (aFieldAddr_sound h h1.2 w).1], (aFieldAddr_sound h h1.2 default).2⟩
    · cases h
  · rename_i t x i hop
    split at h
    · rename_i u z hu hz
      have h1 := eval_sound ht hu
      have h2 := eval_sound ht hz
      exact ⟨fun w => by simp [execOp, hop, h1.1, h2.1, (aIndexAddr_sound h h1.2 w).1], (aIndexAddr_sound h h1.2 default).2⟩
    · cases h
  · rename_i x hop
    split at h
    · rename_i a hx
      cases h
      have h1 := eval_sound ht hx
      exact ⟨fun w => by unfold execOp; simp only [hop, h1.1, ren]; rfl, h1.2⟩
    · rename_i f a b hx
      cases h
      have h1 := eval_sound ht hx
      exact ⟨fun w => by unfold execOp; simp only [hop, h1.1, ren]; rfl, h1.2⟩
    · cases h
  · rename_i t parts hop
    split at h
    · rename_i ps hps
      have h1 := evalP_sound ht hps
      have h2 := aBuild_sound h h1.2
      refine ⟨fun w => ?_, (h2 default).2⟩
      have e : parts.map (fun x => (x.1, (act E tm).eval x.2)) = (ps.map fun x => (x.1, ren E x.2)).toArray := by apply Array.ext'; rw [Array.toList_map, h1.1]
      simp [execOp, hop]
      rw [e, (h2 w).1]
      rfl
    · cases h
  · rename_i t x y ty hop
    split at h
    · rename_i u z hu hz
      split at h
      · rename_i b hb
        cases h
        have h1 := eval_sound ht hu
        have h2 := eval_sound ht hz
        refine ⟨fun w => ?_, by simp [ok]⟩
        simp [execOp, hop, h1.1, h2.1, nilEq_guard hb, (nilEq_eql hb w).1, ren]
      · exact evPlain_sound ht h
    · cases h
  · rename_i t x y ty hop
    split at h
    · rename_i u z hu hz
      split at h
      · rename_i b hb
        cases h
        have h1 := eval_sound ht hu
        have h2 := eval_sound ht hz
        refine ⟨fun w => ?_, by simp [ok]⟩
        simp [execOp, hop, h1.1, h2.1, nilEq_guard hb, (nilEq_eql hb w).2, ren]
      · exact evPlain_sound ht h
    · cases h
  · rename_i args ty hop
    split at h
    · rename_i x t hargs hty
      split at h
      · rename_i e a n c hu hx
        cases h
        have h1 := eval_sound ht hx
        refine ⟨fun w => ?_, by simp [ok]⟩
        have ea : args = #[x] := by rw [← Array.toArray_toList (xs := args), hargs]
        have et : ty = #[t] := by rw [← Array.toArray_toList (xs := ty), hty]
        subst ea; subst et
        cases a <;> unfold execOp <;> simp only [hop] <;> simp [resolve, invoke, builtin, Builtin.len_, h1.1, ren, run_underlying hu, goInt]
      · exact evPlain_sound ht h
    · cases h
  · exact evPlain_sound ht h
end
end Go.Ev
