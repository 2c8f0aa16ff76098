import Derived.Test.YtkldglhihfjclaaGreatDoorEvJ
namespace Go.Ev
noncomputable section
variable {P : Program} {K : Nat → Bool} {w0 w : World} {σ : St} {E : Env}

/-! Bytes as a string. -/
def bytesOf : List Value → Option (List UInt8)
  | [] => some []
  | .int .u8 n :: l => match bytesOf l with
    | some r => some (UInt8.ofNat n.toNat :: r)
    | none => none
  | _ :: _ => none
theorem bytesOf_ints : ∀ {l : List Value} {r : List UInt8}, bytesOf l = some r → ∃ ns : List Int, l = ns.map (Value.int .u8) ∧ r = ns.map fun n => UInt8.ofNat n.toNat
  | [], r, h => by cases h; exact ⟨[], rfl, rfl⟩
  | .int k n :: l, r, h => by
    cases k <;> simp [bytesOf] at h
    split at h
    · rename_i r' hr
      obtain ⟨ns, h1, h2⟩ := bytesOf_ints hr
      cases h
      exact ⟨n :: ns, by simp [h1], by simp [h2]⟩
    · cases h
  | .bool _ :: _, _, h => by simp [bytesOf] at h
  | .float _ _ :: _, _, h => by simp [bytesOf] at h
  | .complex _ _ _ :: _, _, h => by simp [bytesOf] at h
  | .string _ :: _, _, h => by simp [bytesOf] at h
  | .pointer _ :: _, _, h => by simp [bytesOf] at h
  | .slice _ _ _ :: _, _, h => by simp [bytesOf] at h
  | .map _ :: _, _, h => by simp [bytesOf] at h
  | .chan _ :: _, _, h => by simp [bytesOf] at h
  | .func _ _ _ :: _, _, h => by simp [bytesOf] at h
  | .nilFunc :: _, _, h => by simp [bytesOf] at h
  | .iface _ _ :: _, _, h => by simp [bytesOf] at h
  | .nilIface :: _, _, h => by simp [bytesOf] at h
  | .agg _ :: _, _, h => by simp [bytesOf] at h
  | .tuple _ :: _, _, h => by simp [bytesOf] at h
theorem push_list (l : List UInt8) (x : UInt8) : ByteArray.push ⟨l.toArray⟩ x = ⟨(l ++ [x]).toArray⟩ := by
  simp [ByteArray.push]
theorem foldl_push : ∀ (ns : List Int) (acc : List UInt8), ns.foldl (fun r n => ByteArray.push r (UInt8.ofNat n.toNat)) ⟨acc.toArray⟩ = ⟨(acc ++ ns.map fun n => UInt8.ofNat n.toNat).toArray⟩
  | [], acc => by simp
  | n :: ns, acc => by rw [List.foldl_cons, push_list, foldl_push ns]; simp

def bytesT (P : Program) (t : TypeId) : Bool := match P.underlying t with
  | some (.slice e) => match P.underlying e with
    | some (.int .u8) => true
    | _ => false
  | _ => false
theorem bytesT_spec {t : TypeId} (h : bytesT P t = true) : ∃ e, P.underlying t = some (.slice e) ∧ P.underlying e = some (.int .u8) := by
  unfold bytesT at h
  split at h
  · rename_i e hu
    split at h
    · rename_i he; exact ⟨e, hu, he⟩
    · cases h
  · cases h
def strT (P : Program) (t : TypeId) : Bool := match P.underlying t with
  | some .string => true
  | _ => false
theorem strT_spec {t : TypeId} (h : strT P t = true) : P.underlying t = some .string := by
  unfold strT at h
  split at h
  · rename_i hu; exact hu
  · cases h

def aStrOf (P : Program) (σ : St) (src dst : TypeId) (x : Value) : Option Value :=
  match bytesT P src && strT P dst, x with
  | true, .slice none _ _ => some (.string ByteArray.empty)
  | true, .slice (some a) n _ => match σ.get a.block with
    | some (.cells cs _ _ _) => match Nat.beq ((cs.drop a.off).take n).length n, bytesOf ((cs.drop a.off).take n) with
      | true, some r => some (.string ⟨r.toArray⟩)
      | _, _ => none
    | _ => none
  | _, _ => none
theorem aStrOf_sound {src dst : TypeId} {x v : Value} (h : aStrOf P σ src dst x = some v) (hr : Rel K w0 σ E w) (hx : ok σ.next E x) :
    (convert src dst (ren E x)).run P w = .ok (ren E v) w ∧ ok σ.next E v := by
  unfold aStrOf at h
  split at h
  · rename_i ht
    cases h
    simp only [Bool.and_eq_true] at ht
    obtain ⟨e, h1, h2⟩ := bytesT_spec ht.1
    have h3 := strT_spec ht.2
    refine ⟨?_, by simp [ok]⟩
    simp [convert, Sem.run_bind, run_underlying h1, run_underlying h2, run_underlying h3, ren, Conv.bytesToString]
  · rename_i a n c ht
    simp only [Bool.and_eq_true] at ht
    obtain ⟨e, h1, h2⟩ := bytesT_spec ht.1
    have h3 := strT_spec ht.2
    split at h
    · rename_i cs ez g s hb
      split at h
      · rename_i r hl hby
        cases h
        have hl' := Nat.eq_of_beq_eq_true hl
        obtain ⟨ns, hn1, hn2⟩ := bytesOf_ints hby
        refine ⟨?_, by simp [ok]⟩
        simp only [ok] at hx
        have hcells : (loadCells (rRow E a c) n).run P w = .ok (ns.map (Value.int .u8)).toArray w := by
          have hrange := range_sub hr hb a.off n
          rw [hn1] at hrange hl'
          have : (ns.map (Value.int .u8)).map (ren E) = ns.map (Value.int .u8) := by simp [ren]
          rw [this] at hrange
          have h4 := run_loadCells_list (P := P) w (rRow E a c) (ns.map (Value.int .u8)) (fun j v hj => by
            have hpos : 0 < n := by
              have := (List.getElem?_eq_some_iff.mp hj).1; omega
            have hne : (E a.block).cap - c ≠ 0 := by omega
            simp only [rRow, if_neg hne, add_none]
            exact hrange j v hj)
          rwa [hl'] at h4
        have h5 := run_bytesToString (P := P) w (rRow E a c) n ((E a.block).cap - c) ns hcells
        have h6 : (convert src dst (ren E (.slice (some a) n c))).run P w = (Conv.bytesToString (.slice (some (rRow E a c)) n ((E a.block).cap - c))).run P w := by
          simp [convert, Sem.run_bind, run_underlying h1, run_underlying h2, run_underlying h3, ren]
        rw [h6, h5, hn2]
        have := foldl_push ns []
        simp only [List.nil_append] at this
        have e0 : (ByteArray.empty : ByteArray) = ⟨([] : List UInt8).toArray⟩ := rfl
        rw [e0, this]
        rfl
      · cases h
    · cases h
  · cases h

/-! What needs no change of the memory. -/
def evM0 (P : Program) (tm : List Value) (σ : St) (o : Oper) : Option Value :=
  match o.op with
  | .load t x => match evalO tm x with
    | some v => aLoad P σ t v
    | none => none
  | .lookup t x ix c => match evalO tm x, evalO tm ix with
    | some v, some u => match v with
      | .map _ => aLook P σ t v u c
      | _ => none
    | _, _ => none
  | .convert src dst x => match evalO tm x with
    | some v => match v with
      | .slice _ _ _ => aStrOf P σ src dst v
      | _ => evP P tm o
    | none => none
  | .call { callee := .builtin .len, args := args, argTypes := ty } => match args.toList, ty.toList with
    | [x], [t] => match mapT P t, evalO tm x with
      | some _, some (.map (some r)) => match σ.get r with
        | some (.map ks _ _ _) => some (.int .i64 ks.length)
        | _ => none
      | _, _ => evP P tm o
    | _, _ => none
  | _ => evP P tm o

def Yield (P : Program) (N : Nat) (E : Env) (w : World) (a : Act) (o : Oper) (v : Value) : Prop :=
  (execOp a.eval o).run P w = .ok (.value (ren E v)) w ∧ ok N E v

theorem evM0_sound {tm : List Value} (hr : Rel K w0 σ E w) (ht : ∀ v ∈ tm, ok σ.next E v) {o : Oper} {v : Value} (h : evM0 P tm σ o = some v) : Yield P σ.next E w (act E tm) o v := by
  have pure : evP P tm o = some v → Yield P σ.next E w (act E tm) o v := fun h => ⟨(evP_sound ht h).1 w, (evP_sound ht h).2⟩
  unfold evM0 at h
  split at h
  · rename_i t x hop
    split at h
    · rename_i u hu
      have h1 := eval_sound ht hu
      have h2 := aLoad_sound h hr
      exact ⟨by simp [execOp, hop, h1.1, h2.1], h2.2⟩
    · cases h
  · rename_i t x ix c hop
    split at h
    · rename_i u z hu hz
      split at h
      · have h1 := eval_sound ht hu
        have h3 := eval_sound ht hz
        have h2 := aLook_sound h hr
        exact ⟨by simp [execOp, hop, h1.1, h3.1, h2.1], h2.2⟩
      · cases h
    · cases h
  · rename_i src dst x hop
    split at h
    · rename_i u hu
      split at h
      · have h1 := eval_sound ht hu
        have h2 := aStrOf_sound h hr h1.2
        exact ⟨by simp [execOp, hop, h1.1, h2.1], h2.2⟩
      · exact pure h
    · cases h
  · rename_i args ty hop
    split at h
    · rename_i x t hargs hty
      split at h
      · rename_i kt r hm hx
        split at h
        · rename_i ks vs bo cl hg
          cases h
          have h1 := eval_sound ht hx
          refine ⟨?_, by simp [ok]⟩
          have ea : args = #[x] := by rw [← Array.toArray_toList (xs := args), hargs]
          have et : ty = #[t] := by rw [← Array.toArray_toList (xs := ty), hty]
          subst ea; subst et
          obtain ⟨es, e1, e2, e3, e4, -, -⟩ := hr.obj _ _ _ _ _ hg
          have hsz : es.size = ks.length := by
            rw [← Array.length_toList, e2]; simp; omega
          have hm' := mapT_spec (k := kt.1) (e := kt.2) hm
          unfold execOp; simp only [hop]
          simp [resolve, invoke, builtin, Builtin.len_, h1.1, ren, run_underlying hm', goInt, getObj, Sem.run, e1, hsz]
        · cases h
      · exact pure h
    · cases h
  · exact pure h
end
end Go.Ev
