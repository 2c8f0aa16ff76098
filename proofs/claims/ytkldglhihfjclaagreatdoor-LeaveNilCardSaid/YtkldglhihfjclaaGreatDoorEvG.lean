import Derived.Test.YtkldglhihfjclaaGreatDoorEvF
namespace Go.Ev
noncomputable section
variable {P : Program} {N : Nat} {E : Env} {w : World}

def fieldsT (P : Program) (t : TypeId) : Option (Array Field) := match P.underlying t with
  | some (.struct fs) => some fs
  | _ => none
theorem fieldsT_spec {t : TypeId} {fs : Array Field} (h : fieldsT P t = some fs) : P.underlying t = some (.struct fs) := by
  unfold fieldsT at h
  split at h
  · rename_i fs' hu; cases h; exact hu
  · cases h

def aField (P : Program) (t : TypeId) (x : Value) (f : Nat) : Option Value :=
  match fieldsT P t, x with
  | some fs, .agg cs => match fs[f]? with
    | some fd => aPart P fd.type cs.toList fd.offset
    | none => none
  | _, _ => none
theorem aField_sound {t : TypeId} {x : Value} {f : Nat} {v : Value} (h : aField P t x f = some v) (hx : ok N E x) (w : World) :
    (Instr.field t (ren E x) f).run P w = .ok (ren E v) w ∧ ok N E v := by
  unfold aField at h
  split at h
  · rename_i fs cs hfs
    split at h
    · rename_i fd hfd
      simp only [ok, okA_iff] at hx
      have := aPart_sound h hx w
      refine ⟨?_, this.2⟩
      simp [Instr.field, Sem.run_bind, run_underlying (fieldsT_spec hfs), hfd, ren, asAgg]
      have e : (renA E cs) = (cs.toList.map (ren E)).toArray := by rw [renA_map, ← Array.toList_map]
      rw [e]; exact this.1
    · cases h
  · cases h

def aFieldAddr (P : Program) (t : TypeId) (x : Value) (f : Nat) : Option Value :=
  match fieldsT P t, x with
  | some fs, .pointer (some a) => match fs[f]? with
    | some fd => match szT P fd.type with
      | some (_ + 1) => some (.pointer (some ⟨a.block, a.off + fd.offset, none⟩))
      | _ => none
    | none => none
  | _, _ => none
theorem add_none (b o n : Nat) : (⟨b, o, none⟩ : Addr).add n = ⟨b, o + n, none⟩ := by unfold Addr.add; split <;> simp_all
theorem aFieldAddr_sound {t : TypeId} {x : Value} {f : Nat} {v : Value} (h : aFieldAddr P t x f = some v) (hx : ok N E x) (w : World) :
    (Instr.fieldAt t (ren E x) f).run P w = .ok (ren E v) w ∧ ok N E v := by
  unfold aFieldAddr at h
  split at h
  · rename_i fs a hfs
    split at h
    · rename_i fd hfd
      split at h
      · rename_i n hn
        cases h
        simp only [ok] at hx ⊢
        refine ⟨?_, hx⟩
        simp [Instr.fieldAt, Sem.run_bind, run_underlying (fieldsT_spec hfs), hfd, ren, rPtr, Instr.sureAddr, fieldPlace, run_sizeOf hn, add_none, Nat.add_assoc]
      · cases h
    · cases h
  · cases h

def aIndexAddr (P : Program) (t : TypeId) (x ix : Value) : Option Value :=
  match P.underlying t, x, ix with
  | some (.array len elem), .pointer (some a), .int _ i => match szT P elem, decide (0 ≤ i ∧ i < (len : Int)) with
    | some s, true => some (.pointer (some ⟨a.block, a.off + i.toNat * s, none⟩))
    | _, _ => none
  | some (.slice elem), .slice (some a) n _, .int _ i => match szT P elem, decide (0 ≤ i ∧ i < (n : Int)) with
    | some s, true => some (.pointer (some ⟨a.block, a.off + i.toNat * s, none⟩))
    | _, _ => none
  | _, _, _ => none
theorem aIndexAddr_sound {t : TypeId} {x ix : Value} {v : Value} (h : aIndexAddr P t x ix = some v) (hx : ok N E x) (w : World) :
    (Instr.indexAt t (ren E x) (ren E ix)).run P w = .ok (ren E v) w ∧ ok N E v := by
  unfold aIndexAddr at h
  split at h
  · rename_i len elem a k i hu
    split at h
    · rename_i s hs hi
      cases h
      simp only [ok] at hx ⊢
      refine ⟨?_, hx⟩
      have hi' : 0 ≤ i ∧ i < (len : Int) := of_decide_eq_true hi
      simp only [Instr.indexAt, Sem.run_bind, ren, asIntOf, Sem.run_pure, Result.andThen_ok, run_underlying hu, Instr.sureAddr, hi', and_self, if_true, run_sizeOf hs, rPtr, add_none, Nat.add_assoc]
    · cases h
  · rename_i elem a n c k i hu
    split at h
    · rename_i s hs hi
      cases h
      simp only [ok] at hx ⊢
      refine ⟨?_, hx.1⟩
      have hi' : 0 ≤ i ∧ i < (n : Int) := of_decide_eq_true hi
      have hne : (E a.block).cap - c ≠ 0 := by omega
      simp only [Instr.indexAt, Sem.run_bind, ren, asIntOf, Sem.run_pure, Result.andThen_ok, run_underlying hu, hi', and_self, if_true, run_sizeOf hs, rPtr, rRow, if_neg hne, add_none, Nat.add_assoc]
    · cases h
  · cases h

/-- A part of a row, without a third bound. -/
def aSlice (P : Program) (t : TypeId) (x : Value) (lo hi : Option Value) : Option Value :=
  match P.underlying t, x with
  | some (.slice elem), .slice a n c =>
    match (match lo with | none => some 0 | some (.int _ l) => (match decide (0 ≤ l) with | true => some l.toNat | false => none) | _ => none),
      (match hi with | none => some n | some (.int _ h) => (match decide (0 ≤ h) with | true => some h.toNat | false => none) | _ => none), szT P elem with
    | some l, some h, some s => match Nat.ble l h && Nat.ble h n with
      | true => match a with
        | none => some (.slice none 0 0)
        | some a => some (.slice (some ⟨a.block, a.off + l * s, match l with | 0 => a.spot | _ => some a.off⟩) (h - l) (c + l))
      | false => none
    | _, _, _ => none
  | _, _ => none

theorem bound_run {v : Value} {k : IntKind} {i : Int} {y : Nat} {code : BoundsCode} (hv : v = .int k i) (h0 : 0 ≤ i) (h1 : i ≤ (y : Int)) (w : World) :
    (Instr.sliceBound v y code).run P w = .ok i.toNat w := by
  subst hv
  simp [Instr.sliceBound, Sem.run_bind, asIntOf, h0, h1]

theorem aSlice_sound {t : TypeId} {x : Value} {lo hi : Option Value} {v : Value} (h : aSlice P t x lo hi = some v) (hx : ok N E x) (w : World) :
    (Instr.sliceAt t (ren E x) (lo.map (ren E)) (hi.map (ren E)) none).run P w = .ok (ren E v) w ∧ ok N E v := by
  unfold aSlice at h
  split at h
  · rename_i elem a n c hu
    split at h
    · rename_i l hh s hl hhi hs
      split at h
      · rename_i hb
        have hb' : l ≤ hh ∧ hh ≤ n := by simpa using hb
        -- the bounds
        have bounds : ∀ m, n ≤ m → (Instr.sliceBounds true n m (lo.map (ren E)) (hi.map (ren E)) none).run P w = .ok (l, hh, m) w := by
          intro m hm
          have h2 : (hi = none ∧ hh = n) ∨ ∃ k i, hi = some (.int k i) ∧ 0 ≤ i ∧ hh = i.toNat := by
            cases hi with
            | none => simp at hhi; exact Or.inl ⟨rfl, hhi.symm⟩
            | some y =>
              split at hhi
              · rename_i e; cases e
              · rename_i k i e
                cases e
                split at hhi
                · rename_i h0
                  cases hhi
                  exact Or.inr ⟨k, i, rfl, of_decide_eq_true h0, rfl⟩
                · cases hhi
              · cases hhi
          have h3 : (lo = none ∧ l = 0) ∨ ∃ k i, lo = some (.int k i) ∧ 0 ≤ i ∧ l = i.toNat := by
            cases lo with
            | none => simp at hl; exact Or.inl ⟨rfl, hl.symm⟩
            | some y =>
              split at hl
              · rename_i e; cases e
              · rename_i k i e
                cases e
                split at hl
                · rename_i h0
                  cases hl
                  exact Or.inr ⟨k, i, rfl, of_decide_eq_true h0, rfl⟩
                · cases hl
              · cases hl
          rcases h2 with ⟨rfl, rfl⟩ | ⟨k, i, rfl, h0, rfl⟩ <;> rcases h3 with ⟨rfl, rfl⟩ | ⟨k', i', rfl, h0', rfl⟩
          · simp [Instr.sliceBounds, Sem.run_bind]
          · have h4 : i' ≤ (hh : Int) := by omega
            simp [Instr.sliceBounds, Sem.run_bind, ren, bound_run (v := .int k' i') rfl h0' h4]
          · have h5 : i ≤ (m : Int) := by omega
            simp [Instr.sliceBounds, Sem.run_bind, ren, bound_run (v := .int k i) rfl h0 h5]
          · have h5 : i ≤ (m : Int) := by omega
            have h4 : i' ≤ (i.toNat : Int) := by omega
            simp only [Instr.sliceBounds, Sem.run_bind, Option.map_some, ren, bound_run (v := .int k i) rfl h0 h5, bound_run (v := .int k' i') rfl h0' h4, Sem.run_pure, Result.andThen_ok, Option.isSome_none, Bool.false_eq_true, if_false, if_true]
        split at h
        · cases h
          simp only [ok] at hx
          obtain ⟨rfl, rfl⟩ := hx
          have e1 : l = 0 := by omega
          have e2 : hh = 0 := by omega
          subst e1; subst e2
          refine ⟨?_, by simp [ok]⟩
          simp only [Instr.sliceAt, Instr.slice, Sem.run_bind, ren, run_underlying hu, Result.andThen_ok, bounds 0 (Nat.le_refl _), run_sizeOf hs, Sem.run_pure, if_true, Nat.sub_self]
        · rename_i a
          cases h
          simp only [ok] at hx
          refine ⟨?_, by simp only [ok]; exact ⟨hx.1, by omega⟩⟩
          simp only [Instr.sliceAt, Instr.slice, Sem.run_bind, ren, run_underlying hu, Result.andThen_ok, bounds _ (show n ≤ (E a.block).cap - c by omega), run_sizeOf hs, Sem.run_pure]
          congr 1
          by_cases e0 : l = 0
          · subst e0
            simp only [rRow, Nat.zero_mul, Nat.add_zero, Nat.sub_zero]
            by_cases e1 : (E a.block).cap - c = 0
            · simp [e1]
            · simp [e1, add_none]
          · have hc : (E a.block).cap - c ≠ 0 := by omega
            by_cases e1 : (E a.block).cap - c = l
            · have hz : (E a.block).cap - (c + l) = 0 := by omega
              obtain ⟨l', rfl⟩ : ∃ l', l = l' + 1 := ⟨l - 1, by omega⟩
              simp only [e1, if_true, Nat.sub_self, rRow, hz, Option.getD_some]
              simp
            · have hz : (E a.block).cap - (c + l) ≠ 0 := by omega
              simp only [rRow, if_neg hz, if_neg hc, if_neg e1, Option.map_some, add_none, Nat.add_assoc]
              congr 1
              omega
      · cases h
    · cases h
  · cases h
end
end Go.Ev
