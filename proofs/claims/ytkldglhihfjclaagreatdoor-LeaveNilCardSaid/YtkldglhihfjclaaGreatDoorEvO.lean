import Derived.Test.YtkldglhihfjclaaGreatDoorEvN
namespace Go.Ev
noncomputable section
variable {P : Program} {K : Nat → Bool} {w0 w : World} {σ : St} {E : Env}

def eMakeMap' (σ : St) : Option (Value × St) := match σ.room with
  | true => some (.map (some σ.next), σ.newOb (.map [] [] [] 0))
  | false => none
theorem eMakeMap_sound {t : TypeId} {v : Value} {σ' : St} (h : eMakeMap' σ = some (v, σ')) (hr : Rel K w0 σ E w) :
    Leads K w0 σ E v σ' ((do pure (.value (← Instr.makeMap t none)) : Sem Next).run P w) := by
  unfold eMakeMap' at h
  split at h
  · rename_i hroom
    cases h
    have hN := hr.pushOb hroom (o := .map [] [] [] 0) (r := .map #[] 0) ⟨#[], rfl, rfl, rfl, rfl, by simp, by simp⟩
    have hrun : (do pure (.value (← Instr.makeMap t none)) : Sem Next).run P w = .ok (.value (.map (some w.heap.size))) { w with heap := w.heap.push (.map #[] 0) } := by
      simp [Instr.makeMap]
    rw [hrun]
    refine ⟨_, _, _, rfl, Or.inl ?_, hN, upd_ext E _ _, by simp [ok, St.newOb], by simp [St.newOb]⟩
    simp [ren, upd_same]
  · cases h

theorem zip_set {ks vs : List Value} {bo : List Nat} (i : Nat) (k v : Value) (h1 : ks.length = vs.length) (h2 : vs.length = bo.length) :
    ((ks.zip (vs.zip bo)).map (entE E)).modify i (fun e => { e with key := ren E k, val := ren E v }) = ((ks.set i k).zip ((vs.set i v).zip bo)).map (entE E) := by
  apply List.ext_getElem?
  intro j
  rw [List.getElem?_modify]
  simp only [List.getElem?_map]
  by_cases hij : i = j
  · subst hij
    by_cases hl : i < ks.length
    · have a1 : i < vs.length := by omega
      have a2 : i < bo.length := by omega
      have b1 : (ks.zip (vs.zip bo))[i]? = some (ks[i], vs[i], bo[i]) := by rw [List.getElem?_eq_getElem (by simp; omega)]; simp
      have b2 : ((ks.set i k).zip ((vs.set i v).zip bo))[i]? = some (k, v, bo[i]) := by rw [List.getElem?_eq_getElem (by simp; omega)]; simp
      rw [b1, b2]; simp [entE]
    · rw [List.getElem?_eq_none (by simp; omega), List.getElem?_eq_none (by simp; omega)]; simp
  · by_cases hl : j < ks.length
    · have a1 : j < vs.length := by omega
      have a2 : j < bo.length := by omega
      have b1 : (ks.zip (vs.zip bo))[j]? = some (ks[j], vs[j], bo[j]) := by rw [List.getElem?_eq_getElem (by simp; omega)]; simp
      have b2 : ((ks.set i k).zip ((vs.set i v).zip bo))[j]? = some (ks[j], vs[j], bo[j]) := by rw [List.getElem?_eq_getElem (by simp; omega)]; simp [hij]
      rw [b1, b2]; simp [hij]
    · rw [List.getElem?_eq_none (by simp; omega), List.getElem?_eq_none (by simp; omega)]; simp

theorem ba_eq : ∀ {a b : ByteArray}, (a == b) = true → a = b := by
  rintro ⟨a⟩ ⟨b⟩ h
  have h' : (a == b) = true := h
  rw [eq_of_beq h']
theorem ba_refl (a : ByteArray) : (a == a) = true := by
  obtain ⟨a⟩ := a
  show (a == a) = true
  simp
theorem sameNow_bits {d : TypeDesc} {k k' : Value} (h : Instr.sameNow d k k' = some true) (n : Nat) : Instr.sameBits n k' k = true := by
  unfold Instr.sameNow at h
  split at h
  · split at h
    · rename_i he
      simp at h
      subst he; subst h
      simp [Instr.sameBits]
    · cases h
  · have h := ba_eq (Option.some.inj h); subst h; unfold Instr.sameBits; exact ba_refl _
  · have h := eq_of_beq (Option.some.inj h); subst h; simp [Instr.sameBits]
  · cases h

theorem aFind_key {d : TypeDesc} {k : Value} : ∀ (ks vs : List Value) (i : Nat) (x : Nat × Value), ks.length = vs.length → aFind d k ks vs i = some (some x) → ∃ k', ks[x.1 - i]? = some k' ∧ Instr.sameNow d k k' = some true ∧ i ≤ x.1
  | [], vs, i, x, h1, h => by simp [aFind] at h
  | k' :: ks, [], i, x, h1, h => by simp at h1
  | k' :: ks, v :: vs, i, x, h1, h => by
    simp only [aFind] at h
    split at h
    · rename_i hs; cases h; exact ⟨k', by simp, hs, Nat.le_refl _⟩
    · obtain ⟨k2, e1, e2, e3⟩ := aFind_key ks vs (i + 1) x (by simpa using h1) h
      refine ⟨k2, ?_, e2, by omega⟩
      rw [show x.1 - i = (x.1 - (i + 1)) + 1 by omega]
      simpa using e1
    · cases h

def eMapUpdate (P : Program) (σ : St) (t : TypeId) (m k v : Value) : Option (Value × St) :=
  match mapT P t, m with
  | some (kt, _), .map (some r) => match keyT P kt, plain k, σ.get r with
    | some d, true, some (.map ks vs bo cl) => match aFind d k ks vs 0 with
      | some (some (i, _)) => some (undef, σ.put r (.map (ks.set i k) (vs.set i v) bo cl))
      | some none => some (undef, σ.put r (.map (ks ++ [k]) (vs ++ [v]) (bo ++ [cl]) (cl + 1)))
      | none => none
    | _, _, _ => none
  | _, _ => none
theorem eMapUpdate_sound {t : TypeId} {m k v u : Value} {σ' : St} (h : eMapUpdate P σ t m k v = some (u, σ')) (hr : Rel K w0 σ E w) (hv : ok σ.next E v) :
    Leads K w0 σ E u σ' ((do Instr.mapUpdate t (ren E m) (ren E k) (ren E v); pure .skip : Sem Next).run P w) := by
  unfold eMapUpdate at h
  split at h
  · rename_i kt et r hm
    split at h
    · rename_i d ks vs bo cl hd hp hg
      have hu := mapT_spec hm
      have hd' := keyT_spec hd
      obtain ⟨es, h1, h2, h3, h4, h5, h6⟩ := hr.obj _ _ _ _ _ hg
      have hrk : ren E k = k := ren_plain E k hp
      have hget : (getObj (E r).blk).run P w = .ok (.map es cl) w := by simp [getObj, Sem.run, h1]
      have hset : ∀ o, (setObj (E r).blk o).run P w = .ok () { w with heap := w.heap.setIfInBounds (E r).blk o } := fun o => by simp [setObj, Sem.run, h1]
      have hkp : ok σ.next E k := ok_plain _ _ _ hp
      split at h
      · rename_i i old hf
        cases h
        obtain ⟨k', hk1, hk2, _⟩ := aFind_key ks vs 0 _ h3 hf
        simp only [Nat.sub_zero] at hk1
        have hs := aFind_sound (E := E) d k ks vs bo 0 _ h3 h4 hf
        have hnow : Instr.findNow d k es.toList 0 = some (some (i, ren E old)) := by rw [h2]; exact hs.1
        have hfk : (Instr.findKey kt k es.toList).run P w = .ok (some (i, ren E old)) w := by
          unfold Instr.findKey; rw [Sem.run_bind, run_underlying hd'.1]; simp only [Result.andThen_ok, hnow]; rfl
        have hil : i < ks.length := (List.getElem?_eq_some_iff.mp hk1).1
        have hold : (((es[i]?).map (·.key)).getD k) = ren E k' := by
          have : es.toList[i]? = some (entE E (k', vs[i]'(by omega), bo[i]'(by omega))) := by
            rw [h2, List.getElem?_map, List.getElem?_eq_getElem (by simp; omega)]
            have := (List.getElem?_eq_some_iff.mp hk1).2
            simp [entE, this]
          rw [← Array.getElem?_toList, this]; rfl
        have hstay : (Instr.keyThatStays (((es[i]?).map (·.key)).getD k) k).run P w = .ok k w := by
          rw [hold]
          unfold Instr.keyThatStays
          have hk2' : Instr.sameNow d k (ren E k') = some true := by rw [sameNow_ren]; exact hk2
          rw [sameNow_bits hk2' 10000]
          rfl
        have hrun : (do Instr.mapUpdate t (ren E (.map (some r))) (ren E k) (ren E v); pure .skip : Sem Next).run P w =
            .ok .skip { w with heap := w.heap.setIfInBounds (E r).blk (.map (es.modify i fun e => { e with key := k, val := ren E v }) cl) } := by
          rw [hrk]
          simp only [Instr.mapUpdate, Sem.run_bind, run_underlying hu, Result.andThen_ok, ren, hget, run_checkKey hd _ 9999, hfk, hstay, hset, Sem.run_pure]
        rw [hrun]
        refine ⟨E, _, _, rfl, Or.inr ⟨rfl, rfl⟩, ?_, Ext.refl _ _, by simp [undef, ok, okA, okL], Nat.le_refl _⟩
        refine hr.putOb hg (by intro c e g s e1; cases e1) (by intro s p e1; cases e1) ?_
        refine ⟨_, rfl, ?_, by simp [h3], by simp [h4], ?_, ?_⟩
        · rw [Array.toList_modify, h2]
          have := zip_set (E := E) i k v h3 h4
          rw [hrk] at this
          exact this
        · intro x hx; rcases List.mem_or_eq_of_mem_set hx with hx | hx
          · exact h5 x hx
          · rw [hx]; exact hkp
        · intro x hx; rcases List.mem_or_eq_of_mem_set hx with hx | hx
          · exact h6 x hx
          · rw [hx]; exact hv
      · rename_i hf
        cases h
        have hs := aFind_sound (E := E) d k ks vs bo 0 _ h3 h4 hf
        have hnow : Instr.findNow d k es.toList 0 = some none := by rw [h2]; exact hs.1
        have hfk : (Instr.findKey kt k es.toList).run P w = .ok none w := by
          unfold Instr.findKey; rw [Sem.run_bind, run_underlying hd'.1]; simp only [Result.andThen_ok, hnow]; rfl
        have hrun : (do Instr.mapUpdate t (ren E (.map (some r))) (ren E k) (ren E v); pure .skip : Sem Next).run P w =
            .ok .skip { w with heap := w.heap.setIfInBounds (E r).blk (.map (es.push { key := k, val := ren E v, born := cl }) (cl + 1)) } := by
          rw [hrk]
          simp only [Instr.mapUpdate, Sem.run_bind, run_underlying hu, Result.andThen_ok, ren, hget, run_checkKey hd _ 9999, hfk, hset, Sem.run_pure]
        rw [hrun]
        refine ⟨E, _, _, rfl, Or.inr ⟨rfl, rfl⟩, ?_, Ext.refl _ _, by simp [undef, ok, okA, okL], Nat.le_refl _⟩
        refine hr.putOb hg (by intro c e g s e1; cases e1) (by intro s p e1; cases e1) ?_
        refine ⟨_, rfl, ?_, by simp [h3], by simp [h4], ?_, ?_⟩
        · rw [Array.toList_push, h2, List.zip_append h4, List.zip_append (by simp; omega)]
          simp [hrk]
        · intro x hx; rcases List.mem_append.mp hx with hx | hx
          · exact h5 x hx
          · simp at hx; subst hx; exact hkp
        · intro x hx; rcases List.mem_append.mp hx with hx | hx
          · exact h6 x hx
          · simp at hx; subst hx; exact hv
      · cases h
    · cases h
  · cases h

def eDelete (P : Program) (σ : St) (t : TypeId) (m k : Value) : Option (Value × St) :=
  match mapT P t, m with
  | some (kt, _), .map (some r) => match keyT P kt, plain k, σ.get r with
    | some d, true, some (.map ks vs bo cl) => match aFind d k ks vs 0 with
      | some (some (i, _)) => some (undef, σ.put r (.map (ks.eraseIdx i) (vs.eraseIdx i) (bo.eraseIdx i) cl))
      | some none => some (undef, σ)
      | none => none
    | _, _, _ => none
  | _, _ => none
theorem eDelete_sound {t ty : TypeId} {xt : TypeId} {m k u : Value} {σ' : St} (h : eDelete P σ t m k = some (u, σ')) (hr : Rel K w0 σ E w) :
    Leads K w0 σ E u σ' ((do pure (.value (← Builtin.delete_ #[t, xt] ty #[ren E m, ren E k])) : Sem Next).run P w) := by
  unfold eDelete at h
  split at h
  · rename_i kt et r hm
    split at h
    · rename_i d ks vs bo cl hd hp hg
      have hu := mapT_spec hm
      have hd' := keyT_spec hd
      obtain ⟨es, h1, h2, h3, h4, h5, h6⟩ := hr.obj _ _ _ _ _ hg
      have hrk : ren E k = k := ren_plain E k hp
      have hget : (getObj (E r).blk).run P w = .ok (.map es cl) w := by simp [getObj, Sem.run, h1]
      have hset : ∀ o, (setObj (E r).blk o).run P w = .ok () { w with heap := w.heap.setIfInBounds (E r).blk o } := fun o => by simp [setObj, Sem.run, h1]
      have hundef : ren E undef = .tuple #[] := by simp [undef, ren, renA, renL]
      split at h
      · rename_i i old hf
        cases h
        obtain ⟨k', hk1, hk2, _⟩ := aFind_key ks vs 0 _ h3 hf
        simp only [Nat.sub_zero] at hk1
        have hil : i < ks.length := (List.getElem?_eq_some_iff.mp hk1).1
        have hs := aFind_sound (E := E) d k ks vs bo 0 _ h3 h4 hf
        have hnow : Instr.findNow d k es.toList 0 = some (some (i, ren E old)) := by rw [h2]; exact hs.1
        have hfk : (Instr.findKey kt k es.toList).run P w = .ok (some (i, ren E old)) w := by
          unfold Instr.findKey; rw [Sem.run_bind, run_underlying hd'.1]; simp only [Result.andThen_ok, hnow]; rfl
        have hrun : (do pure (.value (← Builtin.delete_ #[t, xt] ty #[ren E (.map (some r)), ren E k])) : Sem Next).run P w =
            .ok (.value (.tuple #[])) { w with heap := w.heap.setIfInBounds (E r).blk (.map (es.eraseIdxIfInBounds i) cl) } := by
          rw [hrk]
          simp only [Builtin.delete_, List.getElem?_toArray, List.getElem?_cons_zero, List.getElem?_cons_succ, Sem.run_bind, run_underlying hu, Result.andThen_ok, ren, hget, run_checkKey hd _ 9999, hfk, hset, Sem.run_pure]
        rw [hrun]
        refine ⟨E, _, _, rfl, Or.inl (by rw [hundef]), ?_, Ext.refl _ _, by simp [undef, ok, okA, okL], Nat.le_refl _⟩
        refine hr.putOb hg (by intro c e g s e1; cases e1) (by intro s p e1; cases e1) ?_
        refine ⟨_, rfl, ?_, ?_, ?_, ?_, ?_⟩
        · have hsz : i < es.size := by rw [← Array.length_toList, h2]; simp; omega
          have : (es.eraseIdxIfInBounds i).toList = es.toList.eraseIdx i := by
            simp [Array.eraseIdxIfInBounds, hsz]
          rw [this, h2]
          apply List.ext_getElem?
          intro j
          simp only [List.getElem?_eraseIdx, List.getElem?_map]
          simp only [List.getElem?_zip_eq_some, List.zip, List.getElem?_zipWith, List.getElem?_eraseIdx]
          split <;> rfl
        · simp [List.length_eraseIdx, h3]
        · simp [List.length_eraseIdx, h4]
        · intro x hx; exact h5 x (List.mem_of_mem_eraseIdx hx)
        · intro x hx; exact h6 x (List.mem_of_mem_eraseIdx hx)
      · rename_i hf
        cases h
        have hs := aFind_sound (E := E) d k ks vs bo 0 _ h3 h4 hf
        have hnow : Instr.findNow d k es.toList 0 = some none := by rw [h2]; exact hs.1
        have hfk : (Instr.findKey kt k es.toList).run P w = .ok none w := by
          unfold Instr.findKey; rw [Sem.run_bind, run_underlying hd'.1]; simp only [Result.andThen_ok, hnow]; rfl
        have hsame : w.heap.setIfInBounds (E r).blk (.map es cl) = w.heap := by
          apply Array.ext'
          rw [Array.toList_setIfInBounds]
          apply List.ext_getElem?
          intro j
          by_cases hj : (E r).blk = j
          · subst hj; rw [List.getElem?_set_self (by simpa using (hr.own _ _ hg).1)]; simpa using h1.symm
          · rw [List.getElem?_set_ne hj]
        have hrun : (do pure (.value (← Builtin.delete_ #[t, xt] ty #[ren E (.map (some r)), ren E k])) : Sem Next).run P w =
            .ok (.value (.tuple #[])) w := by
          rw [hrk]
          simp only [Builtin.delete_, List.getElem?_toArray, List.getElem?_cons_zero, List.getElem?_cons_succ, Sem.run_bind, run_underlying hu, Result.andThen_ok, ren, hget, run_checkKey hd _ 9999, hfk, hset, Sem.run_pure, hsame]
        rw [hrun]
        exact ⟨E, _, _, rfl, Or.inl (by rw [hundef]), hr, Ext.refl _ _, by simp [undef, ok, okA, okL], Nat.le_refl _⟩
      · cases h
    · cases h
  · cases h
end
end Go.Ev
