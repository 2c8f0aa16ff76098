import Derived.Test.YtkldglhihfjclaaGreatDoorEvI
import Derived.Laws.BytesString
namespace Go.Ev
noncomputable section
variable {P : Program} {K : Nat → Bool} {w0 w : World} {σ : St} {E : Env}

def aLoad (P : Program) (σ : St) (t : TypeId) (x : Value) : Option Value :=
  match x with
  | .pointer (some a) => match σ.get a.block with
    | some (.cells cs _ _ _) => match rowT P t with
      | some true => match szT P t with
        | some n => match Nat.beq ((cs.drop a.off).take n).length n with
          | true => some (.agg ((cs.drop a.off).take n).toArray)
          | false => none
        | none => none
      | some false => cs[a.off]?
      | none => none
    | _ => none
  | _ => none

theorem range_sub {b : Nat} {cs : List Value} {e g s : Nat} (h : Rel K w0 σ E w) (hb : σ.get b = some (.cells cs e g s)) (o n : Nat) :
    w.rangeAt (E b).blk ((E b).off + o) (((cs.drop o).take n).map (ren E)) := by
  intro j v hj
  have hj' : (cs.map (ren E))[o + j]? = some v := by
    rw [List.getElem?_map] at hj ⊢
    rw [← hj]
    congr 1
    have hjl : j < ((cs.drop o).take n).length := by
      rcases Nat.lt_or_ge j ((cs.drop o).take n).length with h1 | h1
      · exact h1
      · rw [List.getElem?_eq_none h1] at hj; cases hj
    rw [List.getElem?_take_of_lt (by simp at hjl; omega), List.getElem?_drop]
  have := h.cell b _ _ _ _ hb (o + j) v hj'
  rwa [← Nat.add_assoc] at this

theorem aLoad_sound {t : TypeId} {x v : Value} (h : aLoad P σ t x = some v) (hr : Rel K w0 σ E w) : (Instr.loadAt t (ren E x)).run P w = .ok (ren E v) w ∧ ok σ.next E v := by
  unfold aLoad at h
  split at h
  · rename_i a
    split at h
    · rename_i cs e g s hb
      have hgood := hr.good _ _ _ _ _ hb
      split at h
      · rename_i hrow
        split at h
        · rename_i n hn
          split at h
          · rename_i hl
            cases h
            have hl' := Nat.eq_of_beq_eq_true hl
            constructor
            · unfold rowT at hrow
              cases hu : P.underlying t with
              | none => simp [hu] at hrow
              | some d =>
                simp [hu] at hrow
                have := run_loadAt_mid (P := P) w (E a.block).blk ((E a.block).off + a.off) t _ d (range_sub hr hb a.off n) hu hrow (by rw [List.length_map, hl']; exact hn)
                simp only [ren, rPtr, this, renA, renL_map]
            · simp only [ok, okA_iff]
              intro u hu
              exact (hgood u (List.mem_of_mem_drop (List.mem_of_mem_take hu))).1
          · cases h
        · cases h
      · rename_i hrow
        refine ⟨?_, (hgood v (List.mem_of_getElem? h)).1⟩
        have := hr.cell _ _ _ _ _ hb a.off (ren E v) (by rw [List.getElem?_map, h]; rfl)
        simp [Instr.loadAt, Instr.sureAddr, ren, rPtr, loadVar, Sem.run_bind, run_isAgg hrow, this]
      · cases h
    · cases h
  · cases h

/-! Maps. -/
def keyT (P : Program) (t : TypeId) : Option TypeDesc := match P.underlying t with
  | some .string => some .string
  | some (.int k) => some (.int k)
  | some .bool => some .bool
  | _ => none
theorem keyT_spec {t : TypeId} {d : TypeDesc} (h : keyT P t = some d) : P.underlying t = some d ∧ (d = .string ∨ (∃ k, d = .int k) ∨ d = .bool) := by
  unfold keyT at h
  split at h <;> first | (cases h; rename_i hu; simp [hu]) | cases h
theorem run_checkKey {t : TypeId} {d : TypeDesc} (h : keyT P t = some d) (b : Bool) (n : Nat) (v : Value) (w : World) : (Instr.checkKey b (n + 1) t v).run P w = .ok () w := by
  obtain ⟨h1, h2⟩ := keyT_spec h
  rcases h2 with rfl | ⟨k, rfl⟩ | rfl <;> (unfold Instr.checkKey; rw [Sem.run_bind, run_underlying h1]; rfl)
def aFind (d : TypeDesc) (k : Value) : List Value → List Value → Nat → Option (Option (Nat × Value))
  | k' :: ks, v :: vs, i => match Instr.sameNow d k k' with
    | some true => some (some (i, v))
    | some false => aFind d k ks vs (i + 1)
    | none => none
  | _, _, _ => some none
theorem sameNow_ren (d : TypeDesc) (k k' : Value) : Instr.sameNow d k (ren E k') = Instr.sameNow d k k' := by
  cases k' with
  | pointer a => cases a <;> cases d <;> cases k <;> rfl
  | slice a => cases a <;> cases d <;> cases k <;> rfl
  | map a => cases a <;> cases d <;> cases k <;> rfl
  | func => cases d <;> cases k <;> rfl
  | iface => cases d <;> cases k <;> rfl
  | agg => cases d <;> cases k <;> rfl
  | tuple => cases d <;> cases k <;> rfl
  | _ => rfl
def entE (E : Env) (x : Value × Value × Nat) : MapEntry := { key := ren E x.1, val := ren E x.2.1, born := x.2.2 }
theorem aFind_sound (d : TypeDesc) (k : Value) : ∀ (ks vs : List Value) (bo : List Nat) (i : Nat) (r : Option (Nat × Value)), ks.length = vs.length → vs.length = bo.length → aFind d k ks vs i = some r →
    Instr.findNow d k ((ks.zip (vs.zip bo)).map (entE E)) i = some (r.map fun x => (x.1, ren E x.2)) ∧ (∀ x, r = some x → i ≤ x.1 ∧ vs[x.1 - i]? = some x.2)
  | [], _, _, i, r, _, _, h => by simp [aFind] at h; subst h; simp [Instr.findNow]
  | k' :: ks, [], _, i, r, h1, _, h => by simp at h1
  | k' :: ks, v :: vs, [], i, r, _, h2, h => by simp at h2
  | k' :: ks, v :: vs, b :: bo, i, r, h1, h2, h => by
    simp only [aFind] at h
    simp only [List.zip_cons_cons, List.map_cons, entE, Instr.findNow, sameNow_ren]
    split at h
    · rename_i hs
      cases h
      rw [hs]
      exact ⟨rfl, fun x hx => by cases hx; simp⟩
    · rename_i hs
      rw [hs]
      have ih := aFind_sound d k ks vs bo (i + 1) r (by simpa using h1) (by simpa using h2) h
      refine ⟨ih.1, fun x hx => ?_⟩
      have := ih.2 x hx
      refine ⟨by omega, ?_⟩
      rw [show x.1 - i = (x.1 - (i + 1)) + 1 by omega]
      simpa using this.2
    · cases h

def zeroV (P : Program) (t : TypeId) : Option Value := match (P.info? t).bind (·.zero) with
  | some z => match plain z with
    | true => some z
    | false => none
  | none => none
theorem run_zeroV {t : TypeId} {z : Value} (h : zeroV P t = some z) (w : World) : (zeroValue t).run P w = .ok z w ∧ plain z = true := by
  unfold zeroV at h
  split at h
  · rename_i v hv
    split at h
    · rename_i hp
      cases h
      cases hq : P.info? t with
      | none => simp [hq] at hv
      | some i =>
        simp [hq] at hv
        exact ⟨by simp [zeroValue, typeInfo, hq, hv], hp⟩
    · cases h
  · cases h

def mapT (P : Program) (t : TypeId) : Option (TypeId × TypeId) := match P.underlying t with
  | some (.map k e) => some (k, e)
  | _ => none
theorem mapT_spec {t k e : TypeId} (h : mapT P t = some (k, e)) : P.underlying t = some (.map k e) := by
  unfold mapT at h
  split at h
  · rename_i hu; cases h; exact hu
  · cases h

def wrapOk (cok : Bool) (v : Value) (b : Bool) : Value := match cok with
  | true => .tuple #[v, .bool b]
  | false => v
theorem ren_wrapOk (cok : Bool) (v : Value) (b : Bool) : ren E (wrapOk cok v b) = wrapOk cok (ren E v) b := by cases cok <;> simp [wrapOk, ren, renA, renL]
theorem ok_wrapOk {N : Nat} (cok : Bool) {v : Value} (b : Bool) (h : ok N E v) : ok N E (wrapOk cok v b) := by cases cok <;> simp [wrapOk, ok, okA, okL, h]

def aLook (P : Program) (σ : St) (t : TypeId) (x ix : Value) (cok : Bool) : Option Value :=
  match mapT P t with
  | some (kt, et) => match keyT P kt, zeroV P et, plain ix with
    | some d, some z, true =>
      match (match x with
        | .map none => some none
        | .map (some r) => match σ.get r with
          | some (.map ks vs _ _) => (aFind d ix ks vs 0).map (·.map (·.2))
          | _ => none
        | _ => none : Option (Option Value)) with
      | some (some v) => some (wrapOk cok v true)
      | some none => some (wrapOk cok z false)
      | none => none
    | _, _, _ => none
  | none => none

theorem aLook_sound {t : TypeId} {x ix v : Value} {cok : Bool} (h : aLook P σ t x ix cok = some v) (hr : Rel K w0 σ E w) :
    (Instr.lookup t (ren E x) (ren E ix) cok).run P w = .ok (ren E v) w ∧ ok σ.next E v := by
  unfold aLook at h
  split at h
  · rename_i kt et hm
    split at h
    · rename_i d z hd hz hp
      have hu := mapT_spec hm
      have hz' := run_zeroV hz w
      have hd' := keyT_spec hd
      rw [ren_plain E _ hp]
      split at h
      · rename_i u hf
        split at hf
        · cases hf
        · rename_i r
          split at hf
          · rename_i ks vs bo cl hg
            obtain ⟨es, h1, h2, h3, h4, h5, h6⟩ := hr.obj _ _ _ _ _ hg
            cases hfi : aFind d ix ks vs 0 with
            | none => simp [hfi] at hf
            | some fr =>
              simp [hfi] at hf
              obtain ⟨i, rfl⟩ := hf
              have hs := aFind_sound (E := E) d ix ks vs bo 0 _ h3 h4 hfi
              have hin := (hs.2 _ rfl).2
              have hnow : Instr.findNow d ix es.toList 0 = some (some (i, ren E u)) := by rw [h2]; exact hs.1
              have hok := h6 u (List.mem_of_getElem? hin)
              cases h
              constructor
              · rw [ren_wrapOk]
                simp only [Instr.lookup, Sem.run_bind, run_underlying hu, Result.andThen_ok, ren]
                rw [show (getObj (E r).blk).run P w = .ok (.map es cl) w by simp [getObj, Sem.run, h1]]
                simp only [Result.andThen_ok, Sem.run_bind, Sem.run_pure, run_checkKey hd _ 9999]
                rw [show (Instr.findKey kt ix es.toList).run P w = .ok (some (i, ren E u)) w by
                  unfold Instr.findKey; rw [Sem.run_bind, run_underlying hd'.1]; simp only [Result.andThen_ok, hnow]; rfl]
                simp only [Result.andThen_ok, Sem.run_pure]
                cases cok <;> rfl
              · exact ok_wrapOk cok _ hok
          · cases hf
        · cases hf
      · rename_i hf
        cases h
        have hzp := hz'.2
        refine ⟨?_, ok_wrapOk cok _ (ok_plain σ.next E z hzp)⟩
        rw [ren_wrapOk, ren_plain E z hzp]
        split at hf
        · simp only [Instr.lookup, Sem.run_bind, run_underlying hu, Result.andThen_ok, ren, Sem.run_pure, run_checkKey hd _ 9999]
          rw [show (Instr.findKey kt ix (#[] : Array MapEntry).toList).run P w = .ok none w by
                  unfold Instr.findKey; rw [Sem.run_bind, run_underlying hd'.1]; rfl]
          simp only [Result.andThen_ok, hz'.1, Sem.run_bind, Sem.run_pure]
          cases cok <;> rfl
        · rename_i r
          split at hf
          · rename_i ks vs bo cl hg
            obtain ⟨es, h1, h2, h3, h4, h5, h6⟩ := hr.obj _ _ _ _ _ hg
            cases hfi : aFind d ix ks vs 0 with
            | none => simp [hfi] at hf
            | some fr =>
              simp [hfi] at hf
              subst hf
              have hs := aFind_sound (E := E) d ix ks vs bo 0 _ h3 h4 hfi
              have hnow : Instr.findNow d ix es.toList 0 = some none := by rw [h2]; exact hs.1
              simp only [Instr.lookup, Sem.run_bind, run_underlying hu, Result.andThen_ok, ren]
              rw [show (getObj (E r).blk).run P w = .ok (.map es cl) w by simp [getObj, Sem.run, h1]]
              simp only [Result.andThen_ok, Sem.run_bind, Sem.run_pure, run_checkKey hd _ 9999]
              rw [show (Instr.findKey kt ix es.toList).run P w = .ok none w by
                  unfold Instr.findKey; rw [Sem.run_bind, run_underlying hd'.1]; simp only [Result.andThen_ok, hnow]; rfl]
              simp only [Result.andThen_ok, hz'.1, Sem.run_bind, Sem.run_pure]
              cases cok <;> rfl
          · cases hf
        · cases hf
      · cases h
    · cases h
  · cases h
end
end Go.Ev
