import Derived.Test.YtkldglhihfjclaaGreatDoorEvY
namespace Go.Ev
noncomputable section
variable {P : Program} {K : Nat → Bool} {w0 w : World} {σ : St} {E : Env} {ops : Array Oper}

theorem act_putT (E : Env) (tm : List Value) (d : Option Tmp) (v : Value) : act E (putT tm d v) = (act E tm).put d (ren E v) := by
  cases d with
  | none => simp [Act.put, act, putT]
  | some d => simp [Act.put, act, putT, List.map_set]
theorem putsT_act (E : Env) : ∀ (gs : List Nat) (us tm : List Value), plainL us = true → act E (putsT ops gs us tm) = putsG ops gs us (act E tm)
  | [], _, _, _ => rfl
  | _ :: _, [], _, _ => rfl
  | g :: gs, u :: us, tm, h => by
    simp only [plainL, Bool.and_eq_true] at h
    show act E (putsT ops gs us (putT tm (dstOf ops g) u)) = putsG ops gs us ((act E tm).put (dstOf ops g) u)
    rw [putsT_act E gs us _ h.2, act_putT, ren_plain E u h.1]
theorem putsT_good {N : Nat} {E : Env} : ∀ (gs : List Nat) (us tm : List Value), (∀ u ∈ us, ok N E u) → Good N E tm → Good N E (putsT ops gs us tm)
  | [], _, _, _, h => h
  | _ :: _, [], _, _, h => h
  | g :: gs, u :: us, tm, hu, h => putsT_good gs us _ (fun x hx => hu x (List.mem_cons_of_mem _ hx)) (putT_good h (Nat.le_refl _) (Ext.refl _ _) _ (hu u List.mem_cons_self))

theorem gVals_len : ∀ {gs : List Nat} {tm : List Value} {σ : St} {us : List Value}, gVals P ops gs tm σ = some us → us.length = gs.length ∧ plainL us = true
  | [], tm, σ, us, h => by cases h; exact ⟨rfl, rfl⟩
  | g :: gs, tm, σ, us, h => by
    simp only [gVals] at h
    split at h
    · split at h
      · cases h
      · split at h
        · split at h
          · rename_i hp
            split at h
            · rename_i us' h'
              cases h
              have := gVals_len h'
              exact ⟨by simp [this.1], by simp [plainL, hp, this.2]⟩
            · cases h
          · cases h
        · cases h
    · cases h
theorem gVals_at : ∀ {gs : List Nat} {tm : List Value} {σ : St} {us : List Value}, gVals P ops gs tm σ = some us → ∀ k, k < gs.length →
    ∃ g o u, gs[k]? = some g ∧ ops[g]? = some o ∧ o.guard = none ∧ us[k]? = some u ∧ evM P (putsT ops (gs.take k) (us.take k) tm) σ o = some u
  | [], tm, σ, us, h, k, hk => by simp at hk
  | g :: gs, tm, σ, us, h, k, hk => by
    simp only [gVals] at h
    split at h
    · rename_i o ho
      split at h
      · cases h
      · rename_i hg
        split at h
        · rename_i u hu
          split at h
          · split at h
            · rename_i us' h'
              cases h
              cases k with
              | zero => exact ⟨g, o, u, rfl, ho, hg, rfl, hu⟩
              | succ k =>
                obtain ⟨g', o', u', e1, e2, e3, e4, e5⟩ := gVals_at h' k (by simpa using hk)
                refine ⟨g', o', u', by simpa using e1, e2, e3, by simpa using e4, ?_⟩
                have hd : dstOf ops g = o.dst := by simp [dstOf, ho]
                simp only [List.take_succ_cons, putsT, hd]
                exact e5
            · cases h
          · cases h
        · cases h
    · cases h

/-- So many of the group have come up ahead. -/
def Early (K : Nat → Bool) (w0 : World) (ops : Array Oper) (gs : List Nat) (n : New) (us : List Value) (σ : St) (E : Env) (w : World) (a0 : Act) (j : Nat) (a : Act) : Prop :=
  (j = 0 ∧ a = a0) ∨ (0 < j ∧ ∃ p el, w.heap[p]? = some (.cells (n.cs.map (ren E)).toArray el (0, 0)) ∧ (∀ x o, σ.get x = some o → (E x).blk ≠ p) ∧ w0.heap.size ≤ p ∧
    (∀ v ∈ n.cs, ok σ.next E v ∧ v.oneCell' = true) ∧ max n.cs.length (n.cap * n.esz) ≤ n.cs.length ∧ a = putsG ops (gs.take j) ((n.real p :: us).take j) a0)

theorem gAll_spec {gs : List Nat} {tm : List Value} {n : New} {us : List Value} (h : gAll P ops gs tm σ = some (n, us)) :
    ∃ g gs' o, gs = g :: gs' ∧ ops[g]? = some o ∧ σ.room = true ∧ newOf P tm o = some n ∧ gVals P ops gs' (putT tm o.dst (n.val σ.next)) (σ.newIn n.cs n.esz σ.next 0) = some us := by
  unfold gAll at h
  split at h
  · cases h
  · rename_i g gs'
    split at h
    · rename_i o ho hroom
      split at h
      · rename_i n' hn
        split at h
        · rename_i us' hus
          cases h
          exact ⟨g, gs', o, rfl, ho, hroom, hn, hus⟩
        · cases h
      · cases h
    · cases h

/-- Known from now on. -/
theorem early_adopt {gs : List Nat} {tm : List Value} {n : New} {us : List Value} {a : Act} {j : Nat} (hg : gAll P ops gs tm σ = some (n, us)) (hr : Rel K w0 σ E w) (ht : Good σ.next E tm) (hj : 0 < j)
    (he : Early K w0 ops gs n us σ E w (act E tm) j a) :
    ∃ p, Rel K w0 (σ.newIn n.cs n.esz σ.next 0) (upd E σ.next ⟨p, 0, n.cap⟩) w ∧ a = act (upd E σ.next ⟨p, 0, n.cap⟩) (putsT ops (gs.take j) ((n.val σ.next :: us).take j) tm) ∧
      Good (σ.next + 1) (upd E σ.next ⟨p, 0, n.cap⟩) (putsT ops (gs.take j) ((n.val σ.next :: us).take j) tm) := by
  obtain ⟨g, gs', o, rfl, ho, hroom, hn, hus⟩ := gAll_spec hg
  rcases he with ⟨h0, _⟩ | ⟨_, p, el, e1, e2, e3, e4, e5, e6⟩
  · omega
  · have hA := hr.adopt hroom n.cs _ el (0, 0) n.esz n.cap σ.next 0 p (Nat.le_refl _) e1 e2 e3 e4 (by intro i v hi; simpa using hi) (by simpa using e5) (Or.inl rfl)
    have hl := gVals_len hus
    obtain ⟨j, rfl⟩ : ∃ j', j = j' + 1 := ⟨j - 1, by omega⟩
    have hd : dstOf ops g = o.dst := by simp [dstOf, ho]
    have hpl : plainL (us.take j) = true := by
      have := hl.2
      rw [plainL_all] at this ⊢
      simp only [List.all_eq_true] at this ⊢
      exact fun x hx => this x (List.mem_of_mem_take hx)
    have hval : ok (σ.next + 1) (upd E σ.next ⟨p, 0, n.cap⟩) (n.val σ.next) := by
      unfold New.val New.cap
      cases n.row
      · simp [ptrTo, ok]
      · simp [rowOf, ok, upd_same]
    refine ⟨p, hA, ?_, ?_⟩
    · rw [e6]
      simp only [List.take_succ_cons, putsG, putsT]
      rw [putsT_act _ _ _ _ hpl, act_putT, New.ren_val, act_ext ht (upd_ext E _ _)]
    · simp only [List.take_succ_cons, putsT]
      refine putsT_good _ _ _ (ok_of_plainL _ _ hpl) ?_
      exact putT_good (N := σ.next) ht (by omega) (upd_ext E _ _) _ hval

/-- One more of the group comes up ahead. -/
theorem early_step {gs : List Nat} {tm : List Value} {n : New} {us : List Value} {a : Act} {j : Nat} {Q : Exit → Act → World → Prop} (hg : gAll P ops gs tm σ = some (n, us)) (hr : Rel K w0 σ E w) (ht : Good σ.next E tm) (hj : j < gs.length)
    (he : Early K w0 ops gs n us σ E w (act E tm) j a) {next : Act → World → Prop} (hn : ∀ a' w', Rel K w0 σ E w' → Early K w0 ops gs n us σ E w' (act E tm) (j + 1) a' → next a' w') :
    ∀ x, gs[j]? = some x → wpOp P ops Q x next a w := by
  intro x hx
  obtain ⟨g, gs', o, rfl, ho, hroom, hnew, hus⟩ := gAll_spec hg
  cases j with
  | zero =>
    have hxg : x = g := by simpa using hx.symm
    subst hxg
    have ha : a = act E tm := by
      rcases he with ⟨_, h⟩ | ⟨h, _⟩
      · exact h
      · omega
    subst ha
    obtain ⟨g1, g2, g3, el, g4⟩ := newOf_sound ht hnew
    unfold wpOp
    simp only [ho]
    have hw : Region.wanted o (yielded ops (act E tm).tmps) = true := by simp [Region.wanted, g1]
    rw [if_pos hw]
    refine Or.inl ?_
    unfold Oper.wp
    rw [g4 w]
    refine hn _ _ (hr.garbage _) (Or.inr ⟨by omega, w.heap.size, el, by simp, fun y ob hy => by have := (hr.own y _ hy).1; omega, hr.size, g2, g3, ?_⟩)
    simp [putsG, dstOf, ho]
  | succ k =>
    obtain ⟨p, hA, ha, hgood⟩ := early_adopt hg hr ht (by omega) he
    obtain ⟨x', o', u, e1, e2, e3, e4, e5⟩ := gVals_at hus k (by simpa using hj)
    have hxx : x' = x := by
      have : gs'[k]? = some x := by simpa using hx
      rw [this] at e1; exact (Option.some.inj e1).symm
    subst hxx
    have hd : dstOf ops g = o.dst := by simp [dstOf, ho]
    simp only [List.take_succ_cons, putsT, hd] at ha hgood
    have hy := evM_sound hA hgood e5
    have hpu : plain u = true := by
      have := (gVals_len hus).2
      rw [plainL_all] at this
      simp only [List.all_eq_true] at this
      exact this u (List.mem_of_getElem? e4)
    unfold wpOp
    simp only [e2]
    have hw : Region.wanted o' (yielded ops a.tmps) = true := by simp [Region.wanted, e3]
    rw [if_pos hw]
    refine Or.inl ?_
    unfold Oper.wp
    rw [ha, hy.1, ren_plain _ u hpu]
    rcases he with ⟨h0, _⟩ | ⟨_, p', el, f1, f2, f3, f4, f5, f6⟩
    · omega
    · refine hn _ _ hr (Or.inr ⟨by omega, p', el, f1, f2, f3, f4, f5, ?_⟩)
      show (act _ _).put o'.dst u = _
      rw [← ha, f6]
      have hd' : dstOf ops x' = o'.dst := by simp [dstOf, e2]
      have t1 : (g :: gs').take (k + 1 + 1) = (g :: gs').take (k + 1) ++ [x'] := by rw [List.take_add_one, hx]; rfl
      have t2 : (n.real p' :: us).take (k + 1 + 1) = (n.real p' :: us).take (k + 1) ++ [u] := by
        rw [List.take_add_one]; simp [e4]
      rw [t1, t2, putsG_snoc _ _ _ _ _ _ (by simp [(gVals_len hus).1]), hd']
end
end Go.Ev
