import Derived.Test.YtkldglhihfjclaaGreatDoorEvZ
namespace Go.Ev
noncomputable section
variable {P : Program} {K : Nat → Bool} {w0 w : World} {σ : St} {E : Env} {ops : Array Oper}

theorem map_some {α β : Type} {o : Option α} {f : α → β} {b : β} (h : o.map f = some b) : ∃ a, o = some a ∧ f a = b := by
  cases o with
  | none => cases h
  | some a => exact ⟨a, rfl, by simpa using h⟩

theorem execX_head {call : CallT} : ∀ {l : List Stp} {gs rs : List Nat} {tm tm' : List Value} {σ σ' : St} {ss : List Tag} {gi : Option (New × List Value)}, execX P call ops gs rs l tm σ = some (tm', σ', ss, gi) → (rs, σ) ∈ ss
  | [], gs, rs, tm, tm', σ, σ', ss, gi, h => by simp only [execX] at h; cases h; simp
  | .take i :: l, gs, rs, tm, tm', σ, σ', ss, gi, h | .takeG i :: l, gs, rs, tm, tm', σ, σ', ss, gi, h => by
    simp only [execX] at h
    split at h
    · split at h
      · split at h
        · rename_i he
          split at h
          · cases h; exact execX_head he
          · cases h
        · cases h
      · split at h
        · split at h
          · rename_i he
            split at h
            · cases h; exact execX_head he
            · cases h
          · cases h
        · cases h
    · cases h
  | .run i :: l, gs, rs, tm, tm', σ, σ', ss, gi, h => by
    simp only [execX] at h
    split at h
    · split at h
      · split at h
        · cases h; simp
        · cases h
      · cases h
    · cases h
  | .begin g :: l, gs, rs, tm, tm', σ, σ', ss, gi, h => by simp only [execX] at h; exact execX_head h
  | .runG i f :: l, gs, rs, tm, tm', σ, σ', ss, gi, h => by
    simp only [execX] at h
    split at h
    · split at h
      · split at h
        · split at h
          · cases h; simp
          · cases h
        · cases h
      · cases h
    · cases h
  | .stop :: l, gs, rs, tm, tm', σ, σ', ss, gi, h => by
    simp only [execX] at h
    split at h
    · split at h
      · cases h; simp
      · cases h
    · cases h

theorem Sof_cons {ss : List Tag} {s : Tag} {E1 : Env} {σ1 : St} (h1 : Ext σ.next E E1) (h2 : σ.next ≤ σ1.next) {L : Array Bool} {w : World} (h : Sof K w0 ss σ1.next E1 L w) : Sof K w0 (s :: ss) σ.next E L w := by
  obtain ⟨x, hx, hl, E', e1, e2, e3⟩ := h
  exact ⟨x, List.mem_cons_of_mem _ hx, hl, E', h1.trans h2 e1, Nat.le_trans h2 e2, e3⟩
theorem Sof_here {ss : List Tag} {rs : List Nat} (h : (rs, σ) ∈ ss) {L : Array Bool} (hl : ∀ r ∈ rs, L.getD r false = true) (hr : Rel K w0 σ E w) : Sof K w0 ss σ.next E L w :=
  ⟨(rs, σ), h, hl, E, Ext.refl _ _, Nat.le_refl _, hr⟩

/-- What a load yields as long as nothing that waits for it has come up. -/
theorem yields_later {tm : List Value} {i : Nat} {o : Oper} {v : Value} {ss : List Tag} {rs : List Nat} (hmem : (rs, σ) ∈ ss) (hr : Rel K w0 σ E w) (ht : Good σ.next E tm) (hv : evM P tm σ o = some v) (hsame : sameIn P ops tm i o v ss = true) :
    ok σ.next E v ∧ ∀ w', Still ops (Sof K w0 ss σ.next E) i w' → (execOp (act E tm).eval o).run P w' = .ok (.value (ren E v)) w' := by
  have hyld := evM_sound hr ht hv
  refine ⟨hyld.2, ?_⟩
  rintro w' ⟨L, hp, t, hs, hl, E', e1, e2, e3⟩
  obtain ⟨s1, s2⟩ := sameIn_spec hsame t hs
  have h1 := evM_sound e3 (fun u hu => ok_ext e2 e1 u (ht u hu)) (s2 fun r hr' => hp r (fun e => s1 (e ▸ hr')) (hl r hr'))
  have h2 := h1.1
  rw [act_ext ht e1, ren_ext e1 v hyld.2] at h2
  exact h2
theorem none_of_same {tm : List Value} {i : Nat} {o : Oper} {v : Value} {ss : List Tag} (h : sameIn P ops tm i o v ss = true) : ∀ t ∈ ss, i ∉ t.1 := fun t ht => (sameIn_spec h t ht).1
theorem cat_keeps : ∀ (gs : List Nat) (D : Array Bool) (r : Nat), D.getD r false = true → (cat D gs).getD r false = true
  | [], _, _, h => h
  | g :: gs, D, r, h => cat_keeps gs _ r (getD_set_true h)
theorem rs_step {rs : List Nat} {D : Array Bool} {r : Nat} (h : ∀ x ∈ rs, D.getD x false = true) (hr : D.getD r true = false) : ∀ x ∈ r :: rs, (D.setIfInBounds r true).getD x false = true := by
  intro x hx
  rcases List.mem_cons.mp hx with rfl | hx
  · exact set_self hr
  · exact getD_set_true (h x hx)

theorem Early.move {gs : List Nat} {n : New} {us : List Value} {a0 a : Act} {j : Nat} (h : Early K w0 ops gs n us σ E w a0 j a) :
    ∃ vs, a = putsG ops (gs.take j) vs a0 ∧ ∀ a1, Early K w0 ops gs n us σ E w a1 j (putsG ops (gs.take j) vs a1) := by
  rcases h with ⟨h0, rfl⟩ | ⟨hj, p, el, e1, e2, e3, e4, e5, rfl⟩
  · subst h0
    exact ⟨[], by simp [putsG], fun a1 => Or.inl ⟨rfl, by simp [putsG]⟩⟩
  · exact ⟨_, rfl, fun a1 => Or.inr ⟨hj, p, el, e1, e2, e3, e4, e5, rfl⟩⟩
theorem Early.call {gs : List Nat} {n : New} {us : List Value} {a0 a : Act} {j : Nat} {σ1 : St} {E1 : Env} {w1 : World} (h : Early K w0 ops gs n us σ E w a0 j a)
    (h1 : Rel (known σ E) w σ1 E1 w1) (he : Ext σ.next E E1) (hn : σ.next ≤ σ1.next) : Early K w0 ops gs n us σ1 E1 w1 a0 j a := by
  rcases h with h | ⟨hj, p, el, e1, e2, e3, e4, e5, e6⟩
  · exact Or.inl h
  · have hp : p < w.heap.size := (Array.getElem?_eq_some_iff.mp e1).1
    obtain ⟨s1, s2⟩ := h1.stays hp e2
    refine Or.inr ⟨hj, p, el, ?_, s2, e3, fun v hv => ⟨ok_ext hn he v (e4 v hv).1, (e4 v hv).2⟩, e5, e6⟩
    rw [s1, e1, map_ren_ext he (fun v hv => (e4 v hv).1)]
theorem apartAll_take {gs : List Nat} {i : Nat} (h : apartAll ops gs i = true) (j : Nat) : apartAll ops (gs.take j) i = true := by
  unfold apartAll at *
  simp only [List.all_eq_true] at *
  exact fun x hx => h x (List.mem_of_mem_take hx)
theorem only_spec {l r : List Nat} (h : only l r = true) : l ≠ [] ∧ ∀ x ∈ l, x ∈ r := by
  unfold only at h
  split at h
  · cases h
  · rename_i hne
    exact ⟨hne, by simpa using h⟩
theorem okTake_spec {D : Array Bool} {i : Nat} (h : okTake P ops D i = true) : (Region.ready .any ops D).contains i = true ∧ Region.free .any ops D i = true ∧ Pend ops i D := by
  unfold okTake at h
  simp only [Bool.and_eq_true] at h
  exact ⟨h.1.1.2, h.1.2, pendB_spec h.2⟩
end
end Go.Ev
