import Derived.Test.YtkldglhihfjclaaGreatDoorEvZa
namespace Go.Ev
noncomputable section
variable {P : Program} {K : Nat → Bool} {w0 : World} {ops : Array Oper}

theorem planX_gi {call : CallT} : ∀ (k F : Nat) (seen : Bool) (g : Nat) (gs : List Nat) (l : List Stp) (D : Array Bool) (rs0 : List Nat) (tm tm' : List Value) (σ σ' : St) (ss : List Tag) (gi : Option (New × List Value)),
    planX P ops k F seen (g :: gs) D = some l → execX P call ops (g :: gs) rs0 l tm σ = some (tm', σ', ss, gi) → ∃ n us, gi = some (n, us) ∧ us.length = gs.length
  | 0, _, _, _, _, _, _, _, _, _, _, _, _, _, hp, _ => by cases hp
  | k + 1, F, seen, g, gs, l, D, rs0, tm, tm', σ, σ', ss, gi, hp, he => by
    simp only [planX] at hp
    split at hp
    · split at hp
      · obtain ⟨l', hl', rfl⟩ := map_some hp
        simp only [execX] at he
        split at he
        · rename_i n us hg
          split at he
          · cases he
            obtain ⟨g', gs', o, e, e1, e2, e3, e4⟩ := gAll_spec hg
            cases e
            exact ⟨n, us, rfl, (gVals_len e4).1⟩
          · cases he
        · cases he
      · cases hp
    · split at hp
      · cases hp
      · split at hp
        · obtain ⟨l', hl', rfl⟩ := map_some hp
          simp only [execX] at he
          split at he
          · split at he
            · split at he
              · rename_i he1
                split at he
                · cases he; exact planX_gi k _ _ _ _ _ _ _ _ _ _ _ _ _ hl' he1
                · cases he
              · cases he
            · split at he
              · split at he
                · rename_i he1
                  split at he
                  · cases he; exact planX_gi k _ _ _ _ _ _ _ _ _ _ _ _ _ hl' he1
                  · cases he
                · cases he
              · cases he
          · cases he
        · split at hp
          · split at hp
            · split at hp
              · split at hp
                · obtain ⟨l', hl', rfl⟩ := map_some hp
                  simp only [execX] at he
                  split at he
                  · split at he
                    · split at he
                      · rename_i he1
                        split at he
                        · cases he; exact planX_gi k _ _ _ _ _ _ _ _ _ _ _ _ _ hl' he1
                        · cases he
                      · cases he
                    · cases he
                  · cases he
                · cases hp
              · split at hp
                · obtain ⟨l', hl', rfl⟩ := map_some hp
                  simp only [execX] at he
                  split at he
                  · split at he
                    · split at he
                      · rename_i he1
                        cases he; exact planX_gi k _ _ _ _ _ _ _ _ _ _ _ _ _ hl' he1
                      · cases he
                    · cases he
                  · cases he
                · cases hp
            · cases hp
          · cases hp

theorem Held.rebase {G : Nat → Option Obj} {σ : St} {E : Env} {w : World} (h : Held G K w0) (hr : Rel K w0 σ E w) : Held G (known σ E) w := by
  intro r o hg
  obtain ⟨h1, h2⟩ := h r o hg
  have hlt : r < w0.heap.size := by rw [Array.getElem?_eq_some_iff] at h2; exact h2.1
  refine ⟨?_, held_now h hr hg⟩
  cases hk : known σ E r with
  | false => rfl
  | true =>
    obtain ⟨x, o', hx, hb⟩ := known_true.mp hk
    have := (hr.own x o' hx).2
    rw [hb] at this
    rcases this with h3 | h3
    · rw [h1] at h3; cases h3
    · omega

/-- The step of a group's region that may come up: an operation of the rest, or the next one of the group. -/
theorem planX_sound {G : Nat → Option Obj} {call : CallT} (hc : CallOk P G call) (hK : Held G K w0) {Q : Exit → Act → World → Prop} (hsel : Region.noSelect ops = true) (hQ : NoPanic Q) : ∀ (k : Nat),
    (∀ (F : Nat) (seen : Bool) (l : List Stp) (D : Array Bool) (rs0 : List Nat) (tm tm' : List Value) (σ σ' : St) (E : Env) (w : World) (ss : List Tag) (gi : Option (New × List Value)),
      planX P ops k F seen [] D = some l → (∀ x ∈ rs0, D.getD x false = true) → execX P call ops [] rs0 l tm σ = some (tm', σ', ss, gi) → Rel K w0 σ E w → Good σ.next E tm → (Then K w0 σ E tm' σ' fun _ => Q .normal) →
      wpAnyS P ops Q (Sof K w0 ss σ.next E) F D (act E tm) w) ∧
    (∀ (F : Nat) (seen : Bool) (g : Nat) (gs : List Nat) (l : List Stp) (D : Array Bool) (rs0 : List Nat) (tm tm' : List Value) (σ σ' : St) (E : Env) (ss : List Tag) (n : New) (us : List Value),
      planX P ops k F seen (g :: gs) D = some l → (∀ x ∈ rs0, D.getD x false = true) → execX P call ops (g :: gs) rs0 l tm σ = some (tm', σ', ss, some (n, us)) → Good σ.next E tm → us.length = gs.length → (Then K w0 σ E tm' σ' fun _ => Q .normal) →
      ∀ (m j : Nat) (a : Act) (w : World), j + m = (g :: gs).length → (0 < j → seen = true) → Rel K w0 σ E w → Early K w0 ops (g :: gs) n us σ E w (act E tm) j a →
      wpAnyS P ops Q (Sof K w0 ss σ.next E) (F + m) (cat D ((g :: gs).take j)) a w) := by
  intro k
  induction k with
  | zero => exact ⟨fun _ _ _ _ _ _ _ _ _ _ _ _ _ h => (by cases h), fun _ _ _ _ _ _ _ _ _ _ _ _ _ _ _ h => (by cases h)⟩
  | succ k ih =>
    obtain ⟨ihA, ihB⟩ := ih
    refine ⟨?_, ?_⟩
    · intro F seen l D rs0 tm tm' σ σ' E w ss gi hp hrs he hr ht hn
      simp only [planX] at hp
      split at hp
      · rename_i hrd
        cases hp
        simp only [execX] at he
        cases he
        exact wpAnyS_done hrd (hn E w hr (Ext.refl _ _) ht (Nat.le_refl _)) _
      · rename_i r rs hrd
        split at hp
        · cases hp
        · rename_i F
          split at hp
          · rename_i i hfind
            obtain ⟨l', hl', rfl⟩ := map_some hp
            obtain ⟨hcont, hfree, hpend⟩ := okTake_spec (List.find?_some hfind)
            have hmem0 := execX_head he
            have hS : Sof K w0 ss σ.next E D w := Sof_here hmem0 hrs hr
            have hrs' : ∀ x ∈ rs0, (D.setIfInBounds i true).getD x false = true := fun x hx => getD_set_true (hrs x hx)
            simp only [execX] at he
            split at he
            · rename_i o ho
              split at he
              · rename_i hw
                split at he
                · rename_i tm1 σ1 ss1 gi1 he1
                  split at he
                  · rename_i hnone
                    cases he
                    have hy : YieldsIf P ops (Still ops (Sof K w0 ss σ.next E) i) o (ren E undef) (act E tm) := Or.inr ⟨by rw [wantedT_sound, hw], ren_undef E⟩
                    refine wpAnyS_take ho hsel hfree hcont (fun c a w h => absurd h (hQ _ _ _)) (Sof_take (noneIs_spec hnone)) hpend hy hS ?_
                    rw [putT_act ht (Ext.refl σ.next E)]
                    exact ihA _ _ _ _ _ _ _ _ _ _ _ _ _ hl' hrs' he1 hr (putT_good ht (Nat.le_refl _) (Ext.refl _ _) _ ok_undef) hn
                  · cases he
                · cases he
              · rename_i hw
                split at he
                · rename_i v hv
                  split at he
                  · rename_i tm1 σ1 ss1 gi1 he1
                    split at he
                    · rename_i hsame
                      cases he
                      obtain ⟨hok, hyl⟩ := yields_later (ops := ops) hmem0 hr ht hv hsame
                      have hy : YieldsIf P ops (Still ops (Sof K w0 ss σ.next E) i) o (ren E v) (act E tm) := Or.inl ⟨by rw [wantedT_sound, hw], hyl⟩
                      refine wpAnyS_take ho hsel hfree hcont (fun c a w h => absurd h (hQ _ _ _)) (Sof_take (none_of_same hsame)) hpend hy hS ?_
                      rw [putT_act ht (Ext.refl σ.next E)]
                      exact ihA _ _ _ _ _ _ _ _ _ _ _ _ _ hl' hrs' he1 hr (putT_good ht (Nat.le_refl _) (Ext.refl _ _) _ hok) hn
                    · cases he
                  · cases he
                · cases he
            · cases he
          · split at hp
            · obtain ⟨l', hl', rfl⟩ := map_some hp
              simp only [execX] at he
              split at he
              · rename_i o ho
                split at he
                · rename_i tm1 σ1 h1
                  split at he
                  · rename_i tm2 σ2 ss2 gi2 he2
                    cases he
                    refine wpAnyS_all hrd (by simp) fun j hj => ?_
                    have hj' : j = r := by simpa using hj
                    subst hj'
                    have hun : D.getD j true = false := (mem_ready.1 (show j ∈ rdy ops D by rw [hrd]; simp)).1
                    have hrs' := rs_step hrs hun
                    refine stepO_sound hc hK ho h1 hr ht fun E1 w1 e1 e2 e3 e4 => ⟨?_, ?_⟩
                    · exact Sof_cons e2 e4 (Sof_here (execX_head he2) hrs' e1)
                    · exact wpAnyS_mono (fun L w' hw' => Sof_cons e2 e4 hw') _ _ _ _ (ihA _ _ _ _ _ _ _ _ _ _ _ _ _ hl' hrs' he2 e1 e3 fun E' w' f1 f2 f3 f4 => hn E' w' f1 (e2.trans e4 f2) f3 (Nat.le_trans e4 f4))
                  · cases he
                · cases he
              · cases he
            · split at hp
              · rename_i g hg
                split at hp
                · rename_i hle
                  obtain ⟨l', hl', rfl⟩ := map_some hp
                  have hle := Nat.le_of_ble_eq_true hle
                  simp only [execX] at he
                  obtain ⟨gs', hgs⟩ : ∃ gs', groupOf P ops g = g :: gs' := ⟨_, rfl⟩
                  rw [hgs] at hl' he hle
                  obtain ⟨n, us, rfl, hul⟩ := planX_gi k _ _ _ _ _ _ _ _ _ _ _ _ _ hl' he
                  have := ihB _ _ _ _ _ _ _ _ _ _ _ E _ n us hl' hrs he ht hul hn (g :: gs').length 0 (act E tm) w (by omega) (by omega) hr (Or.inl ⟨rfl, rfl⟩)
                  simp only [List.take_zero, cat] at this
                  rwa [show F + 1 - (g :: gs').length + (g :: gs').length = F + 1 by omega] at this
                · cases hp
              · cases hp
    · intro F seen g gs l D rs0 tm tm' σ σ' E ss n us hp hrs he ht hul hn m
      have hmem := execX_head he
      -- one more of the group ahead
      have ahead : ∀ (m j : Nat) (a : Act) (w : World), j + (m + 1) = (g :: gs).length → gAll P ops (g :: gs) tm σ = some (n, us) → Rel K w0 σ E w → Early K w0 ops (g :: gs) n us σ E w (act E tm) j a →
          (∀ (a : Act) (w : World), Rel K w0 σ E w → Early K w0 ops (g :: gs) n us σ E w (act E tm) (j + 1) a → wpAnyS P ops Q (Sof K w0 ss σ.next E) (F + m) (cat D ((g :: gs).take (j + 1))) a w) →
          ∀ x, (g :: gs)[j]? = some x → wpOp P ops Q x (fun a' w' => Sof K w0 ss σ.next E ((cat D ((g :: gs).take j)).setIfInBounds x true) w' ∧ wpAnyS P ops Q (Sof K w0 ss σ.next E) (F + m) ((cat D ((g :: gs).take j)).setIfInBounds x true) a' w') a w := by
        intro m j a w hjm hga hr hea hnext x hx
        refine early_step hga hr ht (by omega) hea (fun a' w' r1 r2 => ⟨Sof_here hmem (fun y hy => getD_set_true (cat_keeps _ _ _ (hrs y hy))) r1, ?_⟩) x hx
        have := hnext a' w' r1 r2
        rwa [show (g :: gs).take (j + 1) = (g :: gs).take j ++ [x] by rw [List.take_add_one, hx]; rfl, cat_snoc] at this
      simp only [planX] at hp
      split at hp
      · split at hp
        · rename_i hall
          obtain ⟨l', hl', rfl⟩ := map_some hp
          simp only [execX] at he
          split at he
          · rename_i n' us' hga
            split at he
            · rename_i tm2 σ2 ss2 gi2 he2
              cases he
              have inner : ∀ (m j : Nat) (a : Act) (w : World), j + m = (g :: gs).length → Rel K w0 σ E w → Early K w0 ops (g :: gs) n us σ E w (act E tm) j a →
                  wpAnyS P ops Q (Sof K w0 ((rs0, σ) :: ss2) σ.next E) (F + m) (cat D ((g :: gs).take j)) a w := by
                intro m
                induction m with
                | zero =>
                  intro j a w hjm hr hea
                  have hjl : j = (g :: gs).length := by omega
                  subst hjl
                  obtain ⟨p, hA, ha, hgood⟩ := early_adopt hga hr ht (by simp) hea
                  have hlen : (n.val σ.next :: us).length = (g :: gs).length := by simp [hul]
                  rw [List.take_length, ← hlen, List.take_length] at ha hgood
                  rw [List.take_length, ha]
                  refine wpAnyS_mono (fun L w' hw' => Sof_cons (σ1 := σ.newIn n.cs n.esz σ.next 0) (upd_ext E σ.next ⟨p, 0, n.cap⟩) (Nat.le_succ _) hw') _ _ _ _ ?_
                  exact ihA _ _ _ _ _ _ _ _ _ _ _ _ _ hl' (fun y hy => cat_keeps _ _ _ (hrs y hy)) he2 hA hgood fun E' w' f1 f2 f3 f4 => hn E' w' f1 ((upd_ext E σ.next ⟨p, 0, n.cap⟩).trans (Nat.le_succ _) f2) f3 (Nat.le_trans (Nat.le_succ _) f4)
                | succ m ihm =>
                  intro j a w hjm hr hea
                  have hj := allJ_spec hall j (by omega)
                  have hjl : j < (g :: gs).length := by omega
                  rw [List.drop_eq_getElem_cons hjl] at hj
                  obtain ⟨hne, hon⟩ := only_spec hj
                  refine wpAnyS_all (fuel := F + m) rfl hne fun x hx => ?_
                  have hxx : x = (g :: gs)[j] := by simpa using hon x hx
                  exact ahead m j a w hjm hga hr hea (fun a w r1 r2 => ihm (j + 1) a w (by omega) r1 r2) x (by rw [hxx]; exact List.getElem?_eq_getElem hjl)
              exact fun j a w h1 _ h3 h4 => inner m j a w h1 h3 h4
            · cases he
          · cases he
        · cases hp
      · rename_i r rs hrd
        split at hp
        · cases hp
        · rename_i F
          split at hp
          · rename_i i hfind
            obtain ⟨l', hl', rfl⟩ := map_some hp
            have hck := List.find?_some hfind
            simp only [Bool.and_eq_true] at hck
            intro j a w hjm hseen hr hea
            obtain ⟨hcont, hfree, hpend⟩ := okTake_spec (allJ_spec hck.2 j (by omega))
            have hap := apartAll_take hck.1 j
            obtain ⟨vs, hva, hmv⟩ := hea.move
            have hS : Sof K w0 ss σ.next E (cat D ((g :: gs).take j)) w := Sof_here hmem (fun y hy => cat_keeps _ _ _ (hrs y hy)) hr
            have hrs' : ∀ x ∈ rs0, (D.setIfInBounds i true).getD x false = true := fun x hx => getD_set_true (hrs x hx)
            rw [show F + 1 + m = F + m + 1 by omega]
            simp only [execX] at he
            split at he
            · rename_i o ho
              obtain ⟨p1, p2, p3⟩ := putsG_same hsel ho ((g :: gs).take j) vs (act E tm) hap
              split at he
              · rename_i hw
                split at he
                · rename_i tm1 σ1 ss1 gi1 he1
                  split at he
                  · rename_i hnone
                    cases he
                    have hy : YieldsIf P ops (Still ops (Sof K w0 ss σ.next E) i) o (ren E undef) a := Or.inr ⟨by rw [hva, p2, wantedT_sound, hw], ren_undef E⟩
                    refine wpAnyS_take ho hsel hfree hcont (fun c a w h => absurd h (hQ _ _ _)) (Sof_take (noneIs_spec hnone)) hpend hy hS ?_
                    rw [hva, p3, putT_act ht (Ext.refl σ.next E), ← cat_set]
                    exact ihB _ _ _ _ _ _ _ _ _ _ _ _ _ _ _ hl' hrs' he1 (putT_good ht (Nat.le_refl _) (Ext.refl _ _) _ ok_undef) hul hn m j _ w hjm hseen hr (hmv _)
                  · cases he
                · cases he
              · rename_i hw
                split at he
                · rename_i v hv
                  split at he
                  · rename_i tm1 σ1 ss1 gi1 he1
                    split at he
                    · rename_i hsame
                      cases he
                      obtain ⟨hok, hyl⟩ := yields_later (ops := ops) hmem hr ht hv hsame
                      have hy : YieldsIf P ops (Still ops (Sof K w0 ss σ.next E) i) o (ren E v) a := Or.inl ⟨by rw [hva, p2, wantedT_sound, hw], by rw [hva, p1]; exact hyl⟩
                      refine wpAnyS_take ho hsel hfree hcont (fun c a w h => absurd h (hQ _ _ _)) (Sof_take (none_of_same hsame)) hpend hy hS ?_
                      rw [hva, p3, putT_act ht (Ext.refl σ.next E), ← cat_set]
                      exact ihB _ _ _ _ _ _ _ _ _ _ _ _ _ _ _ hl' hrs' he1 (putT_good ht (Nat.le_refl _) (Ext.refl _ _) _ hok) hul hn m j _ w hjm hseen hr (hmv _)
                    · cases he
                  · cases he
                · cases he
            · cases he
          · split at hp
            · split at hp
              · rename_i hap
                -- the operation itself
                have hrdy : r ∈ rdy ops D := by
                  have : r ∈ (rdy ops D).filter fun x => !(g :: gs).contains x := by rw [hrd]; simp
                  exact (List.mem_filter.mp this).1
                have goOn : ∀ (o : Oper) (tm1 : List Value) (σ1 : St) (ss2 : List Tag) (l' : List Stp) (seen' : Bool), r ∈ rdy ops D → ops[r]? = some o → stepO P call ops tm σ o = some (tm1, σ1) → planX P ops k F seen' (g :: gs) (D.setIfInBounds r true) = some l' →
                    execX P call ops (g :: gs) (r :: rs0) l' tm1 σ1 = some (tm', σ', ss2, some (n, us)) → ss = (rs0, σ) :: ss2 → ∀ (m j : Nat) (a : Act) (w : World), j + m = (g :: gs).length → (0 < j → seen' = true) → Rel K w0 σ E w →
                    Early K w0 ops (g :: gs) n us σ E w (act E tm) j a →
                    wpOp P ops Q r (fun a' w' => Sof K w0 ss σ.next E ((cat D ((g :: gs).take j)).setIfInBounds r true) w' ∧ wpAnyS P ops Q (Sof K w0 ss σ.next E) (F + m) ((cat D ((g :: gs).take j)).setIfInBounds r true) a' w') a w := by
                  intro o tm1 σ1 ss2 l' seen' hrdy ho h1 hl' he2 hss m j a w hjm hseen hr hea
                  have hrs' := rs_step hrs (mem_ready.1 hrdy).1
                  subst hss
                  obtain ⟨vs, hva, hmv⟩ := hea.move
                  rw [hva]
                  refine wpOp_putsG hsel hQ ho (apartAll_take hap j) ?_
                  refine stepO_sound hc (hK.rebase hr) ho h1 hr.rebase ht fun E1 w1 e1 e2 e3 e4 => ⟨?_, ?_⟩
                  · rw [← cat_set]
                    exact Sof_cons e2 e4 (Sof_here (execX_head he2) (fun y hy => cat_keeps _ _ _ (hrs' y hy)) (hr.back e1))
                  · rw [← cat_set]
                    exact wpAnyS_mono (fun L w' hw' => Sof_cons e2 e4 hw') _ _ _ _ (ihB _ _ _ _ _ _ _ _ _ _ _ _ _ _ _ hl' hrs' he2 e3 hul (fun E' w' f1 f2 f3 f4 => hn E' w' f1 (e2.trans e4 f2) f3 (Nat.le_trans e4 f4)) m j _ w1 hjm hseen (hr.back e1) ((hmv _).call e1 e2 e4))
                split at hp
                · rename_i hgr
                  split at hp
                  · rename_i hall
                    obtain ⟨l', hl', rfl⟩ := map_some hp
                    simp only [execX] at he
                    split at he
                    · rename_i o ho
                      split at he
                      · rename_i tm1 σ1 h1
                        split at he
                        · rename_i tm2 σ2 ss2 gi2 he2
                          split at he
                          · rename_i hsg
                            cases he
                            have hga := (sameG_eq hsg).1.symm
                            have inner : ∀ (m j : Nat) (a : Act) (w : World), j + m = (g :: gs).length → Rel K w0 σ E w → Early K w0 ops (g :: gs) n us σ E w (act E tm) j a →
                                wpAnyS P ops Q (Sof K w0 ((rs0, σ) :: ss2) σ.next E) (F + 1 + m) (cat D ((g :: gs).take j)) a w := by
                              intro m
                              induction m with
                              | zero =>
                                intro j a w hjm hr hea
                                have hjl : (g :: gs).drop j = [] := List.drop_eq_nil_of_le (by omega)
                                have hj := allJ_spec hall j (by omega)
                                rw [hjl] at hj
                                obtain ⟨hne, hon⟩ := only_spec hj
                                refine wpAnyS_all (fuel := F + 0) rfl hne fun x hx => ?_
                                have hxx : x = r := by simpa [hd] using hon x hx
                                subst hxx
                                exact goOn o tm1 σ1 ss2 l' true hrdy ho h1 hl' he2 rfl 0 j a w hjm (fun _ => rfl) hr hea
                              | succ m ihm =>
                                intro j a w hjm hr hea
                                have hjl : j < (g :: gs).length := by omega
                                have hj := allJ_spec hall j (by omega)
                                rw [List.drop_eq_getElem_cons hjl] at hj
                                obtain ⟨hne, hon⟩ := only_spec hj
                                rw [show F + 1 + (m + 1) = F + (m + 1) + 1 by omega]
                                refine wpAnyS_all rfl hne fun x hx => ?_
                                have hxx : x = r ∨ x = (g :: gs)[j] := by simpa [hd] using hon x hx
                                rcases hxx with hxx | hxx
                                · subst hxx
                                  exact goOn o tm1 σ1 ss2 l' true hrdy ho h1 hl' he2 rfl (m + 1) j a w hjm (fun _ => rfl) hr hea
                                · rw [show F + (m + 1) = F + 1 + m by omega]
                                  exact ahead m j a w hjm hga hr hea (fun a w r1 r2 => ihm (j + 1) a w (by omega) r1 r2) x (by rw [hxx]; exact List.getElem?_eq_getElem hjl)
                            exact fun j a w h1 _ h3 h4 => inner m j a w h1 h3 h4
                          · cases he
                        · cases he
                      · cases he
                    · cases he
                  · cases hp
                · split at hp
                  · rename_i hon
                    simp only [Bool.and_eq_true, Bool.not_eq_true'] at hon
                    obtain ⟨l', hl', rfl⟩ := map_some hp
                    simp only [execX] at he
                    split at he
                    · rename_i o ho
                      split at he
                      · rename_i tm1 σ1 h1
                        split at he
                        · rename_i tm2 σ2 ss2 gi2 he2
                          cases he
                          intro j a w hjm hseen hr hea
                          have hj0 : j = 0 := by
                            rcases Nat.eq_zero_or_pos j with h0 | h0
                            · exact h0
                            · have := hseen h0; rw [hon.1] at this; cases this
                          subst hj0
                          obtain ⟨hne, hx⟩ := only_spec hon.2
                          rw [show F + 1 + m = F + m + 1 by omega]
                          refine wpAnyS_all rfl hne fun x hxm => ?_
                          have hxx : x = r := by simpa using hx x hxm
                          subst hxx
                          exact goOn o tm1 σ1 ss2 l' false hrdy ho h1 hl' he2 rfl m 0 a w hjm (by omega) hr hea
                        · cases he
                      · cases he
                    · cases he
                  · cases hp
              · cases hp
            · cases hp

def planD (P : Program) (ops : Array Oper) : Option (List Stp) := match Region.noSelect ops with
  | true => planX P ops (ops.size + ops.size + 4) ops.size false [] (Array.replicate ops.size false)
  | false => none
theorem drawn_soundX {G : Nat → Option Obj} {call : CallT} (hc : CallOk P G call) (hK : Held G K w0) (hm : P.follows .mixedOrders = true) {σ : St} {E : Env} {w : World} {id : Nat} {Q : Exit → Act → World → Prop} (hQ : NoPanic Q) {tm tm' : List Value} {σ' : St} {l : List Stp} {ss : List Tag} {gi : Option (New × List Value)}
    (hp : planD P ops = some l) (h : execX P call ops [] [] l tm σ = some (tm', σ', ss, gi)) (hr : Rel K w0 σ E w) (ht : Good σ.next E tm) (hn : Then K w0 σ E tm' σ' fun _ => Q .normal) :
    (Code.region id ops true).wp P Q (act E tm) w := by
  unfold planD at hp
  split at hp
  · rename_i hsel
    exact wp_region_S hm ((planX_sound hc hK hsel hQ _).1 _ _ _ _ _ _ _ _ _ _ _ _ _ hp (by intro x hx; cases hx) h (hr.heap_eq rfl ⟨rfl, rfl, rfl⟩) ht hn)
  · cases hp
end
end Go.Ev
