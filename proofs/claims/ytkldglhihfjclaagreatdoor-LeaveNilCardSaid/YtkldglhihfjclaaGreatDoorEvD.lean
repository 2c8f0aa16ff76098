import Derived.Test.YtkldglhihfjclaaGreatDoorEvC
namespace Go.Ev
variable {K : Nat → Bool} {w0 w : World} {σ : St} {E : Env}

theorem Rel.store (h : Rel K w0 σ E w) {b : Nat} {cs : List Value} {e g s : Nat} (hb : σ.get b = some (.cells cs e g s)) (o : Nat) (vs : List Value)
    (hfit : o + vs.length ≤ cs.length) (hv : ∀ v ∈ vs, ok σ.next E v ∧ v.oneCell' = true) :
    Rel K w0 ((σ.hit b (s + o) vs.length (σ.kin g)).put b (.cells (setAt cs o vs) e g s)) E (w.setCells (E b).blk ((E b).off + o) (vs.map (ren E))) := by
  have hlim := h.lim
  have hbd := get_dom hb
  have hn : ((σ.hit b (s + o) vs.length (σ.kin g)).put b (.cells (setAt cs o vs) e g s)).next = σ.next := hit_next _ _ _ _ _
  have hn1 : (σ.hit b (s + o) vs.length (σ.kin g)).next = σ.next := hit_next _ _ _ _ _
  have hk : ∀ x, ((σ.hit b (s + o) vs.length (σ.kin g)).put b (.cells (setAt cs o vs) e g s)).kin x = σ.kin x := fun x => hit_kin _ _ _ _ _ _
  have hth := h.there b _ _ _ _ hb
  have get : ∀ x ob, ((σ.hit b (s + o) vs.length (σ.kin g)).put b (.cells (setAt cs o vs) e g s)).get x = some ob →
      (x = b ∧ ob = .cells (setAt cs o vs) e g s) ∨ (x ≠ b ∧ σ.get x = some ob ∧ (∀ cs' e' g' s', ob = .cells cs' e' g' s' → (E x).blk = (E b).blk →
        ∀ j, j < cs'.length → (E x).off + j < (E b).off + o ∨ (E b).off + o + vs.length ≤ (E x).off + j)) := by
    intro x ob hx
    by_cases e1 : x = b
    · subst e1; rw [get_put _ _ _ (by rw [hn1]; exact hlim) (by rw [hn1]; exact hbd)] at hx; exact Or.inl ⟨rfl, (Option.some.inj hx).symm⟩
    · rw [get_put_ne _ _ _ _ e1] at hx
      have hx0 := hit_sub _ _ _ _ _ hlim _ _ hx
      refine Or.inr ⟨e1, hx0, ?_⟩
      rintro cs' e' g' s' rfl hblk j hj
      have hf := h.fam x _ _ _ _ b _ _ _ _ hx0 hb hblk
      have hki := (h.kin x _ _ _ _ hx0).1
      rw [hf.1] at hki
      have hs := hit_spec _ _ _ _ _ hlim x _ _ _ _ hki e1 hx
      omega
  have hin : ∀ j, j < vs.length → (w.cell? ⟨(E b).blk, (E b).off + o + j, none⟩).isSome = true := fun j hj => by
    have := (hth (o + j) (by omega)).1
    rwa [← Nat.add_assoc] at this
  have own := h.own
  constructor
  · rw [hn]; exact hlim
  · intro x cs' e' g' s' hx j v hj
    rcases get x _ hx with ⟨rfl, ho⟩ | ⟨hne, ho, hap⟩
    · cases ho
      have hjl : j < (setAt cs o vs).length := by
        have := (List.getElem?_eq_some_iff.mp hj).1; simpa using this
      rw [setAt_length cs o vs hfit] at hjl
      by_cases hm : o ≤ j ∧ j < o + vs.length
      · obtain ⟨i, rfl⟩ : ∃ i, j = o + i := ⟨j - o, by omega⟩
        have hi : i < vs.length := by omega
        rw [List.getElem?_map, setAt_in cs o vs hfit i hi, ← List.getElem?_map] at hj
        have := World.cell?_setCells_in (E x).blk (vs.map (ren E)) ((E x).off + o) w (by simpa using hin) i (by simpa using hi)
        rw [← Nat.add_assoc, this, ← hj]
        simp [hi]
      · rw [List.getElem?_map, setAt_out cs o vs hfit j (by omega), ← List.getElem?_map] at hj
        rw [World.cell?_setCells_out _ _ _ _ _ (fun _ _ => by simp only [List.length_map]; omega)]
        exact h.cell x _ _ _ _ hb j v hj
    · rw [World.cell?_setCells_out _ _ _ _ _ (fun hbl _ => by
        have hjl : j < cs'.length := by have := (List.getElem?_eq_some_iff.mp hj).1; simpa using this
        have := hap _ _ _ _ rfl hbl j hjl
        simpa using this)]
      exact h.cell x _ _ _ _ ho j v hj
  · intro x cs' e' g' s' hx v hvm
    rw [hn]
    rcases get x _ hx with ⟨rfl, ho⟩ | ⟨hne, ho, hap⟩
    · cases ho
      rcases setAt_mem _ _ _ _ hvm with hm | hm
      · exact h.good x _ _ _ _ hb v hm
      · exact hv v hm
    · exact h.good x _ _ _ _ ho v hvm
  · intro x cs' e' g' s' hx j hj
    have old : (w.cell? ⟨(E x).blk, (E x).off + j, none⟩).isSome = true ∧ w.frozen? ⟨(E x).blk, (E x).off + j, none⟩ = false := by
      rcases get x _ hx with ⟨rfl, ho⟩ | ⟨hne, ho, hap⟩
      · cases ho; rw [setAt_length cs o vs hfit] at hj; exact hth j hj
      · exact h.there x _ _ _ _ ho j hj
    refine ⟨?_, by rw [World.frozen?_setCells]; exact old.2⟩
    by_cases hm : (E x).blk = (E b).blk ∧ (E b).off + o ≤ (E x).off + j ∧ (E x).off + j < (E b).off + o + vs.length
    · have := World.cell?_setCells_in (E b).blk (vs.map (ren E)) ((E b).off + o) w (by simpa using hin) ((E x).off + j - ((E b).off + o)) (by simp; omega)
      rw [hm.1, show (E x).off + j = (E b).off + o + ((E x).off + j - ((E b).off + o)) by omega, this]; rfl
    · rw [World.cell?_setCells_out _ _ _ _ _ (fun hbl _ => by simp only [List.length_map]; simp only [] at hbl; omega)]
      exact old.1
  · intro x cs' e' g' s' hx
    rw [hk, hn]
    rcases get x _ hx with ⟨rfl, ho⟩ | ⟨hne, ho, hap⟩
    · cases ho; exact h.kin x _ _ _ _ hb
    · exact h.kin x _ _ _ _ ho
  · intro x cs1 e1 g1 s1 x' cs2 e2 g2 s2 hx hx' he
    rcases get x _ hx with ⟨rfl, ho⟩ | ⟨hne, ho, hap⟩ <;> rcases get x' _ hx' with ⟨rfl, ho'⟩ | ⟨hne', ho', hap'⟩
    · cases ho; cases ho'; exact ⟨rfl, rfl⟩
    · cases ho; exact h.fam x _ _ _ _ x' _ _ _ _ hb ho' he
    · cases ho'; exact h.fam x _ _ _ _ x' _ _ _ _ ho hb he
    · exact h.fam x _ _ _ _ x' _ _ _ _ ho ho' he
  · intro x ks vs' bo cl hx
    rcases get x _ hx with ⟨rfl, ho⟩ | ⟨hne, ho, hap⟩
    · cases ho
    · obtain ⟨es, h1, h2, h3⟩ := h.obj x _ _ _ _ ho
      refine ⟨es, ?_, h2, by rw [hn]; exact h3⟩
      rw [setCells_heap_ne _ _ (fun hbl => ?_)]
      · exact h1
      · obtain ⟨⟨_, _, _, _, hc⟩, _⟩ := h.apart x _ b _ ho hb hne hbl
        cases hc
  · intro x s' p hx
    rcases get x _ hx with ⟨rfl, ho⟩ | ⟨hne, ho, hap⟩
    · cases ho
    · rw [setCells_heap_ne _ _ (fun hbl => ?_)]
      · exact h.itr x _ _ ho
      · obtain ⟨⟨_, _, _, _, hc⟩, _⟩ := h.apart x _ b _ ho hb hne hbl
        cases hc
  · intro x o1 x' o2 hx hx' hxx he
    rcases get x _ hx with ⟨rfl, ho⟩ | ⟨hne, ho, hap⟩ <;> rcases get x' _ hx' with ⟨rfl, ho'⟩ | ⟨hne', ho', hap'⟩
    · exact absurd rfl hxx
    · obtain ⟨_, h2⟩ := h.apart x _ x' _ hb ho' hxx he
      exact ⟨⟨_, _, _, _, ho⟩, h2⟩
    · obtain ⟨h2, _⟩ := h.apart x _ x' _ ho hb hxx he
      exact ⟨h2, ⟨_, _, _, _, ho'⟩⟩
    · exact h.apart x _ x' _ ho ho' hxx he
  · intro x o1 hx
    rw [setCells_size]
    rcases get x _ hx with ⟨rfl, ho⟩ | ⟨hne, ho, hap⟩
    · exact own x _ hb
    · exact own x _ ho
  · rw [setCells_size]; exact h.size
  · intro r hr hkr
    rw [setCells_heap_ne _ _ (fun hbl => ?_)]
    · exact h.frame r hr hkr
    · have := (own b _ hb).2
      rw [← hbl, hkr] at this
      simp at this
      omega
  · intro x cs' e' g' s' hx
    have key : ∀ y cs e g s, σ.get y = some (.cells cs e g s) → ∃ c el fz, (w.setCells (E b).blk ((E b).off + o) (vs.map (ren E))).heap[(E y).blk]? = some (.cells c el fz) ∧ (fz.1 = fz.2 ∨ c.size ≤ fz.1) := by
      intro y cs e g s hy
      obtain ⟨c, el, fz, f1, f2⟩ := h.fro y _ _ _ _ hy
      by_cases e1 : (E y).blk = (E b).blk
      · rw [e1] at f1 ⊢
        obtain ⟨c', f3, f4⟩ := setCells_obj _ (vs.map (ren E)) ((E b).off + o) w c el fz f1
        exact ⟨c', el, fz, f3, by rw [f4]; exact f2⟩
      · rw [setCells_heap_ne _ _ e1]; exact ⟨c, el, fz, f1, f2⟩
    rcases get x _ hx with ⟨rfl, ho⟩ | ⟨hne, ho, hap⟩
    · exact key x _ _ _ _ hb
    · exact key x _ _ _ _ ho
  · have hq := setCells_calm (E b).blk (vs.map (ren E)) ((E b).off + o) w
    exact ⟨hq.1.trans h.calm.1, hq.2.1.trans h.calm.2.1, hq.2.2.trans h.calm.2.2⟩
end Go.Ev
