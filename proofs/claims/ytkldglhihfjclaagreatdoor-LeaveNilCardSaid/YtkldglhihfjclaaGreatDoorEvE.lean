import Derived.Test.YtkldglhihfjclaaGreatDoorEvD
namespace Go.Ev
variable {K : Nat → Bool} {w0 w : World} {σ : St} {E : Env}

/-- A longer row in place. -/
theorem Rel.longer (h : Rel K w0 σ E w) (hr : σ.room = true) {b : Nat} {cs : List Value} {e g s : Nat} (hb : σ.get b = some (.cells cs e g s)) (o m : Nat) (vs : List Value) (k : Nat)
    (ho : o + m ≤ cs.length) (hv : ∀ v ∈ vs, ok σ.next E v ∧ v.oneCell' = true) (hcap : o + k * e ≤ (E b).cap * e) (hm : m + vs.length ≤ k * e) (l : List Nat) (hl : 0 < vs.length → l = σ.kin g) :
    Rel K w0 ((σ.hit σ.next (s + o + m) vs.length l).newIn ((cs.drop o).take m ++ vs) e g (s + o)) (upd E σ.next ⟨(E b).blk, (E b).off + o, k⟩)
      (w.setCells (E b).blk ((E b).off + o + m) (vs.map (ren E))) := by
  have hlim := h.lim
  have hroom : σ.next < 16000 := Nat.blt_eq.mp hr
  have hbd := get_dom hb
  have hth := h.there b _ _ _ _ hb
  have hgood := h.good b _ _ _ _ hb
  have own := h.own
  generalize hσ : σ.hit σ.next (s + o + m) vs.length l = σ1
  have hn1 : σ1.next = σ.next := by rw [← hσ]; exact hit_next _ _ _ _ _
  have hk1 : ∀ x, σ1.kin x = σ.kin x := fun x => by rw [← hσ]; exact hit_kin _ _ _ _ _ _
  have hn : (σ1.newIn ((cs.drop o).take m ++ vs) e g (s + o)).next = σ.next + 1 := by rw [← hn1]; rfl
  have hgn := (h.kin b _ _ _ _ hb).2
  have get : ∀ x ob, (σ1.newIn ((cs.drop o).take m ++ vs) e g (s + o)).get x = some ob →
      (x = σ.next ∧ ob = .cells ((cs.drop o).take m ++ vs) e g (s + o)) ∨ (x ≠ σ.next ∧ σ.get x = some ob ∧ (∀ cs' e' g' s', ob = .cells cs' e' g' s' → (E x).blk = (E b).blk →
        ∀ j, j < cs'.length → (E x).off + j < (E b).off + o + m ∨ (E b).off + o + m + vs.length ≤ (E x).off + j)) := by
    intro x ob hx
    by_cases e1 : x = σ.next
    · subst e1; rw [← hn1, get_new _ _ _ _ _ (by rw [hn1]; exact hlim)] at hx; exact Or.inl ⟨rfl, (Option.some.inj hx).symm⟩
    · rw [get_new_ne _ _ _ _ _ _ (by rw [hn1]; exact e1)] at hx
      have hx0 : σ.get x = some ob := by rw [← hσ] at hx; exact hit_sub _ _ _ _ _ hlim _ _ hx
      refine Or.inr ⟨e1, hx0, ?_⟩
      rintro cs' e' g' s' rfl hblk j hj
      have hf := h.fam x _ _ _ _ b _ _ _ _ hx0 hb hblk
      have hki := (h.kin x _ _ _ _ hx0).1
      rw [hf.1] at hki
      rcases Nat.eq_zero_or_pos vs.length with h0 | h0
      · omega
      · rw [← hl h0] at hki
        have hs := hit_spec _ _ _ _ σ hlim x _ _ _ _ hki e1 (by rw [hσ]; exact hx)
        omega
  have hin : ∀ j, j < vs.length → (w.cell? ⟨(E b).blk, (E b).off + o + m + j, none⟩).isSome = true := fun j hj => by
    have := (hth (o + m + j) (by omega)).1
    rwa [show (E b).off + (o + m + j) = (E b).off + o + m + j by omega] at this
  have okx : ∀ {v}, ok σ.next E v → ok (σ.next + 1) (upd E σ.next ⟨(E b).blk, (E b).off + o, k⟩) v := fun hv => ok_ext (by omega) (upd_ext E _ _) _ hv
  have hold : ∀ v ∈ (cs.drop o).take m ++ vs, ok σ.next E v ∧ v.oneCell' = true := by
    intro v hv'
    rcases List.mem_append.mp hv' with hv' | hv'
    · exact hgood v (List.mem_of_mem_drop (List.mem_of_mem_take hv'))
    · exact hv v hv'
  have hlen : ((cs.drop o).take m ++ vs).length = m + vs.length := by simp; omega
  constructor
  · rw [hn]; omega
  · intro x cs' e' g' s' hx j v hj
    rcases get x _ hx with ⟨rfl, hob⟩ | ⟨hne, hob, hap⟩
    · cases hob
      rw [upd_same]
      simp only []
      rw [ren_upd (fun v hv => (hold v hv).1)] at hj
      have hjl : j < m + vs.length := by have := (List.getElem?_eq_some_iff.mp hj).1; rw [List.length_map, hlen] at this; exact this
      by_cases hjm : j < m
      · rw [World.cell?_setCells_out _ _ _ _ _ (fun _ _ => by simp only []; omega)]
        rw [List.getElem?_map, List.getElem?_append_left (by simp; omega), List.getElem?_take_of_lt hjm, List.getElem?_drop, ← List.getElem?_map] at hj
        have := h.cell b _ _ _ _ hb (o + j) v hj
        rwa [← Nat.add_assoc] at this
      · obtain ⟨i, rfl⟩ : ∃ i, j = m + i := ⟨j - m, by omega⟩
        have hi : i < vs.length := by omega
        have h1 := World.cell?_setCells_in (E b).blk (vs.map (ren E)) ((E b).off + o + m) w (by simpa using hin) i (by simpa using hi)
        rw [← Nat.add_assoc, h1, ← hj, List.getElem?_map, List.getElem?_append_right (by simp; omega)]
        have : m + i - ((cs.drop o).take m).length = i := by simp; omega
        rw [this]
        simp [hi]
    · rw [upd_ne E _ hne]
      rw [ren_upd (fun v hv => (h.good x _ _ _ _ hob v hv).1)] at hj
      rw [World.cell?_setCells_out _ _ _ _ _ (fun hbl _ => by
        have hjl : j < cs'.length := by have := (List.getElem?_eq_some_iff.mp hj).1; simpa using this
        have := hap _ _ _ _ rfl hbl j hjl
        simpa using this)]
      exact h.cell x _ _ _ _ hob j v hj
  · intro x cs' e' g' s' hx v hvm
    rw [hn]
    rcases get x _ hx with ⟨rfl, hob⟩ | ⟨hne, hob, hap⟩
    · cases hob; exact ⟨okx (hold v hvm).1, (hold v hvm).2⟩
    · exact ⟨okx (h.good x _ _ _ _ hob v hvm).1, (h.good x _ _ _ _ hob v hvm).2⟩
  · intro x cs' e' g' s' hx
    refine World.there_setCells ?_ _ _ _
    rcases get x _ hx with ⟨rfl, hob⟩ | ⟨hne, hob, hap⟩
    · cases hob
      rw [upd_same]
      intro j hj
      simp only [hlen] at hj
      have hjk : j < k * e := by omega
      have := hth (o + j) (by omega)
      rwa [← Nat.add_assoc] at this
    · rw [upd_ne E _ hne]; exact h.there x _ _ _ _ hob
  · intro x cs' e' g' s' hx
    rcases get x _ hx with ⟨rfl, hob⟩ | ⟨hne, hob, hap⟩
    · cases hob; rw [hn, ← hn1]; exact ⟨kin_new σ1 _ _ _ _ (by rw [hn1]; exact hlim) (by rw [hn1]; omega), by rw [hn1]; omega⟩
    · have hk := h.kin x _ _ _ _ hob
      exact ⟨kin_new_sub _ _ _ _ _ _ (by rw [hn1]; exact hlim) (by rw [hn1]; omega) _ (by rw [hk1]; exact hk.1), by rw [hn]; omega⟩
  · intro x cs1 e1 g1 s1 x' cs2 e2 g2 s2 hx hx' he
    rcases get x _ hx with ⟨rfl, hob⟩ | ⟨hne, hob, hap⟩ <;> rcases get x' _ hx' with ⟨rfl, hob'⟩ | ⟨hne', hob', hap'⟩
    · cases hob; cases hob'; exact ⟨rfl, rfl⟩
    · cases hob
      rw [upd_same, upd_ne E _ hne'] at he ⊢
      have := h.fam b _ _ _ _ x' _ _ _ _ hb hob' he
      simp only []
      exact ⟨this.1, by omega⟩
    · cases hob'
      rw [upd_same, upd_ne E _ hne] at he ⊢
      have := h.fam x _ _ _ _ b _ _ _ _ hob hb he
      simp only []
      exact ⟨this.1, by omega⟩
    · rw [upd_ne E _ hne, upd_ne E _ hne'] at he ⊢
      exact h.fam x _ _ _ _ x' _ _ _ _ hob hob' he
  · intro x ks vs' bo cl hx
    rcases get x _ hx with ⟨rfl, hob⟩ | ⟨hne, hob, hap⟩
    · cases hob
    · obtain ⟨es, h1, h2, h3, h4, h5, h6⟩ := h.obj x _ _ _ _ hob
      refine ⟨es, ?_, ?_, h3, h4, fun v hv => by rw [hn]; exact okx (h5 v hv), fun v hv => by rw [hn]; exact okx (h6 v hv)⟩
      · rw [upd_ne E _ hne, setCells_heap_ne _ _ (fun hbl => ?_)]
        · exact h1
        · obtain ⟨⟨_, _, _, _, hc⟩, _⟩ := h.apart x _ b _ hob hb (fun e1 => by subst e1; rw [hb] at hob; cases hob) hbl
          cases hc
      · rw [h2]
        refine List.map_congr_left fun x hx => ?_
        obtain ⟨k', v, n⟩ := x
        have hk := List.of_mem_zip hx
        have hv := List.of_mem_zip hk.2
        simp only [ren_ext (upd_ext E _ _) k' (h5 k' hk.1), ren_ext (upd_ext E _ _) v (h6 v hv.1)]
  · intro x s' p hx
    rcases get x _ hx with ⟨rfl, hob⟩ | ⟨hne, hob, hap⟩
    · cases hob
    · rw [upd_ne E _ hne, setCells_heap_ne _ _ (fun hbl => ?_)]
      · exact h.itr x _ _ hob
      · obtain ⟨⟨_, _, _, _, hc⟩, _⟩ := h.apart x _ b _ hob hb (fun e1 => by subst e1; rw [hb] at hob; cases hob) hbl
        cases hc
  · intro x o1 x' o2 hx hx' hxx he
    have cellsOf : ∀ {y oy}, σ.get y = some oy → (E y).blk = (E b).blk → ∃ cs e g s, oy = .cells cs e g s := by
      intro y oy hy hbl
      by_cases e1 : y = b
      · subst e1; rw [hb] at hy; exact ⟨_, _, _, _, (Option.some.inj hy).symm⟩
      · exact (h.apart y _ b _ hy hb e1 hbl).1
    rcases get x _ hx with ⟨rfl, hob⟩ | ⟨hne, hob, hap⟩ <;> rcases get x' _ hx' with ⟨rfl, hob'⟩ | ⟨hne', hob', hap'⟩
    · exact absurd rfl hxx
    · rw [upd_same, upd_ne E _ hne'] at he
      exact ⟨⟨_, _, _, _, hob⟩, cellsOf hob' he.symm⟩
    · rw [upd_same, upd_ne E _ hne] at he
      exact ⟨cellsOf hob he, ⟨_, _, _, _, hob'⟩⟩
    · rw [upd_ne E _ hne, upd_ne E _ hne'] at he
      exact h.apart x _ x' _ hob hob' hxx he
  · intro x o1 hx
    rw [setCells_size]
    rcases get x _ hx with ⟨rfl, hob⟩ | ⟨hne, hob, hap⟩
    · rw [upd_same]; exact own b _ hb
    · rw [upd_ne E _ hne]; exact own x _ hob
  · rw [setCells_size]; exact h.size
  · intro r hr hkr
    rw [setCells_heap_ne _ _ (fun hbl => ?_)]
    · exact h.frame r hr hkr
    · have := (own b _ hb).2
      rw [← hbl, hkr] at this
      simp at this
      omega
  · intro x cs' e' g' s' hx
    have key : ∀ y cs e g s, σ.get y = some (.cells cs e g s) → ∃ c el fz, (w.setCells (E b).blk ((E b).off + o + m) (vs.map (ren E))).heap[(E y).blk]? = some (.cells c el fz) ∧ (fz.1 = fz.2 ∨ c.size ≤ fz.1) := by
      intro y cs e g s hy
      obtain ⟨c, el, fz, f1, f2⟩ := h.fro y _ _ _ _ hy
      by_cases e1 : (E y).blk = (E b).blk
      · rw [e1] at f1 ⊢
        obtain ⟨c', f3, f4⟩ := setCells_obj _ (vs.map (ren E)) ((E b).off + o + m) w c el fz f1
        exact ⟨c', el, fz, f3, by rw [f4]; exact f2⟩
      · rw [setCells_heap_ne _ _ e1]; exact ⟨c, el, fz, f1, f2⟩
    rcases get x _ hx with ⟨rfl, hob⟩ | ⟨hne, hob, hap⟩
    · rw [upd_same]; exact key b _ _ _ _ hb
    · rw [upd_ne E _ hne]; exact key x _ _ _ _ hob
  · have hq := setCells_calm (E b).blk (vs.map (ren E)) ((E b).off + o + m) w
    exact ⟨hq.1.trans h.calm.1, hq.2.1.trans h.calm.2.1, hq.2.2.trans h.calm.2.2⟩
end Go.Ev
