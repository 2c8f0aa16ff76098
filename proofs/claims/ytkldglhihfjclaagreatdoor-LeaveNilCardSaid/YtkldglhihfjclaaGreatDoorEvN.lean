import Derived.Test.YtkldglhihfjclaaGreatDoorEvM
namespace Go.Ev
noncomputable section
variable {P : Program} {K : Nat → Bool} {w0 w : World} {σ : St} {E : Env}

/-- A map, or a string's iterator, as it lies in the world. -/
def MapIs (N : Nat) (E : Env) (ks vs : List Value) (bo : List Nat) (cl : Nat) (r : Obj) : Prop :=
  ∃ es : Array MapEntry, r = .map es cl ∧ es.toList = (ks.zip (vs.zip bo)).map (fun x => { key := ren E x.1, val := ren E x.2.1, born := x.2.2 }) ∧ ks.length = vs.length ∧ vs.length = bo.length ∧
    (∀ v ∈ ks, ok N E v) ∧ (∀ v ∈ vs, ok N E v)
def ObIs (N : Nat) (E : Env) (o : Ob) (r : Obj) : Prop := match o with
  | .cells _ _ _ _ => False
  | .map ks vs bo cl => MapIs N E ks vs bo cl r
  | .iter s p => r = .stringIter s p

theorem cell_ob {w : World} {o : Ob} {r : Obj} {N : Nat} {E : Env} (h : ObIs N E o r) : ∀ c e f, r ≠ .cells c e f := by
  intro c e f hr
  cases o with
  | cells => exact h
  | map ks vs bo cl => obtain ⟨es, h1, _⟩ := h; rw [h1] at hr; cases hr
  | iter s p => simp only [ObIs] at h; rw [h] at hr; cases hr

theorem ObIs.ext {N N' : Nat} {E E' : Env} (hn : N ≤ N') (he : Ext N E E') {o : Ob} {r : Obj} (h : ObIs N E o r) : ObIs N' E' o r := by
  cases o with
  | cells => exact h
  | map ks vs bo cl =>
    obtain ⟨es, h1, h2, h3, h4, h5, h6⟩ := h
    refine ⟨es, h1, ?_, h3, h4, fun v hv => ok_ext hn he v (h5 v hv), fun v hv => ok_ext hn he v (h6 v hv)⟩
    rw [h2]
    refine List.map_congr_left fun x hx => ?_
    obtain ⟨k', v, n⟩ := x
    have hk := List.of_mem_zip hx
    have hv := List.of_mem_zip hk.2
    simp only [ren_ext he k' (h5 k' hk.1), ren_ext he v (h6 v hv.1)]
  | iter s p => exact h

theorem Rel.ob (h : Rel K w0 σ E w) {b : Nat} {o : Ob} (hb : σ.get b = some o) (hc : ∀ c e g s, o ≠ .cells c e g s) : ∃ r, w.heap[(E b).blk]? = some r ∧ ObIs σ.next E o r := by
  cases o with
  | cells c e g s => exact absurd rfl (hc _ _ _ _)
  | map ks vs bo cl =>
    obtain ⟨es, h1, h2⟩ := h.obj _ _ _ _ _ hb
    exact ⟨_, h1, es, rfl, h2⟩
  | iter s p => exact ⟨_, (h.itr _ _ _ hb).1, rfl⟩

theorem Rel.pushOb (h : Rel K w0 σ E w) (hr : σ.room = true) {o : Ob} {r : Obj} (ho : ObIs σ.next E o r) :
    Rel K w0 (σ.newOb o) (upd E σ.next ⟨w.heap.size, 0, 0⟩) { w with heap := w.heap.push r } := by
  have hlim := h.lim
  have hroom : σ.next < 16000 := Nat.blt_eq.mp hr
  have hn : (σ.newOb o).next = σ.next + 1 := rfl
  have notc : ∀ c e g s, o ≠ .cells c e g s := by intro c e g s e1; rw [e1] at ho; exact ho
  have get : ∀ x ob, (σ.newOb o).get x = some ob → (x = σ.next ∧ ob = o) ∨ (x < σ.next ∧ x ≠ σ.next ∧ σ.get x = some ob) := by
    intro x ob hx
    by_cases e : x = σ.next
    · subst e; rw [get_newOb _ _ hlim] at hx; exact Or.inl ⟨rfl, (Option.some.inj hx).symm⟩
    · rw [get_newOb_ne σ o x e] at hx; exact Or.inr ⟨get_dom hx, e, hx⟩
  have okx : ∀ {v}, ok σ.next E v → ok (σ.next + 1) (upd E σ.next ⟨w.heap.size, 0, 0⟩) v := fun hv => ok_ext (by omega) (upd_ext E _ _) _ hv
  have own := h.own
  have obx : ∀ b ob, (σ.newOb o).get b = some ob → (∀ c e g s, ob ≠ .cells c e g s) → ∃ r', ((w.heap.push r)[(upd E σ.next ⟨w.heap.size, 0, 0⟩ b).blk]?) = some r' ∧ ObIs (σ.next + 1) (upd E σ.next ⟨w.heap.size, 0, 0⟩) ob r' := by
    intro b ob hb hnc
    rcases get b _ hb with ⟨rfl, rfl⟩ | ⟨hlt, hne, hob⟩
    · exact ⟨r, by simp [upd_same], ho.ext (by omega) (upd_ext E _ _)⟩
    · obtain ⟨r', h1, h2⟩ := h.ob hob hnc
      have := (own b _ hob).1
      exact ⟨r', by rw [upd_ne E _ hne, Array.getElem?_push, if_neg (by omega)]; exact h1, h2.ext (by omega) (upd_ext E _ _)⟩
  constructor
  · rw [hn]; omega
  · intro b cs' e g s hb j v hv
    rcases get b _ hb with ⟨rfl, ho'⟩ | ⟨hlt, hne, ho'⟩
    · exact absurd ho'.symm (notc _ _ _ _)
    · rw [upd_ne E _ hne, cell_push _ _ _ (by have := (own b _ ho').1; show (E b).blk ≠ _; omega)]
      rw [ren_upd (fun v hv => (h.good b _ _ _ _ ho' v hv).1)] at hv
      exact h.cell b _ _ _ _ ho' j v hv
  · intro b cs' e g s hb v hv
    rcases get b _ hb with ⟨rfl, ho'⟩ | ⟨hlt, hne, ho'⟩
    · exact absurd ho'.symm (notc _ _ _ _)
    · exact ⟨okx (h.good b _ _ _ _ ho' v hv).1, (h.good b _ _ _ _ ho' v hv).2⟩
  · intro b cs' e g s hb j hj
    rcases get b _ hb with ⟨rfl, ho'⟩ | ⟨hlt, hne, ho'⟩
    · exact absurd ho'.symm (notc _ _ _ _)
    · rw [upd_ne E _ hne] at hj ⊢
      have hb' := (own b _ ho').1
      rw [cell_push _ _ _ (by show (E b).blk ≠ _; omega), frozen_push _ _ _ (by show (E b).blk ≠ _; omega)]
      exact h.there b _ _ _ _ ho' j hj
  · intro b cs' e g s hb
    rcases get b _ hb with ⟨rfl, ho'⟩ | ⟨hlt, hne, ho'⟩
    · exact absurd ho'.symm (notc _ _ _ _)
    · have hk := h.kin b _ _ _ _ ho'
      exact ⟨hk.1, by rw [hn]; omega⟩
  · intro b cs1 e1 g1 s1 b' cs2 e2 g2 s2 hb hb' he
    rcases get b _ hb with ⟨rfl, ho1⟩ | ⟨hlt, hne, ho1⟩
    · exact absurd ho1.symm (notc _ _ _ _)
    · rcases get b' _ hb' with ⟨rfl, ho2⟩ | ⟨hlt', hne', ho2⟩
      · exact absurd ho2.symm (notc _ _ _ _)
      · rw [upd_ne E _ hne, upd_ne E _ hne'] at he ⊢
        exact h.fam b _ _ _ _ b' _ _ _ _ ho1 ho2 he
  · intro b ks vs bo cl hb
    obtain ⟨r', h1, es, h2, h3⟩ := obx b _ hb (by intro c e g s e1; cases e1)
    exact ⟨es, by rw [h1, h2], h3⟩
  · intro b s p hb
    obtain ⟨r', h1, h2⟩ := obx b _ hb (by intro c e g s e1; cases e1)
    simp only [ObIs] at h2
    refine ⟨by rw [h1, h2], ?_⟩
    rcases get b _ hb with ⟨rfl, ho'⟩ | ⟨hlt, hne, ho'⟩
    · rw [upd_same]
    · rw [upd_ne E _ hne]; exact (h.itr b _ _ ho').2
  · intro b o1 b' o2 hb hb' hbb he
    rcases get b _ hb with ⟨rfl, ho1⟩ | ⟨hlt, hne, ho1⟩ <;> rcases get b' _ hb' with ⟨rfl, ho2⟩ | ⟨hlt', hne', ho2⟩
    · exact absurd rfl hbb
    · rw [upd_same, upd_ne E _ hne'] at he
      have := (own b' _ ho2).1
      simp only [] at he
      omega
    · rw [upd_same, upd_ne E _ hne] at he
      have := (own b _ ho1).1
      simp only [] at he
      omega
    · rw [upd_ne E _ hne, upd_ne E _ hne'] at he
      exact h.apart b o1 b' o2 ho1 ho2 hbb he
  · intro b o1 hb
    rcases get b _ hb with ⟨rfl, ho1⟩ | ⟨hlt, hne, ho1⟩
    · rw [upd_same]
      simp only [Array.size_push]
      exact ⟨by omega, Or.inr h.size⟩
    · rw [upd_ne E _ hne]
      have := own b _ ho1
      simp only [Array.size_push]
      exact ⟨by omega, this.2⟩
  · simp only [Array.size_push]; have := h.size; omega
  · intro r' hr' hk
    have := h.size
    simp only [Array.getElem?_push]
    rw [if_neg (by omega)]
    exact h.frame r' hr' hk
  · intro b cs' e g s hb
    rcases get b _ hb with ⟨rfl, ho'⟩ | ⟨hlt, hne, ho'⟩
    · exact absurd ho'.symm (notc _ _ _ _)
    · rw [upd_ne E _ hne]
      have hb' := (own b _ ho').1
      rw [Array.getElem?_push, if_neg (by omega)]
      exact h.fro b _ _ _ _ ho'
  · exact h.calm

/-- An object is turned. -/
theorem Rel.putOb (h : Rel K w0 σ E w) {b : Nat} {o0 o : Ob} {r : Obj} (hb : σ.get b = some o0) (hc0 : ∀ c e g s, o0 ≠ .cells c e g s) (hs : ∀ s p, o = .iter s p → (E b).off = 0) (ho : ObIs σ.next E o r) :
    Rel K w0 (σ.put b o) E { w with heap := w.heap.setIfInBounds (E b).blk r } := by
  have hlim := h.lim
  have hbd := get_dom hb
  have notc : ∀ c e g s, o ≠ .cells c e g s := by intro c e g s e1; rw [e1] at ho; exact ho
  have own := h.own
  have hbl := (own b _ hb).1
  have get : ∀ x ob, (σ.put b o).get x = some ob → (x = b ∧ ob = o) ∨ (x ≠ b ∧ σ.get x = some ob) := by
    intro x ob hx
    by_cases e : x = b
    · subst e; rw [get_put _ _ _ hlim hbd] at hx; exact Or.inl ⟨rfl, (Option.some.inj hx).symm⟩
    · rw [get_put_ne σ b x o e] at hx; exact Or.inr ⟨e, hx⟩
  have blk : ∀ x ob, σ.get x = some ob → x ≠ b → (E x).blk ≠ (E b).blk := by
    intro x ob hx hne e
    obtain ⟨_, ⟨c, e', g, s, hcc⟩⟩ := h.apart x ob b o0 hx hb hne e
    exact hc0 _ _ _ _ hcc
  have cellx : ∀ x ob (j : Nat), σ.get x = some ob → x ≠ b → World.cell? { w with heap := w.heap.setIfInBounds (E b).blk r } ⟨(E x).blk, j, none⟩ = w.cell? ⟨(E x).blk, j, none⟩ ∧
      World.frozen? { w with heap := w.heap.setIfInBounds (E b).blk r } ⟨(E x).blk, j, none⟩ = w.frozen? ⟨(E x).blk, j, none⟩ := by
    intro x ob j hx hne
    have := blk x ob hx hne
    constructor
    · unfold World.cell?; simp only [Array.getElem?_setIfInBounds_ne (Ne.symm this)]
    · unfold World.frozen?; simp only [Array.getElem?_setIfInBounds_ne (Ne.symm this)]
  have obx : ∀ x ob, (σ.put b o).get x = some ob → (∀ c e g s, ob ≠ .cells c e g s) → ∃ r', ((w.heap.setIfInBounds (E b).blk r)[(E x).blk]?) = some r' ∧ ObIs σ.next E ob r' := by
    intro x ob hx hnc
    rcases get x _ hx with ⟨rfl, rfl⟩ | ⟨hne, hob⟩
    · exact ⟨r, by simp [hbl], ho⟩
    · obtain ⟨r', h1, h2⟩ := h.ob hob hnc
      exact ⟨r', by rw [Array.getElem?_setIfInBounds_ne (Ne.symm (blk x _ hob hne))]; exact h1, h2⟩
  constructor
  · exact hlim
  · intro x cs' e g s hx j v hv
    rcases get x _ hx with ⟨rfl, ho'⟩ | ⟨hne, ho'⟩
    · exact absurd ho'.symm (notc _ _ _ _)
    · rw [(cellx x _ _ ho' hne).1]; exact h.cell x _ _ _ _ ho' j v hv
  · intro x cs' e g s hx v hv
    rcases get x _ hx with ⟨rfl, ho'⟩ | ⟨hne, ho'⟩
    · exact absurd ho'.symm (notc _ _ _ _)
    · exact h.good x _ _ _ _ ho' v hv
  · intro x cs' e g s hx j hj
    rcases get x _ hx with ⟨rfl, ho'⟩ | ⟨hne, ho'⟩
    · exact absurd ho'.symm (notc _ _ _ _)
    · rw [(cellx x _ _ ho' hne).1, (cellx x _ _ ho' hne).2]; exact h.there x _ _ _ _ ho' j hj
  · intro x cs' e g s hx
    rcases get x _ hx with ⟨rfl, ho'⟩ | ⟨hne, ho'⟩
    · exact absurd ho'.symm (notc _ _ _ _)
    · exact h.kin x _ _ _ _ ho'
  · intro x cs1 e1 g1 s1 x' cs2 e2 g2 s2 hx hx' he
    rcases get x _ hx with ⟨rfl, ho1⟩ | ⟨hne, ho1⟩
    · exact absurd ho1.symm (notc _ _ _ _)
    · rcases get x' _ hx' with ⟨rfl, ho2⟩ | ⟨hne', ho2⟩
      · exact absurd ho2.symm (notc _ _ _ _)
      · exact h.fam x _ _ _ _ x' _ _ _ _ ho1 ho2 he
  · intro x ks vs bo cl hx
    obtain ⟨r', h1, es, h2, h3⟩ := obx x _ hx (by intro c e g s e1; cases e1)
    exact ⟨es, by rw [h1, h2], h3⟩
  · intro x s p hx
    obtain ⟨r', h1, h2⟩ := obx x _ hx (by intro c e g s e1; cases e1)
    simp only [ObIs] at h2
    refine ⟨by rw [h1, h2], ?_⟩
    rcases get x _ hx with ⟨rfl, ho'⟩ | ⟨hne, ho'⟩
    · exact hs _ _ ho'.symm
    · exact (h.itr x _ _ ho').2
  · intro x o1 x' o2 hx hx' hxx he
    rcases get x _ hx with ⟨rfl, ho1⟩ | ⟨hne, ho1⟩ <;> rcases get x' _ hx' with ⟨rfl, ho2⟩ | ⟨hne', ho2⟩
    · exact absurd rfl hxx
    · exact absurd he.symm (blk x' _ ho2 hne')
    · exact absurd he (blk x _ ho1 hne)
    · exact h.apart x o1 x' o2 ho1 ho2 hxx he
  · intro x o1 hx
    simp only [Array.size_setIfInBounds]
    rcases get x _ hx with ⟨rfl, ho1⟩ | ⟨hne, ho1⟩
    · exact own x _ hb
    · exact own x _ ho1
  · simp only [Array.size_setIfInBounds]; exact h.size
  · intro r' hr' hk
    rw [Array.getElem?_setIfInBounds_ne (fun e => ?_)]
    · exact h.frame r' hr' hk
    · have := (own b _ hb).2
      rw [e, hk] at this
      simp at this
      omega
  · intro x cs' e g s hx
    rcases get x _ hx with ⟨rfl, ho'⟩ | ⟨hne, ho'⟩
    · exact absurd ho'.symm (notc _ _ _ _)
    · rw [Array.getElem?_setIfInBounds_ne (Ne.symm (blk x _ ho' hne))]
      exact h.fro x _ _ _ _ ho'
  · exact h.calm
end
end Go.Ev
