/- An evaluator for runs without inputs: from some blocks that are known, at a place within a walk by hand. -/
import Derived.Test.YtkldglhihfjclaaGreatDoorEvXc
namespace Go.Ev
noncomputable section
variable {P : Program} {K : Nat → Bool} {w0 w w' : World} {σ σ1 : St} {E E1 : Env}

/-- These values stand from there on, and may be written. -/
structure Has (w : World) (a : Nat × Nat) (vs : List Value) : Prop where
  cell : w.rangeAt a.1 a.2 vs
  there : w.there a.1 a.2 vs.length
  fro : ∃ c el fz, w.heap[a.1]? = some (.cells c el fz) ∧ (fz.1 = fz.2 ∨ c.size ≤ fz.1)
theorem Has.lt {a : Nat × Nat} {vs : List Value} (h : Has w a vs) : a.1 < w.heap.size := by
  obtain ⟨c, el, fz, h1, _⟩ := h.fro
  exact (Array.getElem?_eq_some_iff.mp h1).1
theorem Has.block {b : Nat} {vs : List Value} {el : TypeId} {z : Nat} (h : w.heap[b]? = some (.cells vs.toArray el (z, z))) : Has w (b, 0) vs := by
  refine ⟨?_, ?_, ⟨_, el, _, h, Or.inl rfl⟩⟩
  · intro j v hj
    unfold World.cell?
    simp only [Nat.zero_add, h]
    simpa using hj
  · intro j hj
    have h1 : vs[j]? = some vs[j] := List.getElem?_eq_getElem hj
    constructor
    · unfold World.cell?
      simp only [Nat.zero_add, h]
      simp [hj]
    · unfold World.frozen?
      simp only [Nat.zero_add, h]
      simp
theorem Has.same {a : Nat × Nat} {vs : List Value} (h : Has w a vs) (hb : w'.heap[a.1]? = w.heap[a.1]?) : Has w' a vs := by
  refine ⟨?_, ?_, ?_⟩
  · intro j v hj
    have := h.cell j v hj
    unfold World.cell? at this ⊢
    simp only [] at this ⊢
    rw [hb]; exact this
  · intro j hj
    have := h.there j hj
    unfold World.cell? World.frozen? at this ⊢
    simp only [] at this ⊢
    rw [hb]; exact this
  · obtain ⟨c, el, fz, h1, h2⟩ := h.fro
    exact ⟨c, el, fz, by rw [hb]; exact h1, h2⟩
theorem Has.below {a : Nat × Nat} {vs : List Value} (h : Has w a vs) (hb : RowKit.Below w.heap.size w w') : Has w' a vs := h.same (hb.block _ h.lt)
theorem Rel.has {b : Nat} {cs : List Value} {e g s : Nat} (h : Rel K w0 σ E w) (hb : σ.get b = some (.cells cs e g s)) : Has w ((E b).blk, (E b).off) (cs.map (ren E)) := by
  refine ⟨h.cell b _ _ _ _ hb, ?_, h.fro b _ _ _ _ hb⟩
  intro j hj
  rw [List.length_map] at hj
  exact h.there b _ _ _ _ hb j (by omega)

/-! From blocks that are known. -/
def objsB : Nat → List (List Value) → List (Nat × Ob)
  | _, [] => []
  | k, cs :: l => (k, .cells cs 1 k 0) :: objsB (k + 1) l
def stB (css : List (List Value)) : St := stOf css.length (objsB 0 css)
theorem objsB_get (n : Nat) (hn : n ≤ 16000) : ∀ (css : List (List Value)) (k : Nat), k + css.length ≤ n → ∀ x o, (stOf n (objsB k css)).get x = some o → ∃ j cs, css[j]? = some cs ∧ x = k + j ∧ o = .cells cs 1 x 0
  | [], k, hk, x, o, h => by
    have : (stOf n []).get x = none := by
      by_cases hd : x < n
      · rw [get_lt (σ := stOf n []) hd]; cases x <;> rfl
      · exact get_ge (σ := stOf n []) hd
    rw [objsB, this] at h; cases h
  | cs :: l, k, hk, x, o, h => by
    have hk' : k + (l.length + 1) ≤ n := hk
    rw [objsB, stOf, stAdd_get] at h
    by_cases e : x = k
    · subst e
      rw [get_put _ _ _ (by rw [stOf_next]; exact hn) (by rw [stOf_next]; omega)] at h
      exact ⟨0, cs, rfl, rfl, (Option.some.inj h).symm⟩
    · rw [get_put_ne _ _ _ _ e] at h
      obtain ⟨j, cs', h1, h2, h3⟩ := objsB_get n hn l (k + 1) (by omega) x o h
      exact ⟨j + 1, cs', by rw [List.getElem?_cons_succ]; exact h1, by omega, h3⟩
def slotE (bs : List (Nat × Nat)) : Env := fun i => match bs[i]? with
  | some p => ⟨p.1, p.2, 0⟩
  | none => ⟨0, 0, 0⟩
def kOf (bs : List (Nat × Nat)) : Nat → Bool := fun b => bs.any fun p => Nat.beq p.1 b
theorem slotE_at {bs : List (Nat × Nat)} {i : Nat} {p : Nat × Nat} (h : bs[i]? = some p) : slotE bs i = ⟨p.1, p.2, 0⟩ := by unfold slotE; rw [h]
theorem kOf_at {bs : List (Nat × Nat)} {i : Nat} {p : Nat × Nat} (h : bs[i]? = some p) : kOf bs p.1 = true := by
  unfold kOf
  rw [List.any_eq_true]
  exact ⟨p, List.mem_of_getElem? h, Nat.beq_refl _⟩
theorem kOf_false {bs : List (Nat × Nat)} {b : Nat} (h : ∀ p ∈ bs, p.1 ≠ b) : kOf bs b = false := by
  cases hb : kOf bs b with
  | false => rfl
  | true =>
    unfold kOf at hb
    rw [List.any_eq_true] at hb
    obtain ⟨p, hp, h1⟩ := hb
    exact absurd (Nat.eq_of_beq_eq_true h1) (h p hp)
/-- All the blocks stand there, in short numbers. -/
def AllHas (w : World) (E : Env) : List (Nat × Nat) → List (List Value) → Prop
  | [], [] => True
  | p :: bs, cs :: css => Has w p (cs.map (ren E)) ∧ AllHas w E bs css
  | _, _ => False
theorem AllHas.get : ∀ {bs : List (Nat × Nat)} {css : List (List Value)}, AllHas w E bs css → ∀ {i : Nat} {cs : List Value}, css[i]? = some cs → ∃ p, bs[i]? = some p ∧ Has w p (cs.map (ren E)) := by
  intro bs
  induction bs with
  | nil =>
    intro css h i cs hi
    cases css with
    | nil => simp at hi
    | cons c css => exact h.elim
  | cons p bs ih =>
    intro css h i cs hi
    cases css with
    | nil => exact h.elim
    | cons c css =>
      cases i with
      | zero => simp at hi; subst hi; exact ⟨p, rfl, h.1⟩
      | succ i =>
        rw [List.getElem?_cons_succ] at hi ⊢
        exact ih h.2 hi
theorem rel_has {bs : List (Nat × Nat)} {css : List (List Value)} (hn : css.length ≤ 16000) (hh : AllHas w (slotE bs) bs css) (hd : (bs.map Prod.fst).Nodup)
    (hok : ∀ cs ∈ css, ∀ v ∈ cs, ok css.length (slotE bs) v ∧ v.oneCell' = true) : Rel (kOf bs) w (stB css) (slotE bs) w := by
  have get := objsB_get css.length hn css 0 (by omega)
  have cell : ∀ x o, (stB css).get x = some o → ∃ cs p, css[x]? = some cs ∧ bs[x]? = some p ∧ o = .cells cs 1 x 0 ∧ Has w p (cs.map (ren (slotE bs))) ∧ slotE bs x = ⟨p.1, p.2, 0⟩ := by
    intro x o h
    obtain ⟨j, cs, h1, h2, h3⟩ := get x o h
    obtain rfl : x = j := by omega
    obtain ⟨p, h4, h5⟩ := hh.get h1
    exact ⟨cs, p, h1, h4, h3, h5, slotE_at h4⟩
  have dist : ∀ (x y : Nat) p q, bs[x]? = some p → bs[y]? = some q → p.1 = q.1 → x = y := by
    intro x y p q hx hy e
    have h1 : (bs.map Prod.fst)[x]? = some p.1 := by rw [List.getElem?_map, hx]; rfl
    have h2 : (bs.map Prod.fst)[y]? = some p.1 := by rw [List.getElem?_map, hy, e]; rfl
    exact (List.getElem?_inj (List.getElem?_eq_some_iff.mp h1).1 hd).mp (h1.trans h2.symm)
  have hnx : (stB css).next = css.length := stOf_next _ _
  constructor
  · rw [hnx]; exact hn
  · intro b cs e g s hb
    obtain ⟨cs', p, h1, h2, h3, h4, h5⟩ := cell b _ hb
    cases h3
    rw [h5]; exact h4.cell
  · intro b cs e g s hb v hv
    obtain ⟨cs', p, h1, h2, h3, h4, h5⟩ := cell b _ hb
    cases h3
    rw [hnx]
    exact hok cs (List.mem_of_getElem? h1) v hv
  · intro b cs e g s hb
    obtain ⟨cs', p, h1, h2, h3, h4, h5⟩ := cell b _ hb
    cases h3
    rw [h5]
    have := h4.there
    rw [List.length_map] at this
    intro j hj
    exact this j (by simp only [] at hj; omega)
  · intro b cs e g s hb
    have hlt := get_dom hb
    obtain ⟨cs', p, h1, h2, h3, h4, h5⟩ := cell b _ hb
    cases h3
    exact ⟨List.mem_cons_self, hlt⟩
  · intro b cs e g s b' cs' e' g' s' hb hb' he
    obtain ⟨_, p, h1, h2, h3, h4, h5⟩ := cell b _ hb
    obtain ⟨_, p', h1', h2', h3', h4', h5'⟩ := cell b' _ hb'
    rw [h5, h5'] at he
    have := dist _ _ _ _ h2 h2' he
    subst this
    cases h3
    cases h3'
    exact ⟨rfl, rfl⟩
  · intro b ks vs bo cl hb
    obtain ⟨_, p, h1, h2, h3, h4, h5⟩ := cell b _ hb
    cases h3
  · intro b s p hb
    obtain ⟨_, _, h1, h2, h3, h4, h5⟩ := cell b _ hb
    cases h3
  · intro b o b' o' hb hb' hne he
    obtain ⟨_, p, h1, h2, h3, h4, h5⟩ := cell b _ hb
    obtain ⟨_, p', h1', h2', h3', h4', h5'⟩ := cell b' _ hb'
    rw [h5, h5'] at he
    exact absurd (dist _ _ _ _ h2 h2' he) hne
  · intro b o hb
    obtain ⟨_, p, h1, h2, h3, h4, h5⟩ := cell b _ hb
    rw [h5]
    exact ⟨h4.lt, Or.inl (kOf_at h2)⟩
  · exact Nat.le_refl _
  · intro r _ _; rfl
  · intro b cs e g s hb
    obtain ⟨_, p, h1, h2, h3, h4, h5⟩ := cell b _ hb
    rw [h5]; exact h4.fro
  · exact ⟨rfl, rfl, rfl⟩

/-- What a run from known blocks leads to. -/
structure Led (w : World) (bs : List (Nat × Nat)) (σ' : St) (E' : Env) (w' : World) : Prop where
  rel : Rel (kOf bs) w σ' E' w'
  old : ∀ {i p}, bs[i]? = some p → E' i = ⟨p.1, p.2, 0⟩
theorem Led.below {bs : List (Nat × Nat)} {σ' : St} {E' : Env} (h : Led w bs σ' E' w') {N : Nat} {w00 : World} (hb : RowKit.Below N w00 w) (hN : N ≤ w00.heap.size) (hge : ∀ p ∈ bs, N ≤ p.1) : RowKit.Below N w00 w' := by
  refine ⟨h.rel.calm.1.trans hb.os, h.rel.calm.2.1.trans hb.tape, h.rel.calm.2.2.trans hb.output, Nat.le_trans hb.size h.rel.size, fun k hk => ?_⟩
  rw [h.rel.frame k (by have := hb.size; omega) (kOf_false fun p hp e => by have := hge p hp; omega)]
  exact hb.block k hk
theorem Led.has {bs : List (Nat × Nat)} {σ' : St} {E' : Env} (h : Led w bs σ' E' w') {i : Nat} {p : Nat × Nat} (hp : bs[i]? = some p) {cs : List Value} {e g s : Nat} (hg : σ'.get i = some (.cells cs e g s)) : Has w' p (cs.map (ren E')) := by
  have := h.rel.has hg
  rw [h.old hp] at this
  exact this

/-- A call from known blocks. -/
theorem led_call {G : Nat → Option Obj} {X : CallT} (hX : CallOk P G X) (hm : P.follows .mixedOrders = true) {L m f : Nat} {args : List Value} {bs : List (Nat × Nat)} {css : List (List Value)} {v : Value} {σ' : St}
    (hn : css.length ≤ 16000) (hl : bs.length = css.length) (hh : AllHas w (slotE bs) bs css) (hd : (bs.map Prod.fst).Nodup) (hok : ∀ cs ∈ css, ∀ v ∈ cs, ok css.length (slotE bs) v ∧ v.oneCell' = true)
    (hG : Held G (kOf bs) w) (ha : ∀ x ∈ args, ok css.length (slotE bs) x) (hrun : evCall P X L m f args (stB css) = some (v, σ')) :
    Calls P f (args.map (ren (slotE bs))).toArray w fun e w' => ∃ E', e = .returned (ren E' v) ∧ Led w bs σ' E' w' ∧ css.length ≤ σ'.next := by
  have hnx : (stB css).next = css.length := stOf_next _ _
  refine (evCall_sound hX hm L m _ _ _ _ _ hrun _ w hG _ w (rel_has hn hh hd hok) (by rw [hnx]; exact ha)).mono ?_
  rintro e w' ⟨E', rfl, e1, e2, e3, e4⟩
  rw [hnx] at e2 e4
  refine ⟨E', rfl, ⟨e1, fun {i p} hp => ?_⟩, e4⟩
  rw [e2 i (by rw [← hl]; exact (List.getElem?_eq_some_iff.mp hp).1), slotE_at hp]
/-- The rest of a body from known blocks. -/
def tailV (P : Program) (X : CallT) (L m : Nat) (c : Code) (rs : List ResultVar) (tm : List Value) (σ : St) : Option (Value × St) :=
  match evCode P (evCall P X L m) L c tm σ with
  | some (.exit _, _, _) => none
  | some (_, tm', σ') => match evRes1 P σ' tm' rs with
    | some r => some (packV r, σ')
    | none => none
  | none => none
theorem led_tail {G : Nat → Option Obj} {X : CallT} (hX : CallOk P G X) (hm : P.follows .mixedOrders = true) {L m : Nat} {c : Code} {fn : Func} {tm : List Value} {bs : List (Nat × Nat)} {css : List (List Value)} {v : Value} {σ' : St} {Q : Ending → World → Prop}
    (hn : css.length ≤ 16000) (hl : bs.length = css.length) (hh : AllHas w (slotE bs) bs css) (hd : (bs.map Prod.fst).Nodup) (hok : ∀ cs ∈ css, ∀ v ∈ cs, ok css.length (slotE bs) v ∧ v.oneCell' = true)
    (hG : Held G (kOf bs) w) (ht : Good css.length (slotE bs) tm) (hrun : tailV P X L m c fn.results.toList tm (stB css) = some (v, σ'))
    (hQ : ∀ E' w', Led w bs σ' E' w' → Q (.returned (ren E' v)) w') (hp : ∀ c w, ¬ Q (.panicked c) w) : c.wp P (bodyPost P fn Q) (act (slotE bs) tm) w := by
  have hnx : (stB css).next = css.length := stOf_next _ _
  have main : ∀ ex tm1 σ1 r, ex = Ex.normal ∨ ex = Ex.ret → evCode P (evCall P X L m) L c tm (stB css) = some (ex, tm1, σ1) → evRes1 P σ1 tm1 fn.results.toList = some r → v = packV r → σ' = σ1 → c.wp P (bodyPost P fn Q) (act (slotE bs) tm) w := by
    rintro ex tm1 σ1 r hex hcode hres rfl rfl
    refine evCode_sound (evCall_sound hX hm L m) hm L c (kOf bs) w hG _ _ ex tm1 σ' hcode (slotE bs) w _ (rel_has hn hh hd hok) (by rw [hnx]; exact ht) (fun c a w h => ?_) fun E1 w1 e1 e2 e3 e4 => ?_
    · exact hp _ _ h.2
    · have h1 := results_sound e1 e3 hres
      rw [hnx] at e2
      have hq : bodyPost P fn Q .normal (act E1 tm1) w1 := ⟨rfl, _, h1.1, hQ E1 w1 ⟨e1, fun {i p} hp => by
        rw [e2 i (by rw [← hl]; exact (List.getElem?_eq_some_iff.mp hp).1), slotE_at hp]⟩⟩
      rcases hex with rfl | rfl <;> exact hq
  unfold tailV at hrun
  split at hrun
  · cases hrun
  · rename_i ex tm1 σ1 hne hcode
    split at hrun
    · rename_i r hres
      cases hrun
      refine main ex tm1 σ' r ?_ hcode hres rfl rfl
      cases ex with
      | normal => exact Or.inl rfl
      | ret => exact Or.inr rfl
      | exit id => exact (hne id rfl).elim
    · cases hrun
  · cases hrun
/-- The same, where the rest stands behind a seam of a walk by hand. -/
theorem led_tailK {G : Nat → Option Obj} {X : CallT} (hX : CallOk P G X) (hm : P.follows .mixedOrders = true) {L m : Nat} {c1 c2 : Code} {fn : Func} {tm : List Value} {bs : List (Nat × Nat)} {css : List (List Value)} {v : Value} {σ' : St} {Q : Ending → World → Prop} {J : Act → World → Prop}
    (hJ : ∀ a w, c2.wp P (bodyPost P fn Q) a w → J a w)
    (hn : css.length ≤ 16000) (hl : bs.length = css.length) (hh : AllHas w (slotE bs) bs css) (hd : (bs.map Prod.fst).Nodup) (hok : ∀ cs ∈ css, ∀ v ∈ cs, ok css.length (slotE bs) v ∧ v.oneCell' = true)
    (hG : Held G (kOf bs) w) (ht : Good css.length (slotE bs) tm) (hrun : tailV P X L m (.seq c1 c2) fn.results.toList tm (stB css) = some (v, σ'))
    (hQ : ∀ E' w', Led w bs σ' E' w' → Q (.returned (ren E' v)) w') (hp : ∀ c w, ¬ Q (.panicked c) w) : c1.wp P (Exit.then J (bodyPost P fn Q)) (act (slotE bs) tm) w := by
  have hnx : (stB css).next = css.length := stOf_next _ _
  have hrel := rel_has hn hh hd hok
  have hpan : NoPanic (bodyPost P fn Q) := fun c a w h => hp _ _ h.2
  have hfin : ∀ ex tm1 σ1 r, ex = Ex.normal ∨ ex = Ex.ret → evRes1 P σ1 tm1 fn.results.toList = some r → v = packV r → σ' = σ1 → ∀ E1 w1, Rel (kOf bs) w σ1 E1 w1 → Ext css.length (slotE bs) E1 → Good σ1.next E1 tm1 → bodyPost P fn Q ex.to (act E1 tm1) w1 := by
    rintro ex tm1 σ1 r hex hres rfl rfl E1 w1 e1 e2 e3
    have h1 := results_sound e1 e3 hres
    have hq : bodyPost P fn Q .normal (act E1 tm1) w1 := ⟨rfl, _, h1.1, hQ E1 w1 ⟨e1, fun {i p} hp => by
      rw [e2 i (by rw [← hl]; exact (List.getElem?_eq_some_iff.mp hp).1), slotE_at hp]⟩⟩
    rcases hex with rfl | rfl <;> exact hq
  unfold tailV at hrun
  split at hrun
  · cases hrun
  · rename_i ex tm1 σ1 hne hcode
    split at hrun
    · rename_i r hres
      cases hrun
      have hex : ex = Ex.normal ∨ ex = Ex.ret := by
        cases ex with
        | normal => exact Or.inl rfl
        | ret => exact Or.inr rfl
        | exit id => exact (hne id rfl).elim
      have hc := evCall_sound hX hm L m
      simp only [evCode, cCode] at hcode
      split at hcode
      · rename_i tm2 σ2 h1
        refine evCode_sound hc hm L c1 (kOf bs) w hG _ _ .normal tm2 σ2 h1 (slotE bs) w _ hrel (by rw [hnx]; exact ht) (fun c a w h => hpan c a w h) fun E1 w1 e1 e2 e3 e4 => ?_
        refine hJ _ _ (evCode_sound hc hm L c2 (kOf bs) w hG _ _ ex tm1 σ' hcode E1 w1 _ e1 e3 hpan fun E2 w2 f1 f2 f3 f4 => ?_)
        rw [hnx] at e2 e4
        exact hfin ex tm1 σ' r hex hres rfl rfl E2 w2 f1 (e2.trans e4 f2) f3
      · rename_i x hx
        refine evCode_sound hc hm L c1 (kOf bs) w hG _ _ ex tm1 σ' hcode (slotE bs) w _ hrel (by rw [hnx]; exact ht) (fun c a w h => hpan c a w h) fun E1 w1 e1 e2 e3 e4 => ?_
        rw [hnx] at e2
        have := hfin ex tm1 σ' r hex hres rfl rfl E1 w1 e1 e2 e3
        cases ex with
        | normal => exact absurd hcode (hx _ _)
        | ret => exact this
        | exit id => exact (hne id rfl).elim
    · cases hrun
  · cases hrun
end
end Go.Ev
