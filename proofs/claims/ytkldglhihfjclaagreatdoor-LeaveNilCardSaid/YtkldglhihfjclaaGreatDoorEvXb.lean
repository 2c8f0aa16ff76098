/- An evaluator for runs without inputs: a run cut in pieces, each with what it leads to written down. -/
import Derived.Test.YtkldglhihfjclaaGreatDoorEvXa
namespace Go.Ev
noncomputable section
variable {P : Program} {K : Nat → Bool} {w0 w : World} {σ : St} {E : Env}

theorem Rel.fewer {τ : St} (h : Rel K w0 σ E w) (hn : τ.next = σ.next) (hk : ∀ x cs e g s, τ.get x = some (.cells cs e g s) → x ∈ τ.kin g) (hg : ∀ x o, τ.get x = some o → σ.get x = some o) : Rel K w0 τ E w := by
  constructor
  · rw [hn]; exact h.lim
  · intro b cs e g s hb; exact h.cell b cs e g s (hg _ _ hb)
  · intro b cs e g s hb; rw [hn]; exact h.good b cs e g s (hg _ _ hb)
  · intro b cs e g s hb; exact h.there b cs e g s (hg _ _ hb)
  · intro b cs e g s hb; rw [hn]; exact ⟨hk _ _ _ _ _ hb, (h.kin b cs e g s (hg _ _ hb)).2⟩
  · intro b cs e g s b' cs' e' g' s' hb hb'; exact h.fam b cs e g s b' cs' e' g' s' (hg _ _ hb) (hg _ _ hb')
  · intro b ks vs bo cl hb; rw [hn]; exact h.obj b ks vs bo cl (hg _ _ hb)
  · intro b s p hb; exact h.itr b s p (hg _ _ hb)
  · intro b o b' o' hb hb'; exact h.apart b o b' o' (hg _ _ hb) (hg _ _ hb')
  · intro b o hb; exact h.own b o (hg _ _ hb)
  · exact h.size
  · exact h.frame
  · intro b cs e g s hb; exact h.fro b cs e g s (hg _ _ hb)
  · exact h.calm

/-- A short memory out of a list. -/
def stAdd (b : Nat) (o : Ob) (τ : St) : St := match o with
  | .cells cs e g s => match Nat.beq g b with
    | true => { heap := τ.heap.set dep b (some (.cells cs e g s)), mem := τ.mem, next := τ.next }
    | false => { heap := τ.heap.set dep b (some (.cells cs e g s)), mem := τ.mem.set dep g (some (b :: τ.aka g)), next := τ.next }
  | o => τ.put b o
def stOf (n : Nat) : List (Nat × Ob) → St
  | [] => { heap := .tip, mem := .tip, next := n }
  | x :: l => stAdd x.1 x.2 (stOf n l)
theorem stAdd_next (b : Nat) (o : Ob) (τ : St) : (stAdd b o τ).next = τ.next := by
  unfold stAdd; split
  · split <;> rfl
  · rfl
theorem stAdd_get (b : Nat) (o : Ob) (τ : St) (x : Nat) : (stAdd b o τ).get x = (τ.put b o).get x := by
  unfold stAdd; split
  · split <;> rfl
  · rfl
theorem stOf_next (n : Nat) : ∀ l, (stOf n l).next = n
  | [] => rfl
  | x :: l => by rw [stOf, stAdd_next, stOf_next n l]

def natsB : List Nat → List Nat → Bool
  | [], [] => true
  | a :: l, b :: r => Nat.beq a b && natsB l r
  | _, _ => false
theorem natsB_eq : ∀ {a b : List Nat}, natsB a b = true → a = b
  | [], [], _ => rfl
  | a :: l, b :: r, h => by
    simp only [natsB, Bool.and_eq_true] at h
    rw [Nat.eq_of_beq_eq_true h.1, natsB_eq h.2]
  | [], _ :: _, h => by cases h
  | _ :: _, [], h => by cases h
def obB : Ob → Ob → Bool
  | .cells a e g s, .cells a' e' g' s' => veqL a a' && Nat.beq e e' && Nat.beq g g' && Nat.beq s s'
  | .map a b c d, .map a' b' c' d' => veqL a a' && veqL b b' && natsB c c' && Nat.beq d d'
  | .iter s p, .iter s' p' => veq (.string s) (.string s') && Nat.beq p p'
  | _, _ => false
theorem obB_eq {o o' : Ob} (h : obB o o' = true) : o = o' := by
  unfold obB at h
  split at h
  · simp only [Bool.and_eq_true] at h
    rw [veqL_eq _ _ h.1.1.1, Nat.eq_of_beq_eq_true h.1.1.2, Nat.eq_of_beq_eq_true h.1.2, Nat.eq_of_beq_eq_true h.2]
  · simp only [Bool.and_eq_true] at h
    rw [veqL_eq _ _ h.1.1.1, veqL_eq _ _ h.1.1.2, natsB_eq h.1.2, Nat.eq_of_beq_eq_true h.2]
  · simp only [Bool.and_eq_true] at h
    have h1 := veq_eq _ _ h.1
    cases h1
    rw [Nat.eq_of_beq_eq_true h.2]
  · cases h
def grpB (n : Nat) : Ob → Bool
  | .cells _ _ g _ => Nat.blt g n
  | _ => true
/-- The list lies in the short memory. -/
def inB (n : Nat) (σ : St) : List (Nat × Ob) → Bool
  | [] => Nat.beq n σ.next && Nat.ble n 16000
  | x :: l => match σ.get x.1 with
    | some o => obB x.2 o && Nat.blt x.1 n && grpB n x.2 && inB n σ l
    | none => false
theorem inB_next {n : Nat} {σ : St} : ∀ {l : List (Nat × Ob)}, inB n σ l = true → σ.next = n ∧ n ≤ 16000
  | [], h => by
    simp only [inB, Bool.and_eq_true] at h
    exact ⟨(Nat.eq_of_beq_eq_true h.1).symm, Nat.le_of_ble_eq_true h.2⟩
  | x :: l, h => by
    simp only [inB] at h
    split at h
    · simp only [Bool.and_eq_true] at h; exact inB_next h.2
    · cases h
theorem inB_get {n : Nat} {σ : St} : ∀ {l : List (Nat × Ob)}, inB n σ l = true → ∀ x o, (stOf n l).get x = some o → σ.get x = some o
  | [], _, x, o, hx => by
    have : (stOf n []).get x = none := by
      by_cases hd : x < n
      · rw [get_lt (σ := stOf n []) hd]; cases x <;> rfl
      · exact get_ge (σ := stOf n []) hd
    rw [this] at hx; cases hx
  | (b, ob) :: l, h, x, o, hx => by
    have hn := (inB_next h).2
    simp only [inB] at h
    split at h
    · rename_i o' ho'
      simp only [Bool.and_eq_true] at h
      obtain ⟨⟨⟨h1, h2⟩, h3⟩, h4⟩ := h
      have h1 := obB_eq h1
      have h2 : b < n := Nat.blt_eq.mp h2
      rw [stOf, stAdd_get] at hx
      by_cases e : x = b
      · subst e
        rw [get_put _ _ _ (by rw [stOf_next]; exact hn) (by rw [stOf_next]; exact h2)] at hx
        cases hx
        rw [ho', h1]
      · rw [get_put_ne _ _ _ _ e] at hx
        exact inB_get h4 x o hx
    · cases h
theorem stAdd_kin (b : Nat) (o : Ob) (τ : St) (g x : Nat) (hn : τ.next ≤ 16000) (hg : grpB τ.next o = true) (hx : x ∈ τ.kin g) : x ∈ (stAdd b o τ).kin g := by
  unfold St.kin at *
  rcases List.mem_cons.mp hx with rfl | hx
  · exact List.mem_cons_self
  · refine List.mem_cons_of_mem _ ?_
    unfold stAdd
    split
    · rename_i cs e g' s
      split
      · exact hx
      · have hg' : g' < τ.next := Nat.blt_eq.mp hg
        by_cases e1 : g = g'
        · subst e1
          unfold St.aka
          rw [Tr.get_set_same _ _ _ _ (dep_ok (by omega))]
          exact List.mem_cons_of_mem _ hx
        · unfold St.aka
          rw [Tr.get_set_ne _ _ _ _ _ e1]; exact hx
    · exact hx
theorem inB_kin {n : Nat} {σ : St} : ∀ {l : List (Nat × Ob)}, inB n σ l = true → ∀ x cs e g s, (stOf n l).get x = some (.cells cs e g s) → x ∈ (stOf n l).kin g
  | [], _, x, cs, e, g, s, hx => by
    have : (stOf n []).get x = none := by
      by_cases hd : x < n
      · rw [get_lt (σ := stOf n []) hd]; cases x <;> rfl
      · exact get_ge (σ := stOf n []) hd
    rw [this] at hx; cases hx
  | (b, ob) :: l, h, x, cs, e, g, s, hx => by
    have hn := (inB_next h).2
    simp only [inB] at h
    split at h
    · rename_i o' ho'
      simp only [Bool.and_eq_true] at h
      obtain ⟨⟨⟨h1, h2⟩, h3⟩, h4⟩ := h
      have h2 : b < n := Nat.blt_eq.mp h2
      rw [stOf, stAdd_get] at hx
      rw [stOf]
      by_cases e1 : x = b
      · subst e1
        rw [get_put _ _ _ (by rw [stOf_next]; exact hn) (by rw [stOf_next]; exact h2)] at hx
        cases hx
        have hg : g < n := Nat.blt_eq.mp h3
        unfold stAdd
        simp only []
        cases hb : Nat.beq g x with
        | true => rw [Nat.eq_of_beq_eq_true hb]; exact List.mem_cons_self
        | false =>
          unfold St.kin St.aka
          simp only []
          rw [Tr.get_set_same _ _ _ _ (dep_ok (by omega))]
          exact List.mem_cons_of_mem _ List.mem_cons_self
      · rw [get_put_ne _ _ _ _ e1] at hx
        exact stAdd_kin b ob _ g x (by rw [stOf_next]; exact hn) (by rw [stOf_next]; exact h3) (inB_kin h4 x cs e g s hx)
    · cases h
theorem Rel.listed {n : Nat} {l : List (Nat × Ob)} (h : Rel K w0 σ E w) (hi : inB n σ l = true) : Rel K w0 (stOf n l) E w :=
  h.fewer ((stOf_next n l).trans (inB_next hi).1.symm) (inB_kin hi) (inB_get hi)

/-- A run from what is listed to what is listed. -/
def runB (P : Program) (X : CallT) (L m f : Nat) (args : List Value) (n0 : Nat) (l0 : List (Nat × Ob)) (v : Value) (n1 : Nat) (l1 : List (Nat × Ob)) : Bool :=
  match evCall P X L m f args (stOf n0 l0) with
  | some (u, σ') => veq u v && inB n1 σ' l1
  | none => false
def xAt (f0 : Nat) (args0 : List Value) (n0 : Nat) (l0 : List (Nat × Ob)) (v : Value) (n1 : Nat) (l1 : List (Nat × Ob)) : CallT := fun f args σ => match Nat.beq f f0 with
  | true => match veqL args args0, inB n0 σ l0 with
    | true, true => some (v, stOf n1 l1)
    | _, _ => none
  | false => none
theorem xAt_sound {G : Nat → Option Obj} {X : CallT} (hX : CallOk P G X) (hm : P.follows .mixedOrders = true) {L m f0 : Nat} {args0 : List Value} {n0 : Nat} {l0 : List (Nat × Ob)} {v0 : Value} {n1 : Nat} {l1 : List (Nat × Ob)}
    (hr0 : runB P X L m f0 args0 n0 l0 v0 n1 l1 = true) : CallOk P G (xAt f0 args0 n0 l0 v0 n1 l1) := by
  intro f args σ v σ' h K w0 hK E w hr ha
  unfold xAt at h
  split at h
  · rename_i hf
    have hf := Nat.eq_of_beq_eq_true hf
    subst hf
    split at h
    · rename_i ha0 hi
      cases h
      have ha0 := veqL_eq _ _ ha0
      subst ha0
      have hn := (inB_next hi).1
      unfold runB at hr0
      split at hr0
      · rename_i u σ1 hrun
        simp only [Bool.and_eq_true] at hr0
        have hu := veq_eq _ _ hr0.1
        subst hu
        have hn1 := (inB_next hr0.2).1
        refine (evCall_sound hX hm L m _ _ _ _ _ hrun K w0 hK E w (hr.listed hi) (by rw [stOf_next, ← hn]; exact ha)).mono ?_
        rintro e w' ⟨E', rfl, e1, e2, e3, e4⟩
        rw [stOf_next] at e2 e4
        refine ⟨E', rfl, e1.listed hr0.2, by rw [hn]; exact e2, by rw [stOf_next, ← hn1]; exact e3, by rw [stOf_next, hn, ← hn1]; exact e4⟩
      · cases hr0
    · cases h
  · cases h
def xOr (X Y : CallT) : CallT := fun f args σ => match X f args σ with
  | some r => some r
  | none => Y f args σ
theorem xOr_sound {G : Nat → Option Obj} {X Y : CallT} (hX : CallOk P G X) (hY : CallOk P G Y) : CallOk P G (xOr X Y) := by
  intro f args σ v σ' h
  unfold xOr at h
  split at h
  · rename_i r hx
    cases h
    exact hX f args σ _ _ hx
  · exact hY f args σ _ _ h
theorem rel_none (w : World) (E : Env) : Rel (fun _ => false) w (stOf 0 []) E w := by
  have no : ∀ x o, (stOf 0 []).get x = some o → False := fun x o hx => by
    rw [get_ge (σ := stOf 0 []) (by show ¬ x < 0; omega)] at hx; cases hx
  constructor
  · exact Nat.zero_le _
  · intro b cs e g s hb; exact (no _ _ hb).elim
  · intro b cs e g s hb; exact (no _ _ hb).elim
  · intro b cs e g s hb; exact (no _ _ hb).elim
  · intro b cs e g s hb; exact (no _ _ hb).elim
  · intro b cs e g s b' cs' e' g' s' hb; exact (no _ _ hb).elim
  · intro b ks vs bo cl hb; exact (no _ _ hb).elim
  · intro b s p hb; exact (no _ _ hb).elim
  · intro b o b' o' hb; exact (no _ _ hb).elim
  · intro b o hb; exact (no _ _ hb).elim
  · exact Nat.le_refl _
  · intro r _ _; rfl
  · intro b cs e g s hb; exact (no _ _ hb).elim
  · exact ⟨rfl, rfl, rfl⟩
/-- A closed run: what it returns, and that what was there is as it was. -/
theorem closed_run {G : Nat → Option Obj} {X : CallT} (hX : CallOk P G X) (hm : P.follows .mixedOrders = true) {L m f : Nat} {args : List Value} {v : Value} {n1 : Nat} {l1 : List (Nat × Ob)}
    (h : runB P X L m f args 0 [] v n1 l1 = true) (ha : plainL args = true) (hv : plainL [v] = true) (w : World) (hG : Held G (fun _ => false) w) :
    Calls P f args.toArray w fun e w' => e = .returned v ∧ RowKit.Below w.heap.size w w' := by
  unfold runB at h
  split at h
  · rename_i u σ1 hrun
    simp only [Bool.and_eq_true] at h
    have hu := veq_eq _ _ h.1
    subst hu
    let E0 : Env := fun _ => ⟨0, 0, 0⟩
    have := evCall_sound hX hm L m _ _ _ _ _ hrun _ w hG E0 w (rel_none w E0) (ok_of_plainL _ _ ha)
    rw [map_plain E0 ha] at this
    refine this.mono ?_
    rintro e w' ⟨E', rfl, e1, e2, e3, e4⟩
    have h1 := map_plain E' hv
    simp only [List.map_cons, List.map_nil, List.cons.injEq, and_true] at h1
    exact ⟨by rw [h1], e1.calm.1, e1.calm.2.1, e1.calm.2.2, e1.size, fun k hk => e1.frame k hk rfl⟩
  · cases h
end
end Go.Ev
