/- An evaluator for runs without inputs: a run from nothing serves at any memory, behind what is there. -/
import Derived.Test.YtkldglhihfjclaaGreatDoorEvXb
namespace Go.Ev
noncomputable section
variable {P : Program} {K : Nat → Bool} {w0 w w' : World} {σ σ1 : St} {E E1 : Env}

mutual
/-- A value whose places have other numbers. -/
def reV (r : Nat → Nat) : Value → Value
  | .pointer (some a) => .pointer (some ⟨r a.block, a.off, a.spot⟩)
  | .slice (some a) n c => .slice (some ⟨r a.block, a.off, a.spot⟩) n c
  | .map (some b) => .map (some (r b))
  | .func fn f c => .func fn (reA r f) (reA r c)
  | .iface t v => .iface t (reV r v)
  | .agg cs => .agg (reA r cs)
  | .tuple cs => .tuple (reA r cs)
  | v => v
def reA (r : Nat → Nat) : Array Value → Array Value
  | ⟨l⟩ => ⟨reL r l⟩
def reL (r : Nat → Nat) : List Value → List Value
  | [] => []
  | v :: l => reV r v :: reL r l
end
theorem reL_map (r : Nat → Nat) : ∀ l, reL r l = l.map (reV r)
  | [] => rfl
  | v :: l => by simp [reL, reL_map r l]
mutual
theorem ren_re (E : Env) (r : Nat → Nat) : ∀ v, ren E (reV r v) = ren (fun b => E (r b)) v
  | .pointer (some a) => by simp only [reV, ren, rPtr]
  | .pointer none => rfl
  | .slice (some a) n c => by simp only [reV, ren, rRow]
  | .slice none n c => rfl
  | .map (some b) => by simp only [reV, ren]
  | .map none => rfl
  | .func fn f c => by simp only [reV, ren, renA_re E r f, renA_re E r c]
  | .iface t v => by simp only [reV, ren, ren_re E r v]
  | .agg cs => by simp only [reV, ren, renA_re E r cs]
  | .tuple cs => by simp only [reV, ren, renA_re E r cs]
  | .bool _ => rfl
  | .int _ _ => rfl
  | .float _ _ => rfl
  | .complex _ _ _ => rfl
  | .string _ => rfl
  | .chan _ => rfl
  | .nilFunc => rfl
  | .nilIface => rfl
theorem renA_re (E : Env) (r : Nat → Nat) : ∀ a, renA E (reA r a) = renA (fun b => E (r b)) a
  | ⟨l⟩ => by simp only [reA, renA, renL_re E r l]
theorem renL_re (E : Env) (r : Nat → Nat) : ∀ l, renL E (reL r l) = renL (fun b => E (r b)) l
  | [] => rfl
  | v :: l => by simp only [reL, renL, ren_re E r v, renL_re E r l]
end
mutual
theorem ok_re {N N' : Nat} {E E' : Env} {r r' : Nat → Nat} (hr : ∀ b, r b < N → r' b < N' ∧ E' (r' b) = E (r b)) : ∀ v, ok N E (reV r v) → ok N' E' (reV r' v)
  | .pointer (some a), hv => by simp only [reV, ok] at hv ⊢; exact (hr _ hv).1
  | .pointer none, _ => by simp [reV, ok]
  | .slice (some a) n c, hv => by simp only [reV, ok] at hv ⊢; rw [(hr _ hv.1).2]; exact ⟨(hr _ hv.1).1, hv.2⟩
  | .slice none n c, hv => by simpa only [reV, ok] using hv
  | .map (some b), hv => by simp only [reV, ok] at hv ⊢; exact (hr _ hv).1
  | .map none, _ => by simp [reV, ok]
  | .func fn f c, hv => by simp only [reV, ok] at hv ⊢; exact ⟨okA_re hr f hv.1, okA_re hr c hv.2⟩
  | .iface t v, hv => by simp only [reV, ok] at hv ⊢; exact ok_re hr v hv
  | .agg cs, hv => by simp only [reV, ok] at hv ⊢; exact okA_re hr cs hv
  | .tuple cs, hv => by simp only [reV, ok] at hv ⊢; exact okA_re hr cs hv
  | .bool _, _ => by simp [reV, ok]
  | .int _ _, _ => by simp [reV, ok]
  | .float _ _, _ => by simp [reV, ok]
  | .complex _ _ _, _ => by simp [reV, ok]
  | .string _, _ => by simp [reV, ok]
  | .chan _, hv => by simp [reV, ok] at hv
  | .nilFunc, _ => by simp [reV, ok]
  | .nilIface, _ => by simp [reV, ok]
theorem okA_re {N N' : Nat} {E E' : Env} {r r' : Nat → Nat} (hr : ∀ b, r b < N → r' b < N' ∧ E' (r' b) = E (r b)) : ∀ a, okA N E (reA r a) → okA N' E' (reA r' a)
  | ⟨l⟩, ha => by simp only [reA, okA] at ha ⊢; exact okL_re hr l ha
theorem okL_re {N N' : Nat} {E E' : Env} {r r' : Nat → Nat} (hr : ∀ b, r b < N → r' b < N' ∧ E' (r' b) = E (r b)) : ∀ l, okL N E (reL r l) → okL N' E' (reL r' l)
  | [], _ => by simp [reL, okL]
  | v :: l, hl => by simp only [reL, okL] at hl ⊢; exact ⟨ok_re hr v hl.1, okL_re hr l hl.2⟩
end
theorem oneCell_re (r : Nat → Nat) (v : Value) : (reV r v).oneCell' = v.oneCell' := by
  cases v with
  | pointer a => cases a <;> rfl
  | slice a => cases a <;> rfl
  | map a => cases a <;> rfl
  | _ => rfl
theorem map_re (E : Env) (r : Nat → Nat) (l : List Value) : (reL r l).map (ren E) = l.map (ren fun b => E (r b)) := by
  rw [reL_map, List.map_map]
  exact List.map_congr_left fun v _ => ren_re E r v
theorem good_re {N N' : Nat} {E E' : Env} {r r' : Nat → Nat} (hr : ∀ b, r b < N → r' b < N' ∧ E' (r' b) = E (r b)) {l : List Value} (h : ∀ v ∈ reL r l, ok N E v) : ∀ v ∈ reL r' l, ok N' E' v := by
  intro v hv
  rw [reL_map, List.mem_map] at hv
  obtain ⟨u, hu, rfl⟩ := hv
  exact ok_re hr u (h _ (by rw [reL_map]; exact List.mem_map_of_mem hu))
theorem entries_re (E : Env) (r : Nat → Nat) : ∀ (ks vs : List Value) (bo : List Nat),
    ((reL r ks).zip ((reL r vs).zip bo)).map (fun x => ({ key := ren E x.1, val := ren E x.2.1, born := x.2.2 } : MapEntry)) =
      (ks.zip (vs.zip bo)).map (fun x => { key := ren (fun b => E (r b)) x.1, val := ren (fun b => E (r b)) x.2.1, born := x.2.2 })
  | [], _, _ => by simp [reL]
  | k :: ks, [], _ => by simp [reL]
  | k :: ks, v :: vs, [] => by simp [reL]
  | k :: ks, v :: vs, n :: bo => by
    have := entries_re E r ks vs bo
    simp only [reL, List.zip_cons_cons, List.map_cons, this, ren_re]
theorem reL_length (r : Nat → Nat) (l : List Value) : (reL r l).length = l.length := by rw [reL_map, List.length_map]

/-- What lies in a piece's memory: its number there, its family's number there, itself in short numbers. -/
abbrev Ent := Nat × Nat × Ob
def reO (r : Nat → Nat) (g' : Nat) : Ob → Ob
  | .cells cs e _ s => .cells (reL r cs) e g' s
  | .map ks vs bo cl => .map (reL r ks) (reL r vs) bo cl
  | .iter s p => .iter s p
def grpO : Ob → Nat
  | .cells _ _ g _ => g
  | _ => 0
def lkp : List Ent → Nat → Nat
  | [], _ => 16000
  | x :: _, 0 => x.1
  | _ :: l, n + 1 => lkp l n
theorem lkp_some {l : List Ent} : ∀ {i : Nat} {x : Ent}, l[i]? = some x → lkp l i = x.1 := by
  induction l with
  | nil => intro i x h; simp at h
  | cons y l ih =>
    intro i x h
    cases i with
    | zero => simp at h; subst h; rfl
    | succ i => rw [List.getElem?_cons_succ] at h; exact ih h
theorem lkp_lt : ∀ {l : List Ent} {i : Nat}, lkp l i < 16000 → i < l.length
  | [], i, h => by simp [lkp] at h
  | y :: l, 0, h => by simp
  | y :: l, n + 1, h => by have := lkp_lt (l := l) (i := n) h; simp; omega
def riseB : Nat → List Ent → Bool
  | _, [] => true
  | lo, x :: l => Nat.ble lo x.1 && riseB (x.1 + 1) l
theorem riseB_ge : ∀ {l : List Ent} {lo : Nat}, riseB lo l = true → ∀ x ∈ l, lo ≤ x.1
  | [], _, _, x, hx => by cases hx
  | y :: l, lo, h, x, hx => by
    simp only [riseB, Bool.and_eq_true] at h
    have h1 := Nat.le_of_ble_eq_true h.1
    rcases List.mem_cons.mp hx with rfl | hx
    · exact h1
    · have := riseB_ge h.2 x hx; omega
theorem riseB_inj {l : List Ent} : ∀ {lo : Nat}, riseB lo l = true → ∀ (i j : Nat) (x y : Ent), l[i]? = some x → l[j]? = some y → x.1 = y.1 → i = j := by
  induction l with
  | nil => intro _ _ i j x y hx; simp at hx
  | cons z l ih =>
    intro lo h i j x y hx hy e
    simp only [riseB, Bool.and_eq_true] at h
    cases i with
    | zero =>
      cases j with
      | zero => rfl
      | succ j =>
        simp at hx; subst hx
        rw [List.getElem?_cons_succ] at hy
        have := riseB_ge h.2 y (List.mem_of_getElem? hy)
        omega
    | succ i =>
      cases j with
      | zero =>
        simp at hy; subst hy
        rw [List.getElem?_cons_succ] at hx
        have := riseB_ge h.2 x (List.mem_of_getElem? hx)
        omega
      | succ j =>
        rw [List.getElem?_cons_succ] at hx hy
        rw [ih h.2 i j x y hx hy e]
def lowB : Nat → List Ent → Bool
  | _, [] => true
  | i, x :: l => Nat.ble (grpO x.2.2) i && lowB (i + 1) l
def famB (l : List Ent) : Bool := l.all fun (x : Ent) => l.all fun (y : Ent) => !Nat.beq x.2.1 y.2.1 || Nat.beq (grpO x.2.2) (grpO y.2.2)
theorem famB_eq {l : List Ent} (h : famB l = true) {x y : Ent} (hx : x ∈ l) (hy : y ∈ l) (e : x.2.1 = y.2.1) : grpO x.2.2 = grpO y.2.2 := by
  unfold famB at h
  rw [List.all_eq_true] at h
  have := h x hx
  rw [List.all_eq_true] at this
  have := this y hy
  rw [e, Nat.beq_refl] at this
  exact Nat.eq_of_beq_eq_true (by simpa using this)
def entsB (σ1 : St) (r : Nat → Nat) : List Ent → Bool
  | [] => true
  | x :: l => match σ1.get x.1 with
    | some o1 => obB (reO r x.2.1 x.2.2) o1 && entsB σ1 r l
    | none => false
theorem entsB_get {r : Nat → Nat} : ∀ {l : List Ent}, entsB σ1 r l = true → ∀ x ∈ l, σ1.get x.1 = some (reO r x.2.1 x.2.2)
  | [], _, x, hx => by cases hx
  | y :: l, h, x, hx => by
    simp only [entsB] at h
    split at h
    · rename_i o1 ho
      simp only [Bool.and_eq_true] at h
      rcases List.mem_cons.mp hx with rfl | hx
      · rw [ho, obB_eq h.1]
      · exact entsB_get h.2 x hx
    · cases h
/-- The list says what lies in the short memory. -/
def joinB (σ1 : St) (l : List Ent) : Bool := riseB 0 l && lowB 0 l && famB l && entsB σ1 (lkp l) l

def addO (k : Nat) (o : Ob) (τ : St) : St := match o with
  | .cells cs e g s => τ.newIn (reL (fun b => k + b) cs) e (k + g) s
  | .map ks vs bo cl => τ.newOb (.map (reL (fun b => k + b) ks) (reL (fun b => k + b) vs) bo cl)
  | .iter s p => τ.newOb (.iter s p)
def addL (k : Nat) : List Ent → St → St
  | [], τ => τ
  | x :: l, τ => addL k l (addO k x.2.2 τ)
theorem addO_next (k : Nat) (o : Ob) (τ : St) : (addO k o τ).next = τ.next + 1 := by cases o <;> rfl
theorem addO_get (k : Nat) (o : Ob) (τ : St) (hl : τ.next ≤ 16000) : (addO k o τ).get τ.next = some (reO (fun b => k + b) (k + grpO o) o) := by
  cases o with
  | cells cs e g s => exact get_new τ _ _ _ _ hl
  | map ks vs bo cl => exact get_newOb τ _ hl
  | iter s p => exact get_newOb τ _ hl
theorem addO_get_ne (k : Nat) (o : Ob) (τ : St) (x : Nat) (hx : x ≠ τ.next) : (addO k o τ).get x = τ.get x := by
  cases o with
  | cells cs e g s => exact get_new_ne τ _ _ _ _ x hx
  | map ks vs bo cl => exact get_newOb_ne τ _ x hx
  | iter s p => exact get_newOb_ne τ _ x hx
theorem addO_kin (k : Nat) (o : Ob) (τ : St) (hl : τ.next ≤ 16000) (hg : k + grpO o ≤ τ.next) (g x : Nat) (hx : x ∈ τ.kin g) : x ∈ (addO k o τ).kin g := by
  cases o with
  | cells cs e g' s => exact kin_new_sub τ _ _ _ _ _ hl hg _ hx
  | map ks vs bo cl => exact hx
  | iter s p => exact hx
theorem addL_spec (k : Nat) : ∀ (l : List Ent) (τ : St) (i : Nat), τ.next = k + i → τ.next + l.length ≤ 16000 → lowB i l = true →
    (addL k l τ).next = τ.next + l.length ∧
    (∀ x o, (addL k l τ).get x = some o → τ.get x = some o ∨ ∃ j y, l[j]? = some y ∧ x = τ.next + j ∧ o = reO (fun b => k + b) (k + grpO y.2.2) y.2.2) ∧
    (∀ g x, x ∈ τ.kin g → x ∈ (addL k l τ).kin g) ∧
    (∀ (j : Nat) (y : Ent) cs e g s, l[j]? = some y → y.2.2 = .cells cs e g s → τ.next + j ∈ (addL k l τ).kin (k + g) ∧ g ≤ i + j)
  | [], τ, i, _, _, _ => ⟨rfl, fun x o h => Or.inl h, fun g x h => h, fun j y cs e g s h => by simp at h⟩
  | z :: l, τ, i, hn, hl, hlow => by
    simp only [lowB, Bool.and_eq_true] at hlow
    have hg : k + grpO z.2.2 ≤ τ.next := by have := Nat.le_of_ble_eq_true hlow.1; omega
    have hl' : τ.next + (l.length + 1) ≤ 16000 := hl
    have hlim : τ.next ≤ 16000 := by omega
    have hn1 := addO_next k z.2.2 τ
    obtain ⟨h1, h2, h3, h4⟩ := addL_spec k l (addO k z.2.2 τ) (i + 1) (by omega) (by omega) hlow.2
    refine ⟨?_, ?_, ?_, ?_⟩
    · show (addL k l (addO k z.2.2 τ)).next = τ.next + (l.length + 1)
      omega
    · intro x o hx
      rcases h2 x o hx with h | ⟨j, y, e1, e2, e3⟩
      · by_cases e : x = τ.next
        · subst e
          rw [addO_get k z.2.2 τ hlim] at h
          exact Or.inr ⟨0, z, rfl, rfl, (Option.some.inj h).symm⟩
        · rw [addO_get_ne k z.2.2 τ x e] at h
          exact Or.inl h
      · exact Or.inr ⟨j + 1, y, by rw [List.getElem?_cons_succ]; exact e1, by omega, e3⟩
    · intro g x hx
      exact h3 g x (addO_kin k z.2.2 τ hlim hg g x hx)
    · intro j y cs e g s hy ho
      cases j with
      | zero =>
        simp at hy; subst hy
        rw [ho] at hg hlow
        refine ⟨h3 _ _ ?_, by have := Nat.le_of_ble_eq_true hlow.1; exact this⟩
        rw [ho]
        exact kin_new τ _ _ _ _ hlim hg
      | succ j =>
        rw [List.getElem?_cons_succ] at hy
        have := h4 j y cs e g s hy ho
        rw [hn1] at this
        exact ⟨by rw [show τ.next + (j + 1) = τ.next + 1 + j by omega]; exact this.1, by omega⟩

def joinE (k : Nat) (E E1 : Env) (l : List Ent) : Env := fun b => if b < k then E b else E1 (lkp l (b - k))
theorem joinE_new (k : Nat) (E E1 : Env) (l : List Ent) : (fun b => joinE k E E1 l (k + b)) = fun b => E1 (lkp l b) := by
  funext b
  unfold joinE
  rw [if_neg (by omega), Nat.add_sub_cancel_left]
theorem joinE_at (k : Nat) (E E1 : Env) {l : List Ent} {j : Nat} {y : Ent} (h : l[j]? = some y) : joinE k E E1 l (k + j) = E1 y.1 := by
  have h1 : joinE k E E1 l (k + j) = E1 (lkp l j) := congrFun (joinE_new k E E1 l) j
  rw [h1, lkp_some h]
theorem joinE_ext (k : Nat) (E E1 : Env) (l : List Ent) : Ext k E (joinE k E E1 l) := fun b hb => by unfold joinE; rw [if_pos hb]

theorem Rel.join_below (h1 : Rel (fun _ => false) w σ1 E1 w') : RowKit.Below w.heap.size w w' :=
  ⟨h1.calm.1, h1.calm.2.1, h1.calm.2.2, h1.size, fun k hk => h1.frame k hk rfl⟩
theorem join_re (h1 : Rel (fun _ => false) w σ1 E1 w') (l : List Ent) (k : Nat) (E : Env) : ∀ b, lkp l b < σ1.next → k + b < k + l.length ∧ joinE k E E1 l (k + b) = E1 (lkp l b) := fun b hb => by
  have := lkp_lt (l := l) (i := b) (by have := h1.lim; omega)
  exact ⟨by omega, congrFun (joinE_new k E E1 l) b⟩
/-- Both in one short memory. -/
theorem Rel.join (h : Rel K w0 σ E w) (h1 : Rel (fun _ => false) w σ1 E1 w') {l : List Ent} (hc : joinB σ1 l = true) (hl : σ.next + l.length ≤ 16000) :
    Rel K w0 (addL σ.next l σ) (joinE σ.next E E1 l) w' := by
  simp only [joinB, Bool.and_eq_true] at hc
  obtain ⟨⟨⟨hrise, hlow⟩, hfam⟩, hent⟩ := hc
  have hb := h1.join_below
  have ho := h.below hb
  obtain ⟨s1, s2, s3, s4⟩ := addL_spec σ.next l σ 0 rfl hl hlow
  have hext := joinE_ext σ.next E E1 l
  have hre := join_re h1 l σ.next E
  have hnew : ∀ {j : Nat} {y : Ent}, l[j]? = some y → σ1.get y.1 = some (reO (lkp l) y.2.1 y.2.2) := fun hj => entsB_get hent _ (List.mem_of_getElem? hj)
  have hat : ∀ {j : Nat} {y : Ent}, l[j]? = some y → joinE σ.next E E1 l (σ.next + j) = E1 y.1 := fun hj => joinE_at _ _ _ hj
  have hold : ∀ {x o}, σ.get x = some o → joinE σ.next E E1 l x = E x := fun hx => hext _ (get_dom hx)
  have okx : ∀ {v}, ok σ.next E v → ok (addL σ.next l σ).next (joinE σ.next E E1 l) v := fun hv => ok_ext (by omega) hext _ hv
  have hren := joinE_new σ.next E E1 l
  -- cells that are there
  have get : ∀ x cs e g s, (addL σ.next l σ).get x = some (.cells cs e g s) → σ.get x = some (.cells cs e g s) ∨ ∃ j y cs0 g0, l[j]? = some y ∧ x = σ.next + j ∧ y.2.2 = .cells cs0 e g0 s ∧
      cs = reL (fun b => σ.next + b) cs0 ∧ g = σ.next + g0 ∧ σ1.get y.1 = some (.cells (reL (lkp l) cs0) e y.2.1 s) := by
    intro x cs e g s hx
    rcases s2 x _ hx with hx | ⟨j, y, e1, e2, e3⟩
    · exact Or.inl hx
    · have hq := hnew e1
      cases hy : y.2.2 with
      | cells cs0 e0 g0 s0 =>
        rw [hy] at e3 hq
        simp only [reO, grpO] at e3 hq
        cases e3
        exact Or.inr ⟨j, y, cs0, g0, e1, e2, hy, rfl, rfl, hq⟩
      | map a b c d => rw [hy] at e3; cases e3
      | iter a b => rw [hy] at e3; cases e3
  have own2 : ∀ x o, (addL σ.next l σ).get x = some o → (∃ o', σ.get x = some o' ∧ o = o' ∧ x < σ.next ∧ (E x).blk < w.heap.size) ∨
      ∃ j y, l[j]? = some y ∧ x = σ.next + j ∧ o = reO (fun b => σ.next + b) (σ.next + grpO y.2.2) y.2.2 ∧ w.heap.size ≤ (E1 y.1).blk ∧ (E1 y.1).blk < w'.heap.size := by
    intro x o hx
    rcases s2 x _ hx with hx | ⟨j, y, e1, e2, e3⟩
    · exact Or.inl ⟨o, hx, rfl, get_dom hx, (h.own x o hx).1⟩
    · have hq := h1.own y.1 _ (hnew e1)
      exact Or.inr ⟨j, y, e1, e2, e3, by simpa using hq.2, hq.1⟩
  constructor
  · rw [s1]; exact hl
  · intro x cs e g s hx
    rcases get x _ _ _ _ hx with hx | ⟨j, y, cs0, g0, e1, rfl, e3, rfl, rfl, e6⟩
    · rw [hold hx, map_ren_ext hext (fun v hv => (h.good x _ _ _ _ hx v hv).1)]
      exact ho.cell x _ _ _ _ hx
    · rw [hat e1, map_re, hren, ← map_re]
      exact h1.cell y.1 _ _ _ _ e6
  · intro x cs e g s hx v hv
    rcases get x _ _ _ _ hx with hx | ⟨j, y, cs0, g0, e1, rfl, e3, rfl, rfl, e6⟩
    · exact ⟨okx (h.good x _ _ _ _ hx v hv).1, (h.good x _ _ _ _ hx v hv).2⟩
    · have hg := h1.good y.1 _ _ _ _ e6
      refine ⟨good_re (r := lkp l) (fun b hb => ?_) (fun v hv => (hg v hv).1) v hv, ?_⟩
      · rw [s1]; exact hre b hb
      · rw [reL_map, List.mem_map] at hv
        obtain ⟨u, hu, rfl⟩ := hv
        have := (hg (reV (lkp l) u) (by rw [reL_map]; exact List.mem_map_of_mem hu)).2
        rw [oneCell_re] at this ⊢
        exact this
  · intro x cs e g s hx
    rcases get x _ _ _ _ hx with hx | ⟨j, y, cs0, g0, e1, rfl, e3, rfl, rfl, e6⟩
    · rw [hold hx]; exact ho.there x _ _ _ _ hx
    · have := h1.there y.1 _ _ _ _ e6
      rw [reL_length] at this ⊢
      rw [hat e1]; exact this
  · intro x cs e g s hx
    rcases get x _ _ _ _ hx with hx | ⟨j, y, cs0, g0, e1, rfl, e3, rfl, rfl, e6⟩
    · have := h.kin x _ _ _ _ hx
      exact ⟨s3 _ _ this.1, by omega⟩
    · have := s4 j y _ _ _ _ e1 e3
      have hj := (List.getElem?_eq_some_iff.mp e1).1
      exact ⟨this.1, by omega⟩
  · intro x cs e g s x' cs' e' g' s' hx hx' he
    rcases get x _ _ _ _ hx with hx | ⟨j, y, cs0, g0, e1, rfl, e3, rfl, rfl, e6⟩ <;> rcases get x' _ _ _ _ hx' with hx' | ⟨j', y', cs0', g0', e1', rfl, e3', rfl, rfl, e6'⟩
    · rw [hold hx, hold hx'] at he ⊢
      exact h.fam x _ _ _ _ x' _ _ _ _ hx hx' he
    · rw [hold hx, hat e1'] at he
      have a1 := (h.own x _ hx).1
      have a2 := (h1.own y'.1 _ e6').2
      simp at a2
      omega
    · rw [hold hx', hat e1] at he
      have a1 := (h.own x' _ hx').1
      have a2 := (h1.own y.1 _ e6).2
      simp at a2
      omega
    · rw [hat e1, hat e1'] at he ⊢
      have := h1.fam y.1 _ _ _ _ y'.1 _ _ _ _ e6 e6' he
      have hg := famB_eq hfam (List.mem_of_getElem? e1) (List.mem_of_getElem? e1') this.1
      rw [e3, e3'] at hg
      exact ⟨by simp only [grpO] at hg; rw [hg], this.2⟩
  · intro x ks vs bo cl hx
    rcases s2 x _ hx with hx | ⟨j, y, e1, rfl, e3⟩
    · obtain ⟨es, f1, f2, f3, f4, f5, f6⟩ := ho.obj x _ _ _ _ hx
      refine ⟨es, by rw [hold hx]; exact f1, ?_, f3, f4, fun v hv => okx (f5 v hv), fun v hv => okx (f6 v hv)⟩
      rw [f2]
      refine List.map_congr_left fun z hz => ?_
      obtain ⟨k, v, n⟩ := z
      have hk := List.of_mem_zip hz
      have hv := List.of_mem_zip hk.2
      simp only [ren_ext hext k (f5 k hk.1), ren_ext hext v (f6 v hv.1)]
    · have hq := hnew e1
      cases hy : y.2.2 with
      | cells _ _ _ _ => rw [hy] at e3; cases e3
      | iter _ _ => rw [hy] at e3; cases e3
      | map ks0 vs0 bo0 cl0 =>
        rw [hy] at e3 hq
        cases e3
        obtain ⟨es, f1, f2, f3, f4, f5, f6⟩ := h1.obj y.1 _ _ _ _ hq
        rw [reL_length] at f3 f4
        rw [reL_length] at f3
        refine ⟨es, by rw [hat e1]; exact f1, ?_, by rw [reL_length, reL_length]; exact f3, by rw [reL_length]; exact f4, good_re (r := lkp l) (fun b hb => ?_) f5, good_re (r := lkp l) (fun b hb => ?_) f6⟩
        · rw [f2, entries_re, entries_re, hren]
        · rw [s1]; exact hre b hb
        · rw [s1]; exact hre b hb
  · intro x s p hx
    rcases s2 x _ hx with hx | ⟨j, y, e1, rfl, e3⟩
    · rw [hold hx]; exact ho.itr x _ _ hx
    · have hq := hnew e1
      cases hy : y.2.2 with
      | cells _ _ _ _ => rw [hy] at e3; cases e3
      | map _ _ _ _ => rw [hy] at e3; cases e3
      | iter s0 p0 =>
        rw [hy] at e3 hq
        cases e3
        rw [hat e1]; exact h1.itr y.1 _ _ hq
  · intro x o x' o' hx hx' hxx he
    rcases own2 x _ hx with ⟨_, hx, rfl, hd, hs⟩ | ⟨j, y, e1, rfl, e3, hs, _⟩ <;> rcases own2 x' _ hx' with ⟨_, hx', rfl, hd', hs'⟩ | ⟨j', y', e1', rfl, e3', hs', _⟩
    · rw [hold hx, hold hx'] at he
      exact h.apart x _ x' _ hx hx' hxx he
    · rw [hold hx, hat e1'] at he; omega
    · rw [hold hx', hat e1] at he; omega
    · rw [hat e1, hat e1'] at he
      have := h1.apart y.1 _ y'.1 _ (hnew e1) (hnew e1') (fun e => hxx (by rw [riseB_inj hrise _ _ _ _ e1 e1' e])) he
      obtain ⟨⟨a1, a2, a3, a4, h5⟩, ⟨b1, b2, b3, b4, h6⟩⟩ := this
      constructor
      · cases hy : y.2.2 with
        | cells c0 c1 c2 c3 => rw [hy] at e3; exact ⟨_, _, _, _, e3⟩
        | map _ _ _ _ => rw [hy] at h5; cases h5
        | iter _ _ => rw [hy] at h5; cases h5
      · cases hy : y'.2.2 with
        | cells c0 c1 c2 c3 => rw [hy] at e3'; exact ⟨_, _, _, _, e3'⟩
        | map _ _ _ _ => rw [hy] at h6; cases h6
        | iter _ _ => rw [hy] at h6; cases h6
  · intro x o hx
    have hsz := h.size
    have hsz' := h1.size
    rcases own2 x _ hx with ⟨_, hx, rfl, hd, hs⟩ | ⟨j, y, e1, rfl, e3, hs, hs'⟩
    · rw [hold hx]; exact ho.own x _ hx
    · rw [hat e1]
      exact ⟨hs', Or.inr (by omega)⟩
  · exact ho.size
  · exact ho.frame
  · intro x cs e g s hx
    rcases get x _ _ _ _ hx with hx | ⟨j, y, cs0, g0, e1, rfl, e3, rfl, rfl, e6⟩
    · rw [hold hx]; exact ho.fro x _ _ _ _ hx
    · rw [hat e1]; exact h1.fro y.1 _ _ _ _ e6
  · exact ho.calm

/-- A run from nothing: to a value and what is listed, both in short numbers. -/
def closeB (P : Program) (X : CallT) (L m f : Nat) (args : List Value) (v : Value) (l : List Ent) : Bool :=
  match evCall P X L m f args (stOf 0 []) with
  | some (u, σ') => veq u (reV (lkp l) v) && joinB σ' l && plainL args
  | none => false
def xCl (f0 : Nat) (args0 : List Value) (v : Value) (l : List Ent) : CallT := fun f args σ => match Nat.beq f f0 with
  | true => match veqL args args0, Nat.ble (σ.next + l.length) 16000 with
    | true, true => some (reV (fun b => σ.next + b) v, addL σ.next l σ)
    | _, _ => none
  | false => none
theorem xCl_sound {G : Nat → Option Obj} {X : CallT} (hX : CallOk P G X) (hm : P.follows .mixedOrders = true) {L m f0 : Nat} {args0 : List Value} {v0 : Value} {l : List Ent}
    (hr0 : closeB P X L m f0 args0 v0 l = true) : CallOk P G (xCl f0 args0 v0 l) := by
  intro f args σ v σ' h K w0 hK E w hr ha
  unfold xCl at h
  split at h
  · rename_i hf
    have hf := Nat.eq_of_beq_eq_true hf
    subst hf
    split at h
    · rename_i ha0 hle
      cases h
      have ha0 := veqL_eq _ _ ha0
      subst ha0
      have hle := Nat.le_of_ble_eq_true hle
      unfold closeB at hr0
      split at hr0
      · rename_i u σ1 hrun
        simp only [Bool.and_eq_true] at hr0
        obtain ⟨⟨hu, hj⟩, hp⟩ := hr0
        have hu := veq_eq _ _ hu
        subst hu
        let E0 : Env := fun _ => ⟨0, 0, 0⟩
        have hG : Held G (fun _ => false) w := fun r o hg => ⟨rfl, held_now hK hr hg⟩
        have := evCall_sound hX hm L m _ _ _ _ _ hrun _ w hG E0 w (rel_none w E0) (ok_of_plainL _ _ hp)
        rw [map_plain E0 hp, ← map_plain E hp] at this
        refine this.mono ?_
        rintro e w' ⟨E', rfl, e1, e2, e3, e4⟩
        have hlow := hj
        simp only [joinB, Bool.and_eq_true] at hlow
        have hs := (addL_spec σ.next l σ 0 rfl hle hlow.1.1.2).1
        refine ⟨joinE σ.next E E' l, ?_, hr.join e1 hj hle, joinE_ext _ _ _ _, ?_, by omega⟩
        · rw [ren_re, ren_re, joinE_new]
        · rw [hs]
          exact ok_re (join_re e1 l σ.next E) _ e3
      · cases hr0
    · cases h
  · cases h
end
end Go.Ev
