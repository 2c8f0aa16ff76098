import Derived.Test.YtkldglhihfjclaaGreatDoorEvT
namespace Go.Ev
noncomputable section
variable {P : Program} {K : Nat → Bool} {w0 w : World} {σ : St} {E : Env}

/-- A block more that nobody knows. -/
theorem Rel.garbage (h : Rel K w0 σ E w) (o : Obj) : Rel K w0 σ E { w with heap := w.heap.push o } := by
  have own := h.own
  have at' : ∀ b ob, σ.get b = some ob → (w.heap.push o)[(E b).blk]? = w.heap[(E b).blk]? := fun b ob hb => by
    have := (own b _ hb).1
    rw [Array.getElem?_push, if_neg (by omega)]
  constructor
  · exact h.lim
  · intro b cs e g s hb j v hv
    rw [cell_push _ _ _ (by have := (own b _ hb).1; show (E b).blk ≠ _; omega)]
    exact h.cell b _ _ _ _ hb j v hv
  · exact h.good
  · intro b cs e g s hb j hj
    have hb' := (own b _ hb).1
    rw [cell_push _ _ _ (by show (E b).blk ≠ _; omega), frozen_push _ _ _ (by show (E b).blk ≠ _; omega)]
    exact h.there b _ _ _ _ hb j hj
  · exact h.kin
  · exact h.fam
  · intro b ks vs bo cl hb; rw [at' b _ hb]; exact h.obj b _ _ _ _ hb
  · intro b s p hb; rw [at' b _ hb]; exact h.itr b _ _ hb
  · exact h.apart
  · intro b ob hb
    have := own b _ hb
    exact ⟨by simp only [Array.size_push]; omega, this.2⟩
  · simp only [Array.size_push]; have := h.size; omega
  · intro r hr hk
    have := h.size
    rw [Array.getElem?_push, if_neg (by omega)]
    exact h.frame r hr hk
  · intro b cs e g s hb
    rw [at' b _ hb]; exact h.fro b _ _ _ _ hb
  · exact h.calm

/-- A block that nobody knew is known from now on. -/
theorem Rel.adopt (h : Rel K w0 σ E w) (hr : σ.room = true) (cs : List Value) (full : Array Value) (el : TypeId) (fz : Nat × Nat) (esz cap g0 s0 p : Nat) (hg0 : g0 ≤ σ.next)
    (hp : w.heap[p]? = some (.cells full el fz)) (hfresh : ∀ x o, σ.get x = some o → (E x).blk ≠ p) (hpw : w0.heap.size ≤ p)
    (hc : ∀ v ∈ cs, ok σ.next E v ∧ v.oneCell' = true)
    (hfull : ∀ (j : Nat) (v : Value), (cs.map (ren E))[j]? = some v → full[j]? = some v)
    (hcap : max cs.length (cap * esz) ≤ full.size) (hfz : fz.1 = fz.2 ∨ full.size ≤ fz.1) :
    Rel K w0 (σ.newIn cs esz g0 s0) (upd E σ.next ⟨p, 0, cap⟩) w := by
  have hlim := h.lim
  have hroom : σ.next < 16000 := Nat.blt_eq.mp hr
  have hpl : p < w.heap.size := (Array.getElem?_eq_some_iff.mp hp).1
  have hn : (σ.newIn cs esz g0 s0).next = σ.next + 1 := rfl
  have get : ∀ x o, (σ.newIn cs esz g0 s0).get x = some o → (x = σ.next ∧ o = .cells cs esz g0 s0) ∨ (x < σ.next ∧ x ≠ σ.next ∧ σ.get x = some o) := by
    intro x o hx
    by_cases e : x = σ.next
    · subst e; rw [get_new _ _ _ _ _ hlim] at hx; exact Or.inl ⟨rfl, (Option.some.inj hx).symm⟩
    · rw [get_new_ne σ cs esz _ _ x e] at hx; exact Or.inr ⟨get_dom hx, e, hx⟩
  have okx : ∀ {v}, ok σ.next E v → ok (σ.next + 1) (upd E σ.next ⟨p, 0, cap⟩) v := fun hv => ok_ext (by omega) (upd_ext E _ _) _ hv
  have own := h.own
  constructor
  · rw [hn]; omega
  · intro b cs' e g s hb j v hv
    rcases get b _ hb with ⟨rfl, ho⟩ | ⟨hlt, hne, ho⟩
    · cases ho
      rw [upd_same]
      simp only [Nat.zero_add]
      rw [ren_upd (fun v hv => (hc v hv).1)] at hv
      have := hfull j v hv
      unfold World.cell?
      simp [hp, this]
    · rw [upd_ne E _ hne]
      rw [ren_upd (fun v hv => (h.good b _ _ _ _ ho v hv).1)] at hv
      exact h.cell b _ _ _ _ ho j v hv
  · intro b cs' e g s hb v hv
    rcases get b _ hb with ⟨rfl, ho⟩ | ⟨hlt, hne, ho⟩
    · cases ho; exact ⟨okx (hc v hv).1, (hc v hv).2⟩
    · exact ⟨okx (h.good b _ _ _ _ ho v hv).1, (h.good b _ _ _ _ ho v hv).2⟩
  · intro b cs' e g s hb j hj
    rcases get b _ hb with ⟨rfl, ho⟩ | ⟨hlt, hne, ho⟩
    · cases ho
      rw [upd_same] at hj ⊢
      simp only [Nat.zero_add]
      have hj' : j < full.size := by simp only [] at hj; omega
      constructor
      · unfold World.cell?; simp [hp, hj']
      · unfold World.frozen?
        have : ¬ (fz.1 ≤ j ∧ j < fz.2) := by omega
        simpa [hp] using this
    · rw [upd_ne E _ hne] at hj ⊢
      exact h.there b _ _ _ _ ho j hj
  · intro b cs' e g s hb
    rcases get b _ hb with ⟨rfl, ho⟩ | ⟨hlt, hne, ho⟩
    · cases ho; rw [hn]; exact ⟨kin_new σ _ _ _ _ hlim hg0, by omega⟩
    · have hk := h.kin b _ _ _ _ ho
      exact ⟨kin_new_sub σ _ _ _ _ _ hlim hg0 _ hk.1, by rw [hn]; omega⟩
  · intro b cs1 e1 g1 s1 b' cs2 e2 g2 s2 hb hb' he
    rcases get b _ hb with ⟨rfl, ho⟩ | ⟨hlt, hne, ho⟩ <;> rcases get b' _ hb' with ⟨rfl, ho'⟩ | ⟨hlt', hne', ho'⟩
    · cases ho; cases ho'; exact ⟨rfl, rfl⟩
    · rw [upd_same, upd_ne E _ hne'] at he
      exact absurd he.symm (hfresh b' _ ho')
    · rw [upd_same, upd_ne E _ hne] at he
      exact absurd he (hfresh b _ ho)
    · rw [upd_ne E _ hne, upd_ne E _ hne'] at he ⊢
      exact h.fam b _ _ _ _ b' _ _ _ _ ho ho' he
  · intro b ks vs bo cl hb
    rcases get b _ hb with ⟨rfl, ho⟩ | ⟨hlt, hne, ho⟩
    · cases ho
    · obtain ⟨r, h1, h2⟩ := h.ob ho (by intro c e g s e1; cases e1)
      obtain ⟨es, h3, h4⟩ := ObIs.ext (N' := σ.next + 1) (by omega) (upd_ext E σ.next ⟨p, 0, cap⟩) h2
      exact ⟨es, by rw [upd_ne E _ hne, h1, h3], h4⟩
  · intro b s q hb
    rcases get b _ hb with ⟨rfl, ho⟩ | ⟨hlt, hne, ho⟩
    · cases ho
    · rw [upd_ne E _ hne]; exact h.itr b _ _ ho
  · intro b o b' o' hb hb' hbb he
    rcases get b _ hb with ⟨rfl, ho⟩ | ⟨hlt, hne, ho⟩ <;> rcases get b' _ hb' with ⟨rfl, ho'⟩ | ⟨hlt', hne', ho'⟩
    · exact absurd rfl hbb
    · rw [upd_same, upd_ne E _ hne'] at he
      exact absurd he.symm (hfresh b' _ ho')
    · rw [upd_same, upd_ne E _ hne] at he
      exact absurd he (hfresh b _ ho)
    · rw [upd_ne E _ hne, upd_ne E _ hne'] at he
      exact h.apart b o b' o' ho ho' hbb he
  · intro b o hb
    rcases get b _ hb with ⟨rfl, ho⟩ | ⟨hlt, hne, ho⟩
    · rw [upd_same]; exact ⟨hpl, Or.inr hpw⟩
    · rw [upd_ne E _ hne]; exact own b _ ho
  · exact h.size
  · exact h.frame
  · intro b cs' e g s hb
    rcases get b _ hb with ⟨rfl, ho⟩ | ⟨hlt, hne, ho⟩
    · rw [upd_same]; exact ⟨full, el, fz, hp, hfz⟩
    · rw [upd_ne E _ hne]; exact h.fro b _ _ _ _ ho
  · exact h.calm

open Classical in
noncomputable def known (σ : St) (E : Env) : Nat → Bool := fun r => decide (∃ x o, σ.get x = some o ∧ (E x).blk = r)
theorem known_true {r : Nat} : known σ E r = true ↔ ∃ x o, σ.get x = some o ∧ (E x).blk = r := by simp [known]
/-- From here on. -/
theorem Rel.rebase (h : Rel K w0 σ E w) : Rel (known σ E) w σ E w := by
  constructor
  · exact h.lim
  · exact h.cell
  · exact h.good
  · exact h.there
  · exact h.kin
  · exact h.fam
  · exact h.obj
  · exact h.itr
  · exact h.apart
  · intro b o hb; exact ⟨(h.own b _ hb).1, Or.inl (known_true.mpr ⟨b, o, hb, rfl⟩)⟩
  · exact Nat.le_refl _
  · intro r _ _; rfl
  · exact h.fro
  · exact ⟨rfl, rfl, rfl⟩
theorem Rel.back {σ1 : St} {E1 : Env} {w1 : World} (h : Rel K w0 σ E w) (h1 : Rel (known σ E) w σ1 E1 w1) : Rel K w0 σ1 E1 w1 := by
  constructor
  · exact h1.lim
  · exact h1.cell
  · exact h1.good
  · exact h1.there
  · exact h1.kin
  · exact h1.fam
  · exact h1.obj
  · exact h1.itr
  · exact h1.apart
  · intro b o hb
    have := h1.own b _ hb
    refine ⟨this.1, ?_⟩
    rcases this.2 with hk | hk
    · obtain ⟨x, ob, hx, he⟩ := known_true.mp hk
      have := (h.own x _ hx).2
      rwa [he] at this
    · exact Or.inr (Nat.le_trans h.size hk)
  · exact Nat.le_trans h.size h1.size
  · intro r hr hk
    have hs := h.size
    rw [h1.frame r (by omega) ?_, h.frame r hr hk]
    cases hkn : known σ E r with
    | false => rfl
    | true =>
      obtain ⟨x, ob, hx, he⟩ := known_true.mp hkn
      have := (h.own x _ hx).2
      rw [he, hk] at this
      simp at this
      omega
  · exact h1.fro
  · exact ⟨h1.calm.1.trans h.calm.1, h1.calm.2.1.trans h.calm.2.1, h1.calm.2.2.trans h.calm.2.2⟩
/-- What nobody knew stays as it was, unknown. -/
theorem Rel.stays {σ1 : St} {E1 : Env} {w1 : World} (h1 : Rel (known σ E) w σ1 E1 w1) {p : Nat} (hp : p < w.heap.size) (hf : ∀ x o, σ.get x = some o → (E x).blk ≠ p) :
    w1.heap[p]? = w.heap[p]? ∧ ∀ x o, σ1.get x = some o → (E1 x).blk ≠ p := by
  have hk : known σ E p = false := by
    cases hkn : known σ E p with
    | false => rfl
    | true => obtain ⟨x, ob, hx, he⟩ := known_true.mp hkn; exact absurd he (hf x ob hx)
  refine ⟨h1.frame p hp hk, fun x o hx he => ?_⟩
  have := (h1.own x _ hx).2
  rw [he, hk] at this
  simp at this
  omega

/-! What takes a new block of cells, and does nothing else. -/
structure New where
  cs : List Value
  esz : Nat
  row : Bool
  len : Nat
def New.cap (n : New) : Nat := match n.row with
  | true => n.len
  | false => 0
def New.val (n : New) (id : Nat) : Value := match n.row with
  | true => rowOf id n.len
  | false => ptrTo id
def New.real (n : New) (p : Nat) : Value := match n.row with
  | true => .slice (some ⟨p, 0, none⟩) n.len n.len
  | false => .pointer (some ⟨p, 0, none⟩)
theorem New.ren_val (n : New) (id p : Nat) : ren (upd E id ⟨p, 0, n.cap⟩) (n.val id) = n.real p := by
  unfold New.val New.real New.cap
  cases n.row
  · exact ren_ptrTo _ _ _
  · exact ren_rowOf _ _ _ _
def newOf (P : Program) (tm : List Value) (o : Oper) : Option New :=
  match o.guard with
  | some _ => none
  | none => match o.op with
    | .alloc t => match zeroT P t with
      | some z => match oneCells z with
        | true => some ⟨z, 1, false, 0⟩
        | false => none
      | none => none
    | .box _ x => match evalO tm x with
      | some v => match oneCells v.cells.toList with
        | true => some ⟨v.cells.toList, 1, false, 0⟩
        | false => none
      | none => none
    | .buildSlice t len parts => match evalP tm parts.toList, sliceT P t with
      | some ps, some e => match szT P e, zeroT P e with
        | some sz, some z => match Nat.ble (len * sz) 16777216, fillL (fun i => some (i * sz, sz)) (zrow z (len * sz)) ps with
          | true, some r => match oneCells r with
            | true => some ⟨r, sz, true, len⟩
            | false => none
          | _, _ => none
        | _, _ => none
      | _, _ => none
    | _ => none
theorem newOf_sound {tm : List Value} (ht : Good σ.next E tm) {o : Oper} {n : New} (h : newOf P tm o = some n) :
    o.guard = none ∧ (∀ v ∈ n.cs, ok σ.next E v ∧ v.oneCell' = true) ∧ max n.cs.length (n.cap * n.esz) ≤ n.cs.length ∧
    ∃ el, ∀ w, (execOp (act E tm).eval o).run P w = .ok (.value (n.real w.heap.size)) { w with heap := w.heap.push (.cells (n.cs.map (ren E)).toArray el (0, 0)) } := by
  unfold newOf at h
  split at h
  · cases h
  · rename_i hg
    refine ⟨hg, ?_⟩
    split at h
    · rename_i t hop
      split at h
      · rename_i z hz
        split at h
        · rename_i h1
          cases h
          have hpz := (run_zero hz default).choose_spec.2.2
          refine ⟨fun v hv => ⟨ok_of_plainL _ _ hpz v hv, oneCells_spec h1 v hv⟩, by simp [New.cap], t, fun w => ?_⟩
          obtain ⟨zv, e1, e2, e3⟩ := run_zero hz w
          simp [execOp, hop, Instr.alloc, e1, newVar, newRow, e2, map_plain E e3, New.real]
        · cases h
      · cases h
    · rename_i t x hop
      split at h
      · rename_i v hv
        split at h
        · rename_i h1
          cases h
          have h2 := eval_sound ht hv
          refine ⟨fun u hu => ⟨ok_cells h2.2 u hu, oneCells_spec h1 u hu⟩, by simp [New.cap], t, fun w => ?_⟩
          have e : (ren E v).cells = (v.cells.toList.map (ren E)).toArray := by rw [← ren_cells]
          simp only [execOp, hop, h2.1, Instr.box, Sem.run_bind, newVar, newRow, run_newObj, Result.andThen_ok, Sem.run_pure, e, New.real]
        · cases h
      · cases h
    · rename_i t len parts hop
      split at h
      · rename_i ps e hps he
        split at h
        · rename_i sz z hsz hz
          split at h
          · rename_i r hle hr'
            split at h
            · rename_i h1
              cases h
              have hu := sliceT_spec he
              have hpz := (run_zero hz default).choose_spec.2.2
              have hp1 := evalP_sound ht hps
              have hpl := zrow_plain hpz (len * sz)
              have hf := fill_sound (N := σ.next) (E := E) _ _ _ _ hr'
              rw [map_plain E hpl] at hf
              have hlen : r.length = len * sz := by rw [hf.2.1]; simp [zrow]
              refine ⟨fun v hv => ⟨hf.2.2 (ok_of_plainL _ _ hpl) hp1.2 v hv, oneCells_spec h1 v hv⟩, by simp [New.cap, hlen], e, fun w => ?_⟩
              obtain ⟨zv, z1, z2, z3⟩ := run_zero hz w
              have hle' : ¬ (len * sz > 2 ^ 24) := by have := Nat.le_of_ble_eq_true hle; omega
              have ep : parts.map (fun x => (x.1, (act E tm).eval x.2)) = (ps.map fun x => (x.1, ren E x.2)).toArray := by apply Array.ext'; rw [Array.toList_map, hp1.1]
              have hrun : (Instr.buildSlice t len (ps.map fun x => (x.1, ren E x.2)).toArray).run P w =
                  .ok (.slice (some ⟨w.heap.size, 0, none⟩) len len) { w with heap := w.heap.push (.cells (r.map (ren E)).toArray e (0, 0)) } := by
                unfold Instr.buildSlice
                simp only [Sem.run_bind, run_underlying hu, Result.andThen_ok, run_sizeOf hsz, if_neg hle']
                by_cases h0 : len * sz = 0
                · simp only [h0, if_true, Sem.run_bind, Sem.run_pure, Result.andThen_ok]
                  have e0 : (Array.map (fun x => (#[] : Array Value)[x % (#[] : Array Value).size]!) (Array.range 0)) = (zrow z (len * sz)).toArray := by simp [zrow, h0]
                  rw [e0, hf.1]
                  simp [newRow]
                · simp only [h0, if_false, Sem.run_bind, z1, Result.andThen_ok, Sem.run_pure, z2]
                  rw [zrow_eq, hf.1]
                  simp [newRow]
              simp only [execOp, hop]
              rw [ep, Sem.run_bind, hrun]
              rfl
            · cases h
          · cases h
        · cases h
      · cases h
    · cases h
end
end Go.Ev
