import Derived.Test.YtkldglhihfjclaaGreatDoorEvV
namespace Go.Ev
noncomputable section
variable {P : Program} {K : Nat → Bool} {w0 w : World} {σ : St} {E : Env}

def NoPanic (Q : Exit → Act → World → Prop) : Prop := ∀ c a w, ¬ Q (.panic c) a w
def dstOf (ops : Array Oper) (g : Nat) : Option Tmp := (ops[g]?).bind (·.dst)
def putsG (ops : Array Oper) : List Nat → List Value → Act → Act
  | g :: gs, v :: vs, a => putsG ops gs vs (a.put (dstOf ops g) v)
  | _, _, a => a
theorem putsG_snoc (ops : Array Oper) : ∀ (gs : List Nat) (vs : List Value) (a : Act) (g : Nat) (v : Value), gs.length = vs.length → putsG ops (gs ++ [g]) (vs ++ [v]) a = (putsG ops gs vs a).put (dstOf ops g) v
  | [], [], _, _, _, _ => rfl
  | g' :: gs, v' :: vs, a, g, v, h => putsG_snoc ops gs vs _ g v (by simpa using h)
  | [], _ :: _, _, _, _, h => by simp at h
  | _ :: _, [], _, _, _, h => by simp at h
def apartAll (ops : Array Oper) (gs : List Nat) (i : Nat) : Bool := gs.all fun g => match ops[g]?, ops[i]? with
  | some og, some oi => og.apart ops oi
  | _, _ => false
theorem apartAll_cons {ops : Array Oper} {g i : Nat} {gs : List Nat} {oi : Oper} (hi : ops[i]? = some oi) (h : apartAll ops (g :: gs) i = true) : (∃ og, ops[g]? = some og ∧ og.apart ops oi = true) ∧ apartAll ops gs i = true := by
  unfold apartAll at h
  simp only [List.all_cons, Bool.and_eq_true] at h
  refine ⟨?_, h.2⟩
  have h1 := h.1
  rw [hi] at h1
  split at h1
  · rename_i og oi' hg he; cases he; exact ⟨og, hg, h1⟩
  · cases h1

variable {ops : Array Oper}
theorem putsG_same (hsel : Region.noSelect ops = true) {i : Nat} {oi : Oper} (hi : ops[i]? = some oi) : ∀ (gs : List Nat) (vs : List Value) (a : Act), apartAll ops gs i = true →
    execOp (putsG ops gs vs a).eval oi = execOp a.eval oi ∧ Region.wanted oi (yielded ops (putsG ops gs vs a).tmps) = Region.wanted oi (yielded ops a.tmps) ∧
    (∀ v, (putsG ops gs vs a).put oi.dst v = putsG ops gs vs (a.put oi.dst v))
  | [], _, a, _ => ⟨rfl, rfl, fun _ => rfl⟩
  | _ :: _, [], a, _ => ⟨rfl, rfl, fun _ => rfl⟩
  | g :: gs, v :: vs, a, h => by
    obtain ⟨⟨og, hg, hap⟩, h2⟩ := apartAll_cons hi h
    obtain ⟨a1, a2, a3⟩ := Oper.apart_spec hap
    have hd : dstOf ops g = og.dst := by simp [dstOf, hg]
    obtain ⟨i1, i2, i3⟩ := putsG_same hsel hi gs vs (a.put (dstOf ops g) v) h2
    have hs := Region.noSelect_spec hsel
    refine ⟨?_, ?_, fun u => ?_⟩
    · show execOp (putsG ops gs vs (a.put (dstOf ops g) v)).eval oi = _
      rw [i1, hd]; exact execOp_put oi (fun cs b => hs i oi cs b hi) a og.dst v a1
    · show Region.wanted oi (yielded ops (putsG ops gs vs (a.put (dstOf ops g) v)).tmps) = _
      rw [i2, hd]; exact wanted_put oi a og.dst v a1
    · show (putsG ops gs vs (a.put (dstOf ops g) v)).put oi.dst u = putsG ops gs vs ((a.put oi.dst u).put (dstOf ops g) v)
      rw [i3 u, hd, Act.put_comm a v u a2]

theorem putsG_defers (d : Deferred) : ∀ (gs : List Nat) (vs : List Value) (a : Act), ({ putsG ops gs vs a with defers := d :: (putsG ops gs vs a).defers } : Act) = putsG ops gs vs { a with defers := d :: a.defers }
  | [], _, _ => rfl
  | _ :: _, [], _ => rfl
  | g :: gs, v :: vs, a => by
    show ({ putsG ops gs vs (a.put (dstOf ops g) v) with defers := d :: (putsG ops gs vs (a.put (dstOf ops g) v)).defers } : Act) = putsG ops gs vs (({ a with defers := d :: a.defers } : Act).put (dstOf ops g) v)
    rw [putsG_defers d gs vs, Act.put_defers]

theorem wpOp_putsG (hsel : Region.noSelect ops = true) {Q : Exit → Act → World → Prop} (hQ : NoPanic Q) {i : Nat} {oi : Oper} (hi : ops[i]? = some oi) {gs : List Nat} {vs : List Value} (hap : apartAll ops gs i = true)
    {a : Act} {w : World} {next : Act → World → Prop} (h : wpOp P ops Q i (fun a' w' => next (putsG ops gs vs a') w') a w) : wpOp P ops Q i next (putsG ops gs vs a) w := by
  obtain ⟨h1, h2, h3⟩ := putsG_same hsel hi gs vs a hap
  unfold wpOp at *
  simp only [hi] at h ⊢
  rw [h2]
  split
  · rename_i hw
    simp only [hw, if_true] at h
    rcases h with h | ⟨hasks, hlets⟩
    case inr => exact .inr ⟨by unfold Oper.asks at *; rw [h1]; exact hasks, hlets⟩
    refine .inl ?_
    unfold Oper.wp at *
    rw [h1]
    generalize (execOp a.eval oi).run P w = r at *
    cases r with
    | ok n w' =>
      cases n <;> simp only [Oper.upon] at h ⊢
      case value u => rw [h3 u]; exact h
      case skip => rw [h3 undef]; exact h
      case defer d =>
        rw [putsG_defers]
        rw [(putsG_same hsel hi gs vs { a with defers := d :: a.defers } hap).2.2 undef]
        exact h
      case enter f args =>
        refine Calls.mono h fun e w'' he => ?_
        cases e with
        | returned u => simp only [] at he ⊢; rw [h3 u]; exact he
        | panicked c => exact absurd he (hQ _ _ _)
        | outgrown => exact he
      case row row args => exact Rows.mono h fun u w'' he => by rw [h3 u]; exact he
    | halt x w' =>
      cases x <;> simp only [Oper.upon] at h ⊢
      case panic u => exact absurd h (hQ _ _ _)
  · rename_i hw
    simp only [hw] at h
    rw [h3 undef]
    exact h
end
end Go.Ev
