/- An evaluator for runs without inputs: closed runs as contracts; what a run leaves in known blocks. -/
import Derived.Test.YtkldglhihfjclaaGreatDoorEvXd
namespace Go.Ev
noncomputable section
variable {P : Program} {K : Nat → Bool} {w0 w w' : World} {σ σ1 : St} {E E1 : Env}

theorem close_run {G : Nat → Option Obj} {X : CallT} (hX : CallOk P G X) (hm : P.follows .mixedOrders = true) {L m f : Nat} {args : List Value} {v : Value} {l : List Ent}
    (h : closeB P X L m f args v l = true) (hv : plain v = true) (w : World) (hG : Held G (fun _ => false) w) :
    Calls P f args.toArray w fun e w' => e = .returned v ∧ RowKit.Below w.heap.size w w' := by
  unfold closeB at h
  split at h
  · rename_i u σ1 hrun
    simp only [Bool.and_eq_true] at h
    obtain ⟨⟨hu, hj⟩, hp⟩ := h
    have hu := veq_eq _ _ hu
    subst hu
    let E0 : Env := fun _ => ⟨0, 0, 0⟩
    have := evCall_sound hX hm L m _ _ _ _ _ hrun _ w hG E0 w (rel_none w E0) (ok_of_plainL _ _ hp)
    rw [map_plain E0 hp] at this
    refine this.mono ?_
    rintro e w' ⟨E', rfl, e1, e2, e3, e4⟩
    refine ⟨?_, e1.join_below⟩
    rw [ren_re, ren_plain _ v hv]
  · cases h
/-- One block that stands as it is. -/
def gOne (g : Nat) (o : Obj) : Nat → Option Obj := fun r => match Nat.beq r g with
  | true => some o
  | false => none
theorem gOne_self (g : Nat) (o : Obj) : gOne g o g = some o := by unfold gOne; rw [Nat.beq_refl]
theorem gOne_held {g : Nat} {o : Obj} (h : w.heap[g]? = some o) (hK : K g = false) : Held (gOne g o) K w := by
  intro r o' hr
  unfold gOne at hr
  split at hr
  · rename_i hb
    have := Nat.eq_of_beq_eq_true hb
    subst this
    cases hr
    exact ⟨hK, h⟩
  · cases hr
def objIs (σ : St) (i : Nat) (cs : List Value) : Bool := match σ.get i with
  | some (.cells cs' _ _ _) => veqL cs' cs
  | _ => false
theorem objIs_spec {i : Nat} {cs : List Value} (h : objIs σ i cs = true) : ∃ e g s, σ.get i = some (.cells cs e g s) := by
  unfold objIs at h
  split at h
  · rename_i cs' e g s hg
    rw [veqL_eq _ _ h] at hg
    exact ⟨e, g, s, hg⟩
  · cases h
def okRun (o : Option (Value × St)) (f : Value → St → Bool) : Bool := match o with
  | some (v, σ) => f v σ
  | none => false
theorem okRun_spec {o : Option (Value × St)} {f : Value → St → Bool} (h : okRun o f = true) : ∃ v σ, o = some (v, σ) ∧ f v σ = true := by
  unfold okRun at h
  split at h
  · rename_i v σ; exact ⟨v, σ, rfl, h⟩
  · cases h
end
end Go.Ev
