/- An evaluator for runs without inputs: calls that are known by a contract. -/
import Derived.Below
import Derived.Test.YtkldglhihfjclaaGreatDoorEvU
namespace Go.Ev
noncomputable section
variable {P : Program} {K : Nat → Bool} {w0 w : World} {σ : St} {E : Env}

/-- What has only grown above. -/
theorem Rel.below (h : Rel K w0 σ E w) {w' : World} (hb : RowKit.Below w.heap.size w w') : Rel K w0 σ E w' := by
  have own := h.own
  have at' : ∀ b ob, σ.get b = some ob → w'.heap[(E b).blk]? = w.heap[(E b).blk]? := fun b ob hq => hb.block _ (own b _ hq).1
  constructor
  · exact h.lim
  · intro b cs e g s hq j v hv
    rw [hb.cell (own b _ hq).1]
    exact h.cell b _ _ _ _ hq j v hv
  · exact h.good
  · intro b cs e g s hq j hj
    rw [hb.cell (own b _ hq).1, hb.frozen (own b _ hq).1]
    exact h.there b _ _ _ _ hq j hj
  · exact h.kin
  · exact h.fam
  · intro b ks vs bo cl hq; rw [at' b _ hq]; exact h.obj b _ _ _ _ hq
  · intro b s p hq; rw [at' b _ hq]; exact h.itr b _ _ hq
  · exact h.apart
  · intro b ob hq
    have := own b _ hq
    have := hb.size
    exact ⟨by omega, (own b _ hq).2⟩
  · have := h.size; have := hb.size; omega
  · intro r hr hk
    have := h.size
    rw [hb.block r (by omega)]
    exact h.frame r hr hk
  · intro b cs e g s hq
    rw [at' b _ hq]; exact h.fro b _ _ _ _ hq
  · exact ⟨hb.os.trans h.calm.1, hb.tape.trans h.calm.2.1, hb.output.trans h.calm.2.2⟩

/-- The first of one sign by another one. -/
def replN (a b : UInt8) (l : List UInt8) : List UInt8 := List.rec (motive := fun _ => List UInt8) [] (fun c r ih => match Nat.beq c.toNat a.toNat with
  | true => b :: r
  | false => c :: ih) l
theorem replN_nil (a b : UInt8) : replN a b [] = [] := rfl
theorem replN_cons (a b c : UInt8) (l : List UInt8) : replN a b (c :: l) = if c = a then b :: l else c :: replN a b l := by
  show (match Nat.beq c.toNat a.toNat with
    | true => b :: l
    | false => c :: replN a b l) = _
  by_cases h : c = a
  · subst h
    rw [Nat.beq_refl, if_pos rfl]
  · have : Nat.beq c.toNat a.toNat = false := by
      cases hq : Nat.beq c.toNat a.toNat with
      | false => rfl
      | true => exact absurd (UInt8.toNat_inj.mp (Nat.eq_of_beq_eq_true hq)) h
    rw [this, if_neg h]

/-- The first of one sign by another one in a short text: function f0. -/
def xOne (f0 : FuncId) : CallT := fun f args σ => match Nat.beq f f0 with
  | true => match args with
    | [.string s, .string ⟨⟨[x]⟩⟩, .string ⟨⟨[y]⟩⟩, .int .i64 1] => match Nat.ble s.size 1000, Nat.beq x.toNat y.toNat with
      | true, false => some (.string ⟨(replN x y s.data.toList).toArray⟩, σ)
      | _, _ => none
    | _ => none
  | false => none
/-- What is asked of it: where a cell stands. -/
def OneOk (P : Program) (f0 : FuncId) (g : Addr) : Prop := ∀ (s : ByteArray) (x y : UInt8) (m : Int) (w : World), s.size ≤ 1000 → x ≠ y → w.cell? g = some (.int .i64 m) →
  Calls P f0 #[.string s, .string ⟨#[x]⟩, .string ⟨#[y]⟩, .int .i64 1] w fun e w' => e = .returned (.string ⟨(replN x y s.data.toList).toArray⟩) ∧ RowKit.Below w.heap.size w w'
theorem xOne_sound {f0 : FuncId} {g : Addr} (hC : OneOk P f0 g) {G : Nat → Option Obj} {o : Obj} (hG : G g.block = some o) {m : Int} (hm : ∀ w : World, w.heap[g.block]? = some o → w.cell? g = some (.int .i64 m)) :
    CallOk P G (xOne f0) := by
  intro f args σ v σ' h K w0 hK E w hr ha
  unfold xOne at h
  split at h
  · rename_i hf
    have hf := Nat.eq_of_beq_eq_true hf
    subst hf
    split at h
    · rename_i s x y
      split at h
      · rename_i h1 h2
        cases h
        have h1 := Nat.le_of_ble_eq_true h1
        have hne : x ≠ y := by
          intro e
          subst e
          rw [Nat.beq_refl] at h2
          cases h2
        refine (hC s x y m w h1 hne (hm w (held_now hK hr hG))).mono ?_
        rintro e w' ⟨rfl, hb⟩
        exact ⟨E, by simp [ren], hr.below hb, Ext.refl _ _, by simp [ok], Nat.le_refl _⟩
      · cases h
    · cases h
  · cases h
end
end Go.Ev
