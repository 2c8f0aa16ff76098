/- What is true of each item of a state that operations with short values have made. -/
import Derived.Test.YtbbefakmpmniiaaGreatDoorSKw
namespace Go.Proofs.YtbbefakmpmniiaaGreatDoor.KV
open Go.RowKit Go.Maps
/-- What is true of each item of a state that operations with short values have made. -/
def KGood (S : KSt) : Prop := ∀ p ∈ S.L, mayK ⟨p.1.toArray⟩ = true ∧ p.2.1.size ≤ 100 ∧ 1 ≤ p.2.2
theorem KGood.zero : KGood ⟨0, []⟩ := fun p hp => by cases hp
theorem doK_good {S : KSt} (h : KGood S) (h0 : 0 ≤ S.rev) (o : KOp) (hv : o.val.size ≤ 100) : KGood (doK S o).2 := by
  unfold doK
  by_cases hw : (planK S o).2.2 = true
  · rw [if_pos hw]
    obtain ⟨hk, hm⟩ := plan_may hw
    obtain ⟨he, -⟩ := plan_write hw
    rw [he] at hm hk ⊢
    have hmk : mayK (effOf o (S.rev + 1)).key = true := by
      unfold mayA at hm
      rw [Bool.and_eq_true] at hm
      exact hm.1
    have hval : (effOf o (S.rev + 1)).val.size ≤ 100 := by
      unfold effOf
      split
      · show (emp : ByteArray).size ≤ 100; decide
      · exact hv
    have hrev : (effOf o (S.rev + 1)).rev = S.rev + 1 := effOf_rev o _
    intro p hp
    unfold applyK at hp
    split at hp
    · exact h p (List.mem_filter.1 hp).1
    · have hp' : p ∈ putE (kl (effOf o (S.rev + 1)).key) ((effOf o (S.rev + 1)).val, (effOf o (S.rev + 1)).rev) S.L := hp
      unfold putE at hp'
      rcases mem_insE.1 hp' with rfl | hp'
      · refine ⟨?_, hval, ?_⟩
        · show mayK ⟨(kl (effOf o (S.rev + 1)).key).toArray⟩ = true
          rw [kl_str]
          exact hmk
        · show 1 ≤ (effOf o (S.rev + 1)).rev
          rw [hrev]
          omega
      · exact h p (List.mem_filter.1 hp').1
  · rw [if_neg hw]
    exact h
theorem standB_of {R : Int} : ∀ {a : List UInt8} {L : List KEnt}, Rising L → (∀ p ∈ L, bytesBefore a p.1 = true) → (∀ p ∈ L, mayK ⟨p.1.toArray⟩ = true ∧ mayV p.2.1 = true ∧ 1 ≤ p.2.2 ∧ p.2.2 ≤ R) → standB R a L = true
  | _, [], _, _, _ => rfl
  | a, p :: L, hr, ha, hp => by
    obtain ⟨h1, h2⟩ := List.pairwise_cons.1 hr
    rw [standB, Bool.and_eq_true]
    obtain ⟨q1, q2, q3, q4⟩ := hp p (by simp)
    refine ⟨?_, standB_of h2 h1 (fun q hq => hp q (by simp [hq]))⟩
    unfold itOkB
    rw [q1, q2, ha p (by simp), decide_eq_true q3, decide_eq_true q4]
    rfl
theorem KGood.of {S : KSt} {n : Nat} (h : KGood S) (hi : KInv S n) : ofB S.rev S.L = true := by
  unfold ofB
  rw [Bool.and_eq_true, decide_eq_true_eq]
  refine ⟨hi.2.1, standB_of hi.1 (fun p hp => ?_) (fun p hp => ⟨(h p hp).1, decide_eq_true (by have := (h p hp).2.1; omega), (h p hp).2.2, hi.2.2.2.2 p hp⟩)⟩
  have h1 := (h p hp).1
  unfold mayK at h1
  simp [ByteArray.size] at h1
  cases hq : p.1 with
  | nil => rw [hq] at h1; simp at h1
  | cons b r => rfl
end Go.Proofs.YtbbefakmpmniiaaGreatDoor.KV
