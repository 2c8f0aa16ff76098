/- A state and the document's, asked the same, while others stay. -/
import Derived.Test.YtogcjginifcbpaaKvTwo
namespace Go.Proofs.Ytogcjginifcbpaa
open Go.RowKit Go.Maps
/-- These blocks are what they were in WF, and are not of those that turn. -/
def FrameOk (F : Nat → Prop) (WF : World) (B : Nat) (P : Nat → Prop) (wr : World) : Prop := WF.heap.size ≤ wr.heap.size ∧ ∀ k, F k → ¬ P k ∧ k < WF.heap.size ∧ k ≠ B ∧ wr.heap[k]? = WF.heap[k]?
theorem FrameOk.none (w : World) (B : Nat) (P : Nat → Prop) : FrameOk (fun _ => False) w B P w := ⟨Nat.le_refl _, fun _ h => h.elim⟩
theorem FrameOk.below {F : Nat → Prop} {WF wr w' : World} {B : Nat} {P : Nat → Prop} (h : FrameOk F WF B P wr) (hb : Below wr.heap.size wr w') : FrameOk F WF B P w' :=
  ⟨Nat.le_trans h.1 hb.size, fun k hk => ⟨(h.2 k hk).1, (h.2 k hk).2.1, (h.2 k hk).2.2.1, (hb.block k (Nat.lt_of_lt_of_le (h.2 k hk).2.1 h.1)).trans (h.2 k hk).2.2.2⟩⟩
theorem FrameOk.step {F : Nat → Prop} {WF W6 w7 w8 : World} {B : Nat} {P P7 : Nat → Prop} (h : FrameOk F WF B P W6) (hk : ∀ k, k < W6.heap.size → ¬ P k → w7.heap[k]? = W6.heap[k]?) (hz : W6.heap.size ≤ w7.heap.size) (hP : ∀ i, P7 i → P i ∨ W6.heap.size ≤ i) (hb : Below w7.heap.size w7 w8) (x y : Value) : FrameOk F WF B P7 (put2 w8 B x y) := by
  have hs : (put2 w8 B x y).heap.size = w8.heap.size := by simp [put2, World.setCell]
  refine ⟨by rw [hs]; exact Nat.le_trans h.1 (Nat.le_trans hz hb.size), fun k hF => ?_⟩
  obtain ⟨h1, h2, h3, h4⟩ := h.2 k hF
  have hk6 : k < W6.heap.size := Nat.lt_of_lt_of_le h2 h.1
  refine ⟨fun hp => (hP k hp).elim h1 (fun h => by omega), h2, h3, ?_⟩
  rw [put2_ne h3, hb.block k (Nat.lt_of_lt_of_le hk6 hz), hk k hk6 h1, h4]
theorem KvAt.same {w w' : World} {g : Nat} {P : Nat → Prop} {S : KSt} (h : KvAt w g P S) (hq : ∀ i, P i → w'.heap[i]? = w.heap[i]?) (hz : w.heap.size ≤ w'.heap.size) : KvAt w' g P S := by
  obtain ⟨mb, h1, h2, h3, h4, h5⟩ := h
  exact ⟨mb, (hq g h4).trans h1, fun b e => ⟨(h2 b e).1.heap (hq b (h2 b e).2), (h2 b e).2⟩, h3, h4, fun i hi => Nat.lt_of_lt_of_le (h5 i hi) hz⟩
theorem DocAt.same {w w' : World} {B : Nat} {P : Nat → Prop} {S : KSt} {vr : Value} (h : DocAt w B P S vr) (hB : w'.heap[B]? = w.heap[B]?) (hv : ∀ d, vr.ownBlock = some d → w'.heap[d]? = w.heap[d]?) (hz : w.heap.size ≤ w'.heap.size) : DocAt w' B P S vr :=
  ⟨h.1, hB.trans h.2.1, h.2.2.1.keep (fun d hd _ => hv d hd), fun d hd => ⟨(h.2.2.2 d hd).1, (h.2.2.2 d hd).2.1, Nat.lt_of_lt_of_le (h.2.2.2 d hd).2.2 hz⟩⟩
/-- What is true of each item of a state that operations with short values have made. -/
def KGood (S : KSt) : Prop := ∀ p ∈ S.L, mayK ⟨p.1.toArray⟩ = true ∧ p.2.1.size ≤ 100 ∧ 1 ≤ p.2.2
theorem KGood.zero : KGood ⟨0, []⟩ := fun p hp => by cases hp
theorem doK_good {S : KSt} (h : KGood S) (h0 : 0 ≤ S.rev) (o : KOp) (hv : o.val.size ≤ 100) : KGood (doK S o).2 := by
  unfold doK
  by_cases hw : (planK S o).2.2 = true
  · rw [if_pos hw]
    obtain ⟨hk, hm⟩ := plan_may hw
    obtain ⟨he, -⟩ := plan_write hw
    rw [he] at hm hk ⊢
    have hmk : mayK (effOf o (S.rev + 1)).key = true := by
      unfold mayA at hm
      rw [Bool.and_eq_true] at hm
      exact hm.1
    have hval : (effOf o (S.rev + 1)).val.size ≤ 100 := by
      unfold effOf
      split
      · show (emp : ByteArray).size ≤ 100; decide
      · exact hv
    have hrev : (effOf o (S.rev + 1)).rev = S.rev + 1 := effOf_rev o _
    intro p hp
    unfold applyK at hp
    split at hp
    · exact h p (List.mem_filter.1 hp).1
    · have hp' : p ∈ putE (kl (effOf o (S.rev + 1)).key) ((effOf o (S.rev + 1)).val, (effOf o (S.rev + 1)).rev) S.L := hp
      unfold putE at hp'
      rcases mem_insE.1 hp' with rfl | hp'
      · refine ⟨?_, hval, ?_⟩
        · show mayK ⟨(kl (effOf o (S.rev + 1)).key).toArray⟩ = true
          rw [kl_str]
          exact hmk
        · show 1 ≤ (effOf o (S.rev + 1)).rev
          rw [hrev]
          omega
      · exact h p (List.mem_filter.1 hp').1
  · rw [if_neg hw]
    exact h
theorem standB_of {R : Int} : ∀ {a : List UInt8} {L : List KEnt}, Rising L → (∀ p ∈ L, bytesBefore a p.1 = true) → (∀ p ∈ L, mayK ⟨p.1.toArray⟩ = true ∧ mayV p.2.1 = true ∧ 1 ≤ p.2.2 ∧ p.2.2 ≤ R) → standB R a L = true
  | _, [], _, _, _ => rfl
  | a, p :: L, hr, ha, hp => by
    obtain ⟨h1, h2⟩ := List.pairwise_cons.1 hr
    rw [standB, Bool.and_eq_true]
    obtain ⟨q1, q2, q3, q4⟩ := hp p (by simp)
    refine ⟨?_, standB_of h2 h1 (fun q hq => hp q (by simp [hq]))⟩
    unfold itOkB
    rw [q1, q2, ha p (by simp), decide_eq_true q3, decide_eq_true q4]
    rfl
theorem KGood.of {S : KSt} {n : Nat} (h : KGood S) (hi : KInv S n) : ofB S.rev S.L = true := by
  unfold ofB
  rw [Bool.and_eq_true, decide_eq_true_eq]
  refine ⟨hi.2.1, standB_of hi.1 (fun p hp => ?_) (fun p hp => ⟨(h p hp).1, decide_eq_true (by have := (h p hp).2.1; omega), (h p hp).2.2, hi.2.2.2.2 p hp⟩)⟩
  have h1 := (h p hp).1
  unfold mayK at h1
  simp [ByteArray.size] at h1
  cases hq : p.1 with
  | nil => rw [hq] at h1; simp at h1
  | cons b r => rfl
end Go.Proofs.Ytogcjginifcbpaa
