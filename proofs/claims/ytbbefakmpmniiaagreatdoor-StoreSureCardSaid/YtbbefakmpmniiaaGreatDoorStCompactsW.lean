/- The walk of StoreCompacts. -/
import Derived.Test.YtbbefakmpmniiaaGreatDoorSt16
import Derived.Test.YtbbefakmpmniiaaGreatDoorStOpensW
namespace Go.Proofs.YtbbefakmpmniiaaGreatDoor
open Go.RowKit Go.Maps
open KV (bcell bdrew)
/-- What Open leaves, where what it comes to is known. -/
theorem opens_of {w w' : World} {g N n : Nat} {P : Nat → Prop} {D : DSt} {ev : Int} {e : Ending} {S : KV.KSt} (h : OpensS w g P N D ev e w') (hop : opS D = (0, S))
    (hg : ∀ m x D', AllIs (recsOf (readD D nLog.data.toList).1) (readD D nLog.data.toList).1 m x → settleD D nLog.data.toList (readD D nLog.data.toList).1.length m = (0, D') → GoodS n false ⟨D', m, false⟩ S) :
    ∃ P' s k l Pk T, e = .returned (.tuple #[ptr s, .int .i64 0]) ∧ SAll w' s g l k P' Pk T S (max ev 1) 0 false ∧ GoodS n false T S ∧ Step P P' w w' ∧ (∀ i, Pk i → w.heap.size ≤ i) ∧ w.heap.size ≤ l ∧ w.heap.size ≤ s := by
  obtain ⟨P', D', hD, hS, hop', hF, hset, -, hyes⟩ := h
  have hz : (ldS D).1 = 0 := by
    by_cases hz : (ldS D).1 = 0
    · exact hz
    · unfold opS at hop
      rw [if_neg hz] at hop
      exact (Prod.mk.inj hop).1
  obtain ⟨m, x, ha, hs⟩ := hset hz
  obtain ⟨s, k, l, Pk, n', x', he, ha', hA, h1, h2, h3⟩ := hyes (by rw [hop])
  obtain ⟨-, rfl, -⟩ := AllIs.same _ _ _ _ _ _ _ ha ha'
  rw [hop] at hA
  exact ⟨P', s, k, l, Pk, _, he, hA, hg m x D' ha hs, hS, h1, h2, h3⟩
theorem good0 : GoodS 0 false ⟨⟨[], false, false, 0⟩, 0, false⟩ ⟨0, []⟩ :=
  ⟨rfl, rfl, rfl, KvG.zero, [], ⟨⟨0, []⟩, none, none, none, rfl, Or.inl ⟨rfl, rfl⟩, Or.inl ⟨rfl, rfl⟩, SpareOk.none, by rw [replayS], (fun p hp => by cases hp), Nat.le_refl _, fun p hp => by cases hp⟩, rfl⟩
theorem GoodS.free {n : Nat} {T : WSt} {S : KV.KSt} (h : GoodS n false T S) (hn : n ≤ 100) : DFree 3 T.D := ⟨h.2.1, h.2.2.1, (h.small hn).1, fun f hf => by have := (h.small hn).2.1 f hf; omega⟩
end Go.Proofs.YtbbefakmpmniiaaGreatDoor
