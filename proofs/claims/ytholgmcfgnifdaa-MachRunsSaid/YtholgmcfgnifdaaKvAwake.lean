/- A state that a law has made; the chapter's example (virgatelaw09.awake). -/
import Derived.Test.YtholgmcfgnifdaaKvDo
namespace Go.Proofs.Ytholgmcfgnifdaa
open Go.RowKit Go.Maps
/-- A state that the law has made since world w0. -/
def KvW (w0 w : World) (g : Nat) (P : Nat → Prop) (S : KSt) : Prop := KvAt w g P S ∧ (∀ i, P i → w0.heap.size ≤ i) ∧ Below w0.heap.size w0 w
theorem KvW.below {w0 w w' : World} {g : Nat} {P : Nat → Prop} {S : KSt} (h : KvW w0 w g P S) (hb : Below w.heap.size w w') : KvW w0 w' g P S := ⟨h.1.below hb, h.2.1, h.2.2.trans (hb.mono h.2.2.size)⟩
theorem KvAt.own {w : World} {g : Nat} {P : Nat → Prop} {S : KSt} (h : KvAt w g P S) : ∀ i, P i → i < w.heap.size := by
  obtain ⟨_, _, _, _, _, h7⟩ := h
  exact h7
theorem new_step (w0 w : World) (hb : Below w0.heap.size w0 w) : Calls Try.prog 15 #[] w fun e w' => ∃ g, e = .returned (ptr g) ∧ KvW w0 w' g (· = g) ⟨0, []⟩ ∧ Below w.heap.size w w' :=
  (new_kv w).mono fun e w' ⟨g, he, hk, hg, hb2⟩ => ⟨g, he, ⟨hk, fun i e => by rw [e]; exact Nat.le_trans hb.size hg, hb.trans (hb2.mono hb.size)⟩, hb2⟩
theorem do_step {w0 w : World} {g : Nat} {P : Nat → Prop} {S : KSt} (o : KOp) (h : KvW w0 w g P S) (hs : o.key.size ≤ maxLen) (hs2 : o.iff.size ≤ maxLen) (hr : Rising S.L) (hn : S.L.length ≤ 1000000) (hrv : 0 ≤ S.rev ∧ S.rev < 9223372036854775807) :
    Calls Try.prog 17 #[ptr g, opV o] w fun e w' => ∃ ao c P', e = .returned (kres (doK S o).1 (.slice ao (doK S o).1.its.length c)) ∧ RowI w' w.heap.size (.slice ao (doK S o).1.its.length c) (doK S o).1.its ∧ KvW w0 w' g P' (doK S o).2 ∧
      (∀ d, (Value.slice ao (doK S o).1.its.length c).ownBlock = some d → ¬ P' d) ∧ (∀ k, k < w.heap.size → ¬ P k → w'.heap[k]? = w.heap[k]?) ∧ w.heap.size ≤ w'.heap.size ∧ (∀ i, P' i → P i ∨ w.heap.size ≤ i) :=
  (do_any g P S o w h.1 hs hs2 hr hn hrv).mono fun e w' ⟨v, he, hrow, P', hk, hP, hnp, ht⟩ => by
    obtain ⟨ao, c, rfl, -⟩ := RowE.sees hrow
    have hz := h.2.2.size
    exact ⟨ao, c, P', he, hrow, ⟨hk, fun i hi => (hP i hi).elim (h.2.1 i) (fun h1 => by omega), h.2.2.trans (ht.below h.2.2.size h.2.1)⟩, hnp, ht.2.2.2.2, ht.2.2.2.1, hP⟩
abbrev strA : ByteArray := ⟨#[97]⟩
abbrev stA1 : KSt := ⟨1, [([97], (emp, 1))]⟩
abbrev stA2 : KSt := ⟨2, [([97], (emp, 2))]⟩
theorem do1 : doK ⟨0, []⟩ ⟨3, strA, emp, 0, emp, 0⟩ = (⟨0, 1, emp, []⟩, ⟨1, [([97], (emp, 1))]⟩) := by
  simp only [doK, planK, refuse, eq_empty]
  rfl
theorem do2 : doK ⟨1, [([97], (emp, 1))]⟩ ⟨4, strA, emp, 1, emp, 0⟩ = (⟨0, 2, emp, []⟩, ⟨2, [([97], (emp, 2))]⟩) := by
  simp only [doK, planK, refuse, eq_empty]
  rfl
theorem do3 : doK ⟨2, [([97], (emp, 2))]⟩ ⟨4, strA, emp, 1, emp, 0⟩ = (⟨8, 0, emp, []⟩, ⟨2, [([97], (emp, 2))]⟩) := by
  simp only [doK, planK, refuse, eq_empty]
  rfl
end Go.Proofs.Ytholgmcfgnifdaa
