/- The program's state and the document's, side by side. -/
import Derived.Test.YtholgmcfgnifdaaKvRef8
namespace Go.Proofs.Ytholgmcfgnifdaa
open Go.RowKit Go.Maps
/-- The document's state in the variable B; nothing of it lies where P holds. -/
def DocAt (w : World) (B : Nat) (P : Nat → Prop) (S : KSt) (vr : Value) : Prop :=
  ¬ P B ∧ w.heap[B]? = some (stO S.rev vr) ∧ SeesI w vr S.L ∧ ∀ d, vr.ownBlock = some d → d ≠ B ∧ ¬ P d ∧ d < w.heap.size
theorem DocAt.below {w w' : World} {B : Nat} {P : Nat → Prop} {S : KSt} {vr : Value} (h : DocAt w B P S vr) (hb : Below w.heap.size w w') : DocAt w' B P S vr :=
  ⟨h.1, (hb.block B (heap_lt h.2.1)).trans h.2.1, h.2.2.1.below hb, fun d hd => ⟨(h.2.2.2 d hd).1, (h.2.2.2 d hd).2.1, Nat.lt_of_lt_of_le (h.2.2.2 d hd).2.2 hb.size⟩⟩
theorem DocAt.step {w w' : World} {B : Nat} {P P' : Nat → Prop} {S : KSt} {vr : Value} (h : DocAt w B P S vr) (hk : ∀ k, k < w.heap.size → ¬ P k → w'.heap[k]? = w.heap[k]?) (hz : w.heap.size ≤ w'.heap.size) (hP : ∀ i, P' i → P i ∨ w.heap.size ≤ i) : DocAt w' B P' S vr := by
  have hB := heap_lt h.2.1
  have hn : ∀ i, i < w.heap.size → ¬ P i → ¬ P' i := fun i hi hp hp' => (hP i hp').elim hp (fun h => by omega)
  exact ⟨hn B hB h.1, (hk B hB h.1).trans h.2.1, h.2.2.1.keep (fun d hd hl => hk d hl (h.2.2.2 d hd).2.1), fun d hd => ⟨(h.2.2.2 d hd).1, hn d (h.2.2.2 d hd).2.2 (h.2.2.2 d hd).2.1, Nat.lt_of_lt_of_le (h.2.2.2 d hd).2.2 hz⟩⟩
theorem DocAt.put {w w' : World} {B : Nat} {P : Nat → Prop} {S S' : KSt} {vr vs : Value} (h : DocAt w B P S vr) (hb : Below w.heap.size w w') (hs : SeesI w' vs S'.L) (hd : ∀ d, vs.ownBlock = some d → vr.ownBlock = some d ∨ w.heap.size ≤ d ∧ d < w'.heap.size) (hP : ∀ i, P i → i < w.heap.size) : DocAt (put2 w' B (.int .i64 S'.rev) vs) B P S' vs := by
  have hB := heap_lt h.2.1
  have hB' := (hb.block B hB).trans h.2.1
  have hown : ∀ d, vs.ownBlock = some d → d ≠ B ∧ ¬ P d ∧ d < w'.heap.size := fun d hd' => by
    rcases hd d hd' with h1 | ⟨h1, h2⟩
    · exact ⟨(h.2.2.2 d h1).1, (h.2.2.2 d h1).2.1, Nat.lt_of_lt_of_le (h.2.2.2 d h1).2.2 hb.size⟩
    · exact ⟨by omega, fun hp => by have := hP d hp; omega, h2⟩
  refine ⟨h.1, put2_at hB' _ _, hs.keep (fun d hd' _ => put2_ne (hown d hd').1 _ _), fun d hd' => ⟨(hown d hd').1, (hown d hd').2.1, ?_⟩⟩
  have : (put2 w' B (.int .i64 S'.rev) vs).heap.size = w'.heap.size := by simp [put2, World.setCell]
  rw [this]
  exact (hown d hd').2.2
theorem KvW.put2 {w0 w : World} {g B : Nat} {P : Nat → Prop} {S : KSt} (h : KvW w0 w g P S) (hB : ¬ P B) (hw : w0.heap.size ≤ B) (x y : Value) : KvW w0 (put2 w B x y) g P S := by
  refine ⟨(h.1.keep (touch_set w B 0 x) (fun i hi e => hB (by rw [← e]; exact hi))).keep (touch_set _ B 1 y) (fun i hi e => hB (by rw [← e]; exact hi)), h.2.1, put2_below h.2.2 hw x y⟩
theorem DocAt.start {w : World} {B : Nat} {P : Nat → Prop} (hB : ¬ P B) (h : w.heap[B]? = some (stO 0 (.slice none 0 0))) : DocAt w B P ⟨0, []⟩ (.slice none 0 0) :=
  ⟨hB, h, ⟨none, 0, rfl, Nat.le_refl _, fun _ => rfl, fun a h => by cases h⟩, fun d hd => by cases hd⟩
theorem sees_slice {w : World} {v : Value} {L : List KEnt} (h : SeesI w v L) : ∃ ao n c, v = .slice ao n c := by
  obtain ⟨ao, c, e, _⟩ := h
  exact ⟨ao, _, c, e⟩
theorem ours_ok {o : KOp} (h : Op9Ok o) : Op9Ok (ours o) := ⟨Nat.le_trans (cutB_le _ _) (by decide), Nat.le_trans (cutB_le _ _) (by decide), h.2.2⟩
end Go.Proofs.Ytholgmcfgnifdaa
