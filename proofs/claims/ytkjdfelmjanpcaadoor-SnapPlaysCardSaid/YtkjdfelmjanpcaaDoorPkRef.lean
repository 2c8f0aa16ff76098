/- The reference's reader, alone in its block, and what its calls come to. -/
import Derived.Test.YtkjdfelmjanpcaaDoorPackPutsW
namespace Go.Proofs.YtkjdfelmjanpcaaDoor
open Go.RowKit
theorem sees_or {w w' : World} {v : Value} {xs : List Int} {B : Nat} (h : Sees w v xs) (hd : xs = [] ∨ ∀ d, v.ownBlock = some d → d < B) (hb : ∀ d, d < B → d < w.heap.size → w'.heap[d]? = w.heap[d]?) : Sees w' v xs := by
  rcases hd with rfl | hd
  · obtain ⟨ao, c, he, hl, _, _⟩ := h
    exact ⟨ao, c, he, hl, fun _ => rfl, fun a _ i hi => by cases hi⟩
  · exact sees_heap h fun d hd' hlt => hb d (hd d hd') hlt
theorem cell3 {w : World} {g : Nat} {x y z : Value} {t : TypeId} (h : w.heap[g]? = some (.cells #[x, y, z] t (0, 0))) : w.cell? ⟨g, 0, none⟩ = some x ∧ w.cell? ⟨g, 1, none⟩ = some y ∧ w.cell? ⟨g, 2, none⟩ = some z := by simp [World.cell?, h]
theorem froz3 {w : World} {g : Nat} {x y z : Value} {t : TypeId} (h : w.heap[g]? = some (.cells #[x, y, z] t (0, 0))) (i : Nat) : w.frozen? ⟨g, i, none⟩ = false := by simp [World.frozen?, h]
theorem set3_1 {w : World} {g : Nat} {x y z : Value} {t : TypeId} (h : w.heap[g]? = some (.cells #[x, y, z] t (0, 0))) (a : Value) : (w.setCell ⟨g, 1, none⟩ a).heap[g]? = some (.cells #[x, a, z] t (0, 0)) := by simp [World.setCell, Array.getElem?_modify, h]
theorem set3_2 {w : World} {g : Nat} {x y z : Value} {t : TypeId} (h : w.heap[g]? = some (.cells #[x, y, z] t (0, 0))) (a : Value) : (w.setCell ⟨g, 2, none⟩ a).heap[g]? = some (.cells #[x, y, a] t (0, 0)) := by simp [World.setCell, Array.getElem?_modify, h]
/-- A piece of bytes. -/
theorem sees_piece {w : World} {ao : Option Addr} {c : Nat} {xs : List Int} (h : Sees w (.slice ao xs.length c) xs) {i n : Nat} (hin : i + n ≤ xs.length) (ao' : Option Addr) (h' : ao' = ao.map (fun x => x.add i) ∨ c = i ∧ ao' = ao) :
    Sees w (.slice ao' n (c - i)) ((xs.drop i).take n) ∧ ∀ d, (Value.slice ao' n (c - i)).ownBlock = some d → (Value.slice ao xs.length c).ownBlock = some d := by
  obtain ⟨ao0, c0, he, hlc, hnil, hc⟩ := h
  cases he
  have e : ((xs.drop i).take n).length = n := by rw [List.length_take, List.length_drop]; omega
  refine ⟨⟨ao', c - i, by rw [e], by omega, fun h => ?_, fun a ha j hj => ?_⟩, fun d hd => ?_⟩
  · rcases h' with h' | ⟨h1, h'⟩
    · rw [h] at h'
      cases ao with
      | none => rw [hnil rfl]; simp
      | some a => cases h'
    · exact List.eq_nil_of_length_eq_zero (by omega)
  · rw [e] at hj
    rcases h' with h' | ⟨h1, h'⟩
    · cases ao with
      | none => rw [h'] at ha; cases ha
      | some b =>
        rw [h'] at ha
        cases ha
        rw [Addr.add_add, hc b rfl (i + j) (by omega)]
        simp [List.getD, List.getElem?_drop, hj]
    · omega
  · rcases h' with h' | ⟨h1, h'⟩
    · cases ao with
      | none => rw [h'] at hd; cases hd
      | some b =>
        rw [h'] at hd
        simp only [Option.map_some, Value.ownBlock, add_block] at hd ⊢
        exact hd
    · rw [h'] at hd
      cases ao with
      | none => cases hd
      | some b => exact hd
end Go.Proofs.YtkjdfelmjanpcaaDoor
