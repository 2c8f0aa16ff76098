/- Any struct alone in its block: loads and stores of the whole. -/
import Derived.Test.YtlbgjmnihenmaaaGreatDoorBkH
import Derived.Test.YtlbgjmnihenmaaaGreatDoorVwB
namespace Go.Proofs.YtlbgjmnihenmaaaGreatDoor
open Go.RowKit
section
variable {w : World} {g n : Nat} {T : TypeId} {L L0 : List Value}
abbrev At (w : World) (g : Nat) (T : TypeId) (L : List Value) : Prop := w.heap[g]? = some (.cells L.toArray T (0, 0))
theorem At.whole (h : At w g T L) : w.rangeAt g 0 L := fun j v hv => by
  rw [Nat.zero_add]
  have h' : w.heap[g]? = some (.cells L.toArray T (0, 0)) := h
  simp only [World.cell?, h']
  rw [← hv]
  exact List.getElem?_toArray ..
theorem At.there (h : At w g T L) (hl : L.length = n) : w.there g 0 n := fun j hj => by
  have h' : w.heap[g]? = some (.cells L.toArray T (0, 0)) := h
  constructor
  · simp only [World.cell?, h']
    rw [Array.getElem?_eq_getElem (show 0 + j < L.toArray.size by simp; omega)]; rfl
  · simp [World.frozen?, h']
theorem At.sets (h : At w g T L0) (hl0 : L0.length = n) (hl : L.length = n) : At (w.setCells g 0 L) g T L ∧ w.grownBy (w.setCells g 0 L) (some g) := by
  obtain ⟨cur', h1, h2, h3, h4⟩ := setCells_row g T L 0 w _ h (by simp; omega)
  refine ⟨?_, h4⟩
  have e : cur' = L.toArray := by
    apply Array.toList_inj.1
    have h2 : cur'.size = L0.toArray.size := h2
    rw [Nat.zero_add, List.take_zero, List.nil_append, List.take_of_length_le (by rw [Array.length_toList, h2]; simp; omega)] at h3
    exact h3
  rw [e] at h1
  exact h1
theorem At.load (h : At w g T L) (hl : L.length = n) (hi : (Tryz.prog.info? T).map (·.size) = some n) {fs} (hT : Tryz.prog.underlying T = some (.struct fs)) : (loadVar T ⟨g, 0, none⟩).run Tryz.prog w = .ok (.agg L.toArray) w :=
  run_loadVar_mid w g 0 T L _ h.whole hT rfl (by rw [hi, hl])
section
variable {ops : Array Oper} {rest : List Oper} {o : Oper} {a : Act} {Q : Exit → Act → World → Prop}
theorem wpStG (hgd : o.guard = none) (x z : Operand) (ho : o.op = .store T x z) (hx : a.eval x = .pointer (some ⟨g, 0, none⟩)) (hy : a.eval z = .agg L.toArray)
    (h : At w g T L0) (hl0 : L0.length = n) (hl : L.length = n) (hi : (Tryz.prog.info? T).map (·.size) = some n) (h1 : ∀ v ∈ L, v.oneCell' = true)
    (hK : ∀ w', At w' g T L → w.grownBy w' (some g) → wpList Tryz.prog ops Q rest (a.put o.dst undef) w') : wpList Tryz.prog ops Q (o :: rest) a w := by
  have hs : L.toArray.size = n := by rw [List.size_toArray, hl]
  refine wpList_store_mid hgd T x z ho g 0 L.toArray hx hy (by rw [hs]; exact h.there hl0) (by rw [hs]; exact hi) (all_oneCell_toArray h1) ?_
  obtain ⟨k1, k2⟩ := At.sets (L := L) h hl0 hl
  exact hK _ k1 k2
end
end
end Go.Proofs.YtlbgjmnihenmaaaGreatDoor
