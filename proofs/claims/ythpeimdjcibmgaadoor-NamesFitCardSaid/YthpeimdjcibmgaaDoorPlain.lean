/- Plain facts on texts of digits: what number a text is, and which number's text it is. No program. -/
import Derived.Lib.ItoaNum
import Derived.Lib.IndexMore
namespace Go.Proofs.YthpeimdjcibmgaaDoor
open Go

/-- A byte that is a digit. -/
def isDig (c : UInt8) : Bool := decide (48 ≤ (c.toNat : Int) ∧ (c.toNat : Int) ≤ 57)
/-- The number that digits make. -/
def num10 (l : List UInt8) : Int := l.foldl (fun n c => n * 10 + ((c.toNat : Int) - 48)) 0
/-- 1 to k digits, no nought ahead of others. -/
def numOk (k : Nat) (l : List UInt8) : Bool := decide (1 ≤ l.length) && decide (l.length ≤ k) && !(decide (1 < l.length) && (l.getD 0 0 == 48)) && l.all isDig

theorem num10_snoc (l : List UInt8) (c : UInt8) : num10 (l ++ [c]) = num10 l * 10 + ((c.toNat : Int) - 48) := by
  simp [num10, List.foldl_append]
theorem isDig_bounds {c : UInt8} (h : isDig c = true) : 48 ≤ (c.toNat : Int) ∧ (c.toNat : Int) ≤ 57 := by
  unfold isDig at h; exact of_decide_eq_true h
theorem all_take {l : List UInt8} (h : l.all isDig = true) (k : Nat) : (l.take k).all isDig = true := by
  rw [List.all_eq_true] at h ⊢
  intro x hx
  exact h x (List.mem_of_mem_take hx)
theorem snocInd {α : Type} {P : List α → Prop} (h0 : P []) (h1 : ∀ l c, P l → P (l ++ [c])) (l : List α) : P l := by
  have h : ∀ r : List α, P r.reverse := by
    intro r
    induction r with
    | nil => exact h0
    | cons c r ih => rw [List.reverse_cons]; exact h1 _ _ ih
  have := h l.reverse
  rwa [List.reverse_reverse] at this
theorem num10_bounds (l : List UInt8) : l.all isDig = true → 0 ≤ num10 l ∧ num10 l < 10 ^ l.length := by
  refine snocInd (P := fun l => l.all isDig = true → 0 ≤ num10 l ∧ num10 l < 10 ^ l.length) ?_ ?_ l
  · intro _; simp [num10]
  · intro l c ih h
    rw [List.all_append, Bool.and_eq_true] at h
    have hc := isDig_bounds (by simpa using h.2)
    obtain ⟨i1, i2⟩ := ih h.1
    rw [num10_snoc, List.length_append, List.length_singleton, Int.pow_succ]
    omega
end Go.Proofs.YthpeimdjcibmgaaDoor
