/- Package recs: pools: whether one is right, how many blocks it has, which is the k-th. -/
import Derived.Test.YtcfmknocpjjklaaRc
import Derived.Test.YtcfmknocpjjklaaRcNet
namespace Go.Proofs.Ytcfmknocpjjklaa
open Go.RowKit
def rightB (a b : Int) : Bool := mayB a b && (decide (16 ≤ b) && decide (b ≤ 26))
abbrev poolO (a b : Int) (o : Bool) (t : TypeId) : Obj := .cells #[.int .u32 a, .int .i64 b, .bool o] t
def Cell3 (g : Nat) (a b : Int) (o : Bool) (W : World) : Prop := W.cell? ⟨g, 0, none⟩ = some (.int .u32 a) ∧ W.cell? ⟨g, 1, none⟩ = some (.int .i64 b) ∧ W.cell? ⟨g, 2, none⟩ = some (.bool o) ∧ g < W.heap.size
theorem Cell3.keep {g : Nat} {a b : Int} {o : Bool} {W W' : World} (h : Cell3 g a b o W) (hb : Below W.heap.size W W') : Cell3 g a b o W' :=
  ⟨by rw [hb.cell (p := ⟨g, 0, none⟩) h.2.2.2]; exact h.1, by rw [hb.cell (p := ⟨g, 1, none⟩) h.2.2.2]; exact h.2.1, by rw [hb.cell (p := ⟨g, 2, none⟩) h.2.2.2]; exact h.2.2.1, Nat.lt_of_lt_of_le h.2.2.2 hb.size⟩
theorem Cell3.new (w : World) (a b : Int) (o : Bool) (t : TypeId) : Cell3 w.heap.size a b o (w.alloc (poolO a b o t)) := by
  refine ⟨?_, ?_, ?_, ?_⟩ <;> simp
theorem rightB_of {a b : Int} (h : mayB a b = true) : rightB a b = (decide (16 ≤ b) && decide (b ≤ 26)) := by unfold rightB; rw [h]; rfl
set_option maxHeartbeats 4000000 in
theorem rightPool_any (a b : Int) (o : Bool) (ha : 0 ≤ a) (ha' : a < 4294967296) (w : World) :
    Calls Try.prog 9 #[.agg #[.int .u32 a, .int .i64 b, .bool o]] w fun e w' => e = .returned (.bool (rightB a b)) ∧ Below w.heap.size w w' := by
  have HM := Lib.hid (fun w => may_any a b ha ha' w)
  have hc := Cell3.new w a b o 32
  have hb0 := belNew w (poolO a b o 32)
  cases hm : mayB a b with
  | false =>
    have hv : rightB a b = false := by unfold rightB; rw [hm]; rfl
    rw [hv]; rw [hm] at HM
    clear hv hm
    go_enter Try.func9, Try.ntmps9
    obtain ⟨c0, c1, c2, c3⟩ := id hc
    go_wp2_with fail
    refine (HM.out _).mono ?_; rintro e w1 ⟨rfl, hb1⟩
    go_wp2_with fail
    go_ret
    exact ⟨rfl, bel hb0 hb1⟩
  | true =>
    rw [rightB_of hm]; rw [hm] at HM
    clear hm
    by_cases h1 : 16 ≤ b
    · have d1 : decide (16 ≤ b) = true := decide_eq_true h1
      have hv : (decide (16 ≤ b) && decide (b ≤ 26)) = decide (b ≤ 26) := by rw [d1]; rfl
      rw [hv]; clear hv
      generalize hq : decide (b ≤ 26) = q
      go_enter Try.func9, Try.ntmps9
      obtain ⟨c0, c1, c2, c3⟩ := id hc
      go_wp2_with fail
      refine (HM.out _).mono ?_; rintro e w1 ⟨rfl, hb1⟩
      obtain ⟨x0, x1, x2, x3⟩ := hc.keep hb1
      go_wp2_with fail
      go_ret
      exact ⟨rfl, bel hb0 hb1⟩
    · have d1 : decide (16 ≤ b) = false := decide_eq_false h1
      have hv : (decide (16 ≤ b) && decide (b ≤ 26)) = false := by rw [d1]; rfl
      rw [hv]; clear hv
      go_enter Try.func9, Try.ntmps9
      obtain ⟨c0, c1, c2, c3⟩ := id hc
      go_wp2_with fail
      refine (HM.out _).mono ?_; rintro e w1 ⟨rfl, hb1⟩
      obtain ⟨x0, x1, x2, x3⟩ := hc.keep hb1
      go_wp2_with fail
      go_ret
      exact ⟨rfl, bel hb0 hb1⟩
end Go.Proofs.Ytcfmknocpjjklaa
