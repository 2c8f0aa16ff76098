/- Package view: an item alone in memory; is it the lock? -/
import Derived.Test.YtlbgjmnihenmaaaGreatDoorJPk
namespace Go.Proofs.YtlbgjmnihenmaaaGreatDoor
open Go.RowKit
abbrev itO (k v : ByteArray) (r : Int) : Obj := .cells #[.string k, .string v, .int .i64 r] 89
abbrev itA (k v : ByteArray) (r : Int) : Value := .agg #[.string k, .string v, .int .i64 r]
def It3 (g : Nat) (k v : ByteArray) (r : Int) (W : World) : Prop := W.cell? ⟨g, 0, none⟩ = some (.string k) ∧ W.cell? ⟨g, 1, none⟩ = some (.string v) ∧ W.cell? ⟨g, 2, none⟩ = some (.int .i64 r) ∧ g < W.heap.size
theorem It3.keep {g : Nat} {k v : ByteArray} {r : Int} {W W' : World} (h : It3 g k v r W) (hb : Below W.heap.size W W') : It3 g k v r W' :=
  ⟨by rw [hb.cell (p := ⟨g, 0, none⟩) h.2.2.2]; exact h.1, by rw [hb.cell (p := ⟨g, 1, none⟩) h.2.2.2]; exact h.2.1, by rw [hb.cell (p := ⟨g, 2, none⟩) h.2.2.2]; exact h.2.2.1, Nat.lt_of_lt_of_le h.2.2.2 hb.size⟩
theorem It3.new (w : World) (k v : ByteArray) (r : Int) : It3 w.heap.size k v r (w.alloc (itO k v r)) := by
  refine ⟨?_, ?_, ?_, ?_⟩ <;> simp
def lockB (k v : ByteArray) : Bool := k.toList == [108, 111, 99, 107] && v.toList == [76]
set_option maxHeartbeats 4000000 in
theorem isLock_any (k v : ByteArray) (r : Int) (w : World) :
    Calls Tryz.prog 55 #[itA k v r] w fun e w' => e = .returned (.bool (lockB k v)) ∧ Below w.heap.size w w' := by
  have hc := It3.new w k v r
  have hb0 := belNew w (itO k v r)
  unfold lockB
  cases h1 : k.toList == [108, 111, 99, 107] with
  | false =>
    go_enter Tryz.func55, Tryz.ntmps55
    obtain ⟨c0, c1, c2, c3⟩ := id hc
    go_wp2_with fail
    go_ret
    exact ⟨rfl, hb0⟩
  | true =>
    cases h2 : v.toList == [76] with
    | false =>
      go_enter Tryz.func55, Tryz.ntmps55
      obtain ⟨c0, c1, c2, c3⟩ := id hc
      go_wp2_with fail
      go_ret
      exact ⟨rfl, hb0⟩
    | true =>
      go_enter Tryz.func55, Tryz.ntmps55
      obtain ⟨c0, c1, c2, c3⟩ := id hc
      go_wp2_with fail
      go_ret
      exact ⟨rfl, hb0⟩
end Go.Proofs.YtlbgjmnihenmaaaGreatDoor
