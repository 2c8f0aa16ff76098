/- Package store: what stands in a store's block; what is asked of it without a write. -/
import Derived.Test.YtbbefakmpmniiaaGreatDoorSWl
import Derived.Test.YtbbefakmpmniiaaGreatDoorSKw
import Derived.Test.YtbbefakmpmniiaaGreatDoorSRd
namespace Go.Proofs.YtbbefakmpmniiaaGreatDoor
open Go.RowKit Go.Maps
/-- A store's block: its disk, its state, its log, how many writes till it is compacted, how many there were, whether it is dead. -/
def StoreIs (w : World) (s gd gk gl : Nat) (every writes : Int) (dead : Bool) : Prop :=
  w.heap[s]? = some (.cells #[ptr gd, ptr gk, ptr gl, .int .i64 every, .int .i64 writes, .bool dead] 102 (0, 0))
theorem scells {w : World} {s : Nat} {a b c d e f : Value} {t : TypeId} (h : w.heap[s]? = some (.cells #[a, b, c, d, e, f] t (0, 0))) :
    w.cell? ⟨s, 0, none⟩ = some a ∧ w.cell? ⟨s, 1, none⟩ = some b ∧ w.cell? ⟨s, 2, none⟩ = some c ∧ w.cell? ⟨s, 3, none⟩ = some d ∧ w.cell? ⟨s, 4, none⟩ = some e ∧ w.cell? ⟨s, 5, none⟩ = some f := by simp [World.cell?, h]
theorem sfroz {w : World} {s : Nat} {a b c d e f : Value} {t : TypeId} (h : w.heap[s]? = some (.cells #[a, b, c, d, e, f] t (0, 0))) (i : Nat) : w.frozen? ⟨s, i, none⟩ = false := by simp [World.frozen?, h]
theorem eqNilT (w : World) (a : Option Addr) : (binOp .eql 27 (.pointer a) (.pointer none)).run Tryz.prog w = .ok (.bool a.isNone) w := by cases a <;> kernel_rfl
set_option maxRecDepth 100000 in
theorem sready_any (s gd gk gl : Nat) (ev wr : Int) (dead : Bool) (w : World) (h : StoreIs w s gd gk gl ev wr dead) :
    Calls Tryz.prog 37 #[ptr s] w fun e w' => e = .returned (.int .i64 (if dead = true then 12 else 0)) ∧ w = w' := by
  obtain ⟨_, _, _, _, _, c5⟩ := scells h
  have hN := eqNilT w (some ⟨s, 0, none⟩)
  cases dead with
  | true =>
    go_enter Tryz.func37, Tryz.ntmps37
    go_wp2_with fail
    go_ret
    exact ⟨rfl, rfl⟩
  | false =>
    go_enter Tryz.func37, Tryz.ntmps37
    go_wp2_with fail
    go_ret
    exact ⟨rfl, rfl⟩
end Go.Proofs.YtbbefakmpmniiaaGreatDoor
