/- Package kv: what its calls that change nothing come to. -/
import Derived.Test.YtholgmcfgnifdaaKvSt
import Derived.Deep.Cut
import Derived.Maps.OwnSet
import Derived.Maps.RangeWalk
namespace Go.Proofs.Ytholgmcfgnifdaa
open Go.RowKit Go.Maps
theorem eq_empty (s : ByteArray) : (s.toList == ([] : List UInt8)) = decide (s.size = 0) := by
  rw [ByteArray.toList_eq]
  have h := kl_len s
  unfold kl at h
  cases hl : s.data.toList with
  | nil => rw [hl] at h; simp at h; simp [← h]
  | cons a l => rw [hl] at h; simp at h; simp [← h]
theorem mayKey_any (s : ByteArray) (w : World) : Calls Try.prog 46 #[.string s] w fun e w' => e = .returned (.bool (mayK s)) ∧ w = w' := by
  by_cases h : s.size = 0
  · have d0 : (s.toList == ([] : List UInt8)) = true := by rw [eq_empty]; simpa using h
    have hm : mayK s = false := by unfold mayK; simp; omega
    rw [hm]
    go_enter Try.func46, Try.ntmps46
    go_wp2
    go_ret
    exact ⟨rfl, rfl⟩
  · have d0 : (s.toList == ([] : List UInt8)) = false := by rw [eq_empty]; simpa using h
    have hm : Hid (mayK s = decide ((s.size : Int) ≤ 128)) := Lib.hid (by unfold mayK; rw [Bool.eq_iff_iff]; simp; omega)
    go_enter Try.func46, Try.ntmps46
    go_wp2
    go_ret
    exact ⟨congrArg (fun b => Ending.returned (.bool b)) hm.out.symm, rfl⟩
theorem mayVal_any (s : ByteArray) (w : World) : Calls Try.prog 47 #[.string s] w fun e w' => e = .returned (.bool (mayV s)) ∧ w = w' := by
  have hm : Hid (mayV s = decide ((s.size : Int) ≤ 65536)) := Lib.hid (by unfold mayV; rw [Bool.eq_iff_iff]; simp; omega)
  go_enter Try.func47, Try.ntmps47
  go_wp2
  go_ret
  exact ⟨congrArg (fun b => Ending.returned (.bool b)) hm.out.symm, rfl⟩
theorem new_kv (w : World) : Calls Try.prog 15 #[] w fun e w' => ∃ g, e = .returned (ptr g) ∧ KvAt w' g (· = g) ⟨0, []⟩ ∧ w.heap.size ≤ g ∧ Below w.heap.size w w' := by
  go_enter Try.func15, Try.ntmps15
  go_wp2
  go_ret
  exact ⟨w.heap.size, rfl, ⟨none, heap_alloc_new w _, (fun b h => by cases h), fun _ => rfl, rfl, fun i hi => by simp [hi]⟩, Nat.le_refl _, belNew w _⟩
theorem rev_any (g : Nat) (P : Nat → Prop) (S : KSt) (w : World) (h : KvAt w g P S) : Calls Try.prog 20 #[ptr g] w fun e w' => e = .returned (.int .i64 S.rev) ∧ w = w' := by
  obtain ⟨mb, c0, c1, -⟩ := h.cells
  have q := eqNilK
  go_enter Try.func20, Try.ntmps20
  go_wp2
  go_ret
  exact ⟨rfl, rfl⟩
theorem rev_nil (w : World) : Calls Try.prog 20 #[.pointer none] w fun e w' => e = .returned (.int .i64 0) ∧ w = w' := by
  have q := eqNilK
  go_enter Try.func20, Try.ntmps20
  go_wp2
  go_ret
  exact ⟨rfl, rfl⟩
theorem held_any (g : Nat) (rv : Int) (mb : Option Nat) (w : World) (c1 : w.heap[g]? = some (.cells #[.int .i64 rv, .map mb] 79 (0, 0))) : Calls Try.prog 39 #[ptr g] w fun e w' => e = .returned (.map mb) ∧ w = w' := by
  have c1 := cell1 c1
  have q := eqNilK
  go_enter Try.func39, Try.ntmps39
  go_wp2
  go_ret
  exact ⟨rfl, rfl⟩
theorem held_nil (w : World) : Calls Try.prog 39 #[.pointer none] w fun e w' => e = .returned (.map none) ∧ w = w' := by
  have q := eqNilK
  go_enter Try.func39, Try.ntmps39
  go_wp2
  go_ret
  exact ⟨rfl, rfl⟩
theorem datum_size (L : List KEnt) : Maps.size (datum (entsV L)) = L.length := by rw [size_datum]; unfold entsV; rw [List.length_map]
end Go.Proofs.Ytholgmcfgnifdaa
