/- Package kv: what its calls that change nothing come to. -/
import Derived.Test.YtogcjginifcbpaaKvSt
import Derived.Deep.Cut
import Derived.Maps.OwnSet
import Derived.Maps.RangeWalk
namespace Go.Proofs.Ytogcjginifcbpaa
open Go.RowKit Go.Maps
theorem eq_empty (s : ByteArray) : (s.toList == ([] : List UInt8)) = decide (s.size = 0) := by
  rw [ByteArray.toList_eq]
  have h := kl_len s
  unfold kl at h
  cases hl : s.data.toList with
  | nil => rw [hl] at h; simp at h; simp [← h]
  | cons a l => rw [hl] at h; simp at h; simp [← h]
theorem mayKey_any (s : ByteArray) (w : World) : Calls Try.prog 73 #[.string s] w fun e w' => e = .returned (.bool (mayK s)) ∧ w = w' := by
  by_cases h : s.size = 0
  · have d0 : (s.toList == ([] : List UInt8)) = true := by rw [eq_empty]; simpa using h
    have hm : mayK s = false := by unfold mayK; simp; omega
    rw [hm]
    go_enter Try.func73, Try.ntmps73
    go_wp2
    go_ret
    exact ⟨rfl, rfl⟩
  · have d0 : (s.toList == ([] : List UInt8)) = false := by rw [eq_empty]; simpa using h
    have hm : Hid (mayK s = decide ((s.size : Int) ≤ 128)) := Lib.hid (by unfold mayK; rw [Bool.eq_iff_iff]; simp; omega)
    go_enter Try.func73, Try.ntmps73
    go_wp2
    go_ret
    exact ⟨congrArg (fun b => Ending.returned (.bool b)) hm.out.symm, rfl⟩
theorem mayVal_any (s : ByteArray) (w : World) : Calls Try.prog 74 #[.string s] w fun e w' => e = .returned (.bool (mayV s)) ∧ w = w' := by
  have hm : Hid (mayV s = decide ((s.size : Int) ≤ 65536)) := Lib.hid (by unfold mayV; rw [Bool.eq_iff_iff]; simp; omega)
  go_enter Try.func74, Try.ntmps74
  go_wp2
  go_ret
  exact ⟨congrArg (fun b => Ending.returned (.bool b)) hm.out.symm, rfl⟩
theorem new_kv (w : World) : Calls Try.prog 15 #[] w fun e w' => ∃ g, e = .returned (ptr g) ∧ KvAt w' g (· = g) ⟨0, []⟩ ∧ w.heap.size ≤ g ∧ Below w.heap.size w w' := by
  go_enter Try.func15, Try.ntmps15
  go_wp2
  go_ret
  exact ⟨w.heap.size, rfl, ⟨none, heap_alloc_new w _, (fun b h => by cases h), fun _ => rfl, rfl, fun i hi => by simp [hi]⟩, Nat.le_refl _, belNew w _⟩
theorem rev_any (g : Nat) (P : Nat → Prop) (S : KSt) (w : World) (h : KvAt w g P S) : Calls Try.prog 22 #[ptr g] w fun e w' => e = .returned (.int .i64 S.rev) ∧ w = w' := by
  obtain ⟨mb, c0, c1, -⟩ := h.cells
  have q := eqNilK
  go_enter Try.func22, Try.ntmps22
  go_wp2
  go_ret
  exact ⟨rfl, rfl⟩
theorem rev_nil (w : World) : Calls Try.prog 22 #[.pointer none] w fun e w' => e = .returned (.int .i64 0) ∧ w = w' := by
  have q := eqNilK
  go_enter Try.func22, Try.ntmps22
  go_wp2
  go_ret
  exact ⟨rfl, rfl⟩
theorem held_any (g : Nat) (rv : Int) (mb : Option Nat) (w : World) (c1 : w.heap[g]? = some (.cells #[.int .i64 rv, .map mb] 92 (0, 0))) : Calls Try.prog 53 #[ptr g] w fun e w' => e = .returned (.map mb) ∧ w = w' := by
  have c1 := cell1 c1
  have q := eqNilK
  go_enter Try.func53, Try.ntmps53
  go_wp2
  go_ret
  exact ⟨rfl, rfl⟩
theorem held_nil (w : World) : Calls Try.prog 53 #[.pointer none] w fun e w' => e = .returned (.map none) ∧ w = w' := by
  have q := eqNilK
  go_enter Try.func53, Try.ntmps53
  go_wp2
  go_ret
  exact ⟨rfl, rfl⟩
theorem datum_size (L : List KEnt) : Maps.size (datum (entsV L)) = L.length := by rw [size_datum]; unfold entsV; rw [List.length_map]
theorem len_any (g : Nat) (P : Nat → Prop) (S : KSt) (w : World) (h : KvAt w g P S) : Calls Try.prog 23 #[ptr g] w fun e w' => e = .returned (.int .i64 S.L.length) ∧ w = w' := by
  obtain ⟨mb, h1, h2, h3, -⟩ := h
  have HH := Lib.hid (held_any g S.rev mb w h1)
  cases mb with
  | none =>
    have e0 : S.L.length = 0 := by rw [h3 rfl]; rfl
    rw [e0]
    clear h1 h2 h3
    go_enter Try.func23, Try.ntmps23
    go_wp2_with fail
    refine HH.out.mono ?_; rintro e w' ⟨rfl, rfl⟩
    go_wp2_with fail
    go_ret
    exact ⟨rfl, rfl⟩
  | some b =>
    have hl := fun ty => (World.ownsMap.len (h2 b rfl).1 (t := 90) Try.underlying90 ty)
    simp only [datum_size] at hl
    clear h1 h2 h3
    go_enter Try.func23, Try.ntmps23
    go_wp2_with fail
    refine HH.out.mono ?_; rintro e w' ⟨rfl, rfl⟩
    go_wp2_with fail
    go_ret
    exact ⟨rfl, rfl⟩
theorem len_nil (w : World) : Calls Try.prog 23 #[.pointer none] w fun e w' => e = .returned (.int .i64 0) ∧ w = w' := by
  have HH := Lib.hid (held_nil w)
  go_enter Try.func23, Try.ntmps23
  go_wp2_with fail
  refine HH.out.mono ?_; rintro e w' ⟨rfl, rfl⟩
  go_wp2_with fail
  go_ret
  exact ⟨rfl, rfl⟩
end Go.Proofs.Ytogcjginifcbpaa
