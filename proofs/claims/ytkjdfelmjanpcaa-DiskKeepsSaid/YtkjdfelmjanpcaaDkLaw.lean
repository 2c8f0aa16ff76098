/- The walks of the laws of package disk that want the program alone: awake, DiskNil. -/
import Derived.Test.YtkjdfelmjanpcaaDkCrash
import Derived.Test.YtkjdfelmjanpcaaPkOpen
import Derived.Lib.SlBytesConst
namespace Go.Proofs.Ytkjdfelmjanpcaa
open Go.RowKit Go.Maps
theorem DiskAt.lt {w : World} {g : Nat} {P : Nat → Prop} {D : DSt} (h : DiskAt w g P D) {i : Nat} (hi : P i) : i < w.heap.size := by
  obtain ⟨_, _, _, _, _, _, _, _, h7, _⟩ := h
  exact h7 i hi
theorem DiskAt.self {w : World} {g : Nat} {P : Nat → Prop} {D : DSt} (h : DiskAt w g P D) : P g := by
  obtain ⟨_, _, _, h2, _⟩ := h
  exact h2
theorem Step.ge {P P' : Nat → Prop} {a b : World} {n : Nat} (h : Step P P' a b) (hp : ∀ i, P i → n ≤ i) (hn : n ≤ a.heap.size) : (∀ i, P' i → n ≤ i) ∧ Below n a b :=
  ⟨fun i hi => (h.2 i hi).elim (hp i) (fun h' => Nat.le_trans hn h'), h.1.below hn hp⟩
theorem rename_nil (s t : ByteArray) (w : World) : Calls Try.prog 35 #[.pointer none, .string s, .string t] w fun e w' => e = .returned (.int .i64 2) ∧ Below w.heap.size w w' := by
  have HF := Lib.hid (find_nil s w)
  unfold zeroF at HF
  go_enter Try.func35, Try.ntmps35
  go_wp2_with fail
  refine HF.out.mono ?_; rintro e w1 ⟨rfl, hb1⟩
  go_wp2_with fail
  go_ret
  refine ⟨rfl, hb1.trans ?_⟩
  repeat (first | exact Below.refl _ _ | refine Below.setCell ?_ (by simp) _ | refine Below.alloc ?_ (by have := hb1.size; simp; omega) _)
theorem remove_nil (s : ByteArray) (w : World) : Calls Try.prog 36 #[.pointer none, .string s] w fun e w' => e = .returned (.int .i64 2) ∧ Below w.heap.size w w' := by
  have HF := Lib.hid (find_nil s w)
  unfold zeroF at HF
  go_enter Try.func36, Try.ntmps36
  go_wp2_with fail
  refine HF.out.mono ?_; rintro e w1 ⟨rfl, hb1⟩
  go_wp2_with fail
  go_ret
  refine ⟨rfl, hb1.trans ?_⟩
  repeat (first | exact Below.refl _ _ | refine Below.setCell ?_ (by simp) _ | refine Below.alloc ?_ (by have := hb1.size; simp; omega) _)
theorem cut_nil (s : ByteArray) (n : Int) (w : World) : Calls Try.prog 37 #[.pointer none, .string s, .int .i64 n] w fun e w' => e = .returned (.int .i64 2) ∧ Below w.heap.size w w' := by
  have HF := Lib.hid (find_nil s w)
  unfold zeroF at HF
  go_enter Try.func37, Try.ntmps37
  go_wp2_with fail
  refine HF.out.mono ?_; rintro e w1 ⟨rfl, hb1⟩
  go_wp2_with fail
  go_ret
  refine ⟨rfl, hb1.trans ?_⟩
  repeat (first | exact Below.refl _ _ | refine Below.setCell ?_ (by simp) _ | refine Below.alloc ?_ (by have := hb1.size; simp; omega) _)
/-- The name f. -/
def nF : ByteArray := ⟨#[102]⟩
theorem st1 : appD ⟨[], false, false, 0⟩ nF.data.toList [97, 98, 99] = (0, ⟨[([102], ([97, 98, 99], 0))], false, false, 0⟩) := by kernel_rfl
theorem st2 : syncD ⟨[([102], ([97, 98, 99], 0))], false, false, 0⟩ nF.data.toList = (0, ⟨[([102], ([97, 98, 99], 3))], false, false, 0⟩) := by kernel_rfl
theorem st3 : appD ⟨[([102], ([97, 98, 99], 3))], false, false, 0⟩ nF.data.toList [100, 101] = (0, ⟨[([102], ([97, 98, 99, 100, 101], 3))], false, false, 0⟩) := by kernel_rfl
theorem st4 : crashD ⟨[([102], ([97, 98, 99, 100, 101], 3))], false, false, 0⟩ [1] = ⟨[([102], ([97, 98, 99, 100], 4))], false, false, 0⟩ := by kernel_rfl
theorem st5 : readD ⟨[([102], ([97, 98, 99, 100], 4))], false, false, 0⟩ nF.data.toList = ([97, 98, 99, 100], 0) := by kernel_rfl
theorem abcd : strOfNums [97, 98, 99, 100] = ⟨#[97, 98, 99, 100]⟩ := by kernel_rfl
set_option maxRecDepth 100000 in
set_option maxHeartbeats 4000000 in
theorem awake6_any (w : World) : Calls Try.prog 27 #[] w fun e w' => e = .returned (.bool true) ∧ Below w.heap.size w w' := by
  have HN := Lib.hid (new_disk w)
  have kc := fun (w : World) (C : Array Value) (n c : Nat) => Lib.run_convert_bytes_const (P := Try.prog) w 22 5 C n c Try.underlying22 Try.underlying5
  go_enter Try.func27, Try.ntmps27
  go_wp2_with fail
  refine HN.out.mono ?_; rintro e w1 ⟨g, rfl, hD1, hg, hb1⟩
  have hz1 := hb1.size
  obtain ⟨U1, hU1⟩ : ∃ U, U = w1.alloc (.cells #[.int .u8 97, .int .u8 98, .int .u8 99] 5 (3, 4)) := ⟨_, rfl⟩
  have hA : Below w1.heap.size w1 U1 := by rw [hU1]; exact belNew w1 _
  have hs1 : Sees U1 (.slice (some ⟨w1.heap.size, 0, none⟩) 3 3) [97, 98, 99] := by
    refine ⟨some ⟨w1.heap.size, 0, none⟩, 3, rfl, Nat.le_refl _, (fun h => by cases h), fun a ha i hi => ?_⟩
    cases ha
    rw [show (⟨w1.heap.size, 0, none⟩ : Addr).add i = ⟨w1.heap.size, i, none⟩ from by cases i <;> simp [Addr.add], hU1, World.cell?_alloc_mark w1 _ _ _ i]
    match i, hi with
    | 0, _ | 1, _ | 2, _ => rfl
    | i + 3, hi => exact absurd hi (by simp)
  have hlt1 := hD1.lt rfl
  have HA1 := Lib.hid (append_any g _ _ nF (.slice (some ⟨w1.heap.size, 0, none⟩) 3 3) [97, 98, 99] _ (hD1.below hA) (by decide) (by decide) (by decide) (by decide) hs1 (by intro x hx; simp at hx; omega) (fun _ d hd e => by cases hd; exact absurd e (Nat.ne_of_gt hlt1)))
  rw [st1] at HA1
  have hzU1 := hA.size
  have HU1 := Lib.hid hU1
  clear hU1 hs1
  go_wp2_with fail
  rw [← HU1.out]
  refine HA1.out.mono ?_; rintro e w2 ⟨P2, rfl, hD2, hS2⟩
  obtain ⟨hP2, hb2⟩ := hS2.ge (n := w.heap.size) (fun i e => by rw [e]; exact hg) (by omega)
  have hB2 := (bel hb1 hA).trans hb2
  have HA2 := Lib.hid (sync_any g P2 _ nF _ hD2 (by decide) (by decide))
  rw [st2] at HA2
  go_wp2_with fail
  refine HA2.out.mono ?_; rintro e w3 ⟨P3, rfl, hD3, hS3⟩
  obtain ⟨hP3, hb3⟩ := hS3.ge (n := w.heap.size) hP2 hB2.size
  have hB3 := hB2.trans hb3
  obtain ⟨U3, hU3⟩ : ∃ U, U = w3.alloc (.cells #[.int .u8 100, .int .u8 101] 5 (2, 3)) := ⟨_, rfl⟩
  have hA3 : Below w3.heap.size w3 U3 := by rw [hU3]; exact belNew w3 _
  have hs3 : Sees U3 (.slice (some ⟨w3.heap.size, 0, none⟩) 2 2) [100, 101] := by
    refine ⟨some ⟨w3.heap.size, 0, none⟩, 2, rfl, Nat.le_refl _, (fun h => by cases h), fun a ha i hi => ?_⟩
    cases ha
    rw [show (⟨w3.heap.size, 0, none⟩ : Addr).add i = ⟨w3.heap.size, i, none⟩ from by cases i <;> simp [Addr.add], hU3, World.cell?_alloc_mark w3 _ _ _ i]
    match i, hi with
    | 0, _ | 1, _ => rfl
    | i + 2, hi => exact absurd hi (by simp)
  have hlt3 := hD3.lt hD3.self
  have HA3 := Lib.hid (append_any g _ _ nF (.slice (some ⟨w3.heap.size, 0, none⟩) 2 2) [100, 101] _ (hD3.below hA3) (by decide) (by decide) (by decide) (by decide) hs3 (by intro x hx; simp at hx; omega) (fun _ d hd e => by cases hd; exact absurd e (Nat.ne_of_gt hlt3)))
  rw [st3] at HA3
  have hzU3 := hA3.size
  have HU3 := Lib.hid hU3
  clear hU3 hs3
  go_wp2_with fail
  rw [← HU3.out]
  refine HA3.out.mono ?_; rintro e w4 ⟨P4, rfl, hD4, hS4⟩
  have hz3 := hB3.size
  obtain ⟨hP4, hb4⟩ := hS4.ge (n := w.heap.size) hP3 (by omega)
  have hB4 := (bel hB3 hA3).trans hb4
  have hz4 := hB4.size
  have hA4 := belNew w4 (.cells #[.int .u16 1] 88)
  have hk4 : SeesU (w4.alloc (.cells #[.int .u16 1] 88)) (.slice (some ⟨w4.heap.size, 0, none⟩) 1 1) [1] := ⟨some ⟨w4.heap.size, 0, none⟩, 1, rfl, Nat.le_refl _, (fun h => by cases h), fun a ha i hi => by
    cases ha
    obtain rfl : i = 0 := by simpa using hi
    exact cell_of_row _ w4.heap.size 0 #[.int .u16 1] 88 (0, 0) (heap_alloc_new w4 (.cells #[.int .u16 1] 88))⟩
  have HA4 := Lib.hid (crash_any g P4 _ _ [1] _ (hD4.below hA4) (by decide) (by decide) hk4 (by decide) (fun _ d hd hp => by cases hd; exact absurd (hD4.lt hp) (Nat.lt_irrefl _)))
  rw [st4] at HA4
  go_wp2_with fail
  refine HA4.out.mono ?_; rintro e w5 ⟨P5, rfl, hD5, hS5⟩
  obtain ⟨hP5, hb5⟩ := hS5.ge (n := w.heap.size) hP4 (by simp; omega)
  have hB5 := (hB4.alloc hz4 _).trans hb5
  have HA5 := Lib.hid (read_any g P5 _ nF _ hD5 (by decide) (by decide))
  rw [st5] at HA5
  go_wp2_with fail
  refine HA5.out.mono ?_; rintro e w6 ⟨v, rfl, ho6, hb6⟩
  have q1 := conv_sees ho6.sees
  rw [abcd] at q1
  have hD6 := hD5.below hb6
  go_wp2_with fail
  refine (sure_any g P5 _ nF _ hD6 (by decide)).mono ?_; rintro e w7 ⟨rfl, hb7⟩
  go_wp2_with fail
  go_ret
  exact ⟨rfl, bel (bel hB5 hb6) hb7⟩
set_option maxRecDepth 100000 in
set_option maxHeartbeats 2000000 in
theorem lawNil6 (w : World) (s t : ByteArray) (n : Int) (_ : -9223372036854775808 ≤ n) (_ : n ≤ 9223372036854775807) :
    Calls Try.prog 6 #[.string s, .string t, .int .i64 n] w fun e w' => e = .returned (.bool true) ∧ Below w.heap.size w w' := by
  go_enter Try.func6, Try.ntmps6
  go_wp2_with fail
  refine (read_nil s _).mono ?_; rintro e w1 ⟨rfl, hb1⟩
  go_wp2_with fail
  refine (arm_nil n _).mono ?_; rintro e w' ⟨rfl, rfl⟩
  go_wp2_with fail
  refine (crash_nil _ _).mono ?_; rintro e w' ⟨rfl, rfl⟩
  go_wp2_with fail
  refine (append_nil s _ _).mono ?_; rintro e w' ⟨rfl, rfl⟩
  go_wp2_with fail
  refine (sync_nil s _).mono ?_; rintro e w2 ⟨rfl, hb2⟩
  have hB2 := bel hb1 hb2
  go_wp2_with fail
  refine (rename_nil s t _).mono ?_; rintro e w3 ⟨rfl, hb3⟩
  have hB3 := bel hB2 hb3
  go_wp2_with fail
  refine (remove_nil s _).mono ?_; rintro e w4 ⟨rfl, hb4⟩
  have hB4 := bel hB3 hb4
  go_wp2_with fail
  refine (cut_nil s n _).mono ?_; rintro e w5 ⟨rfl, hb5⟩
  have hB5 := bel hB4 hb5
  go_wp2_with fail
  refine (names_nil _).mono ?_; rintro e w' ⟨rfl, rfl⟩
  go_wp2_with fail
  refine (sure_nil s _).mono ?_; rintro e w6 ⟨rfl, hb6⟩
  have hB6 := bel hB5 hb6
  go_wp2_with fail
  refine (lost_nil _).mono ?_; rintro e w' ⟨rfl, rfl⟩
  go_wp2_with fail
  refine (awake6_any _).mono ?_; rintro e w7 ⟨rfl, hb7⟩
  go_wp2_with fail
  go_ret
  exact ⟨rfl, bel hB6 hb7⟩
end Go.Proofs.Ytkjdfelmjanpcaa
