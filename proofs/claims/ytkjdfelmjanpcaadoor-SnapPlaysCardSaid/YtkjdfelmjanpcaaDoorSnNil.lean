/- virgatelaw08's awake, cut; the walk of SnapNil; what Save does to a file and its spare. Conditions: the world facts of Env. -/
import Derived.Test.YtkjdfelmjanpcaaDoorSn2
import Derived.Lib.SlBytesConst
namespace Go.Proofs.YtkjdfelmjanpcaaDoor
open Go.RowKit Go.Maps
/-- The name s. -/
def nS : ByteArray := ⟨#[115]⟩
def abcB : List Int := [97, 98, 99]
def deB : List Int := [100, 101]
theorem s8a : saveD ⟨[], false, false, 0⟩ nS abcB = (0, ⟨[([115], (sealL abcB, 7))], false, false, 0⟩) := by kernel_rfl
theorem s8b : saveD ⟨[([115], (sealL abcB, 7))], false, true, 1⟩ nS deB = (12, ⟨[([115], (sealL abcB, 7)), ([115, 126], (sealL deB, 0))], true, true, 0⟩) := by kernel_rfl
theorem s8c : crashD ⟨[([115], (sealL abcB, 7)), ([115, 126], (sealL deB, 0))], true, true, 0⟩ [] = ⟨[([115], (sealL abcB, 7)), ([115, 126], ([], 0))], false, false, 0⟩ := by kernel_rfl
theorem s8d : loadD ⟨[([115], (sealL abcB, 7)), ([115, 126], ([], 0))], false, false, 0⟩ nS.data.toList = (abcB, 0) := by kernel_rfl
theorem abcT : strOfNums abcB = ⟨#[97, 98, 99]⟩ := by kernel_rfl
theorem tildeS : tilde nS = ⟨#[115, 126]⟩ := by kernel_rfl
theorem Sees.lt {w : World} {v : Value} {xs : List Int} (h : Sees w v xs) (hne : xs ≠ []) {d : Nat} (hd : v.ownBlock = some d) : d < w.heap.size := by
  obtain ⟨ao, c, rfl, _, _, hc⟩ := h
  cases ao with
  | none => cases hd
  | some b0 =>
    have := cell_lt8 (hc b0 rfl 0 (List.length_pos_iff.2 hne))
    rw [add_block] at this
    cases hd
    exact this
theorem seesU_nil (w : World) : SeesU w (.slice none 0 0) [] := ⟨none, 0, rfl, Nat.le_refl _, fun _ => rfl, fun _ h => by cases h⟩
set_option maxRecDepth 100000 in
set_option maxHeartbeats 8000000 in
theorem awake8_any (w : World) (hE : Env w) : Calls Tryd.prog 39 #[] w fun e w' => e = .returned (.bool true) ∧ Below w.heap.size w w' := by
  have HN := Lib.hid (new_disk w)
  have kc := fun (w : World) (C : Array Value) (n c : Nat) => Lib.run_convert_bytes_const (P := Tryd.prog) w 32 5 C n c Tryd.underlying32 Tryd.underlying5
  go_enter Tryd.func39, Tryd.ntmps39
  go_wp2_with fail
  refine HN.out.mono ?_; rintro e w1 ⟨g, rfl, hD1, hg, hb1⟩
  obtain ⟨U1, hU1⟩ : ∃ U, U = w1.alloc (.cells #[.int .u8 97, .int .u8 98, .int .u8 99] 5 (3, 4)) := ⟨_, rfl⟩
  have hA1 : Below w1.heap.size w1 U1 := by rw [hU1]; exact belNew w1 _
  have hs1 : Sees U1 (.slice (some ⟨w1.heap.size, 0, none⟩) 3 3) abcB := by
    refine ⟨some ⟨w1.heap.size, 0, none⟩, 3, rfl, Nat.le_refl _, (fun h => by cases h), fun a ha i hi => ?_⟩
    cases ha
    rw [addz, hU1, World.cell?_alloc_mark w1 _ _ _ i]
    match i, hi with
    | 0, _ | 1, _ | 2, _ => rfl
    | i + 3, hi => exact absurd hi (by simp [abcB])
  have hBU1 := bel hb1 hA1
  have hgl := hD1.lt hD1.self
  have HA1 := Lib.hid (save_any g _ _ nS _ abcB w U1 (hD1.below hA1) (by decide) (by decide) (by decide) (by decide) hs1 (fun _ d hd e => by cases hd; exact absurd e (Nat.ne_of_gt hgl)) (by intro x hx; simp [abcB] at hx; omega) (by decide) hE hBU1 (fun i e => by rw [e]; exact hg))
  rw [s8a] at HA1
  have HU1 := Lib.hid hU1
  clear hU1 hs1 hD1
  go_wp2_with fail
  rw [← HU1.out]
  refine HA1.out.mono ?_; rintro e w2 ⟨P2, rfl, hD2, hS2⟩
  obtain ⟨hP2, hb2⟩ := hS2.ge (n := w.heap.size) (fun i e => by rw [e]; exact hg) hBU1.size
  have hB2 := hBU1.trans hb2
  have HA2 := Lib.hid (arm_any g P2 _ 1 w2 hD2 (by decide) (by decide))
  rw [show ({ (⟨[([115], (sealL abcB, 7))], false, false, 0⟩ : DSt) with armed := true, left := max 1 0 } : DSt) = ⟨[([115], (sealL abcB, 7))], false, true, 1⟩ from rfl] at HA2
  clear hD2 hS2 hb2
  go_wp2_with fail
  refine HA2.out.mono ?_; rintro e w3 ⟨rfl, hD3, hT3⟩
  have hB3 : Below w.heap.size w w3 := hB2.trans (hT3.below hB2.size hP2)
  obtain ⟨U3, hU3⟩ : ∃ U, U = w3.alloc (.cells #[.int .u8 100, .int .u8 101] 5 (2, 3)) := ⟨_, rfl⟩
  have hA3 : Below w3.heap.size w3 U3 := by rw [hU3]; exact belNew w3 _
  have hs3 : Sees U3 (.slice (some ⟨w3.heap.size, 0, none⟩) 2 2) deB := by
    refine ⟨some ⟨w3.heap.size, 0, none⟩, 2, rfl, Nat.le_refl _, (fun h => by cases h), fun a ha i hi => ?_⟩
    cases ha
    rw [addz, hU3, World.cell?_alloc_mark w3 _ _ _ i]
    match i, hi with
    | 0, _ | 1, _ => rfl
    | i + 2, hi => exact absurd hi (by simp [deB])
  have hBU3 := bel hB3 hA3
  have HA3 := Lib.hid (save_any g P2 _ nS _ deB w U3 (hD3.below hA3) (by decide) (by decide) (by decide) (by decide) hs3 (fun _ d hd hp => by cases hd; exact absurd (hD3.lt hp) (Nat.lt_irrefl _)) (by intro x hx; simp [deB] at hx; omega) (by decide) hE hBU3 hP2)
  rw [s8b] at HA3
  have HU3 := Lib.hid hU3
  clear hU3 hs3 hD3 hT3
  go_wp2_with fail
  rw [← HU3.out]
  refine HA3.out.mono ?_; rintro e w4 ⟨P4, rfl, hD4, hS4⟩
  obtain ⟨hP4, hb4⟩ := hS4.ge (n := w.heap.size) hP2 hBU3.size
  have hB4 := hBU3.trans hb4
  have hl1 : (sealL abcB).length = 7 := by unfold sealL; rw [List.length_append]; rfl
  have hl2 : (sealL deB).length = 6 := by unfold sealL; rw [List.length_append]; rfl
  have HA4 := Lib.hid (crash_any g P4 _ (.slice none 0 0) [] w4 hD4 (by decide) (fun f hf => by
    rcases List.mem_cons.1 hf with rfl | hf
    · exact ⟨by show 1 ≤ maxLen; unfold maxLen; omega, by show (sealL abcB).length ≤ _; rw [hl1]; decide⟩
    · obtain rfl := List.mem_singleton.1 hf
      exact ⟨by show 2 ≤ maxLen; unfold maxLen; omega, by show (sealL deB).length ≤ _; rw [hl2]; decide⟩) (seesU_nil w4) (fun x hx => by cases hx) (fun h => absurd rfl h))
  rw [s8c] at HA4
  clear hD4 hS4 hb4
  go_wp2_with fail
  refine HA4.out.mono ?_; rintro e w5 ⟨P5, rfl, hD5, hS5⟩
  obtain ⟨hP5, hb5⟩ := hS5.ge (n := w.heap.size) hP4 hB4.size
  have hB5 := hB4.trans hb5
  have HA5 := Lib.hid (load_any g P5 _ nS w5 hD5 (by decide) (by show (sealL abcB).length ≤ _; rw [hl1]; decide) (hE.below hB5))
  rw [s8d] at HA5
  clear hD5 hS5 hb5
  go_wp2_with fail
  refine HA5.out.mono ?_; rintro e w6 ⟨v6, rfl, hs6, -, hb6⟩
  have q1 := conv_sees hs6
  rw [abcT] at q1
  have HSP := Lib.hid (spare_any nS w6 (by decide))
  rw [tildeS] at HSP
  clear hs6
  go_wp2_with fail
  refine HSP.out.mono ?_; rintro e w' ⟨rfl, rfl⟩
  go_wp2_with fail
  go_ret
  exact ⟨rfl, bel hB5 hb6⟩
set_option maxRecDepth 100000 in
set_option maxHeartbeats 2000000 in
theorem lawNil8 (w : World) (v : Value) (xs : List Int) (h : Sees w v xs) (_ : okB xs) (_ : xs.length ≤ maxLen) (hE : Env w) :
    Calls Tryd.prog 9 #[v] w fun e w' => e = .returned (.bool true) ∧ Below w.heap.size w w' := by
  obtain ⟨ao, c, rfl, -⟩ := h
  have HS2 := Lib.hid (fun W => save_nil nS (.slice ao xs.length c) W ao xs.length c rfl (by decide) (by decide))
  have HS3 := Lib.hid (fun g W => save_empty (ptr g) (.slice ao xs.length c) W ao xs.length c rfl ⟨_, rfl⟩)
  go_enter Tryd.func9, Tryd.ntmps9
  go_wp2_with fail
  refine (load_nil nS w).mono ?_; rintro e w1 ⟨rfl, hb1⟩
  go_wp2_with fail
  refine (HS2.out _).mono ?_; rintro e w2 ⟨rfl, hb2⟩
  have hB2 := bel hb1 hb2
  go_wp2_with fail
  refine (new_disk w2).mono ?_; rintro e w3 ⟨g, rfl, hD3, hg, hb3⟩
  have hB3 := bel hB2 hb3
  go_wp2_with fail
  refine (HS3.out g _).mono ?_; rintro e w4 ⟨rfl, hb4⟩
  have hB4 := bel hB3 hb4
  go_wp2_with fail
  refine (awake8_any _ (hE.below hB4)).mono ?_; rintro e w5 ⟨rfl, hb5⟩
  go_wp2_with fail
  go_ret
  exact ⟨rfl, bel hB4 hb5⟩
end Go.Proofs.YtkjdfelmjanpcaaDoor
