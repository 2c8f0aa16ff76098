/- The walks of virgatelaw07's awake and of WalNil. Conditions: the world facts of Env. -/
import Derived.Test.YtkjdfelmjanpcaaDoorWo
import Derived.Lib.SlBytesConst
namespace Go.Proofs.YtkjdfelmjanpcaaDoor
open Go.RowKit Go.Maps
/-- Open, where what it comes to is known. -/
theorem open_ok (g : Nat) (P : Nat → Prop) (D D' : DSt) (nm : ByteArray) (xs : List Int) (er : Int) (ls : List (List Int)) (n x : Nat) (w : World) (h : DiskAt w g P D) (hs : nm.size ≤ maxLen) (hs0 : nm.data.toList ≠ []) (hn : D.fs.length ≤ 1000) (hall : ∀ f ∈ D.fs, f.2.1.length ≤ 100000) (hE : Env w)
    (hr : readD D nm.data.toList = (xs, er)) (he : er ≠ 12) (ha : AllIs ls xs n x) (hd : settleD D nm.data.toList xs.length n = (0, D')) :
    Calls Tryd.prog 20 #[ptr g, .string nm] w fun e w' => ∃ P' l v, e = .returned (.tuple #[ptr l, v, .int .i64 0]) ∧ DiskAt w' g P' D' ∧ LogIs 83 w' l g nm n false ∧ (∀ w'', Touch (fun i => P' i ∨ i = l) w' w'' → RowN w'' w.heap.size v ls) ∧ ¬ P' l ∧ w.heap.size ≤ l ∧ Step P P' w w' := by
  refine (open_any g P D nm w h hs hs0 hn hall hE).mono ?_
  rintro e w' ⟨P', hS, ⟨h1, _⟩ | ⟨_, ls', n', x', ha', hD', hh⟩⟩
  · rw [hr] at h1
    exact absurd h1 he
  · rw [hr] at ha' hD' hh
    obtain ⟨rfl, rfl, rfl⟩ := AllIs.same _ _ _ _ _ _ _ ha ha'
    rw [hd] at hD' hh
    rcases hh with ⟨h1, _⟩ | ⟨_, l, v, rfl, hl, hrow, hp, hlt⟩
    · exact absurd rfl h1
    · exact ⟨P', l, v, rfl, hD', hl, hrow, hp, hlt, hS⟩
/-- The name w. -/
def nW : ByteArray := ⟨#[119]⟩
def abcL : List Int := [97, 98, 99]
def defL : List Int := [100, 101, 102, 103, 104]
def wD (xs : List Int) (su : Nat) (lost armed : Bool) : DSt := ⟨[([119], (xs, su))], lost, armed, 0⟩
theorem wr0 : readD ⟨[], false, false, 0⟩ nW.data.toList = ([], 6) := by kernel_rfl
theorem ws0 : settleD ⟨[], false, false, 0⟩ nW.data.toList ([] : List Int).length 0 = (0, ⟨[], false, false, 0⟩) := by kernel_rfl
theorem wa0 : AllIs [] [] 0 6 := ⟨rfl, rfl, by decide⟩
theorem wa1 : walA ⟨⟨[], false, false, 0⟩, 0, false⟩ nW.data.toList abcL = (0, ⟨wD (frameL abcL) 11 false false, 11, false⟩) := by kernel_rfl
theorem wa2 : walA ⟨wD (frameL abcL) 11 false true, 11, false⟩ nW.data.toList defL = (12, ⟨wD (frameL abcL ++ frameL defL) 11 true true, 0, true⟩) := by kernel_rfl
theorem wc3 : crashD (wD (frameL abcL ++ frameL defL) 11 true true) [9] = wD ((frameL abcL ++ frameL defL).take 20) 20 false false := by kernel_rfl
theorem wr4 : readD (wD ((frameL abcL ++ frameL defL).take 20) 20 false false) nW.data.toList = ((frameL abcL ++ frameL defL).take 20, 0) := by kernel_rfl
theorem wa4 : AllIs [abcL] ((frameL abcL ++ frameL defL).take 20) 11 4 := by
  refine ⟨⟨by kernel_rfl, by kernel_rfl, 0, rfl, by kernel_rfl⟩, by kernel_rfl, by decide⟩
theorem ws4 : settleD (wD ((frameL abcL ++ frameL defL).take 20) 20 false false) nW.data.toList ((frameL abcL ++ frameL defL).take 20).length 11 = (0, wD ((frameL abcL ++ frameL defL).take 11) 11 false false) := by kernel_rfl
theorem abcS : strOfNums abcL = ⟨#[97, 98, 99]⟩ := by kernel_rfl
theorem wsmall (xs : List Int) (su : Nat) (a b : Bool) (h : xs.length ≤ 100000) : ∀ f ∈ (wD xs su a b).fs, f.2.1.length ≤ 100000 := fun f hf => by
  obtain rfl := List.mem_singleton.1 hf
  exact h
set_option maxRecDepth 100000 in
set_option maxHeartbeats 8000000 in
theorem awake7_any (w : World) (hE : Env w) : Calls Tryd.prog 19 #[] w fun e w' => e = .returned (.bool true) ∧ Below w.heap.size w w' := by
  have HN := Lib.hid (new_disk w)
  have kc := fun (w : World) (C : Array Value) (n c : Nat) => Lib.run_convert_bytes_const (P := Tryd.prog) w 32 5 C n c Tryd.underlying32 Tryd.underlying5
  go_enter Tryd.func19, Tryd.ntmps19
  go_wp2_with fail
  refine HN.out.mono ?_; rintro e w1 ⟨g, rfl, hD1, hg, hb1⟩
  have hz1 := hb1.size
  have HO1 := Lib.hid (open_ok g _ _ _ nW [] 6 [] 0 6 w1 hD1 (by decide) (by decide) (by decide) (fun f hf => by cases hf) (hE.below hb1) wr0 (by decide) wa0 ws0)
  go_wp2_with fail
  refine HO1.out.mono ?_; rintro e w2 ⟨P2, l, rv, rfl, hD2, hl2, -, hPl2, hgl2, hS2⟩
  obtain ⟨hP2, hb2⟩ := hS2.ge (n := w.heap.size) (fun i e => by rw [e]; exact hg) hz1
  have hlB : w.heap.size ≤ l := by omega
  have hB2 := hb1.trans hb2
  obtain ⟨U2, hU2⟩ : ∃ U, U = w2.alloc (.cells #[.int .u8 97, .int .u8 98, .int .u8 99] 5 (3, 4)) := ⟨_, rfl⟩
  have hA2 : Below w2.heap.size w2 U2 := by rw [hU2]; exact belNew w2 _
  have hs2 : Sees U2 (.slice (some ⟨w2.heap.size, 0, none⟩) 3 3) abcL := by
    refine ⟨some ⟨w2.heap.size, 0, none⟩, 3, rfl, Nat.le_refl _, (fun h => by cases h), fun a ha i hi => ?_⟩
    cases ha
    rw [addz, hU2, World.cell?_alloc_mark w2 _ _ _ i]
    match i, hi with
    | 0, _ | 1, _ | 2, _ => rfl
    | i + 3, hi => exact absurd hi (by simp [abcL])
  have hEU2 : Env U2 := hE.below (bel hB2 hA2)
  have HA2 := Lib.hid (lappend_any l g P2 ⟨⟨[], false, false, 0⟩, 0, false⟩ nW _ abcL U2 (hD2.below hA2) (hl2.below hA2) hPl2 (by decide) (by decide) (by decide) (by decide) (by decide) hs2 (by intro x hx; simp [abcL] at hx; omega) (by decide) hEU2)
  rw [wa1] at HA2
  have HU2 := Lib.hid hU2
  have hBU2 := bel hB2 hA2
  have hzU2 := hA2.size
  have hlU2 : l < U2.heap.size := by have := heap_lt hl2; omega
  clear hU2 hs2 hEU2 hD2 hl2 hS2
  go_wp2_with fail
  rw [← HU2.out]
  refine HA2.out.mono ?_; rintro e w3 ⟨P3, rfl, hD3, hl3, hS3⟩
  (try dsimp only at hD3 hl3)
  obtain ⟨hP3, hb3⟩ := hS3.ge (n := w.heap.size) hP2 hlB hBU2.size
  have hPl3 : ¬ P3 l := hS3.not hlU2 hPl2
  have hB3 := hBU2.trans hb3
  have HA3 := Lib.hid (arm_any g P3 _ 0 w3 hD3 (by decide) (by decide))
  rw [show ({ wD (frameL abcL) 11 false false with armed := true, left := max 0 0 } : DSt) = wD (frameL abcL) 11 false true from rfl] at HA3
  have HL3 := Lib.hid hl3
  clear hD3 hl3 hS3
  go_wp2_with fail
  refine HA3.out.mono ?_; rintro e w4 ⟨rfl, hD4, hT4⟩
  have hl4 := HL3.out.keep hT4 hPl3
  have hB4 : Below w.heap.size w w4 := hB3.trans (hT4.below hB3.size hP3)
  obtain ⟨U4, hU4⟩ : ∃ U, U = w4.alloc (.cells #[.int .u8 100, .int .u8 101, .int .u8 102, .int .u8 103, .int .u8 104] 5 (5, 6)) := ⟨_, rfl⟩
  have hA4 : Below w4.heap.size w4 U4 := by rw [hU4]; exact belNew w4 _
  have hs4 : Sees U4 (.slice (some ⟨w4.heap.size, 0, none⟩) 5 5) defL := by
    refine ⟨some ⟨w4.heap.size, 0, none⟩, 5, rfl, Nat.le_refl _, (fun h => by cases h), fun a ha i hi => ?_⟩
    cases ha
    rw [addz, hU4, World.cell?_alloc_mark w4 _ _ _ i]
    match i, hi with
    | 0, _ | 1, _ | 2, _ | 3, _ | 4, _ => rfl
    | i + 5, hi => exact absurd hi (by simp [defL])
  have hEU4 : Env U4 := hE.below (bel hB4 hA4)
  have hfl : (frameL abcL).length = 11 := frameL_len abcL
  have HA4 := Lib.hid (lappend_any l g P3 ⟨wD (frameL abcL) 11 false true, 11, false⟩ nW _ defL U4 (hD4.below hA4) (hl4.below hA4) hPl3 (by decide) (by decide) (by decide) (by decide) (by show (frameL abcL).length ≤ 1000000; rw [hfl]; decide) hs4 (by intro x hx; simp [defL] at hx; omega) (by decide) hEU4)
  rw [wa2] at HA4
  have HU4 := Lib.hid hU4
  have hBU4 := bel hB4 hA4
  have hlU4 : l < U4.heap.size := by have := heap_lt hl4; have := hA4.size; omega
  clear hU4 hs4 hEU4 hD4 hl4 hT4
  go_wp2_with fail
  rw [← HU4.out]
  refine HA4.out.mono ?_; rintro e w5 ⟨P5, rfl, hD5, hl5, hS5⟩
  (try dsimp only at hD5 hl5)
  obtain ⟨hP5, hb5⟩ := hS5.ge (n := w.heap.size) hP3 hlB hBU4.size
  have hPl5 : ¬ P5 l := hS5.not hlU4 hPl3
  have hB5 := hBU4.trans hb5
  have hA5 := belNew w5 (.cells #[.int .u16 9] 92)
  have hk5 : SeesU (w5.alloc (.cells #[.int .u16 9] 92)) (.slice (some ⟨w5.heap.size, 0, none⟩) 1 1) [9] := ⟨some ⟨w5.heap.size, 0, none⟩, 1, rfl, Nat.le_refl _, (fun h => by cases h), fun a ha i hi => by
    cases ha
    obtain rfl : i = 0 := by simpa using hi
    exact cell_of_row _ w5.heap.size 0 #[.int .u16 9] 92 (0, 0) (heap_alloc_new w5 (.cells #[.int .u16 9] 92))⟩
  have hfl2 : (frameL abcL ++ frameL defL).length = 24 := by rw [List.length_append, frameL_len, frameL_len]; rfl
  have HA5 := Lib.hid (crash_any g P5 _ _ [9] _ (hD5.below hA5) (by decide) (fun f hf => by
    obtain rfl := List.mem_singleton.1 hf
    exact ⟨by show 1 ≤ maxLen; unfold maxLen; omega, by show (frameL abcL ++ frameL defL).length ≤ _; rw [hfl2]; decide⟩) hk5 (by decide) (fun _ d hd hp => by cases hd; exact absurd (hD5.lt hp) (Nat.lt_irrefl _)))
  rw [wc3] at HA5
  have HL5 := Lib.hid (hl5.below hA5)
  have HB5 := Lib.hid (bel hB5 hA5)
  clear hD5 hl5 hS5 hk5 hA5
  go_wp2_with fail
  refine HA5.out.mono ?_; rintro e w6 ⟨P6, rfl, hD6, hS6⟩
  obtain ⟨hP6, hb6⟩ := hS6.ge (n := w.heap.size) hP5 HB5.out.size
  have hl6 := HL5.out.keep hS6.1 hPl5
  have hPl6 : ¬ P6 l := fun hp => (hS6.2 l hp).elim hPl5 (fun e => by have := heap_lt HL5.out; omega)
  have hB6 := HB5.out.trans hb6
  have htl : ((frameL abcL ++ frameL defL).take 20).length ≤ 100000 := by rw [List.length_take, hfl2]; decide
  have HO6 := Lib.hid (open_ok g P6 _ _ nW _ 0 _ 11 4 w6 hD6 (by decide) (by decide) (by decide) (wsmall _ _ _ _ htl) (hE.below hB6) wr4 (by decide) wa4 ws4)
  have HL6 := Lib.hid hl6
  have HB6 := Lib.hid hB6
  clear hD6 hl6 hS6 hB6 htl
  go_wp2_with fail
  refine HO6.out.mono ?_; rintro e w7 ⟨P7, l7, v7, rfl, hD7, -, hrow7, -, -, hS7⟩
  have hl7 := HL6.out.keep hS7.1 hPl6
  obtain ⟨hP7, hb7⟩ := hS7.ge (n := w.heap.size) hP6 HB6.out.size
  have hB7 := HB6.out.trans hb7
  obtain ⟨ra, rc, hv7, hrc, hrn, hrcell⟩ := (hrow7 _ (Touch.refl _ _)).sees
  subst hv7
  obtain ⟨ra, rfl⟩ : ∃ a, ra = some a := by
    cases ra with
    | none => cases hrn rfl
    | some a => exact ⟨a, rfl⟩
  obtain ⟨u, hu, hus⟩ := hrcell ra rfl 0 (by decide)
  have hu0 : w7.cell? ra = some u := by
    have e : ra.add 0 = ra := by simp [Addr.add]
    rw [e] at hu
    exact hu
  have q1 := conv_sees hus
  rw [show ([abcL] : List (List Int)).getD 0 [] = abcL from rfl, abcS] at q1
  have HD7 := Lib.hid (ldead_any l g nW 0 true w7 hl7)
  have HS7 := Lib.hid (sure_any g P7 _ nW w7 hD7 (by decide))
  rw [show ((getE (wD ((frameL abcL ++ frameL defL).take 11) 11 false false).fs nW.data.toList).getD ([], 0)).2 = 11 from rfl] at HS7
  rw [show (([abcL] : List (List Int)).length) = 1 from rfl]
  rw [show (([abcL] : List (List Int)).length) = 1 from rfl] at hrc
  clear hrow7 hl7 hS7 hD7 hus hu hrn hrcell
  go_wp2_with fail
  refine HD7.out.mono ?_; rintro e w' ⟨rfl, rfl⟩
  go_wp2_with fail
  refine HS7.out.mono ?_; rintro e w8 ⟨rfl, hb8⟩
  go_wp2_with fail
  go_ret
  exact ⟨rfl, bel hB7 hb8⟩
set_option maxRecDepth 100000 in
set_option maxHeartbeats 2000000 in
theorem lawNil7 (w : World) (v : Value) (xs : List Int) (_ : Sees w v xs) (_ : okB xs) (_ : xs.length ≤ maxLen) (hE : Env w) :
    Calls Tryd.prog 6 #[v] w fun e w' => e = .returned (.bool true) ∧ Below w.heap.size w w' := by
  go_enter Tryd.func6, Tryd.ntmps6
  go_wp2_with fail
  refine (open_nil nW (by decide) w).mono ?_; rintro e w1 ⟨rfl, hb1⟩
  go_wp2_with fail
  refine (new_disk w1).mono ?_; rintro e w2 ⟨g, rfl, hD2, hg, hb2⟩
  have hB2 := bel hb1 hb2
  go_wp2_with fail
  refine (open_empty g w2).mono ?_; rintro e w' ⟨rfl, rfl⟩
  go_wp2_with fail
  refine (lappend_nil v _).mono ?_; rintro e w' ⟨rfl, rfl⟩
  go_wp2_with fail
  refine (lclear_nil _).mono ?_; rintro e w' ⟨rfl, rfl⟩
  go_wp2_with fail
  refine (lsize_nil _).mono ?_; rintro e w' ⟨rfl, rfl⟩
  go_wp2_with fail
  refine (ldead_nil _).mono ?_; rintro e w' ⟨rfl, rfl⟩
  go_wp2_with fail
  refine (awake7_any _ (hE.below hB2)).mono ?_; rintro e w7 ⟨rfl, hb7⟩
  go_wp2_with fail
  go_ret
  exact ⟨rfl, bel hB2 hb7⟩
end Go.Proofs.YtkjdfelmjanpcaaDoor
