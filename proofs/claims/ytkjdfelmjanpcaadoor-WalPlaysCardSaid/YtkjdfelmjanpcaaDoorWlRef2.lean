/- The document's own log: Open. -/
import Derived.Test.YtkjdfelmjanpcaaDoorWlRef
namespace Go.Proofs.YtkjdfelmjanpcaaDoor
open Go.RowKit Go.Maps
def ROpenPost (w : World) (r : Nat) (Q : Nat → Prop) (D : DSt) (nm : ByteArray) (e : Ending) (w' : World) : Prop :=
  ∃ Q', Step Q Q' w w' ∧
    (((readD D nm.data.toList).2 = 12 ∧ e = .returned (.tuple #[.pointer none, .slice none 0 0, .int .i64 12]) ∧ RefAt w' r Q' D) ∨
     ((readD D nm.data.toList).2 ≠ 12 ∧ ∃ ls n x, AllIs ls (readD D nm.data.toList).1 n x ∧ RefAt w' r Q' (settleD D nm.data.toList (readD D nm.data.toList).1.length n).2 ∧
       (((settleD D nm.data.toList (readD D nm.data.toList).1.length n).1 ≠ 0 ∧ e = .returned (.tuple #[.pointer none, .slice none 0 0, .int .i64 (settleD D nm.data.toList (readD D nm.data.toList).1.length n).1])) ∨
        ((settleD D nm.data.toList (readD D nm.data.toList).1.length n).1 = 0 ∧ ∃ l v, e = .returned (.tuple #[ptr l, v, .int .i64 0]) ∧ LogIs 39 w' l r nm n false ∧ SeesRow w' v ls ∧ ¬ Q' l ∧ w.heap.size ≤ l))))
/-- The last part: the log, or the error. -/
theorem ropen_end {w w3 : World} {r n x : Nat} {Q Q3 : Nat → Prop} {D D3 : DSt} {nm : ByteArray} {ls : List (List Int)} {v : Value} {er : Int} (hS : Step Q Q3 w w3) (hR : RefAt w3 r Q3 D3) (he : (readD D nm.data.toList).2 ≠ 12) (ha : AllIs ls (readD D nm.data.toList).1 n x)
    (hd : settleD D nm.data.toList (readD D nm.data.toList).1.length n = (er, D3)) (hrow : SeesRow w3 v ls) :
    (er ≠ 0 → ROpenPost w r Q D nm (.returned (.tuple #[.pointer none, .slice none 0 0, .int .i64 er])) w3) ∧
    (er = 0 → ROpenPost w r Q D nm (.returned (.tuple #[ptr w3.heap.size, v, .int .i64 0])) (w3.alloc (.cells #[ptr r, .string nm, .int .i64 (n : Nat), .bool false] 39))) := by
  refine ⟨fun h0 => ⟨Q3, hS, Or.inr ⟨he, ls, n, x, ha, by rw [hd]; exact hR, Or.inl ⟨by rw [hd]; exact h0, by rw [hd]⟩⟩⟩, fun h0 => ?_⟩
  have hb := belNew w3 (.cells #[ptr r, .string nm, .int .i64 (n : Nat), .bool false] 39)
  refine ⟨Q3, ⟨hS.1.trans (Touch.of_below _ hb) (fun _ _ h => h), hS.2⟩, Or.inr ⟨he, ls, n, x, ha, by rw [hd]; exact hR.below hb, Or.inr ⟨by rw [hd]; exact h0, w3.heap.size, v, rfl, heap_alloc_new w3 _, hrow.keep hb, fun hq => absurd (hR.lt hq) (Nat.lt_irrefl _), hS.1.2.2.2.1⟩⟩⟩
set_option linter.unusedVariables false in
set_option maxRecDepth 100000 in
set_option maxHeartbeats 8000000 in
theorem ropen_any (r : Nat) (Q : Nat → Prop) (D : DSt) (nm : ByteArray) (w : World) (h : RefAt w r Q D) (hs0 : nm.data.toList ≠ []) (hn : D.fs.length ≤ 1000) (hall : ∀ f ∈ D.fs, f.2.1.length ≤ 100000) (hoks : ∀ f ∈ D.fs, okB f.2.1) :
    Calls Tryd.prog 40 #[ptr r, .string nm] w (ROpenPost w r Q D nm) := by
  have d0 : (nm.toList == ([] : List UInt8)) = false := by rw [ByteArray.toList_eq]; simpa using hs0
  have HRD := Lib.hid (Read_r r Q D nm w h (by omega))
  cases hg : getE D.fs nm.data.toList with
  | none =>
    have hr : readD D nm.data.toList = ([], 6) := by unfold readD; rw [hg]
    rw [hr] at HRD
    have hset : settleD D nm.data.toList (readD D nm.data.toList).1.length 0 = (0, D) := by
      rw [hr]
      unfold settleD
      rw [hg]
      simp
    have HEN := Lib.hid (fun (w1 : World) (hb : Below w.heap.size w w1) => (ropen_end (v := .slice none 0 0) (Step.below hb (Step.refl Q w1)) (h.below hb) (by rw [hr]; decide) (by rw [hr]; exact (⟨rfl, rfl, by decide⟩ : AllIs [] [] 0 6)) hset ⟨none, 0, rfl, Nat.le_refl _, fun _ => rfl, fun a ha => by cases ha⟩).2 rfl)
    clear hr hset hg h hall hoks
    go_enter Tryd.func40, Tryd.ntmps40
    go_wp2_with fail
    refine HRD.out.mono ?_; rintro e w1 ⟨rfl, hb1⟩
    have HX := Lib.hid (HEN.out w1 hb1)
    go_wp2_with fail
    go_ret3
    exact HX.out
  | some u =>
    have hu := getE_mem hg
    have hul := hall _ hu
    have huo := hoks _ hu
    simp only [] at hul huo
    by_cases hlost : D.lost = true
    · have hr : readD D nm.data.toList = ([], 12) := by unfold readD; rw [hg]; simp only []; rw [if_pos hlost]
      rw [hr] at HRD
      have HEN := Lib.hid (fun (w1 : World) (hb : Below w.heap.size w w1) => (show ROpenPost w r Q D nm (.returned (.tuple #[.pointer none, .slice none 0 0, .int .i64 12])) w1 from ⟨Q, Step.below hb (Step.refl Q w1), Or.inl ⟨by rw [hr], rfl, h.below hb⟩⟩))
      clear hr hg h hall hoks
      go_enter Tryd.func40, Tryd.ntmps40
      go_wp2_with fail
      refine HRD.out.mono ?_; rintro e w1 ⟨rfl, hb1⟩
      have HX := Lib.hid (HEN.out w1 hb1)
      go_wp2_with fail
      go_ret3
      exact HX.out
    · have hr : readD D nm.data.toList = (u.1, 0) := by unfold readD; rw [hg]; simp only []; rw [if_neg hlost]
      rw [hr] at HRD
      have HH := Lib.hid h
      have HG := Lib.hid hg
      have HR := Lib.hid hr
      have HUO := Lib.hid huo
      have hal : Hid (∀ f ∈ D.fs, f.2.1.length ≤ 100000) := Lib.hid hall
      have es0 : ((strOfNums u.1).size : Int) = (u.1.length : Int) := by rw [strOfNums_size]
      have es1 : (strOfNums u.1).size = u.1.length := strOfNums_size _
      clear hr hg h hall hoks huo hu hlost
      go_enter Tryd.func40, Tryd.ntmps40
      go_wp2_with fail
      refine HRD.out.mono ?_; rintro e w1 ⟨rfl, hb1⟩
      obtain ⟨cy, hcy⟩ : ∃ cy, cy = grownCap w1 (strOfNums u.1).size 0 5 := ⟨_, rfl⟩
      have hcv := Lib.run_convert_string_bytes (P := Tryd.prog) w1 9 32 5 (strOfNums u.1) Tryd.underlying9 Tryd.underlying32 Tryd.underlying5
      have hsz := bytes_sees w1 (strOfNums u.1)
      rw [strI_of HUO.out] at hsz
      rw [← hcy] at hcv hsz
      have hbz := bytes_below w1 5 (strOfNums u.1)
      obtain ⟨wz, hwz⟩ : ∃ wz, wz = Lib.bytesWorld w1 5 (strOfNums u.1) := ⟨_, rfl⟩
      rw [← hwz] at hcv hsz hbz
      rw [strOfNums_size u.1] at hcv hsz
      have HBZ := Lib.hid (bel hb1 hbz)
      have HAL := Lib.hid (rall_z _ u.1 wz hsz HUO.out hul)
      have hz1 := hb1.size
      have hz2 := hbz.size
      clear hwz hcy hsz hbz
      go_wp2_with fail
      refine HAL.out.mono ?_; rintro e w2 ⟨v2, ls, n, x, rfl, hrow, ha, hb2⟩
      have hroom := Steps.room _ _ _ ha.1
      have hB2 := bel HBZ.out hb2
      have HROW := Lib.hid hrow
      have HA := Lib.hid ha
      have HB2 := Lib.hid hB2
      obtain ⟨rv, q1, q2, q3, q4, q5, q6, q7⟩ := HH.out.below hB2
      have HF := Lib.hid (Find_r r rv _ _ D.fs nm w2 q1 q2.sees (by omega))
      rw [HG.out] at HF
      simp only [fileV, Option.isSome_some] at HF
      clear hrow ha q1 q2 q3 q4 q5 q6 q7
      go_wp2_with fail
      refine HF.out.mono ?_; rintro e w3 ⟨rfl, hb3⟩
      have hbA := belAlloc hb3 (.cells #[.string nm, .string (strOfNums u.1), .int .i64 (u.2 : Nat)] 89)
      have hcA := heap_alloc_new w3 (.cells #[.string nm, .string (strOfNums u.1), .int .i64 (u.2 : Nat)] 89)
      obtain ⟨c0, c1, c2⟩ := rcells hcA
      obtain ⟨w4, hw4⟩ : ∃ w4, w4 = w3.alloc (.cells #[.string nm, .string (strOfNums u.1), .int .i64 (u.2 : Nat)] 89) := ⟨_, rfl⟩
      rw [← hw4] at hbA hcA c0 c1 c2
      have hB4 := bel HB2.out hbA
      have hR4 := HH.out.below hB4
      have HR4 := Lib.hid hR4
      have HB4 := Lib.hid hB4
      have HROW4 := Lib.hid (HROW.out.keep hbA)
      have HQW : Hid (∀ i, Q i → i < w.heap.size) := Lib.hid (fun i hi => HH.out.lt hi)
      have hzB := HBZ.out.size
      have hlen : n ≤ u.1.length := hroom.2
      have HW4 := Lib.hid hw4
      -- rows stay behind a step of the disk
      have HST : Hid (∀ (Q5 : Nat → Prop) (w5 : World), Step Q Q5 w4 w5 → SeesRow w5 v2 ls) := Lib.hid (fun Q5 w5 hS => RowZ.sees (HROW4.out.stay1 hS.1.2.2.2.1 (fun d hd hlt => hS.1.2.2.2.2 d hlt (fun hq => by
        have h1 := HQW.out d hq
        rcases hd with hd | hd
        · have h2 := (HROW4.out.lt hd).1
          omega
        · have h2 : w1.heap.size = d := by
            have := hd.2
            simpa [Value.ownBlock] using this
          omega))))
      have HEN : Hid (∀ (Q5 : Nat → Prop) (w5 : World) (er : Int) (D5 : DSt), Step Q Q5 w4 w5 → RefAt w5 r Q5 D5 → settleD D nm.data.toList u.1.length n = (er, D5) →
        (er ≠ 0 → ROpenPost w r Q D nm (.returned (.tuple #[.pointer none, .slice none 0 0, .int .i64 er])) w5) ∧ (er = 0 → ROpenPost w r Q D nm (.returned (.tuple #[ptr w5.heap.size, v2, .int .i64 0])) (w5.alloc (.cells #[ptr r, .string nm, .int .i64 (n : Nat), .bool false] 39)))) := Lib.hid (fun Q5 w5 er D5 hS hR5 hd => ropen_end (Step.below HB4.out hS) hR5 (by rw [HR.out]; simp) (by rw [HR.out]; exact HA.out) (by rw [HR.out]; exact hd) (HST.out Q5 w5 hS))
      clear hbA hcA hw4 hB4 hR4 hroom hb3 hB2 hb2
      by_cases h1 : n < u.1.length
      · have d1 : decide ((n : Int) < (u.1.length : Int)) = true := by simp; omega
        have HC := Lib.hid (Cut_r r Q D nm (n : Nat) w4 HR4.out (by omega))
        have hsd : settleD D nm.data.toList u.1.length n = cutD D nm.data.toList (n : Nat) := if_pos h1
        obtain ⟨ec, hec⟩ : ∃ ec, ec = (cutD D nm.data.toList (n : Nat)).1 := ⟨_, rfl⟩
        obtain ⟨DC, hDC⟩ : ∃ DC, DC = (cutD D nm.data.toList (n : Nat)).2 := ⟨_, rfl⟩
        have HSD : Hid (settleD D nm.data.toList u.1.length n = (ec, DC)) := Lib.hid (by rw [hsd, hec, hDC])
        rw [← hec, ← hDC] at HC
        clear hsd hec hDC
        go_wp2_with fail
        rw [← HW4.out]
        refine HC.out.mono ?_; rintro e w5 ⟨Q5, rfl, hR5, hS5⟩
        have HX := Lib.hid (HEN.out Q5 w5 ec DC hS5 hR5 HSD.out)
        clear hR5 hS5
        by_cases h0 : ec = 0
        · subst h0
          have HY := Lib.hid (HX.out.2 rfl)
          go_wp2_with fail
          go_ret3
          exact HY.out
        · have d9 : (ec != 0) = true := by simpa using h0
          have HY := Lib.hid (HX.out.1 h0)
          clear h0
          go_wp2_with fail
          go_ret3
          exact HY.out
      · have d1 : decide ((n : Int) < (u.1.length : Int)) = false := by simp; omega
        by_cases h2 : u.2 < u.1.length
        · have d2 : decide (((u.2 : Nat) : Int) < (u.1.length : Int)) = true := by simp; omega
          have HC := Lib.hid (Sync_r r Q D nm w4 HR4.out (by omega))
          have hsd : settleD D nm.data.toList u.1.length n = syncD D nm.data.toList := by unfold settleD; rw [if_neg h1, HG.out]; exact if_pos h2
          obtain ⟨ec, hec⟩ : ∃ ec, ec = (syncD D nm.data.toList).1 := ⟨_, rfl⟩
          obtain ⟨DC, hDC⟩ : ∃ DC, DC = (syncD D nm.data.toList).2 := ⟨_, rfl⟩
          have HSD : Hid (settleD D nm.data.toList u.1.length n = (ec, DC)) := Lib.hid (by rw [hsd, hec, hDC])
          rw [← hec, ← hDC] at HC
          clear hsd hec hDC
          go_wp2_with fail
          rw [← HW4.out]
          refine HC.out.mono ?_; rintro e w5 ⟨Q5, rfl, hR5, hS5⟩
          have HX := Lib.hid (HEN.out Q5 w5 ec DC hS5 hR5 HSD.out)
          clear hR5 hS5
          by_cases h0 : ec = 0
          · subst h0
            have HY := Lib.hid (HX.out.2 rfl)
            go_wp2_with fail
            go_ret3
            exact HY.out
          · have d9 : (ec != 0) = true := by simpa using h0
            have HY := Lib.hid (HX.out.1 h0)
            clear h0
            go_wp2_with fail
            go_ret3
            exact HY.out
        · have d2 : decide (((u.2 : Nat) : Int) < (u.1.length : Int)) = false := by simp; omega
          have hsd : settleD D nm.data.toList u.1.length n = (0, D) := by unfold settleD; rw [if_neg h1, HG.out]; exact if_neg h2
          have HY := (HEN.out Q w4 0 D (Step.refl _ _) HR4.out hsd).2 rfl
          rw [HW4.out, World.size_alloc] at HY
          have HY := Lib.hid HY
          clear hsd
          go_wp2_with fail
          go_ret3
          exact HY.out
end Go.Proofs.YtkjdfelmjanpcaaDoor
