/- The document's own disk: Remove, Arm, New, Read. -/
import Derived.Test.YtkjdfelmjanpcaaDoorDkRef5
namespace Go.Proofs.YtkjdfelmjanpcaaDoor
open Go.RowKit Go.Maps
set_option maxRecDepth 100000 in
set_option maxHeartbeats 2000000 in
theorem Remove_r (r : Nat) (Q : Nat → Prop) (D : DSt) (s : ByteArray) (w : World) (h : RefAt w r Q D) (hn : D.fs.length ≤ 1000000) :
    Calls Tryd.prog 67 #[ptr r, .string s] w fun e w' => ∃ Q', e = .returned (.int .i64 (removeD D s.data.toList).1) ∧ RefAt w' r Q' (removeD D s.data.toList).2 ∧ Step Q Q' w w' := by
  have HRA := Lib.hid h
  obtain ⟨v, h1, h2, h3, h4, h5, h6, h7⟩ := h
  have HF := Lib.hid (Find_r r v _ _ D.fs s w h1 h2.sees hn)
  cases hgf : getE D.fs s.data.toList with
  | none =>
    have e1 : removeD D s.data.toList = (6, D) := by unfold removeD; rw [hgf]
    rw [hgf] at HF
    rw [e1]
    simp only [fileV, zeroR, Option.isSome_none] at HF
    clear h1 h2 hgf e1
    go_enter Tryd.func67, Tryd.ntmps67
    go_wp2_with fail
    refine HF.out.mono ?_; rintro e w1 ⟨rfl, hb1⟩
    go_wp2_with fail
    go_ret
    refine ⟨Q, rfl, HRA.out.below ?_, Touch.of_below Q ?_, fun i hi => Or.inl hi⟩
    all_goals
      refine hb1.trans ?_
      repeat (first | exact Below.refl _ _ | refine Below.setCell ?_ (by simp) _ | refine Below.alloc ?_ (by have := hb1.size; simp; omega) _)
  | some u =>
    rw [hgf] at HF
    simp only [fileV, Option.isSome_some] at HF
    have HH := Lib.hid (And.intro h1 h2)
    have HGF := Lib.hid hgf
    have hrl := heap_lt h1
    clear h1 h2 hgf
    go_enter Tryd.func67, Tryd.ntmps67
    go_wp2_with fail
    refine HF.out.mono ?_; rintro e w1 ⟨rfl, hb1⟩
    go_wp2_with fail
    have hbA := belAlloc hb1 (.cells #[.string s, .string (strOfNums u.1), .int .i64 (u.2 : Nat)] 89)
    have hrA := (hbA.block r hrl).trans HH.out.1
    have hcA := heap_alloc_new w1 (.cells #[.string s, .string (strOfNums u.1), .int .i64 (u.2 : Nat)] 89)
    have hz1 := hb1.size
    refine (write_r r v D.lost D.armed D.left _ hrA h6 h7).mono ?_; rintro e w2 ⟨rfl, hr2, ht2⟩
    have hT : Touch (· = r) w w2 := (Touch.of_below _ hbA).trans ht2 (fun _ _ e => e)
    have hL2 := (ht2.2.2.2.2 w1.heap.size (by simp) (by omega)).trans hcA
    obtain ⟨l1, hl1⟩ : ∃ l1, l1 = lost1 D.lost D.armed D.left := ⟨_, rfl⟩
    obtain ⟨n1, hn1⟩ : ∃ n1, n1 = left1 D.lost D.armed D.left := ⟨_, rfl⟩
    obtain ⟨q8, q9⟩ := left1_bd (lost := D.lost) (armed := D.armed) h6 h7
    rw [← hl1, ← hn1] at hr2
    rw [← hn1] at q8 q9
    cases l1 with
    | true =>
      have e1 : removeD D s.data.toList = (12, ⟨D.fs, true, D.armed, n1⟩) := by unfold removeD; rw [HGF.out]; simp only []; rw [← hl1, if_pos rfl, ← hn1]
      have E1 := Lib.hid e1
      have d1 := how_lost hl1.symm
      have HR := Lib.hid (ref_wrote HH.out.1 HH.out.2 h3 h4 h5 hr2 hT q8 q9)
      clear e1 hl1 hn1 hr2 ht2 hT hcA hrA hbA hL2
      go_wp2_with fail
      go_ret
      rw [E1.out]
      exact ⟨Q, rfl, HR.out.1, HR.out.2⟩
    | false =>
      have e1 : removeD D s.data.toList = (0, { fs := delE s.data.toList D.fs, lost := false, armed := D.armed, left := n1 }) := by
        unfold removeD; rw [HGF.out]; simp only []; rw [← hl1, if_neg (by simp), ← hn1]
      have E1 := Lib.hid e1
      rw [how_done hl1.symm]
      have HP := Lib.hid (without_r r v _ _ D.fs s w2 hr2 (row_touch HH.out.2 HH.out.1 hT).sees hn)
      have HT := Lib.hid hT
      have HR2 := Lib.hid hr2
      clear e1 hl1 hn1 hr2 ht2 hcA hrA hbA hL2
      go_wp2_with fail
      refine HP.out.mono ?_; rintro e w3 ⟨v3, rfl, hrow3, hb3⟩
      have hz2 := HT.out.2.2.2.1
      have hr3 := (hb3.block r (by omega)).trans HR2.out
      obtain ⟨c0, -⟩ := rcells hr3
      have f0 := rfroz hr3 0
      obtain ⟨a3, c3, hv3, -⟩ := RowF.sees hrow3
      subst hv3
      have HR := Lib.hid (ref_put (w := w) (w' := w3.setCell ⟨r, 0, none⟩ (.slice a3 (delE s.data.toList D.fs).length c3)) h3 h5 (dset hr3 0 (.slice a3 (delE s.data.toList D.fs).length c3)) (row_le (World.ownsRow.kept hrow3 (grown_set w3 r 0 (.slice a3 (delE s.data.toList D.fs).length c3)) (row_ne hrow3 (by omega))) hz2) ((HT.out.trans (Touch.of_below (· = r) hb3) (fun _ _ e => e)).trans (touch_set w3 r 0 _) (fun _ _ e => e)) q8 q9)
      clear hr3 hrow3 hT
      go_wp2_with fail
      go_ret
      rw [E1.out]
      exact ⟨_, rfl, HR.out.1, HR.out.2⟩
set_option maxHeartbeats 1000000 in
theorem Arm_r (r : Nat) (Q : Nat → Prop) (D : DSt) (n : Int) (w : World) (h : RefAt w r Q D) (_ : -9223372036854775808 ≤ n) (hn : n ≤ 9223372036854775807) :
    Calls Tryd.prog 33 #[ptr r, .int .i64 n] w fun e w' => e = .returned (.tuple #[]) ∧ RefAt w' r Q { D with armed := true, left := max n 0 } ∧ Step Q Q w w' := by
  obtain ⟨v, h1, h2, h3, h4, h5, h6, h7⟩ := h
  obtain ⟨c0, c1, c2⟩ := rcells h1
  have f2 := rfroz h1 2
  have hs1 := dset h1 2 (.int .i64 n)
  by_cases hn0 : n < 0
  · have d0 : decide (n < 0) = true := by simpa using hn0
    have e1 : max n 0 = 0 := by omega
    have hs2 := dset hs1 2 (.int .i64 0)
    have HR := Lib.hid (ref_wrote (w' := (w.setCell ⟨r, 2, none⟩ (.int .i64 n)).setCell ⟨r, 2, none⟩ (.int .i64 0)) (fs := D.fs) (l := D.lost) (a := true) (n := 0) h1 h2 h3 h4 h5 hs2 ((touch_set w r 2 _).trans (touch_set _ r 2 _) (fun _ _ e => e)) (by omega) (by omega))
    rw [e1]
    clear h1 h2 hs1 hs2 e1
    go_enter Tryd.func33, Tryd.ntmps33
    go_wp2_with fail
    go_end0
    exact ⟨rfl, HR.out.1, HR.out.2⟩
  · have d0 : decide (n < 0) = false := by simpa using hn0
    have e1 : max n 0 = n := by omega
    have HR := Lib.hid (ref_wrote (w' := w.setCell ⟨r, 2, none⟩ (.int .i64 n)) (fs := D.fs) (l := D.lost) (a := true) (n := n) h1 h2 h3 h4 h5 hs1 (touch_set w r 2 _) (by omega) (by omega))
    rw [e1]
    clear h1 h2 hs1 e1
    go_enter Tryd.func33, Tryd.ntmps33
    go_wp2_with fail
    go_end0
    exact ⟨rfl, HR.out.1, HR.out.2⟩
theorem New_r (w : World) : Calls Tryd.prog 11 #[] w fun e w' => ∃ r, e = .returned (ptr r) ∧ RefAt w' r (· = r) ⟨[], false, false, 0⟩ ∧ w.heap.size ≤ r ∧ Below w.heap.size w w' := by
  go_enter Tryd.func11, Tryd.ntmps11
  go_wp2_with fail
  go_ret
  exact ⟨_, rfl, ⟨.slice none 0 0, heap_alloc_new w _, World.ownsRow_nil _ _ _ _, rfl, (fun d hd => by cases hd), (fun i e => by rw [e]; simp), by simp, by simp⟩, Nat.le_refl _, belNew w _⟩
set_option maxRecDepth 100000 in
set_option maxHeartbeats 2000000 in
theorem Read_r (r : Nat) (Q : Nat → Prop) (D : DSt) (s : ByteArray) (w : World) (h : RefAt w r Q D) (hn : D.fs.length ≤ 1000000) :
    Calls Tryd.prog 18 #[ptr r, .string s] w fun e w' => e = .returned (.tuple #[.string (strOfNums (readD D s.data.toList).1), .int .i64 (readD D s.data.toList).2]) ∧ Below w.heap.size w w' := by
  obtain ⟨v, h1, h2, h3, h4, h5, h6, h7⟩ := h
  have HF := Lib.hid (Find_r r v _ _ D.fs s w h1 h2.sees hn)
  cases hgf : getE D.fs s.data.toList with
  | none =>
    have e1 : readD D s.data.toList = ([], 6) := by unfold readD; rw [hgf]
    rw [hgf] at HF
    rw [e1]
    simp only [fileV, zeroR, Option.isSome_none] at HF
    clear h1 h2 hgf e1
    go_enter Tryd.func18, Tryd.ntmps18
    go_wp2_with fail
    refine HF.out.mono ?_; rintro e w1 ⟨rfl, hb1⟩
    go_wp2_with fail
    refine bodyPost_ret (v := .tuple #[.string ⟨#[]⟩, .int .i64 6]) (by simp [results, Tryd.results18, go_sem]) rfl ⟨rfl, ?_⟩
    all_goals
      refine hb1.trans ?_
      repeat (first | exact Below.refl _ _ | refine Below.setCell ?_ (by simp) _ | refine Below.alloc ?_ (by have := hb1.size; simp; omega) _)
  | some u =>
    rw [hgf] at HF
    simp only [fileV, Option.isSome_some] at HF
    have HH := Lib.hid h1
    have hrl := heap_lt h1
    cases hl : D.lost with
    | true =>
      have e1 : readD D s.data.toList = ([], 12) := by unfold readD; rw [hgf]; simp only []; rw [if_pos hl]
      rw [e1]
      rw [hl] at HH
      clear h1 h2 hgf e1 hl
      go_enter Tryd.func18, Tryd.ntmps18
      go_wp2_with fail
      refine HF.out.mono ?_; rintro e w1 ⟨rfl, hb1⟩
      obtain ⟨c0, c1, -⟩ := rcells ((hb1.block r hrl).trans HH.out)
      obtain ⟨-, c1', -⟩ := rcells (((belAlloc hb1 (.cells #[.string s, .string (strOfNums u.1), .int .i64 (u.2 : Nat)] 89)).block r hrl).trans HH.out)
      go_wp2_with fail
      refine bodyPost_ret (v := .tuple #[.string ⟨#[]⟩, .int .i64 12]) (by simp [results, Tryd.results18, go_sem]) rfl ⟨rfl, hb1.trans ?_⟩
      repeat (first | exact Below.refl _ _ | refine Below.setCell ?_ (by simp) _ | refine Below.alloc ?_ (by have := hb1.size; simp; omega) _)
    | false =>
      have e1 : readD D s.data.toList = (u.1, 0) := by unfold readD; rw [hgf]; simp only []; rw [if_neg (by rw [hl]; simp)]
      rw [e1]
      rw [hl] at HH
      clear h1 h2 hgf e1 hl
      go_enter Tryd.func18, Tryd.ntmps18
      go_wp2_with fail
      refine HF.out.mono ?_; rintro e w1 ⟨rfl, hb1⟩
      obtain ⟨c0, c1, -⟩ := rcells ((hb1.block r hrl).trans HH.out)
      obtain ⟨-, c1', -⟩ := rcells (((belAlloc hb1 (.cells #[.string s, .string (strOfNums u.1), .int .i64 (u.2 : Nat)] 89)).block r hrl).trans HH.out)
      go_wp2_with fail
      refine bodyPost_ret (v := .tuple #[.string (strOfNums u.1), .int .i64 0]) (by simp [results, Tryd.results18, go_sem]) rfl ⟨rfl, hb1.trans ?_⟩
      repeat (first | exact Below.refl _ _ | refine Below.setCell ?_ (by simp) _ | refine Below.alloc ?_ (by have := hb1.size; simp; omega) _)
end Go.Proofs.YtkjdfelmjanpcaaDoor
