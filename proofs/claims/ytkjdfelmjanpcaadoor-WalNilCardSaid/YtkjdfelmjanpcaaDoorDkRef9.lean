/- The document's own disk: Cut. -/
import Derived.Test.YtkjdfelmjanpcaaDoorDkRef6
namespace Go.Proofs.YtkjdfelmjanpcaaDoor
open Go.RowKit Go.Maps
theorem str_take (x : List Int) (m : Nat) : (strOfNums x).extract 0 m = strOfNums (x.take m) := by
  unfold strOfNums
  apply ByteArray.ext
  rw [ByteArray.data_extract]
  apply Array.toList_inj.1
  simp [List.map_take]
set_option maxRecDepth 100000 in
set_option maxHeartbeats 2000000 in
theorem Cut_r (r : Nat) (Q : Nat → Prop) (D : DSt) (s : ByteArray) (n : Int) (w : World) (h : RefAt w r Q D) (hn : D.fs.length ≤ 1000000) :
    Calls Tryd.prog 77 #[ptr r, .string s, .int .i64 n] w fun e w' => ∃ Q', e = .returned (.int .i64 (cutD D s.data.toList n).1) ∧ RefAt w' r Q' (cutD D s.data.toList n).2 ∧ Step Q Q' w w' := by
  have HRA := Lib.hid h
  obtain ⟨v, h1, h2, h3, h4, h5, h6, h7⟩ := h
  have HF := Lib.hid (Find_r r v _ _ D.fs s w h1 h2.sees hn)
  cases hgf : getE D.fs s.data.toList with
  | none =>
    have e1 : cutD D s.data.toList n = (6, D) := by unfold cutD; rw [hgf]
    rw [hgf] at HF
    rw [e1]
    simp only [fileV, zeroR, Option.isSome_none] at HF
    clear h1 h2 hgf e1
    go_enter Tryd.func77, Tryd.ntmps77
    go_wp2_with fail
    refine HF.out.mono ?_; rintro e w1 ⟨rfl, hb1⟩
    go_wp2_with fail
    go_ret
    refine ⟨Q, rfl, HRA.out.below ?_, Touch.of_below Q ?_, fun i hi => Or.inl hi⟩
    all_goals
      refine hb1.trans ?_
      repeat (first | exact Below.refl _ _ | refine Below.setCell ?_ (by simp) _ | refine Below.alloc ?_ (by have := hb1.size; simp; omega) _)
  | some u =>
    rw [hgf] at HF
    simp only [fileV, Option.isSome_some] at HF
    have HH := Lib.hid (And.intro h1 h2)
    have HGF := Lib.hid hgf
    have hrl := heap_lt h1
    have e5 : ((strOfNums u.1).size : Int) = (u.1.length : Nat) := by rw [strOfNums_size]
    clear h1 h2 hgf
    by_cases hn0 : n < 0
    · have e1 : cutD D s.data.toList n = (1, D) := by unfold cutD; rw [HGF.out]; simp only []; rw [if_pos (Or.inl hn0)]
      rw [e1]
      clear e1
      have d1 : decide (n < 0) = true := by simpa using hn0
      go_enter Tryd.func77, Tryd.ntmps77
      go_wp2_with fail
      refine HF.out.mono ?_; rintro e w1 ⟨rfl, hb1⟩
      go_wp2_with fail
      go_ret
      refine ⟨Q, rfl, HRA.out.below ?_, Touch.of_below Q ?_, fun i hi => Or.inl hi⟩
      all_goals
        refine hb1.trans ?_
        repeat (first | exact Below.refl _ _ | refine Below.setCell ?_ (by simp) _ | refine Below.alloc ?_ (by have := hb1.size; simp; omega) _)

    by_cases hn1 : (u.1.length : Int) < n
    · have e1 : cutD D s.data.toList n = (1, D) := by unfold cutD; rw [HGF.out]; simp only []; rw [if_pos (Or.inr hn1)]
      rw [e1]
      clear e1
      have d1 : decide (n < 0) = false := by simpa using hn0
      have d2 : decide ((u.1.length : Int) < n) = true := by simpa using hn1
      go_enter Tryd.func77, Tryd.ntmps77
      go_wp2_with fail
      refine HF.out.mono ?_; rintro e w1 ⟨rfl, hb1⟩
      go_wp2_with fail
      go_ret
      refine ⟨Q, rfl, HRA.out.below ?_, Touch.of_below Q ?_, fun i hi => Or.inl hi⟩
      all_goals
        refine hb1.trans ?_
        repeat (first | exact Below.refl _ _ | refine Below.setCell ?_ (by simp) _ | refine Below.alloc ?_ (by have := hb1.size; simp; omega) _)

    obtain ⟨m, rfl⟩ : ∃ m : Nat, n = (m : Int) := ⟨n.toNat, by omega⟩
    have hm : m ≤ u.1.length := by omega
    have HNE : Hid (¬ ((m : Int) < 0 ∨ (u.1.length : Int) < (m : Int))) := Lib.hid (by omega)
    have d1 : decide ((m : Int) < 0) = false := by simp
    have d2 : decide ((u.1.length : Int) < (m : Int)) = false := by simp; omega
    clear hn0 hn1
    go_enter Tryd.func77, Tryd.ntmps77
    go_wp2_with fail
    refine HF.out.mono ?_; rintro e w1 ⟨rfl, hb1⟩
    go_wp2_with fail
    have hbA := belAlloc hb1 (.cells #[.string s, .string (strOfNums u.1), .int .i64 (u.2 : Nat)] 89)
    have hrA := (hbA.block r hrl).trans HH.out.1
    have hcA := heap_alloc_new w1 (.cells #[.string s, .string (strOfNums u.1), .int .i64 (u.2 : Nat)] 89)
    have hz1 := hb1.size
    refine (write_r r v D.lost D.armed D.left _ hrA h6 h7).mono ?_; rintro e w2 ⟨rfl, hr2, ht2⟩
    have hT : Touch (· = r) w w2 := (Touch.of_below _ hbA).trans ht2 (fun _ _ e => e)
    have hL2 := (ht2.2.2.2.2 w1.heap.size (by simp) (by omega)).trans hcA
    obtain ⟨l1, hl1⟩ : ∃ l1, l1 = lost1 D.lost D.armed D.left := ⟨_, rfl⟩
    obtain ⟨n1, hn1⟩ : ∃ n1, n1 = left1 D.lost D.armed D.left := ⟨_, rfl⟩
    obtain ⟨q8, q9⟩ := left1_bd (lost := D.lost) (armed := D.armed) h6 h7
    rw [← hl1, ← hn1] at hr2
    rw [← hn1] at q8 q9
    cases l1 with
    | true =>
      have e1 : cutD D s.data.toList (m : Int) = (12, ⟨D.fs, true, D.armed, n1⟩) := by unfold cutD; rw [HGF.out]; simp only []; rw [if_neg HNE.out, ← hl1, if_pos rfl, ← hn1]
      have E1 := Lib.hid e1
      have d1 := how_lost hl1.symm
      have HR := Lib.hid (ref_wrote HH.out.1 HH.out.2 h3 h4 h5 hr2 hT q8 q9)
      clear e1 hl1 hn1 hr2 ht2 hT hcA hrA hbA hL2
      go_wp2_with fail
      go_ret
      rw [E1.out]
      exact ⟨Q, rfl, HR.out.1, HR.out.2⟩
    | false =>
      have e1 : cutD D s.data.toList (m : Int) = (0, { fs := putE s.data.toList (u.1.take m, m) D.fs, lost := false, armed := D.armed, left := n1 }) := by
        unfold cutD; rw [HGF.out]; simp only []; rw [if_neg HNE.out, ← hl1, if_neg (by simp), ← hn1]; rfl
      have E1 := Lib.hid e1
      rw [how_done hl1.symm]
      obtain ⟨p0, p1, p2⟩ := rcells hL2
      have HP := Lib.hid (put_r r v _ _ D.fs s (u.1.take m, m) w2 hr2 (row_touch HH.out.2 HH.out.1 hT).sees hn)
      have HT := Lib.hid hT
      have d3 : (m : Int) ≤ (u.1.length : Int) := by omega
      have d4 : m ≤ (strOfNums u.1).size := by rw [strOfNums_size]; exact hm
      have d5 : (0 : Int) ≤ (m : Int) := by omega
      have q1 : (strOfNums u.1).extract 0 m = strOfNums (u.1.take m) := str_take u.1 m
      clear e1 hl1 hn1 hr2 ht2 hcA hrA hbA hL2
      go_wp2_with fail
      refine HP.out.mono ?_; rintro e w3 ⟨rfl, v', hr3, hrow3, ht3⟩
      have HR := Lib.hid (ref_put (w := w) h3 h5 hr3 (row_le hrow3 HT.out.2.2.2.1) (HT.out.trans ht3 (fun _ _ e => e)) q8 q9)
      clear hr3 hrow3 ht3 hT
      go_wp2_with fail
      go_ret
      rw [E1.out]
      exact ⟨_, rfl, HR.out.1, HR.out.2⟩
end Go.Proofs.YtkjdfelmjanpcaaDoor
