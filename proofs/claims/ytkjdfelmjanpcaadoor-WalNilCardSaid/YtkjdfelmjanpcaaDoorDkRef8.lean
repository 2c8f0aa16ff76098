/- The document's own disk: Append. -/
import Derived.Test.YtkjdfelmjanpcaaDoorDkRef6
namespace Go.Proofs.YtkjdfelmjanpcaaDoor
open Go.RowKit Go.Maps
theorem strOfNums_app (x y : List Int) : strOfNums x ++ strOfNums y = strOfNums (x ++ y) := by
  unfold strOfNums
  rw [ByteArray.mk_append_mk]
  simp
theorem Append_r0 (r : Nat) (b : ByteArray) (w : World) : Calls Tryd.prog 35 #[ptr r, .string ⟨#[]⟩, .string b] w fun e w' => e = .returned (.int .i64 1) ∧ w = w' := by
  go_enter Tryd.func35, Tryd.ntmps35
  go_wp2
  go_ret
  exact ⟨rfl, rfl⟩
theorem fileV_form (s : ByteArray) (G : Option (List Int × Nat)) : ∃ nm : ByteArray, fileV s G = .agg #[.string nm, .string (strOfNums (G.getD ([], 0)).1), .int .i64 ((G.getD ([], 0)).2 : Nat)] := by
  cases G with
  | none => exact ⟨⟨#[]⟩, rfl⟩
  | some u => exact ⟨s, rfl⟩
set_option maxRecDepth 100000 in
set_option maxHeartbeats 2000000 in
theorem Append_r (r : Nat) (Q : Nat → Prop) (D : DSt) (s : ByteArray) (t : List Int) (w : World) (h : RefAt w r Q D) (hs0 : s.data.toList ≠ []) (hn : D.fs.length ≤ 1000000) (hb : ((getE D.fs s.data.toList).getD ([], 0)).1.length + t.length ≤ 100000000000) :
    Calls Tryd.prog 35 #[ptr r, .string s, .string (strOfNums t)] w fun e w' => ∃ Q', e = .returned (.int .i64 (appD D s.data.toList t).1) ∧ RefAt w' r Q' (appD D s.data.toList t).2 ∧ Step Q Q' w w' := by
  obtain ⟨v, h1, h2, h3, h4, h5, h6, h7⟩ := h
  have hs1 : ¬ s.toList = [] := by rw [ByteArray.toList_eq]; exact hs0
  have hs2 : s.toList.isEmpty = false := by cases hh : s.toList with | nil => exact absurd hh hs1 | cons a b => rfl
  have HW := Lib.hid (write_r r v D.lost D.armed D.left w h1 h6 h7)
  obtain ⟨q8, q9⟩ := left1_bd (lost := D.lost) (armed := D.armed) h6 h7
  have HH := Lib.hid (And.intro h1 h2)
  have hrl := heap_lt h1
  cases hl : D.lost with
  | true =>
    have e1 : appD D s.data.toList t = (12, D) := by unfold appD; rw [if_pos hl]
    have e2 : lost1 true D.armed D.left = true := by simp [lost1]
    have e3 : left1 true D.armed D.left = D.left := by simp [left1, lost1]
    have e4 : howR true D.armed D.left = 1 := if_pos rfl
    rw [hl, e2, e3, e4] at HW
    have E1 := Lib.hid e1
    have HL := Lib.hid hl
    clear h1 h2 e1 e2 e3 e4 hl
    go_enter Tryd.func35, Tryd.ntmps35
    go_wp2_with fail
    refine HW.out.mono ?_; rintro e w1 ⟨rfl, hr1, ht1⟩
    have HR := Lib.hid (ref_wrote (fs := D.fs) (l := true) (a := D.armed) (n := D.left) HH.out.1 HH.out.2 h3 h4 h5 hr1 ht1 h6 h7)
    clear hr1 ht1
    go_wp2_with fail
    go_ret
    rw [E1.out]
    refine ⟨Q, rfl, ?_, HR.out.2⟩
    have hR := HR.out.1
    rw [← HL.out] at hR
    exact hR
  | false =>
    have e1 : appD D s.data.toList t = (errW false D.armed D.left, { fs := putE s.data.toList (((getE D.fs s.data.toList).getD ([], 0)).1 ++ t, ((getE D.fs s.data.toList).getD ([], 0)).2) D.fs, lost := lost1 false D.armed D.left, armed := D.armed, left := left1 false D.armed D.left }) := by
      unfold appD; rw [hl, if_neg (by simp)]
    rw [hl] at HW q8 q9
    obtain ⟨U, hU⟩ : ∃ U, U = (getE D.fs s.data.toList).getD ([], 0) := ⟨_, rfl⟩
    obtain ⟨l1, hl1⟩ : ∃ l1, l1 = lost1 false D.armed D.left := ⟨_, rfl⟩
    obtain ⟨n1, hn1⟩ : ∃ n1, n1 = left1 false D.armed D.left := ⟨_, rfl⟩
    obtain ⟨H1, hH1⟩ : ∃ H1, H1 = howR false D.armed D.left := ⟨_, rfl⟩
    have hE : errW false D.armed D.left = if l1 = true then 12 else 0 := by unfold errW; rw [hl1]
    have hH : H1 = if l1 = true then 2 else 0 := by rw [hH1, hl1]; unfold howR; rw [if_neg (by simp)]
    rw [← hU, ← hl1, ← hn1, hE] at e1
    rw [← hl1, ← hn1, ← hH1] at HW
    rw [← hn1] at q8 q9
    rw [← hU] at hb
    have d3 : ¬ (9223372036854775807 < (strOfNums U.1).size + (strOfNums t).size) := by rw [strOfNums_size, strOfNums_size]; omega
    have d5 : ¬ ((strOfNums U.1).size + (strOfNums t).size > 9223372036854775807) := d3
    have d4 := strOfNums_app U.1 t
    have d1 : (H1 != 1) = true := by rw [hH]; cases l1 <;> rfl
    have d2 : decide (0 < H1) = l1 := by rw [hH]; cases l1 <;> rfl
    have E1 := Lib.hid e1
    obtain ⟨nm, hnm⟩ := fileV_form s (getE D.fs s.data.toList)
    rw [← hU] at hnm
    have HNM := Lib.hid hnm
    clear h1 h2 e1 hl hH hH1 hl1 hn1 hE hU hnm
    go_enter Tryd.func35, Tryd.ntmps35
    go_wp2_with fail
    refine HW.out.mono ?_; rintro e w1 ⟨rfl, hr1, ht1⟩
    have hrow1 := row_touch HH.out.2 HH.out.1 ht1
    have HF := Lib.hid (Find_r r v _ _ D.fs s w1 hr1 hrow1.sees hn)
    rw [HNM.out] at HF
    have HR1 := Lib.hid (And.intro hr1 (And.intro ht1 hrow1))
    clear hr1 ht1 hrow1
    go_wp2_with fail
    refine HF.out.mono ?_; rintro e w2 ⟨rfl, hb2⟩
    go_wp2_with fail
    have hbA := belAlloc hb2 (.cells #[.string nm, .string (strOfNums U.1), .int .i64 (U.2 : Nat)] 89)
    have hrA := (hbA.block r (heap_lt HR1.out.1)).trans HR1.out.1
    have hsA := HR1.out.2.2.sees.below hbA
    refine (put_r r v _ _ D.fs s (U.1 ++ t, U.2) _ hrA hsA hn).mono ?_
    rintro e w3 ⟨rfl, v', hr3, hrow3, ht3⟩
    have hz1 := HR1.out.2.1.2.2.2.1
    have hzA := hbA.size
    have HR := Lib.hid (ref_put (w := w) h3 h5 hr3 (row_le hrow3 (by omega)) ((HR1.out.2.1.trans (Touch.of_below (· = r) hbA) (fun _ _ e => e)).trans ht3 (fun _ _ e => e)) q8 q9)
    clear hr3 hrow3 ht3 hbA hrA hsA
    cases l1 with
    | true =>
      go_wp2_with fail
      go_ret
      rw [E1.out]
      exact ⟨_, rfl, HR.out.1, HR.out.2⟩
    | false =>
      go_wp2_with fail
      go_ret
      rw [E1.out]
      exact ⟨_, rfl, HR.out.1, HR.out.2⟩
end Go.Proofs.YtkjdfelmjanpcaaDoor
