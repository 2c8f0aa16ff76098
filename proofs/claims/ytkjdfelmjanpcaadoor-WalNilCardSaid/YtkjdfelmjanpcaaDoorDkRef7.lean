/- The document's own disk: Rename. -/
import Derived.Test.YtkjdfelmjanpcaaDoorDkRef6
namespace Go.Proofs.YtkjdfelmjanpcaaDoor
open Go.RowKit Go.Maps
set_option maxRecDepth 100000 in
set_option maxHeartbeats 2000000 in
theorem Rename_r (r : Nat) (Q : Nat → Prop) (D : DSt) (s t : ByteArray) (w : World) (h : RefAt w r Q D) (hn : D.fs.length ≤ 1000000) :
    Calls Tryd.prog 71 #[ptr r, .string s, .string t] w fun e w' => ∃ Q', e = .returned (.int .i64 (renameD D s.data.toList t.data.toList).1) ∧ RefAt w' r Q' (renameD D s.data.toList t.data.toList).2 ∧ Step Q Q' w w' := by
  have HRA := Lib.hid h
  obtain ⟨v, h1, h2, h3, h4, h5, h6, h7⟩ := h
  have HF := Lib.hid (Find_r r v _ _ D.fs s w h1 h2.sees hn)
  cases hgf : getE D.fs s.data.toList with
  | none =>
    have e1 : renameD D s.data.toList t.data.toList = (6, D) := by unfold renameD; rw [hgf]
    rw [hgf] at HF
    rw [e1]
    simp only [fileV, zeroR, Option.isSome_none] at HF
    clear h1 h2 hgf e1
    go_enter Tryd.func71, Tryd.ntmps71
    go_wp2_with fail
    refine HF.out.mono ?_; rintro e w1 ⟨rfl, hb1⟩
    go_wp2_with fail
    go_ret
    refine ⟨Q, rfl, HRA.out.below ?_, Touch.of_below Q ?_, fun i hi => Or.inl hi⟩
    all_goals
      refine hb1.trans ?_
      repeat (first | exact Below.refl _ _ | refine Below.setCell ?_ (by simp) _ | refine Below.alloc ?_ (by have := hb1.size; simp; omega) _)
  | some u =>
    rw [hgf] at HF
    simp only [fileV, Option.isSome_some] at HF
    have HH := Lib.hid (And.intro h1 h2)
    have HGF := Lib.hid hgf
    have hrl := heap_lt h1
    clear h1 h2 hgf
    by_cases ht1 : t.data.toList = []
    · have e1 : renameD D s.data.toList t.data.toList = (1, D) := by unfold renameD; rw [HGF.out]; simp only []; rw [if_pos (Or.inl ht1)]
      rw [e1]
      clear e1
      obtain rfl : t = ⟨#[]⟩ := by
        cases t with | mk ta => cases ta with | mk tl => cases tl with
          | nil => rfl
          | cons x y => cases ht1
      go_enter Tryd.func71, Tryd.ntmps71
      go_wp2_with fail
      refine HF.out.mono ?_; rintro e w1 ⟨rfl, hb1⟩
      go_wp2_with fail
      go_ret
      refine ⟨Q, rfl, HRA.out.below ?_, Touch.of_below Q ?_, fun i hi => Or.inl hi⟩
      all_goals
        refine hb1.trans ?_
        repeat (first | exact Below.refl _ _ | refine Below.setCell ?_ (by simp) _ | refine Below.alloc ?_ (by have := hb1.size; simp; omega) _)

    have d1 : ¬ t.toList = [] := by rw [ByteArray.toList_eq]; exact ht1
    have d2 : t.toList.isEmpty = false := by cases hh : t.toList with | nil => exact absurd hh d1 | cons a b => rfl
    by_cases hts : t = s
    · have e1 : renameD D s.data.toList t.data.toList = (1, D) := by unfold renameD; rw [HGF.out]; simp only []; rw [if_pos (Or.inr (by rw [hts]))]
      rw [e1]
      clear e1
      subst hts
      go_enter Tryd.func71, Tryd.ntmps71
      go_wp2_with fail
      refine HF.out.mono ?_; rintro e w1 ⟨rfl, hb1⟩
      go_wp2_with fail
      go_ret
      refine ⟨Q, rfl, HRA.out.below ?_, Touch.of_below Q ?_, fun i hi => Or.inl hi⟩
      all_goals
        refine hb1.trans ?_
        repeat (first | exact Below.refl _ _ | refine Below.setCell ?_ (by simp) _ | refine Below.alloc ?_ (by have := hb1.size; simp; omega) _)

    have d4 : ¬ t.toList = s.toList := fun e => hts (by rw [ByteArray.toList_eq, ByteArray.toList_eq] at e; cases t; cases s; simp only [Array.toList_inj] at e; rw [e])
    have d3 : (t.toList == s.toList) = false := by simpa using d4
    have hne : ¬ (t.data.toList = [] ∨ t.data.toList = s.data.toList) := by
      rintro (e | e)
      · exact ht1 e
      · exact hts (by cases t; cases s; simp only [Array.toList_inj] at e; rw [e])
    have HNE := Lib.hid hne
    clear ht1 hts hne d4
    go_enter Tryd.func71, Tryd.ntmps71
    go_wp2_with fail
    refine HF.out.mono ?_; rintro e w1 ⟨rfl, hb1⟩
    go_wp2_with fail
    have hbA := belAlloc hb1 (.cells #[.string s, .string (strOfNums u.1), .int .i64 (u.2 : Nat)] 89)
    have hrA := (hbA.block r hrl).trans HH.out.1
    have hcA := heap_alloc_new w1 (.cells #[.string s, .string (strOfNums u.1), .int .i64 (u.2 : Nat)] 89)
    have hz1 := hb1.size
    refine (write_r r v D.lost D.armed D.left _ hrA h6 h7).mono ?_; rintro e w2 ⟨rfl, hr2, ht2⟩
    have hT : Touch (· = r) w w2 := (Touch.of_below _ hbA).trans ht2 (fun _ _ e => e)
    have hL2 := (ht2.2.2.2.2 w1.heap.size (by simp) (by omega)).trans hcA
    obtain ⟨l1, hl1⟩ : ∃ l1, l1 = lost1 D.lost D.armed D.left := ⟨_, rfl⟩
    obtain ⟨n1, hn1⟩ : ∃ n1, n1 = left1 D.lost D.armed D.left := ⟨_, rfl⟩
    obtain ⟨q8, q9⟩ := left1_bd (lost := D.lost) (armed := D.armed) h6 h7
    rw [← hl1, ← hn1] at hr2
    rw [← hn1] at q8 q9
    cases l1 with
    | true =>
      have e1 : renameD D s.data.toList t.data.toList = (12, ⟨D.fs, true, D.armed, n1⟩) := by unfold renameD; rw [HGF.out]; simp only []; rw [if_neg HNE.out, ← hl1, if_pos rfl, ← hn1]
      have E1 := Lib.hid e1
      have d1 := how_lost hl1.symm
      have HR := Lib.hid (ref_wrote HH.out.1 HH.out.2 h3 h4 h5 hr2 hT q8 q9)
      clear e1 hl1 hn1 hr2 ht2 hT hcA hrA hbA hL2
      go_wp2_with fail
      go_ret
      rw [E1.out]
      exact ⟨Q, rfl, HR.out.1, HR.out.2⟩
    | false =>
      have e1 : renameD D s.data.toList t.data.toList = (0, { fs := putE t.data.toList u (delE s.data.toList D.fs), lost := false, armed := D.armed, left := n1 }) := by
        unfold renameD; rw [HGF.out]; simp only []; rw [if_neg HNE.out, ← hl1, if_neg (by simp), ← hn1]
      have E1 := Lib.hid e1
      rw [how_done hl1.symm]
      have HP := Lib.hid (without_r r v _ _ D.fs s w2 hr2 (row_touch HH.out.2 HH.out.1 hT).sees hn)
      have HT := Lib.hid hT
      have HR2 := Lib.hid hr2
      have HL2 := Lib.hid hL2
      clear e1 hl1 hn1 hr2 ht2 hcA hrA hbA hL2 d1 d2 d3
      go_wp2_with fail
      refine HP.out.mono ?_; rintro e w3 ⟨v3, rfl, hrow3, hb3⟩
      have hz2 := HT.out.2.2.2.1
      have hz3 := hb3.size
      have hr3 := (hb3.block r (by omega)).trans HR2.out
      have hL3 := (hb3.block w1.heap.size (heap_lt HL2.out)).trans HL2.out
      obtain ⟨c0, -⟩ := rcells hr3
      have f0 := rfroz hr3 0
      obtain ⟨a3, c3, hv3, -⟩ := RowF.sees hrow3
      subst hv3
      have hdl := delE_le s.data.toList D.fs
      obtain ⟨w4, hw4⟩ : ∃ w4, w4 = w3.setCell ⟨r, 0, none⟩ (.slice a3 (delE s.data.toList D.fs).length c3) := ⟨_, rfl⟩
      have hr4 : w4.heap[r]? = _ := hw4 ▸ dset hr3 0 (.slice a3 (delE s.data.toList D.fs).length c3)
      have hrow4 : RowF w4 w2.heap.size (.slice a3 (delE s.data.toList D.fs).length c3) (delE s.data.toList D.fs) := hw4 ▸ World.ownsRow.kept hrow3 (grown_set w3 r 0 (.slice a3 (delE s.data.toList D.fs).length c3)) (row_ne hrow3 (by omega))
      have hT4 : Touch (· = r) w w4 := (HT.out.trans (Touch.of_below (· = r) hb3) (fun _ _ e => e)).trans (hw4 ▸ touch_set w3 r 0 _) (fun _ _ e => e)
      have hL4 := (Below.heap_setCell w3 ⟨r, 0, none⟩ (.slice a3 (delE s.data.toList D.fs).length c3) w1.heap.size (fun e => by simp only [] at e; omega)).trans hL3
      rw [← hw4] at hL4
      have HP2 := Lib.hid (put_r r _ _ _ (delE s.data.toList D.fs) t u w4 hr4 hrow4.sees (by omega))
      have HT4 := Lib.hid hT4
      have HW4 := Lib.hid hw4
      have HL4 := Lib.hid (rcells hL4)
      clear hr3 hrow3 hT hr4 hrow4 hT4 hL4 hL3 hw4
      go_upto_region 9 with fail
      rw [← HW4.out]
      clear c0 f0
      obtain ⟨p0, p1, p2⟩ := HL4.out
      go_wp2_with fail
      refine HP2.out.mono ?_; rintro e w5 ⟨rfl, v5, hr5, hrow5, ht5⟩
      have HR := Lib.hid (ref_put (w := w) h3 h5 hr5 (row_le hrow5 HT4.out.2.2.2.1) (HT4.out.trans ht5 (fun _ _ e => e)) q8 q9)
      clear hr5 hrow5 ht5
      go_wp2_with fail
      go_ret
      rw [E1.out]
      exact ⟨_, rfl, HR.out.1, HR.out.2⟩
end Go.Proofs.YtkjdfelmjanpcaaDoor
