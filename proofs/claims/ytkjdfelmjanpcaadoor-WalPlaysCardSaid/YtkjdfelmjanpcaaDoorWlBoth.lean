/- virgatelaw07's both.open: both logs anew: they tell the same. Conditions: the world facts of Env. -/
import Derived.Test.YtkjdfelmjanpcaaDoorWlRef2
import Derived.Test.YtkjdfelmjanpcaaDoorWlOp
namespace Go.Proofs.YtkjdfelmjanpcaaDoor
open Go.RowKit Go.Maps
/-- Both disks over D and the pair's block; all of it lies at B or behind, apart. -/
def Base (B : Nat) (w : World) (bb g : Nat) (P : Nat → Prop) (r : Nat) (Q : Nat → Prop) (D : DSt) (Lv Rv : Value) : Prop :=
  Pair B w g P D r Q D ∧ w.heap[bb]? = some (.cells #[ptr g, Lv, ptr r, Rv] 30 (0, 0)) ∧ ¬ P bb ∧ ¬ Q bb ∧ B ≤ bb
theorem SmallF.settle {n : Nat} {D : DSt} (h : SmallF n D.fs) (k : List UInt8) (all m : Nat) : SmallF (n + 1) (settleD D k all m).2.fs := by
  unfold settleD
  split
  · exact h.cut k _
  · split
    · exact h.sync k
    · exact h.mono (Nat.le_succ n)
theorem neqNilP (t : TypeId) (l : Nat) (W : World) (ht : t = 27 ∨ t = 28) : (binOp .neq t (ptr l) (.pointer none)).run Tryd.prog W = .ok (.bool true) W := by
  rcases ht with rfl | rfl <;> kernel_rfl
def OpenBoth (B : Nat) (w : World) (bb g : Nat) (P : Nat → Prop) (r : Nat) (Q : Nat → Prop) (D : DSt) (n : Nat) (Lv Rv : Value) (e : Ending) (w' : World) : Prop :=
  ∃ P' Q' D', e = .returned (.bool true) ∧ SmallF (n + 1) D'.fs ∧ Below B w w' ∧ Touch (fun i => P i ∨ Q i ∨ i = bb) w w' ∧ (∀ i, P' i → P i ∨ w.heap.size ≤ i) ∧ (∀ i, Q' i → Q i ∨ w.heap.size ≤ i) ∧
    ((Base B w' bb g P' r Q' D' Lv Rv ∧ ((readD D nW.data.toList).2 = 12 ∨ ∃ ls k x, AllIs ls (readD D nW.data.toList).1 k x ∧ (settleD D nW.data.toList (readD D nW.data.toList).1.length k).1 ≠ 0)) ∨ ∃ l m k, Base B w' bb g P' r Q' D' (ptr l) (ptr m) ∧ LogIs 83 w' l g nW k false ∧ LogIs 39 w' m r nW k false ∧ ¬ P' l ∧ ¬ Q' l ∧ ¬ P' m ∧ ¬ Q' m ∧ l ≠ m ∧ l ≠ bb ∧ m ≠ bb ∧ B ≤ l ∧ B ≤ m ∧ k ≤ 50 * n)
set_option linter.unusedVariables false in
set_option maxRecDepth 100000 in
set_option maxHeartbeats 8000000 in
theorem bopen_any (B bb g : Nat) (P : Nat → Prop) (r : Nat) (Q : Nat → Prop) (D : DSt) (Lv Rv : Value) (n : Nat) (w0 w : World) (h : Base B w bb g P r Q D Lv Rv) (hs : SmallF n D.fs) (hn : n ≤ 200) (hLv : ∃ a, Lv = .pointer a) (hRv : ∃ a, Rv = .pointer a) (hB : B = w0.heap.size) (hE : Env w0) (hbw : Below w0.heap.size w0 w) :
    Calls Tryd.prog 12 #[ptr bb] w (OpenBoth B w bb g P r Q D n Lv Rv) := by
  obtain ⟨hp, hbk, hPb, hQb, hBb⟩ := h
  obtain ⟨c0, c1, c2, c3⟩ := lcells hbk
  have hbl := heap_lt hbk
  have hlen : D.fs.length ≤ 1000 := by have := hs.1; omega
  have hall : ∀ f ∈ D.fs, f.2.1.length ≤ 100000 := fun f hf => by have := (hs.2 f hf).2.1; omega
  have hoks := hp.1.oks
  have HO := Lib.hid (open_any g P D nW w hp.1 (by decide) (by decide) hlen hall (hE.below hbw))
  have HRO : Hid (∀ W, RefAt W r Q D → Calls Tryd.prog 40 #[ptr r, .string nW] W (ROpenPost W r Q D nW)) := Lib.hid (fun W k => ropen_any r Q D nW W k (by decide) hlen hall hoks)
  have HP := Lib.hid hp
  have HBK := Lib.hid hbk
  have HS := Lib.hid hs
  have hrl : (readD D nW.data.toList).1.length ≤ 50 * n := Nat.le_trans (readD_len _) (hs.getD nW.data.toList).1
  have HRL := Lib.hid hrl
  have qn1 := fun l W => neqNilP 27 l W (Or.inl rfl)
  have qn2 := fun l W => neqNilP 28 l W (Or.inr rfl)
  clear hp hbk hall hoks hs hrl
  go_enter Tryd.func12, Tryd.ntmps12
  go_wp2_with fail
  refine HO.out.mono ?_; rintro e w1 ⟨P1, hS1, hpost⟩
  have hbk1 := (hS1.1.2.2.2.2 bb hbl hPb).trans HBK.out
  have hP1b : ¬ P1 bb := fun hp => (hS1.2 bb hp).elim hPb (fun h => by omega)
  obtain ⟨d0, d1, d2, d3⟩ := lcells hbk1
  have HS1 := Lib.hid hS1
  have HBK1 := Lib.hid hbk1
  have hz1 := hS1.1.2.2.2.1
  rcases hpost with ⟨her, rfl, hD1⟩ | ⟨hne, ls, k, x, hall, hD1, hpost⟩
  · -- the disk is lost
    have hp1 := HP.out.callD hD1 hS1
    have HC1 := Lib.hid (HRO.out w1 hp1.1.2.1)
    have HP1 := Lib.hid hp1
    clear hS1 hbk1 hp1 hD1
    go_wp2_with fail
    refine HC1.out.mono ?_; rintro e w2 ⟨Q2, hS2, ⟨-, rfl, hR2⟩ | ⟨hne, -⟩⟩
    · have hp2 := HP1.out.1.callR hR2 hS2
      have hbk2 := (hS2.1.2.2.2.2 bb (by omega) hQb).trans HBK1.out
      have HFIN : Hid (∀ w3, Below w2.heap.size w2 w3 → OpenBoth B w bb g P r Q D n Lv Rv (.returned (.bool true)) w3) := Lib.hid (fun w3 hb => ⟨P1, Q2, D, rfl, HS.out.mono (Nat.le_succ n), (HP1.out.2.trans hp2.2).trans (hb.mono hp2.1.size),
        ((HS1.out.1.mono (fun _ _ h => Or.inl h)).trans hS2.1 (fun _ _ h => Or.inr (Or.inl h))).trans (Touch.of_below _ hb) (fun _ _ h => h), HS1.out.2, fun i hi => (hS2.2 i hi).imp id (fun h => Nat.le_trans hz1 h),
        Or.inl ⟨⟨hp2.1.below hb, (hb.block bb (heap_lt hbk2)).trans hbk2, hP1b, fun hq => (hS2.2 bb hq).elim hQb (fun h => by omega), hBb⟩, Or.inl her⟩⟩)
      have HSA := Lib.hid (same7_any (.slice none 0 0) (.slice none 0 0) [] w2 ⟨none, 0, rfl, Nat.le_refl _, fun _ => rfl, fun a ha => by cases ha⟩ ⟨none, 0, rfl, Nat.le_refl _, fun _ => rfl, fun a ha => by cases ha⟩ (by decide))
      clear hR2 hS2 hp2 hbk2
      go_wp2_with fail
      refine HSA.out.mono ?_; rintro e wy ⟨rfl, my, rfl⟩
      go_wp2_with fail
      go_ret
      exact HFIN.out _ ⟨rfl, rfl, rfl, Nat.le_refl _, fun _ _ => rfl⟩
    · exact absurd her hne
  · obtain ⟨se, hse⟩ : ∃ se, se = (settleD D nW.data.toList (readD D nW.data.toList).1.length k).1 := ⟨_, rfl⟩
    obtain ⟨D1, hDe⟩ : ∃ D1, D1 = (settleD D nW.data.toList (readD D nW.data.toList).1.length k).2 := ⟨_, rfl⟩
    have HS2 := Lib.hid (HS.out.settle nW.data.toList (readD D nW.data.toList).1.length k)
    rw [← hDe] at HS2
    rw [← hDe] at hD1
    rw [← hse] at hpost
    have hp1 := HP.out.callD hD1 hS1
    have HC1 := Lib.hid (HRO.out w1 hp1.1.2.1)
    have HP1 := Lib.hid hp1
    have HALL := Lib.hid hall
    have hkn : k ≤ 50 * n := Nat.le_trans (Steps.room _ _ _ hall.1).2 HRL.out
    have hln : ls.length ≤ 100000 := by have := (Steps.room _ _ _ hall.1).1; omega
    have HNE := Lib.hid hne
    have HSE := Lib.hid (And.intro hse hDe)
    clear hS1 hbk1 hp1 hD1 hall hne hse hDe
    rcases hpost with ⟨h0, rfl⟩ | ⟨h0, l, v, rfl, hl1, hrow, hPl, hlw⟩
    · -- the disk's error
      have H0 := Lib.hid h0
      clear h0
      go_wp2_with fail
      refine HC1.out.mono ?_; rintro e w2 ⟨Q2, hS2, ⟨h12, -⟩ | ⟨-, ls', k', x', hall', hR2, hpost2⟩⟩
      · exact absurd h12 HNE.out
      obtain ⟨rfl, rfl, rfl⟩ := AllIs.same _ _ _ _ _ _ _ HALL.out hall'
      rw [← HSE.out.2] at hR2
      rw [← HSE.out.1] at hpost2
      rcases hpost2 with ⟨-, rfl⟩ | ⟨h0, -⟩
      · have hp2 := HP1.out.1.callR hR2 hS2
        have hbk2 := (hS2.1.2.2.2.2 bb (by omega) hQb).trans HBK1.out
        have HFIN : Hid (∀ w3, Below w2.heap.size w2 w3 → OpenBoth B w bb g P r Q D n Lv Rv (.returned (.bool true)) w3) := Lib.hid (fun w3 hb => ⟨P1, Q2, D1, rfl, HS2.out, (HP1.out.2.trans hp2.2).trans (hb.mono hp2.1.size),
          ((HS1.out.1.mono (fun _ _ h => Or.inl h)).trans hS2.1 (fun _ _ h => Or.inr (Or.inl h))).trans (Touch.of_below _ hb) (fun _ _ h => h), HS1.out.2, fun i hi => (hS2.2 i hi).imp id (fun h => Nat.le_trans hz1 h),
          Or.inl ⟨⟨hp2.1.below hb, (hb.block bb (heap_lt hbk2)).trans hbk2, hP1b, fun hq => (hS2.2 bb hq).elim hQb (fun h => by omega), hBb⟩, Or.inr ⟨ls, k, x, HALL.out, by rw [← HSE.out.1]; exact H0.out⟩⟩⟩)
        have HSA := Lib.hid (same7_any (.slice none 0 0) (.slice none 0 0) [] w2 ⟨none, 0, rfl, Nat.le_refl _, fun _ => rfl, fun a ha => by cases ha⟩ ⟨none, 0, rfl, Nat.le_refl _, fun _ => rfl, fun a ha => by cases ha⟩ (by decide))
        have d9 : (se == 0) = false := by simpa using H0.out
        clear hR2 hS2 hp2 hbk2 hall'
        go_wp2_with fail
        refine HSA.out.mono ?_; rintro e wy ⟨rfl, my, rfl⟩
        go_wp2_with fail
        go_ret
        exact HFIN.out _ ⟨rfl, rfl, rfl, Nat.le_refl _, fun _ _ => rfl⟩
      · exact absurd h0 H0.out
    · -- both are open
      have H0 := Lib.hid h0
      have hrow1 := hrow w1 (Touch.refl _ _)
      have HL1 := Lib.hid (And.intro hl1 (And.intro hrow1 (And.intro hPl hlw)))
      have hll := heap_lt hl1
      clear h0 hl1 hrow hrow1
      go_wp2_with fail
      refine HC1.out.mono ?_; rintro e w2 ⟨Q2, hS2, ⟨h12, -⟩ | ⟨-, ls', k', x', hall', hR2, hpost2⟩⟩
      · exact absurd h12 HNE.out
      obtain ⟨rfl, rfl, rfl⟩ := AllIs.same _ _ _ _ _ _ _ HALL.out hall'
      rw [← HSE.out.2] at hR2
      rw [← HSE.out.1] at hpost2
      rcases hpost2 with ⟨h0, -⟩ | ⟨-, m, v2, rfl, hm2, hrow2, hQm, hmw⟩
      · exact absurd H0.out h0
      have hQlt : ∀ i, Q i → i < w.heap.size := fun i hi => HP.out.2.1.lt hi
      have hp2 := HP1.out.1.callR hR2 hS2
      have hbk2 := (hS2.1.2.2.2.2 bb (by omega) hQb).trans HBK1.out
      have hl2 : LogIs 83 w2 l g nW k false := HL1.out.1.keep hS2.1 (fun hq => by have := hQlt l hq; omega)
      have hrow12 : SeesRow w2 v ls := RowZ.sees (RowN.stay HL1.out.2.1 hS2.1.2.2.2.1 (fun d h1 h2 => hS2.1.2.2.2.2 d h2 (fun hq => by have := hQlt d hq; omega)))
      have HSA := Lib.hid (same7_any v v2 ls w2 hrow12 hrow2 hln)
      have hlm : l ≠ m := by omega
      have hlb : l ≠ bb := by omega
      have hmb : m ≠ bb := by omega
      have hQ2l : ¬ Q2 l := fun hq => (hS2.2 l hq).elim (fun h => by have := hQlt l h; omega) (fun h => by omega)
      have hP1m : ¬ P1 m := fun hp => by have := HP1.out.1.1.lt hp; omega
      have hQ2b : ¬ Q2 bb := fun hq => (hS2.2 bb hq).elim hQb (fun h => by omega)
      have hBl : B ≤ l := by have := HP.out.size; omega
      have hBm : B ≤ m := by have := HP1.out.1.size; omega
      have HFIN : Hid (∀ w3, Below w2.heap.size w2 w3 → OpenBoth B w bb g P r Q D n Lv Rv (.returned (.bool true)) ((w3.setCell ⟨bb, 1, none⟩ (ptr l)).setCell ⟨bb, 3, none⟩ (ptr m))) := Lib.hid (fun w3 hb => by
        have hbk3 := (hb.block bb (heap_lt hbk2)).trans hbk2
        have hset := dset (dset hbk3 1 (ptr l)) 3 (ptr m)
        have hT : Touch (· = bb) w3 ((w3.setCell ⟨bb, 1, none⟩ (ptr l)).setCell ⟨bb, 3, none⟩ (ptr m)) := (touch_set w3 bb 1 (ptr l)).trans (touch_set (w3.setCell ⟨bb, 1, none⟩ (ptr l)) bb 3 (ptr m)) (fun _ _ e => e)
        have hp3 := hp2.1.below hb
        have hz3 : B ≤ w3.heap.size := hp3.size
        have hp4 : Pair B ((w3.setCell ⟨bb, 1, none⟩ (ptr l)).setCell ⟨bb, 3, none⟩ (ptr m)) g P1 D1 r Q2 D1 := ⟨hp3.1.keep hT (fun d hd e => hP1b (by rw [← e]; exact hd)), hp3.2.1.keep hT (fun d hd e => hQ2b (by rw [← e]; exact hd)), hp3.2.2⟩
        exact ⟨P1, Q2, D1, rfl, HS2.out, ((HP1.out.2.trans hp2.2).trans (hb.mono hp2.1.size)).trans (hT.below hz3 (fun i e => by rw [e]; exact hBb)),
          (((HS1.out.1.mono (fun _ _ h => Or.inl h)).trans hS2.1 (fun _ _ h => Or.inr (Or.inl h))).trans (Touch.of_below _ hb) (fun _ _ h => h)).trans hT (fun _ _ e => Or.inr (Or.inr e)), HS1.out.2, fun i hi => (hS2.2 i hi).imp id (fun h => Nat.le_trans hz1 h),
          Or.inr ⟨l, m, k, ⟨hp4, hset, hP1b, hQ2b, hBb⟩, (hl2.below hb).keep hT hlb, (LogIs.below hm2 hb).keep hT hmb, HL1.out.2.2.1, hQ2l, hP1m, hQm, hlm, hlb, hmb, hBl, hBm, hkn⟩⟩)
      have HBK2 := Lib.hid hbk2
      have f1 := lfroz hbk2 1
      have f3 := lfroz hbk2 3
      obtain ⟨a0, a1, a2, a3⟩ := lcells hbk2
      have h00 := H0.out
      subst h00
      clear hR2 hS2 hp2 hall' hl2 hrow12 hm2 hrow2 hbk2
      go_wp2_with fail
      refine HSA.out.mono ?_; rintro e wy ⟨rfl, my, rfl⟩
      go_wp2_with fail
      go_ret
      exact HFIN.out _ ⟨rfl, rfl, rfl, Nat.le_refl _, fun _ _ => rfl⟩
/-- The first opening: there are logs behind it. -/
theorem bopen_first (B bb g : Nat) (P : Nat → Prop) (r : Nat) (Q : Nat → Prop) (w0 w : World) (h : Base B w bb g P r Q ⟨[], false, false, 0⟩ (.pointer none) (.pointer none)) (hB : B = w0.heap.size) (hE : Env w0) (hbw : Below w0.heap.size w0 w) :
    Calls Tryd.prog 12 #[ptr bb] w fun e w' => ∃ (P' Q' : Nat → Prop) (D' : DSt) (l m k : Nat), e = .returned (.bool true) ∧ SmallF 1 D'.fs ∧ Below B w w' ∧ Base B w' bb g P' r Q' D' (ptr l) (ptr m) ∧ LogIs 83 w' l g nW k false ∧ LogIs 39 w' m r nW k false ∧ ¬ P' l ∧ ¬ Q' l ∧ ¬ P' m ∧ ¬ Q' m ∧ l ≠ m ∧ l ≠ bb ∧ m ≠ bb ∧ B ≤ l ∧ B ≤ m ∧ k ≤ 0 := by
  refine (bopen_any B bb g P r Q ⟨[], false, false, 0⟩ (.pointer none) (.pointer none) 0 w0 w h SmallF.nil (by omega) ⟨_, rfl⟩ ⟨_, rfl⟩ hB hE hbw).mono ?_
  rintro e w' ⟨P', Q', D', he, hs, hbe, -, -, -, ⟨-, hh⟩ | ⟨l, m, k, hb, hr⟩⟩
  · exfalso
    rw [wr0] at hh
    rcases hh with h1 | ⟨ls, k, x, ha, hn⟩
    · cases h1
    · obtain ⟨rfl, rfl, rfl⟩ := AllIs.same _ _ _ _ _ _ _ wa0 ha
      rw [ws0] at hn
      exact hn rfl
  · exact ⟨P', Q', D', l, m, k, he, hs, hbe, hb, hr⟩
end Go.Proofs.YtkjdfelmjanpcaaDoor
