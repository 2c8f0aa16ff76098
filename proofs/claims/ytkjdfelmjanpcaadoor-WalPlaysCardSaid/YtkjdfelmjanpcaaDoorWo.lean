/- Package wal: Open. Conditions: the world facts of Env. -/
import Derived.Test.YtkjdfelmjanpcaaDoorWl
import Derived.Test.YtkjdfelmjanpcaaDoorFrNew
namespace Go.Proofs.YtkjdfelmjanpcaaDoor
open Go.RowKit Go.Maps
def settleD (D : DSt) (k : List UInt8) (all n : Nat) : Int × DSt := if n < all then cutD D k (n : Nat) else if ((getE D.fs k).getD ([], 0)).2 < all then syncD D k else (0, D)
set_option maxRecDepth 100000 in
set_option maxHeartbeats 4000000 in
theorem settle_any (g : Nat) (P : Nat → Prop) (D : DSt) (nm : ByteArray) (all n : Nat) (w : World) (h : DiskAt w g P D) (hs : nm.size ≤ maxLen) (hn : D.fs.length ≤ 1000) (hall : ∀ f ∈ D.fs, f.2.1.length ≤ 100000000) (_ : all ≤ 100000000) (_ : n ≤ 100000000) :
    Calls Tryd.prog 48 #[ptr g, .string nm, .int .i64 (all : Nat), .int .i64 (n : Nat)] w fun e w' => ∃ P', e = .returned (.int .i64 (settleD D nm.data.toList all n).1) ∧ DiskAt w' g P' (settleD D nm.data.toList all n).2 ∧ Step P P' w w' := by
  by_cases h1 : n < all
  · have e1 : settleD D nm.data.toList all n = cutD D nm.data.toList (n : Nat) := if_pos h1
    rw [e1]
    have HC := Lib.hid (cut_any g P D nm (n : Nat) w h hs (by omega) (by omega) (fun f hf => by have := hall f hf; omega) (by omega))
    have d1 : decide ((n : Int) < (all : Int)) = true := by simp; omega
    clear h e1 hall
    go_enter Tryd.func48, Tryd.ntmps48
    go_wp2_with fail
    refine HC.out.mono ?_; rintro e w1 ⟨P1, rfl, hD1, hS1⟩
    go_wp2_with fail
    go_ret
    first | exact ⟨P1, rfl, hD1, hS1⟩ | exact ⟨rfl, P1, hD1, hS1⟩
  · have d1 : decide ((n : Int) < (all : Int)) = false := by simp; omega
    have HSU := Lib.hid (sure_any g P D nm w h hs)
    obtain ⟨su, hsu⟩ : ∃ su, su = ((getE D.fs nm.data.toList).getD ([], 0)).2 := ⟨_, rfl⟩
    rw [← hsu] at HSU
    by_cases h2 : su < all
    · have e1 : settleD D nm.data.toList all n = syncD D nm.data.toList := by unfold settleD; rw [if_neg h1, ← hsu, if_pos h2]
      rw [e1]
      have d2 : decide ((su : Int) < (all : Int)) = true := by simp; omega
      have HH := Lib.hid h
      clear h e1 hall hsu
      go_enter Tryd.func48, Tryd.ntmps48
      go_wp2_with fail
      refine HSU.out.mono ?_; rintro e w1 ⟨rfl, hb1⟩
      have HY := Lib.hid (sync_any g P D nm w1 (HH.out.below hb1) hs (by omega))
      go_wp2_with fail
      refine HY.out.mono ?_; rintro e w2 ⟨P1, rfl, hD1, hS1⟩
      go_wp2_with fail
      go_ret
      first | exact ⟨P1, rfl, hD1, Step.below hb1 hS1⟩ | exact ⟨rfl, P1, hD1, Step.below hb1 hS1⟩
    · have e1 : settleD D nm.data.toList all n = (0, D) := by unfold settleD; rw [if_neg h1, ← hsu, if_neg h2]
      rw [e1]
      have d2 : decide ((su : Int) < (all : Int)) = false := by simp; omega
      have HH := Lib.hid h
      clear h e1 hall hsu
      go_enter Tryd.func48, Tryd.ntmps48
      go_wp2_with fail
      refine HSU.out.mono ?_; rintro e w1 ⟨rfl, hb1⟩
      go_wp2_with fail
      go_ret
      first | exact ⟨P, rfl, HH.out.below hb1, Step.below hb1 (Step.refl _ _)⟩ | exact ⟨rfl, P, HH.out.below hb1, Step.below hb1 (Step.refl _ _)⟩
/-- What Open comes to. -/
def OpenPost (w : World) (g : Nat) (P : Nat → Prop) (D : DSt) (nm : ByteArray) (e : Ending) (w' : World) : Prop :=
  ∃ P', Step P P' w w' ∧
    (((readD D nm.data.toList).2 = 12 ∧ e = .returned (.tuple #[.pointer none, .slice none 0 0, .int .i64 12]) ∧ DiskAt w' g P' D) ∨
     ((readD D nm.data.toList).2 ≠ 12 ∧ ∃ ls n x, AllIs ls (readD D nm.data.toList).1 n x ∧ DiskAt w' g P' (settleD D nm.data.toList (readD D nm.data.toList).1.length n).2 ∧
       (((settleD D nm.data.toList (readD D nm.data.toList).1.length n).1 ≠ 0 ∧ e = .returned (.tuple #[.pointer none, .slice none 0 0, .int .i64 (settleD D nm.data.toList (readD D nm.data.toList).1.length n).1])) ∨
        ((settleD D nm.data.toList (readD D nm.data.toList).1.length n).1 = 0 ∧ ∃ l v, e = .returned (.tuple #[ptr l, v, .int .i64 0]) ∧ LogIs 83 w' l g nm n false ∧ (∀ w'', Touch (fun i => P' i ∨ i = l) w' w'' → RowN w'' w.heap.size v ls) ∧ ¬ P' l ∧ w.heap.size ≤ l))))
theorem readD_err (D : DSt) (k : List UInt8) : (readD D k).2 = 0 ∨ (readD D k).2 = 6 ∨ (readD D k).2 = 12 := by
  unfold readD
  split
  · exact Or.inr (Or.inl rfl)
  · split
    · exact Or.inr (Or.inr rfl)
    · exact Or.inl rfl
set_option linter.unusedVariables false in
set_option maxRecDepth 100000 in
set_option maxHeartbeats 4000000 in
theorem open_any (g : Nat) (P : Nat → Prop) (D : DSt) (nm : ByteArray) (w : World) (h : DiskAt w g P D) (hs : nm.size ≤ maxLen) (hs0 : nm.data.toList ≠ []) (hn : D.fs.length ≤ 1000) (hall : ∀ f ∈ D.fs, f.2.1.length ≤ 100000) (hE : Env w) :
    Calls Tryd.prog 20 #[ptr g, .string nm] w (OpenPost w g P D nm) := by
  have d0 : (nm.toList == ([] : List UInt8)) = false := by rw [ByteArray.toList_eq]; simpa using hs0
  have hgl : ((getE D.fs nm.data.toList).getD ([], 0)).1.length ≤ 100000 := by
    cases hg : getE D.fs nm.data.toList with
    | none => exact Nat.zero_le _
    | some u => exact hall _ (getE_mem hg)
  have hrl : (readD D nm.data.toList).1.length ≤ 100000 := Nat.le_trans (readD_len _) hgl
  have hro := readD_ok h.oks nm.data.toList
  have hre := readD_err D nm.data.toList
  have HR := Lib.hid (read_any g P D nm w h hs (by omega))
  unfold OpenPost
  obtain ⟨xs, hxs⟩ : ∃ xs, xs = (readD D nm.data.toList).1 := ⟨_, rfl⟩
  obtain ⟨er, her⟩ : ∃ er, er = (readD D nm.data.toList).2 := ⟨_, rfl⟩
  rw [← hxs] at hrl hro
  rw [← her] at hre
  rw [← hxs, ← her] at HR ⊢
  have HST : Hid (∀ (n : Nat) (W : World), n ≤ 100000 → DiskAt W g P D → Calls Tryd.prog 48 #[ptr g, .string nm, .int .i64 (xs.length : Nat), .int .i64 (n : Nat)] W fun e w' => ∃ P', e = .returned (.int .i64 (settleD D nm.data.toList xs.length n).1) ∧ DiskAt w' g P' (settleD D nm.data.toList xs.length n).2 ∧ Step P P' W w') :=
    Lib.hid (fun n W k1 k2 => settle_any g P D nm xs.length n W k2 hs hn (fun f hf => by have := hall f hf; omega) (by omega) (by omega))
  obtain ⟨SD, hSD⟩ : ∃ SD : Nat → Int × DSt, SD = fun n => settleD D nm.data.toList xs.length n := ⟨_, rfl⟩
  have HST : Hid (∀ (n : Nat) (W : World), n ≤ 100000 → DiskAt W g P D → Calls Tryd.prog 48 #[ptr g, .string nm, .int .i64 (xs.length : Nat), .int .i64 (n : Nat)] W fun e w' => ∃ P', e = .returned (.int .i64 (SD n).1) ∧ DiskAt w' g P' (SD n).2 ∧ Step P P' W w') := by rw [hSD]; exact HST
  have HG := Lib.hid (fun (e : Ending) (w' : World) (P' : Nat → Prop) (hS : Step P P' w w') (hh : (er = 12 ∧ e = .returned (.tuple #[.pointer none, .slice none 0 0, .int .i64 12]) ∧ DiskAt w' g P' D) ∨
     (er ≠ 12 ∧ ∃ ls n x, AllIs ls xs n x ∧ DiskAt w' g P' (SD n).2 ∧ (((SD n).1 ≠ 0 ∧ e = .returned (.tuple #[.pointer none, .slice none 0 0, .int .i64 (SD n).1])) ∨
        ((SD n).1 = 0 ∧ ∃ l v, e = .returned (.tuple #[ptr l, v, .int .i64 0]) ∧ LogIs 83 w' l g nm n false ∧ (∀ w'', Touch (fun i => P' i ∨ i = l) w' w'' → RowN w'' w.heap.size v ls) ∧ ¬ P' l ∧ w.heap.size ≤ l)))) => (show ∃ P', Step P P' w w' ∧ ((er = 12 ∧ e = .returned (.tuple #[.pointer none, .slice none 0 0, .int .i64 12]) ∧ DiskAt w' g P' D) ∨
     (er ≠ 12 ∧ ∃ ls n x, AllIs ls xs n x ∧ DiskAt w' g P' (settleD D nm.data.toList xs.length n).2 ∧ (((settleD D nm.data.toList xs.length n).1 ≠ 0 ∧ e = .returned (.tuple #[.pointer none, .slice none 0 0, .int .i64 (settleD D nm.data.toList xs.length n).1])) ∨
        ((settleD D nm.data.toList xs.length n).1 = 0 ∧ ∃ l v, e = .returned (.tuple #[ptr l, v, .int .i64 0]) ∧ LogIs 83 w' l g nm n false ∧ (∀ w'', Touch (fun i => P' i ∨ i = l) w' w'' → RowN w'' w.heap.size v ls) ∧ ¬ P' l ∧ w.heap.size ≤ l)))) from ⟨P', hS, by rw [hSD] at hh; exact hh⟩))
  have HH := Lib.hid h
  have HRO := Lib.hid hro
  clear h hall hgl hro hxs her hSD hs0
  obtain ⟨A, hAA⟩ : ∃ A : Prop, A = (er = 12) := ⟨_, rfl⟩
  have HAA := Lib.hid hAA
  clear hAA
  refine Calls.mono (R := fun e w' => ∃ P', Step P P' w w' ∧ ((A ∧ e = .returned (.tuple #[.pointer none, .slice none 0 0, .int .i64 12]) ∧ DiskAt w' g P' D) ∨
     (¬ A ∧ ∃ ls n x, AllIs ls xs n x ∧ DiskAt w' g P' (SD n).2 ∧ (((SD n).1 ≠ 0 ∧ e = .returned (.tuple #[.pointer none, .slice none 0 0, .int .i64 (SD n).1])) ∨
        ((SD n).1 = 0 ∧ ∃ l v, e = .returned (.tuple #[ptr l, v, .int .i64 0]) ∧ LogIs 83 w' l g nm n false ∧ (∀ w'', Touch (fun i => P' i ∨ i = l) w' w'' → RowN w'' w.heap.size v ls) ∧ ¬ P' l ∧ w.heap.size ≤ l))))) ?_ (fun e w' ⟨P', hS, hh⟩ => HG.out e w' P' hS (by rw [HAA.out] at hh; exact hh))
  have HA0 : Hid (A ↔ er = 12) := Lib.hid (by rw [HAA.out])
  clear HG HAA
  by_cases h12 : er = 12
  · have hA : A := HA0.out.2 h12
    subst h12
    have HA1 := Lib.hid hA
    clear HA0 hA
    go_enter Tryd.func20, Tryd.ntmps20
    go_wp2_with fail
    refine HR.out.mono ?_; rintro e w1 ⟨v1, rfl, ho1, hb1⟩
    go_wp2_with fail
    go_ret3
    exact ⟨P, Step.below hb1 (Step.refl _ _), Or.inl ⟨HA1.out, rfl, HH.out.below hb1⟩⟩
  · have hcond : er = 0 ∨ er = 6 := by omega
    have HE := Lib.hid (fun h => h12 (HA0.out.1 h))
    clear h12 hre HA0
    rcases hcond with rfl | rfl
    all_goals
      go_enter Tryd.func20, Tryd.ntmps20
      go_wp2_with fail
      refine HR.out.mono ?_; rintro e w1 ⟨v1, rfl, ho1, hb1⟩
      obtain ⟨vo, vc, hv1, -, -⟩ := id ho1.sees
      subst hv1
      have HA := Lib.hid (all_new _ xs w1 ho1.sees HRO.out hrl (hE.below hb1))
      clear ho1
      go_wp2_with fail
      refine HA.out.mono ?_; rintro e w2 ⟨v2, ls, n, x, rfl, hrow, hall, hb2⟩
      have hroom := Steps.room _ _ _ hall.1
      have hb12 := bel hb1 hb2
      have HS2 := Lib.hid (HST.out n w2 (by omega) (HH.out.below hb12))
      have HALL := Lib.hid (And.intro hall hrow)
      have hz1 := hb1.size
      clear hall hrow hroom
      obtain ⟨sn, hsn⟩ : ∃ sn, sn = SD n := ⟨_, rfl⟩
      rw [← hsn] at HS2
      have HSN := Lib.hid hsn
      clear hsn
      go_wp2_with fail
      refine HS2.out.mono ?_; rintro e w3 ⟨P3, rfl, hD3, hS3⟩
      have HS3 := Lib.hid (Step.below hb12 hS3)
      have HZ23 := Lib.hid hS3.1.2.2.2.1
      have HST3 := Lib.hid hS3.1.2.2.2.2
      have HPN := Lib.hid hS3.2
      have HD3 := Lib.hid hD3
      clear hS3 hD3
      by_cases h0 : sn.1 = 0
      · have hlN : ¬ P3 w3.heap.size := fun hp => absurd (HD3.out.lt hp) (Nat.lt_irrefl _)
        have hz3 : w.heap.size ≤ w3.heap.size := HS3.out.1.2.2.2.1
        have hbA := belNew w3 (.cells #[ptr g, .string nm, .int .i64 (n : Nat), .bool false] 83)
        have HKP : Hid (∀ w'', Below w3.heap.size w3 (w3.alloc (.cells #[ptr g, .string nm, .int .i64 (n : Nat), .bool false] 83)) → Touch (fun i => P3 i ∨ i = w3.heap.size) (w3.alloc (.cells #[ptr g, .string nm, .int .i64 (n : Nat), .bool false] 83)) w'' → RowN w'' w.heap.size v2 ls) := Lib.hid (fun w'' hb ht => RowN.le (HALL.out.2.stay (by have := hb.size; have := ht.2.2.2.1; have := HZ23.out; omega) (fun d h1 h2 => by
          have hz23 := HZ23.out
          have e1 := HST3.out d h2 (fun hp => by have := HH.out.lt hp; omega)
          have e2 := hb.block d (by omega)
          have e3 := ht.2.2.2.2 d (by simp; omega) (fun hp => by
            rcases hp with hp | hp
            · rcases HPN.out d hp with h3 | h3
              · have := HH.out.lt h3; omega
              · omega
            · omega)
          rw [e3, e2, e1])) hz1)
        have HX := Lib.hid (show LogIs 83 (w3.alloc (.cells #[ptr g, .string nm, .int .i64 (n : Nat), .bool false] 83)) w3.heap.size g nm n false from heap_alloc_new w3 _)
        have HB := Lib.hid hbA
        clear hbA
        go_wp2_with fail
        go_ret3
        obtain rfl := HSN.out
        refine ⟨P3, ⟨HS3.out.1.trans (Touch.of_below _ HB.out) (fun _ _ h => h), HS3.out.2⟩, Or.inr ⟨HE.out, ls, n, x, HALL.out.1, ?_, Or.inr ⟨h0, w3.heap.size, v2, rfl, HX.out, fun w'' ht => HKP.out w'' (HB.out) ht, hlN, hz3⟩⟩⟩
        exact HD3.out.below HB.out
      · have d9 : (sn.1 != 0) = true := by simpa using h0
        go_wp2_with fail
        go_ret3
        obtain rfl := HSN.out
        exact ⟨P3, HS3.out, Or.inr ⟨HE.out, ls, n, x, HALL.out.1, HD3.out, Or.inl ⟨h0, rfl⟩⟩⟩
theorem open_nil (nm : ByteArray) (hs0 : nm.data.toList ≠ []) (w : World) : Calls Tryd.prog 20 #[.pointer none, .string nm] w fun e w' => e = .returned (.tuple #[.pointer none, .slice none 0 0, .int .i64 2]) ∧ Below w.heap.size w w' := by
  have d0 : (nm.toList == ([] : List UInt8)) = false := by rw [ByteArray.toList_eq]; simpa using hs0
  have HR := Lib.hid (read_nil nm w)
  go_enter Tryd.func20, Tryd.ntmps20
  go_wp2_with fail
  refine HR.out.mono ?_; rintro e w1 ⟨rfl, hb1⟩
  go_wp2_with fail
  go_ret3
  exact ⟨rfl, hb1⟩
theorem open_empty (g : Nat) (w : World) : Calls Tryd.prog 20 #[ptr g, .string ⟨#[]⟩] w fun e w' => e = .returned (.tuple #[.pointer none, .slice none 0 0, .int .i64 1]) ∧ w = w' := by
  go_enter Tryd.func20, Tryd.ntmps20
  go_wp2_with fail
  go_ret3
  exact ⟨rfl, rfl⟩
end Go.Proofs.YtkjdfelmjanpcaaDoor
