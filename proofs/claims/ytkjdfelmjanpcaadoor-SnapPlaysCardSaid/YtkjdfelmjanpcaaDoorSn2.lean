/- Package snap: the steps in turn, Save, Load. -/
import Derived.Test.YtkjdfelmjanpcaaDoorSn
namespace Go.Proofs.YtkjdfelmjanpcaaDoor
open Go.RowKit Go.Maps
set_option linter.unusedVariables false in
set_option maxRecDepth 100000 in
set_option maxHeartbeats 4000000 in
theorem inTurn_any (g : Nat) (P : Nat → Prop) (D : DSt) (bd bn bb bs bl : Nat) (nm sp : ByteArray) (v : Value) (xs : List Int) (w0 w : World) (h : DiskAt w g P D) (hbx : SnBox w (ptr g) bd bn bb bs bl nm sp v) (hfr : SnFree P bd bn bb bs bl)
    (hs : sp.size ≤ maxLen) (hs0 : sp.data.toList ≠ []) (hs2 : nm.size ≤ maxLen) (hn : D.fs.length ≤ 1000) (hb : ((getE D.fs sp.data.toList).getD ([], 0)).1.length ≤ 1000000) (hsee : Sees w v xs) (hvP : xs ≠ [] → ∀ d, v.ownBlock = some d → ¬ P d) (hok : okB xs) (hxl : xs.length ≤ 1000000) (hE : Env w0) (hB : Below w0.heap.size w0 w) (hP : ∀ i, P i → w0.heap.size ≤ i) :
    Calls Tryd.prog 58 #[.slice (some ⟨bl, 0, none⟩) 4 4] w fun e w' => ∃ P', e = .returned (.int .i64 (stepsD D nm.data.toList sp.data.toList xs).1) ∧ DiskAt w' g P' (stepsD D nm.data.toList sp.data.toList xs).2 ∧ Step P P' w w' := by
  have H1 := Lib.hid (save1_any g P D bd bs sp w h hs (cellOne hbx.1) (cellOne hbx.2.2.2.1))
  have hl1 := rmD_len D sp.data.toList
  have hg1 := rmD_get D sp.data.toList
  obtain ⟨e1, he1⟩ : ∃ e1, e1 = (rmD D sp.data.toList).1 := ⟨_, rfl⟩
  obtain ⟨D1, hD1⟩ : ∃ D1, D1 = (rmD D sp.data.toList).2 := ⟨_, rfl⟩
  have hl2 := appD_len D1 sp.data.toList (sealL xs)
  obtain ⟨e2, he2⟩ : ∃ e2, e2 = (appD D1 sp.data.toList (sealL xs)).1 := ⟨_, rfl⟩
  obtain ⟨D2, hD2⟩ : ∃ D2, D2 = (appD D1 sp.data.toList (sealL xs)).2 := ⟨_, rfl⟩
  have hl3 := syncD_len D2 sp.data.toList
  obtain ⟨e3, he3⟩ : ∃ e3, e3 = (syncD D2 sp.data.toList).1 := ⟨_, rfl⟩
  obtain ⟨D3, hD3⟩ : ∃ D3, D3 = (syncD D2 sp.data.toList).2 := ⟨_, rfl⟩
  obtain ⟨e4, he4⟩ : ∃ e4, e4 = (renameD D3 sp.data.toList nm.data.toList).1 := ⟨_, rfl⟩
  obtain ⟨D4, hD4⟩ : ∃ D4, D4 = (renameD D3 sp.data.toList nm.data.toList).2 := ⟨_, rfl⟩
  obtain ⟨R, hR⟩ : ∃ R, R = stepsD D nm.data.toList sp.data.toList xs := ⟨_, rfl⟩
  have HX1 : Hid (e1 ≠ 0 → R = (e1, D1)) := Lib.hid (fun h1 => by rw [hR]; unfold stepsD; rw [← he1, if_neg h1, he1, hD1])
  have HX2 : Hid (e1 = 0 → e2 ≠ 0 → R = (e2, D2)) := Lib.hid (fun h1 h2 => by rw [hR]; unfold stepsD; rw [← he1, if_pos h1, ← hD1, ← he2, if_neg h2, he2, hD2])
  have HX3 : Hid (e1 = 0 → e2 = 0 → e3 ≠ 0 → R = (e3, D3)) := Lib.hid (fun h1 h2 h3 => by rw [hR]; unfold stepsD; rw [← he1, if_pos h1, ← hD1, ← he2, if_pos h2, ← hD2, ← he3, if_neg h3, he3, hD3])
  have HX4 : Hid (e1 = 0 → e2 = 0 → e3 = 0 → R = (e4, D4)) := Lib.hid (fun h1 h2 h3 => by rw [hR]; unfold stepsD; rw [← he1, if_pos h1, ← hD1, ← he2, if_pos h2, ← hD2, ← he3, if_pos h3, ← hD3, he4, hD4])
  rw [← he1, ← hD1] at H1
  rw [← hD1] at hl1 hg1
  rw [← hD2] at hl2
  rw [← hD3] at hl3
  rw [← hR]
  have HR2 : Hid (appD D1 sp.data.toList (sealL xs) = (e2, D2)) := Lib.hid (by rw [he2, hD2])
  have HR3 : Hid (syncD D2 sp.data.toList = (e3, D3)) := Lib.hid (by rw [he3, hD3])
  have HR4 : Hid (renameD D3 sp.data.toList nm.data.toList = (e4, D4)) := Lib.hid (by rw [he4, hD4])
  have HB0 := Lib.hid (And.intro hbx hfr)
  have HSE := Lib.hid (And.intro hsee (And.intro hvP hok))
  obtain ⟨f0, f1, f2, f3⟩ := cellFour hbx.2.2.2.2
  clear he1 hD1 he2 hD2 he3 hD3 he4 hD4 hR h hbx hfr hsee hvP hok
  go_enter Tryd.func58, Tryd.ntmps58
  go_wp2_with fail
  refine wp_loop_rounds 5 ?_
  rw [rounds_succ]
  go_wp2_with fail
  refine H1.out.mono ?_; rintro e w1 ⟨P1, rfl, hd1, hS1⟩
  obtain ⟨hP1, hb1⟩ := hS1.ge hP hB.size
  have hB1 := hB.trans hb1
  by_cases h1 : e1 = 0
  · obtain ⟨hbx1, hfr1⟩ := HB0.out.1.step HB0.out.2 hS1
    have hse1 : Sees w1 v xs := by
      by_cases hx : xs = []
      · rw [hx]; have := HSE.out.1; rw [hx] at this; obtain ⟨ao, c, e, h2, h3, _⟩ := this; exact ⟨ao, c, e, h2, h3, fun a _ i hi => absurd hi (by simp)⟩
      · exact sees_heap HSE.out.1 (fun d hd hlt => hS1.1.2.2.2.2 d hlt (HSE.out.2.1 hx d hd))
    have H2 := save2_any g P1 D1 bd bs bb sp v xs w1 hd1 hs hs0 (by omega) (by omega) hse1 HSE.out.2.2 hxl (hE.below hB1) (cellOne hbx1.1) (cellOne hbx1.2.2.2.1) (cellOne hbx1.2.2.1) hfr1.1 hfr1.2.2.2.1 hfr1.2.2.1
    rw [HR2.out] at H2
    dsimp only at H2
    have H2 := Lib.hid H2
    obtain ⟨g0, g1, g2, g3⟩ := cellFour hbx1.2.2.2.2
    have HB1 := Lib.hid (And.intro hbx1 hfr1)
    have HS1 := Lib.hid hS1
    subst h1
    clear f0 f1 f2 f3 hse1 hbx1 hfr1 hd1 hS1 hb1
    go_wp2_with fail
    rw [rounds_succ]
    go_wp2_with fail
    refine H2.out.mono ?_; rintro e w2 ⟨P2, rfl, hd2, hS2⟩
    obtain ⟨hP2, hb2⟩ := hS2.ge hP1 hB1.size
    have hB2 := hB1.trans hb2
    have HS2 := Lib.hid (HS1.out.trans hS2)
    by_cases h2 : e2 = 0
    · obtain ⟨hbx2, hfr2⟩ := HB1.out.1.step HB1.out.2 hS2
      have H3 := save3_any g P2 D2 bd bs sp w2 hd2 hs (by omega) (cellOne hbx2.1) (cellOne hbx2.2.2.2.1)
      rw [HR3.out] at H3
      dsimp only at H3
      have H3 := Lib.hid H3
      obtain ⟨k0, k1, k2, k3⟩ := cellFour hbx2.2.2.2.2
      have HB2 := Lib.hid (And.intro hbx2 hfr2)
      subst h2
      clear g0 g1 g2 g3 hbx2 hfr2 hd2 hS2 hb2
      go_wp2_with fail
      rw [rounds_succ]
      go_wp2_with fail
      refine H3.out.mono ?_; rintro e w3 ⟨P3, rfl, hd3, hS3⟩
      obtain ⟨hP3, hb3⟩ := hS3.ge hP2 hB2.size
      have hB3 := hB2.trans hb3
      have HS3 := Lib.hid (HS2.out.trans hS3)
      by_cases h3 : e3 = 0
      · obtain ⟨hbx3, hfr3⟩ := HB2.out.1.step HB2.out.2 hS3
        have H4 := save4_any g P3 D3 bd bs bn sp nm w3 hd3 hs hs2 (by omega) (cellOne hbx3.1) (cellOne hbx3.2.2.2.1) (cellOne hbx3.2.1)
        rw [HR4.out] at H4
        dsimp only at H4
        have H4 := Lib.hid H4
        obtain ⟨m0, m1, m2, m3⟩ := cellFour hbx3.2.2.2.2
        subst h3
        clear k0 k1 k2 k3 hbx3 hfr3 hd3 hS3 hb3
        go_wp2_with fail
        rw [rounds_succ]
        go_wp2_with fail
        refine H4.out.mono ?_; rintro e w4 ⟨P4, rfl, hd4, hS4⟩
        have HRR := HX4.out (by simp) (by simp) (by simp)
        have HS4 := Lib.hid (HS3.out.trans hS4)
        have HD4 := Lib.hid hd4
        clear hd4 hS4
        by_cases h4 : e4 = 0
        · subst h4
          have HRR := Lib.hid HRR
          go_wp2_with fail
          rw [rounds_succ]
          go_wp2_with fail
          go_ret
          rw [HRR.out]
          exact ⟨P4, rfl, HD4.out, HS4.out⟩
        · have d9 : (e4 != 0) = true := by simpa using h4
          have HRR := Lib.hid HRR
          clear h4
          go_wp2_with fail
          go_ret
          rw [HRR.out]
          exact ⟨P4, rfl, HD4.out, HS4.out⟩
      · have d9 : (e3 != 0) = true := by simpa using h3
        have HRR := Lib.hid (HX3.out (by simp) (by simp) h3)
        have HD3 := Lib.hid hd3
        clear h3 hd3 hS3 hb3
        go_wp2_with fail
        go_ret
        rw [HRR.out]
        exact ⟨P3, rfl, HD3.out, HS3.out⟩
    · have d9 : (e2 != 0) = true := by simpa using h2
      have HRR := Lib.hid (HX2.out (by simp) h2)
      have HD2 := Lib.hid hd2
      clear h2 hd2 hS2 hb2
      go_wp2_with fail
      go_ret
      rw [HRR.out]
      exact ⟨P2, rfl, HD2.out, HS2.out⟩
  · have d9 : (e1 != 0) = true := by simpa using h1
    have HRR := Lib.hid (HX1.out h1)
    have HD1 := Lib.hid hd1
    have HS1 := Lib.hid hS1
    clear h1 hd1 hS1 hb1
    go_wp2_with fail
    go_ret
    rw [HRR.out]
    exact ⟨P1, rfl, HD1.out, HS1.out⟩
set_option maxRecDepth 100000 in
theorem inTurn_nil (bd bn bb bs bl : Nat) (nm sp : ByteArray) (v : Value) (w : World) (hbx : SnBox w (.pointer none) bd bn bb bs bl nm sp v) :
    Calls Tryd.prog 58 #[.slice (some ⟨bl, 0, none⟩) 4 4] w fun e w' => e = .returned (.int .i64 2) ∧ Below w.heap.size w w' := by
  have H1 := Lib.hid (save1_nil bd bs sp w (cellOne hbx.1) (cellOne hbx.2.2.2.1))
  obtain ⟨f0, f1, f2, f3⟩ := cellFour hbx.2.2.2.2
  clear hbx
  go_enter Tryd.func58, Tryd.ntmps58
  go_wp2_with fail
  refine wp_loop_rounds 5 ?_
  rw [rounds_succ]
  go_wp2_with fail
  refine H1.out.mono ?_; rintro e w1 ⟨rfl, hb1⟩
  go_wp2_with fail
  go_ret
  exact ⟨rfl, hb1⟩
def saveD (D : DSt) (nm : ByteArray) (xs : List Int) : Int × DSt := stepsD D nm.data.toList (tilde nm).data.toList xs
theorem tilde_ne (s : ByteArray) : (tilde s).data.toList ≠ [] := by unfold tilde; simp
theorem tilde_size (s : ByteArray) : (tilde s).size = s.size + 1 := by unfold tilde; rw [ByteArray.size_append]; rfl
theorem save_empty (dv v : Value) (w : World) (ao : Option Addr) (n c : Nat) (hv : v = .slice ao n c) (hd : ∃ b, dv = .pointer b) : Calls Tryd.prog 31 #[dv, .string ⟨#[]⟩, v] w fun e w' => e = .returned (.int .i64 1) ∧ Below w.heap.size w w' := by
  subst hv
  obtain ⟨b, rfl⟩ := hd
  go_enter Tryd.func31, Tryd.ntmps31
  go_wp2_with fail
  go_ret
  refine ⟨rfl, ?_⟩
  repeat (first | exact Below.refl _ _ | refine belAlloc ?_ _)
/-- The world behind Save's boxes. -/
abbrev snW (w : World) (dv : Value) (nm sp : ByteArray) (v : Value) : World :=
  ((((w.alloc (.cells #[dv] 23)).alloc (.cells #[.string nm] 9)).alloc (.cells #[v] 32)).alloc (.cells #[.string sp] 9)).alloc (.cells #[
    .func (.func 59) #[] #[.pointer (some ⟨w.heap.size, 0, none⟩), .pointer (some ⟨w.heap.size + 1 + 1 + 1, 0, none⟩)],
    .func (.func 61) #[] #[.pointer (some ⟨w.heap.size, 0, none⟩), .pointer (some ⟨w.heap.size + 1 + 1 + 1, 0, none⟩), .pointer (some ⟨w.heap.size + 1 + 1, 0, none⟩)],
    .func (.func 63) #[] #[.pointer (some ⟨w.heap.size, 0, none⟩), .pointer (some ⟨w.heap.size + 1 + 1 + 1, 0, none⟩)],
    .func (.func 65) #[] #[.pointer (some ⟨w.heap.size, 0, none⟩), .pointer (some ⟨w.heap.size + 1 + 1 + 1, 0, none⟩), .pointer (some ⟨w.heap.size + 1, 0, none⟩)]] 63)
theorem snW_below (w : World) (dv : Value) (nm sp : ByteArray) (v : Value) : Below w.heap.size w (snW w dv nm sp v) := belAlloc (belAlloc (belAlloc (belAlloc (belNew w _) _) _) _) _
theorem snW_box (w : World) (dv : Value) (nm sp : ByteArray) (v : Value) : SnBox (snW w dv nm sp v) dv w.heap.size (w.heap.size + 1) (w.heap.size + 1 + 1) (w.heap.size + 1 + 1 + 1) (w.heap.size + 1 + 1 + 1 + 1) nm sp v := by
  have key : ∀ (W : World) (o o' : Obj) (n : Nat), W.heap[n]? = some o → (W.alloc o').heap[n]? = some o := fun W o o' n h => ((belNew W o').block n (heap_lt h)).trans h
  have new : ∀ (W : World) (o : Obj) (n : Nat), ∀ a t, o = .cells a t (0, 0) → n = W.heap.size → (W.alloc o).heap[n]? = some o := fun W o n a t ho hn => by rw [hn, ho]; exact heap_alloc_new W _
  refine ⟨key _ _ _ _ (key _ _ _ _ (key _ _ _ _ (key _ _ _ _ (new _ _ _ _ _ rfl rfl)))), key _ _ _ _ (key _ _ _ _ (key _ _ _ _ (new _ _ _ _ _ rfl (by simp)))), key _ _ _ _ (key _ _ _ _ (new _ _ _ _ _ rfl (by simp))), key _ _ _ _ (new _ _ _ _ _ rfl (by simp)), new _ _ _ _ _ rfl (by simp)⟩
set_option linter.unusedVariables false in
set_option maxRecDepth 100000 in
set_option maxHeartbeats 2000000 in
theorem save_nil (nm : ByteArray) (v : Value) (w : World) (ao : Option Addr) (n c : Nat) (hv : v = .slice ao n c) (hs0 : nm.data.toList ≠ []) (hs : nm.size + 1 ≤ maxLen) : Calls Tryd.prog 31 #[.pointer none, .string nm, v] w fun e w' => e = .returned (.int .i64 2) ∧ Below w.heap.size w w' := by
  subst hv
  have d0 : (nm.toList == ([] : List UInt8)) = false := by rw [ByteArray.toList_eq]; simpa using hs0
  have HS := Lib.hid (fun W => spare_any nm W (by unfold maxLen at hs; omega))
  have HI := Lib.hid (inTurn_nil _ _ _ _ _ nm (tilde nm) (.slice ao n c) _ (snW_box w (.pointer none) nm (tilde nm) (.slice ao n c)))
  have HB := Lib.hid (snW_below w (.pointer none) nm (tilde nm) (.slice ao n c))
  go_enter Tryd.func31, Tryd.ntmps31
  go_wp2_with fail
  refine (HS.out _).mono ?_; rintro e w' ⟨rfl, rfl⟩
  go_wp2_with fail
  refine HI.out.mono ?_; rintro e w' ⟨rfl, hb⟩
  go_wp2_with fail
  go_ret
  exact ⟨rfl, bel HB.out hb⟩
set_option linter.unusedVariables false in
set_option maxRecDepth 100000 in
set_option maxHeartbeats 2000000 in
theorem save_any (g : Nat) (P : Nat → Prop) (D : DSt) (nm : ByteArray) (v : Value) (xs : List Int) (w0 w : World) (h : DiskAt w g P D) (hs0 : nm.data.toList ≠ []) (hs : nm.size + 1 ≤ maxLen) (hn : D.fs.length ≤ 1000) (hb : ((getE D.fs (tilde nm).data.toList).getD ([], 0)).1.length ≤ 1000000) (hsee : Sees w v xs) (hvP : xs ≠ [] → ∀ d, v.ownBlock = some d → ¬ P d) (hok : okB xs) (hxl : xs.length ≤ 1000000) (hE : Env w0) (hB : Below w0.heap.size w0 w) (hP : ∀ i, P i → w0.heap.size ≤ i) :
    Calls Tryd.prog 31 #[ptr g, .string nm, v] w fun e w' => ∃ P', e = .returned (.int .i64 (saveD D nm xs).1) ∧ DiskAt w' g P' (saveD D nm xs).2 ∧ Step P P' w w' := by
  have hbW := snW_below w (ptr g) nm (tilde nm) v
  have hnP : ∀ k, ¬ P (w.heap.size + k) := fun k hp => by have := h.lt hp; omega
  have HI := Lib.hid (inTurn_any g P D w.heap.size (w.heap.size + 1) (w.heap.size + 1 + 1) (w.heap.size + 1 + 1 + 1) (w.heap.size + 1 + 1 + 1 + 1) nm (tilde nm) v xs w0 (snW w (ptr g) nm (tilde nm) v) (h.below hbW) (snW_box w (ptr g) nm (tilde nm) v) ⟨hnP 0, hnP 1, hnP 2, hnP 3, hnP 4⟩
    (by rw [tilde_size]; exact hs) (tilde_ne nm) (by omega) hn hb (hsee.keep hbW) hvP hok hxl hE (hB.trans (hbW.mono hB.size)) hP)
  have HB := Lib.hid hbW
  have d0 : (nm.toList == ([] : List UInt8)) = false := by rw [ByteArray.toList_eq]; simpa using hs0
  have HS := Lib.hid (fun W => spare_any nm W (by unfold maxLen at hs; omega))
  have hE1 : saveD D nm xs = stepsD D nm.data.toList (tilde nm).data.toList xs := rfl
  rw [hE1]
  obtain ⟨R, hR⟩ : ∃ R, R = stepsD D nm.data.toList (tilde nm).data.toList xs := ⟨_, rfl⟩
  rw [← hR] at HI ⊢
  obtain ⟨ao, c, rfl, -⟩ := id hsee
  clear h hsee hvP hok hE hB hP hbW hnP hR hE1
  go_enter Tryd.func31, Tryd.ntmps31
  go_wp2_with fail
  refine (HS.out _).mono ?_; rintro e w' ⟨rfl, rfl⟩
  go_wp2_with fail
  refine HI.out.mono ?_; rintro e w' ⟨P1, rfl, hd1, hS1⟩
  go_wp2_with fail
  go_ret
  first | exact ⟨P1, rfl, hd1, Step.below HB.out hS1⟩ | exact ⟨rfl, P1, hd1, Step.below HB.out hS1⟩
def loadD (D : DSt) (k : List UInt8) : List Int × Int :=
  if (readD D k).2 = 0 then if wholeB (readD D k).1 = true then ((readD D k).1.take ((readD D k).1.length - 4), 0) else ([], 5) else ([], (readD D k).2)
theorem load_nil (nm : ByteArray) (w : World) : Calls Tryd.prog 36 #[.pointer none, .string nm] w fun e w' => e = .returned (.tuple #[.slice none 0 0, .int .i64 2]) ∧ Below w.heap.size w w' := by
  have HR := Lib.hid (read_nil nm w)
  go_enter Tryd.func36, Tryd.ntmps36
  go_wp2_with fail
  refine HR.out.mono ?_; rintro e w1 ⟨rfl, hb1⟩
  go_wp2_with fail
  go_ret2
  exact ⟨rfl, hb1⟩
set_option maxRecDepth 100000 in
set_option maxHeartbeats 2000000 in
theorem load_any (g : Nat) (P : Nat → Prop) (D : DSt) (nm : ByteArray) (w : World) (h : DiskAt w g P D) (hs : nm.size ≤ maxLen) (hn : ((getE D.fs nm.data.toList).getD ([], 0)).1.length ≤ 1000000) (hE : Env w) :
    Calls Tryd.prog 36 #[ptr g, .string nm] w fun e w' => ∃ v, e = .returned (.tuple #[v, .int .i64 (loadD D nm.data.toList).2]) ∧ Sees w' v (loadD D nm.data.toList).1 ∧ (∀ d, v.ownBlock = some d → w.heap.size ≤ d) ∧ Below w.heap.size w w' := by
  have HR := Lib.hid (read_any g P D nm w h hs (by omega))
  have hrl := readD_len (D := D) nm.data.toList
  have hro := readD_ok h.oks nm.data.toList
  unfold loadD
  obtain ⟨xs, hxs⟩ : ∃ xs, xs = (readD D nm.data.toList).1 := ⟨_, rfl⟩
  obtain ⟨er, her⟩ : ∃ er, er = (readD D nm.data.toList).2 := ⟨_, rfl⟩
  rw [← hxs] at hrl hro
  rw [← hxs, ← her] at HR ⊢
  have HO := Lib.hid hro
  clear hxs her hro h
  by_cases h0 : er = 0
  · subst h0
    by_cases hw : wholeB xs = true
    · rw [if_pos rfl, if_pos hw]
      have hl4 : 4 ≤ xs.length := by
        unfold wholeB at hw
        rw [Bool.and_eq_true] at hw
        simpa using hw.1
      obtain ⟨m, hm⟩ : ∃ m, xs.length = m + 4 := ⟨xs.length - 4, by omega⟩
      have e1 : xs.length - 4 = m := by omega
      rw [e1]
      have s1 : IntKind.i64.wrap ((xs.length : Int) - 4) = (m : Int) := by rw [IntWalk.i64_in _ (by omega)]; omega
      have HW := Lib.hid hw
      have HM := Lib.hid hm
      clear hw hm e1
      go_enter Tryd.func36, Tryd.ntmps36
      go_wp2_with fail
      refine HR.out.mono ?_; rintro e w1 ⟨v1, rfl, ho1, hb1⟩
      have HWH := Lib.hid (whole_any v1 xs w1 ho1.sees HO.out (by omega) (hE.below hb1))
      rw [HW.out] at HWH
      have hs1 := ho1.sees
      obtain ⟨ao, c, hv1, hlc, -⟩ := id hs1
      subst hv1
      have hlt : (xs.take m).length = m := by rw [List.length_take]; have := HM.out; omega
      have HS := Lib.hid (sees_head hs1 (n := m) (by have := HM.out; omega))
      have HF := Lib.hid (fun d (hd : (Value.slice ao xs.length c).ownBlock = some d) => (World.ownsRow.lt ho1 d hd).1)
      have n1 : m ≤ c := by have := HM.out; omega
      have n2 : (m : Int) ≤ (c : Int) := by omega
      have n3 : (0 : Int) ≤ (m : Int) := by omega
      have HLT := Lib.hid hlt
      clear ho1 hs1 hlt
      go_wp2_with fail
      refine HWH.out.mono ?_; rintro e w2 ⟨rfl, hb2⟩
      go_wp2_with fail
      go_ret2
      exact ⟨.slice ao m c, rfl, by have := HS.out.keep hb2; exact this, fun d hd => HF.out d (by cases ao with | none => cases hd | some a => exact hd), bel hb1 hb2⟩
    · rw [if_pos rfl, if_neg hw]
      have HW : Hid (wholeB xs = false) := Lib.hid (by simpa using hw)
      clear hw
      go_enter Tryd.func36, Tryd.ntmps36
      go_wp2_with fail
      refine HR.out.mono ?_; rintro e w1 ⟨v1, rfl, ho1, hb1⟩
      have HWH := Lib.hid (whole_any v1 xs w1 ho1.sees HO.out (by omega) (hE.below hb1))
      rw [HW.out] at HWH
      clear ho1
      go_wp2_with fail
      refine HWH.out.mono ?_; rintro e w2 ⟨rfl, hb2⟩
      go_wp2_with fail
      go_ret2
      exact ⟨.slice none 0 0, rfl, Sees.nil _, (fun d hd => by cases hd), bel hb1 hb2⟩
  · rw [if_neg h0]
    have d9 : (er != 0) = true := by simpa using h0
    clear h0
    go_enter Tryd.func36, Tryd.ntmps36
    go_wp2_with fail
    refine HR.out.mono ?_; rintro e w1 ⟨v1, rfl, ho1, hb1⟩
    clear ho1
    go_wp2_with fail
    go_ret2
    exact ⟨.slice none 0 0, rfl, Sees.nil _, (fun d hd => by cases hd), hb1⟩
end Go.Proofs.YtkjdfelmjanpcaaDoor
