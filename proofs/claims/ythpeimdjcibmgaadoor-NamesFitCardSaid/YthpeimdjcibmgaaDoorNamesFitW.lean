/- The law NamesFit: the walk. -/
import Derived.Test.YthpeimdjcibmgaaDoorNamesNetsW
namespace Go.Proofs.YthpeimdjcibmgaaDoor
open Go.RowKit Go.Maps
theorem fit_two {c : Bool} {X Y : ByteArray} {m n : Int} {k : Nat} (hx : X.size ≤ k) (hy : Y.size ≤ k) :
    ∃ (Z : ByteArray) (r : Int), (if c = true then (.tuple #[.string X, .int .i64 m] : Value) else .tuple #[.string Y, .int .i64 n]) = .tuple #[.string Z, .int .i64 r] ∧ Z.size ≤ k := by
  cases c with
  | false => exact ⟨Y, n, rfl, hy⟩
  | true => exact ⟨X, m, rfl, hx⟩
theorem lt_six {P : Nat → Prop} {i : Nat} (h : i < 6) (h0 : P 0) (h1 : P 1) (h2 : P 2) (h3 : P 3) (h4 : P 4) (h5 : P 5) : P i := by
  match i, h with
  | 0, _ => exact h0
  | 1, _ => exact h1
  | 2, _ => exact h2
  | 3, _ => exact h3
  | 4, _ => exact h4
  | 5, _ => exact h5
  | i + 6, h => exact absurd h (by omega)
set_option maxRecDepth 100000 in
set_option maxHeartbeats 8000000 in
theorem lawFit (w : World) (n b : Int) (s : ByteArray) (a : Int) (hn : 0 ≤ n) (hn' : n < 4294967296) (_ : -9223372036854775808 ≤ b) (_ : b ≤ 9223372036854775807) (ha : 0 ≤ a) (ha' : a < 4294967296) (hE : Env w) :
    Calls Tryd.prog 6 #[.agg #[.int .u32 n, .int .i64 b], .string s, .int .u32 a] w fun e w' => e = .returned (.bool true) ∧ Below w.heap.size w w' := by
  have HA := Lib.hid (fun w hE => awake12_any w hE)
  have hbz := blk_size a ha ha'
  have hkz := keyTxt_len n b hn hn'
  have HK : Hid (∀ w, Env w → Calls Tryd.prog 11 #[.int .u32 a] w fun e w' => e = .returned (.string (pBlk ++ ⟨(blkTxt a).toArray⟩)) ∧ Below w.heap.size w w') := Lib.hid (fun w hE => by
    have h := blockKey_any a ha ha' w hE
    rw [← mk_append] at h
    exact h)
  have HPa := fun w hE => pool_any n b hn hn' w hE
  obtain ⟨Q, qr, hQ, hQs⟩ := fit_two (c := poolOk n b) (m := 0) (n := 1) (k := 128) (show (pPool ++ ⟨(keyTxt n b).toArray⟩).size ≤ 128 by rw [app_size]; have h2 : (⟨(keyTxt n b).toArray⟩ : ByteArray).size = (keyTxt n b).length := size_mk _; have h1 : pPool.size = 5 := rfl; omega) (show em.size ≤ 128 by decide)
  rw [hQ] at HPa
  have HP := Lib.hid HPa
  clear hQ HPa hkz
  have hc := Cell2.new w n b 24
  have hb0 := belNew w (.cells #[.int .u32 n, .int .i64 b] 24)
  have hE0 := hE.below hb0
  by_cases h80 : 80 < s.size
  · have d0 : decide (80 < (s.size : Int)) = true := by simp; omega
    have hsl := sliceTo80 s (by omega)
    have ht : (s.extract 0 80).size ≤ 80 := by rw [ByteArray.size_extract]; omega
    generalize s.extract 0 80 = t at hsl ht
    clear h80
    have HXa : ∀ w, Env w → Calls Tryd.prog 15 #[.string t, .int .u32 a] w fun e w' => e = .returned (if okName t.data.toList = true then .tuple #[.string (pAff ++ t ++ slash ++ ⟨(blkTxt a).toArray⟩), .int .i64 0] else .tuple #[.string em, .int .i64 1]) ∧ Below w.heap.size w w' := fun w hE => aff_any t a (by unfold maxLen; omega) ha ha' w hE
    have HHa : ∀ w, Calls Tryd.prog 16 #[.string t] w fun e w' => e = .returned (if okName t.data.toList = true then .tuple #[.string (pHan ++ t), .int .i64 0] else .tuple #[.string em, .int .i64 1]) ∧ Below w.heap.size w w' := fun w => handle_any t (by unfold maxLen; omega) w
    have HNa : ∀ w, Calls Tryd.prog 17 #[.string t] w fun e w' => e = .returned (if okName t.data.toList = true then .tuple #[.string (pNod ++ t), .int .i64 0] else .tuple #[.string em, .int .i64 1]) ∧ Below w.heap.size w w' := fun w => node_any t (by unfold maxLen; omega) w
    obtain ⟨X, xr, hX, hXs⟩ := fit_two (c := okName t.data.toList) (m := 0) (n := 1) (k := 128) (show (pAff ++ t ++ slash ++ ⟨(blkTxt a).toArray⟩).size ≤ 128 by rw [app_size, app_size, app_size]; have h1 : pAff.size = 4 := rfl; have h2 : slash.size = 1 := rfl; omega) (show em.size ≤ 128 by decide)
    obtain ⟨Y, yr, hY, hYs⟩ := fit_two (c := okName t.data.toList) (m := 0) (n := 1) (k := 128) (show (pHan ++ t).size ≤ 128 by rw [app_size]; have h1 : pHan.size = 7 := rfl; omega) (show em.size ≤ 128 by decide)
    obtain ⟨Z, zr, hZ, hZs⟩ := fit_two (c := okName t.data.toList) (m := 0) (n := 1) (k := 128) (show (pNod ++ t).size ≤ 128 by rw [app_size]; have h1 : pNod.size = 5 := rfl; omega) (show em.size ≤ 128 by decide)
    rw [hX] at HXa
    rw [hY] at HHa
    rw [hZ] at HNa
    have HX := Lib.hid HXa
    have HH := Lib.hid HHa
    have HN := Lib.hid HNa
    clear hX hY hZ HXa HHa HNa ht
    generalize hBB : (⟨(blkTxt a).toArray⟩ : ByteArray) = B at *
    have s0 : decide (128 < (Q.size : Int)) = false := decide_eq_false (by omega)
    have s1 : decide (128 < ((pBlk ++ B).size : Int)) = false := decide_eq_false (by rw [app_size]; have h1 : pBlk.size = 6 := rfl; omega)
    have s2 : decide (128 < (X.size : Int)) = false := decide_eq_false (by omega)
    have s3 : decide (128 < (Y.size : Int)) = false := decide_eq_false (by omega)
    have s4 : decide (128 < (Z.size : Int)) = false := decide_eq_false (by omega)
    have hne : (pBlk ++ B).toList ≠ [] := fun h => by
      have h1 := congrArg List.length h
      rw [ByteArray.toList_eq] at h1
      have h2 : (pBlk ++ B).data.toList.length = (pBlk ++ B).size := Array.length_toList
      have h3 : pBlk.size = 6 := rfl
      rw [h2, app_size, h3] at h1
      exact absurd h1 (by show ¬ (6 + B.size = 0); omega)
    have s6 : ((pBlk ++ B).toList = []) = False ∧ (pBlk ++ B).toList.isEmpty = false := ⟨eq_false hne, by
      cases hl : (pBlk ++ B).toList with
      | nil => exact absurd hl hne
      | cons _ _ => rfl⟩
    clear hne
    have HS := Lib.hid (And.intro s0 (And.intro s1 (And.intro s2 (And.intro s3 s4))))
    have HS6 := Lib.hid s6
    clear hBB hQs hXs hYs hZs s0 s1 s2 s3 s4 s6 hbz
    generalize pBlk ++ B = KB at *
    go_enter Tryd.func6, Tryd.ntmps6
    obtain ⟨c0, c1, c2⟩ := id hc
    go_upto_region 3 with fail
    clear d0 hsl
    go_wp2_with fail
    refine (HP.out _ hE0).mono ?_; rintro e w1 ⟨rfl, hb1⟩
    have hB1 := bel hb0 hb1
    go_wp2_with fail
    refine (HX.out _ (hE.below hB1)).mono ?_; rintro e w2 ⟨rfl, hb2⟩
    have hB2 := bel hB1 hb2
    go_wp2_with fail
    refine (HH.out _).mono ?_; rintro e w3 ⟨rfl, hb3⟩
    have hB3 := bel hB2 hb3
    go_wp2_with fail
    refine (HN.out _).mono ?_; rintro e w4 ⟨rfl, hb4⟩
    have hB4 := bel hB3 hb4
    go_wp2_with fail
    refine (HK.out _ (hE.below hB4)).mono ?_; rintro e w5 ⟨rfl, hb5⟩
    have hB5 := belAlloc (bel hB4 hb5) (.cells #[.string Q, .string KB, .string X, .string Y, .string Z, .string ⟨#[108, 111, 99, 107]⟩] 9)
    clear hb1 hb2 hb3 hb4 hb5 hB1 hB2 hB3 hB4 hc hb0 c0 c1 c2
    go_wp2_with fail
    go_loop [55] (fun i => ∃ k : Nat, k ≤ 6 ∧ i = .int .i64 k) (fun i => 6 - (intOf i).toNat)
    case atStart => exact ⟨0, Nat.zero_le _, rfl⟩
    case round =>
      obtain ⟨k, hk, rfl⟩ := hrel
      by_cases hlt : k < 6
      · obtain ⟨s0, s1, s2, s3, s4⟩ := HS.out
        rcases (show k = 0 ∨ k = 1 ∨ k = 2 ∨ k = 3 ∨ k = 4 ∨ k = 5 by omega) with rfl | rfl | rfl | rfl | rfl | rfl
        all_goals
          go_wp2
          go_round
          case rel => first | exact ⟨1, by omega, by go_num⟩ | exact ⟨2, by omega, by go_num⟩ | exact ⟨3, by omega, by go_num⟩ | exact ⟨4, by omega, by go_num⟩ | exact ⟨5, by omega, by go_num⟩ | exact ⟨6, by omega, by go_num⟩
          case measure => simp [intOf]
      · obtain rfl : k = 6 := by omega
        go_wp2_with fail
        refine (HK.out _ (hE.below hB5)).mono ?_; rintro e w6 ⟨rfl, hb6⟩
        have hB6 := bel hB5 hb6
        obtain ⟨s6, s7⟩ := HS6.out
        go_wp2_with fail
        refine (HA.out _ (hE.below hB6)).mono ?_; rintro e w7 ⟨rfl, hb7⟩
        have hB7 := bel hB6 hb7
        go_wp2_with fail
        go_ret
        exact ⟨rfl, hB7⟩
  · have d0 : decide (80 < (s.size : Int)) = false := by simp; omega
    have ht : s.size ≤ 80 := by omega
    clear h80
    have HXa : ∀ w, Env w → Calls Tryd.prog 15 #[.string s, .int .u32 a] w fun e w' => e = .returned (if okName s.data.toList = true then .tuple #[.string (pAff ++ s ++ slash ++ ⟨(blkTxt a).toArray⟩), .int .i64 0] else .tuple #[.string em, .int .i64 1]) ∧ Below w.heap.size w w' := fun w hE => aff_any s a (by unfold maxLen; omega) ha ha' w hE
    have HHa : ∀ w, Calls Tryd.prog 16 #[.string s] w fun e w' => e = .returned (if okName s.data.toList = true then .tuple #[.string (pHan ++ s), .int .i64 0] else .tuple #[.string em, .int .i64 1]) ∧ Below w.heap.size w w' := fun w => handle_any s (by unfold maxLen; omega) w
    have HNa : ∀ w, Calls Tryd.prog 17 #[.string s] w fun e w' => e = .returned (if okName s.data.toList = true then .tuple #[.string (pNod ++ s), .int .i64 0] else .tuple #[.string em, .int .i64 1]) ∧ Below w.heap.size w w' := fun w => node_any s (by unfold maxLen; omega) w
    obtain ⟨X, xr, hX, hXs⟩ := fit_two (c := okName s.data.toList) (m := 0) (n := 1) (k := 128) (show (pAff ++ s ++ slash ++ ⟨(blkTxt a).toArray⟩).size ≤ 128 by rw [app_size, app_size, app_size]; have h1 : pAff.size = 4 := rfl; have h2 : slash.size = 1 := rfl; omega) (show em.size ≤ 128 by decide)
    obtain ⟨Y, yr, hY, hYs⟩ := fit_two (c := okName s.data.toList) (m := 0) (n := 1) (k := 128) (show (pHan ++ s).size ≤ 128 by rw [app_size]; have h1 : pHan.size = 7 := rfl; omega) (show em.size ≤ 128 by decide)
    obtain ⟨Z, zr, hZ, hZs⟩ := fit_two (c := okName s.data.toList) (m := 0) (n := 1) (k := 128) (show (pNod ++ s).size ≤ 128 by rw [app_size]; have h1 : pNod.size = 5 := rfl; omega) (show em.size ≤ 128 by decide)
    rw [hX] at HXa
    rw [hY] at HHa
    rw [hZ] at HNa
    have HX := Lib.hid HXa
    have HH := Lib.hid HHa
    have HN := Lib.hid HNa
    clear hX hY hZ HXa HHa HNa ht
    generalize hBB : (⟨(blkTxt a).toArray⟩ : ByteArray) = B at *
    have s0 : decide (128 < (Q.size : Int)) = false := decide_eq_false (by omega)
    have s1 : decide (128 < ((pBlk ++ B).size : Int)) = false := decide_eq_false (by rw [app_size]; have h1 : pBlk.size = 6 := rfl; omega)
    have s2 : decide (128 < (X.size : Int)) = false := decide_eq_false (by omega)
    have s3 : decide (128 < (Y.size : Int)) = false := decide_eq_false (by omega)
    have s4 : decide (128 < (Z.size : Int)) = false := decide_eq_false (by omega)
    have hne : (pBlk ++ B).toList ≠ [] := fun h => by
      have h1 := congrArg List.length h
      rw [ByteArray.toList_eq] at h1
      have h2 : (pBlk ++ B).data.toList.length = (pBlk ++ B).size := Array.length_toList
      have h3 : pBlk.size = 6 := rfl
      rw [h2, app_size, h3] at h1
      exact absurd h1 (by show ¬ (6 + B.size = 0); omega)
    have s6 : ((pBlk ++ B).toList = []) = False ∧ (pBlk ++ B).toList.isEmpty = false := ⟨eq_false hne, by
      cases hl : (pBlk ++ B).toList with
      | nil => exact absurd hl hne
      | cons _ _ => rfl⟩
    clear hne
    have HS := Lib.hid (And.intro s0 (And.intro s1 (And.intro s2 (And.intro s3 s4))))
    have HS6 := Lib.hid s6
    clear hBB hQs hXs hYs hZs s0 s1 s2 s3 s4 s6 hbz
    generalize pBlk ++ B = KB at *
    go_enter Tryd.func6, Tryd.ntmps6
    obtain ⟨c0, c1, c2⟩ := id hc
    go_upto_region 3 with fail
    clear d0
    go_wp2_with fail
    refine (HP.out _ hE0).mono ?_; rintro e w1 ⟨rfl, hb1⟩
    have hB1 := bel hb0 hb1
    go_wp2_with fail
    refine (HX.out _ (hE.below hB1)).mono ?_; rintro e w2 ⟨rfl, hb2⟩
    have hB2 := bel hB1 hb2
    go_wp2_with fail
    refine (HH.out _).mono ?_; rintro e w3 ⟨rfl, hb3⟩
    have hB3 := bel hB2 hb3
    go_wp2_with fail
    refine (HN.out _).mono ?_; rintro e w4 ⟨rfl, hb4⟩
    have hB4 := bel hB3 hb4
    go_wp2_with fail
    refine (HK.out _ (hE.below hB4)).mono ?_; rintro e w5 ⟨rfl, hb5⟩
    have hB5 := belAlloc (bel hB4 hb5) (.cells #[.string Q, .string KB, .string X, .string Y, .string Z, .string ⟨#[108, 111, 99, 107]⟩] 9)
    clear hb1 hb2 hb3 hb4 hb5 hB1 hB2 hB3 hB4 hc hb0 c0 c1 c2
    go_wp2_with fail
    go_loop [55] (fun i => ∃ k : Nat, k ≤ 6 ∧ i = .int .i64 k) (fun i => 6 - (intOf i).toNat)
    case atStart => exact ⟨0, Nat.zero_le _, rfl⟩
    case round =>
      obtain ⟨k, hk, rfl⟩ := hrel
      by_cases hlt : k < 6
      · obtain ⟨s0, s1, s2, s3, s4⟩ := HS.out
        rcases (show k = 0 ∨ k = 1 ∨ k = 2 ∨ k = 3 ∨ k = 4 ∨ k = 5 by omega) with rfl | rfl | rfl | rfl | rfl | rfl
        all_goals
          go_wp2
          go_round
          case rel => first | exact ⟨1, by omega, by go_num⟩ | exact ⟨2, by omega, by go_num⟩ | exact ⟨3, by omega, by go_num⟩ | exact ⟨4, by omega, by go_num⟩ | exact ⟨5, by omega, by go_num⟩ | exact ⟨6, by omega, by go_num⟩
          case measure => simp [intOf]
      · obtain rfl : k = 6 := by omega
        go_wp2_with fail
        refine (HK.out _ (hE.below hB5)).mono ?_; rintro e w6 ⟨rfl, hb6⟩
        have hB6 := bel hB5 hb6
        obtain ⟨s6, s7⟩ := HS6.out
        go_wp2_with fail
        refine (HA.out _ (hE.below hB6)).mono ?_; rintro e w7 ⟨rfl, hb7⟩
        have hB7 := bel hB6 hb7
        go_wp2_with fail
        go_ret
        exact ⟨rfl, hB7⟩
end Go.Proofs.YthpeimdjcibmgaaDoor
