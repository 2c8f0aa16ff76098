/- The law NamesNets: the walk. -/
import Derived.Test.YthpeimdjcibmgaaDoorNamesOfW
namespace Go.Proofs.YthpeimdjcibmgaaDoor
open Go.RowKit Go.Maps
theorem pV_em : pV em = P0 := pV_no (by decide)
theorem pV_key {a b : Int} (hp : poolOk a b = true) (ha : 0 ≤ a) (ha' : a < 4294967296) : pV (pPool ++ ⟨(keyTxt a b).toArray⟩) = .tuple #[.agg #[.int .u32 a, .int .i64 b], .bool true] := by
  have hm : mayB a b = true ∧ b ≤ 26 := by
    unfold poolOk at hp
    rw [Bool.and_eq_true] at hp
    exact ⟨hp.1, of_decide_eq_true hp.2⟩
  have hr : rnet (⟨(keyTxt a b).toArray⟩ : ByteArray).data.toList = some (a, b) := rnet_key ha ha' hm.1
  unfold pV
  rw [starts_app, rest_app, hr]
  simp [poolV, hm.2]
set_option maxRecDepth 100000 in
set_option maxHeartbeats 8000000 in
theorem lawNets (w : World) (n b a : Int) (hn : 0 ≤ n) (hn' : n < 4294967296) (hb : -9223372036854775808 ≤ b) (hb' : b ≤ 9223372036854775807) (ha : 0 ≤ a) (ha' : a < 4294967296) (hE : Env w) :
    Calls Tryd.prog 3 #[.agg #[.int .u32 n, .int .i64 b], .int .u32 a] w fun e w' => e = .returned (.bool true) ∧ Below w.heap.size w w' := by
  have HA := Lib.hid (fun w hE => awake12_any w hE)
  have HF : Hid (∀ w, Calls Tryd.prog 13 #[.int .u32 a] w fun e w' => e = .returned (.int .u32 (a - a % 64)) ∧ Below w.heap.size w w') := Lib.hid (fun w => refFirst_any a ha ha' w)
  have hbz := blk_size a ha ha'
  have HK : Hid (∀ w, Env w → Calls Tryd.prog 11 #[.int .u32 a] w fun e w' => e = .returned (.string (pBlk ++ ⟨(blkTxt a).toArray⟩)) ∧ Below w.heap.size w w') := Lib.hid (fun w hE => by
    have h := blockKey_any a ha ha' w hE
    rw [← mk_append] at h
    exact h)
  have HRB := Lib.hid (fun w => refBlock_any a ha ha' w)
  have HOB : Hid (∀ w, Env w → Calls Tryd.prog 10 #[.string (pBlk ++ ⟨(blkTxt a).toArray⟩)] w fun e w' => e = .returned (.tuple #[.int .u32 (a - a % 64), .bool true]) ∧ Below w.heap.size w w') := Lib.hid (fun w hE => by
    have h := ofBlock_any (pBlk ++ ⟨(blkTxt a).toArray⟩) w hE (by
      rw [app_size]
      have h1 : pBlk.size = 6 := rfl
      omega)
    have hr : rblk (⟨(blkTxt a).toArray⟩ : ByteArray).data.toList = some (a - a % 64) := rblk_blk a ha ha'
    rw [starts_app, if_pos rfl, rest_app, hr] at h
    exact h)
  have HP := Lib.hid (fun w hE => pool_any n b hn hn' w hE)
  have HR := Lib.hid (fun w => refPool_any n b hn hn' hb hb' w)
  have hc := Cell2.new w n b 24
  have hb0 := belNew w (.cells #[.int .u32 n, .int .i64 b] 24)
  have hE0 := hE.below hb0
  cases hp : poolOk n b with
  | false =>
    rw [hp] at HP HR
    simp only [Bool.false_eq_true, if_false] at HP HR
    have HO : Hid (∀ w, Env w → Calls Tryd.prog 9 #[.string em] w fun e w' => e = .returned (.tuple #[.agg #[.int .u32 0, .int .i64 0], .bool false]) ∧ Below w.heap.size w w') := Lib.hid (fun w hE => by
      have h := ofPool_any em w hE (by decide)
      have h2 : poolV (starts em pPool) (rnet (rest em pPool).data.toList) = P0 := pV_em
      rw [h2] at h
      exact h)
    clear hp hbz
    generalize (⟨(blkTxt a).toArray⟩ : ByteArray) = B at *
    generalize a - a % 64 = f at *
    go_enter Tryd.func3, Tryd.ntmps3
    obtain ⟨c0, c1, c2⟩ := id hc
    go_wp2_with fail
    refine (HP.out _ hE0).mono ?_; rintro e w1 ⟨rfl, hb1⟩
    have hB1 := bel hb0 hb1
    have hc1 := hc.keep hb1
    obtain ⟨x0, x1, x2⟩ := id hc1
    go_wp2_with fail
    refine (HR.out _).mono ?_; rintro e w2 ⟨rfl, hb2⟩
    have hB2 := bel hB1 hb2
    have hc2 := hc1.keep hb2
    clear x0 x1 x2
    go_wp2_with fail
    refine (HO.out _ (hE.below hB2)).mono ?_; rintro e w3 ⟨rfl, hb3⟩
    have hB3 := belAlloc (bel hB2 hb3) (.cells #[.int .u32 0, .int .i64 0] 28)
    obtain ⟨y0, y1, y2⟩ := id (hc2.keep hb3)
    go_wp2_with fail
    refine (HK.out _ (hE.below hB3)).mono ?_; rintro e w4 ⟨rfl, hb4⟩
    have hB4 := bel hB3 hb4
    go_wp2_with fail
    refine (HOB.out _ (hE.below hB4)).mono ?_; rintro e w5 ⟨rfl, hb5⟩
    have hB5 := bel hB4 hb5
    go_wp2_with fail
    refine (HK.out _ (hE.below hB5)).mono ?_; rintro e w6 ⟨rfl, hb6⟩
    have hB6 := bel hB5 hb6
    go_wp2_with fail
    refine (HRB.out _).mono ?_; rintro e w7 ⟨rfl, hb7⟩
    have hB7 := bel hB6 hb7
    go_wp2_with fail
    refine (HF.out _).mono ?_; rintro e w8 ⟨rfl, hb8⟩
    have hB8 := bel hB7 hb8
    go_wp2_with fail
    refine (HA.out _ (hE.below hB8)).mono ?_; rintro e w9 ⟨rfl, hb9⟩
    have hB9 := bel hB8 hb9
    go_wp2_with fail
    go_ret
    exact ⟨rfl, hB9⟩
  | true =>
    rw [hp] at HP HR
    simp only [if_true] at HP HR
    have hkz := keyTxt_len n b hn hn'
    have HO : Hid (∀ w, Env w → Calls Tryd.prog 9 #[.string (pPool ++ ⟨(keyTxt n b).toArray⟩)] w fun e w' => e = .returned (.tuple #[.agg #[.int .u32 n, .int .i64 b], .bool true]) ∧ Below w.heap.size w w') := Lib.hid (fun w hE => by
      have h := ofPool_any (pPool ++ ⟨(keyTxt n b).toArray⟩) w hE (by
        rw [app_size]; have h2 : (⟨(keyTxt n b).toArray⟩ : ByteArray).size = (keyTxt n b).length := size_mk _
        have h1 : pPool.size = 5 := rfl
        omega)
      have h2 : poolV (starts (pPool ++ ⟨(keyTxt n b).toArray⟩) pPool) (rnet (rest (pPool ++ ⟨(keyTxt n b).toArray⟩) pPool).data.toList) = _ := pV_key hp hn hn'
      rw [h2] at h
      exact h)
    clear hp hbz hkz
    generalize (⟨(blkTxt a).toArray⟩ : ByteArray) = B at *
    generalize (⟨(keyTxt n b).toArray⟩ : ByteArray) = K at *
    generalize a - a % 64 = f at *
    go_enter Tryd.func3, Tryd.ntmps3
    obtain ⟨c0, c1, c2⟩ := id hc
    go_wp2_with fail
    refine (HP.out _ hE0).mono ?_; rintro e w1 ⟨rfl, hb1⟩
    have hB1 := bel hb0 hb1
    have hc1 := hc.keep hb1
    obtain ⟨x0, x1, x2⟩ := id hc1
    go_wp2_with fail
    refine (HR.out _).mono ?_; rintro e w2 ⟨rfl, hb2⟩
    have hB2 := bel hB1 hb2
    have hc2 := hc1.keep hb2
    clear x0 x1 x2
    go_wp2_with fail
    refine (HO.out _ (hE.below hB2)).mono ?_; rintro e w3 ⟨rfl, hb3⟩
    have hB3 := belAlloc (bel hB2 hb3) (.cells #[.int .u32 n, .int .i64 b] 28)
    have hc3 := (hc2.keep hb3).alloc (.cells #[.int .u32 n, .int .i64 b] 28)
    obtain ⟨y0, y1, y2⟩ := id hc3
    go_wp2_with fail
    refine (HK.out _ (hE.below hB3)).mono ?_; rintro e w4 ⟨rfl, hb4⟩
    have hB4 := bel hB3 hb4
    go_wp2_with fail
    refine (HOB.out _ (hE.below hB4)).mono ?_; rintro e w5 ⟨rfl, hb5⟩
    have hB5 := bel hB4 hb5
    go_wp2_with fail
    refine (HK.out _ (hE.below hB5)).mono ?_; rintro e w6 ⟨rfl, hb6⟩
    have hB6 := bel hB5 hb6
    go_wp2_with fail
    refine (HRB.out _).mono ?_; rintro e w7 ⟨rfl, hb7⟩
    have hB7 := bel hB6 hb7
    go_wp2_with fail
    refine (HF.out _).mono ?_; rintro e w8 ⟨rfl, hb8⟩
    have hB8 := bel hB7 hb8
    go_wp2_with fail
    refine (HA.out _ (hE.below hB8)).mono ?_; rintro e w9 ⟨rfl, hb9⟩
    have hB9 := bel hB8 hb9
    go_wp2_with fail
    go_ret
    exact ⟨rfl, hB9⟩
end Go.Proofs.YthpeimdjcibmgaaDoor
