/- The law NamesNamed: the walk. -/
import Derived.Test.YthpeimdjcibmgaaDoorNmPool
namespace Go.Proofs.YthpeimdjcibmgaaDoor
open Go.RowKit Go.Maps
theorem sliceTo80 (s : ByteArray) (hs : 80 ≤ s.size) (W : World) : (Instr.slice 9 (.string s) none (some (.int .i64 80)) none).run Tryd.prog W = .ok (.string (s.extract 0 80)) W := by
  rw [run_slice_string_h W 9 s Tryd.underlying9 .i64 80 (by omega) (by omega)]; rfl
theorem app_size (a b : ByteArray) : (a ++ b).size = a.size + b.size := by simp
theorem app_assoc (a b c : ByteArray) : a ++ b ++ c = a ++ (b ++ c) := by
  apply ByteArray.ext; simp
theorem ofAff_key (t : ByteArray) (a : Int) (hk : okName t.data.toList = true) (ht : t.size ≤ 80) (ha : 0 ≤ a) (ha' : a < 4294967296) (w : World) (hE : Env w) :
    Calls Tryd.prog 21 #[.string (pAff ++ t ++ slash ++ ⟨(blkTxt a).toArray⟩)] w fun e w' => e = .returned (.tuple #[.string t, .int .u32 (a - a % 64), .bool true]) ∧ Below w.heap.size w w' := by
  have hz := blk_size a ha ha'
  have e : pAff ++ t ++ slash ++ ⟨(blkTxt a).toArray⟩ = pAff ++ (t ++ slash ++ ⟨(blkTxt a).toArray⟩) := by
    rw [app_assoc, app_assoc, app_assoc]
  have h := ofAff_any (pAff ++ t ++ slash ++ ⟨(blkTxt a).toArray⟩) w hE (by
    rw [app_size, app_size, app_size]
    have h1 : pAff.size = 4 := rfl
    have h2 : slash.size = 1 := rfl
    omega)
  have hc := cut_of (s := t) (x := ⟨(blkTxt a).toArray⟩) hk
  have hb : rblk (⟨(blkTxt a).toArray⟩ : ByteArray).data.toList = some (a - a % 64) := rblk_blk a ha ha'
  rw [e, starts_app, rest_app, hc.1, hc.2, hb, hk] at h
  rw [e]
  exact h
theorem ofHandle_key (t : ByteArray) (hk : okName t.data.toList = true) (ht : t.size ≤ 80) (w : World) :
    Calls Tryd.prog 22 #[.string (pHan ++ t)] w fun e w' => e = .returned (.tuple #[.string t, .bool true]) ∧ Below w.heap.size w w' := by
  have h := ofHandle_any (pHan ++ t) (by
    rw [app_size]
    have h1 : pHan.size = 7 := rfl
    unfold maxLen; omega) w
  rw [starts_app, rest_app, hk] at h
  exact h
theorem ofNode_key (t : ByteArray) (hk : okName t.data.toList = true) (ht : t.size ≤ 80) (w : World) :
    Calls Tryd.prog 23 #[.string (pNod ++ t)] w fun e w' => e = .returned (.tuple #[.string t, .bool true]) ∧ Below w.heap.size w w' := by
  have h := ofNode_any (pNod ++ t) (by
    rw [app_size]
    have h1 : pNod.size = 5 := rfl
    unfold maxLen; omega) w
  rw [starts_app, rest_app, hk] at h
  exact h
set_option maxRecDepth 100000 in
set_option maxHeartbeats 4000000 in
theorem lawNamed (s : ByteArray) (a : Int) (ha : 0 ≤ a) (ha' : a < 4294967296) (w : World) (hE : Env w) :
    Calls Tryd.prog 4 #[.string s, .int .u32 a] w fun e w' => e = .returned (.bool true) ∧ Below w.heap.size w w' := by
  have HA := Lib.hid (fun w hE => awake12_any w hE)
  have HF : Hid (∀ w, Calls Tryd.prog 13 #[.int .u32 a] w fun e w' => e = .returned (.int .u32 (a - a % 64)) ∧ Below w.heap.size w w') := Lib.hid (fun w => refFirst_any a ha ha' w)
  have hbz := blk_size a ha ha'
  by_cases h80 : 80 < s.size
  · have d0 : decide (80 < (s.size : Int)) = true := by simp; omega
    have hsl := sliceTo80 s (by omega)
    have ht : (s.extract 0 80).size ≤ 80 := by rw [ByteArray.size_extract]; omega
    generalize s.extract 0 80 = t at hsl ht
    clear h80
    have HX : Hid (∀ w, Env w → Calls Tryd.prog 15 #[.string t, .int .u32 a] w fun e w' => e = .returned (if okName t.data.toList = true then .tuple #[.string (pAff ++ t ++ slash ++ ⟨(blkTxt a).toArray⟩), .int .i64 0] else .tuple #[.string em, .int .i64 1]) ∧ Below w.heap.size w w') := Lib.hid (fun w hE => aff_any t a (by unfold maxLen; omega) ha ha' w hE)
    have HH : Hid (∀ w, Calls Tryd.prog 16 #[.string t] w fun e w' => e = .returned (if okName t.data.toList = true then .tuple #[.string (pHan ++ t), .int .i64 0] else .tuple #[.string em, .int .i64 1]) ∧ Below w.heap.size w w') := Lib.hid (fun w => handle_any t (by unfold maxLen; omega) w)
    have HN : Hid (∀ w, Calls Tryd.prog 17 #[.string t] w fun e w' => e = .returned (if okName t.data.toList = true then .tuple #[.string (pNod ++ t), .int .i64 0] else .tuple #[.string em, .int .i64 1]) ∧ Below w.heap.size w w') := Lib.hid (fun w => node_any t (by unfold maxLen; omega) w)
    have HP : Hid (∀ w, Calls Tryd.prog 18 #[.string t] w fun e w' => e = .returned (if okName t.data.toList = true then .tuple #[.string (pAff ++ t ++ slash), .int .i64 0] else .tuple #[.string em, .int .i64 1]) ∧ Below w.heap.size w w') := Lib.hid (fun w => affsOf_any t (by unfold maxLen; omega) w)
    have HR : Hid (∀ w, Calls Tryd.prog 19 #[.string t] w fun e w' => e = .returned (.bool (okName t.data.toList)) ∧ Below w.heap.size w w') := Lib.hid (fun w => right_any t w (by unfold maxLen; omega))
    have HQ : Hid (∀ w, Calls Tryd.prog 20 #[.string t] w fun e w' => e = .returned (.bool (okName t.data.toList)) ∧ w = w') := Lib.hid (fun w => refRight12_any t w (by unfold maxLen; omega))
    cases hk : okName t.data.toList with
    | false =>
      rw [hk] at HX HH HN HP HR HQ
      simp only [Bool.false_eq_true, if_false] at HX HH HN HP
      clear hk ht hbz
      have q4 : (em ++ em ++ em ++ em).toList = [] := by kernel_rfl
      go_enter Tryd.func4, Tryd.ntmps4
      go_wp2_with fail
      refine (HX.out _ hE).mono ?_; rintro e w1 ⟨rfl, hb1⟩
      go_wp2_with fail
      refine (HH.out _).mono ?_; rintro e w2 ⟨rfl, hb2⟩
      have hB2 := bel hb1 hb2
      go_wp2_with fail
      refine (HN.out _).mono ?_; rintro e w3 ⟨rfl, hb3⟩
      have hB3 := bel hB2 hb3
      go_wp2_with fail
      refine (HP.out _).mono ?_; rintro e w4 ⟨rfl, hb4⟩
      have hB4 := bel hB3 hb4
      go_wp2_with fail
      refine (HR.out _).mono ?_; rintro e w5 ⟨rfl, hb5⟩
      have hB5 := bel hB4 hb5
      go_wp2_with fail
      refine (HQ.out _).mono ?_; rintro e w6 ⟨rfl, rfl⟩
      go_wp2_with fail
      refine (HQ.out _).mono ?_; rintro e w6 ⟨rfl, rfl⟩
      go_wp2_with fail
      refine (HA.out _ (hE.below hB5)).mono ?_; rintro e w7 ⟨rfl, hb7⟩
      have hB7 := bel hB5 hb7
      go_wp2_with fail
      go_ret
      exact ⟨rfl, hB7⟩
    | true =>
      have HOA := Lib.hid (fun w hE => ofAff_key t a hk ht ha ha' w hE)
      have HOH := Lib.hid (fun w => ofHandle_key t hk ht w)
      have HON := Lib.hid (fun w => ofNode_key t hk ht w)
      have HRA := Lib.hid (fun w => refAff_any t a (by omega) ha ha' w)
      rw [hk] at HX HH HN HP HR HQ
      simp only [if_true] at HX HH HN HP
      have z1 : ¬ 9223372036854775807 < 7 + t.size := by omega
      have z2 : ¬ 9223372036854775807 < 5 + t.size := by omega
      have z3 : ¬ 9223372036854775807 < 4 + t.size := by omega
      have z4 : ¬ 9223372036854775807 < 4 + t.size + 1 := by omega
      clear hk ht hbz
      generalize (⟨(blkTxt a).toArray⟩ : ByteArray) = B at *
      generalize a - a % 64 = b at *
      go_enter Tryd.func4, Tryd.ntmps4
      go_wp2_with fail
      refine (HX.out _ hE).mono ?_; rintro e w1 ⟨rfl, hb1⟩
      go_wp2_with fail
      refine (HH.out _).mono ?_; rintro e w2 ⟨rfl, hb2⟩
      have hB2 := bel hb1 hb2
      go_wp2_with fail
      refine (HN.out _).mono ?_; rintro e w3 ⟨rfl, hb3⟩
      have hB3 := bel hB2 hb3
      go_wp2_with fail
      refine (HP.out _).mono ?_; rintro e w4 ⟨rfl, hb4⟩
      have hB4 := bel hB3 hb4
      go_wp2_with fail
      refine (HR.out _).mono ?_; rintro e w5 ⟨rfl, hb5⟩
      have hB5 := bel hB4 hb5
      go_wp2_with fail
      refine (HQ.out _).mono ?_; rintro e w6 ⟨rfl, rfl⟩
      go_wp2_with fail
      refine (HQ.out _).mono ?_; rintro e w6 ⟨rfl, rfl⟩
      go_wp2_with fail
      refine (HOA.out _ (hE.below hB5)).mono ?_; rintro e w7 ⟨rfl, hb7⟩
      have hB7 := bel hB5 hb7
      go_wp2_with fail
      refine (HOH.out _).mono ?_; rintro e w8 ⟨rfl, hb8⟩
      have hB8 := bel hB7 hb8
      go_wp2_with fail
      refine (HON.out _).mono ?_; rintro e w9 ⟨rfl, hb9⟩
      have hB9 := bel hB8 hb9
      go_wp2_with fail
      refine (HRA.out _).mono ?_; rintro e w10 ⟨rfl, hb10⟩
      have hB10 := bel hB9 hb10
      go_wp2_with fail
      refine (HF.out _).mono ?_; rintro e w11 ⟨rfl, hb11⟩
      have hB11 := bel hB10 hb11
      go_wp2_with fail
      refine (HA.out _ (hE.below hB11)).mono ?_; rintro e w12 ⟨rfl, hb12⟩
      have hB12 := bel hB11 hb12
      go_wp2_with fail
      go_ret
      exact ⟨rfl, hB12⟩
  · have d0 : decide (80 < (s.size : Int)) = false := by simp; omega
    have ht : s.size ≤ 80 := by omega
    clear h80
    have HX : Hid (∀ w, Env w → Calls Tryd.prog 15 #[.string s, .int .u32 a] w fun e w' => e = .returned (if okName s.data.toList = true then .tuple #[.string (pAff ++ s ++ slash ++ ⟨(blkTxt a).toArray⟩), .int .i64 0] else .tuple #[.string em, .int .i64 1]) ∧ Below w.heap.size w w') := Lib.hid (fun w hE => aff_any s a (by unfold maxLen; omega) ha ha' w hE)
    have HH : Hid (∀ w, Calls Tryd.prog 16 #[.string s] w fun e w' => e = .returned (if okName s.data.toList = true then .tuple #[.string (pHan ++ s), .int .i64 0] else .tuple #[.string em, .int .i64 1]) ∧ Below w.heap.size w w') := Lib.hid (fun w => handle_any s (by unfold maxLen; omega) w)
    have HN : Hid (∀ w, Calls Tryd.prog 17 #[.string s] w fun e w' => e = .returned (if okName s.data.toList = true then .tuple #[.string (pNod ++ s), .int .i64 0] else .tuple #[.string em, .int .i64 1]) ∧ Below w.heap.size w w') := Lib.hid (fun w => node_any s (by unfold maxLen; omega) w)
    have HP : Hid (∀ w, Calls Tryd.prog 18 #[.string s] w fun e w' => e = .returned (if okName s.data.toList = true then .tuple #[.string (pAff ++ s ++ slash), .int .i64 0] else .tuple #[.string em, .int .i64 1]) ∧ Below w.heap.size w w') := Lib.hid (fun w => affsOf_any s (by unfold maxLen; omega) w)
    have HR : Hid (∀ w, Calls Tryd.prog 19 #[.string s] w fun e w' => e = .returned (.bool (okName s.data.toList)) ∧ Below w.heap.size w w') := Lib.hid (fun w => right_any s w (by unfold maxLen; omega))
    have HQ : Hid (∀ w, Calls Tryd.prog 20 #[.string s] w fun e w' => e = .returned (.bool (okName s.data.toList)) ∧ w = w') := Lib.hid (fun w => refRight12_any s w (by unfold maxLen; omega))
    cases hk : okName s.data.toList with
    | false =>
      rw [hk] at HX HH HN HP HR HQ
      simp only [Bool.false_eq_true, if_false] at HX HH HN HP
      clear hk ht hbz
      have q4 : (em ++ em ++ em ++ em).toList = [] := by kernel_rfl
      go_enter Tryd.func4, Tryd.ntmps4
      go_wp2_with fail
      refine (HX.out _ hE).mono ?_; rintro e w1 ⟨rfl, hb1⟩
      go_wp2_with fail
      refine (HH.out _).mono ?_; rintro e w2 ⟨rfl, hb2⟩
      have hB2 := bel hb1 hb2
      go_wp2_with fail
      refine (HN.out _).mono ?_; rintro e w3 ⟨rfl, hb3⟩
      have hB3 := bel hB2 hb3
      go_wp2_with fail
      refine (HP.out _).mono ?_; rintro e w4 ⟨rfl, hb4⟩
      have hB4 := bel hB3 hb4
      go_wp2_with fail
      refine (HR.out _).mono ?_; rintro e w5 ⟨rfl, hb5⟩
      have hB5 := bel hB4 hb5
      go_wp2_with fail
      refine (HQ.out _).mono ?_; rintro e w6 ⟨rfl, rfl⟩
      go_wp2_with fail
      refine (HQ.out _).mono ?_; rintro e w6 ⟨rfl, rfl⟩
      go_wp2_with fail
      refine (HA.out _ (hE.below hB5)).mono ?_; rintro e w7 ⟨rfl, hb7⟩
      have hB7 := bel hB5 hb7
      go_wp2_with fail
      go_ret
      exact ⟨rfl, hB7⟩
    | true =>
      have HOA := Lib.hid (fun w hE => ofAff_key s a hk ht ha ha' w hE)
      have HOH := Lib.hid (fun w => ofHandle_key s hk ht w)
      have HON := Lib.hid (fun w => ofNode_key s hk ht w)
      have HRA := Lib.hid (fun w => refAff_any s a (by omega) ha ha' w)
      rw [hk] at HX HH HN HP HR HQ
      simp only [if_true] at HX HH HN HP
      have z1 : ¬ 9223372036854775807 < 7 + s.size := by omega
      have z2 : ¬ 9223372036854775807 < 5 + s.size := by omega
      have z3 : ¬ 9223372036854775807 < 4 + s.size := by omega
      have z4 : ¬ 9223372036854775807 < 4 + s.size + 1 := by omega
      clear hk ht hbz
      generalize (⟨(blkTxt a).toArray⟩ : ByteArray) = B at *
      generalize a - a % 64 = b at *
      go_enter Tryd.func4, Tryd.ntmps4
      go_wp2_with fail
      refine (HX.out _ hE).mono ?_; rintro e w1 ⟨rfl, hb1⟩
      go_wp2_with fail
      refine (HH.out _).mono ?_; rintro e w2 ⟨rfl, hb2⟩
      have hB2 := bel hb1 hb2
      go_wp2_with fail
      refine (HN.out _).mono ?_; rintro e w3 ⟨rfl, hb3⟩
      have hB3 := bel hB2 hb3
      go_wp2_with fail
      refine (HP.out _).mono ?_; rintro e w4 ⟨rfl, hb4⟩
      have hB4 := bel hB3 hb4
      go_wp2_with fail
      refine (HR.out _).mono ?_; rintro e w5 ⟨rfl, hb5⟩
      have hB5 := bel hB4 hb5
      go_wp2_with fail
      refine (HQ.out _).mono ?_; rintro e w6 ⟨rfl, rfl⟩
      go_wp2_with fail
      refine (HQ.out _).mono ?_; rintro e w6 ⟨rfl, rfl⟩
      go_wp2_with fail
      refine (HOA.out _ (hE.below hB5)).mono ?_; rintro e w7 ⟨rfl, hb7⟩
      have hB7 := bel hB5 hb7
      go_wp2_with fail
      refine (HOH.out _).mono ?_; rintro e w8 ⟨rfl, hb8⟩
      have hB8 := bel hB7 hb8
      go_wp2_with fail
      refine (HON.out _).mono ?_; rintro e w9 ⟨rfl, hb9⟩
      have hB9 := bel hB8 hb9
      go_wp2_with fail
      refine (HRA.out _).mono ?_; rintro e w10 ⟨rfl, hb10⟩
      have hB10 := bel hB9 hb10
      go_wp2_with fail
      refine (HF.out _).mono ?_; rintro e w11 ⟨rfl, hb11⟩
      have hB11 := bel hB10 hb11
      go_wp2_with fail
      refine (HA.out _ (hE.below hB11)).mono ?_; rintro e w12 ⟨rfl, hb12⟩
      have hB12 := bel hB11 hb12
      go_wp2_with fail
      go_ret
      exact ⟨rfl, hB12⟩
end Go.Proofs.YthpeimdjcibmgaaDoor
