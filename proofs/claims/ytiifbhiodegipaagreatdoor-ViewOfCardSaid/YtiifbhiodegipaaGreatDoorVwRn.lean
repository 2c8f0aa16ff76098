/- The document's view: Read of a node's key, and of a key of nothing. Made by g_vwrn.py. -/
import Derived.Test.YtiifbhiodegipaaGreatDoorVwRd
import Derived.Test.YtiifbhiodegipaaGreatDoorVwHan
import Derived.Test.YtiifbhiodegipaaGreatDoorNMc
namespace Go.Proofs.YtiifbhiodegipaaGreatDoor
open Go.RowKit
def recN (k : Int) (nm : ByteArray) (gn : Bool) : List Value := [.int .i64 k, .string nm, .int .u32 0, .int .u32 0, .int .i64 0, .bool false, .int .u32 0, .string ⟨#[]⟩, NS, NS, NS, .int .i64 0, NS, .bool gn]
theorem recN_one (k : Int) (nm : ByteArray) (gn : Bool) : ∀ v ∈ recN k nm gn, v.oneCell' = true := by
  intro v hv
  simp only [recN, List.mem_cons, List.not_mem_nil, or_false] at hv
  rcases hv with rfl | rfl | rfl | rfl | rfl | rfl | rfl | rfl | rfl | rfl | rfl | rfl | rfl | rfl <;> rfl
def rdN (k v : ByteArray) : Option Bool := if nodOf k = true then nodRd v else none
def recNo (k : ByteArray) (o : Option Bool) : List Value := match o with
  | some g => recN 5 (NM.rest k NM.pNod) g
  | none => recN 0 ⟨#[]⟩ false
theorem bt_eq (v x : ByteArray) : (v.toList == x.toList) = decide (v = x) := by
  by_cases h : v = x
  · rw [h]; simp
  · have : ¬ v.toList = x.toList := fun e => h (klB_inj e)
    simp [h, this]
theorem rdN_eq (k v : ByteArray) : rdN k v = if nodOf k = true then (if (v.toList == [78, 0]) = true then some false else if (v.toList == [78, 1]) = true then some true else none) else none := by
  unfold rdN
  rw [nodRd_eq]
  have h0 := bt_eq v ⟨#[78, 0]⟩
  have h1 := bt_eq v ⟨#[78, 1]⟩
  have e0 : (⟨#[78, 0]⟩ : ByteArray).toList = [78, 0] := by rw [ByteArray.toList_eq]
  have e1 : (⟨#[78, 1]⟩ : ByteArray).toList = [78, 1] := by rw [ByteArray.toList_eq]
  rw [e0] at h0
  rw [e1] at h1
  rw [h0, h1]
  simp only [decide_eq_true_eq]
set_option maxRecDepth 100000 in
set_option maxHeartbeats 16000000 in
theorem refReadNod_any (k val : ByteArray) (w : World) (hk : k.size ≤ 900) (hlk : (k.toList == [108, 111, 99, 107] && val.toList == [76]) = false)
    (hP : NM.starts k NM.pPool = false) (hB : NM.starts k NM.pBlk = false) (hA : NM.starts k NM.pAff = false) (hH : NM.starts k NM.pHan = false) :
    Calls Tryz.prog 26 #[.string k, .string val] w fun e w' => e = .returned (.agg (recNo k (rdN k val)).toArray) ∧ Below w.heap.size w w' := by
  have hkm : k.size ≤ maxLen := Nat.le_trans hk (by decide)
  have HB1 := Lib.hid (fun w => refBehind_any k NM.pPool w hkm (by decide))
  rw [hP, if_neg (by simp)] at HB1
  have HB2 := Lib.hid (fun w => refBehind_any k NM.pBlk w hkm (by decide))
  rw [hB, if_neg (by simp)] at HB2
  have HB3 := Lib.hid (fun w => refBehind_any k NM.pAff w hkm (by decide))
  rw [hA, if_neg (by simp)] at HB3
  have HB4 := Lib.hid (fun w => refBehind_any k NM.pHan w hkm (by decide))
  rw [hH, if_neg (by simp)] at HB4
  have HB5 := Lib.hid (fun w => refBehind_any k NM.pNod w hkm (by decide))
  have HRT := Lib.hid (fun w => NM.refRight12_any (NM.rest k NM.pNod) w (Nat.le_trans (NM.rest_size k NM.pNod) hkm))
  rw [rdN_eq]
  unfold nodOf recNo
  obtain ⟨W, hW⟩ : ∃ W, W = w.alloc (.cells (recN 0 ⟨#[]⟩ false).toArray TRec) := ⟨_, rfl⟩
  have hb0 : Below w.heap.size w W := by rw [hW]; exact belNew w _
  have hR : At W w.heap.size TRec (recN 0 ⟨#[]⟩ false) := by rw [hW]; exact heap_alloc_new w _
  have HW := Lib.hid hW
  have H0 := Lib.hid (And.intro hb0 hR)
  clear hW hb0 hR hP hB hA hH hk hkm
  generalize NM.rest k NM.pNod = nn at *
  generalize NM.starts k NM.pNod = S at *
  generalize NM.okName nn.data.toList = R at *
  generalize hd0 : (k.toList == [108, 111, 99, 107]) = d0 at *
  generalize hd1 : (val.toList == [76]) = d1 at *
  generalize hv0 : (val.toList == [78, 0]) = v0 at *
  generalize hv1 : (val.toList == [78, 1]) = v1 at *
  cases d0 with
  | false =>
    clear hlk hd1
    cases S with
    | false =>
      simp only [Bool.false_and, Bool.false_eq_true, if_false, if_true] at HB5 ⊢
      go_enter Tryz.func26, Tryz.ntmps26
      go_upto_region 1 with fail
      change Code.wp _ _ _ _ (w.alloc (.cells (recN 0 ⟨#[]⟩ false).toArray TRec))
      rw [← HW.out]
      clear HW
      go_wp2_with fail
      refine (HB1.out _).mono ?_; rintro e w1 ⟨rfl, hb1⟩
      go_wp2_with fail
      refine (HB2.out _).mono ?_; rintro e w2 ⟨rfl, hb2⟩
      go_wp2_with fail
      refine (HB3.out _).mono ?_; rintro e w3 ⟨rfl, hb3⟩
      go_wp2_with fail
      refine (HB4.out _).mono ?_; rintro e w4 ⟨rfl, hb4⟩
      go_wp2_with fail
      refine (HB5.out _).mono ?_; rintro e w5 ⟨rfl, hb5⟩
      have HQ := Lib.hid (bel (bel (bel (bel hb1 hb2) hb3) hb4) hb5)
      clear hb1 hb2 hb3 hb4 hb5
      have HX := Lib.hid (And.intro ((HQ.out.block _ (heap_lt H0.out.2)).trans H0.out.2) (bel H0.out.1 HQ.out))
      go_wp2_with (refine wpStG (T := TRec) (L0 := recN 0 ⟨#[]⟩ false) (L := recN 0 ⟨#[]⟩ false) rfl _ _ rfl rfl rfl HX.out.1 (n := 14) rfl rfl infoRec (recN_one _ _ _) ?_; intro w7 hx7 hg7)
      refine bodyPost_ret (resB1 Tryz.results26 rfl (At.load hx7 (n := 14) rfl infoRec Tryz.underlying52)) rfl ⟨rfl, HX.out.2.grown hg7 HX.out.2.size (fun k hk => by cases hk; exact Nat.le_refl _)⟩
    | true =>
      cases R with
      | false =>
        simp only [Bool.and_false, Bool.false_eq_true, if_false, if_true] at HB5 ⊢
        go_enter Tryz.func26, Tryz.ntmps26
        go_upto_region 1 with fail
        change Code.wp _ _ _ _ (w.alloc (.cells (recN 0 ⟨#[]⟩ false).toArray TRec))
        rw [← HW.out]
        clear HW
        go_wp2_with fail
        refine (HB1.out _).mono ?_; rintro e w1 ⟨rfl, hb1⟩
        go_wp2_with fail
        refine (HB2.out _).mono ?_; rintro e w2 ⟨rfl, hb2⟩
        go_wp2_with fail
        refine (HB3.out _).mono ?_; rintro e w3 ⟨rfl, hb3⟩
        go_wp2_with fail
        refine (HB4.out _).mono ?_; rintro e w4 ⟨rfl, hb4⟩
        go_wp2_with fail
        refine (HB5.out _).mono ?_; rintro e w5 ⟨rfl, hb5⟩
        have HQ := Lib.hid (bel (bel (bel (bel hb1 hb2) hb3) hb4) hb5)
        clear hb1 hb2 hb3 hb4 hb5
        go_wp2_with fail
        refine (HRT.out _).mono ?_; rintro e w6 ⟨rfl, rfl⟩
        have HX := Lib.hid (And.intro ((HQ.out.block _ (heap_lt H0.out.2)).trans H0.out.2) (bel H0.out.1 HQ.out))
        go_wp2_with (refine wpStG (T := TRec) (L0 := recN 0 ⟨#[]⟩ false) (L := recN 0 ⟨#[]⟩ false) rfl _ _ rfl rfl rfl HX.out.1 (n := 14) rfl rfl infoRec (recN_one _ _ _) ?_; intro w7 hx7 hg7)
        refine bodyPost_ret (resB1 Tryz.results26 rfl (At.load hx7 (n := 14) rfl infoRec Tryz.underlying52)) rfl ⟨rfl, HX.out.2.grown hg7 HX.out.2.size (fun k hk => by cases hk; exact Nat.le_refl _)⟩
      | true =>
        cases v0 with
        | true =>
          have hv1' : v1 = false := by
            cases v1 with
            | false => rfl
            | true => have a := eq_of_beq hv0; have b := eq_of_beq hv1; rw [a] at b; cases b
          subst hv1'
          simp only [Bool.and_true, Bool.false_eq_true, if_false, if_true] at HB5 ⊢
          go_enter Tryz.func26, Tryz.ntmps26
          go_upto_region 1 with fail
          change Code.wp _ _ _ _ (w.alloc (.cells (recN 0 ⟨#[]⟩ false).toArray TRec))
          rw [← HW.out]
          clear HW
          go_wp2_with fail
          refine (HB1.out _).mono ?_; rintro e w1 ⟨rfl, hb1⟩
          go_wp2_with fail
          refine (HB2.out _).mono ?_; rintro e w2 ⟨rfl, hb2⟩
          go_wp2_with fail
          refine (HB3.out _).mono ?_; rintro e w3 ⟨rfl, hb3⟩
          go_wp2_with fail
          refine (HB4.out _).mono ?_; rintro e w4 ⟨rfl, hb4⟩
          go_wp2_with fail
          refine (HB5.out _).mono ?_; rintro e w5 ⟨rfl, hb5⟩
          have HQ := Lib.hid (bel (bel (bel (bel hb1 hb2) hb3) hb4) hb5)
          clear hb1 hb2 hb3 hb4 hb5
          go_wp2_with fail
          refine (HRT.out _).mono ?_; rintro e w6 ⟨rfl, rfl⟩
          have HX := Lib.hid (And.intro ((HQ.out.block _ (heap_lt H0.out.2)).trans H0.out.2) (bel H0.out.1 HQ.out))
          go_wp2_with (refine wpStG (T := TRec) (L0 := recN 0 ⟨#[]⟩ false) (L := recN 5 nn false) rfl _ _ rfl rfl rfl HX.out.1 (n := 14) rfl rfl infoRec (recN_one _ _ _) ?_; intro w7 hx7 hg7)
          refine bodyPost_ret (resB1 Tryz.results26 rfl (At.load hx7 (n := 14) rfl infoRec Tryz.underlying52)) rfl ⟨rfl, HX.out.2.grown hg7 HX.out.2.size (fun k hk => by cases hk; exact Nat.le_refl _)⟩
        | false =>
          cases v1 with
          | true =>
            simp only [Bool.and_true, Bool.false_eq_true, if_false, if_true] at HB5 ⊢
            go_enter Tryz.func26, Tryz.ntmps26
            go_upto_region 1 with fail
            change Code.wp _ _ _ _ (w.alloc (.cells (recN 0 ⟨#[]⟩ false).toArray TRec))
            rw [← HW.out]
            clear HW
            go_wp2_with fail
            refine (HB1.out _).mono ?_; rintro e w1 ⟨rfl, hb1⟩
            go_wp2_with fail
            refine (HB2.out _).mono ?_; rintro e w2 ⟨rfl, hb2⟩
            go_wp2_with fail
            refine (HB3.out _).mono ?_; rintro e w3 ⟨rfl, hb3⟩
            go_wp2_with fail
            refine (HB4.out _).mono ?_; rintro e w4 ⟨rfl, hb4⟩
            go_wp2_with fail
            refine (HB5.out _).mono ?_; rintro e w5 ⟨rfl, hb5⟩
            have HQ := Lib.hid (bel (bel (bel (bel hb1 hb2) hb3) hb4) hb5)
            clear hb1 hb2 hb3 hb4 hb5
            go_wp2_with fail
            refine (HRT.out _).mono ?_; rintro e w6 ⟨rfl, rfl⟩
            have HX := Lib.hid (And.intro ((HQ.out.block _ (heap_lt H0.out.2)).trans H0.out.2) (bel H0.out.1 HQ.out))
            go_wp2_with (refine wpStG (T := TRec) (L0 := recN 0 ⟨#[]⟩ false) (L := recN 5 nn true) rfl _ _ rfl rfl rfl HX.out.1 (n := 14) rfl rfl infoRec (recN_one _ _ _) ?_; intro w7 hx7 hg7)
            refine bodyPost_ret (resB1 Tryz.results26 rfl (At.load hx7 (n := 14) rfl infoRec Tryz.underlying52)) rfl ⟨rfl, HX.out.2.grown hg7 HX.out.2.size (fun k hk => by cases hk; exact Nat.le_refl _)⟩
          | false =>
            simp only [Bool.and_true, Bool.false_eq_true, if_false, if_true] at HB5 ⊢
            go_enter Tryz.func26, Tryz.ntmps26
            go_upto_region 1 with fail
            change Code.wp _ _ _ _ (w.alloc (.cells (recN 0 ⟨#[]⟩ false).toArray TRec))
            rw [← HW.out]
            clear HW
            go_wp2_with fail
            refine (HB1.out _).mono ?_; rintro e w1 ⟨rfl, hb1⟩
            go_wp2_with fail
            refine (HB2.out _).mono ?_; rintro e w2 ⟨rfl, hb2⟩
            go_wp2_with fail
            refine (HB3.out _).mono ?_; rintro e w3 ⟨rfl, hb3⟩
            go_wp2_with fail
            refine (HB4.out _).mono ?_; rintro e w4 ⟨rfl, hb4⟩
            go_wp2_with fail
            refine (HB5.out _).mono ?_; rintro e w5 ⟨rfl, hb5⟩
            have HQ := Lib.hid (bel (bel (bel (bel hb1 hb2) hb3) hb4) hb5)
            clear hb1 hb2 hb3 hb4 hb5
            go_wp2_with fail
            refine (HRT.out _).mono ?_; rintro e w6 ⟨rfl, rfl⟩
            have HX := Lib.hid (And.intro ((HQ.out.block _ (heap_lt H0.out.2)).trans H0.out.2) (bel H0.out.1 HQ.out))
            go_wp2_with (refine wpStG (T := TRec) (L0 := recN 0 ⟨#[]⟩ false) (L := recN 0 ⟨#[]⟩ false) rfl _ _ rfl rfl rfl HX.out.1 (n := 14) rfl rfl infoRec (recN_one _ _ _) ?_; intro w7 hx7 hg7)
            refine bodyPost_ret (resB1 Tryz.results26 rfl (At.load hx7 (n := 14) rfl infoRec Tryz.underlying52)) rfl ⟨rfl, HX.out.2.grown hg7 HX.out.2.size (fun k hk => by cases hk; exact Nat.le_refl _)⟩
  | true =>
    have hd : d1 = false := by simpa using hlk
    subst hd
    clear hlk
    cases S with
    | false =>
      simp only [Bool.false_and, Bool.false_eq_true, if_false, if_true] at HB5 ⊢
      go_enter Tryz.func26, Tryz.ntmps26
      go_upto_region 1 with fail
      change Code.wp _ _ _ _ (w.alloc (.cells (recN 0 ⟨#[]⟩ false).toArray TRec))
      rw [← HW.out]
      clear HW
      go_wp2_with fail
      refine (HB1.out _).mono ?_; rintro e w1 ⟨rfl, hb1⟩
      go_wp2_with fail
      refine (HB2.out _).mono ?_; rintro e w2 ⟨rfl, hb2⟩
      go_wp2_with fail
      refine (HB3.out _).mono ?_; rintro e w3 ⟨rfl, hb3⟩
      go_wp2_with fail
      refine (HB4.out _).mono ?_; rintro e w4 ⟨rfl, hb4⟩
      go_wp2_with fail
      refine (HB5.out _).mono ?_; rintro e w5 ⟨rfl, hb5⟩
      have HQ := Lib.hid (bel (bel (bel (bel hb1 hb2) hb3) hb4) hb5)
      clear hb1 hb2 hb3 hb4 hb5
      have HX := Lib.hid (And.intro ((HQ.out.block _ (heap_lt H0.out.2)).trans H0.out.2) (bel H0.out.1 HQ.out))
      go_wp2_with (refine wpStG (T := TRec) (L0 := recN 0 ⟨#[]⟩ false) (L := recN 0 ⟨#[]⟩ false) rfl _ _ rfl rfl rfl HX.out.1 (n := 14) rfl rfl infoRec (recN_one _ _ _) ?_; intro w7 hx7 hg7)
      refine bodyPost_ret (resB1 Tryz.results26 rfl (At.load hx7 (n := 14) rfl infoRec Tryz.underlying52)) rfl ⟨rfl, HX.out.2.grown hg7 HX.out.2.size (fun k hk => by cases hk; exact Nat.le_refl _)⟩
    | true =>
      cases R with
      | false =>
        simp only [Bool.and_false, Bool.false_eq_true, if_false, if_true] at HB5 ⊢
        go_enter Tryz.func26, Tryz.ntmps26
        go_upto_region 1 with fail
        change Code.wp _ _ _ _ (w.alloc (.cells (recN 0 ⟨#[]⟩ false).toArray TRec))
        rw [← HW.out]
        clear HW
        go_wp2_with fail
        refine (HB1.out _).mono ?_; rintro e w1 ⟨rfl, hb1⟩
        go_wp2_with fail
        refine (HB2.out _).mono ?_; rintro e w2 ⟨rfl, hb2⟩
        go_wp2_with fail
        refine (HB3.out _).mono ?_; rintro e w3 ⟨rfl, hb3⟩
        go_wp2_with fail
        refine (HB4.out _).mono ?_; rintro e w4 ⟨rfl, hb4⟩
        go_wp2_with fail
        refine (HB5.out _).mono ?_; rintro e w5 ⟨rfl, hb5⟩
        have HQ := Lib.hid (bel (bel (bel (bel hb1 hb2) hb3) hb4) hb5)
        clear hb1 hb2 hb3 hb4 hb5
        go_wp2_with fail
        refine (HRT.out _).mono ?_; rintro e w6 ⟨rfl, rfl⟩
        have HX := Lib.hid (And.intro ((HQ.out.block _ (heap_lt H0.out.2)).trans H0.out.2) (bel H0.out.1 HQ.out))
        go_wp2_with (refine wpStG (T := TRec) (L0 := recN 0 ⟨#[]⟩ false) (L := recN 0 ⟨#[]⟩ false) rfl _ _ rfl rfl rfl HX.out.1 (n := 14) rfl rfl infoRec (recN_one _ _ _) ?_; intro w7 hx7 hg7)
        refine bodyPost_ret (resB1 Tryz.results26 rfl (At.load hx7 (n := 14) rfl infoRec Tryz.underlying52)) rfl ⟨rfl, HX.out.2.grown hg7 HX.out.2.size (fun k hk => by cases hk; exact Nat.le_refl _)⟩
      | true =>
        cases v0 with
        | true =>
          have hv1' : v1 = false := by
            cases v1 with
            | false => rfl
            | true => have a := eq_of_beq hv0; have b := eq_of_beq hv1; rw [a] at b; cases b
          subst hv1'
          simp only [Bool.and_true, Bool.false_eq_true, if_false, if_true] at HB5 ⊢
          go_enter Tryz.func26, Tryz.ntmps26
          go_upto_region 1 with fail
          change Code.wp _ _ _ _ (w.alloc (.cells (recN 0 ⟨#[]⟩ false).toArray TRec))
          rw [← HW.out]
          clear HW
          go_wp2_with fail
          refine (HB1.out _).mono ?_; rintro e w1 ⟨rfl, hb1⟩
          go_wp2_with fail
          refine (HB2.out _).mono ?_; rintro e w2 ⟨rfl, hb2⟩
          go_wp2_with fail
          refine (HB3.out _).mono ?_; rintro e w3 ⟨rfl, hb3⟩
          go_wp2_with fail
          refine (HB4.out _).mono ?_; rintro e w4 ⟨rfl, hb4⟩
          go_wp2_with fail
          refine (HB5.out _).mono ?_; rintro e w5 ⟨rfl, hb5⟩
          have HQ := Lib.hid (bel (bel (bel (bel hb1 hb2) hb3) hb4) hb5)
          clear hb1 hb2 hb3 hb4 hb5
          go_wp2_with fail
          refine (HRT.out _).mono ?_; rintro e w6 ⟨rfl, rfl⟩
          have HX := Lib.hid (And.intro ((HQ.out.block _ (heap_lt H0.out.2)).trans H0.out.2) (bel H0.out.1 HQ.out))
          go_wp2_with (refine wpStG (T := TRec) (L0 := recN 0 ⟨#[]⟩ false) (L := recN 5 nn false) rfl _ _ rfl rfl rfl HX.out.1 (n := 14) rfl rfl infoRec (recN_one _ _ _) ?_; intro w7 hx7 hg7)
          refine bodyPost_ret (resB1 Tryz.results26 rfl (At.load hx7 (n := 14) rfl infoRec Tryz.underlying52)) rfl ⟨rfl, HX.out.2.grown hg7 HX.out.2.size (fun k hk => by cases hk; exact Nat.le_refl _)⟩
        | false =>
          cases v1 with
          | true =>
            simp only [Bool.and_true, Bool.false_eq_true, if_false, if_true] at HB5 ⊢
            go_enter Tryz.func26, Tryz.ntmps26
            go_upto_region 1 with fail
            change Code.wp _ _ _ _ (w.alloc (.cells (recN 0 ⟨#[]⟩ false).toArray TRec))
            rw [← HW.out]
            clear HW
            go_wp2_with fail
            refine (HB1.out _).mono ?_; rintro e w1 ⟨rfl, hb1⟩
            go_wp2_with fail
            refine (HB2.out _).mono ?_; rintro e w2 ⟨rfl, hb2⟩
            go_wp2_with fail
            refine (HB3.out _).mono ?_; rintro e w3 ⟨rfl, hb3⟩
            go_wp2_with fail
            refine (HB4.out _).mono ?_; rintro e w4 ⟨rfl, hb4⟩
            go_wp2_with fail
            refine (HB5.out _).mono ?_; rintro e w5 ⟨rfl, hb5⟩
            have HQ := Lib.hid (bel (bel (bel (bel hb1 hb2) hb3) hb4) hb5)
            clear hb1 hb2 hb3 hb4 hb5
            go_wp2_with fail
            refine (HRT.out _).mono ?_; rintro e w6 ⟨rfl, rfl⟩
            have HX := Lib.hid (And.intro ((HQ.out.block _ (heap_lt H0.out.2)).trans H0.out.2) (bel H0.out.1 HQ.out))
            go_wp2_with (refine wpStG (T := TRec) (L0 := recN 0 ⟨#[]⟩ false) (L := recN 5 nn true) rfl _ _ rfl rfl rfl HX.out.1 (n := 14) rfl rfl infoRec (recN_one _ _ _) ?_; intro w7 hx7 hg7)
            refine bodyPost_ret (resB1 Tryz.results26 rfl (At.load hx7 (n := 14) rfl infoRec Tryz.underlying52)) rfl ⟨rfl, HX.out.2.grown hg7 HX.out.2.size (fun k hk => by cases hk; exact Nat.le_refl _)⟩
          | false =>
            simp only [Bool.and_true, Bool.false_eq_true, if_false, if_true] at HB5 ⊢
            go_enter Tryz.func26, Tryz.ntmps26
            go_upto_region 1 with fail
            change Code.wp _ _ _ _ (w.alloc (.cells (recN 0 ⟨#[]⟩ false).toArray TRec))
            rw [← HW.out]
            clear HW
            go_wp2_with fail
            refine (HB1.out _).mono ?_; rintro e w1 ⟨rfl, hb1⟩
            go_wp2_with fail
            refine (HB2.out _).mono ?_; rintro e w2 ⟨rfl, hb2⟩
            go_wp2_with fail
            refine (HB3.out _).mono ?_; rintro e w3 ⟨rfl, hb3⟩
            go_wp2_with fail
            refine (HB4.out _).mono ?_; rintro e w4 ⟨rfl, hb4⟩
            go_wp2_with fail
            refine (HB5.out _).mono ?_; rintro e w5 ⟨rfl, hb5⟩
            have HQ := Lib.hid (bel (bel (bel (bel hb1 hb2) hb3) hb4) hb5)
            clear hb1 hb2 hb3 hb4 hb5
            go_wp2_with fail
            refine (HRT.out _).mono ?_; rintro e w6 ⟨rfl, rfl⟩
            have HX := Lib.hid (And.intro ((HQ.out.block _ (heap_lt H0.out.2)).trans H0.out.2) (bel H0.out.1 HQ.out))
            go_wp2_with (refine wpStG (T := TRec) (L0 := recN 0 ⟨#[]⟩ false) (L := recN 0 ⟨#[]⟩ false) rfl _ _ rfl rfl rfl HX.out.1 (n := 14) rfl rfl infoRec (recN_one _ _ _) ?_; intro w7 hx7 hg7)
            refine bodyPost_ret (resB1 Tryz.results26 rfl (At.load hx7 (n := 14) rfl infoRec Tryz.underlying52)) rfl ⟨rfl, HX.out.2.grown hg7 HX.out.2.size (fun k hk => by cases hk; exact Nat.le_refl _)⟩
end Go.Proofs.YtiifbhiodegipaaGreatDoor
