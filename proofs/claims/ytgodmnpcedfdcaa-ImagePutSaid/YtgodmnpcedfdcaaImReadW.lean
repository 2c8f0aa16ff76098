/- The walk of ImageRead. Made by g_imreadw.py. -/
import Derived.Test.YtgodmnpcedfdcaaImRd
import Derived.Test.YtgodmnpcedfdcaaImRef
namespace Go.Proofs.Ytgodmnpcedfdcaa
open Go.RowKit
theorem okB_app4 {a b : List Int} (ha : okB a) (hb : okB b) : okB (a ++ b) := okB_app ha hb
theorem okB_textL {s : ByteArray} (h : s.size ≤ 64) : okB (textL s) := fun x hx => by
  rcases List.mem_cons.1 hx with rfl | hx
  · omega
  · exact okB_strI s x hx
theorem okB_attrs : ∀ {L : List PA}, (∀ p ∈ L, p.1.size ≤ 64 ∧ p.2.size ≤ 64) → okB (L.flatMap attrL)
  | [], _ => fun x hx => by cases hx
  | p :: L, h => by
    have hp := h p (by simp)
    rw [List.flatMap_cons]
    exact okB_app (okB_app (okB_textL hp.1) (okB_textL hp.2)) (okB_attrs (fun q hq => h q (by simp [hq])))
theorem okB_imT {b : BlkS} (hw : BWf b) (hr : rightB b = true) : okB (imT b) := by
  have hl := hw.2.1
  have hown := ((right_iff b hl).1 hr).2.1
  have hal := ((right_iff b hl).1 hr).2.2.1
  have hfl := (right_free hr).2.2
  have hm := right_may hl hr
  unfold imT
  refine okB_app (okB_putL _ _) (okB_app (okB_textL (ownB_size hown)) (fun x hx => ?_))
  rcases List.mem_cons.1 hx with rfl | hx
  · omega
  · refine okB_app (okB_attrs (fun p hp => by have := attrL_bd (hm p hp); omega)) (okB_app hw.2.2.1 (fun x hx => ?_)) x hx
    rcases List.mem_cons.1 hx with rfl | hx
    · omega
    · rw [List.append_nil] at hx
      exact hw.2.2.2.1 x hx
/-- A right block's bytes are read as it. -/
theorem im_put_read {b : BlkS} (hw : BWf b) (hr : rightB b = true) : imOk (strOfNums (imB b)) = true ∧ imC (strOfNums (imB b)) = b := by
  have h1 : starts (strOfNums (66 :: imT b)) pB = true ∧ strI (rest (strOfNums (66 :: imT b)) pB) = imT b := starts_cons 66 (by omega) (imT b) (okB_imT hw hr)
  rw [← imB_cons] at h1
  have h2 := imRd_put hw hr
  have hok : imOk (strOfNums (imB b)) = true := by
    unfold imOk
    rw [h1.1, h1.2, h2, hr]
    rfl
  refine ⟨hok, ?_⟩
  unfold imC
  rw [if_pos hok, h1.2, h2]
/-- Bytes that are read as a block are just that one's. -/
theorem im_read_put {s : ByteArray} (h : imOk s = true) : BWf (imC s) ∧ (imC s).free.length ≤ 255 ∧ (imC s).attrs.length ≤ 255 ∧ rightB (imC s) = true ∧ strOfNums (imB (imC s)) = s := by
  have hc : imC s = (imRd (some (strI (rest s pB)))).1 := by unfold imC; rw [if_pos h]
  have hwf := imRd_wf (some (strI (rest s pB))) (okB_strI _)
  unfold imOk at h
  rw [Bool.and_eq_true, Bool.and_eq_true] at h
  obtain ⟨h1, h2, h3⟩ := h
  rw [hc]
  refine ⟨hwf.1, hwf.2.1, hwf.2.2, h3, ?_⟩
  have h4 := imRd_back (okB_strI _) (doneB_some h2) h3
  rw [← h4]
  have h5 := strI_cons (c := 66) h1
  exact str_eq h5
theorem same_zero : sameS zB zB = true := by decide +kernel
set_option maxRecDepth 100000 in
set_option maxHeartbeats 16000000 in
theorem law_read16 (w : World) (s : ByteArray) :
    Calls Try.prog 8 #[.string s] w fun e w' => e = .returned (.bool true) ∧ Below w.heap.size w w' := by
  have HAW := Lib.hid (fun w => awake16_any w)
  by_cases hs : 600 < s.size
  · have d0 : decide ((600 : Int) < (s.size : Int)) = true := by simp; omega
    have hs2 : (600 : Int) ≤ (s.size : Int) := by omega
    obtain ⟨T, hT⟩ : ∃ T, T = s.extract 0 600 := ⟨_, rfl⟩
    have hTs : T.size ≤ 600 := by rw [hT, ByteArray.size_extract]; omega
    have hex : s.extract 0 600 = T := hT.symm
    have HTS := Lib.hid hTs
    clear hT hs hTs
    have HRD := Lib.hid (fun w => imRead_any T w (by have := HTS.out; omega))
    cases hk : imOk T with
    | false =>
      have hc : imC T = zB := by unfold imC; rw [hk]; rfl
      rw [hk, hc] at HRD
      have e3 : (if false = true then (0 : Int) else 3) = 3 := rfl
      rw [e3] at HRD
      have HSM := Lib.hid (fun (fv av : Value) (w : World) (h1 : Sees w fv zB.free) (h2 : SeesA w av zB.attrs) => same15_any zB zB fv av NS NS w h1 h2 (Sees.nil w) (SeesA_nil w) zB_len zB_len (Nat.zero_le _) (Nat.zero_le _) (Nat.zero_le _) (Nat.zero_le _))
      rw [same_zero] at HSM
      clear hk hc e3
      go_enter Try.func8, Try.ntmps8
      go_wp2_with fail
      refine (HRD.out _).mono ?_; rintro e w1 ⟨fv, av, rfl, hret⟩
      obtain ⟨fo, fn, fc, rfl⟩ := own_form hret.free
      obtain ⟨ao, an, ac, rfl⟩ := own_form hret.attrs
      have HX2 : Hid (BlkAt (w1.alloc (blkO zB NS NS)) w1.heap.size zB NS NS) := Lib.hid (heap_new w1 _)
      have HR := Lib.hid hret
      clear hret HRD
      go_upto_region 4 with ((change wpList _ _ _ _ _ (w1.alloc (blkO zB NS NS))); refine wpStB (b := zB) rfl _ _ rfl rfl rfl HX2.out zB_len zB_len rfl rfl ?_; intro w2 hx2 hg2)
      obtain ⟨hv2, hb2⟩ := var_new HR.out hx2 hg2
      have HV2 := Lib.hid hv2
      have HB2 := Lib.hid (bel HR.out.below hb2)
      have HS2 := Lib.hid (HSM.out _ _ w2 hv2.free hv2.attrs)
      clear hx2 hg2 hv2 hb2 HX2 HR HSM
      go_wp2_with (refine wpLdBg (by rfl) _ rfl rfl HV2.out.blk zB_len ?_)
      refine HS2.out.mono ?_; rintro e w3 ⟨rfl, hb3⟩
      have HB3 := Lib.hid (bel HB2.out hb3)
      clear hb3
      go_wp2_with fail
      refine (HAW.out _).mono ?_; rintro e w4 ⟨rfl, hb4⟩
      have HB4 := Lib.hid (bel HB3.out hb4)
      clear hb4
      go_wp2_with fail
      go_ret
      exact ⟨rfl, HB4.out⟩
    | true =>
      obtain ⟨hwf, hfl, hal, hr, hse⟩ := im_read_put hk
      rw [hk] at HRD
      have e3 : (if true = true then (0 : Int) else 3) = 0 := rfl
      rw [e3] at HRD
      generalize imC T = c at *
      have hl := hwf.2.1
      have HPL := Lib.hid (fun (fv av : Value) (w : World) (h1 : Sees w fv c.free) (h2 : SeesA w av c.attrs) => plain15_any c fv av w h1 h2 hl hwf.2.2.1 hwf.2.2.2.1 (by omega) (by omega))
      have HRR := Lib.hid (fun (v1 v2 v3 : Value) (w : World) (h : DocSees w c.sl c.free c.attrs v1 v2 v3) => refRight15_any c v1 v2 v3 w h hwf (by omega))
      have HPU := Lib.hid (fun (v1 v2 v3 : Value) (w : World) (h : DocSees w c.sl c.free c.attrs v1 v2 v3) => imRef_any c v1 v2 v3 w h hwf hr)
      rw [hr] at HRR
      rw [hse] at HPU
      have hTT : (T.toList == T.toList) = true := by simp
      clear hk e3 hwf hfl hal hr hse
      go_enter Try.func8, Try.ntmps8
      go_wp2_with fail
      refine (HRD.out _).mono ?_; rintro e w1 ⟨fv, av, rfl, hret⟩
      obtain ⟨fo, fn, fc, rfl⟩ := own_form hret.free
      obtain ⟨ao, an, ac, rfl⟩ := own_form hret.attrs
      have HX2 : Hid (BlkAt (w1.alloc (blkO zB NS NS)) w1.heap.size zB NS NS) := Lib.hid (heap_new w1 _)
      have HR := Lib.hid hret
      clear hret HRD
      go_upto_region 4 with ((change wpList _ _ _ _ _ (w1.alloc (blkO zB NS NS))); refine wpStB (b := c) rfl _ _ rfl rfl rfl HX2.out zB_len hl rfl rfl ?_; intro w2 hx2 hg2)
      obtain ⟨hv2, hb2⟩ := var_new HR.out hx2 hg2
      have HV2 := Lib.hid hv2
      have HB2 := Lib.hid (bel HR.out.below hb2)
      have HP2 := Lib.hid (HPL.out _ _ w2 hv2.free hv2.attrs)
      clear hx2 hg2 hv2 hb2 HX2 HR
      go_wp2_with (refine wpLdB rfl _ rfl rfl HV2.out.blk hl ?_)
      refine HP2.out.mono ?_; rintro e w3 ⟨v1, v2, v3, rfl, hd⟩
      have HV3 := Lib.hid (HV2.out.below hd.below)
      have HB3 := Lib.hid (bel HB2.out hd.below)
      have HR3 := Lib.hid (HRR.out v1 v2 v3 w3 hd.sees)
      clear hd HP2
      go_wp2_with fail
      refine HR3.out.mono ?_; rintro e w4 ⟨rfl, hb4⟩
      have HV4 := Lib.hid (HV3.out.below hb4)
      have HB4 := Lib.hid (bel HB3.out hb4)
      have HP4 := Lib.hid (HPL.out _ _ w4 HV4.out.free HV4.out.attrs)
      clear hb4 HR3
      go_wp2_with (refine wpLdBg (by rfl) _ rfl rfl HV4.out.blk hl ?_)
      refine HP4.out.mono ?_; rintro e w5 ⟨u1, u2, u3, rfl, hd⟩
      have HB5 := Lib.hid (bel HB4.out hd.below)
      have HU5 := Lib.hid (HPU.out u1 u2 u3 w5 hd.sees)
      clear hd HP4
      go_wp2_with fail
      refine HU5.out.mono ?_; rintro e w6 ⟨rfl, hb6⟩
      have HB6 := Lib.hid (bel HB5.out hb6)
      clear hb6 HU5
      go_wp2_with fail
      refine (HAW.out _).mono ?_; rintro e w7 ⟨rfl, hb7⟩
      have HB7 := Lib.hid (bel HB6.out hb7)
      clear hb7
      go_wp2_with fail
      go_ret
      exact ⟨rfl, HB7.out⟩
  · have d0 : decide ((600 : Int) < (s.size : Int)) = false := by simp; omega
    have HTS : Hid (s.size ≤ 600) := Lib.hid (by omega)
    obtain ⟨T, rfl⟩ : ∃ T, T = s := ⟨_, rfl⟩
    clear hs
    have HRD := Lib.hid (fun w => imRead_any T w (by have := HTS.out; omega))
    cases hk : imOk T with
    | false =>
      have hc : imC T = zB := by unfold imC; rw [hk]; rfl
      rw [hk, hc] at HRD
      have e3 : (if false = true then (0 : Int) else 3) = 3 := rfl
      rw [e3] at HRD
      have HSM := Lib.hid (fun (fv av : Value) (w : World) (h1 : Sees w fv zB.free) (h2 : SeesA w av zB.attrs) => same15_any zB zB fv av NS NS w h1 h2 (Sees.nil w) (SeesA_nil w) zB_len zB_len (Nat.zero_le _) (Nat.zero_le _) (Nat.zero_le _) (Nat.zero_le _))
      rw [same_zero] at HSM
      clear hk hc e3
      go_enter Try.func8, Try.ntmps8
      go_wp2_with fail
      refine (HRD.out _).mono ?_; rintro e w1 ⟨fv, av, rfl, hret⟩
      obtain ⟨fo, fn, fc, rfl⟩ := own_form hret.free
      obtain ⟨ao, an, ac, rfl⟩ := own_form hret.attrs
      have HX2 : Hid (BlkAt (w1.alloc (blkO zB NS NS)) w1.heap.size zB NS NS) := Lib.hid (heap_new w1 _)
      have HR := Lib.hid hret
      clear hret HRD
      go_upto_region 4 with ((change wpList _ _ _ _ _ (w1.alloc (blkO zB NS NS))); refine wpStB (b := zB) rfl _ _ rfl rfl rfl HX2.out zB_len zB_len rfl rfl ?_; intro w2 hx2 hg2)
      obtain ⟨hv2, hb2⟩ := var_new HR.out hx2 hg2
      have HV2 := Lib.hid hv2
      have HB2 := Lib.hid (bel HR.out.below hb2)
      have HS2 := Lib.hid (HSM.out _ _ w2 hv2.free hv2.attrs)
      clear hx2 hg2 hv2 hb2 HX2 HR HSM
      go_wp2_with (refine wpLdBg (by rfl) _ rfl rfl HV2.out.blk zB_len ?_)
      refine HS2.out.mono ?_; rintro e w3 ⟨rfl, hb3⟩
      have HB3 := Lib.hid (bel HB2.out hb3)
      clear hb3
      go_wp2_with fail
      refine (HAW.out _).mono ?_; rintro e w4 ⟨rfl, hb4⟩
      have HB4 := Lib.hid (bel HB3.out hb4)
      clear hb4
      go_wp2_with fail
      go_ret
      exact ⟨rfl, HB4.out⟩
    | true =>
      obtain ⟨hwf, hfl, hal, hr, hse⟩ := im_read_put hk
      rw [hk] at HRD
      have e3 : (if true = true then (0 : Int) else 3) = 0 := rfl
      rw [e3] at HRD
      generalize imC T = c at *
      have hl := hwf.2.1
      have HPL := Lib.hid (fun (fv av : Value) (w : World) (h1 : Sees w fv c.free) (h2 : SeesA w av c.attrs) => plain15_any c fv av w h1 h2 hl hwf.2.2.1 hwf.2.2.2.1 (by omega) (by omega))
      have HRR := Lib.hid (fun (v1 v2 v3 : Value) (w : World) (h : DocSees w c.sl c.free c.attrs v1 v2 v3) => refRight15_any c v1 v2 v3 w h hwf (by omega))
      have HPU := Lib.hid (fun (v1 v2 v3 : Value) (w : World) (h : DocSees w c.sl c.free c.attrs v1 v2 v3) => imRef_any c v1 v2 v3 w h hwf hr)
      rw [hr] at HRR
      rw [hse] at HPU
      have hTT : (T.toList == T.toList) = true := by simp
      clear hk e3 hwf hfl hal hr hse
      go_enter Try.func8, Try.ntmps8
      go_wp2_with fail
      refine (HRD.out _).mono ?_; rintro e w1 ⟨fv, av, rfl, hret⟩
      obtain ⟨fo, fn, fc, rfl⟩ := own_form hret.free
      obtain ⟨ao, an, ac, rfl⟩ := own_form hret.attrs
      have HX2 : Hid (BlkAt (w1.alloc (blkO zB NS NS)) w1.heap.size zB NS NS) := Lib.hid (heap_new w1 _)
      have HR := Lib.hid hret
      clear hret HRD
      go_upto_region 4 with ((change wpList _ _ _ _ _ (w1.alloc (blkO zB NS NS))); refine wpStB (b := c) rfl _ _ rfl rfl rfl HX2.out zB_len hl rfl rfl ?_; intro w2 hx2 hg2)
      obtain ⟨hv2, hb2⟩ := var_new HR.out hx2 hg2
      have HV2 := Lib.hid hv2
      have HB2 := Lib.hid (bel HR.out.below hb2)
      have HP2 := Lib.hid (HPL.out _ _ w2 hv2.free hv2.attrs)
      clear hx2 hg2 hv2 hb2 HX2 HR
      go_wp2_with (refine wpLdB rfl _ rfl rfl HV2.out.blk hl ?_)
      refine HP2.out.mono ?_; rintro e w3 ⟨v1, v2, v3, rfl, hd⟩
      have HV3 := Lib.hid (HV2.out.below hd.below)
      have HB3 := Lib.hid (bel HB2.out hd.below)
      have HR3 := Lib.hid (HRR.out v1 v2 v3 w3 hd.sees)
      clear hd HP2
      go_wp2_with fail
      refine HR3.out.mono ?_; rintro e w4 ⟨rfl, hb4⟩
      have HV4 := Lib.hid (HV3.out.below hb4)
      have HB4 := Lib.hid (bel HB3.out hb4)
      have HP4 := Lib.hid (HPL.out _ _ w4 HV4.out.free HV4.out.attrs)
      clear hb4 HR3
      go_wp2_with (refine wpLdBg (by rfl) _ rfl rfl HV4.out.blk hl ?_)
      refine HP4.out.mono ?_; rintro e w5 ⟨u1, u2, u3, rfl, hd⟩
      have HB5 := Lib.hid (bel HB4.out hd.below)
      have HU5 := Lib.hid (HPU.out u1 u2 u3 w5 hd.sees)
      clear hd HP4
      go_wp2_with fail
      refine HU5.out.mono ?_; rintro e w6 ⟨rfl, hb6⟩
      have HB6 := Lib.hid (bel HB5.out hb6)
      clear hb6 HU5
      go_wp2_with fail
      refine (HAW.out _).mono ?_; rintro e w7 ⟨rfl, hb7⟩
      have HB7 := Lib.hid (bel HB6.out hb7)
      clear hb7
      go_wp2_with fail
      go_ret
      exact ⟨rfl, HB7.out⟩
end Go.Proofs.Ytgodmnpcedfdcaa
