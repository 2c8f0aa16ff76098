/- The walk of ImagePut. -/
import Derived.Test.YtgodmnpcedfdcaaImReadW
namespace Go.Proofs.Ytgodmnpcedfdcaa
open Go.RowKit
theorem sameS_self (b : BlkS) : sameS b b = true := by unfold sameS; simp
set_option maxRecDepth 100000 in
set_option maxHeartbeats 16000000 in
theorem law_put16 (W : World) (cs : Array Value) (r : BlkS) (h : BlkIs W cs r) :
    Calls Try.prog 7 #[.agg cs] W fun e W' => e = .returned (.bool true) ∧ Below W.heap.size W W' := by
  obtain ⟨rf, ra, rfl, hf, ha, hw⟩ := h
  have hlr := hw.2.1
  obtain ⟨w1, hw1⟩ : ∃ w1, w1 = W.alloc (rawO r rf ra) := ⟨_, rfl⟩
  have hb1 : Below W.heap.size W w1 := by rw [hw1]; exact belNew _ _
  have hx1 : RawAt w1 W.heap.size r rf ra := by rw [hw1]; exact heap_new W _
  have HB1 := Lib.hid hb1
  have HX1 := Lib.hid hx1
  have HOU := Lib.hid (ours_any r rf ra w1 (hf.keep hb1) (ha.below hb1) hw)
  have HAW := Lib.hid (fun w => awake16_any w)
  have HW1 := Lib.hid hw1
  have HWF := Lib.hid (oursS_wf hw)
  have HLEN : Hid ((oursS r).free.length ≤ 1000000 ∧ (oursS r).attrs.length ≤ 1000000) := Lib.hid ⟨by show (r.free.take 70).length ≤ _; rw [List.length_take]; omega, by show (r.attrs.take 70).length ≤ _; rw [List.length_take]; omega⟩
  generalize oursS r = c at HOU HWF HLEN
  have hl := HWF.out.2.1
  clear hb1 hx1 hw1 hf ha hw
  have HPL := Lib.hid (fun (fv av : Value) (w : World) (h1 : Sees w fv c.free) (h2 : SeesA w av c.attrs) => plain15_any c fv av w h1 h2 hl HWF.out.2.2.1 HWF.out.2.2.2.1 HLEN.out.1 HLEN.out.2)
  have HRR := Lib.hid (fun (v1 v2 v3 : Value) (w : World) (h : DocSees w c.sl c.free c.attrs v1 v2 v3) => refRight15_any c v1 v2 v3 w h HWF.out HLEN.out.1)
  cases hr : rightB c with
  | false =>
    have HPT := Lib.hid (fun (fv av : Value) (w : World) (h1 : Sees w fv c.free) (h2 : SeesA w av c.attrs) => imPut_no c fv av w h1 h2 HWF.out hr)
    rw [hr] at HRR
    clear hr
    go_enter Try.func7, Try.ntmps7
    go_upto_region 1 with fail
    change Code.wp _ _ _ _ (W.alloc (rawO r rf ra))
    rw [← HW1.out]
    clear HW1
    go_wp2_with (refine wpLdR rfl _ rfl rfl HX1.out hlr ?_)
    refine HOU.out.mono ?_; rintro e w2 ⟨fv, av, rfl, hret⟩
    obtain ⟨fo, fn, fc, rfl⟩ := own_form hret.free
    obtain ⟨ao, an, ac, rfl⟩ := own_form hret.attrs
    have HX2 : Hid (BlkAt (w2.alloc (blkO zB NS NS)) w2.heap.size zB NS NS) := Lib.hid (heap_new w2 _)
    have HR := Lib.hid hret
    clear hret HOU HX1
    go_upto_region 2 with ((change wpList _ _ _ _ _ (w2.alloc (blkO zB NS NS))); refine wpStB (b := c) rfl _ _ rfl rfl rfl HX2.out zB_len hl rfl rfl ?_; intro w3 hx3 hg3)
    obtain ⟨hv3, hb3⟩ := var_new HR.out hx3 hg3
    have HV3 := Lib.hid hv3
    have HB3 := Lib.hid (bel HB1.out (bel HR.out.below hb3))
    have HP3 := Lib.hid (HPT.out _ _ w3 hv3.free hv3.attrs)
    clear hx3 hg3 hv3 hb3 HX2 HR HB1
    go_wp2_with (refine wpLdB rfl _ rfl rfl HV3.out.blk hl ?_)
    refine HP3.out.mono ?_; rintro e w4 ⟨rfl, hb4⟩
    have HV4 := Lib.hid (HV3.out.below hb4)
    have HB4 := Lib.hid (bel HB3.out hb4)
    have HL4 := Lib.hid (HPL.out _ _ w4 HV4.out.free HV4.out.attrs)
    clear hb4 HP3 HV3 HB3
    go_wp2_with (refine wpLdB rfl _ rfl rfl HV4.out.blk hl ?_)
    refine HL4.out.mono ?_; rintro e w5 ⟨v1, v2, v3, rfl, hd⟩
    have HV5 := Lib.hid (HV4.out.below hd.below)
    have HB5 := Lib.hid (bel HB4.out hd.below)
    have HR5 := Lib.hid (HRR.out v1 v2 v3 w5 hd.sees)
    clear hd HL4 HV4 HB4
    go_wp2_with fail
    refine HR5.out.mono ?_; rintro e w6 ⟨rfl, hb6⟩
    have HV6 := Lib.hid (HV5.out.below hb6)
    have HB6 := Lib.hid (bel HB5.out hb6)
    have HS6 := Lib.hid (imSize_gen c _ _ w6 hl em 1 (fun W hb => HPT.out _ _ W (HV6.out.free.keep hb) (HV6.out.attrs.below hb)))
    clear hb6 HR5 HV5 HB5
    go_wp2_with (refine wpLdBg (by rfl) _ rfl rfl HV6.out.blk hl ?_)
    refine HS6.out.mono ?_; rintro e w7 ⟨rfl, hb7⟩
    have HB7 := Lib.hid (bel HB6.out hb7)
    clear hb7 HS6
    have hz : ((em.size : Int) == 0) = true := rfl
    go_wp2_with fail
    refine (HAW.out _).mono ?_; rintro e w8 ⟨rfl, hb8⟩
    have HB8 := Lib.hid (bel HB7.out hb8)
    clear hb8
    go_wp2_with fail
    go_ret
    exact ⟨rfl, HB8.out⟩
  | true =>
    have HPT := Lib.hid (fun (fv av : Value) (w : World) (h1 : Sees w fv c.free) (h2 : SeesA w av c.attrs) => imPut_any c fv av w h1 h2 HWF.out hr)
    have HPU := Lib.hid (fun (v1 v2 v3 : Value) (w : World) (h : DocSees w c.sl c.free c.attrs v1 v2 v3) => imRef_any c v1 v2 v3 w h HWF.out hr)
    obtain ⟨h1, h2⟩ := im_put_read HWF.out hr
    have hlen := imB_len hl HWF.out.2.2.1 hr
    rw [hr] at HRR
    obtain ⟨st, hst⟩ : ∃ st, st = strOfNums (imB c) := ⟨_, rfl⟩
    have hsz : st.size ≤ 100000 := by rw [hst, strOfNums_size]; omega
    rw [← hst] at HPT HPU h1 h2
    have HRD := Lib.hid (fun w => imRead_any st w hsz)
    rw [h1, h2] at HRD
    have e3 : (if true = true then (0 : Int) else 3) = 0 := rfl
    rw [e3] at HRD
    have HSM := Lib.hid (fun (fv av fv2 av2 : Value) (w : World) (h1 : Sees w fv c.free) (h2 : SeesA w av c.attrs) (h3 : Sees w fv2 c.free) (h4 : SeesA w av2 c.attrs) => same15_any c c fv av fv2 av2 w h1 h2 h3 h4 hl hl HWF.out.2.2.2.2.2.1 HWF.out.2.2.2.2.2.1 HWF.out.2.2.2.2.2.2.1 HWF.out.2.2.2.2.2.2.1)
    rw [sameS_self] at HSM
    have hTT : (st.toList == st.toList) = true := by simp
    clear hr h1 h2 hlen hst hsz e3
    go_enter Try.func7, Try.ntmps7
    go_upto_region 1 with fail
    change Code.wp _ _ _ _ (W.alloc (rawO r rf ra))
    rw [← HW1.out]
    clear HW1
    go_wp2_with (refine wpLdR rfl _ rfl rfl HX1.out hlr ?_)
    refine HOU.out.mono ?_; rintro e w2 ⟨fv, av, rfl, hret⟩
    obtain ⟨fo, fn, fc, rfl⟩ := own_form hret.free
    obtain ⟨ao, an, ac, rfl⟩ := own_form hret.attrs
    have HX2 : Hid (BlkAt (w2.alloc (blkO zB NS NS)) w2.heap.size zB NS NS) := Lib.hid (heap_new w2 _)
    have HR := Lib.hid hret
    clear hret HOU HX1
    go_upto_region 2 with ((change wpList _ _ _ _ _ (w2.alloc (blkO zB NS NS))); refine wpStB (b := c) rfl _ _ rfl rfl rfl HX2.out zB_len hl rfl rfl ?_; intro w3 hx3 hg3)
    obtain ⟨hv3, hb3⟩ := var_new HR.out hx3 hg3
    have HV3 := Lib.hid hv3
    have HB3 := Lib.hid (bel HB1.out (bel HR.out.below hb3))
    have HP3 := Lib.hid (HPT.out _ _ w3 hv3.free hv3.attrs)
    clear hx3 hg3 hv3 hb3 HX2 HR HB1
    go_wp2_with (refine wpLdB rfl _ rfl rfl HV3.out.blk hl ?_)
    refine HP3.out.mono ?_; rintro e w4 ⟨rfl, hb4⟩
    have HV4 := Lib.hid (HV3.out.below hb4)
    have HB4 := Lib.hid (bel HB3.out hb4)
    have HL4 := Lib.hid (HPL.out _ _ w4 HV4.out.free HV4.out.attrs)
    clear hb4 HP3 HV3 HB3
    go_wp2_with (refine wpLdB rfl _ rfl rfl HV4.out.blk hl ?_)
    refine HL4.out.mono ?_; rintro e w5 ⟨v1, v2, v3, rfl, hd⟩
    have HV5 := Lib.hid (HV4.out.below hd.below)
    have HB5 := Lib.hid (bel HB4.out hd.below)
    have HR5 := Lib.hid (HRR.out v1 v2 v3 w5 hd.sees)
    clear hd HL4 HV4 HB4
    go_wp2_with fail
    refine HR5.out.mono ?_; rintro e w6 ⟨rfl, hb6⟩
    have HV6 := Lib.hid (HV5.out.below hb6)
    have HB6 := Lib.hid (bel HB5.out hb6)
    clear hb6 HR5 HV5 HB5
    go_wp2_with fail
    refine (HRD.out _).mono ?_; rintro e w7 ⟨fv, av, rfl, hret⟩
    obtain ⟨f2, fn2, fc2, rfl⟩ := own_form hret.free
    obtain ⟨a2, an2, ac2, rfl⟩ := own_form hret.attrs
    have HV7 := Lib.hid (HV6.out.below hret.below)
    have HX2 : Hid (BlkAt (w7.alloc (blkO zB NS NS)) w7.heap.size zB NS NS) := Lib.hid (heap_new w7 _)
    have HR := Lib.hid hret
    have HB7 := Lib.hid (bel HB6.out hret.below)
    clear hret HRD HV6 HB6
    go_upto_region 6 with ((change wpList _ _ _ _ _ (w7.alloc (blkO zB NS NS))); refine wpStB (b := c) rfl _ _ rfl rfl rfl HX2.out zB_len hl rfl rfl ?_; intro w8 hx8 hg8)
    obtain ⟨hc8, hb8⟩ := var_new HR.out hx8 hg8
    have HC8 := Lib.hid hc8
    have HV8 := Lib.hid (HV7.out.below hb8)
    have HB8 := Lib.hid (bel HB7.out hb8)
    have HL8 := Lib.hid (HPL.out _ _ w8 HV8.out.free HV8.out.attrs)
    clear hx8 hg8 hc8 hb8 HX2 HR HV7 HB7
    go_wp2_with (refine wpLdBg (by rfl) _ rfl rfl HV8.out.blk hl ?_)
    refine HL8.out.mono ?_; rintro e w9 ⟨u1, u2, u3, rfl, hd⟩
    have HC9 := Lib.hid (HC8.out.below hd.below)
    have HV9 := Lib.hid (HV8.out.below hd.below)
    have HB9 := Lib.hid (bel HB8.out hd.below)
    have HU9 := Lib.hid (HPU.out u1 u2 u3 w9 hd.sees)
    clear hd HL8 HV8 HB8 HC8
    go_wp2_with fail
    refine HU9.out.mono ?_; rintro e wa ⟨rfl, hba⟩
    have HCa := Lib.hid (HC9.out.below hba)
    have HVa := Lib.hid (HV9.out.below hba)
    have HBa := Lib.hid (bel HB9.out hba)
    have HSa := Lib.hid (imSize_gen c _ _ wa hl st 0 (fun W hb => HPT.out _ _ W (HVa.out.free.keep hb) (HVa.out.attrs.below hb)))
    clear hba HU9 HV9 HB9 HC9
    go_wp2_with (refine wpLdBg (by rfl) _ rfl rfl HVa.out.blk hl ?_)
    refine HSa.out.mono ?_; rintro e wb ⟨rfl, hbb⟩
    have HCb := Lib.hid (HCa.out.below hbb)
    have HVb := Lib.hid (HVa.out.below hbb)
    have HBb := Lib.hid (bel HBa.out hbb)
    have HSb := Lib.hid (HSM.out _ _ _ _ wb HVb.out.free HVb.out.attrs HCb.out.free HCb.out.attrs)
    have hsz : ((st.size : Int) == (st.size : Int)) = true := by simp
    clear hbb HSa HVa HBa HCa
    go_wp2_with (first
      | (refine wpLdBg (by rfl) _ rfl rfl HVb.out.blk hl ?_)
      | (refine wpLdBg (by rfl) _ rfl rfl HCb.out.blk hl ?_))
    refine HSb.out.mono ?_; rintro e wc ⟨rfl, hbc⟩
    have HBc := Lib.hid (bel HBb.out hbc)
    clear hbc HSb
    go_wp2_with fail
    refine (HAW.out _).mono ?_; rintro e wd ⟨rfl, hbd⟩
    have HBd := Lib.hid (bel HBc.out hbd)
    clear hbd
    go_wp2_with fail
    go_ret
    exact ⟨rfl, HBd.out⟩
end Go.Proofs.Ytgodmnpcedfdcaa
