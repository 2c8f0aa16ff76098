/- Joined: BrS BrT. -/
import Derived.Test.YtgodmnpcedfdcaaBrR
import Derived.Test.YtgodmnpcedfdcaaImFitsW
import Derived.Deep.DeepCutAuto
namespace Go.Proofs.Ytgodmnpcedfdcaa
section
open Go.RowKit
/-- A variable that holds a block, with its lists. -/
structure VarB (W : World) (g : Nat) (b : BlkS) (fv av : Value) : Prop where
  blk : BlkAt W g b fv av
  free : Sees W fv b.free
  attrs : SeesA W av b.attrs
theorem VarB.below {W W' : World} {g : Nat} {b : BlkS} {fv av : Value} (h : VarB W g b fv av) (hb : Below W.heap.size W W') : VarB W' g b fv av := ⟨h.blk.below hb, h.free.keep hb, h.attrs.below hb⟩
theorem var_new {w w' w3 : World} {b : BlkS} {fv av : Value} (hret : BlkRet w w' b fv av) (hx3 : BlkAt w3 w'.heap.size b fv av) (hg3 : (w'.alloc (blkO zB NS NS)).grownBy w3 (some w'.heap.size)) : VarB w3 w'.heap.size b fv av ∧ Below w'.heap.size w' w3 := by
  have hb : Below w'.heap.size w' w3 := (belNew w' _).grown hg3 (by simp) (fun k hk => by cases hk; exact Nat.le_refl _)
  exact ⟨⟨hx3, hret.free.sees.keep hb, (RowA.sees hret.attrs).below hb⟩, hb⟩
abbrev exN : ByteArray := ⟨#[110]⟩
abbrev exA : PA := (⟨#[104]⟩, ⟨#[110]⟩)
def exB : BlkS := newS 167772165 exN
def exC : BlkS := givS exB (exB.free.take 2) exA
def exL : List Int := adrs exB (exB.free.take 2)
def exR : BlkS × List Int := relN (fun _ => true) exC exL exL.length
def exD : BlkS := tidS exR.1
theorem exN_own : ownB exN = true := by decide +kernel
theorem exA_may : mayP exA = true := by decide +kernel
theorem exL_eq : exL = [167772160, 167772161] := by decide +kernel
theorem exC_right : rightB exC = true := by decide +kernel
theorem exR_len : exR.2.length = 2 := by decide +kernel
theorem exD_free : exD.free.length = 64 ∧ exD.free.getD 63 0 = 1 := by decide +kernel
theorem exD_empty : emptyS exD = true := by decide +kernel
theorem exC_wf : BWf exC := by
  refine ⟨by decide +kernel, by decide +kernel, (by decide +kernel : ∀ x ∈ exC.sl, 0 ≤ x ∧ x ≤ 255), (by decide +kernel : ∀ x ∈ exC.free, 0 ≤ x ∧ x ≤ 255), by decide +kernel, by decide +kernel, by decide +kernel, by decide +kernel⟩
theorem exD_wf : BWf exD := by
  refine ⟨by decide +kernel, by decide +kernel, (by decide +kernel : ∀ x ∈ exD.sl, 0 ≤ x ∧ x ≤ 255), (by decide +kernel : ∀ x ∈ exD.free, 0 ≤ x ∧ x ≤ 255), by decide +kernel, by decide +kernel, by decide +kernel, by decide +kernel⟩
set_option maxRecDepth 100000 in
set_option maxHeartbeats 8000000 in
theorem awake15_any (w : World) : Calls Try.prog 14 #[] w fun e w' => e = .returned (.bool true) ∧ Below w.heap.size w w' := by
  have HN := Lib.hid (newB_any 167772165 exN w (by decide) (by decide) (by decide) exN_own)
  have hwB : BWf exB := newS_wf 167772165 exN (by decide) (by decide) (by decide)
  have hrB : rightB exB = true := newS_right 167772165 exN exN_own
  have HAS := Lib.hid (fun (fv av : Value) (w : World) (h1 : Sees w fv exB.free) (h2 : SeesA w av exB.attrs) => assign_any exB fv av 2 exA w h1 h2 hwB (by decide) (by decide) hrB exA_may (by decide))
  have HRE := Lib.hid (fun (fv av lv : Value) (w : World) (h1 : Sees w fv exC.free) (h2 : SeesA w av exC.attrs) (h3 : SeesU w lv exL) => release15_any exC fv av lv exL w h1 h2 exC_wf h3 (by rw [exL_eq]; decide) (by rw [exL_eq]; decide) exC_right)
  have HEM := Lib.hid (fun (fv av : Value) (w : World) (h1 : Sees w fv exD.free) (h2 : SeesA w av exD.attrs) => empty15_any exD fv av w h1 h2 exD_wf)
  rw [exD_empty] at HEM
  have HNB : Hid (∀ fv av w' , BlkRet w w' (newS 167772165 exN) fv av → BlkRet w w' exB fv av) := Lib.hid (fun _ _ _ h => h)
  have HEB : Hid (∀ fv av, blkL (newS 167772165 exN) fv av = blkL exB fv av) := Lib.hid (fun _ _ => rfl)
  have HEC : Hid (givS exB (exB.free.take (2 : Int).toNat) exA = exC ∧ adrs exB (exB.free.take (2 : Int).toNat) = exL) := Lib.hid ⟨rfl, rfl⟩
  have HED : Hid (tidS (relN (fun _ => true) exC exL exL.length).1 = exD ∧ (relN (fun _ => true) exC exL exL.length).2 = exR.2) := Lib.hid ⟨rfl, rfl⟩
  have HLL : Hid (exL.length = 2 ∧ exL.getD 1 0 = 167772161) := Lib.hid (by rw [exL_eq]; exact ⟨rfl, rfl⟩)
  have HDF := Lib.hid exD_free
  have HRL := Lib.hid exR_len
  have hlB := hwB.2.1
  have hlC := exC_wf.2.1
  have hlD := exD_wf.2.1
  clear hwB hrB
  generalize newS 167772165 exN = nB at *
  generalize exB = B at *
  generalize givS B (B.free.take (2 : Int).toNat) exA = C0 at HAS HEC
  generalize adrs B (B.free.take (2 : Int).toNat) = L0 at HAS HEC
  obtain ⟨rfl, rfl⟩ := HEC.out
  generalize tidS (relN (fun _ => true) exC exL exL.length).1 = D0 at HRE HED
  generalize (relN (fun _ => true) exC exL exL.length).2 = R0 at HRE HED
  obtain ⟨rfl, rfl⟩ := HED.out
  generalize exC = C at *
  generalize exL = L at *
  generalize exD = D at *
  generalize exR.2 = R at *
  clear HEC HED
  go_enter Try.func14, Try.ntmps14
  go_wp2_with fail
  refine HN.out.mono ?_; rintro e w1 ⟨fv, av, rfl, hret⟩
  have hret := HNB.out _ _ _ hret
  rw [HEB.out]
  obtain ⟨fo, fn, fc, rfl⟩ := own_form hret.free
  obtain ⟨ao, an, ac, rfl⟩ := own_form hret.attrs
  have HX2 : Hid (BlkAt (w1.alloc (blkO zB NS NS)) w1.heap.size zB NS NS) := Lib.hid (heap_new w1 _)
  have HR := Lib.hid hret
  clear hret HN HNB HEB
  go_upto_region 2 with ((change wpList _ _ _ _ _ (w1.alloc (blkO zB NS NS))); refine wpStB (b := B) rfl _ _ rfl rfl rfl HX2.out zB_len hlB rfl rfl ?_; intro w2 hx2 hg2)
  obtain ⟨hv2, hb2⟩ := var_new HR.out hx2 hg2
  have HV2 := Lib.hid hv2
  have HB2 := Lib.hid (bel HR.out.below hb2)
  have HA2 := Lib.hid (HAS.out _ _ w2 hv2.free hv2.attrs)
  clear hx2 hg2 hv2 hb2 HX2 HR HAS
  go_wp2_with (refine wpLdB rfl _ rfl rfl HV2.out.blk hlB ?_)
  refine HA2.out.mono ?_; rintro e w3 ⟨fv, av, tv, rfl, hret, htv⟩
  obtain ⟨fo, fn, fc, rfl⟩ := own_form hret.free
  obtain ⟨ao, an, ac, rfl⟩ := own_form hret.attrs
  obtain ⟨xo, tc, rfl, htc, htn, htx⟩ := htv.sees
  have HTV := Lib.hid htv.sees
  have HX2 : Hid (BlkAt (w3.alloc (blkO zB NS NS)) w3.heap.size zB NS NS) := Lib.hid (heap_new w3 _)
  have HR := Lib.hid hret
  have HBR := Lib.hid (bel HB2.out hret.below)
  clear hret htv htc htn htx HA2 HV2
  go_upto_region 3 with ((change wpList _ _ _ _ _ (w3.alloc (blkO zB NS NS))); refine wpStB (b := C) rfl _ _ rfl rfl rfl HX2.out zB_len hlC rfl rfl ?_; intro w4 hx4 hg4)
  obtain ⟨hv4, hb4⟩ := var_new HR.out hx4 hg4
  have HV4 := Lib.hid hv4
  have HB4 := Lib.hid (bel HBR.out hb4)
  have HTV4 := Lib.hid (HTV.out.keep hb4)
  have HR4 := Lib.hid (HRE.out _ _ _ w4 hv4.free hv4.attrs HTV4.out)
  clear hx4 hg4 hv4 hb4 HX2 HR HRE HBR HTV
  go_wp2_with (refine wpLdB rfl _ rfl rfl HV4.out.blk hlC ?_)
  refine HR4.out.mono ?_; rintro e w5 ⟨fv, av, tv, rfl, hret, htv⟩
  obtain ⟨fo, fn, fc, rfl⟩ := own_form hret.free
  obtain ⟨ao, an, ac, rfl⟩ := own_form hret.attrs
  obtain ⟨uo, uc, rfl, -⟩ := htv.sees
  have HX2 : Hid (BlkAt (w5.alloc (blkO zB NS NS)) w5.heap.size zB NS NS) := Lib.hid (heap_new w5 _)
  have HR := Lib.hid hret
  have HTV5 := Lib.hid (HTV4.out.keep hret.below)
  have HBR := Lib.hid (bel HB4.out hret.below)
  clear hret htv HR4 HV4 HTV4
  go_upto_region 4 with ((change wpList _ _ _ _ _ (w5.alloc (blkO zB NS NS))); refine wpStB (b := D) rfl _ _ rfl rfl rfl HX2.out zB_len hlD rfl rfl ?_; intro w6 hx6 hg6)
  obtain ⟨hv6, hb6⟩ := var_new HR.out hx6 hg6
  have HV6 := Lib.hid hv6
  have HB6 := Lib.hid (bel HBR.out hb6)
  have htv6 := HTV5.out.keep hb6
  have HE6 := Lib.hid (HEM.out _ _ w6 hv6.free hv6.attrs)
  obtain ⟨t1, tc1, e1, h1, h1n, h2⟩ := htv6
  obtain ⟨f1, fc1, e2, h3, h3n, h4⟩ := hv6.free
  obtain ⟨rfl, rfl⟩ : xo = t1 ∧ tc = tc1 := by cases e1; exact ⟨rfl, rfl⟩
  obtain ⟨rfl, rfl, rfl⟩ : fo = f1 ∧ fn = D.free.length ∧ fc = fc1 := by injection e2 with e3 e4 e5; exact ⟨e3, e4, e5⟩
  obtain ⟨ta, rfl⟩ : ∃ ta, xo = some ta := by
    cases xo with
    | none => have := HLL.out.1; rw [h1n rfl] at this; cases this
    | some ta => exact ⟨ta, rfl⟩
  obtain ⟨fa, rfl⟩ : ∃ fa, fo = some fa := by
    cases fo with
    | none => have := HDF.out.1; rw [h3n rfl] at this; cases this
    | some fa => exact ⟨fa, rfl⟩
  have q1 := h2 ta rfl 1 (by rw [HLL.out.1]; decide)
  rw [HLL.out.2] at q1
  have q1' : w6.cell? { block := ta.block, off := ta.off + 1 } = some (.int .u32 167772161) := q1
  have q2 := h4 fa rfl 63 (by rw [HDF.out.1]; decide)
  rw [HDF.out.2] at q2
  have q2' : w6.cell? { block := fa.block, off := fa.off + 63 } = some (.int .u8 1) := q2
  have c66 := HV6.out.blk.free hlD
  rw [HDF.out.1] at c66
  have hc1 : (2 : Nat) ≤ tc := by have := HLL.out.1; omega
  have hc2 : (64 : Nat) ≤ fc := by have := HDF.out.1; omega
  rw [HLL.out.1, HRL.out]
  have HV7 : Hid (BlkAt w6 w5.heap.size D (.slice (some fa) 64 fc) (.slice ao an ac)) := Lib.hid (by have := HV6.out.blk; rwa [HDF.out.1] at this)
  have HE7 : Hid (Calls Try.prog 23 #[.agg (blkL D (.slice (some fa) 64 fc) (.slice ao an ac)).toArray] w6 fun e w' => e = .returned (.bool true) ∧ Below w6.heap.size w6 w') := Lib.hid (by have := HE6.out; rwa [HDF.out.1] at this)
  clear hv6 hb6 hx6 hg6 e1 e2 h1 h1n h2 h3 h3n h4 HE6 HV6 HR HX2 HTV5 HEM
  go_wp2_with (refine wpLdBg (by rfl) _ rfl rfl HV7.out hlD ?_)
  refine HE7.out.mono ?_; rintro e w7 ⟨rfl, hb7⟩
  have HB7 := Lib.hid (bel HB6.out hb7)
  clear hb7
  go_wp2_with fail
  go_ret
  exact ⟨rfl, HB7.out⟩
end
section
open Go.RowKit
set_option maxRecDepth 100000 in
set_option maxHeartbeats 4000000 in
theorem count15_bad (b : BlkS) (fv av : Value) (w : World) (hf : Sees w fv b.free) (ha : SeesA w av b.attrs) (hw : BWf b) (hr : rightB b = false) :
    Calls Try.prog 24 #[.agg (blkL b fv av).toArray] w fun e w' => e = .returned (.map none) ∧ Below w.heap.size w w' := by
  obtain ⟨W, hW⟩ : ∃ W, W = w.alloc (blkO b fv av) := ⟨_, rfl⟩
  have hb0 : Below w.heap.size w W := by rw [hW]; exact belNew _ _
  have hA : BlkAt W w.heap.size b fv av := by rw [hW]; exact heap_new w _
  have HX0 := Lib.hid hA
  have HB0 := Lib.hid hb0
  have HW := Lib.hid hW
  have HRB := Lib.hid (rightBlk_any (blkL b fv av).toArray b W ⟨fv, av, rfl, hf.keep hb0, ha.below hb0, hw⟩)
  have hl := hw.2.1
  rw [hr] at HRB
  clear hW hb0 hA hf ha hw hr
  go_enter Try.func24, Try.ntmps24
  go_upto_region 1 with fail
  change Code.wp _ _ _ _ (w.alloc (blkO b fv av))
  rw [← HW.out]
  clear HW
  go_wp2_with (refine wpLdB rfl _ rfl rfl HX0.out hl ?_)
  refine HRB.out.mono ?_; rintro e w1 ⟨rfl, hb1⟩
  have HB1 := Lib.hid (HB0.out.trans (hb1.mono HB0.out.size))
  clear hb1
  go_wp2_with fail
  go_ret
  exact ⟨rfl, HB1.out⟩
theorem DocRet.sees {w w' : World} {b : BlkS} {v1 v2 v3 : Value} (h : DocRet w w' b v1 v2 v3) : DocSees w' b.sl b.free b.attrs v1 v2 v3 := by
  have h1 : RowI1 w' w.heap.size v1 b.sl := by have := h.slots; unfold OwnsI at this; rw [← flat_I1] at this; exact this
  have h2 : RowI1 w' w.heap.size v2 b.free := by have := h.free; unfold OwnsI at this; rw [← flat_I1] at this; exact this
  have h3 : RowG ERt 2 encA w' w.heap.size v3 b.attrs := h.attrs
  exact ⟨h1.sees (fun _ => rfl), h2.sees (fun _ => rfl), h3.sees (fun _ => rfl)⟩
/-- The law's variables: the block, the attribute. -/
def VarsB (w : World) (g : Nat) (c : BlkS) (fv av : Value) (ga : Nat) (a : PA) (X : World) : Prop := VarB X g c fv av ∧ X.heap[ga]? = some (rtO a) ∧ Below w.heap.size w X
theorem VarsB.below {w : World} {g : Nat} {c : BlkS} {fv av : Value} {ga : Nat} {a : PA} {X Y : World} (h : VarsB w g c fv av ga a X) (hb : Below X.heap.size X Y) : VarsB w g c fv av ga a Y :=
  ⟨h.1.below hb, (hb.block _ (heap_lt h.2.1)).trans h.2.1, h.2.2.trans (hb.mono h.2.2.size)⟩
end
end Go.Proofs.Ytgodmnpcedfdcaa
