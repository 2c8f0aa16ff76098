/- The walk of ImagePlays. Made by g_bdv.py. -/
import Derived.Test.YtgodmnpcedfdcaaGreatBdS
import Derived.Test.YtgodmnpcedfdcaaGreatJIw
namespace Go.Proofs.YtgodmnpcedfdcaaGreat
open Go.RowKit
set_option maxRecDepth 100000 in
set_option maxHeartbeats 16000000 in
theorem law_iplays (W0 : World) (x : Int) (lv : Value) (L : List StepS) (hx : 0 ≤ x) (hx' : x < 4294967296) (hL : ArgSt W0 lv L) :
    Calls Tryz.prog 3 #[.int .u32 x, lv] W0 fun e w' => e = .returned (.bool true) ∧ Below W0.heap.size W0 w' := by
  obtain ⟨⟨lo, lc, rfl, j1, j2, j3⟩, j4, j5⟩ := hL
  have HA := Lib.hid (And.intro j2 (And.intro j3 j4))
  have HAW := Lib.hid (fun w => awake16_any w)
  have HXX := Lib.hid (And.intro hx hx')
  have hlm : L.length ≤ 9223372036854775807 := by unfold maxLen at j5; omega
  clear j1 j2 j3 j4 j5
  have HN := Lib.hid (newB_any x em W0 hx hx' (by decide) rfl)
  have HND := Lib.hid (fun w => newD_any x em w hx hx')
  clear hx hx'
  go_enter Tryz.func3, Tryz.ntmps3
  go_upto_region 1 with fail
  go_wp2_with fail
  refine HN.out.mono ?_; rintro e w1 ⟨fv, av, rfl, hret⟩
  obtain ⟨f1, f2, f3, rfl⟩ := own_form hret.free
  obtain ⟨a1, a2, a3, rfl⟩ := own_form hret.attrs
  have HX2 : Hid (BlkAt (w1.alloc (blkO zB NS NS)) w1.heap.size zB NS NS) := Lib.hid (heap_new w1 _)
  have HR := Lib.hid hret
  have hln : (newS x em).sl.length = 64 := rfl
  clear hret HN
  go_upto_region 2 with ((change wpList _ _ _ _ _ (w1.alloc (blkO zB NS NS))); refine wpStB (b := newS x em) rfl _ _ rfl rfl rfl HX2.out zB_len hln rfl rfl ?_; intro w2 hx2 hg2)
  have HB3 := Lib.hid (bel HR.out.below (var_new HR.out hx2 hg2).2)
  obtain ⟨gb, hgb⟩ : ∃ gb, gb = w1.heap.size := ⟨_, rfl⟩
  have HG := Lib.hid (Nat.le_trans HR.out.below.size (Nat.le_of_eq hgb.symm))
  have hvo := varO_new (B := W0.heap.size) HR.out.free HR.out.attrs hx2 hg2
  rw [← hgb] at hvo ⊢
  have HVO3 := Lib.hid hvo.1
  clear hx2 hg2 hgb HX2 HR hvo
  go_wp2_with fail
  refine (HND.out _).mono ?_; rintro e w4 ⟨v1, v2, rfl, k1, k2, hb4⟩
  obtain ⟨p1, p2, p3, rfl⟩ := own_form k1
  obtain ⟨q1, q2, q3, rfl⟩ := own_form k2
  have HB4 := Lib.hid (bel HB3.out hb4)
  have HVO4 := Lib.hid (HVO3.out.below hb4)
  have HK := Lib.hid (And.intro k1 k2)
  have HZ4 : Hid (DocAt (w4.alloc (docO 0 ⟨#[]⟩ NS NS NS)) w4.heap.size 0 ⟨#[]⟩ NS NS NS) := Lib.hid (heap_new w4 _)
  clear k1 k2 HB3 HVO3 hb4
  go_upto_region 3 with ((change wpList _ _ _ _ _ (w4.alloc (docO 0 ⟨#[]⟩ NS NS NS))); refine wpStD (y := x - x % 64) (s := em) rfl _ _ rfl rfl rfl HZ4.out rfl rfl rfl ?_; intro w5 hx5 hg5)
  have hb5 := docv_new hg5
  obtain ⟨X, hX⟩ : ∃ X, X = w5 := ⟨_, rfl⟩
  obtain ⟨gd, hgd⟩ : ∃ gd, gd = w4.heap.size := ⟨_, rfl⟩
  have hI : PlI W0 gb gd (newS x em) (.slice f1 f2 f3) (.slice a1 a2 a3) (.slice p1 p2 p3) (.slice q1 q2 q3) NS X := by
    rw [hgd, hX]
    have hv5 := HVO4.out.below hb5
    have hbo : Both w5 (newS x em) (.slice f1 f2 f3) (.slice a1 a2 a3) (.slice p1 p2 p3) (.slice q1 q2 q3) NS := new_both HXX.out (by decide) rfl hv5.free.sees (RowA.sees hv5.attrs) (RowG.le (own_keep (HK.out.1.row1) hb5) (Nat.zero_le _)) (RowG.le (own_keep (HK.out.2.row1) hb5) (Nat.zero_le _))
    have hsz : gb < w4.heap.size := heap_lt (show w4.heap[gb]? = some (.cells (blkL (newS x em) (.slice f1 f2 f3) (.slice a1 a2 a3)).toArray 28 (0, 0)) from HVO4.out.blk)
    refine ⟨hv5.blk, hx5, hbo, ?_, ?_, bel HB4.out hb5, HG.out, HB4.out.size, by omega⟩
    · exact ⟨fun _ => own_neB hv5.free hv5.blk (by decide), fun h => absurd rfl h, fun _ => own_neB (own_keep (HK.out.1.row1) hb5) hv5.blk (by decide), fun _ => own_neB (own_keep (HK.out.2.row1) hb5) hv5.blk (by decide), fun h => absurd rfl h⟩
    · exact ⟨fun _ => own_neD hv5.free hx5 (by decide), fun h => absurd rfl h, fun _ => own_neD (own_keep (HK.out.1.row1) hb5) hx5 (by decide), fun _ => own_neD (own_keep (HK.out.2.row1) hb5) hx5 (by decide), fun h => absurd rfl h⟩
  rw [← hX, ← hgd]
  clear hX hgd hx5 hg5 hb5 HK HZ4 HVO4 HB4 HG HND hln
  obtain ⟨c, r1, r2, r3, hI⟩ : ∃ c r1 r2 r3, PlI W0 gb gd c (.slice f1 f2 f3) (.slice a1 a2 a3) (.slice p1 p2 p3) (.slice q1 q2 q3) (.slice r1 r2 r3) X := ⟨newS x em, none, 0, 0, hI⟩
  have hlc := hI.both.wf.2.1
  have HI := Lib.hid hI
  clear hI
  go_wp2_with fail
  go_loopw [23] (fun i wr => ∃ (k : Nat) (c : BlkS) (f1 a1 p1 q1 r1 : Option Addr) (f2 f3 a2 a3 p2 p3 q2 q3 r2 r3 : Nat), k ≤ L.length ∧ i = .int .i64 k ∧ Hid (PlI W0 gb gd c (.slice f1 f2 f3) (.slice a1 a2 a3) (.slice p1 p2 p3) (.slice q1 q2 q3) (.slice r1 r2 r3) wr)) (fun i _ => L.length - (intOf i).toNat)
  case atStart => exact ⟨0, c, f1, a1, p1, q1, r1, f2, f3, a2, a3, p2, p3, q2, q3, r2, r3, Nat.zero_le _, rfl, HI⟩
  case round =>
    clear HI hlc
    obtain ⟨k, c, f1, a1, p1, q1, r1, f2, f3, a2, a3, p2, p3, q2, q3, r2, r3, hk, rfl, HI⟩ := hrel
    have hlc := HI.out.both.wf.2.1
    by_cases hlt : k < L.length
    · obtain ⟨la, rfl⟩ : ∃ la, lo = some la := by
        cases lo with
        | none => have := HA.out.1 rfl; rw [this] at hlt; simp at hlt
        | some la => exact ⟨la, rfl⟩
      obtain ⟨st, hst⟩ : ∃ st, st = L.getD k default := ⟨_, rfl⟩
      have hat := ((HA.out.2.1 la rfl k hlt).below HI.out.below)
      have hok := (HA.out.2.2 (L.getD k default) (by rw [List.getD_eq_getElem?_getD, List.getElem?_eq_getElem hlt]; exact List.getElem_mem hlt)).below HI.out.below
      rw [← hst] at hat hok
      clear hst
      obtain ⟨kk, nn, aa, lv, ll, ss⟩ := st
      obtain ⟨hk1, hk2, hk3, hk4, hk5⟩ := hok
      obtain ⟨l1, l2, l3, rfl⟩ : ∃ l1 l2 l3, lv = .slice l1 l2 l3 := by
        obtain ⟨ao, c', e, -⟩ := hk4
        exact ⟨_, _, _, e⟩
      obtain ⟨c0, c1, c2, c3, c4, c5⟩ := hat
      dsimp only at c0 c1 c2 c3 c4 c5 hk1 hk2 hk3 hk4 hk5
      have HOK := Lib.hid (And.intro (And.intro hk1 hk2) (And.intro hk3 (And.intro hk4 hk5)))
      have dl : decide ((k : Int) < (L.length : Int)) = true := decide_eq_true (by omega)
      have dl' : decide (k < L.length) = true := decide_eq_true hlt
      have o1 := ofsS (by decide) c1
      have o2 := ofsS (by decide) c2
      have o3 := ofsS (by decide) c3
      have o4 := ofsS (by decide) c4
      have o5 := ofsS (by decide) c5
      have HLT := Lib.hid hlt
      clear hk1 hk2 hk3 hk4 hk5
      have HZs : Hid (StAt (wr.alloc (stO 0 0 (em, em) NS em)) wr.heap.size 0 0 (em, em) NS em) := Lib.hid (heap_new wr _)
      go_upto_region 6 with ((change wpList _ _ _ _ _ (wr.alloc (stO 0 0 (em, em) NS em))); refine wpStS (k := kk) (n := nn) (a := aa) (lv := .slice l1 l2 l3) (s := ss) rfl _ _ rfl rfl rfl HZs.out rfl ?_; intro w4 hx4 hg4)
      have hb4 := docv_new hg4
      have HI4 := Lib.hid (HI.out.later hb4)
      have HS4 : Hid (StAt w4 wr.heap.size kk nn aa (.slice l1 l2 l3) ss) := Lib.hid hx4
      have HOK4 : Hid (SeesU w4 (.slice l1 l2 l3) ll) := Lib.hid (HOK.out.2.2.1.later hb4)
      clear HI HZs hx4 hg4 hb4 c0 c1 c2 c3 c4 c5 o1 o2 o3 o4 o5 dl dl'
      obtain ⟨gs, hgs⟩ : ∃ gs, gs = wr.heap.size := ⟨_, rfl⟩
      rw [← hgs] at HS4 ⊢
      clear hgs
      by_cases h12 : k < 12
      · have dg : decide ((k : Int) < (12 : Int)) = true := decide_eq_true (by omega)
        have dg' : decide (k < 12) = true := decide_eq_true h12
        clear hlt
        go_upto_region 7 with fail
        clear dg dg'
        go_wp2_with (first
          | (refine wpLdB rfl _ rfl rfl HI4.out.blk hlc ?_)
          | (refine wpLdD rfl _ rfl rfl HI4.out.doc ?_)
          | (refine wpLdS rfl _ rfl rfl HS4.out ?_))
        refine (do15_law c _ _ _ _ _ kk nn aa l1 l2 l3 ll ss w4 HI4.out.both HOK.out.1.1 HOK.out.1.2 HOK4.out HOK.out.2.2.2 HOK.out.2.1).mono ?_
        rintro e w5 ⟨C, gv, bv, u1, u2, u3, rfl, hbo, hb5, hap⟩
        obtain ⟨fo, ao, xo, yo, zo, fn, fc, an, ac, xn, xc, yn, yc, zn, zc, rfl, rfl, rfl, rfl, rfl⟩ := hbo.form
        have hlC := hbo.wf.2.1
        have hgb := heap_lt (show w4.heap[gb]? = some (.cells (blkL c (.slice f1 f2 f3) (.slice a1 a2 a3)).toArray 28 (0, 0)) from HI4.out.blk)
        have hgd := heap_lt (show w4.heap[gd]? = some (docO c.addr c.aff (.slice p1 p2 p3) (.slice q1 q2 q3) (.slice r1 r2 r3)) from HI4.out.doc)
        have HA1 := Lib.hid (hap gb hgb HI4.out.ap1)
        have HA2 := Lib.hid (hap gd hgd HI4.out.ap2)
        have HBO := Lib.hid hbo
        have HI5 := Lib.hid (HI4.out.later hb5)
        clear hap hbo hb5 hgb hgd HI4 HS4 HOK HOK4
        go_upto_region 8 with (first
          | (refine wpStB (b := C) rfl _ _ rfl rfl rfl HI5.out.blk hlc hlC rfl rfl ?_; intro w6 hx6 hg6; have HX6 := Lib.hid hx6; have HG6 := Lib.hid hg6; have HD7 := Lib.hid (doc_grownO HI5.out.doc hg6 (fun e => HI5.out.lo.2.2 (Option.some.inj e))); clear hx6 hg6)
          | (refine wpStD (y := C.addr) (s := C.aff) rfl _ _ rfl rfl rfl HD7.out rfl rfl rfl ?_; intro w7 hx7 hg7))
        have HI7 : Hid (PlI W0 gb gd C (.slice fo fn fc) (.slice ao an ac) (.slice xo xn xc) (.slice yo yn yc) (.slice zo zn zc) w7) := Lib.hid ⟨blk_grownO HX6.out hg7 (fun e => HI5.out.lo.2.2 (Option.some.inj e).symm), hx7, (HBO.out.grownA HA1.out HG6.out).grownA HA2.out hg7, HA1.out, HA2.out, (HI5.out.below.grown HG6.out HI5.out.below.size (fun k hk => by cases hk; exact HI5.out.lo.1)).grown hg7 (Nat.le_trans HI5.out.below.size HG6.out.size) (fun k hk => by cases hk; exact HI5.out.lo.2.1), HI5.out.lo⟩
        clear hx7 hg7 HX6 HG6 HD7 HBO HI5 HA1 HA2
        go_wp2_with fail
        go_roundw
        case rel => exact ⟨k + 1, C, fo, ao, xo, yo, zo, fn, fc, an, ac, xn, xc, yn, yc, zn, zc, by have := HLT.out; omega, by go_num, HI7⟩
        case measure => simp [intOf]; have := HLT.out; omega
      · have dg : decide ((k : Int) < (12 : Int)) = false := decide_eq_false (by omega)
        have dg' : decide (k < 12) = false := decide_eq_false h12
        go_wp2_with fail
        go_roundw
        case rel => exact ⟨k + 1, c, f1, a1, p1, q1, r1, f2, f3, a2, a3, p2, p3, q2, q3, r2, r3, by have := HLT.out; omega, by go_num, HI4⟩
        case measure => simp [intOf]; have := HLT.out; omega
    · have dl : decide ((k : Int) < (L.length : Int)) = false := decide_eq_false (by omega)
      have dl' : decide (k < L.length) = false := decide_eq_false hlt
      have hcw := HI.out.both.wf
      have hcr := HI.out.both.right
      have HPT := Lib.hid (fun (fv av : Value) (w : World) (h1 : Sees w fv c.free) (h2 : SeesA w av c.attrs) => imPut_any c fv av w h1 h2 hcw hcr)
      have HPU := Lib.hid (fun (v1 v2 v3 : Value) (w : World) (h : DocSees w c.sl c.free c.attrs v1 v2 v3) => imRef_any c v1 v2 v3 w h hcw hcr)
      obtain ⟨h1, h2⟩ := im_put_read hcw hcr
      have hlen := imB_len hlc hcw.2.2.1 hcr
      obtain ⟨st, hst⟩ : ∃ st, st = strOfNums (imB c) := ⟨_, rfl⟩
      have hsz : st.size ≤ 100000 := by rw [hst, strOfNums_size]; omega
      rw [← hst] at HPT HPU h1 h2
      have HRD := Lib.hid (fun w => imRead_any st w hsz)
      rw [h1, h2] at HRD
      have e3 : (if true = true then (0 : Int) else 3) = 0 := rfl
      rw [e3] at HRD
      have HSM := Lib.hid (fun (fv av fv2 av2 : Value) (w : World) (h1 : Sees w fv c.free) (h2 : SeesA w av c.attrs) (h3 : Sees w fv2 c.free) (h4 : SeesA w av2 c.attrs) => same15_any c c fv av fv2 av2 w h1 h2 h3 h4 hlc hlc hcw.2.2.2.2.2.1 hcw.2.2.2.2.2.1 hcw.2.2.2.2.2.2.1 hcw.2.2.2.2.2.2.1)
      rw [sameS_self] at HSM
      have hTT : (st.toList == st.toList) = true := by simp
      clear h1 h2 hlen hst hsz e3 hcw hcr
      go_upto_region 9 with fail
      go_wp2_with (refine wpLdB rfl _ rfl rfl HI.out.blk hlc ?_)
      refine (HPT.out _ _ _ HI.out.both.free HI.out.both.attrs).mono ?_; rintro e w4 ⟨rfl, hb4⟩
      have HI4 := Lib.hid (HI.out.later hb4)
      clear hb4 HI
      go_wp2_with fail
      refine (HRD.out _).mono ?_; rintro e w7 ⟨fv, av, rfl, hret⟩
      obtain ⟨b1, bn1, bc1, rfl⟩ := own_form hret.free
      obtain ⟨b2, bn2, bc2, rfl⟩ := own_form hret.attrs
      have HI7 := Lib.hid (HI4.out.later hret.below)
      have HX2 : Hid (BlkAt (w7.alloc (blkO zB NS NS)) w7.heap.size zB NS NS) := Lib.hid (heap_new w7 _)
      have HR := Lib.hid hret
      clear hret HRD HI4
      go_upto_region 11 with ((change wpList _ _ _ _ _ (w7.alloc (blkO zB NS NS))); refine wpStB (b := c) rfl _ _ rfl rfl rfl HX2.out zB_len hlc rfl rfl ?_; intro w8 hx8 hg8)
      obtain ⟨hc8, hb8⟩ := var_new HR.out hx8 hg8
      have HC8 := Lib.hid hc8
      have HI8 := Lib.hid (HI7.out.later hb8)
      clear hx8 hg8 hc8 hb8 HX2 HR HI7
      go_wp2_with (refine wpLdDg (by rfl) _ rfl rfl HI8.out.doc ?_)
      refine (HPU.out _ _ _ _ HI8.out.both.doc).mono ?_; rintro e wa ⟨rfl, hba⟩
      have HCa := Lib.hid (HC8.out.below hba)
      have HIa := Lib.hid (HI8.out.later hba)
      clear hba HC8 HI8
      go_wp2_with (first
        | (refine wpLdBg (by rfl) _ rfl rfl HIa.out.blk hlc ?_)
        | (refine wpLdBg (by rfl) _ rfl rfl HCa.out.blk hlc ?_))
      refine (HSM.out _ _ _ _ wa HIa.out.both.free HIa.out.both.attrs HCa.out.free HCa.out.attrs).mono ?_; rintro e wb ⟨rfl, hbb⟩
      have HBb := Lib.hid (bel HIa.out.below hbb)
      clear hbb HIa HCa
      go_wp2_with fail
      refine (HAW.out _).mono ?_; rintro e wd ⟨rfl, hbd⟩
      have HBd := Lib.hid (bel HBb.out hbd)
      clear hbd
      go_wp2_with fail
      go_ret
      exact ⟨rfl, HBd.out⟩
end Go.Proofs.YtgodmnpcedfdcaaGreat
