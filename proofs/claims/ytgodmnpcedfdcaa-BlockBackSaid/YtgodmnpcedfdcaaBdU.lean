/- The walk of BlockBack. Made by g_bdu.py. -/
import Derived.Test.YtgodmnpcedfdcaaBdS
import Derived.Test.YtgodmnpcedfdcaaBdT
namespace Go.Proofs.Ytgodmnpcedfdcaa
open Go.RowKit
theorem neqA_self (p : PA) (w : World) : (binOp .neq 45 (atV p) (atV p)).run Try.prog w = .ok (.bool false) w := by
  have h := neqA p p w
  rw [decide_eq_true (rfl : p = p)] at h
  exact h
theorem take_len (b : BlkS) : (takeZ b).length ≤ 64 := by
  unfold takeZ memZ
  rw [List.length_map]
  have := List.length_filter_le (fun k => (takeN b.sl 64).testBit k) (List.range 64)
  rw [List.length_range] at this
  exact this
set_option maxRecDepth 100000 in
set_option maxHeartbeats 16000000 in
theorem law_back (w : World) (x : Int) (lv : Value) (L : List StepS) (n : Int) (a : PA) (hx : 0 ≤ x) (hx' : x < 4294967296) (hL : ArgSt w lv L) (hn : 0 ≤ n) (hn' : n ≤ 255) (h1 : a.1.size ≤ maxLen) (h2 : a.2.size ≤ maxLen) :
    Calls Try.prog 6 #[.int .u32 x, lv, .int .u8 n, atV a] w fun e w' => e = .returned (.bool true) ∧ Below w.heap.size w w' := by
  obtain ⟨W0, hW0⟩ : ∃ W0, W0 = w.alloc (rtO a) := ⟨_, rfl⟩
  have hb0 : Below w.heap.size w W0 := by rw [hW0]; exact belNew _ _
  have ha0 : W0.heap[w.heap.size]? = some (rtO a) := by rw [hW0]; exact heap_new w _
  obtain ⟨⟨lo, lc, rfl, j1, j2, j3⟩, j4, j5⟩ := hL.below hb0
  have HA := Lib.hid (And.intro j2 (And.intro j3 j4))
  have HA0 := Lib.hid ha0
  have HB0 := Lib.hid hb0
  have HW := Lib.hid hW0
  have HAW := Lib.hid (fun w => awake15_any w)
  have HXX := Lib.hid (And.intro hx hx')
  have HM := Lib.hid (And.intro h1 h2)
  have HN0 := Lib.hid (And.intro hn hn')
  have HWN : Hid (IntKind.i64.wrap n = n) := Lib.hid (IntWalk.i64_in _ (by omega))
  have HMY := refMayA_any a h1 h2
  have hlm : L.length ≤ 9223372036854775807 := by unfold maxLen at j5; omega
  clear j1 j2 j3 j4 j5 hb0 ha0 hW0 hL h1 h2 hn hn'
  have HMY := Lib.hid HMY
  have HN := Lib.hid (newB_any x em W0 hx hx' (by decide) rfl)
  have HND := Lib.hid (fun w => newD_any x em w hx hx')
  clear hx hx'
  go_enter Try.func6, Try.ntmps6
  go_upto_region 1 with fail
  change Code.wp _ _ _ _ (w.alloc (rtO a))
  rw [← HW.out]
  clear HW
  go_wp2_with fail
  refine HN.out.mono ?_; rintro e w1 ⟨fv, av, rfl, hret⟩
  obtain ⟨f1, f2, f3, rfl⟩ := own_form hret.free
  obtain ⟨a1, a2, a3, rfl⟩ := own_form hret.attrs
  have HX2 : Hid (BlkAt (w1.alloc (blkO zB NS NS)) w1.heap.size zB NS NS) := Lib.hid (heap_new w1 _)
  have HR := Lib.hid hret
  have hln : (newS x em).sl.length = 64 := rfl
  clear hret HN
  go_upto_region 2 with ((change wpList _ _ _ _ _ (w1.alloc (blkO zB NS NS))); refine wpStB (b := newS x em) rfl _ _ rfl rfl rfl HX2.out zB_len hln rfl rfl ?_; intro w2 hx2 hg2)
  have HB3 := Lib.hid (bel HR.out.below (var_new HR.out hx2 hg2).2)
  obtain ⟨gb, hgb⟩ : ∃ gb, gb = w1.heap.size := ⟨_, rfl⟩
  have HG := Lib.hid (Nat.le_trans HR.out.below.size (Nat.le_of_eq hgb.symm))
  have hvo := varO_new (B := W0.heap.size) HR.out.free HR.out.attrs hx2 hg2
  rw [← hgb] at hvo ⊢
  have HVO3 := Lib.hid hvo.1
  clear hx2 hg2 hgb HX2 HR hvo
  go_wp2_with fail
  refine (HND.out _).mono ?_; rintro e w4 ⟨v1, v2, rfl, k1, k2, hb4⟩
  obtain ⟨p1, p2, p3, rfl⟩ := own_form k1
  obtain ⟨q1, q2, q3, rfl⟩ := own_form k2
  have HB4 := Lib.hid (bel HB3.out hb4)
  have HVO4 := Lib.hid (HVO3.out.below hb4)
  have HK := Lib.hid (And.intro k1 k2)
  have HZ4 : Hid (DocAt (w4.alloc (docO 0 ⟨#[]⟩ NS NS NS)) w4.heap.size 0 ⟨#[]⟩ NS NS NS) := Lib.hid (heap_new w4 _)
  clear k1 k2 HB3 HVO3 hb4
  go_upto_region 3 with ((change wpList _ _ _ _ _ (w4.alloc (docO 0 ⟨#[]⟩ NS NS NS))); refine wpStD (y := x - x % 64) (s := em) rfl _ _ rfl rfl rfl HZ4.out rfl rfl rfl ?_; intro w5 hx5 hg5)
  have hb5 := docv_new hg5
  obtain ⟨X, hX⟩ : ∃ X, X = w5 := ⟨_, rfl⟩
  obtain ⟨gd, hgd⟩ : ∃ gd, gd = w4.heap.size := ⟨_, rfl⟩
  have hI : PlI W0 gb gd (newS x em) (.slice f1 f2 f3) (.slice a1 a2 a3) (.slice p1 p2 p3) (.slice q1 q2 q3) NS X := by
    rw [hgd, hX]
    have hv5 := HVO4.out.below hb5
    have hbo : Both w5 (newS x em) (.slice f1 f2 f3) (.slice a1 a2 a3) (.slice p1 p2 p3) (.slice q1 q2 q3) NS := new_both HXX.out (by decide) rfl hv5.free.sees (RowA.sees hv5.attrs) (RowG.le (own_keep (HK.out.1.row1) hb5) (Nat.zero_le _)) (RowG.le (own_keep (HK.out.2.row1) hb5) (Nat.zero_le _))
    have hsz : gb < w4.heap.size := heap_lt (show w4.heap[gb]? = some (.cells (blkL (newS x em) (.slice f1 f2 f3) (.slice a1 a2 a3)).toArray 32 (0, 0)) from HVO4.out.blk)
    refine ⟨hv5.blk, hx5, hbo, ?_, ?_, bel HB4.out hb5, HG.out, HB4.out.size, by omega⟩
    · exact ⟨fun _ => own_neB hv5.free hv5.blk (by decide), fun h => absurd rfl h, fun _ => own_neB (own_keep (HK.out.1.row1) hb5) hv5.blk (by decide), fun _ => own_neB (own_keep (HK.out.2.row1) hb5) hv5.blk (by decide), fun h => absurd rfl h⟩
    · exact ⟨fun _ => own_neD hv5.free hx5 (by decide), fun h => absurd rfl h, fun _ => own_neD (own_keep (HK.out.1.row1) hb5) hx5 (by decide), fun _ => own_neD (own_keep (HK.out.2.row1) hb5) hx5 (by decide), fun h => absurd rfl h⟩
  rw [← hX, ← hgd]
  clear hX hgd hx5 hg5 hb5 HK HZ4 HVO4 HB4 HG HND hln
  obtain ⟨c, r1, r2, r3, hI⟩ : ∃ c r1 r2 r3, PlI W0 gb gd c (.slice f1 f2 f3) (.slice a1 a2 a3) (.slice p1 p2 p3) (.slice q1 q2 q3) (.slice r1 r2 r3) X := ⟨newS x em, none, 0, 0, hI⟩
  have hlc := hI.both.wf.2.1
  have HI := Lib.hid hI
  clear hI
  go_wp2_with fail
  go_loopw [41] (fun i wr => ∃ (k : Nat) (c : BlkS) (f1 a1 p1 q1 r1 : Option Addr) (f2 f3 a2 a3 p2 p3 q2 q3 r2 r3 : Nat), k ≤ L.length ∧ i = .int .i64 k ∧ Hid (PlI W0 gb gd c (.slice f1 f2 f3) (.slice a1 a2 a3) (.slice p1 p2 p3) (.slice q1 q2 q3) (.slice r1 r2 r3) wr)) (fun i _ => L.length - (intOf i).toNat)
  case atStart => exact ⟨0, c, f1, a1, p1, q1, r1, f2, f3, a2, a3, p2, p3, q2, q3, r2, r3, Nat.zero_le _, rfl, HI⟩
  case round =>
    clear HI hlc
    obtain ⟨k, c, f1, a1, p1, q1, r1, f2, f3, a2, a3, p2, p3, q2, q3, r2, r3, hk, rfl, HI⟩ := hrel
    have hlc := HI.out.both.wf.2.1
    by_cases hlt : k < L.length
    · obtain ⟨la, rfl⟩ : ∃ la, lo = some la := by
        cases lo with
        | none => have := HA.out.1 rfl; rw [this] at hlt; simp at hlt
        | some la => exact ⟨la, rfl⟩
      obtain ⟨st, hst⟩ : ∃ st, st = L.getD k default := ⟨_, rfl⟩
      have hat := ((HA.out.2.1 la rfl k hlt).below HI.out.below)
      have hok := (HA.out.2.2 (L.getD k default) (by rw [List.getD_eq_getElem?_getD, List.getElem?_eq_getElem hlt]; exact List.getElem_mem hlt)).below HI.out.below
      rw [← hst] at hat hok
      clear hst
      obtain ⟨kk, nn, aa, lv, ll, ss⟩ := st
      obtain ⟨hk1, hk2, hk3, hk4, hk5⟩ := hok
      obtain ⟨l1, l2, l3, rfl⟩ : ∃ l1 l2 l3, lv = .slice l1 l2 l3 := by
        obtain ⟨ao, c', e, -⟩ := hk4
        exact ⟨_, _, _, e⟩
      obtain ⟨c0, c1, c2, c3, c4, c5⟩ := hat
      dsimp only at c0 c1 c2 c3 c4 c5 hk1 hk2 hk3 hk4 hk5
      have HOK := Lib.hid (And.intro (And.intro hk1 hk2) (And.intro hk3 (And.intro hk4 hk5)))
      have dl : decide ((k : Int) < (L.length : Int)) = true := decide_eq_true (by omega)
      have dl' : decide (k < L.length) = true := decide_eq_true hlt
      have o1 := ofsS (by decide) c1
      have o2 := ofsS (by decide) c2
      have o3 := ofsS (by decide) c3
      have o4 := ofsS (by decide) c4
      have o5 := ofsS (by decide) c5
      have HLT := Lib.hid hlt
      clear hk1 hk2 hk3 hk4 hk5
      have HZs : Hid (StAt (wr.alloc (stO 0 0 (em, em) NS em)) wr.heap.size 0 0 (em, em) NS em) := Lib.hid (heap_new wr _)
      go_upto_region 6 with ((change wpList _ _ _ _ _ (wr.alloc (stO 0 0 (em, em) NS em))); refine wpStS (k := kk) (n := nn) (a := aa) (lv := .slice l1 l2 l3) (s := ss) rfl _ _ rfl rfl rfl HZs.out rfl ?_; intro w4 hx4 hg4)
      have hb4 := docv_new hg4
      have HI4 := Lib.hid (HI.out.later hb4)
      have HS4 : Hid (StAt w4 wr.heap.size kk nn aa (.slice l1 l2 l3) ss) := Lib.hid hx4
      have HOK4 : Hid (SeesU w4 (.slice l1 l2 l3) ll) := Lib.hid (HOK.out.2.2.1.later hb4)
      clear HI HZs hx4 hg4 hb4 c0 c1 c2 c3 c4 c5 o1 o2 o3 o4 o5 dl dl'
      obtain ⟨gs, hgs⟩ : ∃ gs, gs = wr.heap.size := ⟨_, rfl⟩
      rw [← hgs] at HS4 ⊢
      clear hgs
      by_cases h12 : k < 12
      · have dg : decide ((k : Int) < (12 : Int)) = true := decide_eq_true (by omega)
        have dg' : decide (k < 12) = true := decide_eq_true h12
        clear hlt
        go_upto_region 7 with fail
        clear dg dg'
        go_wp2_with (first
          | (refine wpLdB rfl _ rfl rfl HI4.out.blk hlc ?_)
          | (refine wpLdD rfl _ rfl rfl HI4.out.doc ?_)
          | (refine wpLdS rfl _ rfl rfl HS4.out ?_))
        refine (do15_law c _ _ _ _ _ kk nn aa l1 l2 l3 ll ss w4 HI4.out.both HOK.out.1.1 HOK.out.1.2 HOK4.out HOK.out.2.2.2 HOK.out.2.1).mono ?_
        rintro e w5 ⟨C, gv, bv, u1, u2, u3, rfl, hbo, hb5, hap⟩
        obtain ⟨fo, ao, xo, yo, zo, fn, fc, an, ac, xn, xc, yn, yc, zn, zc, rfl, rfl, rfl, rfl, rfl⟩ := hbo.form
        have hlC := hbo.wf.2.1
        have hgb := heap_lt (show w4.heap[gb]? = some (.cells (blkL c (.slice f1 f2 f3) (.slice a1 a2 a3)).toArray 32 (0, 0)) from HI4.out.blk)
        have hgd := heap_lt (show w4.heap[gd]? = some (docO c.addr c.aff (.slice p1 p2 p3) (.slice q1 q2 q3) (.slice r1 r2 r3)) from HI4.out.doc)
        have HA1 := Lib.hid (hap gb hgb HI4.out.ap1)
        have HA2 := Lib.hid (hap gd hgd HI4.out.ap2)
        have HBO := Lib.hid hbo
        have HI5 := Lib.hid (HI4.out.later hb5)
        clear hap hbo hb5 hgb hgd HI4 HS4 HOK HOK4
        go_upto_region 8 with (first
          | (refine wpStB (b := C) rfl _ _ rfl rfl rfl HI5.out.blk hlc hlC rfl rfl ?_; intro w6 hx6 hg6; have HX6 := Lib.hid hx6; have HG6 := Lib.hid hg6; have HD7 := Lib.hid (doc_grownO HI5.out.doc hg6 (fun e => HI5.out.lo.2.2 (Option.some.inj e))); clear hx6 hg6)
          | (refine wpStD (y := C.addr) (s := C.aff) rfl _ _ rfl rfl rfl HD7.out rfl rfl rfl ?_; intro w7 hx7 hg7))
        have HI7 : Hid (PlI W0 gb gd C (.slice fo fn fc) (.slice ao an ac) (.slice xo xn xc) (.slice yo yn yc) (.slice zo zn zc) w7) := Lib.hid ⟨blk_grownO HX6.out hg7 (fun e => HI5.out.lo.2.2 (Option.some.inj e).symm), hx7, (HBO.out.grownA HA1.out HG6.out).grownA HA2.out hg7, HA1.out, HA2.out, (HI5.out.below.grown HG6.out HI5.out.below.size (fun k hk => by cases hk; exact HI5.out.lo.1)).grown hg7 (Nat.le_trans HI5.out.below.size HG6.out.size) (fun k hk => by cases hk; exact HI5.out.lo.2.1), HI5.out.lo⟩
        clear hx7 hg7 HX6 HG6 HD7 HBO HI5 HA1 HA2
        go_wp2_with fail
        go_roundw
        case rel => exact ⟨k + 1, C, fo, ao, xo, yo, zo, fn, fc, an, ac, xn, xc, yn, yc, zn, zc, by have := HLT.out; omega, by go_num, HI7⟩
        case measure => simp [intOf]; have := HLT.out; omega
      · have dg : decide ((k : Int) < (12 : Int)) = false := decide_eq_false (by omega)
        have dg' : decide (k < 12) = false := decide_eq_false h12
        go_wp2_with fail
        go_roundw
        case rel => exact ⟨k + 1, c, f1, a1, p1, q1, r1, f2, f3, a2, a3, p2, p3, q2, q3, r2, r3, by have := HLT.out; omega, by go_num, HI4⟩
        case measure => simp [intOf]; have := HLT.out; omega
    · have dl : decide ((k : Int) < (L.length : Int)) = false := decide_eq_false (by omega)
      have dl' : decide (k < L.length) = false := decide_eq_false hlt
      have HAT := Lib.hid ((HI.out.below.block _ (heap_lt HA0.out)).trans HA0.out)
      obtain ⟨y0, y1⟩ := acells HAT.out
      obtain ⟨X, rfl⟩ : ∃ X, X = wr := ⟨_, rfl⟩
      go_upto_region 9 with fail
      go_wp2_with fail
      refine (HMY.out _).mono ?_; rintro e w3 ⟨rfl, hb3⟩
      have HI3 := Lib.hid (HI.out.later hb3)
      have HAT3 := Lib.hid ((hb3.block _ (heap_lt HAT.out)).trans HAT.out)
      clear hb3 HI HAT y0 y1 HMY
      have HI := HI3
      have HAT := HAT3
      clear HI3 HAT3
      obtain ⟨X, rfl⟩ : ∃ X, X = w3 := ⟨_, rfl⟩
      cases hm : mayP a with
      | false =>
        go_wp2_with fail
        refine (HAW.out _).mono ?_; rintro e wz ⟨rfl, hbz⟩
        have HBZ := Lib.hid (bel (bel HB0.out HI.out.below) hbz)
        clear hbz
        go_wp2_with fail
        go_ret
        exact ⟨rfl, HBZ.out⟩
      | true =>
        obtain ⟨G, hG⟩ : ∃ G, G = givS c (c.free.take n.toNat) a := ⟨_, rfl⟩
        obtain ⟨T, hT⟩ : ∃ T, T = adrs c (c.free.take n.toNat) := ⟨_, rfl⟩
        have hcw := HI.out.both.wf
        have hcr := HI.out.both.right
        obtain ⟨hok1, hok2⟩ := giv_ok hcw hcr hm n.toNat
        obtain ⟨hb1, hb2, hb3⟩ := back_all hcw hcr hm n.toNat
        rw [← hG] at hok1 hok2 hb1 hb2 hb3
        rw [← hT] at hb1 hb2 hb3
        obtain ⟨D, hD⟩ : ∃ D, D = tidS (relN (fun _ => true) G T T.length).1 := ⟨_, rfl⟩
        rw [← hD] at hb2
        have hTbd : ∀ x ∈ T, 0 ≤ x ∧ x < 4294967296 := by
          rw [hT]
          exact adrs_bd hcw.1 (right_bd hcw hcr).1 (fun i hi => (right_free hcr).1 i (List.mem_of_mem_take hi))
        have hTl : T.length ≤ 64 := by rw [hT, adrs_len, List.length_take]; have := (right_free hcr).2.2; omega
        obtain ⟨hd1, hd2⟩ := rel_right (fun _ => true) hok2 hok1 (l := T) (fun x hx => (hTbd x hx).1)
        rw [← hD] at hd1 hd2
        have hda : D.addr = c.addr := by
          rw [hD]
          show (relN (fun _ => true) G T T.length).1.addr = _
          rw [(relN_inv (fun _ => true) G T hok2.2.1 (right_bd hok2 hok1).2.2.2 T.length).1, hG]
          rfl
        obtain ⟨TB, hTB⟩ : ∃ TB, TB = adrs c (takeZ c) := ⟨_, rfl⟩
        have hTB2 : adrs D (takeZ D) = TB := by
          rw [hTB]
          exact given_congr hda (by rw [hda]; exact (right_bd hcw hcr).1) hb2
        have HGL : Hid (G.sl.length = 64) := Lib.hid hok2.2.1
        have HDL : Hid (D.sl.length = 64) := Lib.hid hd2.2.1
        have HLA := Lib.hid (fun w => lawAttr_any a w)
        have HTBL : Hid (TB.length ≤ maxLen) := Lib.hid (by
          rw [hTB, adrs_len]
          have : (takeZ c).length ≤ 64 := take_len c
          unfold maxLen
          omega)
        have HTBB : Hid (∀ x ∈ TB, 0 ≤ x ∧ x < 4294967296) := Lib.hid (by rw [hTB]; exact adrs_bd hcw.1 (right_bd hcw hcr).1 (take_bd c))
        have HC : Hid (∀ Y, Below X.heap.size X Y → Calls Try.prog 15 #[.agg (blkL c (.slice f1 f2 f3) (.slice a1 a2 a3)).toArray, .int .i64 n, atV a] Y fun e Z => ∃ fo fn fc ao an ac ti tn tc, e = .returned (.tuple #[.agg (blkL G (.slice fo fn fc) (.slice ao an ac)).toArray, .slice ti tn tc, .int .i64 0]) ∧ Owns Z Y.heap.size (.slice fo fn fc) G.free ∧ RowA EAt Z Y.heap.size (.slice ao an ac) G.attrs ∧ OwnsU Z Y.heap.size (.slice ti tn tc) T ∧ Below Y.heap.size Y Z) := Lib.hid (by
          intro Y hY
          have hIY := HI.out.later hY
          refine (assign_any c _ _ n a Y hIY.both.free hIY.both.attrs hcw HM.out.1 HM.out.2 hcr hm HN0.out.1).mono ?_
          rintro e Z ⟨fv, av, tv, rfl, hr, ht⟩
          rw [← hG] at hr ⊢
          rw [← hT] at ht
          obtain ⟨fo, fn, fc, rfl⟩ := own_form hr.free
          obtain ⟨ao, an, ac, rfl⟩ := own_form hr.attrs
          obtain ⟨ti, tn, tc, rfl⟩ := own_form ht
          exact ⟨fo, fn, fc, ao, an, ac, ti, tn, tc, rfl, hr.free, hr.attrs, ht, hr.below⟩)
        have HRL : Hid (∀ Y fo fn fc ao an ac lv, Sees Y (.slice fo fn fc) G.free → SeesA Y (.slice ao an ac) G.attrs → SeesU Y lv T → Calls Try.prog 18 #[.agg (blkL G (.slice fo fn fc) (.slice ao an ac)).toArray, lv] Y fun e Z => ∃ ho hn hc io iq ic vi vn vc, e = .returned (.tuple #[.agg (blkL D (.slice ho hn hc) (.slice io iq ic)).toArray, .slice vi vn vc, .int .i64 0]) ∧ Owns Z Y.heap.size (.slice ho hn hc) D.free ∧ RowA EAt Z Y.heap.size (.slice io iq ic) D.attrs ∧ OwnsU Z Y.heap.size (.slice vi vn vc) T ∧ Below Y.heap.size Y Z) := Lib.hid (by
          intro Y fo fn fc ao an ac lv k1 k2 k3
          refine (release15_any G _ _ lv T Y k1 k2 hok2 k3 hTbd (by unfold maxLen; omega) hok1).mono ?_
          rintro e Z ⟨fv, av, tv, rfl, hr, ht⟩
          rw [hb1] at ht
          rw [← hD] at hr ⊢
          obtain ⟨ho, hn, hc, rfl⟩ := own_form hr.free
          obtain ⟨io, iq, ic, rfl⟩ := own_form hr.attrs
          obtain ⟨vi, vn, vc, rfl⟩ := own_form ht
          exact ⟨ho, hn, hc, io, iq, ic, vi, vn, vc, rfl, hr.free, hr.attrs, ht, hr.below⟩)
        have HOFP : Hid ((∀ x, ofP c x = undP c x) ∧ (∀ x, ofP G x = undP G x) ∧ ∀ x, ofP D x = undP c x) := Lib.hid ⟨fun x => by unfold ofP; rw [if_pos hcr], fun x => by unfold ofP; rw [if_pos hok1], fun x => by unfold ofP; rw [if_pos hd1, hb2]⟩
        have HU : Hid (∀ x ∈ T, undP c x = ((em, em), false) ∧ undP G x = (a, true)) := Lib.hid hb3
        have HW4 := Lib.hid (And.intro hcw (And.intro hok2 hd2))
        have HDR := Lib.hid (And.intro hcr (And.intro hd1 (And.intro hTB.symm hTB2)))
        have HTb := Lib.hid (And.intro hTbd hTl)
        clear hG hT hD hTbd hTl hok1 hok2 hb1 hb2 hb3 hd1 hd2 hda hTB hTB2 hcw hcr
        go_upto_region 11 with fail
        go_cut [14, 15, 16] (fun s14 s15 s16 wx => ∃ (gc : Nat) (fo : Option Addr) (fn fc : Nat) (ao : Option Addr) (an ac : Nat) (ti : Option Addr) (tn tc : Nat), s14 = .pointer (some ⟨gc, 0, none⟩) ∧ s15 = .slice ti tn tc ∧ s16 = .int .i64 0 ∧ Hid (Below X.heap.size X wx ∧ VarO wx X.heap.size gc G (.slice fo fn fc) (.slice ao an ac) ∧ OwnsU wx X.heap.size (.slice ti tn tc) T))
        case first =>
          refine wp_region_held_drew (S := (fun Y => Below X.heap.size X Y)) (by kernel_rfl) ?_ (fun rN => ?_)
          · exact ⟨rfl, rfl, rfl, Nat.le_refl _, fun _ _ => rfl⟩
          obtain ⟨wn, hwn⟩ : ∃ wn, wn = X.drew := ⟨_, rfl⟩
          rw [← hwn] at rN ⊢
          clear hwn
          have rN : Below X.heap.size X wn := rN
          refine wpAnyH_take (i := 0) (v := _) rfl (by kernel_rfl) (by kernel_rfl) (by kernel_rfl) (fun _ _ _ h => h) (ldBIf (by rfl) _ rfl rfl (fun W hW => (HI.out.later hW).blk) hlc) (by assumption) ?_
          try simp only [Act.put, List.getElem_toArray, List.getElem_cons_zero, List.setIfInBounds_toArray, List.set_cons_zero, List.set_cons_succ]
          refine wpAnyH_take (i := 1) (v := ?_) rfl (by kernel_rfl) (by kernel_rfl) (by kernel_rfl) (fun _ _ _ h => h) (Or.inl ⟨by rfl, ?_⟩) (by assumption) ?_
          rotate_left
          · intro wS hSw
            (try dsimp only at hSw)
            go_simp
            first | done | with_reducible rfl
          try simp only [Act.put, List.getElem_toArray, List.getElem_cons_succ, List.getElem_cons_zero, List.setIfInBounds_toArray, List.set_cons_zero, List.set_cons_succ]
          refine wpAnyH_take (i := 2) (v := .int .i64 n) rfl (by kernel_rfl) (by kernel_rfl) (by kernel_rfl) (fun _ _ _ h => h) (Or.inl ⟨by rfl, ?_⟩) (by assumption) ?_
          · intro wS hSw
            (try dsimp only at hSw)
            go_simp
            rw [HWN.out]
          try simp only [Act.put, List.getElem_toArray, List.getElem_cons_succ, List.getElem_cons_zero, List.setIfInBounds_toArray, List.set_cons_zero, List.set_cons_succ]
          refine wpAnyH_take (i := 3) (v := ?_) rfl (by kernel_rfl) (by kernel_rfl) (by kernel_rfl) (fun _ _ _ h => h) (Or.inl ⟨by rfl, ?_⟩) (by assumption) ?_
          rotate_left
          · intro wS hSw
            (try dsimp only at hSw)
            obtain ⟨m0, m1⟩ := acells ((hSw.block _ (heap_lt HAT.out)).trans HAT.out)
            go_simp
            first | done | with_reducible rfl
          try simp only [Act.put, List.getElem_toArray, List.getElem_cons_succ, List.getElem_cons_zero, List.setIfInBounds_toArray, List.set_cons_zero, List.set_cons_succ]
          refine wpAnyH_ready (rs := [4, 10]) (by kernel_rfl) (by simp) ?_
          refine AllReadyH.cons rfl (fun K hK => ?_) (AllReadyH.cons rfl (fun K hK => ?_) AllReadyH.nil)
          · go_simp
            refine (HLA.out _).mono ?_; rintro z wm ⟨rfl, hbm⟩
            have rM : Below X.heap.size X wm := bel rN hbm
            clear hbm
            refine hK.out _ _ ?_ (fun _ => ?_)
            · exact rM
            try simp only [Act.put, List.getElem_toArray, List.getElem_cons_succ, List.getElem_cons_zero, List.setIfInBounds_toArray, List.set_cons_zero, List.set_cons_succ]
            have rN := rM
            refine wpAnyH_ready (rs := [5, 10]) (by kernel_rfl) (by simp) ?_
            refine AllReadyH.cons rfl (fun K hK => ?_) (AllReadyH.cons rfl (fun K hK => ?_) AllReadyH.nil)
            · go_simp
              refine (HC.out _ rN).mono ?_; rintro z wm ⟨fo, fn, fc, ao, an, ac, ti, tn, tc, rfl, hfr, hat, hto, hbm⟩
              have rM : Below X.heap.size X wm := bel rN hbm
              have HR := Lib.hid (And.intro (own_le hfr rN.size) (And.intro (own_le hat rN.size) (own_le hto rN.size)))
              clear hbm hfr hat hto
              refine hK.out _ _ ?_ (fun _ => ?_)
              · exact rM
              try simp only [Act.put, List.getElem_toArray, List.getElem_cons_succ, List.getElem_cons_zero, List.setIfInBounds_toArray, List.set_cons_zero, List.set_cons_succ]
              have rN := rM
              refine wpAnyH_take (i := 6) (v := ?_) rfl (by kernel_rfl) (by kernel_rfl) (by kernel_rfl) (fun _ _ _ h => h) (Or.inl ⟨by rfl, ?_⟩) (by assumption) ?_
              rotate_left
              · intro wS hSw
                (try dsimp only at hSw)
                go_simp
                first | done | with_reducible rfl
              try simp only [Act.put, List.getElem_toArray, List.getElem_cons_succ, List.getElem_cons_zero, List.setIfInBounds_toArray, List.set_cons_zero, List.set_cons_succ]
              refine wpAnyH_take (i := 7) (v := ?_) rfl (by kernel_rfl) (by kernel_rfl) (by kernel_rfl) (fun _ _ _ h => h) (Or.inl ⟨by rfl, ?_⟩) (by assumption) ?_
              rotate_left
              · intro wS hSw
                (try dsimp only at hSw)
                go_simp
                first | done | with_reducible rfl
              try simp only [Act.put, List.getElem_toArray, List.getElem_cons_succ, List.getElem_cons_zero, List.setIfInBounds_toArray, List.set_cons_zero, List.set_cons_succ]
              refine wpAnyH_take (i := 8) (v := ?_) rfl (by kernel_rfl) (by kernel_rfl) (by kernel_rfl) (fun _ _ _ h => h) (Or.inl ⟨by rfl, ?_⟩) (by assumption) ?_
              rotate_left
              · intro wS hSw
                (try dsimp only at hSw)
                go_simp
                first | done | with_reducible rfl
              try simp only [Act.put, List.getElem_toArray, List.getElem_cons_succ, List.getElem_cons_zero, List.setIfInBounds_toArray, List.set_cons_zero, List.set_cons_succ]
              refine wpAnyH_take (i := 9) (v := ?_) rfl (by kernel_rfl) (by kernel_rfl) (by kernel_rfl) (fun _ _ _ h => h) (Or.inl ⟨by rfl, ?_⟩) (by assumption) ?_
              rotate_left
              · intro wS hSw
                (try dsimp only at hSw)
                go_simp
                first | done | with_reducible rfl
              try simp only [Act.put, List.getElem_toArray, List.getElem_cons_succ, List.getElem_cons_zero, List.setIfInBounds_toArray, List.set_cons_zero, List.set_cons_succ]
              refine wpAnyH_ready (rs := [10]) (by kernel_rfl) (by simp) ?_
              refine AllReadyH.cons rfl (fun K hK => ?_) AllReadyH.nil
              go_simp
              have hz0 := heap_new wm (blkO zB NS NS)
              have hbm := belNew wm (blkO zB NS NS)
              obtain ⟨wz, hwm⟩ : ∃ wz : World, wz = wm.alloc (blkO zB NS NS) := ⟨_, rfl⟩
              rw [← hwm] at hz0 hbm
              have rM : Below X.heap.size X wz := bel rN hbm
              obtain ⟨gz, hgz⟩ : ∃ gz, gz = wm.heap.size := ⟨_, rfl⟩
              have hgx : X.heap.size ≤ gz := by rw [hgz]; exact rN.size
              rw [← hgz] at hz0
              have HZ : Hid (BlkAt wz gz zB NS NS ∧ X.heap.size ≤ gz) := Lib.hid ⟨hz0, hgx⟩
              have HR := Lib.hid (And.intro (own_keep HR.out.1 hbm) (And.intro (own_keep HR.out.2.1 hbm) (own_keep HR.out.2.2 hbm)))
              change K _ (wm.alloc (blkO zB NS NS))
              rw [← hwm, ← hgz]
              clear hwm hgz hz0 hbm hgx
              refine hK.out _ _ ?_ (fun _ => ?_)
              · exact rM
              try simp only [Act.put, List.getElem_toArray, List.getElem_cons_succ, List.getElem_cons_zero, List.setIfInBounds_toArray, List.set_cons_zero, List.set_cons_succ]
              have rN := rM
              refine wpAnyH_ready (rs := [11]) (by kernel_rfl) (by simp) ?_
              refine AllReadyH.cons rfl (fun K hK => ?_) AllReadyH.nil
              rw [if_pos (by kernel_rfl)]
              refine wpStBK (b := G) _ _ rfl rfl rfl HZ.out.1 zB_len HGL.out rfl rfl ?_; intro wq hxm hgm
              have rM : Below X.heap.size X wq := rN.grown hgm rN.size (fun k hk => by cases hk; exact HZ.out.2)
              have HV : Hid (VarO wq X.heap.size gz G (.slice fo fn fc) (.slice ao an ac)) := Lib.hid ⟨hxm, own_grownO HR.out.1 hgm (fun k hk e => own_neB HR.out.1 HZ.out.1 (by decide) (hk.trans e.symm)), own_grownO HR.out.2.1 hgm (fun k hk e => own_neB HR.out.2.1 HZ.out.1 (by decide) (hk.trans e.symm))⟩
              have HTO := Lib.hid (own_grownO HR.out.2.2 hgm (fun k hk e => own_neB HR.out.2.2 HZ.out.1 (by decide) (hk.trans e.symm)))
              clear hxm hgm
              refine hK.out _ _ ?_ (fun _ => ?_)
              · exact rM
              try simp only [Act.put, List.getElem_toArray, List.getElem_cons_succ, List.getElem_cons_zero]
              have rN := rM
              refine wpAnyH_take (i := 12) (v := ?_) rfl (by kernel_rfl) (by kernel_rfl) (by kernel_rfl) (fun _ _ _ h => h) (Or.inl ⟨by rfl, ?_⟩) (by assumption) ?_
              rotate_left
              · intro wS hSw
                (try dsimp only at hSw)
                go_simp
                first | done | with_reducible rfl
              try simp only [Act.put, List.getElem_toArray, List.getElem_cons_succ, List.getElem_cons_zero, List.setIfInBounds_toArray, List.set_cons_zero, List.set_cons_succ]
              refine wpAnyH_take (i := 13) (v := ?_) rfl (by kernel_rfl) (by kernel_rfl) (by kernel_rfl) (fun _ _ _ h => h) (Or.inl ⟨by rfl, ?_⟩) (by assumption) ?_
              rotate_left
              · intro wS hSw
                (try dsimp only at hSw)
                go_simp
                first | done | with_reducible rfl
              try simp only [Act.put, List.getElem_toArray, List.getElem_cons_succ, List.getElem_cons_zero, List.setIfInBounds_toArray, List.set_cons_zero, List.set_cons_succ]
              refine wpAnyH_done (by kernel_rfl) ?_ _
              (try go_wp2_with fail)
              go_meet
              exact ⟨gz, fo, fn, fc, ao, an, ac, ti, tn, tc, rfl, rfl, rfl, Lib.hid ⟨rN, HV.out, HTO.out⟩⟩
            · go_simp
              have hz0 := heap_new wm (blkO zB NS NS)
              have hbm := belNew wm (blkO zB NS NS)
              obtain ⟨wz, hwm⟩ : ∃ wz : World, wz = wm.alloc (blkO zB NS NS) := ⟨_, rfl⟩
              rw [← hwm] at hz0 hbm
              have rM : Below X.heap.size X wz := bel rN hbm
              obtain ⟨gz, hgz⟩ : ∃ gz, gz = wm.heap.size := ⟨_, rfl⟩
              have hgx : X.heap.size ≤ gz := by rw [hgz]; exact rN.size
              rw [← hgz] at hz0
              have HZ : Hid (BlkAt wz gz zB NS NS ∧ X.heap.size ≤ gz) := Lib.hid ⟨hz0, hgx⟩
              change K _ (wm.alloc (blkO zB NS NS))
              rw [← hwm, ← hgz]
              clear hwm hgz hz0 hbm hgx
              refine hK.out _ _ ?_ (fun _ => ?_)
              · exact rM
              try simp only [Act.put, List.getElem_toArray, List.getElem_cons_succ, List.getElem_cons_zero, List.setIfInBounds_toArray, List.set_cons_zero, List.set_cons_succ]
              have rN := rM
              refine wpAnyH_ready (rs := [5]) (by kernel_rfl) (by simp) ?_
              refine AllReadyH.cons rfl (fun K hK => ?_) AllReadyH.nil
              go_simp
              refine (HC.out _ rN).mono ?_; rintro z wm ⟨fo, fn, fc, ao, an, ac, ti, tn, tc, rfl, hfr, hat, hto, hbm⟩
              have rM : Below X.heap.size X wm := bel rN hbm
              have HZ := Lib.hid (And.intro (HZ.out.1.below hbm) HZ.out.2)
              have HR := Lib.hid (And.intro (own_le hfr rN.size) (And.intro (own_le hat rN.size) (own_le hto rN.size)))
              clear hbm hfr hat hto
              refine hK.out _ _ ?_ (fun _ => ?_)
              · exact rM
              try simp only [Act.put, List.getElem_toArray, List.getElem_cons_succ, List.getElem_cons_zero, List.setIfInBounds_toArray, List.set_cons_zero, List.set_cons_succ]
              have rN := rM
              refine wpAnyH_take (i := 6) (v := ?_) rfl (by kernel_rfl) (by kernel_rfl) (by kernel_rfl) (fun _ _ _ h => h) (Or.inl ⟨by rfl, ?_⟩) (by assumption) ?_
              rotate_left
              · intro wS hSw
                (try dsimp only at hSw)
                go_simp
                first | done | with_reducible rfl
              try simp only [Act.put, List.getElem_toArray, List.getElem_cons_succ, List.getElem_cons_zero, List.setIfInBounds_toArray, List.set_cons_zero, List.set_cons_succ]
              refine wpAnyH_take (i := 7) (v := ?_) rfl (by kernel_rfl) (by kernel_rfl) (by kernel_rfl) (fun _ _ _ h => h) (Or.inl ⟨by rfl, ?_⟩) (by assumption) ?_
              rotate_left
              · intro wS hSw
                (try dsimp only at hSw)
                go_simp
                first | done | with_reducible rfl
              try simp only [Act.put, List.getElem_toArray, List.getElem_cons_succ, List.getElem_cons_zero, List.setIfInBounds_toArray, List.set_cons_zero, List.set_cons_succ]
              refine wpAnyH_take (i := 8) (v := ?_) rfl (by kernel_rfl) (by kernel_rfl) (by kernel_rfl) (fun _ _ _ h => h) (Or.inl ⟨by rfl, ?_⟩) (by assumption) ?_
              rotate_left
              · intro wS hSw
                (try dsimp only at hSw)
                go_simp
                first | done | with_reducible rfl
              try simp only [Act.put, List.getElem_toArray, List.getElem_cons_succ, List.getElem_cons_zero, List.setIfInBounds_toArray, List.set_cons_zero, List.set_cons_succ]
              refine wpAnyH_take (i := 9) (v := ?_) rfl (by kernel_rfl) (by kernel_rfl) (by kernel_rfl) (fun _ _ _ h => h) (Or.inl ⟨by rfl, ?_⟩) (by assumption) ?_
              rotate_left
              · intro wS hSw
                (try dsimp only at hSw)
                go_simp
                first | done | with_reducible rfl
              try simp only [Act.put, List.getElem_toArray, List.getElem_cons_succ, List.getElem_cons_zero, List.setIfInBounds_toArray, List.set_cons_zero, List.set_cons_succ]
              refine wpAnyH_ready (rs := [11]) (by kernel_rfl) (by simp) ?_
              refine AllReadyH.cons rfl (fun K hK => ?_) AllReadyH.nil
              rw [if_pos (by kernel_rfl)]
              refine wpStBK (b := G) _ _ rfl rfl rfl HZ.out.1 zB_len HGL.out rfl rfl ?_; intro wq hxm hgm
              have rM : Below X.heap.size X wq := rN.grown hgm rN.size (fun k hk => by cases hk; exact HZ.out.2)
              have HV : Hid (VarO wq X.heap.size gz G (.slice fo fn fc) (.slice ao an ac)) := Lib.hid ⟨hxm, own_grownO HR.out.1 hgm (fun k hk e => own_neB HR.out.1 HZ.out.1 (by decide) (hk.trans e.symm)), own_grownO HR.out.2.1 hgm (fun k hk e => own_neB HR.out.2.1 HZ.out.1 (by decide) (hk.trans e.symm))⟩
              have HTO := Lib.hid (own_grownO HR.out.2.2 hgm (fun k hk e => own_neB HR.out.2.2 HZ.out.1 (by decide) (hk.trans e.symm)))
              clear hxm hgm
              refine hK.out _ _ ?_ (fun _ => ?_)
              · exact rM
              try simp only [Act.put, List.getElem_toArray, List.getElem_cons_succ, List.getElem_cons_zero]
              have rN := rM
              refine wpAnyH_take (i := 12) (v := ?_) rfl (by kernel_rfl) (by kernel_rfl) (by kernel_rfl) (fun _ _ _ h => h) (Or.inl ⟨by rfl, ?_⟩) (by assumption) ?_
              rotate_left
              · intro wS hSw
                (try dsimp only at hSw)
                go_simp
                first | done | with_reducible rfl
              try simp only [Act.put, List.getElem_toArray, List.getElem_cons_succ, List.getElem_cons_zero, List.setIfInBounds_toArray, List.set_cons_zero, List.set_cons_succ]
              refine wpAnyH_take (i := 13) (v := ?_) rfl (by kernel_rfl) (by kernel_rfl) (by kernel_rfl) (fun _ _ _ h => h) (Or.inl ⟨by rfl, ?_⟩) (by assumption) ?_
              rotate_left
              · intro wS hSw
                (try dsimp only at hSw)
                go_simp
                first | done | with_reducible rfl
              try simp only [Act.put, List.getElem_toArray, List.getElem_cons_succ, List.getElem_cons_zero, List.setIfInBounds_toArray, List.set_cons_zero, List.set_cons_succ]
              refine wpAnyH_done (by kernel_rfl) ?_ _
              (try go_wp2_with fail)
              go_meet
              exact ⟨gz, fo, fn, fc, ao, an, ac, ti, tn, tc, rfl, rfl, rfl, Lib.hid ⟨rN, HV.out, HTO.out⟩⟩
          · go_simp
            have hz0 := heap_new wn (blkO zB NS NS)
            have hbm := belNew wn (blkO zB NS NS)
            obtain ⟨wz, hwm⟩ : ∃ wz : World, wz = wn.alloc (blkO zB NS NS) := ⟨_, rfl⟩
            rw [← hwm] at hz0 hbm
            have rM : Below X.heap.size X wz := bel rN hbm
            obtain ⟨gz, hgz⟩ : ∃ gz, gz = wn.heap.size := ⟨_, rfl⟩
            have hgx : X.heap.size ≤ gz := by rw [hgz]; exact rN.size
            rw [← hgz] at hz0
            have HZ : Hid (BlkAt wz gz zB NS NS ∧ X.heap.size ≤ gz) := Lib.hid ⟨hz0, hgx⟩
            change K _ (wn.alloc (blkO zB NS NS))
            rw [← hwm, ← hgz]
            clear hwm hgz hz0 hbm hgx
            refine hK.out _ _ ?_ (fun _ => ?_)
            · exact rM
            try simp only [Act.put, List.getElem_toArray, List.getElem_cons_succ, List.getElem_cons_zero, List.setIfInBounds_toArray, List.set_cons_zero, List.set_cons_succ]
            have rN := rM
            refine wpAnyH_ready (rs := [4]) (by kernel_rfl) (by simp) ?_
            refine AllReadyH.cons rfl (fun K hK => ?_) AllReadyH.nil
            go_simp
            refine (HLA.out _).mono ?_; rintro z wm ⟨rfl, hbm⟩
            have rM : Below X.heap.size X wm := bel rN hbm
            have HZ := Lib.hid (And.intro (HZ.out.1.below hbm) HZ.out.2)
            clear hbm
            refine hK.out _ _ ?_ (fun _ => ?_)
            · exact rM
            try simp only [Act.put, List.getElem_toArray, List.getElem_cons_succ, List.getElem_cons_zero, List.setIfInBounds_toArray, List.set_cons_zero, List.set_cons_succ]
            have rN := rM
            refine wpAnyH_ready (rs := [5]) (by kernel_rfl) (by simp) ?_
            refine AllReadyH.cons rfl (fun K hK => ?_) AllReadyH.nil
            go_simp
            refine (HC.out _ rN).mono ?_; rintro z wm ⟨fo, fn, fc, ao, an, ac, ti, tn, tc, rfl, hfr, hat, hto, hbm⟩
            have rM : Below X.heap.size X wm := bel rN hbm
            have HZ := Lib.hid (And.intro (HZ.out.1.below hbm) HZ.out.2)
            have HR := Lib.hid (And.intro (own_le hfr rN.size) (And.intro (own_le hat rN.size) (own_le hto rN.size)))
            clear hbm hfr hat hto
            refine hK.out _ _ ?_ (fun _ => ?_)
            · exact rM
            try simp only [Act.put, List.getElem_toArray, List.getElem_cons_succ, List.getElem_cons_zero, List.setIfInBounds_toArray, List.set_cons_zero, List.set_cons_succ]
            have rN := rM
            refine wpAnyH_take (i := 6) (v := ?_) rfl (by kernel_rfl) (by kernel_rfl) (by kernel_rfl) (fun _ _ _ h => h) (Or.inl ⟨by rfl, ?_⟩) (by assumption) ?_
            rotate_left
            · intro wS hSw
              (try dsimp only at hSw)
              go_simp
              first | done | with_reducible rfl
            try simp only [Act.put, List.getElem_toArray, List.getElem_cons_succ, List.getElem_cons_zero, List.setIfInBounds_toArray, List.set_cons_zero, List.set_cons_succ]
            refine wpAnyH_take (i := 7) (v := ?_) rfl (by kernel_rfl) (by kernel_rfl) (by kernel_rfl) (fun _ _ _ h => h) (Or.inl ⟨by rfl, ?_⟩) (by assumption) ?_
            rotate_left
            · intro wS hSw
              (try dsimp only at hSw)
              go_simp
              first | done | with_reducible rfl
            try simp only [Act.put, List.getElem_toArray, List.getElem_cons_succ, List.getElem_cons_zero, List.setIfInBounds_toArray, List.set_cons_zero, List.set_cons_succ]
            refine wpAnyH_take (i := 8) (v := ?_) rfl (by kernel_rfl) (by kernel_rfl) (by kernel_rfl) (fun _ _ _ h => h) (Or.inl ⟨by rfl, ?_⟩) (by assumption) ?_
            rotate_left
            · intro wS hSw
              (try dsimp only at hSw)
              go_simp
              first | done | with_reducible rfl
            try simp only [Act.put, List.getElem_toArray, List.getElem_cons_succ, List.getElem_cons_zero, List.setIfInBounds_toArray, List.set_cons_zero, List.set_cons_succ]
            refine wpAnyH_take (i := 9) (v := ?_) rfl (by kernel_rfl) (by kernel_rfl) (by kernel_rfl) (fun _ _ _ h => h) (Or.inl ⟨by rfl, ?_⟩) (by assumption) ?_
            rotate_left
            · intro wS hSw
              (try dsimp only at hSw)
              go_simp
              first | done | with_reducible rfl
            try simp only [Act.put, List.getElem_toArray, List.getElem_cons_succ, List.getElem_cons_zero, List.setIfInBounds_toArray, List.set_cons_zero, List.set_cons_succ]
            refine wpAnyH_ready (rs := [11]) (by kernel_rfl) (by simp) ?_
            refine AllReadyH.cons rfl (fun K hK => ?_) AllReadyH.nil
            rw [if_pos (by kernel_rfl)]
            refine wpStBK (b := G) _ _ rfl rfl rfl HZ.out.1 zB_len HGL.out rfl rfl ?_; intro wq hxm hgm
            have rM : Below X.heap.size X wq := rN.grown hgm rN.size (fun k hk => by cases hk; exact HZ.out.2)
            have HV : Hid (VarO wq X.heap.size gz G (.slice fo fn fc) (.slice ao an ac)) := Lib.hid ⟨hxm, own_grownO HR.out.1 hgm (fun k hk e => own_neB HR.out.1 HZ.out.1 (by decide) (hk.trans e.symm)), own_grownO HR.out.2.1 hgm (fun k hk e => own_neB HR.out.2.1 HZ.out.1 (by decide) (hk.trans e.symm))⟩
            have HTO := Lib.hid (own_grownO HR.out.2.2 hgm (fun k hk e => own_neB HR.out.2.2 HZ.out.1 (by decide) (hk.trans e.symm)))
            clear hxm hgm
            refine hK.out _ _ ?_ (fun _ => ?_)
            · exact rM
            try simp only [Act.put, List.getElem_toArray, List.getElem_cons_succ, List.getElem_cons_zero]
            have rN := rM
            refine wpAnyH_take (i := 12) (v := ?_) rfl (by kernel_rfl) (by kernel_rfl) (by kernel_rfl) (fun _ _ _ h => h) (Or.inl ⟨by rfl, ?_⟩) (by assumption) ?_
            rotate_left
            · intro wS hSw
              (try dsimp only at hSw)
              go_simp
              first | done | with_reducible rfl
            try simp only [Act.put, List.getElem_toArray, List.getElem_cons_succ, List.getElem_cons_zero, List.setIfInBounds_toArray, List.set_cons_zero, List.set_cons_succ]
            refine wpAnyH_take (i := 13) (v := ?_) rfl (by kernel_rfl) (by kernel_rfl) (by kernel_rfl) (fun _ _ _ h => h) (Or.inl ⟨by rfl, ?_⟩) (by assumption) ?_
            rotate_left
            · intro wS hSw
              (try dsimp only at hSw)
              go_simp
              first | done | with_reducible rfl
            try simp only [Act.put, List.getElem_toArray, List.getElem_cons_succ, List.getElem_cons_zero, List.setIfInBounds_toArray, List.set_cons_zero, List.set_cons_succ]
            refine wpAnyH_done (by kernel_rfl) ?_ _
            (try go_wp2_with fail)
            go_meet
            exact ⟨gz, fo, fn, fc, ao, an, ac, ti, tn, tc, rfl, rfl, rfl, Lib.hid ⟨rN, HV.out, HTO.out⟩⟩
        case rest =>
          obtain ⟨gc, fo, fn, fc, ao, an, ac, ti, tn, tc, rfl, rfl, rfl, HC0⟩ := hcut
          obtain ⟨Y, rfl⟩ : ∃ Y, Y = wc := ⟨_, rfl⟩
          go_wp2_with (refine wpLdB rfl _ rfl rfl HC0.out.2.1.blk HGL.out ?_)
          refine (HRL.out _ fo fn fc ao an ac (.slice ti tn tc) HC0.out.2.1.free.sees (RowA.sees HC0.out.2.1.attrs) (RowG.sees (OwnsU.row HC0.out.2.2) (fun _ => rfl)).toU).mono ?_
          rintro e w5 ⟨ho, hn, hc, io, iq, ic, vi, vn, vc, rfl, hfr, hat, hto, hb5⟩
          have HX2 : Hid (BlkAt (w5.alloc (blkO zB NS NS)) w5.heap.size zB NS NS) := Lib.hid (heap_new w5 _)
          have HR := Lib.hid (And.intro hfr (And.intro hat hto))
          have HB5 := Lib.hid hb5
          clear hfr hat hto hb5
          go_upto_region 13 with ((change wpList _ _ _ _ _ (w5.alloc (blkO zB NS NS))); refine wpStB (b := D) rfl _ _ rfl rfl rfl HX2.out zB_len HDL.out rfl rfl ?_; intro w6 hx6 hg6)
          obtain ⟨hv6, hb6⟩ := varO_new HR.out.1 HR.out.2.1 hx6 hg6
          have HVD := Lib.hid hv6
          have HT1 : Hid (SeesU w6 (.slice vi vn vc) T) := Lib.hid (RowG.sees (OwnsU.row (own_keep HR.out.2.2 hb6)) (fun _ => rfl)).toU
          have hb56 := bel HB5.out hb6
          have HVG := Lib.hid (HC0.out.2.1.below hb56)
          have HTT : Hid (SeesU w6 (.slice ti tn tc) T) := Lib.hid ((RowG.sees (OwnsU.row HC0.out.2.2) (fun _ => rfl)).toU.later hb56)
          have HBX6 := Lib.hid (bel HC0.out.1 hb56)
          have HI6 := Lib.hid (HI.out.later HBX6.out)
          have HAX := Lib.hid ((HBX6.out.block _ (heap_lt HAT.out)).trans HAT.out)
          obtain ⟨gq, hgq⟩ : ∃ gq, gq = w5.heap.size := ⟨_, rfl⟩
          rw [← hgq] at HVD ⊢
          clear hx6 hg6 hv6 hb6 hb56 HX2 HR HB5 HC0 hgq HRL HC
          have HXW := Lib.hid (bel HB0.out HI6.out.below)
          clear HI HAT HBX6
          have HI := HI6
          clear HI6
          obtain ⟨X, rfl⟩ : ∃ X, X = w6 := ⟨_, rfl⟩
          have HOC : Hid (∀ x (Y : World), Below X.heap.size X Y → 0 ≤ x ∧ x < 4294967296 → Calls Try.prog 22 #[.agg (blkL c (.slice f1 f2 f3) (.slice a1 a2 a3)).toArray, .int .u32 x] Y fun e w' => e = .returned (.tuple #[atV (undP c x).1, .bool (undP c x).2]) ∧ Below Y.heap.size Y w') := Lib.hid (fun x Y hY hx => by
            have hIY := HI.out.later hY
            have h := of15_any c _ _ x Y hIY.both.free hIY.both.attrs HW4.out.1 hx.1 hx.2
            rw [HOFP.out.1 x] at h
            exact h)
          have HOD : Hid (∀ x (Y : World), Below X.heap.size X Y → 0 ≤ x ∧ x < 4294967296 → Calls Try.prog 22 #[.agg (blkL D (.slice ho hn hc) (.slice io iq ic)).toArray, .int .u32 x] Y fun e w' => e = .returned (.tuple #[atV (undP c x).1, .bool (undP c x).2]) ∧ Below Y.heap.size Y w') := Lib.hid (fun x Y hY hx => by
            have hv := HVD.out.below hY
            have h := of15_any D _ _ x Y hv.free.sees (RowA.sees hv.attrs) HW4.out.2.2 hx.1 hx.2
            rw [HOFP.out.2.2 x] at h
            exact h)
          have HOF : Hid (∀ x (Y : World), Below X.heap.size X Y → x ∈ T → Calls Try.prog 22 #[.agg (blkL c (.slice f1 f2 f3) (.slice a1 a2 a3)).toArray, .int .u32 x] Y fun e w' => e = .returned (.tuple #[atV (em, em), .bool false]) ∧ Below Y.heap.size Y w') := Lib.hid (fun x Y hY hx => by
            have h := HOC.out x Y hY (HTb.out.1 x hx)
            rw [(HU.out x hx).1] at h
            exact h)
          have HOG : Hid (∀ x (Y : World), Below X.heap.size X Y → x ∈ T → Calls Try.prog 22 #[.agg (blkL G (.slice fo fn fc) (.slice ao an ac)).toArray, .int .u32 x] Y fun e w' => e = .returned (.tuple #[atV a, .bool true]) ∧ Below Y.heap.size Y w') := Lib.hid (fun x Y hY hx => by
            have hv := HVG.out.below hY
            have h := of15_any G _ _ x Y hv.free.sees (RowA.sees hv.attrs) HW4.out.2.1 (HTb.out.1 x hx).1 (HTb.out.1 x hx).2
            rw [HOFP.out.2.1 x, (HU.out x hx).2] at h
            exact h)
          have HGB : Hid (∀ (Y : World), Below X.heap.size X Y → Calls Try.prog 25 #[.agg (blkL c (.slice f1 f2 f3) (.slice a1 a2 a3)).toArray] Y fun e w' => ∃ tv, e = .returned tv ∧ OwnsU w' Y.heap.size tv TB ∧ Below Y.heap.size Y w') := Lib.hid (fun Y hY => by
            have hIY := HI.out.later hY
            have h := given15_any c _ _ Y hIY.both.free hIY.both.attrs HW4.out.1 HDR.out.1
            rw [HDR.out.2.2.1] at h
            exact h)
          have HGD : Hid (∀ (Y : World), Below X.heap.size X Y → Calls Try.prog 25 #[.agg (blkL D (.slice ho hn hc) (.slice io iq ic)).toArray] Y fun e w' => ∃ tv, e = .returned tv ∧ OwnsU w' Y.heap.size tv TB ∧ Below Y.heap.size Y w') := Lib.hid (fun Y hY => by
            have hv := HVD.out.below hY
            have h := given15_any D _ _ Y hv.free.sees (RowA.sees hv.attrs) HW4.out.2.2 HDR.out.2.1
            rw [HDR.out.2.2.2] at h
            exact h)
          have HTN : Hid (tn = T.length) := Lib.hid (by
            obtain ⟨ao', c', e, -⟩ := HTT.out
            injection e)
          go_wp2_with fail
          refine (addrs_same HT1.out HTT.out (by have := HTb.out.2; unfold maxLen; omega)).mono ?_; rintro e w7 ⟨rfl, hb7⟩
          have HBX := Lib.hid hb7
          clear hb7 HT1
          go_wp2_with fail
          go_loopw [92] (fun i wr => ∃ j : Nat, j ≤ T.length ∧ i = .int .i64 j ∧ Hid (Below X.heap.size X wr)) (fun i _ => T.length - (intOf i).toNat)
          case atStart => exact ⟨0, Nat.zero_le _, rfl, HBX⟩
          case round =>
            obtain ⟨j, hj, rfl, HBw⟩ := hrel
            by_cases hlt : j < T.length
            · obtain ⟨ta, rfl⟩ : ∃ ta, ti = some ta := by
                obtain ⟨ao', c', e, -, hn, -⟩ := HTT.out
                injection e with e1 e2 e3
                subst e1
                cases ti with
                | none => have := hn rfl; rw [this] at hlt; simp at hlt
                | some ta => exact ⟨ta, rfl⟩
              obtain ⟨xx, hxx⟩ : ∃ xx, xx = T.getD j 0 := ⟨_, rfl⟩
              have q0 : wr.cell? (ta.add j) = some (.int .u32 xx) := by
                obtain ⟨ao', c', e, -, -, hc⟩ := HTT.out.later HBw.out
                injection e with e1 e2 e3
                rw [hxx]
                exact hc ta e1.symm j hlt
              have HXM : Hid (xx ∈ T) := Lib.hid (by rw [hxx, List.getD_eq_getElem?_getD, List.getElem?_eq_getElem hlt]; exact List.getElem_mem hlt)
              clear hxx
              have dl : decide ((j : Int) < (tn : Int)) = true := decide_eq_true (by rw [HTN.out]; omega)
              have dl' : decide (j < tn) = true := decide_eq_true (by rw [HTN.out]; exact hlt)
              have HLT := Lib.hid hlt
              have hjm : j < 9223372036854775807 := by have := HTb.out.2; first | omega | (unfold maxLen at this; omega)
              have hjn : j < tn := by rw [HTN.out]; exact hlt
              clear hlt
              go_upto_region 18 with fail
              go_wp2_with (refine wpLdB rfl _ rfl rfl (HI.out.later HBw.out).blk hlc ?_)
              refine (HOF.out xx _ HBw.out HXM.out).mono ?_; rintro e w3 ⟨rfl, hb3⟩
              have HB3 := Lib.hid (bel HBw.out hb3)
              clear hb3
              go_upto_region 19 with fail
              change Code.wp _ _ _ _ (w3.alloc (atO (em, em)))
              have HB4 := Lib.hid (bel HB3.out (belNew w3 (atO (em, em))))
              obtain ⟨w4, hw4⟩ : ∃ w4, w4 = w3.alloc (atO (em, em)) := ⟨_, rfl⟩
              rw [← hw4] at HB4 ⊢
              clear hw4 HB3
              go_wp2_with (refine wpLdB rfl _ rfl rfl (HVG.out.below HB4.out).blk HGL.out ?_)
              refine (HOG.out xx _ HB4.out HXM.out).mono ?_; rintro e w5 ⟨rfl, hb5⟩
              have HB5 := Lib.hid (bel HB4.out hb5)
              clear hb5 HB4
              go_upto_region 20 with fail
              change Code.wp _ _ _ _ (w5.alloc (atO a))
              have hy6 := heap_new w5 (atO a)
              have hb6 := belNew w5 (atO a)
              obtain ⟨Z, hZ⟩ : ∃ Z, Z = w5.alloc (atO a) := ⟨_, rfl⟩
              obtain ⟨g6, hg6⟩ : ∃ g6, g6 = w5.heap.size := ⟨_, rfl⟩
              rw [← hZ] at hy6 hb6 ⊢
              rw [← hg6] at hy6 ⊢
              have HBZ := Lib.hid (bel HB5.out hb6)
              have HYZ : Hid (Z.heap[g6]? = some (atO a)) := Lib.hid hy6
              have HAZ := Lib.hid ((HBZ.out.block _ (heap_lt HAX.out)).trans HAX.out)
              clear hZ hg6 hy6 hb6 HB5 q0
              refine wp_region_held_drew (S := (fun Y => Below Z.heap.size Z Y)) (by kernel_rfl) ?_ (fun rN => ?_)
              · exact ⟨rfl, rfl, rfl, Nat.le_refl _, fun _ _ => rfl⟩
              obtain ⟨wn, hwn⟩ : ∃ wn, wn = Z.drew := ⟨_, rfl⟩
              rw [← hwn] at rN ⊢
              clear hwn
              have rN : Below Z.heap.size Z wn := rN
              refine wpAnyH_take (i := 0) (v := ?_) rfl (by kernel_rfl) (by kernel_rfl) (by kernel_rfl) (fun _ _ _ h => h) (Or.inl ⟨by rfl, ?_⟩) (by assumption) ?_
              rotate_left
              · intro wS hSw
                (try dsimp only at hSw)
                go_simp
                first | done | with_reducible rfl
              try simp only [Act.put, List.getElem_toArray, List.getElem_cons_zero, List.setIfInBounds_toArray, List.set_cons_zero, List.set_cons_succ]
              refine wpAnyH_take (i := 1) (v := ?_) rfl (by kernel_rfl) (by kernel_rfl) (by kernel_rfl) (fun _ _ _ h => h) (Or.inl ⟨by rfl, ?_⟩) (by assumption) ?_
              rotate_left
              · intro wS hSw
                (try dsimp only at hSw)
                go_simp
                first | done | with_reducible rfl
              try simp only [Act.put, List.getElem_toArray, List.getElem_cons_succ, List.getElem_cons_zero, List.setIfInBounds_toArray, List.set_cons_zero, List.set_cons_succ]
              refine wpAnyH_take (i := 2) (v := ?_) rfl (by kernel_rfl) (by kernel_rfl) (by kernel_rfl) (fun _ _ _ h => h) (Or.inl ⟨by rfl, ?_⟩) (by assumption) ?_
              rotate_left
              · intro wS hSw
                (try dsimp only at hSw)
                go_simp
                first | done | with_reducible rfl
              try simp only [Act.put, List.getElem_toArray, List.getElem_cons_succ, List.getElem_cons_zero, List.setIfInBounds_toArray, List.set_cons_zero, List.set_cons_succ]
              refine wpAnyH_take (i := 3) (v := ?_) rfl (by kernel_rfl) (by kernel_rfl) (by kernel_rfl) (fun _ _ _ h => h) (Or.inl ⟨by rfl, ?_⟩) (by assumption) ?_
              rotate_left
              · intro wS hSw
                (try dsimp only at hSw)
                go_simp
                first | done | with_reducible rfl
              try simp only [Act.put, List.getElem_toArray, List.getElem_cons_succ, List.getElem_cons_zero, List.setIfInBounds_toArray, List.set_cons_zero, List.set_cons_succ]
              refine wpAnyH_take (i := 4) (v := ?_) rfl (by kernel_rfl) (by kernel_rfl) (by kernel_rfl) (fun _ _ _ h => h) (Or.inl ⟨by rfl, ?_⟩) (by assumption) ?_
              rotate_left
              · intro wS hSw
                (try dsimp only at hSw)
                go_simp
                first | done | with_reducible rfl
              try simp only [Act.put, List.getElem_toArray, List.getElem_cons_succ, List.getElem_cons_zero, List.setIfInBounds_toArray, List.set_cons_zero, List.set_cons_succ]
              refine wpAnyH_take (i := 5) (v := ?_) rfl (by kernel_rfl) (by kernel_rfl) (by kernel_rfl) (fun _ _ _ h => h) (Or.inl ⟨by rfl, ?_⟩) (by assumption) ?_
              rotate_left
              · intro wS hSw
                (try dsimp only at hSw)
                go_simp
                first | done | with_reducible rfl
              try simp only [Act.put, List.getElem_toArray, List.getElem_cons_succ, List.getElem_cons_zero, List.setIfInBounds_toArray, List.set_cons_zero, List.set_cons_succ]
              refine wpAnyH_take (i := 6) (v := ?_) rfl (by kernel_rfl) (by kernel_rfl) (by kernel_rfl) (fun _ _ _ h => h) (Or.inl ⟨by rfl, ?_⟩) (by assumption) ?_
              rotate_left
              · intro wS hSw
                (try dsimp only at hSw)
                obtain ⟨m0, m1⟩ := acells ((hSw.block _ (heap_lt HYZ.out)).trans HYZ.out)
                go_simp
                first | done | with_reducible rfl
              try simp only [Act.put, List.getElem_toArray, List.getElem_cons_succ, List.getElem_cons_zero, List.setIfInBounds_toArray, List.set_cons_zero, List.set_cons_succ]
              refine wpAnyH_take (i := 7) (v := ?_) rfl (by kernel_rfl) (by kernel_rfl) (by kernel_rfl) (fun _ _ _ h => h) (Or.inl ⟨by rfl, ?_⟩) (by assumption) ?_
              rotate_left
              · intro wS hSw
                (try dsimp only at hSw)
                obtain ⟨m0, m1⟩ := acells ((hSw.block _ (heap_lt HAZ.out)).trans HAZ.out)
                go_simp
                first | done | with_reducible rfl
              try simp only [Act.put, List.getElem_toArray, List.getElem_cons_succ, List.getElem_cons_zero, List.setIfInBounds_toArray, List.set_cons_zero, List.set_cons_succ]
              refine wpAnyH_ready (rs := [8]) (by kernel_rfl) (by simp) ?_
              refine AllReadyH.cons rfl (fun K hK => ?_) AllReadyH.nil
              go_simp
              refine (HLA.out _).mono ?_; rintro z wm ⟨rfl, hbm⟩
              have rM : Below Z.heap.size Z wm := bel rN hbm
              clear hbm
              refine hK.out _ _ ?_ (fun _ => ?_)
              · exact rM
              try simp only [Act.put, List.getElem_toArray, List.getElem_cons_succ, List.getElem_cons_zero, List.setIfInBounds_toArray, List.set_cons_zero, List.set_cons_succ]
              have rN := rM
              refine wpAnyH_take (i := 9) (v := ?_) rfl (by kernel_rfl) (by kernel_rfl) (by kernel_rfl) (fun _ _ _ h => h) (Or.inl ⟨by rfl, ?_⟩) (by assumption) ?_
              rotate_left
              · intro wS hSw
                (try dsimp only at hSw)
                have nq := neqA_self a
                go_simp
                first | done | with_reducible rfl
              try simp only [Act.put, List.getElem_toArray, List.getElem_cons_succ, List.getElem_cons_zero, List.setIfInBounds_toArray, List.set_cons_zero, List.set_cons_succ]
              refine wpAnyH_take (i := 10) (v := ?_) rfl (by kernel_rfl) (by kernel_rfl) (by kernel_rfl) (fun _ _ _ h => h) (Or.inl ⟨by rfl, ?_⟩) (by assumption) ?_
              rotate_left
              · intro wS hSw
                (try dsimp only at hSw)
                go_simp
                first | done | with_reducible rfl
              try simp only [Act.put, List.getElem_toArray, List.getElem_cons_succ, List.getElem_cons_zero, List.setIfInBounds_toArray, List.set_cons_zero, List.set_cons_succ]
              refine wpAnyH_done (by kernel_rfl) ?_ _
              (try go_wp2_with fail)
              go_roundw
              case rel => exact ⟨j + 1, by have := HLT.out; omega, by go_num, Lib.hid (bel HBZ.out rN)⟩
              case measure => simp [intOf]; have := HLT.out; omega
            · have dl : decide ((j : Int) < (tn : Int)) = false := decide_eq_false (by rw [HTN.out]; omega)
              have dl' : decide (j < tn) = false := decide_eq_false (by rw [HTN.out]; exact hlt)
              go_upto_region 23 with fail
              have HI2 := Lib.hid (HI.out.later HBw.out)
              have HVD2 := Lib.hid (HVD.out.below HBw.out)
              have HOC2 := Lib.hid (fun x (Y : World) (h : Below wr.heap.size wr Y) => HOC.out x Y (bel HBw.out h))
              have HOD2 := Lib.hid (fun x (Y : World) (h : Below wr.heap.size wr Y) => HOD.out x Y (bel HBw.out h))
              have HGB2 := Lib.hid (fun (Y : World) (h : Below wr.heap.size wr Y) => HGB.out Y (bel HBw.out h))
              have HGD2 := Lib.hid (fun (Y : World) (h : Below wr.heap.size wr Y) => HGD.out Y (bel HBw.out h))
              have HXW2 := Lib.hid (bel HXW.out HBw.out)
              clear HI HVD HOC HOD HGB HGD HXW HVG HOG HOF HTT HTN HBw HBX HAX dl dl' hlt
              have HI := HI2
              have HVD := HVD2
              have HOC := HOC2
              have HOD := HOD2
              have HGB := HGB2
              have HGD := HGD2
              have HXW := HXW2
              clear HI2 HVD2 HOC2 HOD2 HGB2 HGD2 HXW2
              obtain ⟨X, rfl⟩ : ∃ X, X = wr := ⟨_, rfl⟩
              refine wp_region_held_drew (S := (fun Y => Below X.heap.size X Y)) (by kernel_rfl) ?_ (fun rN => ?_)
              · exact ⟨rfl, rfl, rfl, Nat.le_refl _, fun _ _ => rfl⟩
              obtain ⟨wn, hwn⟩ : ∃ wn, wn = X.drew := ⟨_, rfl⟩
              rw [← hwn] at rN ⊢
              clear hwn
              have rN : Below X.heap.size X wn := rN
              refine wpAnyH_take (i := 0) (v := _) rfl (by kernel_rfl) (by kernel_rfl) (by kernel_rfl) (fun _ _ _ h => h) (ldBIf (by rfl) _ rfl rfl (fun W hW => (HVD.out.below hW).blk) HDL.out) (by assumption) ?_
              try simp only [Act.put, List.getElem_toArray, List.getElem_cons_zero, List.setIfInBounds_toArray, List.set_cons_zero, List.set_cons_succ]
              refine wpAnyH_take (i := 2) (v := _) rfl (by kernel_rfl) (by kernel_rfl) (by kernel_rfl) (fun _ _ _ h => h) (ldBIf (by rfl) _ rfl rfl (fun W hW => (HI.out.later hW).blk) hlc) (by assumption) ?_
              try simp only [Act.put, List.getElem_toArray, List.getElem_cons_succ, List.getElem_cons_zero, List.setIfInBounds_toArray, List.set_cons_zero, List.set_cons_succ]
              refine wpAnyH_ready (rs := [1]) (by kernel_rfl) (by simp) ?_
              refine AllReadyH.cons rfl (fun K hK => ?_) AllReadyH.nil
              go_simp
              refine (HGD.out _ rN).mono ?_; rintro z wm ⟨tv, rfl, hto, hbm⟩
              have rM : Below X.heap.size X wm := bel rN hbm
              obtain ⟨di, dn, dc, rfl⟩ := own_form hto
              have HTD := Lib.hid hto
              clear hbm hto
              refine hK.out _ _ ?_ (fun _ => ?_)
              · exact rM
              try simp only [Act.put, List.getElem_toArray, List.getElem_cons_succ, List.getElem_cons_zero, List.setIfInBounds_toArray, List.set_cons_zero, List.set_cons_succ]
              have rN := rM
              refine wpAnyH_ready (rs := [3]) (by kernel_rfl) (by simp) ?_
              refine AllReadyH.cons rfl (fun K hK => ?_) AllReadyH.nil
              go_simp
              refine (HGB.out _ rN).mono ?_; rintro z wm ⟨tv, rfl, hto, hbm⟩
              have rM : Below X.heap.size X wm := bel rN hbm
              obtain ⟨bi, bn, bc, rfl⟩ := own_form hto
              have HTD := Lib.hid (own_keep HTD.out hbm)
              have HTB := Lib.hid hto
              clear hbm hto
              refine hK.out _ _ ?_ (fun _ => ?_)
              · exact rM
              try simp only [Act.put, List.getElem_toArray, List.getElem_cons_succ, List.getElem_cons_zero, List.setIfInBounds_toArray, List.set_cons_zero, List.set_cons_succ]
              have rN := rM
              refine wpAnyH_ready (rs := [4]) (by kernel_rfl) (by simp) ?_
              refine AllReadyH.cons rfl (fun K hK => ?_) AllReadyH.nil
              go_simp
              refine (addrs_same (RowG.sees (OwnsU.row HTD.out) (fun _ => rfl)).toU (RowG.sees (OwnsU.row HTB.out) (fun _ => rfl)).toU HTBL.out).mono ?_; rintro z wm ⟨rfl, hbm⟩
              have rM : Below X.heap.size X wm := bel rN hbm
              clear hbm
              refine hK.out _ _ ?_ (fun _ => ?_)
              · exact rM
              try simp only [Act.put, List.getElem_toArray, List.getElem_cons_succ, List.getElem_cons_zero, List.setIfInBounds_toArray, List.set_cons_zero, List.set_cons_succ]
              have rN := rM
              refine wpAnyH_take (i := 5) (v := ?_) rfl (by kernel_rfl) (by kernel_rfl) (by kernel_rfl) (fun _ _ _ h => h) (Or.inl ⟨by rfl, ?_⟩) (by assumption) ?_
              rotate_left
              · intro wS hSw
                (try dsimp only at hSw)
                go_simp
                first | done | with_reducible rfl
              try simp only [Act.put, List.getElem_toArray, List.getElem_cons_succ, List.getElem_cons_zero, List.setIfInBounds_toArray, List.set_cons_zero, List.set_cons_succ]
              refine wpAnyH_done (by kernel_rfl) ?_ _
              go_upto_region 25 with fail
              go_wp2_with (refine wpLdB rfl _ rfl rfl (HI.out.later rN).blk hlc ?_)
              refine (HGB.out _ rN).mono ?_; rintro e w9 ⟨tv, rfl, hto, hb9⟩
              obtain ⟨bi, bn, bc, rfl⟩ := own_form hto
              have HTBs : Hid (SeesU w9 (.slice bi bn bc) TB) := Lib.hid (RowG.sees (OwnsU.row hto) (fun _ => rfl)).toU
              have HBN : Hid (bn = TB.length) := Lib.hid (by
                obtain ⟨ao', c', e, -⟩ := HTBs.out
                injection e)
              have HXX9 := Lib.hid (bel rN hb9)
              obtain ⟨Xo, hXo⟩ : ∃ Xo, Xo = X := ⟨_, rfl⟩
              have HI9 := Lib.hid (HI.out.later HXX9.out)
              have HVD9 := Lib.hid (HVD.out.below HXX9.out)
              have HOC9 := Lib.hid (fun x (Y : World) (h : Below w9.heap.size w9 Y) => HOC.out x Y (bel HXX9.out h))
              have HOD9 := Lib.hid (fun x (Y : World) (h : Below w9.heap.size w9 Y) => HOD.out x Y (bel HXX9.out h))
              have HXW9 := Lib.hid (bel HXW.out HXX9.out)
              clear HI HVD HOC HOD HXW hto hb9 HGB HGD rN rM HXX9 hXo
              have HI := HI9
              have HVD := HVD9
              have HOC := HOC9
              have HOD := HOD9
              have HXW := HXW9
              have HTB := HTBs
              clear HI9 HVD9 HOC9 HOD9 HXW9 HTBs
              obtain ⟨X, rfl⟩ : ∃ X, X = w9 := ⟨_, rfl⟩
              have HBX : Hid (Below X.heap.size X X) := Lib.hid (Below.refl _ _)
              go_wp2_with fail
              go_loopw [129] (fun i wr => ∃ j : Nat, j ≤ TB.length ∧ i = .int .i64 j ∧ Hid (Below X.heap.size X wr)) (fun i _ => TB.length - (intOf i).toNat)
              case atStart => exact ⟨0, Nat.zero_le _, rfl, HBX⟩
              case round =>
                obtain ⟨j, hj, rfl, HBw⟩ := hrel
                by_cases hlt : j < TB.length
                · obtain ⟨ta, rfl⟩ : ∃ ta, bi = some ta := by
                    obtain ⟨ao', c', e, -, hn, -⟩ := HTB.out
                    injection e with e1 e2 e3
                    subst e1
                    cases bi with
                    | none => have := hn rfl; rw [this] at hlt; simp at hlt
                    | some ta => exact ⟨ta, rfl⟩
                  obtain ⟨xx, hxx⟩ : ∃ xx, xx = TB.getD j 0 := ⟨_, rfl⟩
                  have q0 : wr.cell? (ta.add j) = some (.int .u32 xx) := by
                    obtain ⟨ao', c', e, -, -, hc⟩ := HTB.out.later HBw.out
                    injection e with e1 e2 e3
                    rw [hxx]
                    exact hc ta e1.symm j hlt
                  have HXM : Hid (xx ∈ TB) := Lib.hid (by rw [hxx, List.getD_eq_getElem?_getD, List.getElem?_eq_getElem hlt]; exact List.getElem_mem hlt)
                  clear hxx
                  have dl : decide ((j : Int) < (bn : Int)) = true := decide_eq_true (by rw [HBN.out]; omega)
                  have dl' : decide (j < bn) = true := decide_eq_true (by rw [HBN.out]; exact hlt)
                  have HLT := Lib.hid hlt
                  have hjm : j < 9223372036854775807 := by have := HTBL.out; first | omega | (unfold maxLen at this; omega)
                  have hjn : j < bn := by rw [HBN.out]; exact hlt
                  clear hlt
                  go_upto_region 28 with fail
                  go_wp2_with (refine wpLdB rfl _ rfl rfl (HI.out.later HBw.out).blk hlc ?_)
                  refine (HOC.out xx _ HBw.out (HTBB.out xx HXM.out)).mono ?_; rintro e w3 ⟨rfl, hb3⟩
                  have HB3 := Lib.hid (bel HBw.out hb3)
                  clear hb3
                  go_upto_region 29 with fail
                  change Code.wp _ _ _ _ (w3.alloc (atO (undP c xx).1))
                  have hy3 := heap_new w3 (atO (undP c xx).1)
                  have HB4 := Lib.hid (bel HB3.out (belNew w3 (atO (undP c xx).1)))
                  obtain ⟨w4, hw4⟩ : ∃ w4, w4 = w3.alloc (atO (undP c xx).1) := ⟨_, rfl⟩
                  obtain ⟨g4, hg4⟩ : ∃ g4, g4 = w3.heap.size := ⟨_, rfl⟩
                  rw [← hw4] at hy3 HB4 ⊢
                  rw [← hg4] at hy3 ⊢
                  have HY4 : Hid (w4.heap[g4]? = some (atO (undP c xx).1)) := Lib.hid hy3
                  clear hw4 hg4 hy3 HB3
                  go_wp2_with (refine wpLdB rfl _ rfl rfl (HVD.out.below HB4.out).blk HDL.out ?_)
                  refine (HOD.out xx _ HB4.out (HTBB.out xx HXM.out)).mono ?_; rintro e w5 ⟨rfl, hb5⟩
                  have HB5 := Lib.hid (bel HB4.out hb5)
                  have HY5 : Hid (w5.heap[g4]? = some (atO (undP c xx).1)) := Lib.hid ((hb5.block _ (heap_lt HY4.out)).trans HY4.out)
                  clear hb5 HY4 HB4
                  go_upto_region 30 with fail
                  change Code.wp _ _ _ _ (w5.alloc (atO (undP c xx).1))
                  have hy6 := heap_new w5 (atO (undP c xx).1)
                  have hb6 := belNew w5 (atO (undP c xx).1)
                  obtain ⟨w6, hw6⟩ : ∃ w6, w6 = w5.alloc (atO (undP c xx).1) := ⟨_, rfl⟩
                  obtain ⟨g6, hg6⟩ : ∃ g6, g6 = w5.heap.size := ⟨_, rfl⟩
                  rw [← hw6] at hy6 hb6 ⊢
                  rw [← hg6] at hy6 ⊢
                  have HB6 := Lib.hid (bel HB5.out hb6)
                  have hy4 := (hb6.block _ (heap_lt HY5.out)).trans HY5.out
                  generalize (undP c xx).1 = pp at *
                  obtain ⟨c0, c1⟩ := acells hy4
                  obtain ⟨e0, e1⟩ := acells hy6
                  have nq := neqA_self pp
                  clear hw6 hg6 hb6 hy4 hy6
                  go_wp2_with fail
                  go_roundw
                  case rel => exact ⟨j + 1, by have := HLT.out; omega, by go_num, HB6⟩
                  case measure => simp [intOf]; have := HLT.out; omega
                · have dl : decide ((j : Int) < (bn : Int)) = false := decide_eq_false (by rw [HBN.out]; omega)
                  have dl' : decide (j < bn) = false := decide_eq_false (by rw [HBN.out]; exact hlt)
                  go_wp2_with fail
                  refine (HAW.out _).mono ?_; rintro e wz ⟨rfl, hbz⟩
                  have HBZ := Lib.hid (bel (bel HXW.out HBw.out) hbz)
                  clear hbz
                  go_wp2_with fail
                  go_ret
                  exact ⟨rfl, HBZ.out⟩
end Go.Proofs.Ytgodmnpcedfdcaa
