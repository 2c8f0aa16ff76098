/- The walk of BlockTells. Made by g_bdy.py. -/
import Derived.Test.YtgodmnpcedfdcaaBdS
import Derived.Test.YtgodmnpcedfdcaaJDx
namespace Go.Proofs.Ytgodmnpcedfdcaa
open Go.RowKit Go.Maps
theorem neqA_eq (p : PA) (w : World) : (binOp .neq 45 (atV p) (atV p)).run Try.prog w = .ok (.bool false) w := by
  have h := neqA p p w
  rw [decide_eq_true (rfl : p = p)] at h
  exact h
theorem rangeI_has {n i : Nat} (h : i < n) : (i : Int) ∈ rangeI n := List.mem_map.2 ⟨i, List.mem_range.2 h, rfl⟩
theorem rangeI_mem {n : Nat} {x : Int} (h : x ∈ rangeI n) : ∃ i : Nat, i < n ∧ (i : Int) = x := by
  obtain ⟨i, hi, rfl⟩ := List.mem_map.1 h
  exact ⟨i, List.mem_range.1 hi, rfl⟩
theorem own_lenU {w : World} {B : Nat} {o : Option Addr} {n c : Nat} {xs : List Int} (h : RowU1 w B (.slice o n c) xs) : n = xs.length := by
  obtain ⟨ao, c', e⟩ := RowG.slice h
  injection e
/-- What is given, in the document's words. -/
theorem given_doc {b : BlkS} (h64 : b.addr % 64 = 0) : adrs b (takeZ b) = gvD b.addr b.sl b.attrs em em 64 := by
  rw [← gv_filter h64 (fun _ => true) em em (fun p => by rw [em_nil]; rfl) 64 (Nat.le_refl _)]
  refine (List.filter_eq_self.2 fun x hx => ?_).symm
  obtain ⟨i, hi, rfl⟩ := List.mem_map.1 hx
  unfold takeZ memZ at hi
  obtain ⟨n, hn, rfl⟩ := List.mem_map.1 hi
  obtain ⟨h1, h2⟩ := List.mem_filter.1 hn
  have h3 := List.mem_range.1 h1
  have h4 : (takeN b.sl 64).testBit n = true := h2
  rw [takeN_bit _ _ _ (Nat.le_refl _), Bool.and_eq_true, decide_eq_true_eq, decide_eq_true_eq] at h4
  unfold hitR
  rw [(und_ne h64 h3).2 h4.2]
  rfl
/-- Nothing is given just if all is free. -/
theorem empty_free {b : BlkS} (hw : BWf b) (hr : rightB b = true) : emptyS b = decide (b.free.length = 64) := by
  unfold emptyS
  rw [hr, Bool.true_and]
  obtain ⟨h1, h2, h3⟩ := right_free hr
  have h5 := ((right_iff b hw.2.1).1 hr).2.2.2.2.1
  have hz : zB.sl = List.replicate 64 0 := rfl
  have hl64 : (rangeI 64).length = 64 := by decide
  by_cases hs : b.sl = zB.sl
  · rw [decide_eq_true hs]
    refine (decide_eq_true ?_).symm
    have hm : ∀ x ∈ rangeI 64, x ∈ b.free := fun x hx => by
      obtain ⟨i, hi, rfl⟩ : ∃ i : Nat, i < 64 ∧ (i : Int) = x := rangeI_mem hx
      have h6 := (h5 i hi).2
      rw [hs, hz, if_pos (by rw [List.getD_eq_getElem?_getD, List.getElem?_replicate, if_pos hi]; rfl)] at h6
      exact cnt_pos.1 (by omega)
    have := nodup_sub (show (rangeI 64).Nodup by decide) hm
    omega
  · rw [decide_eq_false hs]
    refine (decide_eq_false (fun e => hs ?_)).symm
    have key : ∀ i, i < 64 → b.sl.getD i 0 = 0 := fun i hi => by
      by_cases h : b.sl.getD i 0 = 0
      · exact h
      · have h6 := (h5 i hi).2
        rw [if_neg h] at h6
        have hni : (i : Int) ∉ b.free := fun hm => by have := cnt_pos.2 hm; omega
        have hmem : (i : Int) ∈ rangeI 64 := rangeI_has hi
        have h7 := nodup_sub h2 (m := (rangeI 64).erase (i : Int)) (fun x hx => (List.mem_erase_of_ne (fun e => hni (by rw [← e]; exact hx))).2 (by
          obtain ⟨n, hn⟩ := Int.eq_ofNat_of_zero_le (h1 x hx).1
          rw [hn]
          exact rangeI_has (by have := (h1 x hx).2; omega)))
        rw [List.length_erase_of_mem hmem, hl64] at h7
        omega
    rw [hz]
    refine List.ext_getElem (by rw [hw.2.1]; rfl) (fun i hi hi2 => ?_)
    have h8 := key i (by rw [hw.2.1] at hi; exact hi)
    rw [List.getD_eq_getElem?_getD, List.getElem?_eq_getElem hi] at h8
    rw [List.getElem_replicate]
    exact h8
set_option maxRecDepth 100000 in
set_option maxHeartbeats 16000000 in
theorem law_tells (W0 : World) (x : Int) (lv : Value) (L : List StepS) (kk : Int) (hx : 0 ≤ x) (hx' : x < 4294967296) (hL : ArgSt W0 lv L) (hk0 : 0 ≤ kk) (hk1 : kk ≤ 255) :
    Calls Try.prog 5 #[.int .u32 x, lv, .int .u8 kk] W0 fun e w' => e = .returned (.bool true) ∧ Below W0.heap.size W0 w' := by
  obtain ⟨kn, rfl⟩ := Int.eq_ofNat_of_zero_le hk0
  obtain ⟨⟨lo, lc, rfl, j1, j2, j3⟩, j4, j5⟩ := hL
  have HA := Lib.hid (And.intro j2 (And.intro j3 j4))
  have HAW := Lib.hid (fun w => awake15_any w)
  have HXX := Lib.hid (And.intro hx hx')
  have hlm : L.length ≤ 9223372036854775807 := by unfold maxLen at j5; omega
  clear j1 j2 j3 j4 j5 hk0
  have HN := Lib.hid (newB_any x em W0 hx hx' (by decide) rfl)
  have HND := Lib.hid (fun w => newD_any x em w hx hx')
  clear hx hx'
  go_enter Try.func5, Try.ntmps5
  go_upto_region 1 with fail
  go_wp2_with fail
  refine HN.out.mono ?_; rintro e w1 ⟨fv, av, rfl, hret⟩
  obtain ⟨f1, f2, f3, rfl⟩ := own_form hret.free
  obtain ⟨a1, a2, a3, rfl⟩ := own_form hret.attrs
  have HX2 : Hid (BlkAt (w1.alloc (blkO zB NS NS)) w1.heap.size zB NS NS) := Lib.hid (heap_new w1 _)
  have HR := Lib.hid hret
  have hln : (newS x em).sl.length = 64 := rfl
  clear hret HN
  go_upto_region 2 with ((change wpList _ _ _ _ _ (w1.alloc (blkO zB NS NS))); refine wpStB (b := newS x em) rfl _ _ rfl rfl rfl HX2.out zB_len hln rfl rfl ?_; intro w2 hx2 hg2)
  have HB3 := Lib.hid (bel HR.out.below (var_new HR.out hx2 hg2).2)
  obtain ⟨gb, hgb⟩ : ∃ gb, gb = w1.heap.size := ⟨_, rfl⟩
  have HG := Lib.hid (Nat.le_trans HR.out.below.size (Nat.le_of_eq hgb.symm))
  have hvo := varO_new (B := W0.heap.size) HR.out.free HR.out.attrs hx2 hg2
  rw [← hgb] at hvo ⊢
  have HVO3 := Lib.hid hvo.1
  clear hx2 hg2 hgb HX2 HR hvo
  go_wp2_with fail
  refine (HND.out _).mono ?_; rintro e w4 ⟨v1, v2, rfl, k1, k2, hb4⟩
  obtain ⟨p1, p2, p3, rfl⟩ := own_form k1
  obtain ⟨q1, q2, q3, rfl⟩ := own_form k2
  have HB4 := Lib.hid (bel HB3.out hb4)
  have HVO4 := Lib.hid (HVO3.out.below hb4)
  have HK := Lib.hid (And.intro k1 k2)
  have HZ4 : Hid (DocAt (w4.alloc (docO 0 ⟨#[]⟩ NS NS NS)) w4.heap.size 0 ⟨#[]⟩ NS NS NS) := Lib.hid (heap_new w4 _)
  clear k1 k2 HB3 HVO3 hb4
  go_upto_region 3 with ((change wpList _ _ _ _ _ (w4.alloc (docO 0 ⟨#[]⟩ NS NS NS))); refine wpStD (y := x - x % 64) (s := em) rfl _ _ rfl rfl rfl HZ4.out rfl rfl rfl ?_; intro w5 hx5 hg5)
  have hb5 := docv_new hg5
  obtain ⟨X, hX⟩ : ∃ X, X = w5 := ⟨_, rfl⟩
  obtain ⟨gd, hgd⟩ : ∃ gd, gd = w4.heap.size := ⟨_, rfl⟩
  have hI : PlI W0 gb gd (newS x em) (.slice f1 f2 f3) (.slice a1 a2 a3) (.slice p1 p2 p3) (.slice q1 q2 q3) NS X := by
    rw [hgd, hX]
    have hv5 := HVO4.out.below hb5
    have hbo : Both w5 (newS x em) (.slice f1 f2 f3) (.slice a1 a2 a3) (.slice p1 p2 p3) (.slice q1 q2 q3) NS := new_both HXX.out (by decide) rfl hv5.free.sees (RowA.sees hv5.attrs) (RowG.le (own_keep (HK.out.1.row1) hb5) (Nat.zero_le _)) (RowG.le (own_keep (HK.out.2.row1) hb5) (Nat.zero_le _))
    have hsz : gb < w4.heap.size := heap_lt (show w4.heap[gb]? = some (.cells (blkL (newS x em) (.slice f1 f2 f3) (.slice a1 a2 a3)).toArray 32 (0, 0)) from HVO4.out.blk)
    refine ⟨hv5.blk, hx5, hbo, ?_, ?_, bel HB4.out hb5, HG.out, HB4.out.size, by omega⟩
    · exact ⟨fun _ => own_neB hv5.free hv5.blk (by decide), fun h => absurd rfl h, fun _ => own_neB (own_keep (HK.out.1.row1) hb5) hv5.blk (by decide), fun _ => own_neB (own_keep (HK.out.2.row1) hb5) hv5.blk (by decide), fun h => absurd rfl h⟩
    · exact ⟨fun _ => own_neD hv5.free hx5 (by decide), fun h => absurd rfl h, fun _ => own_neD (own_keep (HK.out.1.row1) hb5) hx5 (by decide), fun _ => own_neD (own_keep (HK.out.2.row1) hb5) hx5 (by decide), fun h => absurd rfl h⟩
  rw [← hX, ← hgd]
  clear hX hgd hx5 hg5 hb5 HK HZ4 HVO4 HB4 HG HND hln
  obtain ⟨c, r1, r2, r3, hI⟩ : ∃ c r1 r2 r3, PlI W0 gb gd c (.slice f1 f2 f3) (.slice a1 a2 a3) (.slice p1 p2 p3) (.slice q1 q2 q3) (.slice r1 r2 r3) X := ⟨newS x em, none, 0, 0, hI⟩
  have hlc := hI.both.wf.2.1
  have HI := Lib.hid hI
  clear hI
  go_wp2_with fail
  go_loopw [29] (fun i wr => ∃ (k : Nat) (c : BlkS) (f1 a1 p1 q1 r1 : Option Addr) (f2 f3 a2 a3 p2 p3 q2 q3 r2 r3 : Nat), k ≤ L.length ∧ i = .int .i64 k ∧ Hid (PlI W0 gb gd c (.slice f1 f2 f3) (.slice a1 a2 a3) (.slice p1 p2 p3) (.slice q1 q2 q3) (.slice r1 r2 r3) wr)) (fun i _ => L.length - (intOf i).toNat)
  case atStart => exact ⟨0, c, f1, a1, p1, q1, r1, f2, f3, a2, a3, p2, p3, q2, q3, r2, r3, Nat.zero_le _, rfl, HI⟩
  case round =>
    clear HI hlc
    obtain ⟨k, c, f1, a1, p1, q1, r1, f2, f3, a2, a3, p2, p3, q2, q3, r2, r3, hk, rfl, HI⟩ := hrel
    have hlc := HI.out.both.wf.2.1
    by_cases hlt : k < L.length
    · obtain ⟨la, rfl⟩ : ∃ la, lo = some la := by
        cases lo with
        | none => have := HA.out.1 rfl; rw [this] at hlt; simp at hlt
        | some la => exact ⟨la, rfl⟩
      obtain ⟨st, hst⟩ : ∃ st, st = L.getD k default := ⟨_, rfl⟩
      have hat := ((HA.out.2.1 la rfl k hlt).below HI.out.below)
      have hok := (HA.out.2.2 (L.getD k default) (by rw [List.getD_eq_getElem?_getD, List.getElem?_eq_getElem hlt]; exact List.getElem_mem hlt)).below HI.out.below
      rw [← hst] at hat hok
      clear hst
      obtain ⟨kk, nn, aa, lv, ll, ss⟩ := st
      obtain ⟨hk1, hk2, hk3, hk4, hk5⟩ := hok
      obtain ⟨l1, l2, l3, rfl⟩ : ∃ l1 l2 l3, lv = .slice l1 l2 l3 := by
        obtain ⟨ao, c', e, -⟩ := hk4
        exact ⟨_, _, _, e⟩
      obtain ⟨c0, c1, c2, c3, c4, c5⟩ := hat
      dsimp only at c0 c1 c2 c3 c4 c5 hk1 hk2 hk3 hk4 hk5
      have HOK := Lib.hid (And.intro (And.intro hk1 hk2) (And.intro hk3 (And.intro hk4 hk5)))
      have dl : decide ((k : Int) < (L.length : Int)) = true := decide_eq_true (by omega)
      have dl' : decide (k < L.length) = true := decide_eq_true hlt
      have o1 := ofsS (by decide) c1
      have o2 := ofsS (by decide) c2
      have o3 := ofsS (by decide) c3
      have o4 := ofsS (by decide) c4
      have o5 := ofsS (by decide) c5
      have HLT := Lib.hid hlt
      clear hk1 hk2 hk3 hk4 hk5
      have HZs : Hid (StAt (wr.alloc (stO 0 0 (em, em) NS em)) wr.heap.size 0 0 (em, em) NS em) := Lib.hid (heap_new wr _)
      go_upto_region 6 with ((change wpList _ _ _ _ _ (wr.alloc (stO 0 0 (em, em) NS em))); refine wpStS (k := kk) (n := nn) (a := aa) (lv := .slice l1 l2 l3) (s := ss) rfl _ _ rfl rfl rfl HZs.out rfl ?_; intro w4 hx4 hg4)
      have hb4 := docv_new hg4
      have HI4 := Lib.hid (HI.out.later hb4)
      have HS4 : Hid (StAt w4 wr.heap.size kk nn aa (.slice l1 l2 l3) ss) := Lib.hid hx4
      have HOK4 : Hid (SeesU w4 (.slice l1 l2 l3) ll) := Lib.hid (HOK.out.2.2.1.later hb4)
      clear HI HZs hx4 hg4 hb4 c0 c1 c2 c3 c4 c5 o1 o2 o3 o4 o5 dl dl'
      obtain ⟨gs, hgs⟩ : ∃ gs, gs = wr.heap.size := ⟨_, rfl⟩
      rw [← hgs] at HS4 ⊢
      clear hgs
      by_cases h12 : k < 12
      · have dg : decide ((k : Int) < (12 : Int)) = true := decide_eq_true (by omega)
        have dg' : decide (k < 12) = true := decide_eq_true h12
        clear hlt
        go_upto_region 7 with fail
        clear dg dg'
        go_wp2_with (first
          | (refine wpLdB rfl _ rfl rfl HI4.out.blk hlc ?_)
          | (refine wpLdD rfl _ rfl rfl HI4.out.doc ?_)
          | (refine wpLdS rfl _ rfl rfl HS4.out ?_))
        refine (do15_law c _ _ _ _ _ kk nn aa l1 l2 l3 ll ss w4 HI4.out.both HOK.out.1.1 HOK.out.1.2 HOK4.out HOK.out.2.2.2 HOK.out.2.1).mono ?_
        rintro e w5 ⟨C, gv, bv, u1, u2, u3, rfl, hbo, hb5, hap⟩
        obtain ⟨fo, ao, xo, yo, zo, fn, fc, an, ac, xn, xc, yn, yc, zn, zc, rfl, rfl, rfl, rfl, rfl⟩ := hbo.form
        have hlC := hbo.wf.2.1
        have hgb := heap_lt (show w4.heap[gb]? = some (.cells (blkL c (.slice f1 f2 f3) (.slice a1 a2 a3)).toArray 32 (0, 0)) from HI4.out.blk)
        have hgd := heap_lt (show w4.heap[gd]? = some (docO c.addr c.aff (.slice p1 p2 p3) (.slice q1 q2 q3) (.slice r1 r2 r3)) from HI4.out.doc)
        have HA1 := Lib.hid (hap gb hgb HI4.out.ap1)
        have HA2 := Lib.hid (hap gd hgd HI4.out.ap2)
        have HBO := Lib.hid hbo
        have HI5 := Lib.hid (HI4.out.later hb5)
        clear hap hbo hb5 hgb hgd HI4 HS4 HOK HOK4
        go_upto_region 8 with (first
          | (refine wpStB (b := C) rfl _ _ rfl rfl rfl HI5.out.blk hlc hlC rfl rfl ?_; intro w6 hx6 hg6; have HX6 := Lib.hid hx6; have HG6 := Lib.hid hg6; have HD7 := Lib.hid (doc_grownO HI5.out.doc hg6 (fun e => HI5.out.lo.2.2 (Option.some.inj e))); clear hx6 hg6)
          | (refine wpStD (y := C.addr) (s := C.aff) rfl _ _ rfl rfl rfl HD7.out rfl rfl rfl ?_; intro w7 hx7 hg7))
        have HI7 : Hid (PlI W0 gb gd C (.slice fo fn fc) (.slice ao an ac) (.slice xo xn xc) (.slice yo yn yc) (.slice zo zn zc) w7) := Lib.hid ⟨blk_grownO HX6.out hg7 (fun e => HI5.out.lo.2.2 (Option.some.inj e).symm), hx7, (HBO.out.grownA HA1.out HG6.out).grownA HA2.out hg7, HA1.out, HA2.out, (HI5.out.below.grown HG6.out HI5.out.below.size (fun k hk => by cases hk; exact HI5.out.lo.1)).grown hg7 (Nat.le_trans HI5.out.below.size HG6.out.size) (fun k hk => by cases hk; exact HI5.out.lo.2.1), HI5.out.lo⟩
        clear hx7 hg7 HX6 HG6 HD7 HBO HI5 HA1 HA2
        go_wp2_with fail
        go_roundw
        case rel => exact ⟨k + 1, C, fo, ao, xo, yo, zo, fn, fc, an, ac, xn, xc, yn, yc, zn, zc, by have := HLT.out; omega, by go_num, HI7⟩
        case measure => simp [intOf]; have := HLT.out; omega
      · have dg : decide ((k : Int) < (12 : Int)) = false := decide_eq_false (by omega)
        have dg' : decide (k < 12) = false := decide_eq_false h12
        go_wp2_with fail
        go_roundw
        case rel => exact ⟨k + 1, c, f1, a1, p1, q1, r1, f2, f3, a2, a3, p2, p3, q2, q3, r2, r3, by have := HLT.out; omega, by go_num, HI4⟩
        case measure => simp [intOf]; have := HLT.out; omega
    · have dl : decide ((k : Int) < (L.length : Int)) = false := decide_eq_false (by omega)
      have dl' : decide (k < L.length) = false := decide_eq_false hlt
      have hcw := HI.out.both.wf
      have hcr := HI.out.both.right
      have hbd := right_bd hcw hcr
      have HCW := Lib.hid (And.intro hcw hcr)
      have HSZ := Lib.hid hcw.2.2.2.2.2.2.2
      obtain ⟨xa, hxa⟩ : ∃ xa, xa = IntKind.u32.wrap (c.addr + (kn : Int)) := ⟨_, rfl⟩
      have hx2 : 0 ≤ xa ∧ xa < 4294967296 := by rw [hxa, IntKind.wrap_u32]; omega
      have hwk : IntKind.u32.wrap (kn : Int) = (kn : Int) := IntWalk.u32_in _ (by omega)
      have HOF : Hid (∀ Y, Below wr.heap.size wr Y → Calls Try.prog 22 #[.agg (blkL c (.slice f1 f2 f3) (.slice a1 a2 a3)).toArray, .int .u32 xa] Y fun e w' => e = .returned (.tuple #[atV (undP c xa).1, .bool (undP c xa).2]) ∧ Below Y.heap.size Y w') := Lib.hid (fun Y hY => by
        have hIY := HI.out.later hY
        have h := of15_any c _ _ xa Y hIY.both.free hIY.both.attrs hcw hx2.1 hx2.2
        unfold ofP at h
        rw [if_pos hcr] at h
        exact h)
      have HOD : Hid (∀ Y, Below wr.heap.size wr Y → Calls Try.prog 32 #[docV c.addr c.aff (.slice p1 p2 p3) (.slice q1 q2 q3) (.slice r1 r2 r3), .int .u32 xa] Y fun e w' => e = .returned (.tuple #[atV (undP c xa).1, .bool (undP c xa).2]) ∧ Below Y.heap.size Y w') := Lib.hid (fun Y hY => refOf_und c _ _ _ xa Y (HI.out.later hY).both.doc hcw.2.1 hbd.1 hbd.2.2.1 hbd.2.2.2 hx2.1 hx2.2)
      obtain ⟨TB, hTB⟩ : ∃ TB, TB = adrs c (takeZ c) := ⟨_, rfl⟩
      have HTL : Hid (TB.length ≤ maxLen) := Lib.hid (by
        rw [hTB, adrs_len]
        have h := List.length_filter_le (fun k => (takeN c.sl 64).testBit k) (List.range 64)
        rw [List.length_range] at h
        unfold takeZ memZ
        rw [List.length_map]
        unfold maxLen
        omega)
      have HGV : Hid (∀ Y, Sees Y (.slice f1 f2 f3) c.free → SeesA Y (.slice a1 a2 a3) c.attrs → Calls Try.prog 25 #[.agg (blkL c (.slice f1 f2 f3) (.slice a1 a2 a3)).toArray] Y fun e w' => ∃ tv, e = .returned tv ∧ OwnsU w' Y.heap.size tv TB ∧ Below Y.heap.size Y w') := Lib.hid (fun Y h1 h2 => by
        have h := given15_any c _ _ Y h1 h2 hcw hcr
        rw [← hTB] at h
        exact h)
      have HRG : Hid (∀ Y, DocSees Y c.sl c.free c.attrs (.slice p1 p2 p3) (.slice q1 q2 q3) (.slice r1 r2 r3) → Calls Try.prog 34 #[docV c.addr c.aff (.slice p1 p2 p3) (.slice q1 q2 q3) (.slice r1 r2 r3), .string em, .string em] Y fun e w' => ∃ v, e = .returned v ∧ RowU1 w' Y.heap.size v TB ∧ Below Y.heap.size Y w') := Lib.hid (fun Y hY => by
        have h := refGiven_any c.addr c.aff _ _ _ c.sl c.free c.attrs em em Y hY hcw.2.1 (Nat.le_trans hbd.2.2.1 (by decide)) hcw.1.1 (by have := hcw.1.2; omega) hbd.1 hbd.2.2.2
        rw [← given_doc hbd.1, ← hTB] at h
        exact h)
      have HRP : Hid (∀ p ∈ c.attrs, ∀ Y, DocSees Y c.sl c.free c.attrs (.slice p1 p2 p3) (.slice q1 q2 q3) (.slice r1 r2 r3) → Calls Try.prog 34 #[docV c.addr c.aff (.slice p1 p2 p3) (.slice q1 q2 q3) (.slice r1 r2 r3), .string p.1, .string p.2] Y fun e w' => ∃ v, e = .returned v ∧ RowU1 w' Y.heap.size v (gvD c.addr c.sl c.attrs p.1 p.2 64) ∧ Below Y.heap.size Y w') := Lib.hid (fun p _ Y hY => refGiven_any c.addr c.aff _ _ _ c.sl c.free c.attrs p.1 p.2 Y hY hcw.2.1 (Nat.le_trans hbd.2.2.1 (by decide)) hcw.1.1 (by have := hcw.1.2; omega) hbd.1 hbd.2.2.2)
      have HCG : Hid (∀ p ∈ c.attrs, (gvD c.addr c.sl c.attrs p.1 p.2 64).length = cntP c p 64) := Lib.hid (fun p hp => cnt_given ((right_loose hcw.2.1 hcr).2.2.2.1 p hp) 64)
      have HLA2 := Lib.hid (fun p w => lawAttr_any p w)
      have HR2 : Hid (r2 = c.attrs.length) := Lib.hid (by
        obtain ⟨ao', c', e, -⟩ := HI.out.both.doc.attrs
        injection e)
      have hq2 : q2 = c.free.length := by
        obtain ⟨ao', c', e, -⟩ := HI.out.both.doc.free
        injection e
      obtain ⟨E, hE⟩ : ∃ E, E = emptyS c := ⟨_, rfl⟩
      have HQ2 : Hid (((q2 : Int) == 64) = E) := Lib.hid (by
        rw [hE, empty_free hcw hcr, hq2]
        by_cases h : c.free.length = 64
        · rw [h]; rfl
        · rw [decide_eq_false h]; simp; omega)
      have HDE : Hid ((E != E) = false) := Lib.hid (by simp)
      have HEM : Hid (∀ Y, Sees Y (.slice f1 f2 f3) c.free → SeesA Y (.slice a1 a2 a3) c.attrs → Calls Try.prog 23 #[.agg (blkL c (.slice f1 f2 f3) (.slice a1 a2 a3)).toArray] Y fun e w' => e = .returned (.bool E) ∧ Below Y.heap.size Y w') := Lib.hid (fun Y h1 h2 => by
        have h := empty15_any c _ _ Y h1 h2 hcw
        rw [← hE] at h
        exact h)
      generalize undP c xa = U at HOF HOD
      obtain ⟨pu, bu⟩ := U
      have HLA := Lib.hid (fun w => lawAttr_any pu w)
      have HDN : Hid ((bu != bu) = false) := Lib.hid (by simp)
      obtain ⟨e0, e1, e2, e3, e4⟩ := HI.out.doc.cells
      have hadd := hxa.symm
      clear hcw hcr hbd hxa hx2 hTB hE hq2
      go_upto_region 10 with fail
      clear hadd hwk e0 e1 e2 e3 e4
      go_wp2_with (refine wpLdB rfl _ rfl rfl HI.out.blk hlc ?_)
      refine (HOF.out _ (Below.refl _ _)).mono ?_; rintro e w3 ⟨rfl, hb3⟩
      have HB3 := Lib.hid hb3
      clear hb3
      go_upto_region 11 with fail
      change Code.wp _ _ _ _ (w3.alloc (atO pu))
      have hy4 := heap_new w3 (atO pu)
      have hb4 := belNew w3 (atO pu)
      obtain ⟨w4, hw4⟩ : ∃ w4, w4 = w3.alloc (atO pu) := ⟨_, rfl⟩
      obtain ⟨g4, hg4⟩ : ∃ g4, g4 = w3.heap.size := ⟨_, rfl⟩
      rw [← hw4] at hy4 hb4 ⊢
      rw [← hg4] at hy4 ⊢
      have HB4 := Lib.hid (bel HB3.out hb4)
      have HY4 : Hid (w4.heap[g4]? = some (atO pu)) := Lib.hid hy4
      clear hw4 hg4 hy4 hb4 HB3
      go_wp2_with (refine wpLdD rfl _ rfl rfl (HI.out.later HB4.out).doc ?_)
      refine (HOD.out _ HB4.out).mono ?_; rintro e w5 ⟨rfl, hb5⟩
      have HB5 := Lib.hid (bel HB4.out hb5)
      have HY5 : Hid (w5.heap[g4]? = some (atO pu)) := Lib.hid ((hb5.block _ (heap_lt HY4.out)).trans HY4.out)
      clear hb5 HY4 HB4
      go_upto_region 12 with fail
      change Code.wp _ _ _ _ (w5.alloc (rtO pu))
      have hy6 := heap_new w5 (rtO pu)
      have hb6 := belNew w5 (rtO pu)
      obtain ⟨Z, hZ⟩ : ∃ Z, Z = w5.alloc (rtO pu) := ⟨_, rfl⟩
      obtain ⟨g6, hg6⟩ : ∃ g6, g6 = w5.heap.size := ⟨_, rfl⟩
      rw [← hZ] at hy6 hb6 ⊢
      rw [← hg6] at hy6 ⊢
      have HY2 : Hid (Z.heap[g6]? = some (rtO pu)) := Lib.hid hy6
      have HY1 : Hid (Z.heap[g4]? = some (atO pu)) := Lib.hid ((hb6.block _ (heap_lt HY5.out)).trans HY5.out)
      have HI6 := Lib.hid (HI.out.later (bel HB5.out hb6))
      clear hZ hg6 hy6 hb6 HY5 HB5 HOF HOD
      obtain ⟨HIo, hHIo⟩ : ∃ h, h = HI := ⟨_, rfl⟩
      clear hHIo
      have HI := HI6
      clear HI6
      refine wp_region_held_drew (S := (fun Y => Below Z.heap.size Z Y)) (by kernel_rfl) ?_ (fun rN => ?_)
      · exact ⟨rfl, rfl, rfl, Nat.le_refl _, fun _ _ => rfl⟩
      obtain ⟨wn, hwn⟩ : ∃ wn, wn = Z.drew := ⟨_, rfl⟩
      rw [← hwn] at rN ⊢
      clear hwn
      have rN : Below Z.heap.size Z wn := rN
      refine wpAnyH_take (i := 0) (v := ?_) rfl (by kernel_rfl) (by kernel_rfl) (by kernel_rfl) (fun _ _ _ h => h) (Or.inl ⟨by rfl, ?_⟩) (by assumption) ?_
      rotate_left
      · intro wS hSw
        (try dsimp only at hSw)
        go_simp
        first | done | with_reducible rfl
      try simp only [Act.put, List.getElem_toArray, List.getElem_cons_zero, List.setIfInBounds_toArray, List.set_cons_zero, List.set_cons_succ]
      refine wpAnyH_take (i := 1) (v := ?_) rfl (by kernel_rfl) (by kernel_rfl) (by kernel_rfl) (fun _ _ _ h => h) (Or.inl ⟨by rfl, ?_⟩) (by assumption) ?_
      rotate_left
      · intro wS hSw
        (try dsimp only at hSw)
        go_simp
        first | done | with_reducible rfl
      try simp only [Act.put, List.getElem_toArray, List.getElem_cons_succ, List.getElem_cons_zero, List.setIfInBounds_toArray, List.set_cons_zero, List.set_cons_succ]
      refine wpAnyH_take (i := 2) (v := ?_) rfl (by kernel_rfl) (by kernel_rfl) (by kernel_rfl) (fun _ _ _ h => h) (Or.inl ⟨by rfl, ?_⟩) (by assumption) ?_
      rotate_left
      · intro wS hSw
        (try dsimp only at hSw)
        have dn := HDN.out
        go_simp
        first | done | with_reducible rfl
      try simp only [Act.put, List.getElem_toArray, List.getElem_cons_succ, List.getElem_cons_zero, List.setIfInBounds_toArray, List.set_cons_zero, List.set_cons_succ]
      refine wpAnyH_take (i := 3) (v := ?_) rfl (by kernel_rfl) (by kernel_rfl) (by kernel_rfl) (fun _ _ _ h => h) (Or.inl ⟨by rfl, ?_⟩) (by assumption) ?_
      rotate_left
      · intro wS hSw
        (try dsimp only at hSw)
        go_simp
        first | done | with_reducible rfl
      try simp only [Act.put, List.getElem_toArray, List.getElem_cons_succ, List.getElem_cons_zero, List.setIfInBounds_toArray, List.set_cons_zero, List.set_cons_succ]
      refine wpAnyH_take (i := 4) (v := ?_) rfl (by kernel_rfl) (by kernel_rfl) (by kernel_rfl) (fun _ _ _ h => h) (Or.inl ⟨by rfl, ?_⟩) (by assumption) ?_
      rotate_left
      · intro wS hSw
        (try dsimp only at hSw)
        obtain ⟨m0, m1⟩ := acells ((hSw.block _ (heap_lt HY1.out)).trans HY1.out)
        go_simp
        first | done | with_reducible rfl
      try simp only [Act.put, List.getElem_toArray, List.getElem_cons_succ, List.getElem_cons_zero, List.setIfInBounds_toArray, List.set_cons_zero, List.set_cons_succ]
      refine wpAnyH_take (i := 5) (v := ?_) rfl (by kernel_rfl) (by kernel_rfl) (by kernel_rfl) (fun _ _ _ h => h) (Or.inl ⟨by rfl, ?_⟩) (by assumption) ?_
      rotate_left
      · intro wS hSw
        (try dsimp only at hSw)
        obtain ⟨m0, m1⟩ := acells ((hSw.block _ (heap_lt HY2.out)).trans HY2.out)
        go_simp
        first | done | with_reducible rfl
      try simp only [Act.put, List.getElem_toArray, List.getElem_cons_succ, List.getElem_cons_zero, List.setIfInBounds_toArray, List.set_cons_zero, List.set_cons_succ]
      refine wpAnyH_ready (rs := [6]) (by kernel_rfl) (by simp) ?_
      refine AllReadyH.cons rfl (fun K hK => ?_) AllReadyH.nil
      go_simp
      refine (HLA.out _).mono ?_; rintro z wm ⟨rfl, hbm⟩
      have rM : Below Z.heap.size Z wm := bel rN hbm
      clear hbm
      refine hK.out _ _ ?_ (fun _ => ?_)
      · exact rM
      try simp only [Act.put, List.getElem_toArray, List.getElem_cons_succ, List.getElem_cons_zero, List.setIfInBounds_toArray, List.set_cons_zero, List.set_cons_succ]
      have rN := rM
      refine wpAnyH_take (i := 7) (v := ?_) rfl (by kernel_rfl) (by kernel_rfl) (by kernel_rfl) (fun _ _ _ h => h) (Or.inl ⟨by rfl, ?_⟩) (by assumption) ?_
      rotate_left
      · intro wS hSw
        (try dsimp only at hSw)
        have nq := neqA_eq pu
        go_simp
        first | done | with_reducible rfl
      try simp only [Act.put, List.getElem_toArray, List.getElem_cons_succ, List.getElem_cons_zero, List.setIfInBounds_toArray, List.set_cons_zero, List.set_cons_succ]
      refine wpAnyH_take (i := 8) (v := ?_) rfl (by kernel_rfl) (by kernel_rfl) (by kernel_rfl) (fun _ _ _ h => h) (Or.inl ⟨by rfl, ?_⟩) (by assumption) ?_
      rotate_left
      · intro wS hSw
        (try dsimp only at hSw)
        go_simp
        first | done | with_reducible rfl
      try simp only [Act.put, List.getElem_toArray, List.getElem_cons_succ, List.getElem_cons_zero, List.setIfInBounds_toArray, List.set_cons_zero, List.set_cons_succ]
      refine wpAnyH_take (i := 9) (v := ?_) rfl (by kernel_rfl) (by kernel_rfl) (by kernel_rfl) (fun _ _ _ h => h) (Or.inl ⟨by rfl, ?_⟩) (by assumption) ?_
      rotate_left
      · intro wS hSw
        (try dsimp only at hSw)
        go_simp
        first | done | with_reducible rfl
      try simp only [Act.put, List.getElem_toArray, List.getElem_cons_succ, List.getElem_cons_zero, List.setIfInBounds_toArray, List.set_cons_zero, List.set_cons_succ]
      refine wpAnyH_take (i := 10) (v := _) rfl (by kernel_rfl) (by kernel_rfl) (by kernel_rfl) (fun _ _ _ h => h) (ldBIf (by rfl) _ rfl rfl (fun W hW => (HI.out.later hW).blk) hlc) (by assumption) ?_
      try simp only [Act.put, List.getElem_toArray, List.getElem_cons_succ, List.getElem_cons_zero, List.setIfInBounds_toArray, List.set_cons_zero, List.set_cons_succ]
      refine wpAnyH_take (i := 12) (v := _) rfl (by kernel_rfl) (by kernel_rfl) (by kernel_rfl) (fun _ _ _ h => h) (ldDIf (by rfl) _ rfl rfl (fun W hW => (HI.out.later hW).doc) ) (by assumption) ?_
      try simp only [Act.put, List.getElem_toArray, List.getElem_cons_succ, List.getElem_cons_zero, List.setIfInBounds_toArray, List.set_cons_zero, List.set_cons_succ]
      refine wpAnyH_ready (rs := [11]) (by kernel_rfl) (by simp) ?_
      refine AllReadyH.cons rfl (fun K hK => ?_) AllReadyH.nil
      go_simp
      refine (HGV.out _ (HI.out.later rN).both.free (HI.out.later rN).both.attrs).mono ?_; rintro z wm ⟨tv, rfl, hto, hbm⟩
      have rM : Below Z.heap.size Z wm := bel rN hbm
      obtain ⟨bi, bn, bc, rfl⟩ := own_form hto
      have HTB := Lib.hid hto
      clear hto
      clear hbm
      refine hK.out _ _ ?_ (fun _ => ?_)
      · exact rM
      try simp only [Act.put, List.getElem_toArray, List.getElem_cons_succ, List.getElem_cons_zero, List.setIfInBounds_toArray, List.set_cons_zero, List.set_cons_succ]
      have rN := rM
      refine wpAnyH_ready (rs := [13]) (by kernel_rfl) (by simp) ?_
      refine AllReadyH.cons rfl (fun K hK => ?_) AllReadyH.nil
      go_simp
      refine (HRG.out _ (HI.out.later rN).both.doc).mono ?_; rintro z wm ⟨tv, rfl, hto, hbm⟩
      have rM : Below Z.heap.size Z wm := bel rN hbm
      obtain ⟨di, dn, dc, rfl⟩ := own_form hto
      have HTD := Lib.hid hto
      have HTB := Lib.hid (own_keep HTB.out hbm)
      clear hto
      clear hbm
      refine hK.out _ _ ?_ (fun _ => ?_)
      · exact rM
      try simp only [Act.put, List.getElem_toArray, List.getElem_cons_succ, List.getElem_cons_zero, List.setIfInBounds_toArray, List.set_cons_zero, List.set_cons_succ]
      have rN := rM
      refine wpAnyH_ready (rs := [14]) (by kernel_rfl) (by simp) ?_
      refine AllReadyH.cons rfl (fun K hK => ?_) AllReadyH.nil
      go_simp
      refine (addrs_same (T := TB) (RowG.sees (OwnsU.row HTB.out) (fun _ => rfl)).toU (RowG.sees HTD.out (fun _ => rfl)).toU HTL.out).mono ?_; rintro z wm ⟨rfl, hbm⟩
      have rM : Below Z.heap.size Z wm := bel rN hbm
      clear hbm
      refine hK.out _ _ ?_ (fun _ => ?_)
      · exact rM
      try simp only [Act.put, List.getElem_toArray, List.getElem_cons_succ, List.getElem_cons_zero, List.setIfInBounds_toArray, List.set_cons_zero, List.set_cons_succ]
      have rN := rM
      refine wpAnyH_take (i := 15) (v := ?_) rfl (by kernel_rfl) (by kernel_rfl) (by kernel_rfl) (fun _ _ _ h => h) (Or.inl ⟨by rfl, ?_⟩) (by assumption) ?_
      rotate_left
      · intro wS hSw
        (try dsimp only at hSw)
        go_simp
        first | done | with_reducible rfl
      try simp only [Act.put, List.getElem_toArray, List.getElem_cons_succ, List.getElem_cons_zero, List.setIfInBounds_toArray, List.set_cons_zero, List.set_cons_succ]
      refine wpAnyH_take (i := 16) (v := ?_) rfl (by kernel_rfl) (by kernel_rfl) (by kernel_rfl) (fun _ _ _ h => h) (Or.inl ⟨by rfl, ?_⟩) (by assumption) ?_
      rotate_left
      · intro wS hSw
        (try dsimp only at hSw)
        go_simp
        first | done | with_reducible rfl
      try simp only [Act.put, List.getElem_toArray, List.getElem_cons_succ, List.getElem_cons_zero, List.setIfInBounds_toArray, List.set_cons_zero, List.set_cons_succ]
      refine wpAnyH_take (i := 17) (v := ?_) rfl (by kernel_rfl) (by kernel_rfl) (by kernel_rfl) (fun _ _ _ h => h) (Or.inl ⟨by rfl, ?_⟩) (by assumption) ?_
      rotate_left
      · intro wS hSw
        (try dsimp only at hSw)
        go_simp
        first | done | with_reducible rfl
      try simp only [Act.put, List.getElem_toArray, List.getElem_cons_succ, List.getElem_cons_zero, List.setIfInBounds_toArray, List.set_cons_zero, List.set_cons_succ]
      refine wpAnyH_take (i := 18) (v := _) rfl (by kernel_rfl) (by kernel_rfl) (by kernel_rfl) (fun _ _ _ h => h) (ldBIf (by rfl) _ rfl rfl (fun W hW => (HI.out.later hW).blk) hlc) (by assumption) ?_
      try simp only [Act.put, List.getElem_toArray, List.getElem_cons_succ, List.getElem_cons_zero, List.setIfInBounds_toArray, List.set_cons_zero, List.set_cons_succ]
      refine wpAnyH_take (i := 20) (v := ?_) rfl (by kernel_rfl) (by kernel_rfl) (by kernel_rfl) (fun _ _ _ h => h) (Or.inl ⟨by rfl, ?_⟩) (by assumption) ?_
      rotate_left
      · intro wS hSw
        (try dsimp only at hSw)
        go_simp
        first | done | with_reducible rfl
      try simp only [Act.put, List.getElem_toArray, List.getElem_cons_succ, List.getElem_cons_zero, List.setIfInBounds_toArray, List.set_cons_zero, List.set_cons_succ]
      refine wpAnyH_take (i := 21) (v := ?_) rfl (by kernel_rfl) (by kernel_rfl) (by kernel_rfl) (fun _ _ _ h => h) (Or.inl ⟨by rfl, ?_⟩) (by assumption) ?_
      rotate_left
      · intro wS hSw
        (try dsimp only at hSw)
        obtain ⟨e0, e1, e2, e3, e4⟩ := (HI.out.later hSw).doc.cells
        go_simp
        first | done | with_reducible rfl
      try simp only [Act.put, List.getElem_toArray, List.getElem_cons_succ, List.getElem_cons_zero, List.setIfInBounds_toArray, List.set_cons_zero, List.set_cons_succ]
      refine wpAnyH_take (i := 22) (v := ?_) rfl (by kernel_rfl) (by kernel_rfl) (by kernel_rfl) (fun _ _ _ h => h) (Or.inl ⟨by rfl, ?_⟩) (by assumption) ?_
      rotate_left
      · intro wS hSw
        (try dsimp only at hSw)
        go_simp
        first | done | with_reducible rfl
      try simp only [Act.put, List.getElem_toArray, List.getElem_cons_succ, List.getElem_cons_zero, List.setIfInBounds_toArray, List.set_cons_zero, List.set_cons_succ]
      refine wpAnyH_take (i := 23) (v := ?_) rfl (by kernel_rfl) (by kernel_rfl) (by kernel_rfl) (fun _ _ _ h => h) (Or.inl ⟨by rfl, ?_⟩) (by assumption) ?_
      rotate_left
      · intro wS hSw
        (try dsimp only at hSw)
        have hq := HQ2.out
        go_simp
        first | done | with_reducible rfl
      try simp only [Act.put, List.getElem_toArray, List.getElem_cons_succ, List.getElem_cons_zero, List.setIfInBounds_toArray, List.set_cons_zero, List.set_cons_succ]
      refine wpAnyH_ready (rs := [19]) (by kernel_rfl) (by simp) ?_
      refine AllReadyH.cons rfl (fun K hK => ?_) AllReadyH.nil
      go_simp
      refine (HEM.out _ (HI.out.later rN).both.free (HI.out.later rN).both.attrs).mono ?_; rintro z wm ⟨rfl, hbm⟩
      have rM : Below Z.heap.size Z wm := bel rN hbm
      clear hbm
      refine hK.out _ _ ?_ (fun _ => ?_)
      · exact rM
      try simp only [Act.put, List.getElem_toArray, List.getElem_cons_succ, List.getElem_cons_zero, List.setIfInBounds_toArray, List.set_cons_zero, List.set_cons_succ]
      have rN := rM
      refine wpAnyH_take (i := 24) (v := ?_) rfl (by kernel_rfl) (by kernel_rfl) (by kernel_rfl) (fun _ _ _ h => h) (Or.inl ⟨by rfl, ?_⟩) (by assumption) ?_
      rotate_left
      · intro wS hSw
        (try dsimp only at hSw)
        have de := HDE.out
        go_simp
        first | done | with_reducible rfl
      try simp only [Act.put, List.getElem_toArray, List.getElem_cons_succ, List.getElem_cons_zero, List.setIfInBounds_toArray, List.set_cons_zero, List.set_cons_succ]
      refine wpAnyH_take (i := 25) (v := ?_) rfl (by kernel_rfl) (by kernel_rfl) (by kernel_rfl) (fun _ _ _ h => h) (Or.inl ⟨by rfl, ?_⟩) (by assumption) ?_
      rotate_left
      · intro wS hSw
        (try dsimp only at hSw)
        go_simp
        first | done | with_reducible rfl
      try simp only [Act.put, List.getElem_toArray, List.getElem_cons_succ, List.getElem_cons_zero, List.setIfInBounds_toArray, List.set_cons_zero, List.set_cons_succ]
      refine wpAnyH_done (by kernel_rfl) ?_ _
      go_upto_region 14 with fail
      have HI14 := Lib.hid (HI.out.later rN)
      have hbw := HI14.out.below
      go_wp2_with (refine wpLdB rfl _ rfl rfl HI14.out.blk hlc ?_)
      refine (count15_any c _ _ _ HI14.out.both.free HI14.out.both.attrs HCW.out.1 HCW.out.2).mono ?_; rintro e w8 ⟨gm, fs, nm, rfl, hfs, hmp, hb8⟩
      have HFS := Lib.hid hfs
      have HMP := Lib.hid hmp
      have HI8 := Lib.hid (HI14.out.later hb8)
      have hfl : fs.length = r2 := by rw [hfs.length HCW.out.1.2.1 HCW.out.2 HSZ.out, HR2.out]
      have hnf : ((fs.length : Int) != (r2 : Int)) = false := by rw [hfl]; simp
      have hnf' : ((r2 : Int) != (r2 : Int)) = false := by simp
      obtain ⟨e0, e1, e2, e3, e4⟩ := HI8.out.doc.cells
      clear hfs hb8 hbw HI14
      obtain ⟨HIo, hHIo⟩ : ∃ h, h = HI := ⟨_, rfl⟩
      clear hHIo
      have HI := HI8
      clear HI8
      have HXW := Lib.hid HI.out.below
      have hown : w8.ownsMap Try.prog KAt Rv gm nm (datum fs) := hmp
      have hsz := size_datum fs
      have hl8 := hown.len Try.underlying54 3
      rw [hsz, hfl] at hl8
      go_upto_region 15 with fail
      go_upto_region 17 with fail
      obtain ⟨X, rfl⟩ : ∃ X, X = w8 := ⟨_, rfl⟩
      have HBX : Hid (Below X.heap.size X X) := Lib.hid (Below.refl _ _)
      clear hown hsz hmp hfl hnf hnf' hl8
      go_wp2_with fail
      go_loopw [99] (fun i wr => ∃ j : Nat, j ≤ c.attrs.length ∧ i = .int .i64 j ∧ Hid (Below X.heap.size X wr)) (fun i _ => c.attrs.length - (intOf i).toNat)
      case atStart => exact ⟨0, Nat.zero_le _, rfl, HBX⟩
      case round =>
        obtain ⟨j, hj, rfl, HBw⟩ := hrel
        by_cases hlt : j < c.attrs.length
        · obtain ⟨p, hp⟩ : ∃ p, c.attrs[j]? = some p := ⟨_, List.getElem?_eq_getElem hlt⟩
          have HPM : Hid (p ∈ c.attrs) := Lib.hid (List.mem_of_getElem? hp)
          obtain ⟨ra, rfl, -, hcell⟩ := (HI.out.later HBw.out).both.doc.attrs.at hp
          have q0 : wr.cell? (ra.add (j * 2)) = some (.string p.1) := hcell 0 _ rfl
          have q1 : wr.cell? ((ra.add (j * 2)).add 1) = some (.string p.2) := hcell 1 _ rfl
          have q2 := ofsA1 q1
          have dl : decide ((j : Int) < (r2 : Int)) = true := decide_eq_true (by rw [HR2.out]; omega)
          have dl' : decide (j < r2) = true := decide_eq_true (by rw [HR2.out]; exact hlt)
          have hjn : j < r2 := by rw [HR2.out]; exact hlt
          have HLT := Lib.hid hlt
          have hjm : j < 9223372036854775807 := by have := (right_bd HCW.out.1 HCW.out.2).2.2.1; omega
          clear hlt hp hcell
          go_upto_region 20 with fail
          change Code.wp _ _ _ _ (wr.alloc (rtO p))
          have hy6 := heap_new wr (rtO p)
          have hb6 := belNew wr (rtO p)
          obtain ⟨Z, hZ⟩ : ∃ Z, Z = wr.alloc (rtO p) := ⟨_, rfl⟩
          obtain ⟨g6, hg6⟩ : ∃ g6, g6 = wr.heap.size := ⟨_, rfl⟩
          rw [← hZ] at hy6 hb6 ⊢
          rw [← hg6] at hy6 ⊢
          have HBZ := Lib.hid (bel HBw.out hb6)
          have HYP : Hid (Z.heap[g6]? = some (rtO p)) := Lib.hid hy6
          have HIZ := Lib.hid (HI.out.later HBZ.out)
          have HMZ := Lib.hid (HMP.out.below HBZ.out)
          have HLK : Hid (∀ Y, Below Z.heap.size Z Y → (Instr.lookup TMp (.map (some gm)) (atV p) false).run Try.prog Y = .ok (.int .i64 (cntP c p 64)) Y) := Lib.hid (fun Y hY => by
            have h := (HMZ.out.below hY).look (HSZ.out p HPM.out).1 (HSZ.out p HPM.out).2
            rw [HFS.out.look HPM.out] at h
            exact h)
          obtain ⟨HIo, hHIo⟩ : ∃ h, h = HI := ⟨_, rfl⟩
          clear hHIo
          clear hZ hg6 hy6 hb6 q0 q1 q2 HMZ
          have HI := HIZ
          clear HIZ
          refine wp_region_held_drew (S := (fun Y => Below Z.heap.size Z Y)) (by kernel_rfl) ?_ (fun rN => ?_)
          · exact ⟨rfl, rfl, rfl, Nat.le_refl _, fun _ _ => rfl⟩
          obtain ⟨wn, hwn⟩ : ∃ wn, wn = Z.drew := ⟨_, rfl⟩
          rw [← hwn] at rN ⊢
          clear hwn
          have rN : Below Z.heap.size Z wn := rN
          refine wpAnyH_take (i := 0) (v := ?_) rfl (by kernel_rfl) (by kernel_rfl) (by kernel_rfl) (fun _ _ _ h => h) (Or.inl ⟨by rfl, ?_⟩) (by assumption) ?_
          rotate_left
          · intro wS hSw
            (try dsimp only at hSw)
            go_simp
            first | done | with_reducible rfl
          try simp only [Act.put, List.getElem_toArray, List.getElem_cons_zero, List.setIfInBounds_toArray, List.set_cons_zero, List.set_cons_succ]
          refine wpAnyH_take (i := 1) (v := ?_) rfl (by kernel_rfl) (by kernel_rfl) (by kernel_rfl) (fun _ _ _ h => h) (Or.inl ⟨by rfl, ?_⟩) (by assumption) ?_
          rotate_left
          · intro wS hSw
            (try dsimp only at hSw)
            obtain ⟨m0, m1⟩ := acells ((hSw.block _ (heap_lt HYP.out)).trans HYP.out)
            go_simp
            first | done | with_reducible rfl
          try simp only [Act.put, List.getElem_toArray, List.getElem_cons_succ, List.getElem_cons_zero, List.setIfInBounds_toArray, List.set_cons_zero, List.set_cons_succ]
          refine wpAnyH_take (i := 4) (v := _) rfl (by kernel_rfl) (by kernel_rfl) (by kernel_rfl) (fun _ _ _ h => h) (ldDIf (by rfl) _ rfl rfl (fun W hW => (HI.out.later hW).doc) ) (by assumption) ?_
          try simp only [Act.put, List.getElem_toArray, List.getElem_cons_succ, List.getElem_cons_zero, List.setIfInBounds_toArray, List.set_cons_zero, List.set_cons_succ]
          refine wpAnyH_take (i := 5) (v := ?_) rfl (by kernel_rfl) (by kernel_rfl) (by kernel_rfl) (fun _ _ _ h => h) (Or.inl ⟨by rfl, ?_⟩) (by assumption) ?_
          rotate_left
          · intro wS hSw
            (try dsimp only at hSw)
            go_simp
            first | done | with_reducible rfl
          try simp only [Act.put, List.getElem_toArray, List.getElem_cons_succ, List.getElem_cons_zero, List.setIfInBounds_toArray, List.set_cons_zero, List.set_cons_succ]
          refine wpAnyH_take (i := 6) (v := ?_) rfl (by kernel_rfl) (by kernel_rfl) (by kernel_rfl) (fun _ _ _ h => h) (Or.inl ⟨by rfl, ?_⟩) (by assumption) ?_
          rotate_left
          · intro wS hSw
            (try dsimp only at hSw)
            obtain ⟨m0, m1⟩ := acells ((hSw.block _ (heap_lt HYP.out)).trans HYP.out)
            go_simp
            first | done | with_reducible rfl
          try simp only [Act.put, List.getElem_toArray, List.getElem_cons_succ, List.getElem_cons_zero, List.setIfInBounds_toArray, List.set_cons_zero, List.set_cons_succ]
          refine wpAnyH_take (i := 7) (v := ?_) rfl (by kernel_rfl) (by kernel_rfl) (by kernel_rfl) (fun _ _ _ h => h) (Or.inl ⟨by rfl, ?_⟩) (by assumption) ?_
          rotate_left
          · intro wS hSw
            (try dsimp only at hSw)
            go_simp
            first | done | with_reducible rfl
          try simp only [Act.put, List.getElem_toArray, List.getElem_cons_succ, List.getElem_cons_zero, List.setIfInBounds_toArray, List.set_cons_zero, List.set_cons_succ]
          refine wpAnyH_take (i := 8) (v := ?_) rfl (by kernel_rfl) (by kernel_rfl) (by kernel_rfl) (fun _ _ _ h => h) (Or.inl ⟨by rfl, ?_⟩) (by assumption) ?_
          rotate_left
          · intro wS hSw
            (try dsimp only at hSw)
            obtain ⟨m0, m1⟩ := acells ((hSw.block _ (heap_lt HYP.out)).trans HYP.out)
            go_simp
            first | done | with_reducible rfl
          try simp only [Act.put, List.getElem_toArray, List.getElem_cons_succ, List.getElem_cons_zero, List.setIfInBounds_toArray, List.set_cons_zero, List.set_cons_succ]
          refine wpAnyH_ready (rs := [2]) (by kernel_rfl) (by simp) ?_
          refine AllReadyH.cons rfl (fun K hK => ?_) AllReadyH.nil
          go_simp
          refine (HLA2.out p _).mono ?_; rintro z wm ⟨rfl, hbm⟩
          have rM : Below Z.heap.size Z wm := bel rN hbm
          clear hbm
          refine hK.out _ _ ?_ (fun _ => ?_)
          · exact rM
          try simp only [Act.put, List.getElem_toArray, List.getElem_cons_succ, List.getElem_cons_zero, List.setIfInBounds_toArray, List.set_cons_zero, List.set_cons_succ]
          have rN := rM
          refine wpAnyH_take (i := 3) (v := ?_) rfl (by kernel_rfl) (by kernel_rfl) (by kernel_rfl) (fun _ _ _ h => h) (Or.inl ⟨by rfl, ?_⟩) (by assumption) ?_
          rotate_left
          · intro wS hSw
            (try dsimp only at hSw)
            have hlk := HLK.out _ hSw
            go_simp
            first | done | with_reducible rfl
          try simp only [Act.put, List.getElem_toArray, List.getElem_cons_succ, List.getElem_cons_zero, List.setIfInBounds_toArray, List.set_cons_zero, List.set_cons_succ]
          refine wpAnyH_ready (rs := [9]) (by kernel_rfl) (by simp) ?_
          refine AllReadyH.cons rfl (fun K hK => ?_) AllReadyH.nil
          go_simp
          refine (HRP.out p HPM.out _ (HI.out.later rN).both.doc).mono ?_; rintro z wm ⟨tv, rfl, hto, hbm⟩
          have rM : Below Z.heap.size Z wm := bel rN hbm
          obtain ⟨di, dn, dc, rfl⟩ := own_form hto
          have hdn : dn = cntP c p 64 := by
            have h2 := HCG.out p HPM.out
            rw [← h2]
            exact own_lenU hto
          have HDQ : Hid (((cntP c p 64 : Int) != (dn : Int)) = false) := Lib.hid (by rw [hdn]; simp)
          clear hto hdn
          clear hbm
          refine hK.out _ _ ?_ (fun _ => ?_)
          · exact rM
          try simp only [Act.put, List.getElem_toArray, List.getElem_cons_succ, List.getElem_cons_zero, List.setIfInBounds_toArray, List.set_cons_zero, List.set_cons_succ]
          have rN := rM
          refine wpAnyH_take (i := 10) (v := ?_) rfl (by kernel_rfl) (by kernel_rfl) (by kernel_rfl) (fun _ _ _ h => h) (Or.inl ⟨by rfl, ?_⟩) (by assumption) ?_
          rotate_left
          · intro wS hSw
            (try dsimp only at hSw)
            go_simp
            first | done | with_reducible rfl
          try simp only [Act.put, List.getElem_toArray, List.getElem_cons_succ, List.getElem_cons_zero, List.setIfInBounds_toArray, List.set_cons_zero, List.set_cons_succ]
          refine wpAnyH_take (i := 11) (v := ?_) rfl (by kernel_rfl) (by kernel_rfl) (by kernel_rfl) (fun _ _ _ h => h) (Or.inl ⟨by rfl, ?_⟩) (by assumption) ?_
          rotate_left
          · intro wS hSw
            (try dsimp only at hSw)
            have dq := HDQ.out
            go_simp
            first | done | with_reducible rfl
          try simp only [Act.put, List.getElem_toArray, List.getElem_cons_succ, List.getElem_cons_zero, List.setIfInBounds_toArray, List.set_cons_zero, List.set_cons_succ]
          refine wpAnyH_done (by kernel_rfl) ?_ _
          (try go_wp2_with fail)
          go_roundw
          case rel => exact ⟨j + 1, by have := HLT.out; omega, by go_num, Lib.hid (bel HBZ.out rN)⟩
          case measure => simp [intOf]; have := HLT.out; omega
        · have dl : decide ((j : Int) < (r2 : Int)) = false := decide_eq_false (by rw [HR2.out]; omega)
          have dl' : decide (j < r2) = false := decide_eq_false (by rw [HR2.out]; exact hlt)
          go_wp2_with fail
          refine (HAW.out _).mono ?_; rintro e wz ⟨rfl, hbz⟩
          have HBZ := Lib.hid (bel (bel HXW.out HBw.out) hbz)
          clear hbz
          go_wp2_with fail
          go_ret
          exact ⟨rfl, HBZ.out⟩
end Go.Proofs.Ytgodmnpcedfdcaa
