/- Joined: ImRef ImReadW. -/
import Derived.Test.YtiifbhiodegipaaGreatDoorBrR
import Derived.Test.YtiifbhiodegipaaGreatDoorJIr
namespace Go.Proofs.YtiifbhiodegipaaGreatDoor
section
open Go.RowKit Go.Maps
theorem own_neT {w : World} {B g n c k : Nat} {xs : List Value} {p : PA} (h : w.ownsRow B 5 1 (.slice (some ⟨g, 0, none⟩) n c) n xs) (hk : w.heap[k]? = some (rtO p)) : (Value.slice (some ⟨g, 0, none⟩) n c).ownBlock ≠ some k := fun e => by
  obtain rfl : g = k := Option.some.inj e
  obtain ⟨_, ⟨e1, _⟩ | ⟨g', cap, cur, e1, _, hg, _⟩⟩ := h
  · cases e1
  · cases e1
    rw [hk] at hg
    have h2 := Option.some.inj hg
    injection h2 with _ h3
    exact absurd h3 (by decide)
theorem imGrow (a : Addr) (xs P : List Int) (g1 c1 : Nat) (w1 : World) (h : Sees w1 (.slice (some a) xs.length xs.length) xs) (hP : ∀ j u, (cells8 P)[j]? = some u → w1.cell? ((⟨g1, 0, none⟩ : Addr).add j) = some u) (hl : xs.length ≤ 100000000) (hl0 : 0 < P.length) (hl8 : P.length ≤ 8) :
    ∃ (G : Nat) (C : Array Value), (∀ ty, (Builtin.append_ #[56, 56] ty #[.slice (some a) xs.length xs.length, .slice (some ⟨g1, 0, none⟩) P.length c1]).run Tryz.prog w1 = .ok (.slice (some ⟨w1.heap.size, 0, none⟩) (xs.length + P.length) G) (w1.drew.alloc (.cells C 5))) ∧ Owns (w1.drew.alloc (.cells C 5)) w1.heap.size (.slice (some ⟨w1.heap.size, 0, none⟩) (xs ++ P).length G) (xs ++ P) ∧ Below w1.heap.size w1 (w1.drew.alloc (.cells C 5)) := by
  obtain ⟨i0, hi, hz0, hz1, hz2⟩ := info_parts info8
  have hxs : ∀ j u, (cells8 xs)[j]? = some u → w1.cell? (a.add j) = some u := by
    obtain ⟨ao, c, e, -, -, hc⟩ := h
    obtain rfl : ao = some a := by cases e; rfl
    intro j u hj
    have hjl : j < xs.length := by
      have := (List.getElem?_eq_some_iff.1 hj).1
      simpa using this
    rw [getD_cells hjl] at hj
    rw [← hj]
    exact hc a rfl j hjl
  have hr : ∀ ty, (Builtin.append_ #[56, 56] ty #[.slice (some a) xs.length xs.length, .slice (some ⟨g1, 0, none⟩) P.length c1]).run Tryz.prog w1 = .ok (.slice (some ⟨w1.heap.size, 0, none⟩) (xs.length + P.length) (grownCap w1 (xs.length + P.length) xs.length 5)) (w1.drew.alloc (.cells ((cells8 xs).toArray ++ (cells8 P).toArray ++ Builtin.zeroCells (Value.int .u8 0).cells (grownCap w1 (xs.length + P.length) xs.length 5 - (xs.length + P.length))) 5)) := fun ty =>
    run_append_grow (P := Tryz.prog) w1 56 ty 5 i0 _ Tryz.underlying56 hi hz0 a xs.length xs.length (cells8 xs) (by rw [hz1]; simp) hxs ⟨g1, 0, none⟩ P.length c1 (cells8 P) (by rw [hz1]; simp) hP (by omega) (by omega) (by rw [hz2]; exact growslice_fits (by omega) (by omega))
  have hG := grownCap_ge w1 (xs.length + P.length) xs.length 5
  have hGm := grownCap_le_maxLen w1 (xs.length + P.length) xs.length 5 (by unfold maxLen; omega)
  generalize grownCap w1 (xs.length + P.length) xs.length 5 = G at hr hG hGm
  obtain ⟨C, hC⟩ : ∃ C, C = (cells8 xs).toArray ++ (cells8 P).toArray ++ Builtin.zeroCells (Value.int .u8 0).cells (G - (xs.length + P.length)) := ⟨_, rfl⟩
  rw [← hC] at hr
  refine ⟨G, C, hr, ?_, ?_⟩
  · refine ⟨by simp, Or.inr ⟨w1.heap.size, G, C, rfl, Nat.le_refl _, heap_new w1.drew _, by rw [List.length_append]; exact hG, hGm, ?_, ?_⟩⟩
    · rw [hC]
      have hz : (Value.int .u8 0).cells.size = 1 := rfl
      simp only [Builtin.zeroCells, Array.size_append, List.size_toArray, Array.size_map, Array.size_range, hz, List.length_map]
      omega
    · rw [hC]
      simp [List.take_append]
      rw [List.take_of_length_le (by simp)]
  · have h0 : Below w1.heap.size w1 w1.drew := ⟨rfl, rfl, rfl, Nat.le_refl _, fun _ _ => rfl⟩
    exact h0.alloc h0.size _
theorem cells8_app (a b : List Int) : cells8 (a ++ b) = cells8 a ++ cells8 b := List.map_append
set_option maxRecDepth 100000 in
set_option maxHeartbeats 16000000 in
theorem imRef_any (b : BlkS) (v1 v2 v3 : Value) (w : World) (h : DocSees w b.sl b.free b.attrs v1 v2 v3) (hw : BWf b) (hr : rightB b = true) :
    Calls Tryz.prog 84 #[docV b.addr b.aff v1 v2 v3] w fun e w' => e = .returned (.string (strOfNums (imB b))) ∧ Below w.heap.size w w' := by
  obtain ⟨i0, hi8, hz0, hz1, hz2⟩ := info_parts info8
  have kc := fun (w : World) (C : Array Value) (n c : Nat) => Lib.run_convert_bytes_const (P := Tryz.prog) w 56 5 C n c Tryz.underlying56 Tryz.underlying5
  have hl := hw.2.1
  have HM := Lib.hid (right_may hl hr)
  have HOK := Lib.hid (And.intro hw.2.2.1 hw.2.2.2.1)
  obtain ⟨-, hown, hal, hsl⟩ := right_bd hw hr
  obtain ⟨-, -, hfl⟩ := right_free hr
  have hasz := ownB_size hown
  have hH := imH_len hown
  obtain ⟨a1, c1, rfl⟩ := h.slots.slice
  obtain ⟨a2, c2, rfl⟩ := h.free.slice
  obtain ⟨a3, c3, rfl⟩ := h.attrs.slice
  obtain ⟨W, hW⟩ : ∃ W, W = w.alloc (docO b.addr b.aff (.slice a1 b.sl.length c1) (.slice a2 b.free.length c2) (.slice a3 b.attrs.length c3)) := ⟨_, rfl⟩
  have hb0 : Below w.heap.size w W := by rw [hW]; exact belNew _ _
  have hA : DocAt W w.heap.size b.addr b.aff (.slice a1 b.sl.length c1) (.slice a2 b.free.length c2) (.slice a3 b.attrs.length c3) := by rw [hW]; exact heap_new w _
  have HS := Lib.hid (h.below hb0)
  have HD := Lib.hid hA
  have HB := Lib.hid hb0
  have HW := Lib.hid hW
  have HPA := Lib.hid (fun w => refPut_any b.addr 4 w hw.1.1 (by have := hw.1; omega))
  have HTX := Lib.hid (fun (s : ByteArray) (w : World) (hs : s.size ≤ 64) => refText_any s w hs)
  have hwa : IntKind.u64.wrap b.addr = b.addr := by have := hw.1; rw [IntKind.wrap_u64]; omega
  have hwl : IntKind.u8.wrap (b.attrs.length : Int) = (b.attrs.length : Int) := by rw [IntKind.wrap_u8]; omega
  have hwf : IntKind.u8.wrap (b.free.length : Int) = (b.free.length : Int) := by rw [IntKind.wrap_u8]; omega
  have HFL := Lib.hid (attrs_len (right_may hl hr))
  have HAS := Lib.hid hasz
  have HL64 := Lib.hid hl
  have HHL := Lib.hid hH
  obtain ⟨P4, hP4⟩ : ∃ P4, P4 = putL b.addr 4 := ⟨_, rfl⟩
  have hl4 : P4.length = 4 := by rw [hP4, imPutL_ne (by decide) (by decide)]; rfl
  rw [← hP4] at HPA
  have HP4 := Lib.hid hP4
  have HL4 := Lib.hid hl4
  clear hW hb0 hA h hw hr hl hown hsl hasz hH hP4 hl4
  go_enter Tryz.func84, Tryz.ntmps84
  go_upto_region 1 with fail
  change Code.wp _ _ _ _ (w.alloc (docO b.addr b.aff (.slice a1 b.sl.length c1) (.slice a2 b.free.length c2) (.slice a3 b.attrs.length c3)))
  rw [← HW.out]
  clear HW
  obtain ⟨w1, hw1⟩ : ∃ w1, w1 = W.alloc (.cells #[.int .u8 66] 5 (1, 2)) := ⟨_, rfl⟩
  have hb1 : Below W.heap.size W w1 := by rw [hw1]; exact belNew _ _
  have HS1 : Hid (Sees w1 (.slice (some ⟨W.heap.size, 0, none⟩) [(66 : Int)].length [(66 : Int)].length) [66]) := Lib.hid (by rw [hw1]; exact imOne_sees W 66)
  have k0 : (W.alloc (.cells #[.int .u8 66] 5 (1, 2))).cell? ⟨w.heap.size, 0, none⟩ = some (.int .u32 b.addr) := by rw [← hw1]; exact (HD.out.below hb1).cells.1
  have HB1 := Lib.hid hb1
  have HW1 := Lib.hid hw1
  clear hb1 hw1
  go_wp2_with fail
  rw [← HW1.out]
  refine (HPA.out _).mono ?_; rintro e w2 ⟨p1, rfl, ho2, hb2⟩
  obtain ⟨g2, d2, rfl, -, -, -, hc2, -⟩ := ho2.at (by intro e; have := HL4.out; rw [e] at this; cases this)
  obtain ⟨G, C, hrun, hown, hbg⟩ := imGrow ⟨W.heap.size, 0, none⟩ [66] P4 g2 d2 w2 (HS1.out.keep hb2) (imCells_at hc2) (by simp) (by have := HL4.out; omega) (by have := HL4.out; omega)
  have HB2 := Lib.hid (bel HB1.out (bel hb2 hbg))
  have HZ2 := Lib.hid (Nat.le_trans HB1.out.size hb2.size)
  obtain ⟨w3, hw3⟩ : ∃ w3, w3 = w2.drew.alloc (.cells C 5) := ⟨_, rfl⟩
  rw [← hw3] at hrun hown hbg HB2
  have HOW := Lib.hid hown
  have HRUN := Lib.hid hrun
  clear hw3 hown hbg hb2 ho2 hc2 HS1 HB1 HW1 k0 hrun
  go_upto_region 2 with (at_builtin; refine Lib.wpList_append_run _ rfl _ _ _ _ rfl _ _ rfl rfl _ _ (HRUN.out _) ?_)
  obtain ⟨X3, hX3⟩ : ∃ X3, X3 = [66] ++ P4 := ⟨_, rfl⟩
  have HX3 := Lib.hid hX3
  have HO3 : Hid (Owns w3 W.heap.size (.slice (some ⟨w2.heap.size, 0, none⟩) X3.length G) X3) := Lib.hid (by rw [hX3]; exact HOW.out.le HZ2.out)
  have hl3 : 1 + P4.length = X3.length := by rw [hX3, List.length_append]; rfl
  rw [hl3]
  have HL3 : Hid (X3.length ≤ 5) := Lib.hid (by rw [← hl3, HL4.out]; omega)
  have HL3n : Hid (X3 ≠ []) := Lib.hid (by rw [hX3]; simp)
  have HB3 := Lib.hid HB2.out
  obtain ⟨g3, hg3⟩ : ∃ g3, g3 = w2.heap.size := ⟨_, rfl⟩
  rw [← hg3] at HO3 ⊢
  obtain ⟨k0, k1, k2, k3, k4⟩ := (HD.out.below HB3.out).cells
  clear hX3 hl3 hg3 HOW HRUN HB2 HZ2
  go_wp2_with fail
  refine (HTX.out b.aff _ HAS.out).mono ?_; rintro e wt ⟨tv, rfl, hot, hbt⟩
  obtain ⟨gt, dt, rfl, -, -, -, hct, -⟩ := hot.at (by unfold textL; simp)
  have HCT := Lib.hid (imCells_at hct)
  have HOT := Lib.hid (HO3.out.keep hbt)
  have HBT := Lib.hid (HB3.out.trans (hbt.mono HB3.out.size))
  obtain ⟨k0, k1, k2, k3, k4⟩ := (HD.out.below HBT.out).cells
  obtain ⟨T, hT⟩ : ∃ T, T = textL b.aff := ⟨_, rfl⟩
  rw [← hT] at HCT ⊢
  have HTT := Lib.hid hT
  have hlt65 : T.length ≤ 65 := by rw [hT, textL_len]; have := HAS.out; omega
  have hlx := HL3.out
  clear hot hbt hct hT
  go_upto_region 3 with (at_builtin; refine wpList_append_own _ rfl _ _ 56 rfl W.heap.size 5 i0 (.int .u8 0) 1 1 Tryz.underlying56 hi8 hz0 hz1 hz2 rfl (by decide) _ _ _ rfl HOT.out ⟨gt, 0, none⟩ T.length dt (cells8 T) rfl (by simp) HCT.out (imCells_one T) (by unfold maxLen; omega) (by omega) HBT.out.size ?_; intro vN w4 hoN hgN hnN)
  obtain ⟨X4, hX4⟩ : ∃ X, X = X3 ++ T := ⟨_, rfl⟩
  have hoN2 : Owns w4 W.heap.size vN X4 := by rw [hX4]; unfold Owns; rw [List.length_append, cells8_app]; exact hoN
  have HX4 : Hid (X4 = X3 ++ textL b.aff) := Lib.hid (by rw [hX4, HTT.out])
  have HLX4 : Hid (X4.length = X3.length + T.length) := Lib.hid (by rw [hX4, List.length_append])
  obtain ⟨g4, e4, rfl, -⟩ := hoN2.at (by rw [hX4]; intro e; have h9 := (List.append_eq_nil_iff.1 e).2; rw [HTT.out] at h9; unfold textL at h9; cases h9)
  have HOX4 := Lib.hid hoN2
  have HBX4 : Hid (Below W.heap.size W w4) := Lib.hid (HBT.out.grown hgN HBT.out.size (fun k hk => (HOT.out.lt k hk).1))
  clear k0 k1 k2 k3 k4
  obtain ⟨k0, k1, k2, k3, k4⟩ := (HD.out.below HBX4.out).cells
  clear hoN hoN2 hgN hnN hX4 HCT HOT HBT hlx
  have HLA4 : Hid (X4.length ≤ 70) := Lib.hid (by have h1 := HLX4.out; have h2 := HL3.out; have h3 := hlt65; omega)
  have hlp := HLA4.out
  go_upto_region 4 with (at_builtin; refine wpList_push1 (w0 := w4) Tryz.underlying56 info8 rfl (by decide) rfl (.tmp 22) (.tmp 27) rfl W.heap.size _ X4.length (cells8 X4) (.int .u8 (b.attrs.length : Int)) w4.heap.size rfl rfl rfl HOX4.out (by omega) HBX4.out.size rfl ?_; intro vN w5 hoN hbN _)
  obtain ⟨X5, hX5⟩ : ∃ X, X = X4 ++ [(b.attrs.length : Int)] := ⟨_, rfl⟩
  have hoN2 : Owns w5 W.heap.size vN X5 := by rw [hX5]; unfold Owns; rw [List.length_append, cells8_app]; exact hoN
  have HX5 : Hid (X5 = X4 ++ [(b.attrs.length : Int)]) := Lib.hid hX5
  have HLX5 : Hid (X5.length = X4.length + 1) := Lib.hid (by rw [hX5, List.length_append]; rfl)
  obtain ⟨g5, e5, rfl, -⟩ := hoN2.at (by intro e; have := HLX5.out; rw [e] at this; simp at this)
  have HOX5 := Lib.hid hoN2
  have HBX5 : Hid (Below W.heap.size W w5) := Lib.hid (HBX4.out.trans hbN)
  clear hoN hoN2 hbN hX5 hlp
  clear k0 k1 k2 k3 k4
  obtain ⟨k0, k1, k2, k3, k4⟩ := (HD.out.below HBX5.out).cells
  have hX5 : X5 = imH b := by rw [HX5.out, HX4.out, HX3.out, HP4.out]; rfl
  have HX5E := Lib.hid hX5
  have HLH : Hid (X5.length ≤ 71) := Lib.hid (by have h1 := HLX5.out; have h2 := HLA4.out; omega)
  clear hX5 hlt65 HTT HX5 HX4 HX3 HLX5 HLX4 HLA4 HL3 HOX4 HBX4 HO3 HB3
  go_wp2_with fail
  clear k0 k1 k2 k3 k4
  go_loopw [3, 32] (fun u j wr => ∃ i : Nat, i ≤ b.attrs.length ∧ j = .int .i64 i ∧ Hid (ImS W wr u (X5 ++ (b.attrs.take i).flatMap attrL))) (fun _ j _ => b.attrs.length - (intOf j).toNat)
  case atStart => exact ⟨0, Nat.zero_le _, rfl, Lib.hid ⟨⟨g5, e5, by simp⟩, by simpa using HOX5.out, HBX5.out⟩⟩
  case round =>
    clear HOX5 HBX5
    obtain ⟨i, hi, rfl, HI⟩ := hrel
    obtain ⟨wo, rfl⟩ : ∃ wo, wo = wr := ⟨_, rfl⟩
    by_cases hlt : i < b.attrs.length
    · have hp : b.attrs[i]? = some (b.attrs[i]'hlt) := List.getElem?_eq_getElem hlt
      have hmay := HM.out (b.attrs[i]'hlt) (List.getElem_mem hlt)
      have HSN := Lib.hid (flat_snoc hp)
      generalize b.attrs[i]'hlt = p at hp hmay HSN
      obtain ⟨⟨-, s1⟩, -, s2⟩ := attrL_bd hmay
      obtain ⟨gu, cu, rfl, ho, hbw⟩ := HI.out.at
      obtain ⟨a, rfl, -, hx⟩ := (HS.out.attrs.below hbw).at hp
      have q0 : wo.cell? (a.add (i * 2)) = some (.string p.1) := hx 0 _ rfl
      have q1 : wo.cell? { block := (a.add (i * 2)).block, off := (a.add (i * 2)).off + 1 } = some (.string p.2) := hx 1 _ rfl
      have b0 : (0 : Int) ≤ (i : Int) := by omega
      have b1 : (i : Int) < (b.attrs.length : Int) := by omega
      have dd : decide ((i : Int) < (b.attrs.length : Int)) = true := by simp; omega
      have HLT := Lib.hid hlt
      obtain ⟨XS, hXS⟩ : ∃ XS, XS = X5 ++ (b.attrs.take i).flatMap attrL := ⟨_, rfl⟩
      have HLS : Hid (XS.length ≤ 9000) := Lib.hid (by
        have h1 := attrs_len (L := b.attrs.take i) (fun p hp => HM.out p (List.mem_of_mem_take hp))
        have h2 := HLH.out
        rw [hXS, List.length_append]
        rw [List.length_take] at h1
        omega)
      rw [← hXS] at ho ⊢
      have HXS := Lib.hid hXS
      have hbx := belNew wo (rtO p)
      have hx1 := heap_new wo (rtO p)
      have HOS := Lib.hid (ho.keep hbx)
      have HBS := Lib.hid (bel hbw hbx)
      clear hXS ho hbw hx hp hmay HI hlt
      go_upto_region 7 with fail
      clear q0 q1
      change Code.wp _ _ _ _ (wo.alloc (rtO p))
      obtain ⟨gv, hgv⟩ : ∃ gv, gv = wo.heap.size := ⟨_, rfl⟩
      rw [← hgv] at hx1 ⊢
      generalize wo.alloc (rtO p) = wx at hx1 HOS HBS ⊢
      have HX1 := Lib.hid hx1
      obtain ⟨x0, x1⟩ := cells2 hx1
      clear hgv hbx hx1
      go_wp2_with fail
      refine (HTX.out p.1 _ s1).mono ?_; rintro e wt ⟨tv, rfl, hot, hbt⟩
      obtain ⟨gt, dt, rfl, -, -, -, hct, -⟩ := hot.at (by unfold textL; simp)
      have HCT := Lib.hid (imCells_at hct)
      have HOT := Lib.hid (HOS.out.keep hbt)
      have HBT := Lib.hid (HBS.out.trans (hbt.mono HBS.out.size))
      have HX2 := Lib.hid ((hbt.block _ (heap_lt HX1.out)).trans HX1.out)
      clear x0 x1
      obtain ⟨T, hT⟩ : ∃ T, T = textL p.1 := ⟨_, rfl⟩
      rw [← hT] at HCT ⊢
      have HTT := Lib.hid hT
      have hlt65 : T.length ≤ 65 := by rw [hT, textL_len]; have := s1; omega
      have hlx := HLS.out
      clear hot hbt hct hT
      go_upto_region 8 with (at_builtin; refine wpList_append_own _ rfl _ _ 56 rfl W.heap.size 5 i0 (.int .u8 0) 1 1 Tryz.underlying56 hi8 hz0 hz1 hz2 rfl (by decide) _ _ _ rfl HOT.out ⟨gt, 0, none⟩ T.length dt (cells8 T) rfl (by simp) HCT.out (imCells_one T) (by unfold maxLen; omega) (by omega) HBT.out.size ?_; intro vN w6 hoN hgN hnN)
      obtain ⟨X6, hX6⟩ : ∃ X, X = XS ++ T := ⟨_, rfl⟩
      have hoN2 : Owns w6 W.heap.size vN X6 := by rw [hX6]; unfold Owns; rw [List.length_append, cells8_app]; exact hoN
      have HX6 : Hid (X6 = XS ++ textL p.1) := Lib.hid (by rw [hX6, HTT.out])
      have HLX6 : Hid (X6.length = XS.length + T.length) := Lib.hid (by rw [hX6, List.length_append])
      obtain ⟨g6, e6, rfl, -⟩ := hoN2.at (by rw [hX6]; intro e; have h9 := (List.append_eq_nil_iff.1 e).2; rw [HTT.out] at h9; unfold textL at h9; cases h9)
      have HOX6 := Lib.hid hoN2
      have HBX6 : Hid (Below W.heap.size W w6) := Lib.hid (HBT.out.grown hgN HBT.out.size (fun k hk => (HOT.out.lt k hk).1))
      have HX3 := Lib.hid ((hgN.block _ (heap_lt HX2.out) (fun e => own_neT HOT.out HX2.out e.symm)).trans HX2.out)
      obtain ⟨x0, x1⟩ := cells2 HX3.out
      clear hoN hoN2 hgN hnN hX6 HCT HOT HBT hlx
      have HLS2 : Hid (X6.length ≤ 9100) := Lib.hid (by have h1 := HLX6.out; have h2 := HLS.out; have h3 := hlt65; omega)
      clear hlt65 HTT HOS HBS HX2
      go_wp2_with fail
      refine (HTX.out p.2 _ s2).mono ?_; rintro e wt ⟨tv, rfl, hot, hbt⟩
      obtain ⟨gt, dt, rfl, -, -, -, hct, -⟩ := hot.at (by unfold textL; simp)
      have HCT := Lib.hid (imCells_at hct)
      have HOT := Lib.hid (HOX6.out.keep hbt)
      have HBT := Lib.hid (HBX6.out.trans (hbt.mono HBX6.out.size))
      clear x0 x1
      obtain ⟨T, hT⟩ : ∃ T, T = textL p.2 := ⟨_, rfl⟩
      rw [← hT] at HCT ⊢
      have HTT := Lib.hid hT
      have hlt65 : T.length ≤ 65 := by rw [hT, textL_len]; have := s2; omega
      have hlx := HLS2.out
      clear hot hbt hct hT
      go_upto_region 9 with (at_builtin; refine wpList_append_own _ rfl _ _ 56 rfl W.heap.size 5 i0 (.int .u8 0) 1 1 Tryz.underlying56 hi8 hz0 hz1 hz2 rfl (by decide) _ _ _ rfl HOT.out ⟨gt, 0, none⟩ T.length dt (cells8 T) rfl (by simp) HCT.out (imCells_one T) (by unfold maxLen; omega) (by omega) HBT.out.size ?_; intro vN w7 hoN hgN hnN)
      obtain ⟨X7, hX7⟩ : ∃ X, X = X6 ++ T := ⟨_, rfl⟩
      have hoN2 : Owns w7 W.heap.size vN X7 := by rw [hX7]; unfold Owns; rw [List.length_append, cells8_app]; exact hoN
      have HX7 : Hid (X7 = X6 ++ textL p.2) := Lib.hid (by rw [hX7, HTT.out])
      have HLX7 : Hid (X7.length = X6.length + T.length) := Lib.hid (by rw [hX7, List.length_append])
      obtain ⟨g7, e7, rfl, -⟩ := hoN2.at (by rw [hX7]; intro e; have h9 := (List.append_eq_nil_iff.1 e).2; rw [HTT.out] at h9; unfold textL at h9; cases h9)
      have HOX7 := Lib.hid hoN2
      have HBX7 : Hid (Below W.heap.size W w7) := Lib.hid (HBT.out.grown hgN HBT.out.size (fun k hk => (HOT.out.lt k hk).1))
      clear hoN hoN2 hgN hnN hX7 HCT HOT HBT hlx
      have hZ : X7 = X5 ++ (b.attrs.take (i + 1)).flatMap attrL := by rw [HX7.out, HX6.out, HXS.out, HSN.out]; simp
      have HS7 : Hid (ImS W w7 (.slice (some ⟨g7, 0, none⟩) X7.length e7) (X5 ++ (b.attrs.take (i + 1)).flatMap attrL)) := Lib.hid (by rw [← hZ]; exact ⟨⟨g7, e7, rfl⟩, HOX7.out, HBX7.out⟩)
      clear hZ hlt65 HTT
      go_wp2_with fail
      go_roundw
      case rel => exact ⟨i + 1, HLT.out, by go_num, HS7⟩
      case measure => simp [intOf]; have := HLT.out; omega
    · obtain rfl : i = b.attrs.length := by omega
      have dd : decide ((b.attrs.length : Int) < (b.attrs.length : Int)) = false := by simp
      rw [List.take_length] at HI
      obtain ⟨gu, cu, rfl, _, hbw⟩ := HI.out.at
      obtain ⟨k0, k1, k2, k3, k4⟩ := (HD.out.below hbw).cells
      generalize hJ : X5 ++ b.attrs.flatMap attrL = J at HI ⊢
      have HJ := Lib.hid hJ
      have HLJ : Hid (J.length ≤ 9000) := Lib.hid (by rw [← hJ, List.length_append]; have h1 := HLH.out; have h2 := HFL.out.2; omega)
      clear hJ hlt hbw
      go_wp2_with fail
      clear k0 k1 k2 k3 k4
      go_loopw [3, 50] (fun u j wr => ∃ i : Nat, i ≤ b.sl.length ∧ j = .int .i64 i ∧ Hid (ImS W wr u (J ++ b.sl.take i))) (fun _ j _ => b.sl.length - (intOf j).toNat)
      case atStart => exact ⟨0, Nat.zero_le _, rfl, Lib.hid (by simpa using HI.out)⟩
      case round =>
        clear HI
        obtain ⟨i, hi, rfl, HI⟩ := hrel
        by_cases hlt : i < b.sl.length
        · have hp : b.sl[i]? = some (b.sl.getD i 0) := by rw [List.getD_eq_getElem?_getD, List.getElem?_eq_getElem hlt]; rfl
          have hxb := okB_get HOK.out.1 i
          have HT := Lib.hid (take_snocI b.sl i hlt)
          generalize b.sl.getD i 0 = x at hp hxb HT
          obtain ⟨gu, cu, rfl, ho, hbw⟩ := HI.out.at
          obtain ⟨a, rfl, -, hx⟩ := (HS.out.slots.below hbw).at hp
          have q0 : wr.cell? (a.add (i * 1)) = some (.int .i64 x) := hx 0 _ rfl
          rw [Nat.mul_one] at q0
          have b0 : (0 : Int) ≤ (i : Int) := by omega
          have b1 : (i : Int) < (b.sl.length : Int) := by omega
          have dd : decide ((i : Int) < (b.sl.length : Int)) = true := by simp; omega
          have hwx : IntKind.u8.wrap x = x := by rw [IntKind.wrap_u8]; omega
          have hi9 : i < 100000 := by have := HL64.out; omega
          have hL64 := HL64.out
          have HLT := Lib.hid hlt
          obtain ⟨XS, hXS⟩ : ∃ XS, XS = J ++ b.sl.take i := ⟨_, rfl⟩
          have HLS : Hid (XS.length ≤ 9100) := Lib.hid (by rw [hXS, List.length_append, List.length_take]; have := HLJ.out; omega)
          rw [← hXS] at ho ⊢
          have HXS := Lib.hid hXS
          have HOS : Hid (wr.ownsRow W.heap.size 5 1 (.slice (some ⟨gu, 0, none⟩) XS.length cu) XS.length (cells8 XS)) := Lib.hid ho
          have HBS := Lib.hid hbw
          clear hXS ho hbw hx hp hxb HI hlt hL64
          have hlp := HLS.out
          go_wp2_with (at_builtin; refine wpList_push1 (w0 := wr) Tryz.underlying56 info8 rfl (by decide) rfl (.tmp 54) (.tmp 57) rfl W.heap.size _ XS.length (cells8 XS) (.int .u8 x) wr.heap.size rfl rfl rfl HOS.out (by omega) HBS.out.size rfl ?_; intro vN w9 hoN hbN _)
          obtain ⟨X9, hX9⟩ : ∃ X, X = XS ++ [x] := ⟨_, rfl⟩
          have hoN2 : Owns w9 W.heap.size vN X9 := by rw [hX9]; unfold Owns; rw [List.length_append, cells8_app]; exact hoN
          have HX9 : Hid (X9 = XS ++ [x]) := Lib.hid hX9
          have HLX9 : Hid (X9.length = XS.length + 1) := Lib.hid (by rw [hX9, List.length_append]; rfl)
          obtain ⟨g9, e9, rfl, -⟩ := hoN2.at (by intro e; have := HLX9.out; rw [e] at this; simp at this)
          have HOX9 := Lib.hid hoN2
          have HBX9 : Hid (Below W.heap.size W w9) := Lib.hid (HBS.out.trans hbN)
          clear hoN hoN2 hbN hX9 hlp
          have hZ : X9 = J ++ b.sl.take (i + 1) := by rw [HX9.out, HXS.out, HT.out, List.append_assoc]
          have HS9 : Hid (ImS W w9 (.slice (some ⟨g9, 0, none⟩) X9.length e9) (J ++ b.sl.take (i + 1))) := Lib.hid (by rw [← hZ]; exact ⟨⟨g9, e9, rfl⟩, HOX9.out, HBX9.out⟩)
          clear hZ q0
          go_wp2_with fail
          go_roundw
          case rel => exact ⟨i + 1, HLT.out, by go_num, HS9⟩
          case measure => simp [intOf]; have := HLT.out; omega
        · obtain rfl : i = b.sl.length := by omega
          have dd : decide ((b.sl.length : Int) < (b.sl.length : Int)) = false := by simp
          rw [List.take_length] at HI
          obtain ⟨gu, cu, rfl, ho, hbw⟩ := HI.out.at
          obtain ⟨k0, k1, k2, k3, k4⟩ := (HD.out.below hbw).cells
          generalize hJ2 : J ++ b.sl = J2 at ho HI ⊢
          have HJ2 := Lib.hid hJ2
          have HLJ2 : Hid (J2.length ≤ 9100) := Lib.hid (by rw [← hJ2, List.length_append]; have h1 := HLJ.out; have h2 := HL64.out; omega)
          have HOS : Hid (wr.ownsRow W.heap.size 5 1 (.slice (some ⟨gu, 0, none⟩) J2.length cu) J2.length (cells8 J2)) := Lib.hid ho
          have HBS := Lib.hid hbw
          obtain ⟨wk, rfl⟩ : ∃ wk, wk = wr := ⟨_, rfl⟩
          clear hJ2 hlt ho hbw HI
          have hlp := HLJ2.out
          go_upto_region 16 with (at_builtin; refine wpList_push1 (w0 := wk) Tryz.underlying56 info8 rfl (by decide) rfl (.tmp 60) (.tmp 65) rfl W.heap.size _ J2.length (cells8 J2) (.int .u8 (b.free.length : Int)) wk.heap.size rfl rfl rfl HOS.out (by omega) HBS.out.size rfl ?_; intro vN w8 hoN hbN _)
          obtain ⟨M, hM⟩ : ∃ X, X = J2 ++ [(b.free.length : Int)] := ⟨_, rfl⟩
          have hoN2 : Owns w8 W.heap.size vN M := by rw [hM]; unfold Owns; rw [List.length_append, cells8_app]; exact hoN
          have HM_ : Hid (M = J2 ++ [(b.free.length : Int)]) := Lib.hid hM
          have HLM : Hid (M.length = J2.length + 1) := Lib.hid (by rw [hM, List.length_append]; rfl)
          obtain ⟨g8, e8, rfl, -⟩ := hoN2.at (by intro e; have := HLM.out; rw [e] at this; simp at this)
          have HOM := Lib.hid hoN2
          have HBM : Hid (Below W.heap.size W w8) := Lib.hid (HBS.out.trans hbN)
          clear hoN hoN2 hbN hM hlp
          obtain ⟨k0, k1, k2, k3, k4⟩ := (HD.out.below HBM.out).cells
          have HM3 := Lib.hid HM_.out
          have HLM3 : Hid (M.length ≤ 9101) := Lib.hid (by have h1 := HLM.out; have h2 := HLJ2.out; omega)
          have HI : Hid (ImS W w8 (.slice (some ⟨g8, 0, none⟩) M.length e8) M) := Lib.hid ⟨⟨g8, e8, rfl⟩, HOM.out, HBM.out⟩
          clear HOM HBM HOS HBS HLM
          go_wp2_with fail
          clear k0 k1 k2 k3 k4
          go_loopw [3, 70] (fun u j wr => ∃ i : Nat, i ≤ b.free.length ∧ j = .int .i64 i ∧ Hid (ImS W wr u (M ++ b.free.take i))) (fun _ j _ => b.free.length - (intOf j).toNat)
          case atStart => exact ⟨0, Nat.zero_le _, rfl, Lib.hid (by simpa using HI.out)⟩
          case round =>
            clear HI
            obtain ⟨i, hi, rfl, HI⟩ := hrel
            by_cases hlt : i < b.free.length
            · have hp : b.free[i]? = some (b.free.getD i 0) := by rw [List.getD_eq_getElem?_getD, List.getElem?_eq_getElem hlt]; rfl
              have hxb := okB_get HOK.out.2 i
              have HT := Lib.hid (take_snocI b.free i hlt)
              generalize b.free.getD i 0 = x at hp hxb HT
              obtain ⟨gu, cu, rfl, ho, hbw⟩ := HI.out.at
              obtain ⟨a, rfl, -, hx⟩ := (HS.out.free.below hbw).at hp
              have q0 : wr.cell? (a.add (i * 1)) = some (.int .i64 x) := hx 0 _ rfl
              rw [Nat.mul_one] at q0
              have b0 : (0 : Int) ≤ (i : Int) := by omega
              have b1 : (i : Int) < (b.free.length : Int) := by omega
              have dd : decide ((i : Int) < (b.free.length : Int)) = true := by simp; omega
              have hwx : IntKind.u8.wrap x = x := by rw [IntKind.wrap_u8]; omega
              have hi9 : i < 100000 := by have := HL64.out; omega
              have hL64 := HL64.out
              have HLT := Lib.hid hlt
              obtain ⟨XS, hXS⟩ : ∃ XS, XS = M ++ b.free.take i := ⟨_, rfl⟩
              have HLS : Hid (XS.length ≤ 9300) := Lib.hid (by rw [hXS, List.length_append, List.length_take]; have := HLM3.out; omega)
              rw [← hXS] at ho ⊢
              have HXS := Lib.hid hXS
              have HOS : Hid (wr.ownsRow W.heap.size 5 1 (.slice (some ⟨gu, 0, none⟩) XS.length cu) XS.length (cells8 XS)) := Lib.hid ho
              have HBS := Lib.hid hbw
              clear hXS ho hbw hx hp hxb HI hlt hL64
              have hlp := HLS.out
              go_wp2_with (at_builtin; refine wpList_push1 (w0 := wr) Tryz.underlying56 info8 rfl (by decide) rfl (.tmp 74) (.tmp 77) rfl W.heap.size _ XS.length (cells8 XS) (.int .u8 x) wr.heap.size rfl rfl rfl HOS.out (by omega) HBS.out.size rfl ?_; intro vN w9 hoN hbN _)
              obtain ⟨X9, hX9⟩ : ∃ X, X = XS ++ [x] := ⟨_, rfl⟩
              have hoN2 : Owns w9 W.heap.size vN X9 := by rw [hX9]; unfold Owns; rw [List.length_append, cells8_app]; exact hoN
              have HX9 : Hid (X9 = XS ++ [x]) := Lib.hid hX9
              have HLX9 : Hid (X9.length = XS.length + 1) := Lib.hid (by rw [hX9, List.length_append]; rfl)
              obtain ⟨g9, e9, rfl, -⟩ := hoN2.at (by intro e; have := HLX9.out; rw [e] at this; simp at this)
              have HOX9 := Lib.hid hoN2
              have HBX9 : Hid (Below W.heap.size W w9) := Lib.hid (HBS.out.trans hbN)
              clear hoN hoN2 hbN hX9 hlp
              have hZ : X9 = M ++ b.free.take (i + 1) := by rw [HX9.out, HXS.out, HT.out, List.append_assoc]
              have HS9 : Hid (ImS W w9 (.slice (some ⟨g9, 0, none⟩) X9.length e9) (M ++ b.free.take (i + 1))) := Lib.hid (by rw [← hZ]; exact ⟨⟨g9, e9, rfl⟩, HOX9.out, HBX9.out⟩)
              clear hZ q0
              go_wp2_with fail
              go_roundw
              case rel => exact ⟨i + 1, HLT.out, by go_num, HS9⟩
              case measure => simp [intOf]; have := HLT.out; omega
            · obtain rfl : i = b.free.length := by omega
              have dd : decide ((b.free.length : Int) < (b.free.length : Int)) = false := by simp
              rw [List.take_length] at HI
              have HE : Hid (strOfNums (M ++ b.free) = strOfNums (imB b)) := Lib.hid (by rw [HM3.out, ← HJ2.out, ← HJ.out, HX5E.out]; unfold imB; rfl)
              obtain ⟨gu, cu, rfl, ho, hbw⟩ := HI.out.at
              have HBX := Lib.hid (HB.out.trans (hbw.mono HB.out.size))
              generalize M ++ b.free = Z at ho HE ⊢
              have HCV := conv_sees ho.sees
              clear ho hbw HI hlt
              go_wp2_with fail
              go_ret
              exact ⟨congrArg (fun s => Ending.returned (.string s)) HE.out, HBX.out⟩
end
section
open Go.RowKit
/-- Bytes that are read as a block are just that one's. -/
theorem im_read_put {s : ByteArray} (h : imOk s = true) : BWf (imC s) ∧ (imC s).free.length ≤ 255 ∧ (imC s).attrs.length ≤ 255 ∧ rightB (imC s) = true ∧ strOfNums (imB (imC s)) = s := by
  have hc : imC s = (imRd (some (strI (rest s pB)))).1 := by unfold imC; rw [if_pos h]
  have hwf := imRd_wf (some (strI (rest s pB))) (okB_strI _)
  unfold imOk at h
  rw [Bool.and_eq_true, Bool.and_eq_true] at h
  obtain ⟨h1, h2, h3⟩ := h
  rw [hc]
  refine ⟨hwf.1, hwf.2.1, hwf.2.2, h3, ?_⟩
  have h4 := imRd_back (okB_strI _) (doneB_some h2) h3
  rw [← h4]
  have h5 := strI_cons (c := 66) h1
  exact str_eq h5
end
end Go.Proofs.YtiifbhiodegipaaGreatDoor
namespace Go.Proofs.YtiifbhiodegipaaGreatDoor
open Go.RowKit
def dAs : Nat → Option (List Int) → List PA × Option (List Int)
  | 0, st => ([], st)
  | _ + 1, none => ([], none)
  | k + 1, some l => ((strOfNums (rdT (some l)).1, strOfNums (rdT (rdT (some l)).2).1) :: (dAs k (rdT (rdT (some l)).2).2).1, (dAs k (rdT (rdT (some l)).2).2).2)
theorem dAs_eq : ∀ k st, (dAs k st).2 ≠ none → rdAs k st = dAs k st
  | 0, _, _ => rfl
  | k + 1, none, h => absurd rfl h
  | k + 1, some l, h => by
    rw [dAs] at h ⊢
    rw [rdAs, dAs_eq k _ h]
theorem dAs_eq2 : ∀ k st, (rdAs k st).2 ≠ none → dAs k st = rdAs k st
  | 0, _, _ => rfl
  | k + 1, none, h => absurd (rdAs_none (k + 1)) h
  | k + 1, some l, h => by
    rw [rdAs] at h ⊢
    rw [dAs, dAs_eq2 k _ h]
theorem rdU1_cons (x : Int) (l : List Int) : rdU (some (x :: l)) 1 = (x, some l) := by
  have h : (1 : Int) ≤ (l.length : Int) + 1 := by omega
  unfold rdU rdB
  simp [wOk, numBE, h]
theorem rdU1_nil : (rdU (some []) 1).2 = none := by
  unfold rdU rdB
  simp [wOk]
theorem rdFs_take : ∀ (k : Nat) (l : List Int), (rdFs k (some l)).2 ≠ none → rdFs k (some l) = (l.take k, some (l.drop k)) ∧ k ≤ l.length
  | 0, l, _ => by simp [rdFs]
  | k + 1, [], h => absurd (by rw [rdFs, rdU1_nil]; exact rdFs_none k) h
  | k + 1, x :: l, h => by
    rw [rdFs, rdU1_cons] at h ⊢
    obtain ⟨e, hl⟩ := rdFs_take k l h
    simp only [] at h ⊢
    rw [e]
    simp
    omega
theorem rdFs_yes : ∀ (k : Nat) (l : List Int), k ≤ l.length → rdFs k (some l) = (l.take k, some (l.drop k))
  | 0, l, _ => by simp [rdFs]
  | k + 1, [], h => by simp at h
  | k + 1, x :: l, h => by
    rw [rdFs, rdU1_cons]
    simp only []
    rw [rdFs_yes k l (by simpa using h)]
    simp
theorem rdB_nn {st : Option (List Int)} {n : Int} (h : (rdB st n).2 ≠ none) : ∃ l, st = some l ∧ 0 ≤ n ∧ n ≤ l.length ∧ rdB st n = (l.take n.toNat, some (l.drop n.toNat)) := by
  cases st with
  | none => exact absurd rfl h
  | some l =>
    by_cases hc : 0 ≤ n ∧ n ≤ l.length
    · exact ⟨l, rfl, hc.1, hc.2, by unfold rdB; exact if_pos hc⟩
    · exact absurd (by unfold rdB; simp only []; rw [if_neg hc]) h
theorem rdFs_eq2 {st : Option (List Int)} {n : Int} (h : (rdB st n).2 ≠ none) : rdFs n.toNat st = rdB st n := by
  obtain ⟨l, rfl, h0, h1, e⟩ := rdB_nn h
  rw [e, rdFs_yes _ _ (by omega)]
theorem rdFs_eq {st : Option (List Int)} {n : Int} (h0 : 0 ≤ n) (h : (rdFs n.toNat st).2 ≠ none) : rdB st n = rdFs n.toNat st := by
  cases st with
  | none => exact absurd (rdFs_none _) h
  | some l =>
    obtain ⟨e, hl⟩ := rdFs_take _ _ h
    rw [e]
    unfold rdB
    exact if_pos ⟨h0, by omega⟩
def dRd (st : Option (List Int)) : BlkS × Option (List Int) :=
  (⟨(rdU st 4).1, strOfNums (rdT (rdU st 4).2).1,
    (rdB (dAs (rdU (rdT (rdU st 4).2).2 1).1.toNat (rdU (rdT (rdU st 4).2).2 1).2).2 64).1,
    (rdB (rdU (rdB (dAs (rdU (rdT (rdU st 4).2).2 1).1.toNat (rdU (rdT (rdU st 4).2).2 1).2).2 64).2 1).2 (rdU (rdB (dAs (rdU (rdT (rdU st 4).2).2 1).1.toNat (rdU (rdT (rdU st 4).2).2 1).2).2 64).2 1).1).1,
    (dAs (rdU (rdT (rdU st 4).2).2 1).1.toNat (rdU (rdT (rdU st 4).2).2 1).2).1⟩,
   (rdB (rdU (rdB (dAs (rdU (rdT (rdU st 4).2).2 1).1.toNat (rdU (rdT (rdU st 4).2).2 1).2).2 64).2 1).2 (rdU (rdB (dAs (rdU (rdT (rdU st 4).2).2 1).1.toNat (rdU (rdT (rdU st 4).2).2 1).2).2 64).2 1).1).2)
theorem dRd_eq {st : Option (List Int)} (h : (dRd st).2 ≠ none) : imRd st = dRd st := by
  unfold dRd at h
  unfold imRd dRd
  simp only [] at h
  generalize rdT (rdU st 4).2 = t at h ⊢
  generalize rdU t.2 1 = n at h ⊢
  have h1 := rdFs_eq2 h
  have h2 : (rdB (dAs n.1.toNat n.2).2 64).2 ≠ none := fun e => by
    rw [e] at h
    exact h rfl
  have h3 := rdFs_eq2 h2
  have h4 : (dAs n.1.toNat n.2).2 ≠ none := fun e => by
    rw [e] at h2
    exact h2 rfl
  have h5 := dAs_eq _ _ h4
  rw [h5, show (64 : Nat) = (64 : Int).toNat from rfl, h3, h1]
theorem rdT_okr {st : Option (List Int)} (h : okB (st.getD [])) : okB ((rdT st).2.getD []) := by
  unfold rdT
  split
  · exact rdB_okr (rdU_bd2 st h 1 (by omega)).2.2 _
  · exact fun x hx => by cases hx
theorem rdAs_okr : ∀ (k : Nat) (st : Option (List Int)), okB (st.getD []) → okB ((rdAs k st).2.getD [])
  | 0, _, h => h
  | k + 1, st, h => by rw [rdAs]; exact rdAs_okr k _ (rdT_okr (rdT_okr h))
theorem rdFs_okr : ∀ (k : Nat) (st : Option (List Int)), okB (st.getD []) → okB ((rdFs k st).2.getD [])
  | 0, _, h => h
  | k + 1, st, h => by rw [rdFs]; exact rdFs_okr k _ (rdU_bd2 st h 1 (by omega)).2.2
theorem dRd_eq2 {st : Option (List Int)} (hok : okB (st.getD [])) (h : (imRd st).2 ≠ none) : dRd st = imRd st := by
  unfold imRd at h
  unfold imRd dRd
  simp only [] at h
  have o1 := rdT_okr (rdU_bd2 st hok 4 (by omega)).2.2
  generalize rdT (rdU st 4).2 = t at h o1 ⊢
  have o2 := (rdU_bd2 t.2 o1 1 (by omega)).2.2
  generalize rdU t.2 1 = n at h o2 ⊢
  have o3 := rdFs_okr 64 _ (rdAs_okr n.1.toNat n.2 o2)
  have o4 := (rdU_bd2 _ o3 1 (by omega)).1
  have h1 := rdFs_eq o4 h
  have h2 : (rdFs 64 (rdAs n.1.toNat n.2).2).2 ≠ none := fun e => by
    rw [e] at h
    exact h (rdFs_none _)
  have h3 : rdB (rdAs n.1.toNat n.2).2 64 = rdFs 64 (rdAs n.1.toNat n.2).2 := rdFs_eq (n := 64) (by omega) h2
  have h4 : (rdAs n.1.toNat n.2).2 ≠ none := fun e => by
    rw [e] at h2
    exact h2 (rdFs_none _)
  have h5 := dAs_eq2 _ _ h4
  rw [h5, h3, h1]
/-- What the document says of bytes: they are a block's. -/
def dbOk (s : ByteArray) : Bool := doneB (dRd (rdU (some (strI s)) 1).2).2 && rightB (dRd (rdU (some (strI s)) 1).2).1 && decide (strOfNums (imB (dRd (rdU (some (strI s)) 1).2).1) = s)
theorem dbOk_yes {s : ByteArray} (h : imOk s = true) : dbOk s = true ∧ (dRd (rdU (some (strI s)) 1).2).1 = imC s := by
  obtain ⟨hwf, -, -, hr, hs⟩ := im_read_put h
  have hc : imC s = (imRd (some (strI (rest s pB)))).1 := by unfold imC; rw [if_pos h]
  have h0 := h
  unfold imOk at h
  rw [Bool.and_eq_true, Bool.and_eq_true] at h
  obtain ⟨h1, h2, h3⟩ := h
  have e1 : strI s = 66 :: strI (rest s pB) := strI_cons (c := 66) h1
  have e2 := doneB_some h2
  have e3 := dRd_eq2 (st := some (strI (rest s pB))) (okB_strI (rest s pB)) (by rw [e2]; simp)
  have e4 : (rdU (some (strI s)) 1).2 = some (strI (rest s pB)) := by rw [e1, rdU1_cons]
  refine ⟨?_, by rw [e4, e3, hc]⟩
  unfold dbOk
  rw [e4, e3, h2, h3, ← hc, hs]
  simp
theorem dbOk_no {s : ByteArray} (h : dbOk s = true) : imOk s = true := by
  unfold dbOk at h
  rw [Bool.and_eq_true, Bool.and_eq_true, decide_eq_true_eq] at h
  obtain ⟨⟨h1, h2⟩, h3⟩ := h
  have hp : starts s pB = true := by
    rw [← h3, imB_cons]
    unfold starts Lib.hasPrefix
    simp [strOfNums]
  have e1 : strI s = 66 :: strI (rest s pB) := strI_cons (c := 66) hp
  have e4 : (rdU (some (strI s)) 1).2 = some (strI (rest s pB)) := by rw [e1, rdU1_cons]
  rw [e4] at h1 h2
  have e3 := dRd_eq (by rw [doneB_some h1]; simp)
  unfold imOk
  rw [hp, e3, h1, h2]
  rfl
theorem dbOk_eq (s : ByteArray) : dbOk s = imOk s := by
  cases h : imOk s with
  | true => exact (dbOk_yes h).1
  | false =>
    cases h2 : dbOk s with
    | false => rfl
    | true => rw [dbOk_no h2] at h; cases h
end Go.Proofs.YtiifbhiodegipaaGreatDoor
