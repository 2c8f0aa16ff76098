/- The walk of BlockRight. Made by g_brt.py. -/
import Derived.Test.YtgodmnpcedfdcaaBrS
import Derived.Deep.DeepCutAuto
namespace Go.Proofs.Ytgodmnpcedfdcaa
open Go.RowKit
set_option maxRecDepth 100000 in
set_option maxHeartbeats 4000000 in
theorem count15_bad (b : BlkS) (fv av : Value) (w : World) (hf : Sees w fv b.free) (ha : SeesA w av b.attrs) (hw : BWf b) (hr : rightB b = false) :
    Calls Try.prog 24 #[.agg (blkL b fv av).toArray] w fun e w' => e = .returned (.map none) ∧ Below w.heap.size w w' := by
  obtain ⟨W, hW⟩ : ∃ W, W = w.alloc (blkO b fv av) := ⟨_, rfl⟩
  have hb0 : Below w.heap.size w W := by rw [hW]; exact belNew _ _
  have hA : BlkAt W w.heap.size b fv av := by rw [hW]; exact heap_new w _
  have HX0 := Lib.hid hA
  have HB0 := Lib.hid hb0
  have HW := Lib.hid hW
  have HRB := Lib.hid (rightBlk_any (blkL b fv av).toArray b W ⟨fv, av, rfl, hf.keep hb0, ha.below hb0, hw⟩)
  have hl := hw.2.1
  rw [hr] at HRB
  clear hW hb0 hA hf ha hw hr
  go_enter Try.func24, Try.ntmps24
  go_upto_region 1 with fail
  change Code.wp _ _ _ _ (w.alloc (blkO b fv av))
  rw [← HW.out]
  clear HW
  go_wp2_with (refine wpLdB rfl _ rfl rfl HX0.out hl ?_)
  refine HRB.out.mono ?_; rintro e w1 ⟨rfl, hb1⟩
  have HB1 := Lib.hid (HB0.out.trans (hb1.mono HB0.out.size))
  clear hb1
  go_wp2_with fail
  go_ret
  exact ⟨rfl, HB1.out⟩
theorem DocRet.sees {w w' : World} {b : BlkS} {v1 v2 v3 : Value} (h : DocRet w w' b v1 v2 v3) : DocSees w' b.sl b.free b.attrs v1 v2 v3 := by
  have h1 : RowI1 w' w.heap.size v1 b.sl := by have := h.slots; unfold OwnsI at this; rw [← flat_I1] at this; exact this
  have h2 : RowI1 w' w.heap.size v2 b.free := by have := h.free; unfold OwnsI at this; rw [← flat_I1] at this; exact this
  have h3 : RowG ERt 2 encA w' w.heap.size v3 b.attrs := h.attrs
  exact ⟨h1.sees (fun _ => rfl), h2.sees (fun _ => rfl), h3.sees (fun _ => rfl)⟩
/-- The law's variables: the block, the attribute. -/
def VarsB (w : World) (g : Nat) (c : BlkS) (fv av : Value) (ga : Nat) (a : PA) (X : World) : Prop := VarB X g c fv av ∧ X.heap[ga]? = some (rtO a) ∧ Below w.heap.size w X
theorem VarsB.below {w : World} {g : Nat} {c : BlkS} {fv av : Value} {ga : Nat} {a : PA} {X Y : World} (h : VarsB w g c fv av ga a X) (hb : Below X.heap.size X Y) : VarsB w g c fv av ga a Y :=
  ⟨h.1.below hb, (hb.block _ (heap_lt h.2.1)).trans h.2.1, h.2.2.trans (hb.mono h.2.2.size)⟩
theorem st_new {w w3 : World} (hg3 : (w.alloc (blkO zB NS NS)).grownBy w3 (some w.heap.size)) : Below w.heap.size w w3 := (belNew w _).grown hg3 (by simp) (fun k hk => by cases hk; exact Nat.le_refl _)
theorem one_seesU (w : World) (x : Int) : SeesU (w.alloc (.cells #[.int .u32 x] 22)) (.slice (some ⟨w.heap.size, 0, none⟩) 1 1) [x] := by
  refine ⟨some ⟨w.heap.size, 0, none⟩, 1, rfl, Nat.le_refl _, (fun h => by cases h), fun a ha i hi => ?_⟩
  cases ha
  have hi0 : i = 0 := by simpa using hi
  subst hi0
  rw [add0]
  simp only [World.cell?, heap_new w (.cells #[.int .u32 x] 22)]
  rfl
set_option maxRecDepth 100000 in
set_option maxHeartbeats 16000000 in
theorem law_right (W : World) (cs : Array Value) (r : BlkS) (a : PA) (x : Int) (h : BlkIs W cs r) (h1 : a.1.size ≤ maxLen) (h2 : a.2.size ≤ maxLen) (hx : 0 ≤ x) (hx' : x < 4294967296) : Calls Try.prog 3 #[.agg cs, atV a, .int .u32 x] W fun e W' => e = .returned (.bool true) ∧ Below W.heap.size W W' := by
  obtain ⟨rf, ra, rfl, hf, ha, hw⟩ := h
  have hlr := hw.2.1
  obtain ⟨w1, hw1⟩ : ∃ w1, w1 = (W.alloc (rawO r rf ra)).alloc (rtO a) := ⟨_, rfl⟩
  obtain ⟨hb1, hA, hT, hsz⟩ := two_newB W (rawO r rf ra) (rtO a)
  rw [← hw1] at hb1 hA hT hsz
  have HX1 : Hid (RawAt w1 W.heap.size r rf ra) := Lib.hid hA
  have HT1 := Lib.hid hT
  have HB1 := Lib.hid hb1
  have HOU := Lib.hid (ours_any r rf ra w1 (hf.keep hb1) (ha.below hb1) hw)
  have HAW := Lib.hid (fun w => awake15_any w)
  have HW1 := Lib.hid hw1
  have HWF := Lib.hid (oursS_wf hw)
  have HLEN : Hid ((oursS r).free.length ≤ 1000000 ∧ (oursS r).attrs.length ≤ 1000000) := Lib.hid ⟨by show (r.free.take 70).length ≤ _; rw [List.length_take]; omega, by show (r.attrs.take 70).length ≤ _; rw [List.length_take]; omega⟩
  generalize oursS r = c at HOU HWF HLEN
  have hl := HWF.out.2.1
  have HM := Lib.hid (And.intro (And.intro h1 h2) (And.intro hx hx'))
  clear hb1 hA hT hsz hw1 hf ha hw h1 h2 hx hx'
  go_enter Try.func3, Try.ntmps3
  go_upto_region 1 with fail
  change Code.wp _ _ _ _ ((W.alloc (rawO r rf ra)).alloc (rtO a))
  rw [← HW1.out]
  clear HW1
  go_wp2_with (refine wpLdR rfl _ rfl rfl HX1.out hlr ?_)
  refine HOU.out.mono ?_; rintro e w2 ⟨fv, av, rfl, hret⟩
  obtain ⟨fo, fn, fc, rfl⟩ := own_form hret.free
  obtain ⟨ao, an, ac, rfl⟩ := own_form hret.attrs
  have HX2 : Hid (BlkAt (w2.alloc (blkO zB NS NS)) w2.heap.size zB NS NS) := Lib.hid (heap_new w2 _)
  have HR := Lib.hid hret
  clear hret HOU HX1
  go_upto_region 2 with ((change wpList _ _ _ _ _ (w2.alloc (blkO zB NS NS))); refine wpStB (b := c) rfl _ _ rfl rfl rfl HX2.out zB_len hl rfl rfl ?_; intro w3 hx3 hg3)
  obtain ⟨hv3, hb3⟩ := var_new HR.out hx3 hg3
  have hb23 := bel HR.out.below hb3
  have HS : Hid (VarsB W w2.heap.size c (.slice fo fn fc) (.slice ao an ac) (W.heap.size + 1) a w3) := Lib.hid ⟨hv3, (hb23.block _ (heap_lt HT1.out)).trans HT1.out, bel HB1.out hb23⟩
  obtain ⟨g, hg⟩ : ∃ g, g = w2.heap.size := ⟨_, rfl⟩
  rw [← hg] at HS ⊢
  have HPL := Lib.hid (fun X (h : VarsB W g c (.slice fo fn fc) (.slice ao an ac) (W.heap.size + 1) a X) => plain15_any c _ _ X h.1.free h.1.attrs hl HWF.out.2.2.1 HWF.out.2.2.2.1 HLEN.out.1 HLEN.out.2)
  clear hx3 hg3 hv3 hb3 hb23 HX2 HR HT1 HB1 hg
  go_wp2_with (refine wpLdB rfl _ rfl rfl HS.out.1.blk hl ?_)
  refine (HPL.out _ HS.out).mono ?_; rintro e w4 ⟨v1, v2, v3, rfl, hd⟩
  have HS4 := Lib.hid (HS.out.below hd.below)
  have HRR := Lib.hid (refRight15_any c v1 v2 v3 w4 hd.sees HWF.out HLEN.out.1)
  clear hd HPL HS
  go_wp2_with fail
  refine HRR.out.mono ?_; rintro e w5 ⟨rfl, hb5⟩
  have HS5 := Lib.hid (HS4.out.below hb5)
  have HRB := Lib.hid (rightBlk_any (blkL c (.slice fo fn fc) (.slice ao an ac)).toArray c w5 ⟨_, _, rfl, HS5.out.1.free, HS5.out.1.attrs, HWF.out⟩)
  clear hb5 HRR HS4
  generalize hrc : rightB c = R at HRB
  have HRC := Lib.hid hrc
  clear hrc
  have dn : (R != R) = false := by simp
  go_wp2_with (refine wpLdB rfl _ rfl rfl HS5.out.1.blk hl ?_)
  refine HRB.out.mono ?_; rintro e w6 ⟨rfl, hb6⟩
  have HS := Lib.hid (HS5.out.below hb6)
  clear hb6 HRB HS5
  cases R with
  | true =>
    go_wp2_with fail
    refine (HAW.out _).mono ?_; rintro e w7 ⟨rfl, hb7⟩
    have HS7 := Lib.hid (HS.out.below hb7)
    clear hb7
    go_wp2_with fail
    go_ret
    exact ⟨rfl, HS7.out.2.2⟩
  | false =>
    have HNO := Lib.hid HRC.out
    generalize hga : W.heap.size + 1 = ga at HS
    clear hga
    have HLA := Lib.hid (fun w => lawAttr_any a w)
    have hbd : (rightB c && (mayP a && decide ((0 : Int) ≤ 1))) = false := by rw [HNO.out]; rfl
    have HC7 := Lib.hid (fun (Y : World) (h : VarsB W g c (.slice fo fn fc) (.slice ao an ac) ga a Y) => assign_bad c _ _ 1 a Y h.1.free h.1.attrs HWF.out HM.out.1.1 HM.out.1.2 hbd)
    have hbe : (rightB c && (mayP a && inB c.addr x)) = false := by rw [HNO.out]; rfl
    have HC8 := Lib.hid (fun (Y : World) (h : VarsB W g c (.slice fo fn fc) (.slice ao an ac) ga a Y) => assignAt_bad c _ _ x a Y h.1.free h.1.attrs HWF.out HM.out.2.1 HM.out.2.2 HM.out.1.1 HM.out.1.2 hbe)
    clear hbd hbe
    obtain ⟨X, rfl⟩ : ∃ X, X = w6 := ⟨_, rfl⟩
    go_upto_region 7 with fail
    go_cut [11] (fun s11 wx => s11 = .int .i64 1 ∧ Hid (VarsB W g c (.slice fo fn fc) (.slice ao an ac) ga a wx))
    case first =>
      refine wp_region_held_drew (S := (fun Y => Below X.heap.size X Y)) (by kernel_rfl) ?_ (fun rN => ?_)
      · exact ⟨rfl, rfl, rfl, Nat.le_refl _, fun _ _ => rfl⟩
      obtain ⟨wn, hwn⟩ : ∃ wn, wn = X.drew := ⟨_, rfl⟩
      rw [← hwn] at rN ⊢
      clear hwn
      have rN : Below X.heap.size X wn := rN
      have HZc : Hid (∀ i : Nat, i = i) := Lib.hid (fun _ => rfl)
      refine wpAnyH_take (i := 0) (v := _) rfl (by kernel_rfl) (by kernel_rfl) (by kernel_rfl) (fun _ _ _ h => h) (ldBIf (by rfl) _ rfl rfl (fun W hW => (HS.out.below hW).1.blk) hl) (by assumption) ?_
      try simp only [Act.put, List.getElem_toArray, List.getElem_cons_zero, List.setIfInBounds_toArray, List.set_cons_zero, List.set_cons_succ]
      refine wpAnyH_take (i := 1) (v := ?_) rfl (by kernel_rfl) (by kernel_rfl) (by kernel_rfl) (fun _ _ _ h => h) (Or.inl ⟨by rfl, ?_⟩) (by assumption) ?_
      rotate_left
      · intro wS hSw
        (try dsimp only at hSw)
        obtain ⟨m0, m1⟩ := acells (HS.out.below hSw).2.1
        go_simp
        first | done | with_reducible rfl
      try simp only [Act.put, List.getElem_toArray, List.getElem_cons_succ, List.getElem_cons_zero, List.setIfInBounds_toArray, List.set_cons_zero, List.set_cons_succ]
      refine wpAnyH_ready (rs := [2, 8]) (by kernel_rfl) (by simp) ?_
      refine AllReadyH.cons rfl (fun K hK => ?_) (AllReadyH.cons rfl (fun K hK => ?_) AllReadyH.nil)
      · go_simp
        refine (HLA.out _).mono ?_; rintro z wm ⟨rfl, hbm⟩
        have rM : Below X.heap.size X wm := bel rN hbm
        clear hbm
        refine hK.out _ _ ?_ (fun _ => ?_)
        · exact rM
        try simp only [Act.put, List.getElem_toArray, List.getElem_cons_succ, List.getElem_cons_zero, List.setIfInBounds_toArray, List.set_cons_zero, List.set_cons_succ]
        have rN := rM
        refine wpAnyH_ready (rs := [3, 8]) (by kernel_rfl) (by simp) ?_
        refine AllReadyH.cons rfl (fun K hK => ?_) (AllReadyH.cons rfl (fun K hK => ?_) AllReadyH.nil)
        · go_simp
          refine (HC7.out _ (HS.out.below rN)).mono ?_; rintro z wm ⟨rfl, hbm⟩
          have rM : Below X.heap.size X wm := bel rN hbm
          clear hbm
          refine hK.out _ _ ?_ (fun _ => ?_)
          · exact rM
          try simp only [Act.put, List.getElem_toArray, List.getElem_cons_succ, List.getElem_cons_zero, List.setIfInBounds_toArray, List.set_cons_zero, List.set_cons_succ]
          have rN := rM
          refine wpAnyH_take (i := 4) (v := ?_) rfl (by kernel_rfl) (by kernel_rfl) (by kernel_rfl) (fun _ _ _ h => h) (Or.inl ⟨by rfl, ?_⟩) (by assumption) ?_
          rotate_left
          · intro wS hSw
            (try dsimp only at hSw)
            go_simp
            first | done | with_reducible rfl
          try simp only [Act.put, List.getElem_toArray, List.getElem_cons_succ, List.getElem_cons_zero, List.setIfInBounds_toArray, List.set_cons_zero, List.set_cons_succ]
          refine wpAnyH_take (i := 5) (v := ?_) rfl (by kernel_rfl) (by kernel_rfl) (by kernel_rfl) (fun _ _ _ h => h) (Or.inl ⟨by rfl, ?_⟩) (by assumption) ?_
          rotate_left
          · intro wS hSw
            (try dsimp only at hSw)
            go_simp
            first | done | with_reducible rfl
          try simp only [Act.put, List.getElem_toArray, List.getElem_cons_succ, List.getElem_cons_zero, List.setIfInBounds_toArray, List.set_cons_zero, List.set_cons_succ]
          refine wpAnyH_take (i := 6) (v := ?_) rfl (by kernel_rfl) (by kernel_rfl) (by kernel_rfl) (fun _ _ _ h => h) (Or.inl ⟨by rfl, ?_⟩) (by assumption) ?_
          rotate_left
          · intro wS hSw
            (try dsimp only at hSw)
            go_simp
            first | done | with_reducible rfl
          try simp only [Act.put, List.getElem_toArray, List.getElem_cons_succ, List.getElem_cons_zero, List.setIfInBounds_toArray, List.set_cons_zero, List.set_cons_succ]
          refine wpAnyH_take (i := 7) (v := ?_) rfl (by kernel_rfl) (by kernel_rfl) (by kernel_rfl) (fun _ _ _ h => h) (Or.inl ⟨by rfl, ?_⟩) (by assumption) ?_
          rotate_left
          · intro wS hSw
            (try dsimp only at hSw)
            go_simp
            first | done | with_reducible rfl
          try simp only [Act.put, List.getElem_toArray, List.getElem_cons_succ, List.getElem_cons_zero, List.setIfInBounds_toArray, List.set_cons_zero, List.set_cons_succ]
          refine wpAnyH_ready (rs := [8]) (by kernel_rfl) (by simp) ?_
          refine AllReadyH.cons rfl (fun K hK => ?_) AllReadyH.nil
          go_simp
          have hz0 := heap_new wm (blkO zB NS NS)
          have hbm := belNew wm (blkO zB NS NS)
          obtain ⟨wz, hwm⟩ : ∃ wz : World, wz = wm.alloc (blkO zB NS NS) := ⟨_, rfl⟩
          rw [← hwm] at hz0 hbm
          have rM : Below X.heap.size X wz := bel rN hbm
          obtain ⟨gz, hgz⟩ : ∃ gz, gz = wm.heap.size := ⟨_, rfl⟩
          have hgx : X.heap.size ≤ gz := by rw [hgz]; exact rN.size
          rw [← hgz] at hz0
          have HZc : Hid (BlkAt wz gz zB NS NS ∧ X.heap.size ≤ gz) := Lib.hid ⟨hz0, hgx⟩
          change K _ (wm.alloc (blkO zB NS NS))
          rw [← hwm, ← hgz]
          clear hwm hgz hz0 hbm hgx
          refine hK.out _ _ ?_ (fun _ => ?_)
          · exact rM
          try simp only [Act.put, List.getElem_toArray, List.getElem_cons_succ, List.getElem_cons_zero, List.setIfInBounds_toArray, List.set_cons_zero, List.set_cons_succ]
          have rN := rM
          refine wpAnyH_ready (rs := [9]) (by kernel_rfl) (by simp) ?_
          refine AllReadyH.cons rfl (fun K hK => ?_) AllReadyH.nil
          rw [if_pos (by kernel_rfl)]
          refine wpStBK (b := zB) (fv := NS) (av := NS) _ _ rfl rfl rfl HZc.out.1 zB_len zB_len rfl rfl ?_; intro wm hxm hgm
          have rM : Below X.heap.size X wm := rN.grown hgm rN.size (fun k hk => by cases hk; exact HZc.out.2)
          clear hxm hgm
          refine hK.out _ _ ?_ (fun _ => ?_)
          · exact rM
          try simp only [Act.put, List.getElem_toArray, List.getElem_cons_succ, List.getElem_cons_zero]
          have rN := rM
          refine wpAnyH_take (i := 10) (v := ?_) rfl (by kernel_rfl) (by kernel_rfl) (by kernel_rfl) (fun _ _ _ h => h) (Or.inl ⟨by rfl, ?_⟩) (by assumption) ?_
          rotate_left
          · intro wS hSw
            (try dsimp only at hSw)
            go_simp
            first | done | with_reducible rfl
          try simp only [Act.put, List.getElem_toArray, List.getElem_cons_succ, List.getElem_cons_zero, List.setIfInBounds_toArray, List.set_cons_zero, List.set_cons_succ]
          refine wpAnyH_take (i := 11) (v := ?_) rfl (by kernel_rfl) (by kernel_rfl) (by kernel_rfl) (fun _ _ _ h => h) (Or.inl ⟨by rfl, ?_⟩) (by assumption) ?_
          rotate_left
          · intro wS hSw
            (try dsimp only at hSw)
            go_simp
            first | done | with_reducible rfl
          try simp only [Act.put, List.getElem_toArray, List.getElem_cons_succ, List.getElem_cons_zero, List.setIfInBounds_toArray, List.set_cons_zero, List.set_cons_succ]
          refine wpAnyH_done (by kernel_rfl) ?_ _
          (try go_wp2_with fail)
          go_meet
          exact ⟨rfl, Lib.hid (HS.out.below rN)⟩
        · go_simp
          have hz0 := heap_new wm (blkO zB NS NS)
          have hbm := belNew wm (blkO zB NS NS)
          obtain ⟨wz, hwm⟩ : ∃ wz : World, wz = wm.alloc (blkO zB NS NS) := ⟨_, rfl⟩
          rw [← hwm] at hz0 hbm
          have rM : Below X.heap.size X wz := bel rN hbm
          obtain ⟨gz, hgz⟩ : ∃ gz, gz = wm.heap.size := ⟨_, rfl⟩
          have hgx : X.heap.size ≤ gz := by rw [hgz]; exact rN.size
          rw [← hgz] at hz0
          have HZc : Hid (BlkAt wz gz zB NS NS ∧ X.heap.size ≤ gz) := Lib.hid ⟨hz0, hgx⟩
          change K _ (wm.alloc (blkO zB NS NS))
          rw [← hwm, ← hgz]
          clear hwm hgz hz0 hbm hgx
          refine hK.out _ _ ?_ (fun _ => ?_)
          · exact rM
          try simp only [Act.put, List.getElem_toArray, List.getElem_cons_succ, List.getElem_cons_zero, List.setIfInBounds_toArray, List.set_cons_zero, List.set_cons_succ]
          have rN := rM
          refine wpAnyH_ready (rs := [3]) (by kernel_rfl) (by simp) ?_
          refine AllReadyH.cons rfl (fun K hK => ?_) AllReadyH.nil
          go_simp
          refine (HC7.out _ (HS.out.below rN)).mono ?_; rintro z wm ⟨rfl, hbm⟩
          have rM : Below X.heap.size X wm := bel rN hbm
          have HZc := Lib.hid (And.intro (HZc.out.1.below hbm) HZc.out.2)
          clear hbm
          refine hK.out _ _ ?_ (fun _ => ?_)
          · exact rM
          try simp only [Act.put, List.getElem_toArray, List.getElem_cons_succ, List.getElem_cons_zero, List.setIfInBounds_toArray, List.set_cons_zero, List.set_cons_succ]
          have rN := rM
          refine wpAnyH_take (i := 4) (v := ?_) rfl (by kernel_rfl) (by kernel_rfl) (by kernel_rfl) (fun _ _ _ h => h) (Or.inl ⟨by rfl, ?_⟩) (by assumption) ?_
          rotate_left
          · intro wS hSw
            (try dsimp only at hSw)
            go_simp
            first | done | with_reducible rfl
          try simp only [Act.put, List.getElem_toArray, List.getElem_cons_succ, List.getElem_cons_zero, List.setIfInBounds_toArray, List.set_cons_zero, List.set_cons_succ]
          refine wpAnyH_take (i := 5) (v := ?_) rfl (by kernel_rfl) (by kernel_rfl) (by kernel_rfl) (fun _ _ _ h => h) (Or.inl ⟨by rfl, ?_⟩) (by assumption) ?_
          rotate_left
          · intro wS hSw
            (try dsimp only at hSw)
            go_simp
            first | done | with_reducible rfl
          try simp only [Act.put, List.getElem_toArray, List.getElem_cons_succ, List.getElem_cons_zero, List.setIfInBounds_toArray, List.set_cons_zero, List.set_cons_succ]
          refine wpAnyH_take (i := 6) (v := ?_) rfl (by kernel_rfl) (by kernel_rfl) (by kernel_rfl) (fun _ _ _ h => h) (Or.inl ⟨by rfl, ?_⟩) (by assumption) ?_
          rotate_left
          · intro wS hSw
            (try dsimp only at hSw)
            go_simp
            first | done | with_reducible rfl
          try simp only [Act.put, List.getElem_toArray, List.getElem_cons_succ, List.getElem_cons_zero, List.setIfInBounds_toArray, List.set_cons_zero, List.set_cons_succ]
          refine wpAnyH_take (i := 7) (v := ?_) rfl (by kernel_rfl) (by kernel_rfl) (by kernel_rfl) (fun _ _ _ h => h) (Or.inl ⟨by rfl, ?_⟩) (by assumption) ?_
          rotate_left
          · intro wS hSw
            (try dsimp only at hSw)
            go_simp
            first | done | with_reducible rfl
          try simp only [Act.put, List.getElem_toArray, List.getElem_cons_succ, List.getElem_cons_zero, List.setIfInBounds_toArray, List.set_cons_zero, List.set_cons_succ]
          refine wpAnyH_ready (rs := [9]) (by kernel_rfl) (by simp) ?_
          refine AllReadyH.cons rfl (fun K hK => ?_) AllReadyH.nil
          rw [if_pos (by kernel_rfl)]
          refine wpStBK (b := zB) (fv := NS) (av := NS) _ _ rfl rfl rfl HZc.out.1 zB_len zB_len rfl rfl ?_; intro wm hxm hgm
          have rM : Below X.heap.size X wm := rN.grown hgm rN.size (fun k hk => by cases hk; exact HZc.out.2)
          clear hxm hgm
          refine hK.out _ _ ?_ (fun _ => ?_)
          · exact rM
          try simp only [Act.put, List.getElem_toArray, List.getElem_cons_succ, List.getElem_cons_zero]
          have rN := rM
          refine wpAnyH_take (i := 10) (v := ?_) rfl (by kernel_rfl) (by kernel_rfl) (by kernel_rfl) (fun _ _ _ h => h) (Or.inl ⟨by rfl, ?_⟩) (by assumption) ?_
          rotate_left
          · intro wS hSw
            (try dsimp only at hSw)
            go_simp
            first | done | with_reducible rfl
          try simp only [Act.put, List.getElem_toArray, List.getElem_cons_succ, List.getElem_cons_zero, List.setIfInBounds_toArray, List.set_cons_zero, List.set_cons_succ]
          refine wpAnyH_take (i := 11) (v := ?_) rfl (by kernel_rfl) (by kernel_rfl) (by kernel_rfl) (fun _ _ _ h => h) (Or.inl ⟨by rfl, ?_⟩) (by assumption) ?_
          rotate_left
          · intro wS hSw
            (try dsimp only at hSw)
            go_simp
            first | done | with_reducible rfl
          try simp only [Act.put, List.getElem_toArray, List.getElem_cons_succ, List.getElem_cons_zero, List.setIfInBounds_toArray, List.set_cons_zero, List.set_cons_succ]
          refine wpAnyH_done (by kernel_rfl) ?_ _
          (try go_wp2_with fail)
          go_meet
          exact ⟨rfl, Lib.hid (HS.out.below rN)⟩
      · go_simp
        have hz0 := heap_new wn (blkO zB NS NS)
        have hbm := belNew wn (blkO zB NS NS)
        obtain ⟨wz, hwm⟩ : ∃ wz : World, wz = wn.alloc (blkO zB NS NS) := ⟨_, rfl⟩
        rw [← hwm] at hz0 hbm
        have rM : Below X.heap.size X wz := bel rN hbm
        obtain ⟨gz, hgz⟩ : ∃ gz, gz = wn.heap.size := ⟨_, rfl⟩
        have hgx : X.heap.size ≤ gz := by rw [hgz]; exact rN.size
        rw [← hgz] at hz0
        have HZc : Hid (BlkAt wz gz zB NS NS ∧ X.heap.size ≤ gz) := Lib.hid ⟨hz0, hgx⟩
        change K _ (wn.alloc (blkO zB NS NS))
        rw [← hwm, ← hgz]
        clear hwm hgz hz0 hbm hgx
        refine hK.out _ _ ?_ (fun _ => ?_)
        · exact rM
        try simp only [Act.put, List.getElem_toArray, List.getElem_cons_succ, List.getElem_cons_zero, List.setIfInBounds_toArray, List.set_cons_zero, List.set_cons_succ]
        have rN := rM
        refine wpAnyH_ready (rs := [2]) (by kernel_rfl) (by simp) ?_
        refine AllReadyH.cons rfl (fun K hK => ?_) AllReadyH.nil
        go_simp
        refine (HLA.out _).mono ?_; rintro z wm ⟨rfl, hbm⟩
        have rM : Below X.heap.size X wm := bel rN hbm
        have HZc := Lib.hid (And.intro (HZc.out.1.below hbm) HZc.out.2)
        clear hbm
        refine hK.out _ _ ?_ (fun _ => ?_)
        · exact rM
        try simp only [Act.put, List.getElem_toArray, List.getElem_cons_succ, List.getElem_cons_zero, List.setIfInBounds_toArray, List.set_cons_zero, List.set_cons_succ]
        have rN := rM
        refine wpAnyH_ready (rs := [3]) (by kernel_rfl) (by simp) ?_
        refine AllReadyH.cons rfl (fun K hK => ?_) AllReadyH.nil
        go_simp
        refine (HC7.out _ (HS.out.below rN)).mono ?_; rintro z wm ⟨rfl, hbm⟩
        have rM : Below X.heap.size X wm := bel rN hbm
        have HZc := Lib.hid (And.intro (HZc.out.1.below hbm) HZc.out.2)
        clear hbm
        refine hK.out _ _ ?_ (fun _ => ?_)
        · exact rM
        try simp only [Act.put, List.getElem_toArray, List.getElem_cons_succ, List.getElem_cons_zero, List.setIfInBounds_toArray, List.set_cons_zero, List.set_cons_succ]
        have rN := rM
        refine wpAnyH_take (i := 4) (v := ?_) rfl (by kernel_rfl) (by kernel_rfl) (by kernel_rfl) (fun _ _ _ h => h) (Or.inl ⟨by rfl, ?_⟩) (by assumption) ?_
        rotate_left
        · intro wS hSw
          (try dsimp only at hSw)
          go_simp
          first | done | with_reducible rfl
        try simp only [Act.put, List.getElem_toArray, List.getElem_cons_succ, List.getElem_cons_zero, List.setIfInBounds_toArray, List.set_cons_zero, List.set_cons_succ]
        refine wpAnyH_take (i := 5) (v := ?_) rfl (by kernel_rfl) (by kernel_rfl) (by kernel_rfl) (fun _ _ _ h => h) (Or.inl ⟨by rfl, ?_⟩) (by assumption) ?_
        rotate_left
        · intro wS hSw
          (try dsimp only at hSw)
          go_simp
          first | done | with_reducible rfl
        try simp only [Act.put, List.getElem_toArray, List.getElem_cons_succ, List.getElem_cons_zero, List.setIfInBounds_toArray, List.set_cons_zero, List.set_cons_succ]
        refine wpAnyH_take (i := 6) (v := ?_) rfl (by kernel_rfl) (by kernel_rfl) (by kernel_rfl) (fun _ _ _ h => h) (Or.inl ⟨by rfl, ?_⟩) (by assumption) ?_
        rotate_left
        · intro wS hSw
          (try dsimp only at hSw)
          go_simp
          first | done | with_reducible rfl
        try simp only [Act.put, List.getElem_toArray, List.getElem_cons_succ, List.getElem_cons_zero, List.setIfInBounds_toArray, List.set_cons_zero, List.set_cons_succ]
        refine wpAnyH_take (i := 7) (v := ?_) rfl (by kernel_rfl) (by kernel_rfl) (by kernel_rfl) (fun _ _ _ h => h) (Or.inl ⟨by rfl, ?_⟩) (by assumption) ?_
        rotate_left
        · intro wS hSw
          (try dsimp only at hSw)
          go_simp
          first | done | with_reducible rfl
        try simp only [Act.put, List.getElem_toArray, List.getElem_cons_succ, List.getElem_cons_zero, List.setIfInBounds_toArray, List.set_cons_zero, List.set_cons_succ]
        refine wpAnyH_ready (rs := [9]) (by kernel_rfl) (by simp) ?_
        refine AllReadyH.cons rfl (fun K hK => ?_) AllReadyH.nil
        rw [if_pos (by kernel_rfl)]
        refine wpStBK (b := zB) (fv := NS) (av := NS) _ _ rfl rfl rfl HZc.out.1 zB_len zB_len rfl rfl ?_; intro wm hxm hgm
        have rM : Below X.heap.size X wm := rN.grown hgm rN.size (fun k hk => by cases hk; exact HZc.out.2)
        clear hxm hgm
        refine hK.out _ _ ?_ (fun _ => ?_)
        · exact rM
        try simp only [Act.put, List.getElem_toArray, List.getElem_cons_succ, List.getElem_cons_zero]
        have rN := rM
        refine wpAnyH_take (i := 10) (v := ?_) rfl (by kernel_rfl) (by kernel_rfl) (by kernel_rfl) (fun _ _ _ h => h) (Or.inl ⟨by rfl, ?_⟩) (by assumption) ?_
        rotate_left
        · intro wS hSw
          (try dsimp only at hSw)
          go_simp
          first | done | with_reducible rfl
        try simp only [Act.put, List.getElem_toArray, List.getElem_cons_succ, List.getElem_cons_zero, List.setIfInBounds_toArray, List.set_cons_zero, List.set_cons_succ]
        refine wpAnyH_take (i := 11) (v := ?_) rfl (by kernel_rfl) (by kernel_rfl) (by kernel_rfl) (fun _ _ _ h => h) (Or.inl ⟨by rfl, ?_⟩) (by assumption) ?_
        rotate_left
        · intro wS hSw
          (try dsimp only at hSw)
          go_simp
          first | done | with_reducible rfl
        try simp only [Act.put, List.getElem_toArray, List.getElem_cons_succ, List.getElem_cons_zero, List.setIfInBounds_toArray, List.set_cons_zero, List.set_cons_succ]
        refine wpAnyH_done (by kernel_rfl) ?_ _
        (try go_wp2_with fail)
        go_meet
        exact ⟨rfl, Lib.hid (HS.out.below rN)⟩
    case rest =>
      obtain ⟨rfl, HC0⟩ := hcut
      clear HS
      have HS := HC0
      clear HC0
      obtain ⟨X, rfl⟩ : ∃ X, X = wc := ⟨_, rfl⟩
      go_upto_region 8 with fail
      go_cut [13] (fun s13 wx => s13 = .int .i64 1 ∧ Hid (VarsB W g c (.slice fo fn fc) (.slice ao an ac) ga a wx))
      case first =>
        refine wp_region_held_drew (S := (fun Y => Below X.heap.size X Y)) (by kernel_rfl) ?_ (fun rN => ?_)
        · exact ⟨rfl, rfl, rfl, Nat.le_refl _, fun _ _ => rfl⟩
        obtain ⟨wn, hwn⟩ : ∃ wn, wn = X.drew := ⟨_, rfl⟩
        rw [← hwn] at rN ⊢
        clear hwn
        have rN : Below X.heap.size X wn := rN
        have HZc : Hid (∀ i : Nat, i = i) := Lib.hid (fun _ => rfl)
        refine wpAnyH_take (i := 0) (v := _) rfl (by kernel_rfl) (by kernel_rfl) (by kernel_rfl) (fun _ _ _ h => h) (ldBIf (by rfl) _ rfl rfl (fun W hW => (HS.out.below hW).1.blk) hl) (by assumption) ?_
        try simp only [Act.put, List.getElem_toArray, List.getElem_cons_zero, List.setIfInBounds_toArray, List.set_cons_zero, List.set_cons_succ]
        refine wpAnyH_take (i := 1) (v := ?_) rfl (by kernel_rfl) (by kernel_rfl) (by kernel_rfl) (fun _ _ _ h => h) (Or.inl ⟨by rfl, ?_⟩) (by assumption) ?_
        rotate_left
        · intro wS hSw
          (try dsimp only at hSw)
          go_simp
          first | done | with_reducible rfl
        try simp only [Act.put, List.getElem_toArray, List.getElem_cons_succ, List.getElem_cons_zero, List.setIfInBounds_toArray, List.set_cons_zero, List.set_cons_succ]
        refine wpAnyH_take (i := 2) (v := ?_) rfl (by kernel_rfl) (by kernel_rfl) (by kernel_rfl) (fun _ _ _ h => h) (Or.inl ⟨by rfl, ?_⟩) (by assumption) ?_
        rotate_left
        · intro wS hSw
          (try dsimp only at hSw)
          obtain ⟨m0, m1⟩ := acells (HS.out.below hSw).2.1
          go_simp
          first | done | with_reducible rfl
        try simp only [Act.put, List.getElem_toArray, List.getElem_cons_succ, List.getElem_cons_zero, List.setIfInBounds_toArray, List.set_cons_zero, List.set_cons_succ]
        refine wpAnyH_ready (rs := [3, 8]) (by kernel_rfl) (by simp) ?_
        refine AllReadyH.cons rfl (fun K hK => ?_) (AllReadyH.cons rfl (fun K hK => ?_) AllReadyH.nil)
        · go_simp
          refine (HLA.out _).mono ?_; rintro z wm ⟨rfl, hbm⟩
          have rM : Below X.heap.size X wm := bel rN hbm
          clear hbm
          refine hK.out _ _ ?_ (fun _ => ?_)
          · exact rM
          try simp only [Act.put, List.getElem_toArray, List.getElem_cons_succ, List.getElem_cons_zero, List.setIfInBounds_toArray, List.set_cons_zero, List.set_cons_succ]
          have rN := rM
          refine wpAnyH_ready (rs := [4, 8]) (by kernel_rfl) (by simp) ?_
          refine AllReadyH.cons rfl (fun K hK => ?_) (AllReadyH.cons rfl (fun K hK => ?_) AllReadyH.nil)
          · go_simp
            refine (HC8.out _ (HS.out.below rN)).mono ?_; rintro z wm ⟨rfl, hbm⟩
            have rM : Below X.heap.size X wm := bel rN hbm
            clear hbm
            refine hK.out _ _ ?_ (fun _ => ?_)
            · exact rM
            try simp only [Act.put, List.getElem_toArray, List.getElem_cons_succ, List.getElem_cons_zero, List.setIfInBounds_toArray, List.set_cons_zero, List.set_cons_succ]
            have rN := rM
            refine wpAnyH_take (i := 5) (v := ?_) rfl (by kernel_rfl) (by kernel_rfl) (by kernel_rfl) (fun _ _ _ h => h) (Or.inl ⟨by rfl, ?_⟩) (by assumption) ?_
            rotate_left
            · intro wS hSw
              (try dsimp only at hSw)
              go_simp
              first | done | with_reducible rfl
            try simp only [Act.put, List.getElem_toArray, List.getElem_cons_succ, List.getElem_cons_zero, List.setIfInBounds_toArray, List.set_cons_zero, List.set_cons_succ]
            refine wpAnyH_take (i := 6) (v := ?_) rfl (by kernel_rfl) (by kernel_rfl) (by kernel_rfl) (fun _ _ _ h => h) (Or.inl ⟨by rfl, ?_⟩) (by assumption) ?_
            rotate_left
            · intro wS hSw
              (try dsimp only at hSw)
              go_simp
              first | done | with_reducible rfl
            try simp only [Act.put, List.getElem_toArray, List.getElem_cons_succ, List.getElem_cons_zero, List.setIfInBounds_toArray, List.set_cons_zero, List.set_cons_succ]
            refine wpAnyH_take (i := 7) (v := ?_) rfl (by kernel_rfl) (by kernel_rfl) (by kernel_rfl) (fun _ _ _ h => h) (Or.inl ⟨by rfl, ?_⟩) (by assumption) ?_
            rotate_left
            · intro wS hSw
              (try dsimp only at hSw)
              go_simp
              first | done | with_reducible rfl
            try simp only [Act.put, List.getElem_toArray, List.getElem_cons_succ, List.getElem_cons_zero, List.setIfInBounds_toArray, List.set_cons_zero, List.set_cons_succ]
            refine wpAnyH_ready (rs := [8]) (by kernel_rfl) (by simp) ?_
            refine AllReadyH.cons rfl (fun K hK => ?_) AllReadyH.nil
            go_simp
            have hz0 := heap_new wm (blkO zB NS NS)
            have hbm := belNew wm (blkO zB NS NS)
            obtain ⟨wz, hwm⟩ : ∃ wz : World, wz = wm.alloc (blkO zB NS NS) := ⟨_, rfl⟩
            rw [← hwm] at hz0 hbm
            have rM : Below X.heap.size X wz := bel rN hbm
            obtain ⟨gz, hgz⟩ : ∃ gz, gz = wm.heap.size := ⟨_, rfl⟩
            have hgx : X.heap.size ≤ gz := by rw [hgz]; exact rN.size
            rw [← hgz] at hz0
            have HZc : Hid (BlkAt wz gz zB NS NS ∧ X.heap.size ≤ gz) := Lib.hid ⟨hz0, hgx⟩
            change K _ (wm.alloc (blkO zB NS NS))
            rw [← hwm, ← hgz]
            clear hwm hgz hz0 hbm hgx
            refine hK.out _ _ ?_ (fun _ => ?_)
            · exact rM
            try simp only [Act.put, List.getElem_toArray, List.getElem_cons_succ, List.getElem_cons_zero, List.setIfInBounds_toArray, List.set_cons_zero, List.set_cons_succ]
            have rN := rM
            refine wpAnyH_ready (rs := [9]) (by kernel_rfl) (by simp) ?_
            refine AllReadyH.cons rfl (fun K hK => ?_) AllReadyH.nil
            rw [if_pos (by kernel_rfl)]
            refine wpStBK (b := zB) (fv := NS) (av := NS) _ _ rfl rfl rfl HZc.out.1 zB_len zB_len rfl rfl ?_; intro wm hxm hgm
            have rM : Below X.heap.size X wm := rN.grown hgm rN.size (fun k hk => by cases hk; exact HZc.out.2)
            clear hxm hgm
            refine hK.out _ _ ?_ (fun _ => ?_)
            · exact rM
            try simp only [Act.put, List.getElem_toArray, List.getElem_cons_succ, List.getElem_cons_zero]
            have rN := rM
            refine wpAnyH_take (i := 10) (v := ?_) rfl (by kernel_rfl) (by kernel_rfl) (by kernel_rfl) (fun _ _ _ h => h) (Or.inl ⟨by rfl, ?_⟩) (by assumption) ?_
            rotate_left
            · intro wS hSw
              (try dsimp only at hSw)
              go_simp
              first | done | with_reducible rfl
            try simp only [Act.put, List.getElem_toArray, List.getElem_cons_succ, List.getElem_cons_zero, List.setIfInBounds_toArray, List.set_cons_zero, List.set_cons_succ]
            refine wpAnyH_done (by kernel_rfl) ?_ _
            (try go_wp2_with fail)
            go_meet
            exact ⟨rfl, Lib.hid (HS.out.below rN)⟩
          · go_simp
            have hz0 := heap_new wm (blkO zB NS NS)
            have hbm := belNew wm (blkO zB NS NS)
            obtain ⟨wz, hwm⟩ : ∃ wz : World, wz = wm.alloc (blkO zB NS NS) := ⟨_, rfl⟩
            rw [← hwm] at hz0 hbm
            have rM : Below X.heap.size X wz := bel rN hbm
            obtain ⟨gz, hgz⟩ : ∃ gz, gz = wm.heap.size := ⟨_, rfl⟩
            have hgx : X.heap.size ≤ gz := by rw [hgz]; exact rN.size
            rw [← hgz] at hz0
            have HZc : Hid (BlkAt wz gz zB NS NS ∧ X.heap.size ≤ gz) := Lib.hid ⟨hz0, hgx⟩
            change K _ (wm.alloc (blkO zB NS NS))
            rw [← hwm, ← hgz]
            clear hwm hgz hz0 hbm hgx
            refine hK.out _ _ ?_ (fun _ => ?_)
            · exact rM
            try simp only [Act.put, List.getElem_toArray, List.getElem_cons_succ, List.getElem_cons_zero, List.setIfInBounds_toArray, List.set_cons_zero, List.set_cons_succ]
            have rN := rM
            refine wpAnyH_ready (rs := [4]) (by kernel_rfl) (by simp) ?_
            refine AllReadyH.cons rfl (fun K hK => ?_) AllReadyH.nil
            go_simp
            refine (HC8.out _ (HS.out.below rN)).mono ?_; rintro z wm ⟨rfl, hbm⟩
            have rM : Below X.heap.size X wm := bel rN hbm
            have HZc := Lib.hid (And.intro (HZc.out.1.below hbm) HZc.out.2)
            clear hbm
            refine hK.out _ _ ?_ (fun _ => ?_)
            · exact rM
            try simp only [Act.put, List.getElem_toArray, List.getElem_cons_succ, List.getElem_cons_zero, List.setIfInBounds_toArray, List.set_cons_zero, List.set_cons_succ]
            have rN := rM
            refine wpAnyH_take (i := 5) (v := ?_) rfl (by kernel_rfl) (by kernel_rfl) (by kernel_rfl) (fun _ _ _ h => h) (Or.inl ⟨by rfl, ?_⟩) (by assumption) ?_
            rotate_left
            · intro wS hSw
              (try dsimp only at hSw)
              go_simp
              first | done | with_reducible rfl
            try simp only [Act.put, List.getElem_toArray, List.getElem_cons_succ, List.getElem_cons_zero, List.setIfInBounds_toArray, List.set_cons_zero, List.set_cons_succ]
            refine wpAnyH_take (i := 6) (v := ?_) rfl (by kernel_rfl) (by kernel_rfl) (by kernel_rfl) (fun _ _ _ h => h) (Or.inl ⟨by rfl, ?_⟩) (by assumption) ?_
            rotate_left
            · intro wS hSw
              (try dsimp only at hSw)
              go_simp
              first | done | with_reducible rfl
            try simp only [Act.put, List.getElem_toArray, List.getElem_cons_succ, List.getElem_cons_zero, List.setIfInBounds_toArray, List.set_cons_zero, List.set_cons_succ]
            refine wpAnyH_take (i := 7) (v := ?_) rfl (by kernel_rfl) (by kernel_rfl) (by kernel_rfl) (fun _ _ _ h => h) (Or.inl ⟨by rfl, ?_⟩) (by assumption) ?_
            rotate_left
            · intro wS hSw
              (try dsimp only at hSw)
              go_simp
              first | done | with_reducible rfl
            try simp only [Act.put, List.getElem_toArray, List.getElem_cons_succ, List.getElem_cons_zero, List.setIfInBounds_toArray, List.set_cons_zero, List.set_cons_succ]
            refine wpAnyH_ready (rs := [9]) (by kernel_rfl) (by simp) ?_
            refine AllReadyH.cons rfl (fun K hK => ?_) AllReadyH.nil
            rw [if_pos (by kernel_rfl)]
            refine wpStBK (b := zB) (fv := NS) (av := NS) _ _ rfl rfl rfl HZc.out.1 zB_len zB_len rfl rfl ?_; intro wm hxm hgm
            have rM : Below X.heap.size X wm := rN.grown hgm rN.size (fun k hk => by cases hk; exact HZc.out.2)
            clear hxm hgm
            refine hK.out _ _ ?_ (fun _ => ?_)
            · exact rM
            try simp only [Act.put, List.getElem_toArray, List.getElem_cons_succ, List.getElem_cons_zero]
            have rN := rM
            refine wpAnyH_take (i := 10) (v := ?_) rfl (by kernel_rfl) (by kernel_rfl) (by kernel_rfl) (fun _ _ _ h => h) (Or.inl ⟨by rfl, ?_⟩) (by assumption) ?_
            rotate_left
            · intro wS hSw
              (try dsimp only at hSw)
              go_simp
              first | done | with_reducible rfl
            try simp only [Act.put, List.getElem_toArray, List.getElem_cons_succ, List.getElem_cons_zero, List.setIfInBounds_toArray, List.set_cons_zero, List.set_cons_succ]
            refine wpAnyH_done (by kernel_rfl) ?_ _
            (try go_wp2_with fail)
            go_meet
            exact ⟨rfl, Lib.hid (HS.out.below rN)⟩
        · go_simp
          have hz0 := heap_new wn (blkO zB NS NS)
          have hbm := belNew wn (blkO zB NS NS)
          obtain ⟨wz, hwm⟩ : ∃ wz : World, wz = wn.alloc (blkO zB NS NS) := ⟨_, rfl⟩
          rw [← hwm] at hz0 hbm
          have rM : Below X.heap.size X wz := bel rN hbm
          obtain ⟨gz, hgz⟩ : ∃ gz, gz = wn.heap.size := ⟨_, rfl⟩
          have hgx : X.heap.size ≤ gz := by rw [hgz]; exact rN.size
          rw [← hgz] at hz0
          have HZc : Hid (BlkAt wz gz zB NS NS ∧ X.heap.size ≤ gz) := Lib.hid ⟨hz0, hgx⟩
          change K _ (wn.alloc (blkO zB NS NS))
          rw [← hwm, ← hgz]
          clear hwm hgz hz0 hbm hgx
          refine hK.out _ _ ?_ (fun _ => ?_)
          · exact rM
          try simp only [Act.put, List.getElem_toArray, List.getElem_cons_succ, List.getElem_cons_zero, List.setIfInBounds_toArray, List.set_cons_zero, List.set_cons_succ]
          have rN := rM
          refine wpAnyH_ready (rs := [3]) (by kernel_rfl) (by simp) ?_
          refine AllReadyH.cons rfl (fun K hK => ?_) AllReadyH.nil
          go_simp
          refine (HLA.out _).mono ?_; rintro z wm ⟨rfl, hbm⟩
          have rM : Below X.heap.size X wm := bel rN hbm
          have HZc := Lib.hid (And.intro (HZc.out.1.below hbm) HZc.out.2)
          clear hbm
          refine hK.out _ _ ?_ (fun _ => ?_)
          · exact rM
          try simp only [Act.put, List.getElem_toArray, List.getElem_cons_succ, List.getElem_cons_zero, List.setIfInBounds_toArray, List.set_cons_zero, List.set_cons_succ]
          have rN := rM
          refine wpAnyH_ready (rs := [4]) (by kernel_rfl) (by simp) ?_
          refine AllReadyH.cons rfl (fun K hK => ?_) AllReadyH.nil
          go_simp
          refine (HC8.out _ (HS.out.below rN)).mono ?_; rintro z wm ⟨rfl, hbm⟩
          have rM : Below X.heap.size X wm := bel rN hbm
          have HZc := Lib.hid (And.intro (HZc.out.1.below hbm) HZc.out.2)
          clear hbm
          refine hK.out _ _ ?_ (fun _ => ?_)
          · exact rM
          try simp only [Act.put, List.getElem_toArray, List.getElem_cons_succ, List.getElem_cons_zero, List.setIfInBounds_toArray, List.set_cons_zero, List.set_cons_succ]
          have rN := rM
          refine wpAnyH_take (i := 5) (v := ?_) rfl (by kernel_rfl) (by kernel_rfl) (by kernel_rfl) (fun _ _ _ h => h) (Or.inl ⟨by rfl, ?_⟩) (by assumption) ?_
          rotate_left
          · intro wS hSw
            (try dsimp only at hSw)
            go_simp
            first | done | with_reducible rfl
          try simp only [Act.put, List.getElem_toArray, List.getElem_cons_succ, List.getElem_cons_zero, List.setIfInBounds_toArray, List.set_cons_zero, List.set_cons_succ]
          refine wpAnyH_take (i := 6) (v := ?_) rfl (by kernel_rfl) (by kernel_rfl) (by kernel_rfl) (fun _ _ _ h => h) (Or.inl ⟨by rfl, ?_⟩) (by assumption) ?_
          rotate_left
          · intro wS hSw
            (try dsimp only at hSw)
            go_simp
            first | done | with_reducible rfl
          try simp only [Act.put, List.getElem_toArray, List.getElem_cons_succ, List.getElem_cons_zero, List.setIfInBounds_toArray, List.set_cons_zero, List.set_cons_succ]
          refine wpAnyH_take (i := 7) (v := ?_) rfl (by kernel_rfl) (by kernel_rfl) (by kernel_rfl) (fun _ _ _ h => h) (Or.inl ⟨by rfl, ?_⟩) (by assumption) ?_
          rotate_left
          · intro wS hSw
            (try dsimp only at hSw)
            go_simp
            first | done | with_reducible rfl
          try simp only [Act.put, List.getElem_toArray, List.getElem_cons_succ, List.getElem_cons_zero, List.setIfInBounds_toArray, List.set_cons_zero, List.set_cons_succ]
          refine wpAnyH_ready (rs := [9]) (by kernel_rfl) (by simp) ?_
          refine AllReadyH.cons rfl (fun K hK => ?_) AllReadyH.nil
          rw [if_pos (by kernel_rfl)]
          refine wpStBK (b := zB) (fv := NS) (av := NS) _ _ rfl rfl rfl HZc.out.1 zB_len zB_len rfl rfl ?_; intro wm hxm hgm
          have rM : Below X.heap.size X wm := rN.grown hgm rN.size (fun k hk => by cases hk; exact HZc.out.2)
          clear hxm hgm
          refine hK.out _ _ ?_ (fun _ => ?_)
          · exact rM
          try simp only [Act.put, List.getElem_toArray, List.getElem_cons_succ, List.getElem_cons_zero]
          have rN := rM
          refine wpAnyH_take (i := 10) (v := ?_) rfl (by kernel_rfl) (by kernel_rfl) (by kernel_rfl) (fun _ _ _ h => h) (Or.inl ⟨by rfl, ?_⟩) (by assumption) ?_
          rotate_left
          · intro wS hSw
            (try dsimp only at hSw)
            go_simp
            first | done | with_reducible rfl
          try simp only [Act.put, List.getElem_toArray, List.getElem_cons_succ, List.getElem_cons_zero, List.setIfInBounds_toArray, List.set_cons_zero, List.set_cons_succ]
          refine wpAnyH_done (by kernel_rfl) ?_ _
          (try go_wp2_with fail)
          go_meet
          exact ⟨rfl, Lib.hid (HS.out.below rN)⟩
      case rest =>
        obtain ⟨rfl, HC0⟩ := hcut
        clear HS
        have HS := HC0
        clear HC0
        obtain ⟨X, rfl⟩ : ∃ X, X = wc := ⟨_, rfl⟩
        -- region 9
        have hl9 : Below X.heap.size X (X.alloc (.cells #[.int .u32 x] 22)) := belNew _ _
        have HS9 := Lib.hid (HS.out.below hl9)
        have HU9 : Hid (SeesU (X.alloc (.cells #[.int .u32 x] 22)) (.slice (some ⟨X.heap.size, 0, none⟩) 1 1) [x]) := Lib.hid (one_seesU X x)
        have HC9 := Lib.hid (release15_bad c _ _ (.slice (some ⟨X.heap.size, 0, none⟩) 1 1) [x] _ HS9.out.1.free HS9.out.1.attrs HWF.out HU9.out HNO.out)
        clear hl9
        go_wp2_with (refine wpLdB rfl _ rfl rfl HS.out.1.blk hl ?_)
        refine HC9.out.mono ?_; rintro e w7 ⟨rfl, hb7⟩
        have HS7 := Lib.hid (HS9.out.below hb7)
        clear HS HS9 HU9 HC9
        have HX2 : Hid (BlkAt (w7.alloc (blkO zB NS NS)) w7.heap.size zB NS NS) := Lib.hid (heap_new w7 _)
        go_upto_region 10 with ((change wpList _ _ _ _ _ (w7.alloc (blkO zB NS NS))); refine wpStB (b := zB) rfl _ _ rfl rfl rfl HX2.out zB_len zB_len rfl rfl ?_; intro w8 hx8 hg8)
        have HS := Lib.hid (HS7.out.below (st_new hg8))
        clear hb7 hx8 hg8 HX2 HS7
        obtain ⟨X, rfl⟩ : ∃ X, X = w8 := ⟨_, rfl⟩
        obtain ⟨p0, p1⟩ := acells HS.out.2.1
        go_wp2_with (refine wpLdB rfl _ rfl rfl HS.out.1.blk hl ?_)
        refine (releaseH_no c _ _ a.1 _ HS.out.1.free HS.out.1.attrs HWF.out HNO.out).mono ?_; rintro e w7 ⟨rfl, hb7⟩
        clear p0 p1
        have HS7 := Lib.hid (HS.out.below hb7)
        clear HS
        have HX2 : Hid (BlkAt (w7.alloc (blkO zB NS NS)) w7.heap.size zB NS NS) := Lib.hid (heap_new w7 _)
        go_upto_region 11 with ((change wpList _ _ _ _ _ (w7.alloc (blkO zB NS NS))); refine wpStB (b := zB) rfl _ _ rfl rfl rfl HX2.out zB_len zB_len rfl rfl ?_; intro w8 hx8 hg8)
        have HS := Lib.hid (HS7.out.below (st_new hg8))
        clear hb7 hx8 hg8 HX2 HS7
        obtain ⟨X, rfl⟩ : ∃ X, X = w8 := ⟨_, rfl⟩
        obtain ⟨p0, p1⟩ := acells HS.out.2.1
        go_wp2_with (refine wpLdB rfl _ rfl rfl HS.out.1.blk hl ?_)
        refine (releaseN_no c _ _ a.2 _ HS.out.1.free HS.out.1.attrs HWF.out HNO.out).mono ?_; rintro e w7 ⟨rfl, hb7⟩
        clear p0 p1
        have HS7 := Lib.hid (HS.out.below hb7)
        clear HS
        have HX2 : Hid (BlkAt (w7.alloc (blkO zB NS NS)) w7.heap.size zB NS NS) := Lib.hid (heap_new w7 _)
        go_upto_region 12 with ((change wpList _ _ _ _ _ (w7.alloc (blkO zB NS NS))); refine wpStB (b := zB) rfl _ _ rfl rfl rfl HX2.out zB_len zB_len rfl rfl ?_; intro w8 hx8 hg8)
        have HS := Lib.hid (HS7.out.below (st_new hg8))
        clear hb7 hx8 hg8 HX2 HS7
        obtain ⟨X, rfl⟩ : ∃ X, X = w8 := ⟨_, rfl⟩
        go_wp2_with (refine wpLdB rfl _ rfl rfl HS.out.1.blk hl ?_)
        refine (own_bad c _ _ em _ HS.out.1.free HS.out.1.attrs HWF.out (by decide) (Or.inl HNO.out)).mono ?_; rintro e w7 ⟨rfl, hb7⟩
        have HS7 := Lib.hid (HS.out.below hb7)
        clear HS
        have HX2 : Hid (BlkAt (w7.alloc (blkO zB NS NS)) w7.heap.size zB NS NS) := Lib.hid (heap_new w7 _)
        go_upto_region 13 with ((change wpList _ _ _ _ _ (w7.alloc (blkO zB NS NS))); refine wpStB (b := zB) rfl _ _ rfl rfl rfl HX2.out zB_len zB_len rfl rfl ?_; intro w8 hx8 hg8)
        have HS := Lib.hid (HS7.out.below (st_new hg8))
        clear hb7 hx8 hg8 HX2 HS7
        obtain ⟨X, rfl⟩ : ∃ X, X = w8 := ⟨_, rfl⟩
        have HOP : Hid (ofP c x = ((em, em), false)) := Lib.hid (by unfold ofP; rw [if_neg (by rw [HNO.out]; decide)])
        have HC13 := Lib.hid (of15_any c _ _ x X HS.out.1.free HS.out.1.attrs HWF.out HM.out.2.1 HM.out.2.2)
        rw [HOP.out] at HC13
        go_wp2_with (refine wpLdB rfl _ rfl rfl HS.out.1.blk hl ?_)
        refine HC13.out.mono ?_; rintro e w7 ⟨rfl, hb7⟩
        have HS7 := Lib.hid (HS.out.below hb7)
        clear HS hb7 HC13
        go_upto_region 14 with fail
        change Code.wp _ _ _ _ (w7.alloc (atO (em, em)))
        have HS := Lib.hid (HS7.out.below (belNew w7 (atO (em, em))))
        clear HS7
        generalize w7.alloc (atO (em, em)) = X at HS ⊢
        have HE0 : Hid (emptyS c = false) := Lib.hid (by unfold emptyS; rw [HNO.out]; rfl)
        have HEM := Lib.hid (empty15_any c _ _ X HS.out.1.free HS.out.1.attrs HWF.out)
        rw [HE0.out] at HEM
        go_wp2_with (refine wpLdBg (by rfl) _ rfl rfl HS.out.1.blk hl ?_)
        refine HEM.out.mono ?_; rintro e wa ⟨rfl, hba⟩
        have HSa := Lib.hid (HS.out.below hba)
        clear HS hba HEM
        go_wp2_with (refine wpLdBg (by rfl) _ rfl rfl HSa.out.1.blk hl ?_)
        refine (count15_bad c _ _ wa HSa.out.1.free HSa.out.1.attrs HWF.out HNO.out).mono ?_; rintro e wb ⟨rfl, hbb⟩
        have HSb := Lib.hid (HSa.out.below hbb)
        clear HSa hbb
        go_wp2_with (refine wpLdBg (by rfl) _ rfl rfl HSb.out.1.blk hl ?_)
        refine (given15_bad c _ _ wb HSb.out.1.free HSb.out.1.attrs HWF.out HNO.out).mono ?_; rintro e wd ⟨rfl, hbd⟩
        have HSd := Lib.hid (HSb.out.below hbd)
        clear HSb hbd
        go_wp2_with fail
        refine (HAW.out _).mono ?_; rintro e we ⟨rfl, hbe⟩
        have HSe := Lib.hid (HSd.out.below hbe)
        clear HSd hbe
        go_wp2_with fail
        go_ret
        exact ⟨rfl, HSe.out.2.2⟩
end Go.Proofs.Ytgodmnpcedfdcaa
