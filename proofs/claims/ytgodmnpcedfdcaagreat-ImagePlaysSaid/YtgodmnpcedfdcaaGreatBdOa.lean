/- The laws' Do: ReleaseHandle. Made by g_bdn.py. -/
import Derived.Test.YtgodmnpcedfdcaaGreatJDo
namespace Go.Proofs.YtgodmnpcedfdcaaGreat
open Go.RowKit
set_option maxRecDepth 100000 in
set_option maxHeartbeats 16000000 in
theorem do5 (b : BlkS) (f1 a1 p1 q1 r1 : Option Addr) (f2 f3 a2 a3 p2 p3 q2 q3 r2 r3 : Nat) (n : Int) (a : PA) (l1 : Option Addr) (l2 l3 : Nat) (l : List Int) (s : ByteArray) (w : World) (hB : Both w b (.slice f1 f2 f3) (.slice a1 a2 a3) (.slice p1 p2 p3) (.slice q1 q2 q3) (.slice r1 r2 r3)) (_ : a.1.size ≤ maxLen) (_ : a.2.size ≤ maxLen) (hls : SeesU w (.slice l1 l2 l3) l) (hlx : ∀ x ∈ l, 0 ≤ x ∧ x < 4294967296) (_ : s.size ≤ maxLen) (he : ¬ a.1 = em) :
    Calls Tryz.prog 6 #[.agg (blkL b (.slice f1 f2 f3) (.slice a1 a2 a3)).toArray, docV b.addr b.aff (.slice p1 p2 p3) (.slice q1 q2 q3) (.slice r1 r2 r3), stV 5 n a (.slice l1 l2 l3) s] w (DoP w b (.slice f1 f2 f3) (.slice a1 a2 a3) (.slice p1 p2 p3) (.slice q1 q2 q3) (.slice r1 r2 r3)) := by
  have hl := hB.wf.2.1
  have HBo := Lib.hid hB
  obtain ⟨m, hm1, hm2, hm3, hm4, hm5⟩ := cut80 hls
  have HMM := Lib.hid (And.intro hm1 hm2)
  have HLT := Lib.hid (And.intro hm3 (And.intro hm4 hm5))
  have HLX : Hid (∀ x ∈ l.take m, 0 ≤ x ∧ x < 4294967296) := Lib.hid (fun x hx => hlx x (List.mem_of_mem_take hx))
  have h64 := (right_bd hB.wf hB.right).1
  have hgl := gvD_len b.addr b.sl b.attrs a.1 em 64
  have hbd : ∀ x ∈ gvD b.addr b.sl b.attrs a.1 em 64, 0 ≤ x ∧ x < 4294967296 := gv_bd hB.wf hB.right a.1 em 64 (Nat.le_refl _)
  have hmean := rel_meant h64 (fun p : PA => decide (p.1 = a.1)) a.1 em (meantE1 a.1 he)
  have HGI : Hid (∀ Y, Below w.heap.size w Y → Calls Tryz.prog 24 #[docV b.addr b.aff (.slice p1 p2 p3) (.slice q1 q2 q3) (.slice r1 r2 r3), .string a.1, .string em] Y fun e w' => ∃ v, e = .returned v ∧ RowU1 w' Y.heap.size v (gvD b.addr b.sl b.attrs a.1 em 64) ∧ Below Y.heap.size Y w') := Lib.hid (fun Y hY => refGiven_any b.addr b.aff _ _ _ b.sl b.free b.attrs a.1 em Y (hB.doc.below hY) hB.wf.2.1 (Nat.le_trans (right_bd hB.wf hB.right).2.2.1 (by decide)) hB.wf.1.1 (by have := hB.wf.1.2; clear hgl hbd hmean; omega) h64 (right_bd hB.wf hB.right).2.2.2)
  generalize gvD b.addr b.sl b.attrs a.1 em 64 = GL at *
  have hpos : ∀ x ∈ GL, 0 ≤ x := fun x hx => (hbd x hx).1
  obtain ⟨C, hC⟩ : ∃ C, C = tidS (relN (fun _ => true) b (GL) (GL).length).1 := ⟨_, rfl⟩
  obtain ⟨T, hT⟩ : ∃ T : List Int, T = (relN (fun _ => true) b (GL) (GL).length).2 := ⟨_, rfl⟩
  obtain ⟨hok1, hok2⟩ := rel_right (fun _ => true) hB.wf hB.right (l := GL) hpos
  rw [← hC] at hok1 hok2
  have HCL : Hid (C.sl.length = 64) := Lib.hid hok2.2.1
  have HCB := Lib.hid (And.intro hok2 hok1)
  have hinv := relN_inv (fun _ => true) b (GL) hB.wf.2.1 (right_bd hB.wf hB.right).2.2.2 (GL).length
  have HCA : Hid (C.addr = b.addr ∧ C.aff = b.aff) := Lib.hid (by rw [hC]; exact ⟨hinv.1, hinv.2.1⟩)
  have HTL : Hid (T.length ≤ maxLen) := Lib.hid (by rw [hT]; have := rel_told (M := fun _ => true) (b := b) (l := GL) (GL).length; unfold maxLen; omega)
  have HC : Hid (∀ Y, Below w.heap.size w Y → Calls Tryz.prog 23 #[.agg (blkL b (.slice f1 f2 f3) (.slice a1 a2 a3)).toArray, .string a.1] Y fun e Z => ∃ fo fn fc ao an ac ti tn tc, e = .returned (.tuple #[.agg (blkL C (.slice fo fn fc) (.slice ao an ac)).toArray, .slice ti tn tc, .int .i64 0]) ∧ Owns Z Y.heap.size (.slice fo fn fc) C.free ∧ RowA EAt Z Y.heap.size (.slice ao an ac) C.attrs ∧ OwnsU Z Y.heap.size (.slice ti tn tc) T ∧ Below Y.heap.size Y Z) := Lib.hid (by
    intro Y hY
    have h := releaseH_ok b _ _ a.1 Y (hB.free.keep hY) (hB.attrs.below hY) hB.wf hB.right
    rw [hmean] at h
    rw [← hC, ← hT] at h
    refine h.mono ?_
    rintro e Z ⟨fv, av, tv, rfl, hr, ht⟩
    obtain ⟨fo, fn, fc, rfl⟩ := own_form hr.free
    obtain ⟨ao, an, ac, rfl⟩ := own_form hr.attrs
    obtain ⟨ti, tn, tc, rfl⟩ := own_form ht
    exact ⟨fo, fn, fc, ao, an, ac, ti, tn, tc, rfl, hr.free, hr.attrs, ht, hr.below⟩)
  have HDA : Hid (∀ Y lv, Below w.heap.size w Y → SeesG 1 encU1 Y lv (GL) → Calls Tryz.prog 22 #[docV b.addr b.aff (.slice p1 p2 p3) (.slice q1 q2 q3) (.slice r1 r2 r3), lv] Y fun e w' => ∃ u1 u2 u3 tv, e = .returned (.tuple #[docV b.addr b.aff u1 u2 u3, tv]) ∧ DocOwn Y w' C u1 u2 u3 ∧ RowU1 w' Y.heap.size tv T) := Lib.hid (fun Y lv hY hlv => by
    have h := docRelease_any b _ _ _ lv (GL) Y (hB.doc.below hY) hB.wf hB.right hlv hbd (by omega)
    rw [← hC, ← hT] at h
    exact h)
  have hne : ¬ a.1 = em := he
  have hne' : (a.1.toList == ([] : List UInt8)) = false := ne_em he
  have HS := Lib.hid (Lw0.new w b (.slice f1 f2 f3) (.slice a1 a2 a3) (.slice p1 p2 p3) (.slice q1 q2 q3) (.slice r1 r2 r3) (stO 5 n a (.slice l1 l2 l3) s))
  obtain ⟨X, hX⟩ : ∃ X, X = (((((w.alloc (blkO b (.slice f1 f2 f3) (.slice a1 a2 a3))).alloc (docO b.addr b.aff (.slice p1 p2 p3) (.slice q1 q2 q3) (.slice r1 r2 r3))).alloc (stO 5 n a (.slice l1 l2 l3) s)).alloc (blkO zB NS NS)).alloc (docO 0 ⟨#[]⟩ NS NS NS)) := ⟨_, rfl⟩
  rw [← hX] at HS
  have HW := Lib.hid hX
  clear hm1 hm2 hm3 hm4 hm5 hls hlx hX hB
  clear hpos hbd hgl h64 hmean hC hT hok1 hok2 hinv he
  go_enter Tryz.func6, Tryz.ntmps6
  go_upto_region 1 with fail
  change Code.wp _ _ _ _ (((((w.alloc (blkO b (.slice f1 f2 f3) (.slice a1 a2 a3))).alloc (docO b.addr b.aff (.slice p1 p2 p3) (.slice q1 q2 q3) (.slice r1 r2 r3))).alloc (stO 5 n a (.slice l1 l2 l3) s)).alloc (blkO zB NS NS)).alloc (docO 0 ⟨#[]⟩ NS NS NS))
  rw [← HW.out]
  clear HW
  obtain ⟨cc0, cc1, cc2, cc3, cc4, cc5⟩ := stcells HS.out.inp.attr
  go_upto_if 37 with fail
  go_cut [9] (fun s9 wx => s9 = .slice l1 m l3 ∧ wx = X)
  case first =>
    by_cases h80 : 80 < l2
    · obtain ⟨rfl, hcap, la, rfl⟩ := HMM.out.1 h80
      have hd : decide (80 < (l2 : Int)) = true := decide_eq_true (by omega)
      have hd' : decide (80 < l2) = true := decide_eq_true h80
      go_wp2_with fail
      go_meet
      exact ⟨rfl, rfl⟩
    · obtain rfl := HMM.out.2 h80
      have hd : decide (80 < (m : Int)) = false := decide_eq_false (by omega)
      have hd' : decide (80 < m) = false := decide_eq_false h80
      go_wp2_with fail
      go_meet
      exact ⟨rfl, rfl⟩
  case rest =>
    obtain ⟨rfl, hwc⟩ := hcut
    subst wc
    go_upto_region 22 with fail
    go_wp2_with (refine wpLdB rfl _ rfl rfl HS.out.inp.blk hl ?_)
    refine (HC.out _ HS.out.inp.below).mono ?_; rintro e w4 ⟨fo, fn, fc, ao, an, ac, ti, tn, tc, rfl, hfr, hat, hto, hb4⟩
    have HS4 := Lib.hid (HS.out.later hb4)
    have HR := Lib.hid (And.intro (own_le hfr HS.out.inp.size) (And.intro (own_le hat HS.out.inp.size) (own_le hto HS.out.inp.size)))
    have HB4 := Lib.hid (Nat.le_trans HS.out.inp.size hb4.size)
    have HX2 : Hid (BlkAt (w4.alloc (blkO zB NS NS)) w4.heap.size zB NS NS) := Lib.hid (heap_new w4 _)
    clear hfr hat hto hb4 HC HS cc0 cc1 cc2 cc3 cc4 cc5
    go_upto_region 23 with ((change wpList _ _ _ _ _ (w4.alloc (blkO zB NS NS))); refine wpStB (b := C) rfl _ _ rfl rfl rfl HX2.out zB_len HCL.out rfl rfl ?_; intro w5 hx5 hg5)
    obtain ⟨hv5, hb5⟩ := varO_new HR.out.1 HR.out.2.1 hx5 hg5
    have HX : Hid (LwS w b (.slice f1 f2 f3) (.slice a1 a2 a3) (.slice p1 p2 p3) (.slice q1 q2 q3) (.slice r1 r2 r3) (stO 5 n a (.slice l1 l2 l3) s) w4.heap.size C (.slice fo fn fc) (.slice ao an ac) w5) := Lib.hid ((HS4.out.later hb5).toS hv5 HB4.out)
    have HTO := Lib.hid (own_keep HR.out.2.2 hb5)
    clear HS4 HR HB4 HX2 hx5 hg5 hv5 hb5
    obtain ⟨g, hg⟩ : ∃ g, g = w4.heap.size := ⟨_, rfl⟩
    rw [← hg] at HX ⊢
    clear hg
    obtain ⟨X, rfl⟩ : ∃ X, X = w5 := ⟨_, rfl⟩
    obtain ⟨cc0, cc1, cc2, cc3, cc4, cc5⟩ := stcells HX.out.inp.attr
    clear cc0 cc1 cc2 cc3 cc4 cc5
    have HAPD : Hid (∀ (Y : World) (B : Nat) u1 u2 u3, RowI1 Y B u1 C.sl → RowI1 Y B u2 C.free → RowG ERt 2 encA Y B u3 C.attrs → ∀ g, g < B → ApD g C u1 u2 u3) := Lib.hid (fun Y B u1 u2 u3 h1 h2 h3 g hg => ⟨fun _ e => by have := (World.ownsRow.lt h1 g e).1; omega, fun _ e => by have := (World.ownsRow.lt h2 g e).1; omega, fun _ e => by have := (World.ownsRow.lt h3 g e).1; omega⟩)
    go_cut [23, 24] (fun s23 s24 wx => ∃ (gd : Nat) (x1 : Option Addr) (x2 x3 : Nat) (y1 : Option Addr) (y2 y3 : Nat) (z1 : Option Addr) (z2 z3 : Nat) (uo : Option Addr) (un uc : Nat), s23 = .pointer (some ⟨gd, 0, none⟩) ∧ s24 = .slice uo un uc ∧ Hid (LwS w b (.slice f1 f2 f3) (.slice a1 a2 a3) (.slice p1 p2 p3) (.slice q1 q2 q3) (.slice r1 r2 r3) (stO 5 n a (.slice l1 l2 l3) s) g C (.slice fo fn fc) (.slice ao an ac) wx ∧ LwD w gd C (.slice x1 x2 x3) (.slice y1 y2 y3) (.slice z1 z2 z3) (.slice ti tn tc) (.slice uo un uc) T wx ∧ ∀ g, g < w.heap.size → ApD g C (.slice x1 x2 x3) (.slice y1 y2 y3) (.slice z1 z2 z3)))
    case first =>
      refine wp_region_held_drew (S := (fun Y => Below X.heap.size X Y)) (by kernel_rfl) ?_ (fun rN => ?_)
      · exact ⟨rfl, rfl, rfl, Nat.le_refl _, fun _ _ => rfl⟩
      obtain ⟨wn, hwn⟩ : ∃ wn, wn = X.drew := ⟨_, rfl⟩
      rw [← hwn] at rN ⊢
      clear hwn
      have rN : Below X.heap.size X wn := rN
      refine wpAnyH_take (i := 0) (v := _) rfl (by kernel_rfl) (by kernel_rfl) (by kernel_rfl) (fun _ _ _ h => h) (ldDIf (by rfl) _ rfl rfl (fun W hW => (HX.out.later hW).inp.doc) ) (by assumption) ?_
      try simp only [Act.put, List.getElem_toArray, List.getElem_cons_zero, List.setIfInBounds_toArray, List.set_cons_zero, List.set_cons_succ]
      refine wpAnyH_take (i := 1) (v := _) rfl (by kernel_rfl) (by kernel_rfl) (by kernel_rfl) (fun _ _ _ h => h) (ldDIf (by rfl) _ rfl rfl (fun W hW => (HX.out.later hW).inp.doc) ) (by assumption) ?_
      try simp only [Act.put, List.getElem_toArray, List.getElem_cons_succ, List.getElem_cons_zero, List.setIfInBounds_toArray, List.set_cons_zero, List.set_cons_succ]
      refine wpAnyH_take (i := 2) (v := ?_) rfl (by kernel_rfl) (by kernel_rfl) (by kernel_rfl) (fun _ _ _ h => h) (Or.inl ⟨by rfl, ?_⟩) (by assumption) ?_
      rotate_left
      · intro wS hSw
        (try dsimp only at hSw)
        go_simp
        first | done | with_reducible rfl
      try simp only [Act.put, List.getElem_toArray, List.getElem_cons_succ, List.getElem_cons_zero, List.setIfInBounds_toArray, List.set_cons_zero, List.set_cons_succ]
      refine wpAnyH_take (i := 3) (v := ?_) rfl (by kernel_rfl) (by kernel_rfl) (by kernel_rfl) (fun _ _ _ h => h) (Or.inl ⟨by rfl, ?_⟩) (by assumption) ?_
      rotate_left
      · intro wS hSw
        (try dsimp only at hSw)
        go_simp
        first | done | with_reducible rfl
      try simp only [Act.put, List.getElem_toArray, List.getElem_cons_succ, List.getElem_cons_zero, List.setIfInBounds_toArray, List.set_cons_zero, List.set_cons_succ]
      refine wpAnyH_take (i := 4) (v := ?_) rfl (by kernel_rfl) (by kernel_rfl) (by kernel_rfl) (fun _ _ _ h => h) (Or.inl ⟨by rfl, ?_⟩) (by assumption) ?_
      rotate_left
      · intro wS hSw
        (try dsimp only at hSw)
        obtain ⟨m0, m1, m2, m3, m4, m5⟩ := stcells (HX.out.later hSw).inp.attr
        go_simp
        first | done | with_reducible rfl
      try simp only [Act.put, List.getElem_toArray, List.getElem_cons_succ, List.getElem_cons_zero, List.setIfInBounds_toArray, List.set_cons_zero, List.set_cons_succ]
      refine wpAnyH_ready (rs := [5, 10]) (by kernel_rfl) (by simp) ?_
      refine AllReadyH.cons rfl (fun K hK => ?_) (AllReadyH.cons rfl (fun K hK => ?_) AllReadyH.nil)
      · go_simp
        refine (HGI.out _ (HX.out.later rN).inp.below).mono ?_; rintro z wm ⟨lv, rfl, hlv, hbm⟩
        have rM : Below X.heap.size X wm := bel rN hbm
        obtain ⟨li, ln, lc, rfl⟩ := own_form hlv
        have HGV := Lib.hid hlv
        clear hbm hlv
        refine hK.out _ _ ?_ (fun _ => ?_)
        · exact rM
        try simp only [Act.put, List.getElem_toArray, List.getElem_cons_succ, List.getElem_cons_zero, List.setIfInBounds_toArray, List.set_cons_zero, List.set_cons_succ]
        have rN := rM
        refine wpAnyH_ready (rs := [6, 10]) (by kernel_rfl) (by simp) ?_
        refine AllReadyH.cons rfl (fun K hK => ?_) (AllReadyH.cons rfl (fun K hK => ?_) AllReadyH.nil)
        · go_simp
          refine (HDA.out _ (.slice li ln lc) (HX.out.later rN).inp.below (RowG.sees HGV.out (fun _ => rfl))).mono ?_; rintro z wm ⟨v1, v2, v3, tw, rfl, hdo, ht5⟩
          have hbm := hdo.below
          have rM : Below X.heap.size X wm := bel rN hbm
          obtain ⟨x1, x2, x3, rfl⟩ := own_form hdo.slots
          obtain ⟨y1, y2, y3, rfl⟩ := own_form hdo.free
          obtain ⟨z1, z2, z3, rfl⟩ := own_form hdo.attrs
          obtain ⟨uo, un, uc, rfl⟩ := own_form ht5
          have hsw := Nat.le_trans HX.out.inp.size rN.size
          have HR := Lib.hid (And.intro (And.intro (own_le hdo.slots hsw) (own_le hdo.free hsw)) (And.intro (own_le hdo.attrs hsw) (own_le ht5 hsw)))
          have HGV0 := Lib.hid (own_keep HGV.out hbm)
          clear hbm hdo ht5 hsw HGV
          refine hK.out _ _ ?_ (fun _ => ?_)
          · exact rM
          try simp only [Act.put, List.getElem_toArray, List.getElem_cons_succ, List.getElem_cons_zero, List.setIfInBounds_toArray, List.set_cons_zero, List.set_cons_succ]
          have rN := rM
          refine wpAnyH_take (i := 7) (v := ?_) rfl (by kernel_rfl) (by kernel_rfl) (by kernel_rfl) (fun _ _ _ h => h) (Or.inl ⟨by rfl, ?_⟩) (by assumption) ?_
          rotate_left
          · intro wS hSw
            (try dsimp only at hSw)
            go_simp
            first | done | with_reducible rfl
          try simp only [Act.put, List.getElem_toArray, List.getElem_cons_succ, List.getElem_cons_zero, List.setIfInBounds_toArray, List.set_cons_zero, List.set_cons_succ]
          refine wpAnyH_take (i := 8) (v := ?_) rfl (by kernel_rfl) (by kernel_rfl) (by kernel_rfl) (fun _ _ _ h => h) (Or.inl ⟨by rfl, ?_⟩) (by assumption) ?_
          rotate_left
          · intro wS hSw
            (try dsimp only at hSw)
            go_simp
            first | done | with_reducible rfl
          try simp only [Act.put, List.getElem_toArray, List.getElem_cons_succ, List.getElem_cons_zero, List.setIfInBounds_toArray, List.set_cons_zero, List.set_cons_succ]
          refine wpAnyH_take (i := 9) (v := ?_) rfl (by kernel_rfl) (by kernel_rfl) (by kernel_rfl) (fun _ _ _ h => h) (Or.inl ⟨by rfl, ?_⟩) (by assumption) ?_
          rotate_left
          · intro wS hSw
            (try dsimp only at hSw)
            go_simp
            first | done | with_reducible rfl
          try simp only [Act.put, List.getElem_toArray, List.getElem_cons_succ, List.getElem_cons_zero, List.setIfInBounds_toArray, List.set_cons_zero, List.set_cons_succ]
          refine wpAnyH_ready (rs := [10]) (by kernel_rfl) (by simp) ?_
          refine AllReadyH.cons rfl (fun K hK => ?_) AllReadyH.nil
          go_simp
          have hz0 : DocAt (wm.alloc (docO 0 ⟨#[]⟩ NS NS NS)) wm.heap.size 0 ⟨#[]⟩ NS NS NS := heap_new wm _
          have hbm := belNew wm (docO 0 ⟨#[]⟩ NS NS NS)
          obtain ⟨wz, hwm⟩ : ∃ wz : World, wz = wm.alloc (docO 0 ⟨#[]⟩ NS NS NS) := ⟨_, rfl⟩
          rw [← hwm] at hz0 hbm
          have rM : Below X.heap.size X wz := bel rN hbm
          obtain ⟨gz, hgz⟩ : ∃ gz, gz = wm.heap.size := ⟨_, rfl⟩
          have hgx : X.heap.size ≤ gz := by rw [hgz]; exact rN.size
          rw [← hgz] at hz0
          have HZ : Hid (DocAt wz gz 0 ⟨#[]⟩ NS NS NS ∧ X.heap.size ≤ gz) := Lib.hid ⟨hz0, hgx⟩
          have HR := Lib.hid (And.intro (And.intro (own_keep HR.out.1.1 hbm) (own_keep HR.out.1.2 hbm)) (And.intro (own_keep HR.out.2.1 hbm) (own_keep HR.out.2.2 hbm)))
          change K _ (wm.alloc (docO 0 ⟨#[]⟩ NS NS NS))
          rw [← hwm, ← hgz]
          clear hwm hgz hz0 hbm hgx
          refine hK.out _ _ ?_ (fun _ => ?_)
          · exact rM
          try simp only [Act.put, List.getElem_toArray, List.getElem_cons_succ, List.getElem_cons_zero, List.setIfInBounds_toArray, List.set_cons_zero, List.set_cons_succ]
          have rN := rM
          refine wpAnyH_ready (rs := [11]) (by kernel_rfl) (by simp) ?_
          refine AllReadyH.cons rfl (fun K hK => ?_) AllReadyH.nil
          rw [if_pos (by kernel_rfl)]
          refine wpStDK (y := b.addr) (s := b.aff) _ _ rfl rfl rfl HZ.out.1 rfl rfl rfl ?_; intro wq hxm hgm
          have rM : Below X.heap.size X wq := rN.grown hgm rN.size (fun k hk => by cases hk; exact HZ.out.2)
          have HR := Lib.hid (And.intro (And.intro (own_grownO HR.out.1.1 hgm (fun k hk e => own_neD HR.out.1.1 HZ.out.1 (by decide) (hk.trans e.symm))) (own_grownO HR.out.1.2 hgm (fun k hk e => own_neD HR.out.1.2 HZ.out.1 (by decide) (hk.trans e.symm)))) (And.intro (own_grownO HR.out.2.1 hgm (fun k hk e => own_neD HR.out.2.1 HZ.out.1 (by decide) (hk.trans e.symm))) (own_grownO HR.out.2.2 hgm (fun k hk e => own_neD HR.out.2.2 HZ.out.1 (by decide) (hk.trans e.symm)))))
          have HV := Lib.hid hxm
          clear hxm hgm
          refine hK.out _ _ ?_ (fun _ => ?_)
          · exact rM
          try simp only [Act.put, List.getElem_toArray, List.getElem_cons_succ, List.getElem_cons_zero]
          have rN := rM
          refine wpAnyH_take (i := 12) (v := ?_) rfl (by kernel_rfl) (by kernel_rfl) (by kernel_rfl) (fun _ _ _ h => h) (Or.inl ⟨by rfl, ?_⟩) (by assumption) ?_
          rotate_left
          · intro wS hSw
            (try dsimp only at hSw)
            go_simp
            first | done | with_reducible rfl
          try simp only [Act.put, List.getElem_toArray, List.getElem_cons_succ, List.getElem_cons_zero, List.setIfInBounds_toArray, List.set_cons_zero, List.set_cons_succ]
          refine wpAnyH_done (by kernel_rfl) ?_ _
          (try go_wp2_with fail)
          go_meet
          refine ⟨gz, x1, x2, x3, y1, y2, y3, z1, z2, z3, uo, un, uc, rfl, rfl, Lib.hid ⟨HX.out.later rN, ⟨by rw [HCA.out.1, HCA.out.2]; exact HV.out, ⟨RowG.sees HR.out.1.1 (fun _ => rfl), RowG.sees HR.out.1.2 (fun _ => rfl), RowG.sees HR.out.2.1 (fun _ => rfl)⟩, HAPD.out _ _ _ _ _ HR.out.1.1 HR.out.1.2 HR.out.2.1 _ (by omega), HAPD.out _ _ _ _ _ HR.out.1.1 HR.out.1.2 HR.out.2.1 _ (by omega), Nat.le_trans HX.out.inp.size HZ.out.2, own_keep HTO.out rN, HR.out.2.2⟩, fun g hg => HAPD.out _ _ _ _ _ HR.out.1.1 HR.out.1.2 HR.out.2.1 g (by omega)⟩⟩
        · go_simp
          have hz0 : DocAt (wm.alloc (docO 0 ⟨#[]⟩ NS NS NS)) wm.heap.size 0 ⟨#[]⟩ NS NS NS := heap_new wm _
          have hbm := belNew wm (docO 0 ⟨#[]⟩ NS NS NS)
          obtain ⟨wz, hwm⟩ : ∃ wz : World, wz = wm.alloc (docO 0 ⟨#[]⟩ NS NS NS) := ⟨_, rfl⟩
          rw [← hwm] at hz0 hbm
          have rM : Below X.heap.size X wz := bel rN hbm
          obtain ⟨gz, hgz⟩ : ∃ gz, gz = wm.heap.size := ⟨_, rfl⟩
          have hgx : X.heap.size ≤ gz := by rw [hgz]; exact rN.size
          rw [← hgz] at hz0
          have HZ : Hid (DocAt wz gz 0 ⟨#[]⟩ NS NS NS ∧ X.heap.size ≤ gz) := Lib.hid ⟨hz0, hgx⟩
          have HGV := Lib.hid (own_keep HGV.out hbm)
          change K _ (wm.alloc (docO 0 ⟨#[]⟩ NS NS NS))
          rw [← hwm, ← hgz]
          clear hwm hgz hz0 hbm hgx
          refine hK.out _ _ ?_ (fun _ => ?_)
          · exact rM
          try simp only [Act.put, List.getElem_toArray, List.getElem_cons_succ, List.getElem_cons_zero, List.setIfInBounds_toArray, List.set_cons_zero, List.set_cons_succ]
          have rN := rM
          refine wpAnyH_ready (rs := [6]) (by kernel_rfl) (by simp) ?_
          refine AllReadyH.cons rfl (fun K hK => ?_) AllReadyH.nil
          go_simp
          refine (HDA.out _ (.slice li ln lc) (HX.out.later rN).inp.below (RowG.sees HGV.out (fun _ => rfl))).mono ?_; rintro z wm ⟨v1, v2, v3, tw, rfl, hdo, ht5⟩
          have hbm := hdo.below
          have rM : Below X.heap.size X wm := bel rN hbm
          obtain ⟨x1, x2, x3, rfl⟩ := own_form hdo.slots
          obtain ⟨y1, y2, y3, rfl⟩ := own_form hdo.free
          obtain ⟨z1, z2, z3, rfl⟩ := own_form hdo.attrs
          obtain ⟨uo, un, uc, rfl⟩ := own_form ht5
          have hsw := Nat.le_trans HX.out.inp.size rN.size
          have HR := Lib.hid (And.intro (And.intro (own_le hdo.slots hsw) (own_le hdo.free hsw)) (And.intro (own_le hdo.attrs hsw) (own_le ht5 hsw)))
          have HZ := Lib.hid (And.intro (HZ.out.1.below hbm) HZ.out.2)
          have HGV0 := Lib.hid (own_keep HGV.out hbm)
          clear hbm hdo ht5 hsw HGV
          refine hK.out _ _ ?_ (fun _ => ?_)
          · exact rM
          try simp only [Act.put, List.getElem_toArray, List.getElem_cons_succ, List.getElem_cons_zero, List.setIfInBounds_toArray, List.set_cons_zero, List.set_cons_succ]
          have rN := rM
          refine wpAnyH_take (i := 7) (v := ?_) rfl (by kernel_rfl) (by kernel_rfl) (by kernel_rfl) (fun _ _ _ h => h) (Or.inl ⟨by rfl, ?_⟩) (by assumption) ?_
          rotate_left
          · intro wS hSw
            (try dsimp only at hSw)
            go_simp
            first | done | with_reducible rfl
          try simp only [Act.put, List.getElem_toArray, List.getElem_cons_succ, List.getElem_cons_zero, List.setIfInBounds_toArray, List.set_cons_zero, List.set_cons_succ]
          refine wpAnyH_take (i := 8) (v := ?_) rfl (by kernel_rfl) (by kernel_rfl) (by kernel_rfl) (fun _ _ _ h => h) (Or.inl ⟨by rfl, ?_⟩) (by assumption) ?_
          rotate_left
          · intro wS hSw
            (try dsimp only at hSw)
            go_simp
            first | done | with_reducible rfl
          try simp only [Act.put, List.getElem_toArray, List.getElem_cons_succ, List.getElem_cons_zero, List.setIfInBounds_toArray, List.set_cons_zero, List.set_cons_succ]
          refine wpAnyH_take (i := 9) (v := ?_) rfl (by kernel_rfl) (by kernel_rfl) (by kernel_rfl) (fun _ _ _ h => h) (Or.inl ⟨by rfl, ?_⟩) (by assumption) ?_
          rotate_left
          · intro wS hSw
            (try dsimp only at hSw)
            go_simp
            first | done | with_reducible rfl
          try simp only [Act.put, List.getElem_toArray, List.getElem_cons_succ, List.getElem_cons_zero, List.setIfInBounds_toArray, List.set_cons_zero, List.set_cons_succ]
          refine wpAnyH_ready (rs := [11]) (by kernel_rfl) (by simp) ?_
          refine AllReadyH.cons rfl (fun K hK => ?_) AllReadyH.nil
          rw [if_pos (by kernel_rfl)]
          refine wpStDK (y := b.addr) (s := b.aff) _ _ rfl rfl rfl HZ.out.1 rfl rfl rfl ?_; intro wq hxm hgm
          have rM : Below X.heap.size X wq := rN.grown hgm rN.size (fun k hk => by cases hk; exact HZ.out.2)
          have HR := Lib.hid (And.intro (And.intro (own_grownO HR.out.1.1 hgm (fun k hk e => own_neD HR.out.1.1 HZ.out.1 (by decide) (hk.trans e.symm))) (own_grownO HR.out.1.2 hgm (fun k hk e => own_neD HR.out.1.2 HZ.out.1 (by decide) (hk.trans e.symm)))) (And.intro (own_grownO HR.out.2.1 hgm (fun k hk e => own_neD HR.out.2.1 HZ.out.1 (by decide) (hk.trans e.symm))) (own_grownO HR.out.2.2 hgm (fun k hk e => own_neD HR.out.2.2 HZ.out.1 (by decide) (hk.trans e.symm)))))
          have HV := Lib.hid hxm
          clear hxm hgm
          refine hK.out _ _ ?_ (fun _ => ?_)
          · exact rM
          try simp only [Act.put, List.getElem_toArray, List.getElem_cons_succ, List.getElem_cons_zero]
          have rN := rM
          refine wpAnyH_take (i := 12) (v := ?_) rfl (by kernel_rfl) (by kernel_rfl) (by kernel_rfl) (fun _ _ _ h => h) (Or.inl ⟨by rfl, ?_⟩) (by assumption) ?_
          rotate_left
          · intro wS hSw
            (try dsimp only at hSw)
            go_simp
            first | done | with_reducible rfl
          try simp only [Act.put, List.getElem_toArray, List.getElem_cons_succ, List.getElem_cons_zero, List.setIfInBounds_toArray, List.set_cons_zero, List.set_cons_succ]
          refine wpAnyH_done (by kernel_rfl) ?_ _
          (try go_wp2_with fail)
          go_meet
          refine ⟨gz, x1, x2, x3, y1, y2, y3, z1, z2, z3, uo, un, uc, rfl, rfl, Lib.hid ⟨HX.out.later rN, ⟨by rw [HCA.out.1, HCA.out.2]; exact HV.out, ⟨RowG.sees HR.out.1.1 (fun _ => rfl), RowG.sees HR.out.1.2 (fun _ => rfl), RowG.sees HR.out.2.1 (fun _ => rfl)⟩, HAPD.out _ _ _ _ _ HR.out.1.1 HR.out.1.2 HR.out.2.1 _ (by omega), HAPD.out _ _ _ _ _ HR.out.1.1 HR.out.1.2 HR.out.2.1 _ (by omega), Nat.le_trans HX.out.inp.size HZ.out.2, own_keep HTO.out rN, HR.out.2.2⟩, fun g hg => HAPD.out _ _ _ _ _ HR.out.1.1 HR.out.1.2 HR.out.2.1 g (by omega)⟩⟩
      · go_simp
        have hz0 : DocAt (wn.alloc (docO 0 ⟨#[]⟩ NS NS NS)) wn.heap.size 0 ⟨#[]⟩ NS NS NS := heap_new wn _
        have hbm := belNew wn (docO 0 ⟨#[]⟩ NS NS NS)
        obtain ⟨wz, hwm⟩ : ∃ wz : World, wz = wn.alloc (docO 0 ⟨#[]⟩ NS NS NS) := ⟨_, rfl⟩
        rw [← hwm] at hz0 hbm
        have rM : Below X.heap.size X wz := bel rN hbm
        obtain ⟨gz, hgz⟩ : ∃ gz, gz = wn.heap.size := ⟨_, rfl⟩
        have hgx : X.heap.size ≤ gz := by rw [hgz]; exact rN.size
        rw [← hgz] at hz0
        have HZ : Hid (DocAt wz gz 0 ⟨#[]⟩ NS NS NS ∧ X.heap.size ≤ gz) := Lib.hid ⟨hz0, hgx⟩
        change K _ (wn.alloc (docO 0 ⟨#[]⟩ NS NS NS))
        rw [← hwm, ← hgz]
        clear hwm hgz hz0 hbm hgx
        refine hK.out _ _ ?_ (fun _ => ?_)
        · exact rM
        try simp only [Act.put, List.getElem_toArray, List.getElem_cons_succ, List.getElem_cons_zero, List.setIfInBounds_toArray, List.set_cons_zero, List.set_cons_succ]
        have rN := rM
        refine wpAnyH_ready (rs := [5]) (by kernel_rfl) (by simp) ?_
        refine AllReadyH.cons rfl (fun K hK => ?_) AllReadyH.nil
        go_simp
        refine (HGI.out _ (HX.out.later rN).inp.below).mono ?_; rintro z wm ⟨lv, rfl, hlv, hbm⟩
        have rM : Below X.heap.size X wm := bel rN hbm
        obtain ⟨li, ln, lc, rfl⟩ := own_form hlv
        have HGV := Lib.hid hlv
        have HZ := Lib.hid (And.intro (HZ.out.1.below hbm) HZ.out.2)
        clear hbm hlv
        refine hK.out _ _ ?_ (fun _ => ?_)
        · exact rM
        try simp only [Act.put, List.getElem_toArray, List.getElem_cons_succ, List.getElem_cons_zero, List.setIfInBounds_toArray, List.set_cons_zero, List.set_cons_succ]
        have rN := rM
        refine wpAnyH_ready (rs := [6]) (by kernel_rfl) (by simp) ?_
        refine AllReadyH.cons rfl (fun K hK => ?_) AllReadyH.nil
        go_simp
        refine (HDA.out _ (.slice li ln lc) (HX.out.later rN).inp.below (RowG.sees HGV.out (fun _ => rfl))).mono ?_; rintro z wm ⟨v1, v2, v3, tw, rfl, hdo, ht5⟩
        have hbm := hdo.below
        have rM : Below X.heap.size X wm := bel rN hbm
        obtain ⟨x1, x2, x3, rfl⟩ := own_form hdo.slots
        obtain ⟨y1, y2, y3, rfl⟩ := own_form hdo.free
        obtain ⟨z1, z2, z3, rfl⟩ := own_form hdo.attrs
        obtain ⟨uo, un, uc, rfl⟩ := own_form ht5
        have hsw := Nat.le_trans HX.out.inp.size rN.size
        have HR := Lib.hid (And.intro (And.intro (own_le hdo.slots hsw) (own_le hdo.free hsw)) (And.intro (own_le hdo.attrs hsw) (own_le ht5 hsw)))
        have HZ := Lib.hid (And.intro (HZ.out.1.below hbm) HZ.out.2)
        have HGV0 := Lib.hid (own_keep HGV.out hbm)
        clear hbm hdo ht5 hsw HGV
        refine hK.out _ _ ?_ (fun _ => ?_)
        · exact rM
        try simp only [Act.put, List.getElem_toArray, List.getElem_cons_succ, List.getElem_cons_zero, List.setIfInBounds_toArray, List.set_cons_zero, List.set_cons_succ]
        have rN := rM
        refine wpAnyH_take (i := 7) (v := ?_) rfl (by kernel_rfl) (by kernel_rfl) (by kernel_rfl) (fun _ _ _ h => h) (Or.inl ⟨by rfl, ?_⟩) (by assumption) ?_
        rotate_left
        · intro wS hSw
          (try dsimp only at hSw)
          go_simp
          first | done | with_reducible rfl
        try simp only [Act.put, List.getElem_toArray, List.getElem_cons_succ, List.getElem_cons_zero, List.setIfInBounds_toArray, List.set_cons_zero, List.set_cons_succ]
        refine wpAnyH_take (i := 8) (v := ?_) rfl (by kernel_rfl) (by kernel_rfl) (by kernel_rfl) (fun _ _ _ h => h) (Or.inl ⟨by rfl, ?_⟩) (by assumption) ?_
        rotate_left
        · intro wS hSw
          (try dsimp only at hSw)
          go_simp
          first | done | with_reducible rfl
        try simp only [Act.put, List.getElem_toArray, List.getElem_cons_succ, List.getElem_cons_zero, List.setIfInBounds_toArray, List.set_cons_zero, List.set_cons_succ]
        refine wpAnyH_take (i := 9) (v := ?_) rfl (by kernel_rfl) (by kernel_rfl) (by kernel_rfl) (fun _ _ _ h => h) (Or.inl ⟨by rfl, ?_⟩) (by assumption) ?_
        rotate_left
        · intro wS hSw
          (try dsimp only at hSw)
          go_simp
          first | done | with_reducible rfl
        try simp only [Act.put, List.getElem_toArray, List.getElem_cons_succ, List.getElem_cons_zero, List.setIfInBounds_toArray, List.set_cons_zero, List.set_cons_succ]
        refine wpAnyH_ready (rs := [11]) (by kernel_rfl) (by simp) ?_
        refine AllReadyH.cons rfl (fun K hK => ?_) AllReadyH.nil
        rw [if_pos (by kernel_rfl)]
        refine wpStDK (y := b.addr) (s := b.aff) _ _ rfl rfl rfl HZ.out.1 rfl rfl rfl ?_; intro wq hxm hgm
        have rM : Below X.heap.size X wq := rN.grown hgm rN.size (fun k hk => by cases hk; exact HZ.out.2)
        have HR := Lib.hid (And.intro (And.intro (own_grownO HR.out.1.1 hgm (fun k hk e => own_neD HR.out.1.1 HZ.out.1 (by decide) (hk.trans e.symm))) (own_grownO HR.out.1.2 hgm (fun k hk e => own_neD HR.out.1.2 HZ.out.1 (by decide) (hk.trans e.symm)))) (And.intro (own_grownO HR.out.2.1 hgm (fun k hk e => own_neD HR.out.2.1 HZ.out.1 (by decide) (hk.trans e.symm))) (own_grownO HR.out.2.2 hgm (fun k hk e => own_neD HR.out.2.2 HZ.out.1 (by decide) (hk.trans e.symm)))))
        have HV := Lib.hid hxm
        clear hxm hgm
        refine hK.out _ _ ?_ (fun _ => ?_)
        · exact rM
        try simp only [Act.put, List.getElem_toArray, List.getElem_cons_succ, List.getElem_cons_zero]
        have rN := rM
        refine wpAnyH_take (i := 12) (v := ?_) rfl (by kernel_rfl) (by kernel_rfl) (by kernel_rfl) (fun _ _ _ h => h) (Or.inl ⟨by rfl, ?_⟩) (by assumption) ?_
        rotate_left
        · intro wS hSw
          (try dsimp only at hSw)
          go_simp
          first | done | with_reducible rfl
        try simp only [Act.put, List.getElem_toArray, List.getElem_cons_succ, List.getElem_cons_zero, List.setIfInBounds_toArray, List.set_cons_zero, List.set_cons_succ]
        refine wpAnyH_done (by kernel_rfl) ?_ _
        (try go_wp2_with fail)
        go_meet
        refine ⟨gz, x1, x2, x3, y1, y2, y3, z1, z2, z3, uo, un, uc, rfl, rfl, Lib.hid ⟨HX.out.later rN, ⟨by rw [HCA.out.1, HCA.out.2]; exact HV.out, ⟨RowG.sees HR.out.1.1 (fun _ => rfl), RowG.sees HR.out.1.2 (fun _ => rfl), RowG.sees HR.out.2.1 (fun _ => rfl)⟩, HAPD.out _ _ _ _ _ HR.out.1.1 HR.out.1.2 HR.out.2.1 _ (by omega), HAPD.out _ _ _ _ _ HR.out.1.1 HR.out.1.2 HR.out.2.1 _ (by omega), Nat.le_trans HX.out.inp.size HZ.out.2, own_keep HTO.out rN, HR.out.2.2⟩, fun g hg => HAPD.out _ _ _ _ _ HR.out.1.1 HR.out.1.2 HR.out.2.1 g (by omega)⟩⟩
    case rest =>
      obtain ⟨gd, x1, x2, x3, y1, y2, y3, z1, z2, z3, uo, un, uc, rfl, rfl, HC0⟩ := hcut
      obtain ⟨X, rfl⟩ : ∃ X, X = wc := ⟨_, rfl⟩
      have HX := Lib.hid HC0.out.1
      have HD := Lib.hid HC0.out.2.1
      have HAP : Hid (∀ g, g < w.heap.size → ApD g b (.slice p1 p2 p3) (.slice q1 q2 q3) (.slice r1 r2 r3) → ApD g C (.slice x1 x2 x3) (.slice y1 y2 y3) (.slice z1 z2 z3)) := Lib.hid (fun g hg _ => HC0.out.2.2 g hg)
      clear HC0
      go_upto_region 24 with fail
      refine wp_region_held_drew (S := (fun Y => LwS w b (.slice f1 f2 f3) (.slice a1 a2 a3) (.slice p1 p2 p3) (.slice q1 q2 q3) (.slice r1 r2 r3) (stO 5 n a (.slice l1 l2 l3) s) g C (.slice fo fn fc) (.slice ao an ac) Y ∧ LwD w gd C (.slice x1 x2 x3) (.slice y1 y2 y3) (.slice z1 z2 z3) (.slice ti tn tc) (.slice uo un uc) T Y)) (by kernel_rfl) ?_ (fun rN => ?_)
      · exact ⟨HX.out.later ⟨rfl, rfl, rfl, Nat.le_refl _, fun _ _ => rfl⟩, HD.out.later ⟨rfl, rfl, rfl, Nat.le_refl _, fun _ _ => rfl⟩⟩
      obtain ⟨wn, hwn⟩ : ∃ wn, wn = X.drew := ⟨_, rfl⟩
      rw [← hwn] at rN ⊢
      clear hwn
      have rN : LwS w b (.slice f1 f2 f3) (.slice a1 a2 a3) (.slice p1 p2 p3) (.slice q1 q2 q3) (.slice r1 r2 r3) (stO 5 n a (.slice l1 l2 l3) s) g C (.slice fo fn fc) (.slice ao an ac) wn ∧ LwD w gd C (.slice x1 x2 x3) (.slice y1 y2 y3) (.slice z1 z2 z3) (.slice ti tn tc) (.slice uo un uc) T wn := rN
      refine wpAnyH_take (i := 0) (v := _) rfl (by kernel_rfl) (by kernel_rfl) (by kernel_rfl) (fun _ _ _ h => h) (ldBIf (by rfl) _ rfl rfl (fun W hW => hW.1.c.blk) HCL.out) (by assumption) ?_
      try simp only [Act.put, List.getElem_toArray, List.getElem_cons_zero, List.setIfInBounds_toArray, List.set_cons_zero, List.set_cons_succ]
      refine wpAnyH_take (i := 1) (v := _) rfl (by kernel_rfl) (by kernel_rfl) (by kernel_rfl) (fun _ _ _ h => h) (ldDIf (by rfl) _ rfl rfl (fun W hW => hW.2.doc) ) (by assumption) ?_
      try simp only [Act.put, List.getElem_toArray, List.getElem_cons_succ, List.getElem_cons_zero, List.setIfInBounds_toArray, List.set_cons_zero, List.set_cons_succ]
      refine wpAnyH_take (i := 2) (v := ?_) rfl (by kernel_rfl) (by kernel_rfl) (by kernel_rfl) (fun _ _ _ h => h) (Or.inl ⟨by rfl, ?_⟩) (by assumption) ?_
      rotate_left
      · intro wS hSw
        (try dsimp only at hSw)
        go_simp
        first | done | with_reducible rfl
      try simp only [Act.put, List.getElem_toArray, List.getElem_cons_succ, List.getElem_cons_zero, List.setIfInBounds_toArray, List.set_cons_zero, List.set_cons_succ]
      refine wpAnyH_take (i := 3) (v := ?_) rfl (by kernel_rfl) (by kernel_rfl) (by kernel_rfl) (fun _ _ _ h => h) (Or.inl ⟨by rfl, ?_⟩) (by assumption) ?_
      rotate_left
      · intro wS hSw
        (try dsimp only at hSw)
        go_simp
        first | done | with_reducible rfl
      try simp only [Act.put, List.getElem_toArray, List.getElem_cons_succ, List.getElem_cons_zero, List.setIfInBounds_toArray, List.set_cons_zero, List.set_cons_succ]
      refine wpAnyH_take (i := 4) (v := ?_) rfl (by kernel_rfl) (by kernel_rfl) (by kernel_rfl) (fun _ _ _ h => h) (Or.inl ⟨by rfl, ?_⟩) (by assumption) ?_
      rotate_left
      · intro wS hSw
        (try dsimp only at hSw)
        go_simp
        first | done | with_reducible rfl
      try simp only [Act.put, List.getElem_toArray, List.getElem_cons_succ, List.getElem_cons_zero, List.setIfInBounds_toArray, List.set_cons_zero, List.set_cons_succ]
      refine wpAnyH_take (i := 5) (v := ?_) rfl (by kernel_rfl) (by kernel_rfl) (by kernel_rfl) (fun _ _ _ h => h) (Or.inl ⟨by rfl, ?_⟩) (by assumption) ?_
      rotate_left
      · intro wS hSw
        (try dsimp only at hSw)
        go_simp
        first | done | with_reducible rfl
      try simp only [Act.put, List.getElem_toArray, List.getElem_cons_succ, List.getElem_cons_zero, List.setIfInBounds_toArray, List.set_cons_zero, List.set_cons_succ]
      refine wpAnyH_take (i := 6) (v := ?_) rfl (by kernel_rfl) (by kernel_rfl) (by kernel_rfl) (fun _ _ _ h => h) (Or.inl ⟨by rfl, ?_⟩) (by assumption) ?_
      rotate_left
      · intro wS hSw
        (try dsimp only at hSw)
        go_simp
        first | done | with_reducible rfl
      try simp only [Act.put, List.getElem_toArray, List.getElem_cons_succ, List.getElem_cons_zero, List.setIfInBounds_toArray, List.set_cons_zero, List.set_cons_succ]
      refine wpAnyH_ready (rs := [7]) (by kernel_rfl) (by simp) ?_
      refine AllReadyH.cons rfl (fun K hK => ?_) AllReadyH.nil
      go_simp
      refine (addrs_same ((RowG.sees rN.2.ta.row (fun _ => rfl)).toU) ((RowG.sees rN.2.tb (fun _ => rfl)).toU) HTL.out).mono ?_; rintro z wm ⟨rfl, hbm⟩
      have rM : LwS w b (.slice f1 f2 f3) (.slice a1 a2 a3) (.slice p1 p2 p3) (.slice q1 q2 q3) (.slice r1 r2 r3) (stO 5 n a (.slice l1 l2 l3) s) g C (.slice fo fn fc) (.slice ao an ac) wm ∧ LwD w gd C (.slice x1 x2 x3) (.slice y1 y2 y3) (.slice z1 z2 z3) (.slice ti tn tc) (.slice uo un uc) T wm := ⟨rN.1.later hbm, rN.2.later hbm⟩
      clear hbm
      refine hK.out _ _ ?_ (fun _ => ?_)
      · exact rM
      try simp only [Act.put, List.getElem_toArray, List.getElem_cons_succ, List.getElem_cons_zero, List.setIfInBounds_toArray, List.set_cons_zero, List.set_cons_succ]
      have rN := rM
      refine wpAnyH_take (i := 8) (v := ?_) rfl (by kernel_rfl) (by kernel_rfl) (by kernel_rfl) (fun _ _ _ h => h) (Or.inl ⟨by rfl, ?_⟩) (by assumption) ?_
      rotate_left
      · intro wS hSw
        (try dsimp only at hSw)
        go_simp
        first | done | with_reducible rfl
      try simp only [Act.put, List.getElem_toArray, List.getElem_cons_succ, List.getElem_cons_zero, List.setIfInBounds_toArray, List.set_cons_zero, List.set_cons_succ]
      refine wpAnyH_ready (rs := [9]) (by kernel_rfl) (by simp) ?_
      refine AllReadyH.cons rfl (fun K hK => ?_) AllReadyH.nil
      rw [if_pos (by kernel_rfl)]
      obtain ⟨b0, f0, a0, hz3, hz3l⟩ := rN.1.z3
      refine wpStBK (b := C) _ _ rfl rfl rfl hz3 hz3l HCL.out rfl rfl ?_; intro wq hxm hgm
      have rM : LwS w b (.slice f1 f2 f3) (.slice a1 a2 a3) (.slice p1 p2 p3) (.slice q1 q2 q3) (.slice r1 r2 r3) (stO 5 n a (.slice l1 l2 l3) s) g C (.slice fo fn fc) (.slice ao an ac) wq ∧ LwD w gd C (.slice x1 x2 x3) (.slice y1 y2 y3) (.slice z1 z2 z3) (.slice ti tn tc) (.slice uo un uc) T wq := ⟨rN.1.st3 hgm hxm HCL.out, rN.2.st3 hgm⟩
      have H3 := Lib.hid hxm
      clear hxm hgm hz3 hz3l
      refine hK.out _ _ ?_ (fun _ => ?_)
      · exact rM
      try simp only [Act.put, List.getElem_toArray, List.getElem_cons_succ, List.getElem_cons_zero]
      have rN := rM
      refine wpAnyH_ready (rs := [10]) (by kernel_rfl) (by simp) ?_
      refine AllReadyH.cons rfl (fun K hK => ?_) AllReadyH.nil
      rw [if_pos (by kernel_rfl)]
      obtain ⟨y0, s0, u01, u02, u03, hz4⟩ := rN.1.z4
      refine wpStDK (y := C.addr) (s := C.aff) _ _ rfl rfl rfl hz4 rfl rfl rfl ?_; intro wp hxm hgm
      have rM : LwS w b (.slice f1 f2 f3) (.slice a1 a2 a3) (.slice p1 p2 p3) (.slice q1 q2 q3) (.slice r1 r2 r3) (stO 5 n a (.slice l1 l2 l3) s) g C (.slice fo fn fc) (.slice ao an ac) wp ∧ LwD w gd C (.slice x1 x2 x3) (.slice y1 y2 y3) (.slice z1 z2 z3) (.slice ti tn tc) (.slice uo un uc) T wp := ⟨rN.1.st4 hgm hxm, rN.2.st4 hgm⟩
      have H3' := Lib.hid (blk_grownO H3.out hgm (fun e => by have := Option.some.inj e; omega))
      have H4 := Lib.hid hxm
      clear hxm hgm hz4
      refine hK.out _ _ ?_ (fun _ => ?_)
      · exact rM
      try simp only [Act.put, List.getElem_toArray, List.getElem_cons_succ, List.getElem_cons_zero]
      have rN := rM
      refine wpAnyH_take (i := 11) (v := ?_) rfl (by kernel_rfl) (by kernel_rfl) (by kernel_rfl) (fun _ _ _ h => h) (Or.inl ⟨by rfl, ?_⟩) (by assumption) ?_
      rotate_left
      · intro wS hSw
        (try dsimp only at hSw)
        go_simp
        first | done | with_reducible rfl
      try simp only [Act.put, List.getElem_toArray, List.getElem_cons_succ, List.getElem_cons_zero, List.setIfInBounds_toArray, List.set_cons_zero, List.set_cons_succ]
      refine wpAnyH_done (by kernel_rfl) ?_ _
      go_wp2_with fail
      exact bodyPost_ret (resC rfl rfl rfl (loadVarB H3'.out HCL.out) (loadVarD H4.out)) rfl ⟨C, _, _, _, _, _, rfl, ⟨rN.1.c.free.sees, RowA.sees rN.1.c.attrs, rN.2.sees, HCB.out.1, HCB.out.2⟩, rN.1.inp.below, fun g hg ha => ⟨fun _ e => by have := (World.ownsRow.lt rN.1.c.free g e).1; omega, fun _ e => by have := (World.ownsRow.lt rN.1.c.attrs g e).1; omega, HAP.out g hg ha.2.2⟩⟩
end Go.Proofs.YtgodmnpcedfdcaaGreat
