/- The laws' Do: Assign. Made by g_bdm.py. -/
import Derived.Test.YtgodmnpcedfdcaaGreatJDm
namespace Go.Proofs.YtgodmnpcedfdcaaGreat
open Go.RowKit
set_option maxRecDepth 100000 in
set_option maxHeartbeats 16000000 in
theorem do01_good (b : BlkS) (f1 a1 p1 q1 r1 : Option Addr) (f2 f3 a2 a3 p2 p3 q2 q3 r2 r3 : Nat) (k n : Int) (a : PA) (l1 : Option Addr) (l2 l3 : Nat) (l : List Int) (s : ByteArray) (w : World) (hB : Both w b (.slice f1 f2 f3) (.slice a1 a2 a3) (.slice p1 p2 p3) (.slice q1 q2 q3) (.slice r1 r2 r3)) (h1 : a.1.size ≤ maxLen) (h2 : a.2.size ≤ maxLen) (hls : SeesU w (.slice l1 l2 l3) l) (hlx : ∀ x ∈ l, 0 ≤ x ∧ x < 4294967296) (_ : s.size ≤ maxLen) (hk : k = 0 ∨ k = 1) (hm : mayP a = true) (hn : 0 ≤ n) :
    Calls Tryz.prog 6 #[.agg (blkL b (.slice f1 f2 f3) (.slice a1 a2 a3)).toArray, docV b.addr b.aff (.slice p1 p2 p3) (.slice q1 q2 q3) (.slice r1 r2 r3), stV k n a (.slice l1 l2 l3) s] w (DoP w b (.slice f1 f2 f3) (.slice a1 a2 a3) (.slice p1 p2 p3) (.slice q1 q2 q3) (.slice r1 r2 r3)) := by
  have hl := hB.wf.2.1
  have HBo := Lib.hid hB
  obtain ⟨m, hm1, hm2, hm3, hm4, hm5⟩ := cut80 hls
  have HMM := Lib.hid (And.intro hm1 hm2)
  have HLT := Lib.hid (And.intro hm3 (And.intro hm4 hm5))
  have HLX : Hid (∀ x ∈ l.take m, 0 ≤ x ∧ x < 4294967296) := Lib.hid (fun x hx => hlx x (List.mem_of_mem_take hx))
  obtain ⟨C, hC⟩ : ∃ C, C = givS b (b.free.take n.toNat) a := ⟨_, rfl⟩
  obtain ⟨T, hT⟩ : ∃ T : List Int, T = adrs b (b.free.take n.toNat) := ⟨_, rfl⟩
  obtain ⟨hok1, hok2⟩ := giv_ok hB.wf hB.right hm n.toNat
  rw [← hC] at hok1 hok2
  have HCL : Hid (C.sl.length = 64) := Lib.hid hok2.2.1
  have HCB := Lib.hid (And.intro hok2 hok1)
  have HCA : Hid (C.addr = b.addr ∧ C.aff = b.aff) := Lib.hid (by rw [hC]; exact ⟨rfl, rfl⟩)
  have HTL : Hid (T.length ≤ maxLen) := Lib.hid (by rw [hT, adrs_len, List.length_take]; have := (right_free hB.right).2.2; unfold maxLen; omega)
  have HDA : Hid (∀ Y, Below w.heap.size w Y → Calls Tryz.prog 18 #[docV b.addr b.aff (.slice p1 p2 p3) (.slice q1 q2 q3) (.slice r1 r2 r3), .int .i64 n, atV a] Y fun e w' => ∃ u1 u2 u3 tv, e = .returned (.tuple #[docV b.addr b.aff u1 u2 u3, tv]) ∧ DocSees w' C.sl C.free C.attrs u1 u2 u3 ∧ RowU1 w' Y.heap.size tv T ∧ Below Y.heap.size Y w' ∧ ∀ g, g < Y.heap.size → ApD g b (.slice p1 p2 p3) (.slice q1 q2 q3) (.slice r1 r2 r3) → ApD g C u1 u2 u3) := Lib.hid (fun Y hY => by
    refine (docAssign_any b _ _ _ n a Y (hB.doc.below hY) hB.wf hB.right hm hn).mono ?_
    rintro e Z ⟨u1, u2, u3, tv, rfl, k1, k2, k3, k4⟩
    rw [hC, hT]
    exact ⟨u1, u2, u3, tv, rfl, k1, k2, k3, k4⟩)
  have HC : Hid (∀ Y, Lw0 w b (.slice f1 f2 f3) (.slice a1 a2 a3) (.slice p1 p2 p3) (.slice q1 q2 q3) (.slice r1 r2 r3) (stO k n a (.slice l1 l2 l3) s) Y → Calls Tryz.prog 14 #[.agg (blkL b (.slice f1 f2 f3) (.slice a1 a2 a3)).toArray, .int .i64 n, atV a] Y fun e Z => ∃ fo fn fc ao an ac ti tn tc, e = .returned (.tuple #[.agg (blkL C (.slice fo fn fc) (.slice ao an ac)).toArray, .slice ti tn tc, .int .i64 0]) ∧ Owns Z Y.heap.size (.slice fo fn fc) C.free ∧ RowA EAt Z Y.heap.size (.slice ao an ac) C.attrs ∧ OwnsU Z Y.heap.size (.slice ti tn tc) T ∧ Below Y.heap.size Y Z) := Lib.hid (by
    subst hC hT
    intro Y hY
    refine (assign_any b _ _ n a Y (hB.free.keep hY.inp.below) (hB.attrs.below hY.inp.below) hB.wf h1 h2 hB.right hm hn).mono ?_
    rintro e Z ⟨fv, av, tv, rfl, hr, ht⟩
    obtain ⟨fo, fn, fc, rfl⟩ := own_form hr.free
    obtain ⟨ao, an, ac, rfl⟩ := own_form hr.attrs
    obtain ⟨ti, tn, tc, rfl⟩ := own_form ht
    exact ⟨fo, fn, fc, ao, an, ac, ti, tn, tc, rfl, hr.free, hr.attrs, ht, hr.below⟩)
  have HMY := refMayA_any a h1 h2
  rw [hm] at HMY
  have HMY := Lib.hid HMY
  have HLA := Lib.hid (fun w => lawAttr_any a w)
  have HS := Lib.hid (Lw0.new w b (.slice f1 f2 f3) (.slice a1 a2 a3) (.slice p1 p2 p3) (.slice q1 q2 q3) (.slice r1 r2 r3) (stO k n a (.slice l1 l2 l3) s))
  obtain ⟨X, hX⟩ : ∃ X, X = (((((w.alloc (blkO b (.slice f1 f2 f3) (.slice a1 a2 a3))).alloc (docO b.addr b.aff (.slice p1 p2 p3) (.slice q1 q2 q3) (.slice r1 r2 r3))).alloc (stO k n a (.slice l1 l2 l3) s)).alloc (blkO zB NS NS)).alloc (docO 0 ⟨#[]⟩ NS NS NS)) := ⟨_, rfl⟩
  rw [← hX] at HS
  have HW := Lib.hid hX
  clear hm1 hm2 hm3 hm4 hm5 hls hlx hX hB
  have dn : decide (n < 0) = false := decide_eq_false (by omega)
  clear h1 h2 hm hn hC hT hok1 hok2
  go_enter Tryz.func6, Tryz.ntmps6
  go_upto_region 1 with fail
  change Code.wp _ _ _ _ (((((w.alloc (blkO b (.slice f1 f2 f3) (.slice a1 a2 a3))).alloc (docO b.addr b.aff (.slice p1 p2 p3) (.slice q1 q2 q3) (.slice r1 r2 r3))).alloc (stO k n a (.slice l1 l2 l3) s)).alloc (blkO zB NS NS)).alloc (docO 0 ⟨#[]⟩ NS NS NS))
  rw [← HW.out]
  clear HW
  obtain ⟨cc0, cc1, cc2, cc3, cc4, cc5⟩ := stcells HS.out.inp.attr
  go_upto_if 37 with fail
  go_cut [9] (fun s9 wx => s9 = .slice l1 m l3 ∧ wx = X)
  case first =>
    by_cases h80 : 80 < l2
    · obtain ⟨rfl, hcap, la, rfl⟩ := HMM.out.1 h80
      have hd : decide (80 < (l2 : Int)) = true := decide_eq_true (by omega)
      have hd' : decide (80 < l2) = true := decide_eq_true h80
      go_wp2_with fail
      go_meet
      exact ⟨rfl, rfl⟩
    · obtain rfl := HMM.out.2 h80
      have hd : decide (80 < (m : Int)) = false := decide_eq_false (by omega)
      have hd' : decide (80 < m) = false := decide_eq_false h80
      go_wp2_with fail
      go_meet
      exact ⟨rfl, rfl⟩
  case rest =>
    obtain ⟨rfl, hwc⟩ := hcut
    subst wc
    go_upto_if 42 with fail
    go_cut [42] (fun s42 wx => s42 = .bool true ∧ wx = X)
    case first =>
      rcases hk with rfl | rfl
      · go_wp2_with fail
        go_meet
        exact ⟨rfl, rfl⟩
      · go_wp2_with fail
        go_meet
        exact ⟨rfl, rfl⟩
    case rest =>
      obtain ⟨rfl, hwc⟩ := hcut
      subst wc
      go_upto_region 7 with fail
      clear cc0 cc1 cc2 cc3 cc4 cc5
      go_cut [10, 11, 12] (fun s10 s11 s12 wx => ∃ (g : Nat) (fo : Option Addr) (fn fc : Nat) (ao : Option Addr) (an ac : Nat) (ti : Option Addr) (tn tc : Nat), s10 = .pointer (some ⟨g, 0, none⟩) ∧ s11 = .slice ti tn tc ∧ s12 = .int .i64 0 ∧ Hid (Lw0 w b (.slice f1 f2 f3) (.slice a1 a2 a3) (.slice p1 p2 p3) (.slice q1 q2 q3) (.slice r1 r2 r3) (stO k n a (.slice l1 l2 l3) s) wx ∧ VarO wx (w.heap.size + 5) g C (.slice fo fn fc) (.slice ao an ac) ∧ w.heap.size + 5 ≤ g ∧ OwnsU wx (w.heap.size + 5) (.slice ti tn tc) T))
      case first =>
        refine wp_region_held_drew (S := (fun Y => Below X.heap.size X Y)) (by kernel_rfl) ?_ (fun rN => ?_)
        · exact ⟨rfl, rfl, rfl, Nat.le_refl _, fun _ _ => rfl⟩
        obtain ⟨wn, hwn⟩ : ∃ wn, wn = X.drew := ⟨_, rfl⟩
        rw [← hwn] at rN ⊢
        clear hwn
        have rN : Below X.heap.size X wn := rN
        refine wpAnyH_take (i := 0) (v := _) rfl (by kernel_rfl) (by kernel_rfl) (by kernel_rfl) (fun _ _ _ h => h) (ldBIf (by rfl) _ rfl rfl (fun W hW => (HS.out.later hW).inp.blk) hl) (by assumption) ?_
        try simp only [Act.put, List.getElem_toArray, List.getElem_cons_zero, List.setIfInBounds_toArray, List.set_cons_zero, List.set_cons_succ]
        refine wpAnyH_take (i := 1) (v := ?_) rfl (by kernel_rfl) (by kernel_rfl) (by kernel_rfl) (fun _ _ _ h => h) (Or.inl ⟨by rfl, ?_⟩) (by assumption) ?_
        rotate_left
        · intro wS hSw
          (try dsimp only at hSw)
          go_simp
          first | done | with_reducible rfl
        try simp only [Act.put, List.getElem_toArray, List.getElem_cons_succ, List.getElem_cons_zero, List.setIfInBounds_toArray, List.set_cons_zero, List.set_cons_succ]
        refine wpAnyH_take (i := 2) (v := ?_) rfl (by kernel_rfl) (by kernel_rfl) (by kernel_rfl) (fun _ _ _ h => h) (Or.inl ⟨by rfl, ?_⟩) (by assumption) ?_
        rotate_left
        · intro wS hSw
          (try dsimp only at hSw)
          obtain ⟨m0, m1, m2, m3, m4, m5⟩ := stcells (HS.out.later hSw).inp.attr
          go_simp
          first | done | with_reducible rfl
        try simp only [Act.put, List.getElem_toArray, List.getElem_cons_succ, List.getElem_cons_zero, List.setIfInBounds_toArray, List.set_cons_zero, List.set_cons_succ]
        refine wpAnyH_take (i := 3) (v := ?_) rfl (by kernel_rfl) (by kernel_rfl) (by kernel_rfl) (fun _ _ _ h => h) (Or.inl ⟨by rfl, ?_⟩) (by assumption) ?_
        rotate_left
        · intro wS hSw
          (try dsimp only at hSw)
          go_simp
          first | done | with_reducible rfl
        try simp only [Act.put, List.getElem_toArray, List.getElem_cons_succ, List.getElem_cons_zero, List.setIfInBounds_toArray, List.set_cons_zero, List.set_cons_succ]
        refine wpAnyH_take (i := 4) (v := ?_) rfl (by kernel_rfl) (by kernel_rfl) (by kernel_rfl) (fun _ _ _ h => h) (Or.inl ⟨by rfl, ?_⟩) (by assumption) ?_
        rotate_left
        · intro wS hSw
          (try dsimp only at hSw)
          obtain ⟨m0, m1, m2, m3, m4, m5⟩ := stcells (HS.out.later hSw).inp.attr
          go_simp
          first | done | with_reducible rfl
        try simp only [Act.put, List.getElem_toArray, List.getElem_cons_succ, List.getElem_cons_zero, List.setIfInBounds_toArray, List.set_cons_zero, List.set_cons_succ]
        refine wpAnyH_ready (rs := [5, 11]) (by kernel_rfl) (by simp) ?_
        refine AllReadyH.cons rfl (fun K hK => ?_) (AllReadyH.cons rfl (fun K hK => ?_) AllReadyH.nil)
        · go_simp
          refine (HLA.out _).mono ?_; rintro z wm ⟨rfl, hbm⟩
          have rM : Below X.heap.size X wm := bel rN hbm
          clear hbm
          refine hK.out _ _ ?_ (fun _ => ?_)
          · exact rM
          try simp only [Act.put, List.getElem_toArray, List.getElem_cons_succ, List.getElem_cons_zero, List.setIfInBounds_toArray, List.set_cons_zero, List.set_cons_succ]
          have rN := rM
          refine wpAnyH_ready (rs := [6, 11]) (by kernel_rfl) (by simp) ?_
          refine AllReadyH.cons rfl (fun K hK => ?_) (AllReadyH.cons rfl (fun K hK => ?_) AllReadyH.nil)
          · go_simp
            refine (HC.out _ (HS.out.later rN)).mono ?_; rintro z wm ⟨fo, fn, fc, ao, an, ac, ti, tn, tc, rfl, hfr, hat, hto, hbm⟩
            have rM : Below X.heap.size X wm := bel rN hbm
            have HR := Lib.hid (And.intro (own_le hfr (Nat.le_trans HS.out.inp.size rN.size)) (And.intro (own_le hat (Nat.le_trans HS.out.inp.size rN.size)) (own_le hto (Nat.le_trans HS.out.inp.size rN.size))))
            clear hbm hfr hat hto
            refine hK.out _ _ ?_ (fun _ => ?_)
            · exact rM
            try simp only [Act.put, List.getElem_toArray, List.getElem_cons_succ, List.getElem_cons_zero, List.setIfInBounds_toArray, List.set_cons_zero, List.set_cons_succ]
            have rN := rM
            refine wpAnyH_take (i := 7) (v := ?_) rfl (by kernel_rfl) (by kernel_rfl) (by kernel_rfl) (fun _ _ _ h => h) (Or.inl ⟨by rfl, ?_⟩) (by assumption) ?_
            rotate_left
            · intro wS hSw
              (try dsimp only at hSw)
              go_simp
              first | done | with_reducible rfl
            try simp only [Act.put, List.getElem_toArray, List.getElem_cons_succ, List.getElem_cons_zero, List.setIfInBounds_toArray, List.set_cons_zero, List.set_cons_succ]
            refine wpAnyH_take (i := 8) (v := ?_) rfl (by kernel_rfl) (by kernel_rfl) (by kernel_rfl) (fun _ _ _ h => h) (Or.inl ⟨by rfl, ?_⟩) (by assumption) ?_
            rotate_left
            · intro wS hSw
              (try dsimp only at hSw)
              go_simp
              first | done | with_reducible rfl
            try simp only [Act.put, List.getElem_toArray, List.getElem_cons_succ, List.getElem_cons_zero, List.setIfInBounds_toArray, List.set_cons_zero, List.set_cons_succ]
            refine wpAnyH_take (i := 9) (v := ?_) rfl (by kernel_rfl) (by kernel_rfl) (by kernel_rfl) (fun _ _ _ h => h) (Or.inl ⟨by rfl, ?_⟩) (by assumption) ?_
            rotate_left
            · intro wS hSw
              (try dsimp only at hSw)
              go_simp
              first | done | with_reducible rfl
            try simp only [Act.put, List.getElem_toArray, List.getElem_cons_succ, List.getElem_cons_zero, List.setIfInBounds_toArray, List.set_cons_zero, List.set_cons_succ]
            refine wpAnyH_take (i := 10) (v := ?_) rfl (by kernel_rfl) (by kernel_rfl) (by kernel_rfl) (fun _ _ _ h => h) (Or.inl ⟨by rfl, ?_⟩) (by assumption) ?_
            rotate_left
            · intro wS hSw
              (try dsimp only at hSw)
              go_simp
              first | done | with_reducible rfl
            try simp only [Act.put, List.getElem_toArray, List.getElem_cons_succ, List.getElem_cons_zero, List.setIfInBounds_toArray, List.set_cons_zero, List.set_cons_succ]
            refine wpAnyH_ready (rs := [11]) (by kernel_rfl) (by simp) ?_
            refine AllReadyH.cons rfl (fun K hK => ?_) AllReadyH.nil
            go_simp
            have hz0 := heap_new wm (blkO zB NS NS)
            have hbm := belNew wm (blkO zB NS NS)
            obtain ⟨wz, hwm⟩ : ∃ wz : World, wz = wm.alloc (blkO zB NS NS) := ⟨_, rfl⟩
            rw [← hwm] at hz0 hbm
            have rM : Below X.heap.size X wz := bel rN hbm
            obtain ⟨gz, hgz⟩ : ∃ gz, gz = wm.heap.size := ⟨_, rfl⟩
            have hgx : X.heap.size ≤ gz := by rw [hgz]; exact rN.size
            rw [← hgz] at hz0
            have HZ : Hid (BlkAt wz gz zB NS NS ∧ X.heap.size ≤ gz) := Lib.hid ⟨hz0, hgx⟩
            have HR := Lib.hid (And.intro (own_keep HR.out.1 hbm) (And.intro (own_keep HR.out.2.1 hbm) (own_keep HR.out.2.2 hbm)))
            change K _ (wm.alloc (blkO zB NS NS))
            rw [← hwm, ← hgz]
            clear hwm hgz hz0 hbm hgx
            refine hK.out _ _ ?_ (fun _ => ?_)
            · exact rM
            try simp only [Act.put, List.getElem_toArray, List.getElem_cons_succ, List.getElem_cons_zero, List.setIfInBounds_toArray, List.set_cons_zero, List.set_cons_succ]
            have rN := rM
            refine wpAnyH_ready (rs := [12]) (by kernel_rfl) (by simp) ?_
            refine AllReadyH.cons rfl (fun K hK => ?_) AllReadyH.nil
            rw [if_pos (by kernel_rfl)]
            refine wpStBK (b := C) _ _ rfl rfl rfl HZ.out.1 zB_len HCL.out rfl rfl ?_; intro wq hxm hgm
            have rM : Below X.heap.size X wq := rN.grown hgm rN.size (fun k hk => by cases hk; exact HZ.out.2)
            have HV : Hid (VarO wq (w.heap.size + 5) gz C (.slice fo fn fc) (.slice ao an ac)) := Lib.hid ⟨hxm, own_grownO HR.out.1 hgm (fun k hk e => own_neB HR.out.1 HZ.out.1 (by decide) (hk.trans e.symm)), own_grownO HR.out.2.1 hgm (fun k hk e => own_neB HR.out.2.1 HZ.out.1 (by decide) (hk.trans e.symm))⟩
            have HTO := Lib.hid (own_grownO HR.out.2.2 hgm (fun k hk e => own_neB HR.out.2.2 HZ.out.1 (by decide) (hk.trans e.symm)))
            clear hxm hgm
            refine hK.out _ _ ?_ (fun _ => ?_)
            · exact rM
            try simp only [Act.put, List.getElem_toArray, List.getElem_cons_succ, List.getElem_cons_zero]
            have rN := rM
            refine wpAnyH_take (i := 13) (v := ?_) rfl (by kernel_rfl) (by kernel_rfl) (by kernel_rfl) (fun _ _ _ h => h) (Or.inl ⟨by rfl, ?_⟩) (by assumption) ?_
            rotate_left
            · intro wS hSw
              (try dsimp only at hSw)
              go_simp
              first | done | with_reducible rfl
            try simp only [Act.put, List.getElem_toArray, List.getElem_cons_succ, List.getElem_cons_zero, List.setIfInBounds_toArray, List.set_cons_zero, List.set_cons_succ]
            refine wpAnyH_take (i := 14) (v := ?_) rfl (by kernel_rfl) (by kernel_rfl) (by kernel_rfl) (fun _ _ _ h => h) (Or.inl ⟨by rfl, ?_⟩) (by assumption) ?_
            rotate_left
            · intro wS hSw
              (try dsimp only at hSw)
              go_simp
              first | done | with_reducible rfl
            try simp only [Act.put, List.getElem_toArray, List.getElem_cons_succ, List.getElem_cons_zero, List.setIfInBounds_toArray, List.set_cons_zero, List.set_cons_succ]
            refine wpAnyH_done (by kernel_rfl) ?_ _
            (try go_wp2_with fail)
            go_meet
            exact ⟨gz, fo, fn, fc, ao, an, ac, ti, tn, tc, rfl, rfl, rfl, Lib.hid ⟨HS.out.later rN, HV.out, Nat.le_trans HS.out.inp.size HZ.out.2, HTO.out⟩⟩
          · go_simp
            have hz0 := heap_new wm (blkO zB NS NS)
            have hbm := belNew wm (blkO zB NS NS)
            obtain ⟨wz, hwm⟩ : ∃ wz : World, wz = wm.alloc (blkO zB NS NS) := ⟨_, rfl⟩
            rw [← hwm] at hz0 hbm
            have rM : Below X.heap.size X wz := bel rN hbm
            obtain ⟨gz, hgz⟩ : ∃ gz, gz = wm.heap.size := ⟨_, rfl⟩
            have hgx : X.heap.size ≤ gz := by rw [hgz]; exact rN.size
            rw [← hgz] at hz0
            have HZ : Hid (BlkAt wz gz zB NS NS ∧ X.heap.size ≤ gz) := Lib.hid ⟨hz0, hgx⟩
            change K _ (wm.alloc (blkO zB NS NS))
            rw [← hwm, ← hgz]
            clear hwm hgz hz0 hbm hgx
            refine hK.out _ _ ?_ (fun _ => ?_)
            · exact rM
            try simp only [Act.put, List.getElem_toArray, List.getElem_cons_succ, List.getElem_cons_zero, List.setIfInBounds_toArray, List.set_cons_zero, List.set_cons_succ]
            have rN := rM
            refine wpAnyH_ready (rs := [6]) (by kernel_rfl) (by simp) ?_
            refine AllReadyH.cons rfl (fun K hK => ?_) AllReadyH.nil
            go_simp
            refine (HC.out _ (HS.out.later rN)).mono ?_; rintro z wm ⟨fo, fn, fc, ao, an, ac, ti, tn, tc, rfl, hfr, hat, hto, hbm⟩
            have rM : Below X.heap.size X wm := bel rN hbm
            have HZ := Lib.hid (And.intro (HZ.out.1.below hbm) HZ.out.2)
            have HR := Lib.hid (And.intro (own_le hfr (Nat.le_trans HS.out.inp.size rN.size)) (And.intro (own_le hat (Nat.le_trans HS.out.inp.size rN.size)) (own_le hto (Nat.le_trans HS.out.inp.size rN.size))))
            clear hbm hfr hat hto
            refine hK.out _ _ ?_ (fun _ => ?_)
            · exact rM
            try simp only [Act.put, List.getElem_toArray, List.getElem_cons_succ, List.getElem_cons_zero, List.setIfInBounds_toArray, List.set_cons_zero, List.set_cons_succ]
            have rN := rM
            refine wpAnyH_take (i := 7) (v := ?_) rfl (by kernel_rfl) (by kernel_rfl) (by kernel_rfl) (fun _ _ _ h => h) (Or.inl ⟨by rfl, ?_⟩) (by assumption) ?_
            rotate_left
            · intro wS hSw
              (try dsimp only at hSw)
              go_simp
              first | done | with_reducible rfl
            try simp only [Act.put, List.getElem_toArray, List.getElem_cons_succ, List.getElem_cons_zero, List.setIfInBounds_toArray, List.set_cons_zero, List.set_cons_succ]
            refine wpAnyH_take (i := 8) (v := ?_) rfl (by kernel_rfl) (by kernel_rfl) (by kernel_rfl) (fun _ _ _ h => h) (Or.inl ⟨by rfl, ?_⟩) (by assumption) ?_
            rotate_left
            · intro wS hSw
              (try dsimp only at hSw)
              go_simp
              first | done | with_reducible rfl
            try simp only [Act.put, List.getElem_toArray, List.getElem_cons_succ, List.getElem_cons_zero, List.setIfInBounds_toArray, List.set_cons_zero, List.set_cons_succ]
            refine wpAnyH_take (i := 9) (v := ?_) rfl (by kernel_rfl) (by kernel_rfl) (by kernel_rfl) (fun _ _ _ h => h) (Or.inl ⟨by rfl, ?_⟩) (by assumption) ?_
            rotate_left
            · intro wS hSw
              (try dsimp only at hSw)
              go_simp
              first | done | with_reducible rfl
            try simp only [Act.put, List.getElem_toArray, List.getElem_cons_succ, List.getElem_cons_zero, List.setIfInBounds_toArray, List.set_cons_zero, List.set_cons_succ]
            refine wpAnyH_take (i := 10) (v := ?_) rfl (by kernel_rfl) (by kernel_rfl) (by kernel_rfl) (fun _ _ _ h => h) (Or.inl ⟨by rfl, ?_⟩) (by assumption) ?_
            rotate_left
            · intro wS hSw
              (try dsimp only at hSw)
              go_simp
              first | done | with_reducible rfl
            try simp only [Act.put, List.getElem_toArray, List.getElem_cons_succ, List.getElem_cons_zero, List.setIfInBounds_toArray, List.set_cons_zero, List.set_cons_succ]
            refine wpAnyH_ready (rs := [12]) (by kernel_rfl) (by simp) ?_
            refine AllReadyH.cons rfl (fun K hK => ?_) AllReadyH.nil
            rw [if_pos (by kernel_rfl)]
            refine wpStBK (b := C) _ _ rfl rfl rfl HZ.out.1 zB_len HCL.out rfl rfl ?_; intro wq hxm hgm
            have rM : Below X.heap.size X wq := rN.grown hgm rN.size (fun k hk => by cases hk; exact HZ.out.2)
            have HV : Hid (VarO wq (w.heap.size + 5) gz C (.slice fo fn fc) (.slice ao an ac)) := Lib.hid ⟨hxm, own_grownO HR.out.1 hgm (fun k hk e => own_neB HR.out.1 HZ.out.1 (by decide) (hk.trans e.symm)), own_grownO HR.out.2.1 hgm (fun k hk e => own_neB HR.out.2.1 HZ.out.1 (by decide) (hk.trans e.symm))⟩
            have HTO := Lib.hid (own_grownO HR.out.2.2 hgm (fun k hk e => own_neB HR.out.2.2 HZ.out.1 (by decide) (hk.trans e.symm)))
            clear hxm hgm
            refine hK.out _ _ ?_ (fun _ => ?_)
            · exact rM
            try simp only [Act.put, List.getElem_toArray, List.getElem_cons_succ, List.getElem_cons_zero]
            have rN := rM
            refine wpAnyH_take (i := 13) (v := ?_) rfl (by kernel_rfl) (by kernel_rfl) (by kernel_rfl) (fun _ _ _ h => h) (Or.inl ⟨by rfl, ?_⟩) (by assumption) ?_
            rotate_left
            · intro wS hSw
              (try dsimp only at hSw)
              go_simp
              first | done | with_reducible rfl
            try simp only [Act.put, List.getElem_toArray, List.getElem_cons_succ, List.getElem_cons_zero, List.setIfInBounds_toArray, List.set_cons_zero, List.set_cons_succ]
            refine wpAnyH_take (i := 14) (v := ?_) rfl (by kernel_rfl) (by kernel_rfl) (by kernel_rfl) (fun _ _ _ h => h) (Or.inl ⟨by rfl, ?_⟩) (by assumption) ?_
            rotate_left
            · intro wS hSw
              (try dsimp only at hSw)
              go_simp
              first | done | with_reducible rfl
            try simp only [Act.put, List.getElem_toArray, List.getElem_cons_succ, List.getElem_cons_zero, List.setIfInBounds_toArray, List.set_cons_zero, List.set_cons_succ]
            refine wpAnyH_done (by kernel_rfl) ?_ _
            (try go_wp2_with fail)
            go_meet
            exact ⟨gz, fo, fn, fc, ao, an, ac, ti, tn, tc, rfl, rfl, rfl, Lib.hid ⟨HS.out.later rN, HV.out, Nat.le_trans HS.out.inp.size HZ.out.2, HTO.out⟩⟩
        · go_simp
          have hz0 := heap_new wn (blkO zB NS NS)
          have hbm := belNew wn (blkO zB NS NS)
          obtain ⟨wz, hwm⟩ : ∃ wz : World, wz = wn.alloc (blkO zB NS NS) := ⟨_, rfl⟩
          rw [← hwm] at hz0 hbm
          have rM : Below X.heap.size X wz := bel rN hbm
          obtain ⟨gz, hgz⟩ : ∃ gz, gz = wn.heap.size := ⟨_, rfl⟩
          have hgx : X.heap.size ≤ gz := by rw [hgz]; exact rN.size
          rw [← hgz] at hz0
          have HZ : Hid (BlkAt wz gz zB NS NS ∧ X.heap.size ≤ gz) := Lib.hid ⟨hz0, hgx⟩
          change K _ (wn.alloc (blkO zB NS NS))
          rw [← hwm, ← hgz]
          clear hwm hgz hz0 hbm hgx
          refine hK.out _ _ ?_ (fun _ => ?_)
          · exact rM
          try simp only [Act.put, List.getElem_toArray, List.getElem_cons_succ, List.getElem_cons_zero, List.setIfInBounds_toArray, List.set_cons_zero, List.set_cons_succ]
          have rN := rM
          refine wpAnyH_ready (rs := [5]) (by kernel_rfl) (by simp) ?_
          refine AllReadyH.cons rfl (fun K hK => ?_) AllReadyH.nil
          go_simp
          refine (HLA.out _).mono ?_; rintro z wm ⟨rfl, hbm⟩
          have rM : Below X.heap.size X wm := bel rN hbm
          have HZ := Lib.hid (And.intro (HZ.out.1.below hbm) HZ.out.2)
          clear hbm
          refine hK.out _ _ ?_ (fun _ => ?_)
          · exact rM
          try simp only [Act.put, List.getElem_toArray, List.getElem_cons_succ, List.getElem_cons_zero, List.setIfInBounds_toArray, List.set_cons_zero, List.set_cons_succ]
          have rN := rM
          refine wpAnyH_ready (rs := [6]) (by kernel_rfl) (by simp) ?_
          refine AllReadyH.cons rfl (fun K hK => ?_) AllReadyH.nil
          go_simp
          refine (HC.out _ (HS.out.later rN)).mono ?_; rintro z wm ⟨fo, fn, fc, ao, an, ac, ti, tn, tc, rfl, hfr, hat, hto, hbm⟩
          have rM : Below X.heap.size X wm := bel rN hbm
          have HZ := Lib.hid (And.intro (HZ.out.1.below hbm) HZ.out.2)
          have HR := Lib.hid (And.intro (own_le hfr (Nat.le_trans HS.out.inp.size rN.size)) (And.intro (own_le hat (Nat.le_trans HS.out.inp.size rN.size)) (own_le hto (Nat.le_trans HS.out.inp.size rN.size))))
          clear hbm hfr hat hto
          refine hK.out _ _ ?_ (fun _ => ?_)
          · exact rM
          try simp only [Act.put, List.getElem_toArray, List.getElem_cons_succ, List.getElem_cons_zero, List.setIfInBounds_toArray, List.set_cons_zero, List.set_cons_succ]
          have rN := rM
          refine wpAnyH_take (i := 7) (v := ?_) rfl (by kernel_rfl) (by kernel_rfl) (by kernel_rfl) (fun _ _ _ h => h) (Or.inl ⟨by rfl, ?_⟩) (by assumption) ?_
          rotate_left
          · intro wS hSw
            (try dsimp only at hSw)
            go_simp
            first | done | with_reducible rfl
          try simp only [Act.put, List.getElem_toArray, List.getElem_cons_succ, List.getElem_cons_zero, List.setIfInBounds_toArray, List.set_cons_zero, List.set_cons_succ]
          refine wpAnyH_take (i := 8) (v := ?_) rfl (by kernel_rfl) (by kernel_rfl) (by kernel_rfl) (fun _ _ _ h => h) (Or.inl ⟨by rfl, ?_⟩) (by assumption) ?_
          rotate_left
          · intro wS hSw
            (try dsimp only at hSw)
            go_simp
            first | done | with_reducible rfl
          try simp only [Act.put, List.getElem_toArray, List.getElem_cons_succ, List.getElem_cons_zero, List.setIfInBounds_toArray, List.set_cons_zero, List.set_cons_succ]
          refine wpAnyH_take (i := 9) (v := ?_) rfl (by kernel_rfl) (by kernel_rfl) (by kernel_rfl) (fun _ _ _ h => h) (Or.inl ⟨by rfl, ?_⟩) (by assumption) ?_
          rotate_left
          · intro wS hSw
            (try dsimp only at hSw)
            go_simp
            first | done | with_reducible rfl
          try simp only [Act.put, List.getElem_toArray, List.getElem_cons_succ, List.getElem_cons_zero, List.setIfInBounds_toArray, List.set_cons_zero, List.set_cons_succ]
          refine wpAnyH_take (i := 10) (v := ?_) rfl (by kernel_rfl) (by kernel_rfl) (by kernel_rfl) (fun _ _ _ h => h) (Or.inl ⟨by rfl, ?_⟩) (by assumption) ?_
          rotate_left
          · intro wS hSw
            (try dsimp only at hSw)
            go_simp
            first | done | with_reducible rfl
          try simp only [Act.put, List.getElem_toArray, List.getElem_cons_succ, List.getElem_cons_zero, List.setIfInBounds_toArray, List.set_cons_zero, List.set_cons_succ]
          refine wpAnyH_ready (rs := [12]) (by kernel_rfl) (by simp) ?_
          refine AllReadyH.cons rfl (fun K hK => ?_) AllReadyH.nil
          rw [if_pos (by kernel_rfl)]
          refine wpStBK (b := C) _ _ rfl rfl rfl HZ.out.1 zB_len HCL.out rfl rfl ?_; intro wq hxm hgm
          have rM : Below X.heap.size X wq := rN.grown hgm rN.size (fun k hk => by cases hk; exact HZ.out.2)
          have HV : Hid (VarO wq (w.heap.size + 5) gz C (.slice fo fn fc) (.slice ao an ac)) := Lib.hid ⟨hxm, own_grownO HR.out.1 hgm (fun k hk e => own_neB HR.out.1 HZ.out.1 (by decide) (hk.trans e.symm)), own_grownO HR.out.2.1 hgm (fun k hk e => own_neB HR.out.2.1 HZ.out.1 (by decide) (hk.trans e.symm))⟩
          have HTO := Lib.hid (own_grownO HR.out.2.2 hgm (fun k hk e => own_neB HR.out.2.2 HZ.out.1 (by decide) (hk.trans e.symm)))
          clear hxm hgm
          refine hK.out _ _ ?_ (fun _ => ?_)
          · exact rM
          try simp only [Act.put, List.getElem_toArray, List.getElem_cons_succ, List.getElem_cons_zero]
          have rN := rM
          refine wpAnyH_take (i := 13) (v := ?_) rfl (by kernel_rfl) (by kernel_rfl) (by kernel_rfl) (fun _ _ _ h => h) (Or.inl ⟨by rfl, ?_⟩) (by assumption) ?_
          rotate_left
          · intro wS hSw
            (try dsimp only at hSw)
            go_simp
            first | done | with_reducible rfl
          try simp only [Act.put, List.getElem_toArray, List.getElem_cons_succ, List.getElem_cons_zero, List.setIfInBounds_toArray, List.set_cons_zero, List.set_cons_succ]
          refine wpAnyH_take (i := 14) (v := ?_) rfl (by kernel_rfl) (by kernel_rfl) (by kernel_rfl) (fun _ _ _ h => h) (Or.inl ⟨by rfl, ?_⟩) (by assumption) ?_
          rotate_left
          · intro wS hSw
            (try dsimp only at hSw)
            go_simp
            first | done | with_reducible rfl
          try simp only [Act.put, List.getElem_toArray, List.getElem_cons_succ, List.getElem_cons_zero, List.setIfInBounds_toArray, List.set_cons_zero, List.set_cons_succ]
          refine wpAnyH_done (by kernel_rfl) ?_ _
          (try go_wp2_with fail)
          go_meet
          exact ⟨gz, fo, fn, fc, ao, an, ac, ti, tn, tc, rfl, rfl, rfl, Lib.hid ⟨HS.out.later rN, HV.out, Nat.le_trans HS.out.inp.size HZ.out.2, HTO.out⟩⟩
      case rest =>
        obtain ⟨g, fo, fn, fc, ao, an, ac, ti, tn, tc, rfl, rfl, rfl, HC0⟩ := hcut
        obtain ⟨X, rfl⟩ : ∃ X, X = wc := ⟨_, rfl⟩
        have HX : Hid (LwS w b (.slice f1 f2 f3) (.slice a1 a2 a3) (.slice p1 p2 p3) (.slice q1 q2 q3) (.slice r1 r2 r3) (stO k n a (.slice l1 l2 l3) s) g C (.slice fo fn fc) (.slice ao an ac) X) := Lib.hid (HC0.out.1.toS HC0.out.2.1 HC0.out.2.2.1)
        have HTO := Lib.hid HC0.out.2.2.2
        obtain ⟨cc0, cc1, cc2, cc3, cc4, cc5⟩ := stcells HX.out.inp.attr
        go_wp2_with fail
        refine (HMY.out _).mono ?_; rintro e w3 ⟨rfl, hb3⟩
        have HX := Lib.hid (HX.out.later hb3)
        have HTO := Lib.hid (own_keep HTO.out hb3)
        clear hb3 cc0 cc1 cc2 cc3 cc4 cc5 HC0 HS
        obtain ⟨cc0, cc1, cc2, cc3, cc4, cc5⟩ := stcells HX.out.inp.attr
        go_wp2_with (refine wpLdD rfl _ rfl rfl HX.out.inp.doc ?_)
        refine (HDA.out _ HX.out.inp.below).mono ?_; rintro e w5 ⟨v1, v2, v3, tw, rfl, hd5, ht5, hb5, hap5⟩
        have hap5 : ∀ g, g < w.heap.size + 5 → ApD g b (.slice p1 p2 p3) (.slice q1 q2 q3) (.slice r1 r2 r3) → ApD g C v1 v2 v3 := fun g hg hg2 => hap5 g (Nat.lt_of_lt_of_le hg HX.out.inp.size) hg2
        obtain ⟨x1, x2, x3, rfl⟩ := seesG_form hd5.slots
        obtain ⟨y1, y2, y3, rfl⟩ := seesG_form hd5.free
        obtain ⟨z1, z2, z3, rfl⟩ := seesG_form hd5.attrs
        obtain ⟨uo, un, uc, rfl⟩ := own_form ht5
        have HX5 := Lib.hid (HX.out.later hb5)
        have HT5 := Lib.hid (own_keep HTO.out hb5)
        have HD5 := Lib.hid (And.intro hd5 (And.intro (own_le ht5 (Nat.le_trans HX.out.inp.size (Nat.le_refl _))) hap5))
        have HB5 := Lib.hid (Nat.le_trans HX.out.inp.size hb5.size)
        have HZ5 : Hid (DocAt (w5.alloc (docO 0 ⟨#[]⟩ NS NS NS)) w5.heap.size 0 ⟨#[]⟩ NS NS NS) := Lib.hid (heap_new w5 _)
        clear cc0 cc1 cc2 cc3 cc4 cc5 hd5 ht5 hap5 hb5 HX HTO
        go_upto_region 11 with ((change wpList _ _ _ _ _ (w5.alloc (docO 0 ⟨#[]⟩ NS NS NS))); refine wpStD (y := b.addr) (s := b.aff) rfl _ _ rfl rfl rfl HZ5.out rfl rfl rfl ?_; intro w6 hx6 hg6)
        have hb6 := docv_new hg6
        have HX := Lib.hid (HX5.out.later hb6)
        have HD : Hid (LwD w w5.heap.size C (.slice x1 x2 x3) (.slice y1 y2 y3) (.slice z1 z2 z3) (.slice ti tn tc) (.slice uo un uc) T w6) := Lib.hid ⟨by rw [HCA.out.1, HCA.out.2]; exact hx6, HD5.out.1.below hb6, HD5.out.2.2 _ (by omega) (HBo.out.doc.ap (by omega)), HD5.out.2.2 _ (by omega) (HBo.out.doc.ap (by omega)), HB5.out, own_keep HT5.out hb6, own_keep HD5.out.2.1 hb6⟩
        have HAP : Hid (∀ g, g < w.heap.size → ApD g b (.slice p1 p2 p3) (.slice q1 q2 q3) (.slice r1 r2 r3) → ApD g C (.slice x1 x2 x3) (.slice y1 y2 y3) (.slice z1 z2 z3)) := Lib.hid (fun g hg ha => HD5.out.2.2 g (by omega) ha)
        clear HX5 HT5 HD5 HB5 HZ5 hx6 hg6 hb6
        obtain ⟨gd, hgd⟩ : ∃ gd, gd = w5.heap.size := ⟨_, rfl⟩
        rw [← hgd] at HD ⊢
        clear hgd
        obtain ⟨X, rfl⟩ : ∃ X, X = w6 := ⟨_, rfl⟩
        refine wp_region_held_drew (S := (fun Y => LwS w b (.slice f1 f2 f3) (.slice a1 a2 a3) (.slice p1 p2 p3) (.slice q1 q2 q3) (.slice r1 r2 r3) (stO k n a (.slice l1 l2 l3) s) g C (.slice fo fn fc) (.slice ao an ac) Y ∧ LwD w gd C (.slice x1 x2 x3) (.slice y1 y2 y3) (.slice z1 z2 z3) (.slice ti tn tc) (.slice uo un uc) T Y)) (by kernel_rfl) ?_ (fun rN => ?_)
        · exact ⟨HX.out.later ⟨rfl, rfl, rfl, Nat.le_refl _, fun _ _ => rfl⟩, HD.out.later ⟨rfl, rfl, rfl, Nat.le_refl _, fun _ _ => rfl⟩⟩
        obtain ⟨wn, hwn⟩ : ∃ wn, wn = X.drew := ⟨_, rfl⟩
        rw [← hwn] at rN ⊢
        clear hwn
        have rN : LwS w b (.slice f1 f2 f3) (.slice a1 a2 a3) (.slice p1 p2 p3) (.slice q1 q2 q3) (.slice r1 r2 r3) (stO k n a (.slice l1 l2 l3) s) g C (.slice fo fn fc) (.slice ao an ac) wn ∧ LwD w gd C (.slice x1 x2 x3) (.slice y1 y2 y3) (.slice z1 z2 z3) (.slice ti tn tc) (.slice uo un uc) T wn := rN
        refine wpAnyH_take (i := 0) (v := _) rfl (by kernel_rfl) (by kernel_rfl) (by kernel_rfl) (fun _ _ _ h => h) (ldBIf (by rfl) _ rfl rfl (fun W hW => hW.1.c.blk) HCL.out) (by assumption) ?_
        try simp only [Act.put, List.getElem_toArray, List.getElem_cons_zero, List.setIfInBounds_toArray, List.set_cons_zero, List.set_cons_succ]
        refine wpAnyH_take (i := 1) (v := _) rfl (by kernel_rfl) (by kernel_rfl) (by kernel_rfl) (fun _ _ _ h => h) (ldDIf (by rfl) _ rfl rfl (fun W hW => hW.2.doc) ) (by assumption) ?_
        try simp only [Act.put, List.getElem_toArray, List.getElem_cons_succ, List.getElem_cons_zero, List.setIfInBounds_toArray, List.set_cons_zero, List.set_cons_succ]
        refine wpAnyH_take (i := 2) (v := ?_) rfl (by kernel_rfl) (by kernel_rfl) (by kernel_rfl) (fun _ _ _ h => h) (Or.inl ⟨by rfl, ?_⟩) (by assumption) ?_
        rotate_left
        · intro wS hSw
          (try dsimp only at hSw)
          go_simp
          first | done | with_reducible rfl
        try simp only [Act.put, List.getElem_toArray, List.getElem_cons_succ, List.getElem_cons_zero, List.setIfInBounds_toArray, List.set_cons_zero, List.set_cons_succ]
        refine wpAnyH_take (i := 3) (v := ?_) rfl (by kernel_rfl) (by kernel_rfl) (by kernel_rfl) (fun _ _ _ h => h) (Or.inl ⟨by rfl, ?_⟩) (by assumption) ?_
        rotate_left
        · intro wS hSw
          (try dsimp only at hSw)
          go_simp
          first | done | with_reducible rfl
        try simp only [Act.put, List.getElem_toArray, List.getElem_cons_succ, List.getElem_cons_zero, List.setIfInBounds_toArray, List.set_cons_zero, List.set_cons_succ]
        refine wpAnyH_take (i := 4) (v := ?_) rfl (by kernel_rfl) (by kernel_rfl) (by kernel_rfl) (fun _ _ _ h => h) (Or.inl ⟨by rfl, ?_⟩) (by assumption) ?_
        rotate_left
        · intro wS hSw
          (try dsimp only at hSw)
          go_simp
          first | done | with_reducible rfl
        try simp only [Act.put, List.getElem_toArray, List.getElem_cons_succ, List.getElem_cons_zero, List.setIfInBounds_toArray, List.set_cons_zero, List.set_cons_succ]
        refine wpAnyH_take (i := 5) (v := ?_) rfl (by kernel_rfl) (by kernel_rfl) (by kernel_rfl) (fun _ _ _ h => h) (Or.inl ⟨by rfl, ?_⟩) (by assumption) ?_
        rotate_left
        · intro wS hSw
          (try dsimp only at hSw)
          go_simp
          first | done | with_reducible rfl
        try simp only [Act.put, List.getElem_toArray, List.getElem_cons_succ, List.getElem_cons_zero, List.setIfInBounds_toArray, List.set_cons_zero, List.set_cons_succ]
        refine wpAnyH_take (i := 6) (v := ?_) rfl (by kernel_rfl) (by kernel_rfl) (by kernel_rfl) (fun _ _ _ h => h) (Or.inl ⟨by rfl, ?_⟩) (by assumption) ?_
        rotate_left
        · intro wS hSw
          (try dsimp only at hSw)
          go_simp
          first | done | with_reducible rfl
        try simp only [Act.put, List.getElem_toArray, List.getElem_cons_succ, List.getElem_cons_zero, List.setIfInBounds_toArray, List.set_cons_zero, List.set_cons_succ]
        refine wpAnyH_ready (rs := [7]) (by kernel_rfl) (by simp) ?_
        refine AllReadyH.cons rfl (fun K hK => ?_) AllReadyH.nil
        go_simp
        refine (addrs_same ((RowG.sees rN.2.ta.row (fun _ => rfl)).toU) ((RowG.sees rN.2.tb (fun _ => rfl)).toU) HTL.out).mono ?_; rintro z wm ⟨rfl, hbm⟩
        have rM : LwS w b (.slice f1 f2 f3) (.slice a1 a2 a3) (.slice p1 p2 p3) (.slice q1 q2 q3) (.slice r1 r2 r3) (stO k n a (.slice l1 l2 l3) s) g C (.slice fo fn fc) (.slice ao an ac) wm ∧ LwD w gd C (.slice x1 x2 x3) (.slice y1 y2 y3) (.slice z1 z2 z3) (.slice ti tn tc) (.slice uo un uc) T wm := ⟨rN.1.later hbm, rN.2.later hbm⟩
        clear hbm
        refine hK.out _ _ ?_ (fun _ => ?_)
        · exact rM
        try simp only [Act.put, List.getElem_toArray, List.getElem_cons_succ, List.getElem_cons_zero, List.setIfInBounds_toArray, List.set_cons_zero, List.set_cons_succ]
        have rN := rM
        refine wpAnyH_take (i := 8) (v := ?_) rfl (by kernel_rfl) (by kernel_rfl) (by kernel_rfl) (fun _ _ _ h => h) (Or.inl ⟨by rfl, ?_⟩) (by assumption) ?_
        rotate_left
        · intro wS hSw
          (try dsimp only at hSw)
          go_simp
          first | done | with_reducible rfl
        try simp only [Act.put, List.getElem_toArray, List.getElem_cons_succ, List.getElem_cons_zero, List.setIfInBounds_toArray, List.set_cons_zero, List.set_cons_succ]
        refine wpAnyH_ready (rs := [9]) (by kernel_rfl) (by simp) ?_
        refine AllReadyH.cons rfl (fun K hK => ?_) AllReadyH.nil
        rw [if_pos (by kernel_rfl)]
        obtain ⟨b0, f0, a0, hz3, hz3l⟩ := rN.1.z3
        refine wpStBK (b := C) _ _ rfl rfl rfl hz3 hz3l HCL.out rfl rfl ?_; intro wq hxm hgm
        have rM : LwS w b (.slice f1 f2 f3) (.slice a1 a2 a3) (.slice p1 p2 p3) (.slice q1 q2 q3) (.slice r1 r2 r3) (stO k n a (.slice l1 l2 l3) s) g C (.slice fo fn fc) (.slice ao an ac) wq ∧ LwD w gd C (.slice x1 x2 x3) (.slice y1 y2 y3) (.slice z1 z2 z3) (.slice ti tn tc) (.slice uo un uc) T wq := ⟨rN.1.st3 hgm hxm HCL.out, rN.2.st3 hgm⟩
        have H3 := Lib.hid hxm
        clear hxm hgm hz3 hz3l
        refine hK.out _ _ ?_ (fun _ => ?_)
        · exact rM
        try simp only [Act.put, List.getElem_toArray, List.getElem_cons_succ, List.getElem_cons_zero]
        have rN := rM
        refine wpAnyH_ready (rs := [10]) (by kernel_rfl) (by simp) ?_
        refine AllReadyH.cons rfl (fun K hK => ?_) AllReadyH.nil
        rw [if_pos (by kernel_rfl)]
        obtain ⟨y0, s0, u01, u02, u03, hz4⟩ := rN.1.z4
        refine wpStDK (y := C.addr) (s := C.aff) _ _ rfl rfl rfl hz4 rfl rfl rfl ?_; intro wp hxm hgm
        have rM : LwS w b (.slice f1 f2 f3) (.slice a1 a2 a3) (.slice p1 p2 p3) (.slice q1 q2 q3) (.slice r1 r2 r3) (stO k n a (.slice l1 l2 l3) s) g C (.slice fo fn fc) (.slice ao an ac) wp ∧ LwD w gd C (.slice x1 x2 x3) (.slice y1 y2 y3) (.slice z1 z2 z3) (.slice ti tn tc) (.slice uo un uc) T wp := ⟨rN.1.st4 hgm hxm, rN.2.st4 hgm⟩
        have H3' := Lib.hid (blk_grownO H3.out hgm (fun e => by have := Option.some.inj e; omega))
        have H4 := Lib.hid hxm
        clear hxm hgm hz4
        refine hK.out _ _ ?_ (fun _ => ?_)
        · exact rM
        try simp only [Act.put, List.getElem_toArray, List.getElem_cons_succ, List.getElem_cons_zero]
        have rN := rM
        refine wpAnyH_take (i := 11) (v := ?_) rfl (by kernel_rfl) (by kernel_rfl) (by kernel_rfl) (fun _ _ _ h => h) (Or.inl ⟨by rfl, ?_⟩) (by assumption) ?_
        rotate_left
        · intro wS hSw
          (try dsimp only at hSw)
          go_simp
          first | done | with_reducible rfl
        try simp only [Act.put, List.getElem_toArray, List.getElem_cons_succ, List.getElem_cons_zero, List.setIfInBounds_toArray, List.set_cons_zero, List.set_cons_succ]
        refine wpAnyH_done (by kernel_rfl) ?_ _
        go_wp2_with fail
        exact bodyPost_ret (resC rfl rfl rfl (loadVarB H3'.out HCL.out) (loadVarD H4.out)) rfl ⟨C, _, _, _, _, _, rfl, ⟨rN.1.c.free.sees, RowA.sees rN.1.c.attrs, rN.2.sees, HCB.out.1, HCB.out.2⟩, rN.1.inp.below, fun g hg ha => ⟨fun _ e => by have := (World.ownsRow.lt rN.1.c.free g e).1; omega, fun _ e => by have := (World.ownsRow.lt rN.1.c.attrs g e).1; omega, HAP.out g hg ha.2.2⟩⟩
end Go.Proofs.YtgodmnpcedfdcaaGreat
