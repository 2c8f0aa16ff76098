/- The laws' Do: Assign under an attribute that may not be. Made by g_bdm.py. -/
import Derived.Test.YtgodmnpcedfdcaaGreatJDm
namespace Go.Proofs.YtgodmnpcedfdcaaGreat
open Go.RowKit
set_option maxRecDepth 100000 in
set_option maxHeartbeats 16000000 in
theorem do01_may (b : BlkS) (f1 a1 p1 q1 r1 : Option Addr) (f2 f3 a2 a3 p2 p3 q2 q3 r2 r3 : Nat) (k n : Int) (a : PA) (l1 : Option Addr) (l2 l3 : Nat) (l : List Int) (s : ByteArray) (w : World) (hB : Both w b (.slice f1 f2 f3) (.slice a1 a2 a3) (.slice p1 p2 p3) (.slice q1 q2 q3) (.slice r1 r2 r3)) (h1 : a.1.size ≤ maxLen) (h2 : a.2.size ≤ maxLen) (hls : SeesU w (.slice l1 l2 l3) l) (hlx : ∀ x ∈ l, 0 ≤ x ∧ x < 4294967296) (_ : s.size ≤ maxLen) (hk : k = 0 ∨ k = 1) (hm : mayP a = false) :
    Calls Tryz.prog 6 #[.agg (blkL b (.slice f1 f2 f3) (.slice a1 a2 a3)).toArray, docV b.addr b.aff (.slice p1 p2 p3) (.slice q1 q2 q3) (.slice r1 r2 r3), stV k n a (.slice l1 l2 l3) s] w (DoP w b (.slice f1 f2 f3) (.slice a1 a2 a3) (.slice p1 p2 p3) (.slice q1 q2 q3) (.slice r1 r2 r3)) := by
  have hl := hB.wf.2.1
  have HBo := Lib.hid hB
  obtain ⟨m, hm1, hm2, hm3, hm4, hm5⟩ := cut80 hls
  have HMM := Lib.hid (And.intro hm1 hm2)
  have HLT := Lib.hid (And.intro hm3 (And.intro hm4 hm5))
  have HLX : Hid (∀ x ∈ l.take m, 0 ≤ x ∧ x < 4294967296) := Lib.hid (fun x hx => hlx x (List.mem_of_mem_take hx))
  obtain ⟨C, hC⟩ : ∃ C, C = zB := ⟨_, rfl⟩
  obtain ⟨T, hT⟩ : ∃ T : List Int, T = [] := ⟨_, rfl⟩
  have HCL : Hid (C.sl.length = 64) := Lib.hid (by rw [hC]; exact zB_len)
  have HCZ := Lib.hid hC
  have HC : Hid (∀ Y, Lw0 w b (.slice f1 f2 f3) (.slice a1 a2 a3) (.slice p1 p2 p3) (.slice q1 q2 q3) (.slice r1 r2 r3) (stO k n a (.slice l1 l2 l3) s) Y → Calls Tryz.prog 14 #[.agg (blkL b (.slice f1 f2 f3) (.slice a1 a2 a3)).toArray, .int .i64 n, atV a] Y fun e Z => ∃ fo fn fc ao an ac, e = .returned (.tuple #[.agg (blkL C (.slice fo fn fc) (.slice ao an ac)).toArray, NS, .int .i64 1]) ∧ Owns Z Y.heap.size (.slice fo fn fc) C.free ∧ RowA EAt Z Y.heap.size (.slice ao an ac) C.attrs ∧ OwnsU Z Y.heap.size (NS) T ∧ Below Y.heap.size Y Z) := Lib.hid (by
    subst hC hT
    intro Y hY
    exact (assign_bad b _ _ n a Y (hB.free.keep hY.inp.below) (hB.attrs.below hY.inp.below) hB.wf h1 h2 (by rw [hm]; cases rightB b <;> rfl)).mono fun e Z h => ⟨none, 0, 0, none, 0, 0, h.1, World.ownsRow_nil _ _ _ _, World.ownsRow_nil _ _ _ _, World.ownsRow_nil _ _ _ _, h.2⟩)
  have HMY := refMayA_any a h1 h2
  rw [hm] at HMY
  have HMY := Lib.hid HMY
  have HLA := Lib.hid (fun w => lawAttr_any a w)
  have HS := Lib.hid (Lw0.new w b (.slice f1 f2 f3) (.slice a1 a2 a3) (.slice p1 p2 p3) (.slice q1 q2 q3) (.slice r1 r2 r3) (stO k n a (.slice l1 l2 l3) s))
  obtain ⟨X, hX⟩ : ∃ X, X = (((((w.alloc (blkO b (.slice f1 f2 f3) (.slice a1 a2 a3))).alloc (docO b.addr b.aff (.slice p1 p2 p3) (.slice q1 q2 q3) (.slice r1 r2 r3))).alloc (stO k n a (.slice l1 l2 l3) s)).alloc (blkO zB NS NS)).alloc (docO 0 ⟨#[]⟩ NS NS NS)) := ⟨_, rfl⟩
  rw [← hX] at HS
  have HW := Lib.hid hX
  clear hm1 hm2 hm3 hm4 hm5 hls hlx hX hB
  clear h1 h2 hm hC hT
  go_enter Tryz.func6, Tryz.ntmps6
  go_upto_region 1 with fail
  change Code.wp _ _ _ _ (((((w.alloc (blkO b (.slice f1 f2 f3) (.slice a1 a2 a3))).alloc (docO b.addr b.aff (.slice p1 p2 p3) (.slice q1 q2 q3) (.slice r1 r2 r3))).alloc (stO k n a (.slice l1 l2 l3) s)).alloc (blkO zB NS NS)).alloc (docO 0 ⟨#[]⟩ NS NS NS))
  rw [← HW.out]
  clear HW
  obtain ⟨cc0, cc1, cc2, cc3, cc4, cc5⟩ := stcells HS.out.inp.attr
  go_upto_if 37 with fail
  go_cut [9] (fun s9 wx => s9 = .slice l1 m l3 ∧ wx = X)
  case first =>
    by_cases h80 : 80 < l2
    · obtain ⟨rfl, hcap, la, rfl⟩ := HMM.out.1 h80
      have hd : decide (80 < (l2 : Int)) = true := decide_eq_true (by omega)
      have hd' : decide (80 < l2) = true := decide_eq_true h80
      go_wp2_with fail
      go_meet
      exact ⟨rfl, rfl⟩
    · obtain rfl := HMM.out.2 h80
      have hd : decide (80 < (m : Int)) = false := decide_eq_false (by omega)
      have hd' : decide (80 < m) = false := decide_eq_false h80
      go_wp2_with fail
      go_meet
      exact ⟨rfl, rfl⟩
  case rest =>
    obtain ⟨rfl, hwc⟩ := hcut
    subst wc
    go_upto_if 42 with fail
    go_cut [42] (fun s42 wx => s42 = .bool true ∧ wx = X)
    case first =>
      rcases hk with rfl | rfl
      · go_wp2_with fail
        go_meet
        exact ⟨rfl, rfl⟩
      · go_wp2_with fail
        go_meet
        exact ⟨rfl, rfl⟩
    case rest =>
      obtain ⟨rfl, hwc⟩ := hcut
      subst wc
      go_upto_region 7 with fail
      clear cc0 cc1 cc2 cc3 cc4 cc5
      go_cut [10, 11, 12] (fun s10 s11 s12 wx => ∃ (g : Nat) (fo : Option Addr) (fn fc : Nat) (ao : Option Addr) (an ac : Nat), s10 = .pointer (some ⟨g, 0, none⟩) ∧ s11 = NS ∧ s12 = .int .i64 1 ∧ Hid (Lw0 w b (.slice f1 f2 f3) (.slice a1 a2 a3) (.slice p1 p2 p3) (.slice q1 q2 q3) (.slice r1 r2 r3) (stO k n a (.slice l1 l2 l3) s) wx ∧ VarO wx (w.heap.size + 5) g C (.slice fo fn fc) (.slice ao an ac) ∧ w.heap.size + 5 ≤ g ∧ OwnsU wx (w.heap.size + 5) (NS) T))
      case first =>
        refine wp_region_held_drew (S := (fun Y => Below X.heap.size X Y)) (by kernel_rfl) ?_ (fun rN => ?_)
        · exact ⟨rfl, rfl, rfl, Nat.le_refl _, fun _ _ => rfl⟩
        obtain ⟨wn, hwn⟩ : ∃ wn, wn = X.drew := ⟨_, rfl⟩
        rw [← hwn] at rN ⊢
        clear hwn
        have rN : Below X.heap.size X wn := rN
        refine wpAnyH_take (i := 0) (v := _) rfl (by kernel_rfl) (by kernel_rfl) (by kernel_rfl) (fun _ _ _ h => h) (ldBIf (by rfl) _ rfl rfl (fun W hW => (HS.out.later hW).inp.blk) hl) (by assumption) ?_
        try simp only [Act.put, List.getElem_toArray, List.getElem_cons_zero, List.setIfInBounds_toArray, List.set_cons_zero, List.set_cons_succ]
        refine wpAnyH_take (i := 1) (v := ?_) rfl (by kernel_rfl) (by kernel_rfl) (by kernel_rfl) (fun _ _ _ h => h) (Or.inl ⟨by rfl, ?_⟩) (by assumption) ?_
        rotate_left
        · intro wS hSw
          (try dsimp only at hSw)
          go_simp
          first | done | with_reducible rfl
        try simp only [Act.put, List.getElem_toArray, List.getElem_cons_succ, List.getElem_cons_zero, List.setIfInBounds_toArray, List.set_cons_zero, List.set_cons_succ]
        refine wpAnyH_take (i := 2) (v := ?_) rfl (by kernel_rfl) (by kernel_rfl) (by kernel_rfl) (fun _ _ _ h => h) (Or.inl ⟨by rfl, ?_⟩) (by assumption) ?_
        rotate_left
        · intro wS hSw
          (try dsimp only at hSw)
          obtain ⟨m0, m1, m2, m3, m4, m5⟩ := stcells (HS.out.later hSw).inp.attr
          go_simp
          first | done | with_reducible rfl
        try simp only [Act.put, List.getElem_toArray, List.getElem_cons_succ, List.getElem_cons_zero, List.setIfInBounds_toArray, List.set_cons_zero, List.set_cons_succ]
        refine wpAnyH_take (i := 3) (v := ?_) rfl (by kernel_rfl) (by kernel_rfl) (by kernel_rfl) (fun _ _ _ h => h) (Or.inl ⟨by rfl, ?_⟩) (by assumption) ?_
        rotate_left
        · intro wS hSw
          (try dsimp only at hSw)
          go_simp
          first | done | with_reducible rfl
        try simp only [Act.put, List.getElem_toArray, List.getElem_cons_succ, List.getElem_cons_zero, List.setIfInBounds_toArray, List.set_cons_zero, List.set_cons_succ]
        refine wpAnyH_take (i := 4) (v := ?_) rfl (by kernel_rfl) (by kernel_rfl) (by kernel_rfl) (fun _ _ _ h => h) (Or.inl ⟨by rfl, ?_⟩) (by assumption) ?_
        rotate_left
        · intro wS hSw
          (try dsimp only at hSw)
          obtain ⟨m0, m1, m2, m3, m4, m5⟩ := stcells (HS.out.later hSw).inp.attr
          go_simp
          first | done | with_reducible rfl
        try simp only [Act.put, List.getElem_toArray, List.getElem_cons_succ, List.getElem_cons_zero, List.setIfInBounds_toArray, List.set_cons_zero, List.set_cons_succ]
        refine wpAnyH_ready (rs := [5, 11]) (by kernel_rfl) (by simp) ?_
        refine AllReadyH.cons rfl (fun K hK => ?_) (AllReadyH.cons rfl (fun K hK => ?_) AllReadyH.nil)
        · go_simp
          refine (HLA.out _).mono ?_; rintro z wm ⟨rfl, hbm⟩
          have rM : Below X.heap.size X wm := bel rN hbm
          clear hbm
          refine hK.out _ _ ?_ (fun _ => ?_)
          · exact rM
          try simp only [Act.put, List.getElem_toArray, List.getElem_cons_succ, List.getElem_cons_zero, List.setIfInBounds_toArray, List.set_cons_zero, List.set_cons_succ]
          have rN := rM
          refine wpAnyH_ready (rs := [6, 11]) (by kernel_rfl) (by simp) ?_
          refine AllReadyH.cons rfl (fun K hK => ?_) (AllReadyH.cons rfl (fun K hK => ?_) AllReadyH.nil)
          · go_simp
            refine (HC.out _ (HS.out.later rN)).mono ?_; rintro z wm ⟨fo, fn, fc, ao, an, ac, rfl, hfr, hat, hto, hbm⟩
            have rM : Below X.heap.size X wm := bel rN hbm
            have HR := Lib.hid (And.intro (own_le hfr (Nat.le_trans HS.out.inp.size rN.size)) (And.intro (own_le hat (Nat.le_trans HS.out.inp.size rN.size)) (own_le hto (Nat.le_trans HS.out.inp.size rN.size))))
            clear hbm hfr hat hto
            refine hK.out _ _ ?_ (fun _ => ?_)
            · exact rM
            try simp only [Act.put, List.getElem_toArray, List.getElem_cons_succ, List.getElem_cons_zero, List.setIfInBounds_toArray, List.set_cons_zero, List.set_cons_succ]
            have rN := rM
            refine wpAnyH_take (i := 7) (v := ?_) rfl (by kernel_rfl) (by kernel_rfl) (by kernel_rfl) (fun _ _ _ h => h) (Or.inl ⟨by rfl, ?_⟩) (by assumption) ?_
            rotate_left
            · intro wS hSw
              (try dsimp only at hSw)
              go_simp
              first | done | with_reducible rfl
            try simp only [Act.put, List.getElem_toArray, List.getElem_cons_succ, List.getElem_cons_zero, List.setIfInBounds_toArray, List.set_cons_zero, List.set_cons_succ]
            refine wpAnyH_take (i := 8) (v := ?_) rfl (by kernel_rfl) (by kernel_rfl) (by kernel_rfl) (fun _ _ _ h => h) (Or.inl ⟨by rfl, ?_⟩) (by assumption) ?_
            rotate_left
            · intro wS hSw
              (try dsimp only at hSw)
              go_simp
              first | done | with_reducible rfl
            try simp only [Act.put, List.getElem_toArray, List.getElem_cons_succ, List.getElem_cons_zero, List.setIfInBounds_toArray, List.set_cons_zero, List.set_cons_succ]
            refine wpAnyH_take (i := 9) (v := ?_) rfl (by kernel_rfl) (by kernel_rfl) (by kernel_rfl) (fun _ _ _ h => h) (Or.inl ⟨by rfl, ?_⟩) (by assumption) ?_
            rotate_left
            · intro wS hSw
              (try dsimp only at hSw)
              go_simp
              first | done | with_reducible rfl
            try simp only [Act.put, List.getElem_toArray, List.getElem_cons_succ, List.getElem_cons_zero, List.setIfInBounds_toArray, List.set_cons_zero, List.set_cons_succ]
            refine wpAnyH_take (i := 10) (v := ?_) rfl (by kernel_rfl) (by kernel_rfl) (by kernel_rfl) (fun _ _ _ h => h) (Or.inl ⟨by rfl, ?_⟩) (by assumption) ?_
            rotate_left
            · intro wS hSw
              (try dsimp only at hSw)
              go_simp
              first | done | with_reducible rfl
            try simp only [Act.put, List.getElem_toArray, List.getElem_cons_succ, List.getElem_cons_zero, List.setIfInBounds_toArray, List.set_cons_zero, List.set_cons_succ]
            refine wpAnyH_ready (rs := [11]) (by kernel_rfl) (by simp) ?_
            refine AllReadyH.cons rfl (fun K hK => ?_) AllReadyH.nil
            go_simp
            have hz0 := heap_new wm (blkO zB NS NS)
            have hbm := belNew wm (blkO zB NS NS)
            obtain ⟨wz, hwm⟩ : ∃ wz : World, wz = wm.alloc (blkO zB NS NS) := ⟨_, rfl⟩
            rw [← hwm] at hz0 hbm
            have rM : Below X.heap.size X wz := bel rN hbm
            obtain ⟨gz, hgz⟩ : ∃ gz, gz = wm.heap.size := ⟨_, rfl⟩
            have hgx : X.heap.size ≤ gz := by rw [hgz]; exact rN.size
            rw [← hgz] at hz0
            have HZ : Hid (BlkAt wz gz zB NS NS ∧ X.heap.size ≤ gz) := Lib.hid ⟨hz0, hgx⟩
            have HR := Lib.hid (And.intro (own_keep HR.out.1 hbm) (And.intro (own_keep HR.out.2.1 hbm) (own_keep HR.out.2.2 hbm)))
            change K _ (wm.alloc (blkO zB NS NS))
            rw [← hwm, ← hgz]
            clear hwm hgz hz0 hbm hgx
            refine hK.out _ _ ?_ (fun _ => ?_)
            · exact rM
            try simp only [Act.put, List.getElem_toArray, List.getElem_cons_succ, List.getElem_cons_zero, List.setIfInBounds_toArray, List.set_cons_zero, List.set_cons_succ]
            have rN := rM
            refine wpAnyH_ready (rs := [12]) (by kernel_rfl) (by simp) ?_
            refine AllReadyH.cons rfl (fun K hK => ?_) AllReadyH.nil
            rw [if_pos (by kernel_rfl)]
            refine wpStBK (b := C) _ _ rfl rfl rfl HZ.out.1 zB_len HCL.out rfl rfl ?_; intro wq hxm hgm
            have rM : Below X.heap.size X wq := rN.grown hgm rN.size (fun k hk => by cases hk; exact HZ.out.2)
            have HV : Hid (VarO wq (w.heap.size + 5) gz C (.slice fo fn fc) (.slice ao an ac)) := Lib.hid ⟨hxm, own_grownO HR.out.1 hgm (fun k hk e => own_neB HR.out.1 HZ.out.1 (by decide) (hk.trans e.symm)), own_grownO HR.out.2.1 hgm (fun k hk e => own_neB HR.out.2.1 HZ.out.1 (by decide) (hk.trans e.symm))⟩
            have HTO := Lib.hid (own_grownO HR.out.2.2 hgm (fun k hk e => own_neB HR.out.2.2 HZ.out.1 (by decide) (hk.trans e.symm)))
            clear hxm hgm
            refine hK.out _ _ ?_ (fun _ => ?_)
            · exact rM
            try simp only [Act.put, List.getElem_toArray, List.getElem_cons_succ, List.getElem_cons_zero]
            have rN := rM
            refine wpAnyH_take (i := 13) (v := ?_) rfl (by kernel_rfl) (by kernel_rfl) (by kernel_rfl) (fun _ _ _ h => h) (Or.inl ⟨by rfl, ?_⟩) (by assumption) ?_
            rotate_left
            · intro wS hSw
              (try dsimp only at hSw)
              go_simp
              first | done | with_reducible rfl
            try simp only [Act.put, List.getElem_toArray, List.getElem_cons_succ, List.getElem_cons_zero, List.setIfInBounds_toArray, List.set_cons_zero, List.set_cons_succ]
            refine wpAnyH_take (i := 14) (v := ?_) rfl (by kernel_rfl) (by kernel_rfl) (by kernel_rfl) (fun _ _ _ h => h) (Or.inl ⟨by rfl, ?_⟩) (by assumption) ?_
            rotate_left
            · intro wS hSw
              (try dsimp only at hSw)
              go_simp
              first | done | with_reducible rfl
            try simp only [Act.put, List.getElem_toArray, List.getElem_cons_succ, List.getElem_cons_zero, List.setIfInBounds_toArray, List.set_cons_zero, List.set_cons_succ]
            refine wpAnyH_done (by kernel_rfl) ?_ _
            (try go_wp2_with fail)
            go_meet
            exact ⟨gz, fo, fn, fc, ao, an, ac, rfl, rfl, rfl, Lib.hid ⟨HS.out.later rN, HV.out, Nat.le_trans HS.out.inp.size HZ.out.2, HTO.out⟩⟩
          · go_simp
            have hz0 := heap_new wm (blkO zB NS NS)
            have hbm := belNew wm (blkO zB NS NS)
            obtain ⟨wz, hwm⟩ : ∃ wz : World, wz = wm.alloc (blkO zB NS NS) := ⟨_, rfl⟩
            rw [← hwm] at hz0 hbm
            have rM : Below X.heap.size X wz := bel rN hbm
            obtain ⟨gz, hgz⟩ : ∃ gz, gz = wm.heap.size := ⟨_, rfl⟩
            have hgx : X.heap.size ≤ gz := by rw [hgz]; exact rN.size
            rw [← hgz] at hz0
            have HZ : Hid (BlkAt wz gz zB NS NS ∧ X.heap.size ≤ gz) := Lib.hid ⟨hz0, hgx⟩
            change K _ (wm.alloc (blkO zB NS NS))
            rw [← hwm, ← hgz]
            clear hwm hgz hz0 hbm hgx
            refine hK.out _ _ ?_ (fun _ => ?_)
            · exact rM
            try simp only [Act.put, List.getElem_toArray, List.getElem_cons_succ, List.getElem_cons_zero, List.setIfInBounds_toArray, List.set_cons_zero, List.set_cons_succ]
            have rN := rM
            refine wpAnyH_ready (rs := [6]) (by kernel_rfl) (by simp) ?_
            refine AllReadyH.cons rfl (fun K hK => ?_) AllReadyH.nil
            go_simp
            refine (HC.out _ (HS.out.later rN)).mono ?_; rintro z wm ⟨fo, fn, fc, ao, an, ac, rfl, hfr, hat, hto, hbm⟩
            have rM : Below X.heap.size X wm := bel rN hbm
            have HZ := Lib.hid (And.intro (HZ.out.1.below hbm) HZ.out.2)
            have HR := Lib.hid (And.intro (own_le hfr (Nat.le_trans HS.out.inp.size rN.size)) (And.intro (own_le hat (Nat.le_trans HS.out.inp.size rN.size)) (own_le hto (Nat.le_trans HS.out.inp.size rN.size))))
            clear hbm hfr hat hto
            refine hK.out _ _ ?_ (fun _ => ?_)
            · exact rM
            try simp only [Act.put, List.getElem_toArray, List.getElem_cons_succ, List.getElem_cons_zero, List.setIfInBounds_toArray, List.set_cons_zero, List.set_cons_succ]
            have rN := rM
            refine wpAnyH_take (i := 7) (v := ?_) rfl (by kernel_rfl) (by kernel_rfl) (by kernel_rfl) (fun _ _ _ h => h) (Or.inl ⟨by rfl, ?_⟩) (by assumption) ?_
            rotate_left
            · intro wS hSw
              (try dsimp only at hSw)
              go_simp
              first | done | with_reducible rfl
            try simp only [Act.put, List.getElem_toArray, List.getElem_cons_succ, List.getElem_cons_zero, List.setIfInBounds_toArray, List.set_cons_zero, List.set_cons_succ]
            refine wpAnyH_take (i := 8) (v := ?_) rfl (by kernel_rfl) (by kernel_rfl) (by kernel_rfl) (fun _ _ _ h => h) (Or.inl ⟨by rfl, ?_⟩) (by assumption) ?_
            rotate_left
            · intro wS hSw
              (try dsimp only at hSw)
              go_simp
              first | done | with_reducible rfl
            try simp only [Act.put, List.getElem_toArray, List.getElem_cons_succ, List.getElem_cons_zero, List.setIfInBounds_toArray, List.set_cons_zero, List.set_cons_succ]
            refine wpAnyH_take (i := 9) (v := ?_) rfl (by kernel_rfl) (by kernel_rfl) (by kernel_rfl) (fun _ _ _ h => h) (Or.inl ⟨by rfl, ?_⟩) (by assumption) ?_
            rotate_left
            · intro wS hSw
              (try dsimp only at hSw)
              go_simp
              first | done | with_reducible rfl
            try simp only [Act.put, List.getElem_toArray, List.getElem_cons_succ, List.getElem_cons_zero, List.setIfInBounds_toArray, List.set_cons_zero, List.set_cons_succ]
            refine wpAnyH_take (i := 10) (v := ?_) rfl (by kernel_rfl) (by kernel_rfl) (by kernel_rfl) (fun _ _ _ h => h) (Or.inl ⟨by rfl, ?_⟩) (by assumption) ?_
            rotate_left
            · intro wS hSw
              (try dsimp only at hSw)
              go_simp
              first | done | with_reducible rfl
            try simp only [Act.put, List.getElem_toArray, List.getElem_cons_succ, List.getElem_cons_zero, List.setIfInBounds_toArray, List.set_cons_zero, List.set_cons_succ]
            refine wpAnyH_ready (rs := [12]) (by kernel_rfl) (by simp) ?_
            refine AllReadyH.cons rfl (fun K hK => ?_) AllReadyH.nil
            rw [if_pos (by kernel_rfl)]
            refine wpStBK (b := C) _ _ rfl rfl rfl HZ.out.1 zB_len HCL.out rfl rfl ?_; intro wq hxm hgm
            have rM : Below X.heap.size X wq := rN.grown hgm rN.size (fun k hk => by cases hk; exact HZ.out.2)
            have HV : Hid (VarO wq (w.heap.size + 5) gz C (.slice fo fn fc) (.slice ao an ac)) := Lib.hid ⟨hxm, own_grownO HR.out.1 hgm (fun k hk e => own_neB HR.out.1 HZ.out.1 (by decide) (hk.trans e.symm)), own_grownO HR.out.2.1 hgm (fun k hk e => own_neB HR.out.2.1 HZ.out.1 (by decide) (hk.trans e.symm))⟩
            have HTO := Lib.hid (own_grownO HR.out.2.2 hgm (fun k hk e => own_neB HR.out.2.2 HZ.out.1 (by decide) (hk.trans e.symm)))
            clear hxm hgm
            refine hK.out _ _ ?_ (fun _ => ?_)
            · exact rM
            try simp only [Act.put, List.getElem_toArray, List.getElem_cons_succ, List.getElem_cons_zero]
            have rN := rM
            refine wpAnyH_take (i := 13) (v := ?_) rfl (by kernel_rfl) (by kernel_rfl) (by kernel_rfl) (fun _ _ _ h => h) (Or.inl ⟨by rfl, ?_⟩) (by assumption) ?_
            rotate_left
            · intro wS hSw
              (try dsimp only at hSw)
              go_simp
              first | done | with_reducible rfl
            try simp only [Act.put, List.getElem_toArray, List.getElem_cons_succ, List.getElem_cons_zero, List.setIfInBounds_toArray, List.set_cons_zero, List.set_cons_succ]
            refine wpAnyH_take (i := 14) (v := ?_) rfl (by kernel_rfl) (by kernel_rfl) (by kernel_rfl) (fun _ _ _ h => h) (Or.inl ⟨by rfl, ?_⟩) (by assumption) ?_
            rotate_left
            · intro wS hSw
              (try dsimp only at hSw)
              go_simp
              first | done | with_reducible rfl
            try simp only [Act.put, List.getElem_toArray, List.getElem_cons_succ, List.getElem_cons_zero, List.setIfInBounds_toArray, List.set_cons_zero, List.set_cons_succ]
            refine wpAnyH_done (by kernel_rfl) ?_ _
            (try go_wp2_with fail)
            go_meet
            exact ⟨gz, fo, fn, fc, ao, an, ac, rfl, rfl, rfl, Lib.hid ⟨HS.out.later rN, HV.out, Nat.le_trans HS.out.inp.size HZ.out.2, HTO.out⟩⟩
        · go_simp
          have hz0 := heap_new wn (blkO zB NS NS)
          have hbm := belNew wn (blkO zB NS NS)
          obtain ⟨wz, hwm⟩ : ∃ wz : World, wz = wn.alloc (blkO zB NS NS) := ⟨_, rfl⟩
          rw [← hwm] at hz0 hbm
          have rM : Below X.heap.size X wz := bel rN hbm
          obtain ⟨gz, hgz⟩ : ∃ gz, gz = wn.heap.size := ⟨_, rfl⟩
          have hgx : X.heap.size ≤ gz := by rw [hgz]; exact rN.size
          rw [← hgz] at hz0
          have HZ : Hid (BlkAt wz gz zB NS NS ∧ X.heap.size ≤ gz) := Lib.hid ⟨hz0, hgx⟩
          change K _ (wn.alloc (blkO zB NS NS))
          rw [← hwm, ← hgz]
          clear hwm hgz hz0 hbm hgx
          refine hK.out _ _ ?_ (fun _ => ?_)
          · exact rM
          try simp only [Act.put, List.getElem_toArray, List.getElem_cons_succ, List.getElem_cons_zero, List.setIfInBounds_toArray, List.set_cons_zero, List.set_cons_succ]
          have rN := rM
          refine wpAnyH_ready (rs := [5]) (by kernel_rfl) (by simp) ?_
          refine AllReadyH.cons rfl (fun K hK => ?_) AllReadyH.nil
          go_simp
          refine (HLA.out _).mono ?_; rintro z wm ⟨rfl, hbm⟩
          have rM : Below X.heap.size X wm := bel rN hbm
          have HZ := Lib.hid (And.intro (HZ.out.1.below hbm) HZ.out.2)
          clear hbm
          refine hK.out _ _ ?_ (fun _ => ?_)
          · exact rM
          try simp only [Act.put, List.getElem_toArray, List.getElem_cons_succ, List.getElem_cons_zero, List.setIfInBounds_toArray, List.set_cons_zero, List.set_cons_succ]
          have rN := rM
          refine wpAnyH_ready (rs := [6]) (by kernel_rfl) (by simp) ?_
          refine AllReadyH.cons rfl (fun K hK => ?_) AllReadyH.nil
          go_simp
          refine (HC.out _ (HS.out.later rN)).mono ?_; rintro z wm ⟨fo, fn, fc, ao, an, ac, rfl, hfr, hat, hto, hbm⟩
          have rM : Below X.heap.size X wm := bel rN hbm
          have HZ := Lib.hid (And.intro (HZ.out.1.below hbm) HZ.out.2)
          have HR := Lib.hid (And.intro (own_le hfr (Nat.le_trans HS.out.inp.size rN.size)) (And.intro (own_le hat (Nat.le_trans HS.out.inp.size rN.size)) (own_le hto (Nat.le_trans HS.out.inp.size rN.size))))
          clear hbm hfr hat hto
          refine hK.out _ _ ?_ (fun _ => ?_)
          · exact rM
          try simp only [Act.put, List.getElem_toArray, List.getElem_cons_succ, List.getElem_cons_zero, List.setIfInBounds_toArray, List.set_cons_zero, List.set_cons_succ]
          have rN := rM
          refine wpAnyH_take (i := 7) (v := ?_) rfl (by kernel_rfl) (by kernel_rfl) (by kernel_rfl) (fun _ _ _ h => h) (Or.inl ⟨by rfl, ?_⟩) (by assumption) ?_
          rotate_left
          · intro wS hSw
            (try dsimp only at hSw)
            go_simp
            first | done | with_reducible rfl
          try simp only [Act.put, List.getElem_toArray, List.getElem_cons_succ, List.getElem_cons_zero, List.setIfInBounds_toArray, List.set_cons_zero, List.set_cons_succ]
          refine wpAnyH_take (i := 8) (v := ?_) rfl (by kernel_rfl) (by kernel_rfl) (by kernel_rfl) (fun _ _ _ h => h) (Or.inl ⟨by rfl, ?_⟩) (by assumption) ?_
          rotate_left
          · intro wS hSw
            (try dsimp only at hSw)
            go_simp
            first | done | with_reducible rfl
          try simp only [Act.put, List.getElem_toArray, List.getElem_cons_succ, List.getElem_cons_zero, List.setIfInBounds_toArray, List.set_cons_zero, List.set_cons_succ]
          refine wpAnyH_take (i := 9) (v := ?_) rfl (by kernel_rfl) (by kernel_rfl) (by kernel_rfl) (fun _ _ _ h => h) (Or.inl ⟨by rfl, ?_⟩) (by assumption) ?_
          rotate_left
          · intro wS hSw
            (try dsimp only at hSw)
            go_simp
            first | done | with_reducible rfl
          try simp only [Act.put, List.getElem_toArray, List.getElem_cons_succ, List.getElem_cons_zero, List.setIfInBounds_toArray, List.set_cons_zero, List.set_cons_succ]
          refine wpAnyH_take (i := 10) (v := ?_) rfl (by kernel_rfl) (by kernel_rfl) (by kernel_rfl) (fun _ _ _ h => h) (Or.inl ⟨by rfl, ?_⟩) (by assumption) ?_
          rotate_left
          · intro wS hSw
            (try dsimp only at hSw)
            go_simp
            first | done | with_reducible rfl
          try simp only [Act.put, List.getElem_toArray, List.getElem_cons_succ, List.getElem_cons_zero, List.setIfInBounds_toArray, List.set_cons_zero, List.set_cons_succ]
          refine wpAnyH_ready (rs := [12]) (by kernel_rfl) (by simp) ?_
          refine AllReadyH.cons rfl (fun K hK => ?_) AllReadyH.nil
          rw [if_pos (by kernel_rfl)]
          refine wpStBK (b := C) _ _ rfl rfl rfl HZ.out.1 zB_len HCL.out rfl rfl ?_; intro wq hxm hgm
          have rM : Below X.heap.size X wq := rN.grown hgm rN.size (fun k hk => by cases hk; exact HZ.out.2)
          have HV : Hid (VarO wq (w.heap.size + 5) gz C (.slice fo fn fc) (.slice ao an ac)) := Lib.hid ⟨hxm, own_grownO HR.out.1 hgm (fun k hk e => own_neB HR.out.1 HZ.out.1 (by decide) (hk.trans e.symm)), own_grownO HR.out.2.1 hgm (fun k hk e => own_neB HR.out.2.1 HZ.out.1 (by decide) (hk.trans e.symm))⟩
          have HTO := Lib.hid (own_grownO HR.out.2.2 hgm (fun k hk e => own_neB HR.out.2.2 HZ.out.1 (by decide) (hk.trans e.symm)))
          clear hxm hgm
          refine hK.out _ _ ?_ (fun _ => ?_)
          · exact rM
          try simp only [Act.put, List.getElem_toArray, List.getElem_cons_succ, List.getElem_cons_zero]
          have rN := rM
          refine wpAnyH_take (i := 13) (v := ?_) rfl (by kernel_rfl) (by kernel_rfl) (by kernel_rfl) (fun _ _ _ h => h) (Or.inl ⟨by rfl, ?_⟩) (by assumption) ?_
          rotate_left
          · intro wS hSw
            (try dsimp only at hSw)
            go_simp
            first | done | with_reducible rfl
          try simp only [Act.put, List.getElem_toArray, List.getElem_cons_succ, List.getElem_cons_zero, List.setIfInBounds_toArray, List.set_cons_zero, List.set_cons_succ]
          refine wpAnyH_take (i := 14) (v := ?_) rfl (by kernel_rfl) (by kernel_rfl) (by kernel_rfl) (fun _ _ _ h => h) (Or.inl ⟨by rfl, ?_⟩) (by assumption) ?_
          rotate_left
          · intro wS hSw
            (try dsimp only at hSw)
            go_simp
            first | done | with_reducible rfl
          try simp only [Act.put, List.getElem_toArray, List.getElem_cons_succ, List.getElem_cons_zero, List.setIfInBounds_toArray, List.set_cons_zero, List.set_cons_succ]
          refine wpAnyH_done (by kernel_rfl) ?_ _
          (try go_wp2_with fail)
          go_meet
          exact ⟨gz, fo, fn, fc, ao, an, ac, rfl, rfl, rfl, Lib.hid ⟨HS.out.later rN, HV.out, Nat.le_trans HS.out.inp.size HZ.out.2, HTO.out⟩⟩
      case rest =>
        obtain ⟨g, fo, fn, fc, ao, an, ac, rfl, rfl, rfl, HC0⟩ := hcut
        obtain ⟨X, rfl⟩ : ∃ X, X = wc := ⟨_, rfl⟩
        obtain rfl : C = zB := HCZ.out
        have HX : Hid (LwS w b (.slice f1 f2 f3) (.slice a1 a2 a3) (.slice p1 p2 p3) (.slice q1 q2 q3) (.slice r1 r2 r3) (stO k n a (.slice l1 l2 l3) s) g zB (.slice fo fn fc) (.slice ao an ac) X) := Lib.hid (HC0.out.1.toS HC0.out.2.1 HC0.out.2.2.1)
        have HZR : Hid (∀ Y, LwS w b (.slice f1 f2 f3) (.slice a1 a2 a3) (.slice p1 p2 p3) (.slice q1 q2 q3) (.slice r1 r2 r3) (stO k n a (.slice l1 l2 l3) s) g zB (.slice fo fn fc) (.slice ao an ac) Y → Calls Tryz.prog 17 #[.agg (blkL zB (.slice fo fn fc) (.slice ao an ac)).toArray] Y fun e w' => e = .returned (.bool true) ∧ Below Y.heap.size Y w') := Lib.hid (fun Y hY => by
          have := zero15_any zB _ _ Y hY.c.free.sees (RowA.sees hY.c.attrs) zB_len (by decide) (by decide)
          rw [sameZ] at this
          exact this)
        obtain ⟨cc0, cc1, cc2, cc3, cc4, cc5⟩ := stcells HX.out.inp.attr
        go_wp2_with fail
        refine (HMY.out _).mono ?_; rintro e w3 ⟨rfl, hb3⟩
        have HX := Lib.hid (HX.out.later hb3)
        clear hb3 cc0 cc1 cc2 cc3 cc4 cc5 HC0 HS
        obtain ⟨X, rfl⟩ : ∃ X, X = w3 := ⟨_, rfl⟩
        go_upto_region 9 with fail
        refine wp_region_held_drew (S := (fun Y => LwS w b (.slice f1 f2 f3) (.slice a1 a2 a3) (.slice p1 p2 p3) (.slice q1 q2 q3) (.slice r1 r2 r3) (stO k n a (.slice l1 l2 l3) s) g zB (.slice fo fn fc) (.slice ao an ac) Y)) (by kernel_rfl) ?_ (fun rN => ?_)
        · exact HX.out.later ⟨rfl, rfl, rfl, Nat.le_refl _, fun _ _ => rfl⟩
        obtain ⟨wn, hwn⟩ : ∃ wn, wn = X.drew := ⟨_, rfl⟩
        rw [← hwn] at rN ⊢
        clear hwn
        have rN : LwS w b (.slice f1 f2 f3) (.slice a1 a2 a3) (.slice p1 p2 p3) (.slice q1 q2 q3) (.slice r1 r2 r3) (stO k n a (.slice l1 l2 l3) s) g zB (.slice fo fn fc) (.slice ao an ac) wn := rN
        refine wpAnyH_take (i := 0) (v := _) rfl (by kernel_rfl) (by kernel_rfl) (by kernel_rfl) (fun _ _ _ h => h) (ldBIf (by rfl) _ rfl rfl (fun W hW => hW.inp.blk) hl) (by assumption) ?_
        try simp only [Act.put, List.getElem_toArray, List.getElem_cons_zero, List.setIfInBounds_toArray, List.set_cons_zero, List.set_cons_succ]
        refine wpAnyH_take (i := 1) (v := _) rfl (by kernel_rfl) (by kernel_rfl) (by kernel_rfl) (fun _ _ _ h => h) (ldDIf (by rfl) _ rfl rfl (fun W hW => hW.inp.doc) ) (by assumption) ?_
        try simp only [Act.put, List.getElem_toArray, List.getElem_cons_succ, List.getElem_cons_zero, List.setIfInBounds_toArray, List.set_cons_zero, List.set_cons_succ]
        refine wpAnyH_take (i := 2) (v := ?_) rfl (by kernel_rfl) (by kernel_rfl) (by kernel_rfl) (fun _ _ _ h => h) (Or.inl ⟨by rfl, ?_⟩) (by assumption) ?_
        rotate_left
        · intro wS hSw
          (try dsimp only at hSw)
          go_simp
          first | done | with_reducible rfl
        try simp only [Act.put, List.getElem_toArray, List.getElem_cons_succ, List.getElem_cons_zero, List.setIfInBounds_toArray, List.set_cons_zero, List.set_cons_succ]
        refine wpAnyH_take (i := 3) (v := ?_) rfl (by kernel_rfl) (by kernel_rfl) (by kernel_rfl) (fun _ _ _ h => h) (Or.inl ⟨by rfl, ?_⟩) (by assumption) ?_
        rotate_left
        · intro wS hSw
          (try dsimp only at hSw)
          go_simp
          first | done | with_reducible rfl
        try simp only [Act.put, List.getElem_toArray, List.getElem_cons_succ, List.getElem_cons_zero, List.setIfInBounds_toArray, List.set_cons_zero, List.set_cons_succ]
        refine wpAnyH_take (i := 4) (v := ?_) rfl (by kernel_rfl) (by kernel_rfl) (by kernel_rfl) (fun _ _ _ h => h) (Or.inl ⟨by rfl, ?_⟩) (by assumption) ?_
        rotate_left
        · intro wS hSw
          (try dsimp only at hSw)
          go_simp
          first | done | with_reducible rfl
        try simp only [Act.put, List.getElem_toArray, List.getElem_cons_succ, List.getElem_cons_zero, List.setIfInBounds_toArray, List.set_cons_zero, List.set_cons_succ]
        refine wpAnyH_take (i := 5) (v := _) rfl (by kernel_rfl) (by kernel_rfl) (by kernel_rfl) (fun _ _ _ h => h) (ldBIf (by rfl) _ rfl rfl (fun W hW => hW.c.blk) zB_len) (by assumption) ?_
        try simp only [Act.put, List.getElem_toArray, List.getElem_cons_succ, List.getElem_cons_zero, List.setIfInBounds_toArray, List.set_cons_zero, List.set_cons_succ]
        refine wpAnyH_ready (rs := [6]) (by kernel_rfl) (by simp) ?_
        refine AllReadyH.cons rfl (fun K hK => ?_) AllReadyH.nil
        go_simp
        refine (HZR.out _ rN).mono ?_; rintro z wm ⟨rfl, hbm⟩
        have rM : LwS w b (.slice f1 f2 f3) (.slice a1 a2 a3) (.slice p1 p2 p3) (.slice q1 q2 q3) (.slice r1 r2 r3) (stO k n a (.slice l1 l2 l3) s) g zB (.slice fo fn fc) (.slice ao an ac) wm := rN.later hbm
        clear hbm
        refine hK.out _ _ ?_ (fun _ => ?_)
        · exact rM
        try simp only [Act.put, List.getElem_toArray, List.getElem_cons_succ, List.getElem_cons_zero, List.setIfInBounds_toArray, List.set_cons_zero, List.set_cons_succ]
        have rN := rM
        refine wpAnyH_take (i := 7) (v := ?_) rfl (by kernel_rfl) (by kernel_rfl) (by kernel_rfl) (fun _ _ _ h => h) (Or.inl ⟨by rfl, ?_⟩) (by assumption) ?_
        rotate_left
        · intro wS hSw
          (try dsimp only at hSw)
          go_simp
          first | done | with_reducible rfl
        try simp only [Act.put, List.getElem_toArray, List.getElem_cons_succ, List.getElem_cons_zero, List.setIfInBounds_toArray, List.set_cons_zero, List.set_cons_succ]
        refine wpAnyH_take (i := 8) (v := ?_) rfl (by kernel_rfl) (by kernel_rfl) (by kernel_rfl) (fun _ _ _ h => h) (Or.inl ⟨by rfl, ?_⟩) (by assumption) ?_
        rotate_left
        · intro wS hSw
          (try dsimp only at hSw)
          go_simp
          first | done | with_reducible rfl
        try simp only [Act.put, List.getElem_toArray, List.getElem_cons_succ, List.getElem_cons_zero, List.setIfInBounds_toArray, List.set_cons_zero, List.set_cons_succ]
        refine wpAnyH_take (i := 9) (v := ?_) rfl (by kernel_rfl) (by kernel_rfl) (by kernel_rfl) (fun _ _ _ h => h) (Or.inl ⟨by rfl, ?_⟩) (by assumption) ?_
        rotate_left
        · intro wS hSw
          (try dsimp only at hSw)
          go_simp
          first | done | with_reducible rfl
        try simp only [Act.put, List.getElem_toArray, List.getElem_cons_succ, List.getElem_cons_zero, List.setIfInBounds_toArray, List.set_cons_zero, List.set_cons_succ]
        refine wpAnyH_take (i := 10) (v := ?_) rfl (by kernel_rfl) (by kernel_rfl) (by kernel_rfl) (fun _ _ _ h => h) (Or.inl ⟨by rfl, ?_⟩) (by assumption) ?_
        rotate_left
        · intro wS hSw
          (try dsimp only at hSw)
          go_simp
          first | done | with_reducible rfl
        try simp only [Act.put, List.getElem_toArray, List.getElem_cons_succ, List.getElem_cons_zero, List.setIfInBounds_toArray, List.set_cons_zero, List.set_cons_succ]
        refine wpAnyH_take (i := 11) (v := ?_) rfl (by kernel_rfl) (by kernel_rfl) (by kernel_rfl) (fun _ _ _ h => h) (Or.inl ⟨by rfl, ?_⟩) (by assumption) ?_
        rotate_left
        · intro wS hSw
          (try dsimp only at hSw)
          go_simp
          first | done | with_reducible rfl
        try simp only [Act.put, List.getElem_toArray, List.getElem_cons_succ, List.getElem_cons_zero, List.setIfInBounds_toArray, List.set_cons_zero, List.set_cons_succ]
        refine wpAnyH_take (i := 12) (v := ?_) rfl (by kernel_rfl) (by kernel_rfl) (by kernel_rfl) (fun _ _ _ h => h) (Or.inl ⟨by rfl, ?_⟩) (by assumption) ?_
        rotate_left
        · intro wS hSw
          (try dsimp only at hSw)
          go_simp
          first | done | with_reducible rfl
        try simp only [Act.put, List.getElem_toArray, List.getElem_cons_succ, List.getElem_cons_zero, List.setIfInBounds_toArray, List.set_cons_zero, List.set_cons_succ]
        refine wpAnyH_ready (rs := [13]) (by kernel_rfl) (by simp) ?_
        refine AllReadyH.cons rfl (fun K hK => ?_) AllReadyH.nil
        rw [if_pos (by kernel_rfl)]
        obtain ⟨b0, f0, a0, hz3, hz3l⟩ := rN.z3
        refine wpStBK (b := b) _ _ rfl rfl rfl hz3 hz3l hl rfl rfl ?_; intro wm hxm hgm
        have rM : LwS w b (.slice f1 f2 f3) (.slice a1 a2 a3) (.slice p1 p2 p3) (.slice q1 q2 q3) (.slice r1 r2 r3) (stO k n a (.slice l1 l2 l3) s) g zB (.slice fo fn fc) (.slice ao an ac) wm := rN.st3 hgm hxm hl
        have H3 := Lib.hid hxm
        clear hxm hgm hz3 hz3l
        refine hK.out _ _ ?_ (fun _ => ?_)
        · exact rM
        try simp only [Act.put, List.getElem_toArray, List.getElem_cons_succ, List.getElem_cons_zero]
        have rN := rM
        refine wpAnyH_ready (rs := [14]) (by kernel_rfl) (by simp) ?_
        refine AllReadyH.cons rfl (fun K hK => ?_) AllReadyH.nil
        rw [if_pos (by kernel_rfl)]
        obtain ⟨y0, s0, u01, u02, u03, hz4⟩ := rN.z4
        refine wpStDK (y := b.addr) (s := b.aff) _ _ rfl rfl rfl hz4 rfl rfl rfl ?_; intro wq hxm hgm
        have rM : LwS w b (.slice f1 f2 f3) (.slice a1 a2 a3) (.slice p1 p2 p3) (.slice q1 q2 q3) (.slice r1 r2 r3) (stO k n a (.slice l1 l2 l3) s) g zB (.slice fo fn fc) (.slice ao an ac) wq := rN.st4 hgm hxm
        have H3' := Lib.hid (blk_grownO H3.out hgm (fun e => by have := Option.some.inj e; omega))
        have H4 := Lib.hid hxm
        clear hxm hgm hz4
        refine hK.out _ _ ?_ (fun _ => ?_)
        · exact rM
        try simp only [Act.put, List.getElem_toArray, List.getElem_cons_succ, List.getElem_cons_zero]
        have rN := rM
        refine wpAnyH_take (i := 15) (v := ?_) rfl (by kernel_rfl) (by kernel_rfl) (by kernel_rfl) (fun _ _ _ h => h) (Or.inl ⟨by rfl, ?_⟩) (by assumption) ?_
        rotate_left
        · intro wS hSw
          (try dsimp only at hSw)
          go_simp
          first | done | with_reducible rfl
        try simp only [Act.put, List.getElem_toArray, List.getElem_cons_succ, List.getElem_cons_zero, List.setIfInBounds_toArray, List.set_cons_zero, List.set_cons_succ]
        refine wpAnyH_done (by kernel_rfl) ?_ _
        go_wp2_with fail
        exact bodyPost_ret (resC rfl rfl rfl (loadVarB H3'.out hl) (loadVarD H4.out)) rfl ⟨b, _, _, _, _, _, rfl, HBo.out.below rN.inp.below, rN.inp.below, fun g _ h => h⟩
end Go.Proofs.YtgodmnpcedfdcaaGreat
