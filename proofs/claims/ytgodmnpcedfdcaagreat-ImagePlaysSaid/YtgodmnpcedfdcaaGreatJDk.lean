/- Joined: BdLc BdLd. -/
import Derived.Test.YtgodmnpcedfdcaaGreatJDl
namespace Go.Proofs.YtgodmnpcedfdcaaGreat
section
open Go.RowKit
set_option maxRecDepth 100000 in
set_option maxHeartbeats 16000000 in
theorem assign15_taken (b : BlkS) (f1 a1 p1 q1 r1 : Option Addr) (f2 f3 a2 a3 p2 p3 q2 q3 r2 r3 : Nat) (a : PA) (x : Int) (w : World) (hB : Both w b (.slice f1 f2 f3) (.slice a1 a2 a3) (.slice p1 p2 p3) (.slice q1 q2 q3) (.slice r1 r2 r3)) (h1 : a.1.size ≤ maxLen) (h2 : a.2.size ≤ maxLen) (hx : 0 ≤ x) (hx' : x < 4294967296) (hm : mayP a = true) (hi : inB b.addr x = true) (hq : b.sl.getD (x - b.addr).toNat 0 ≠ 0) (hu : (undP b x).2 = true) :
    Calls Tryz.prog 20 #[.agg (blkL b (.slice f1 f2 f3) (.slice a1 a2 a3)).toArray, docV b.addr b.aff (.slice p1 p2 p3) (.slice q1 q2 q3) (.slice r1 r2 r3), .int .u32 x, atV a] w (DoP w b (.slice f1 f2 f3) (.slice a1 a2 a3) (.slice p1 p2 p3) (.slice q1 q2 q3) (.slice r1 r2 r3)) := by
  have hl := hB.wf.2.1
  have HBo := Lib.hid hB
  have HM := Lib.hid (And.intro (And.intro h1 h2) (And.intro hx hx'))
  have HC : Hid (∀ Y, Lw0 w b (.slice f1 f2 f3) (.slice a1 a2 a3) (.slice p1 p2 p3) (.slice q1 q2 q3) (.slice r1 r2 r3) (rtO a) Y → Calls Tryz.prog 51 #[.agg (blkL b (.slice f1 f2 f3) (.slice a1 a2 a3)).toArray, .int .u32 x, atV a] Y fun e Z => ∃ fo fn fc ao an ac, e = .returned (.tuple #[.agg (blkL zB (.slice fo fn fc) (.slice ao an ac)).toArray, .int .i64 11]) ∧ Owns Z Y.heap.size (.slice fo fn fc) (zB).free ∧ RowA EAt Z Y.heap.size (.slice ao an ac) (zB).attrs ∧ Below Y.heap.size Y Z) := Lib.hid (by
    intro Y hY
    exact (assignAt_taken b _ _ x a Y (hB.free.keep hY.inp.below) (hB.attrs.below hY.inp.below) hB.wf hx hx' h1 h2 hB.right hm hi hq).mono fun e Z h => ⟨none, 0, 0, none, 0, 0, h.1, World.ownsRow_nil _ _ _ _, World.ownsRow_nil _ _ _ _, h.2⟩)
  obtain ⟨C, hC⟩ : ∃ C, C = zB := ⟨_, rfl⟩
  have HCL : Hid (C.sl.length = 64) := Lib.hid (by rw [hC]; exact zB_len)
  rw [← hC] at HC
  have HCZ := Lib.hid hC
  have HMY := refMayA_any a h1 h2
  rw [hm] at HMY
  have HMY := Lib.hid HMY
  have HIN := fun w => inD_any b.addr b.aff (.slice p1 p2 p3) (.slice q1 q2 q3) (.slice r1 r2 r3) x w hx hx'
  rw [hi] at HIN
  have HIN := Lib.hid HIN
  have HOF : Hid (∀ Y, Below w.heap.size w Y → Calls Tryz.prog 53 #[docV b.addr b.aff (.slice p1 p2 p3) (.slice q1 q2 q3) (.slice r1 r2 r3), .int .u32 x] Y fun e w' => e = .returned (.tuple #[atV (undP b x).1, .bool true]) ∧ Below Y.heap.size Y w') := Lib.hid (fun Y hY => by
    have h := refOf_und b _ _ _ x Y (hB.doc.below hY) hB.wf.2.1 (right_bd hB.wf hB.right).1 (right_bd hB.wf hB.right).2.2.1 (right_bd hB.wf hB.right).2.2.2 hx hx'
    rw [hu] at h
    exact h)
  have HLA := Lib.hid (fun w => lawAttr_any a w)
  have HS := Lib.hid (Lw0.new w b (.slice f1 f2 f3) (.slice a1 a2 a3) (.slice p1 p2 p3) (.slice q1 q2 q3) (.slice r1 r2 r3) (rtO a))
  obtain ⟨X, hX⟩ : ∃ X, X = (((((w.alloc (blkO b (.slice f1 f2 f3) (.slice a1 a2 a3))).alloc (docO b.addr b.aff (.slice p1 p2 p3) (.slice q1 q2 q3) (.slice r1 r2 r3))).alloc (rtO a)).alloc (blkO zB NS NS)).alloc (docO 0 ⟨#[]⟩ NS NS NS)) := ⟨_, rfl⟩
  rw [← hX] at HS
  have HW := Lib.hid hX
  clear h1 h2 hx hx' hm hi hq hu hB hX hC
  go_enter Tryz.func20, Tryz.ntmps20
  go_upto_region 1 with fail
  change Code.wp _ _ _ _ (((((w.alloc (blkO b (.slice f1 f2 f3) (.slice a1 a2 a3))).alloc (docO b.addr b.aff (.slice p1 p2 p3) (.slice q1 q2 q3) (.slice r1 r2 r3))).alloc (rtO a)).alloc (blkO zB NS NS)).alloc (docO 0 ⟨#[]⟩ NS NS NS))
  rw [← HW.out]
  clear HW
  go_cut [11, 12] (fun s11 s12 wx => ∃ (g : Nat) (fo : Option Addr) (fn fc : Nat) (ao : Option Addr) (an ac : Nat), s11 = .pointer (some ⟨g, 0, none⟩) ∧ s12 = .int .i64 11 ∧ Hid (Lw0 w b (.slice f1 f2 f3) (.slice a1 a2 a3) (.slice p1 p2 p3) (.slice q1 q2 q3) (.slice r1 r2 r3) (rtO a) wx ∧ VarO wx (w.heap.size + 5) g C (.slice fo fn fc) (.slice ao an ac) ∧ w.heap.size + 5 ≤ g))
  case first =>
    refine wp_region_held_drew (S := (fun Y => Below X.heap.size X Y)) (by kernel_rfl) ?_ (fun rN => ?_)
    · exact ⟨rfl, rfl, rfl, Nat.le_refl _, fun _ _ => rfl⟩
    obtain ⟨wn, hwn⟩ : ∃ wn, wn = X.drew := ⟨_, rfl⟩
    rw [← hwn] at rN ⊢
    clear hwn
    have rN : Below X.heap.size X wn := rN
    refine wpAnyH_take (i := 0) (v := _) rfl (by kernel_rfl) (by kernel_rfl) (by kernel_rfl) (fun _ _ _ h => h) (ldBIf (by rfl) _ rfl rfl (fun W hW => (HS.out.later hW).inp.blk) hl) (by assumption) ?_
    try simp only [Act.put, List.getElem_toArray, List.getElem_cons_zero, List.setIfInBounds_toArray, List.set_cons_zero, List.set_cons_succ]
    refine wpAnyH_take (i := 1) (v := ?_) rfl (by kernel_rfl) (by kernel_rfl) (by kernel_rfl) (fun _ _ _ h => h) (Or.inl ⟨by rfl, ?_⟩) (by assumption) ?_
    rotate_left
    · intro wS hSw
      (try dsimp only at hSw)
      go_simp
      first | done | with_reducible rfl
    try simp only [Act.put, List.getElem_toArray, List.getElem_cons_succ, List.getElem_cons_zero, List.setIfInBounds_toArray, List.set_cons_zero, List.set_cons_succ]
    refine wpAnyH_take (i := 2) (v := ?_) rfl (by kernel_rfl) (by kernel_rfl) (by kernel_rfl) (fun _ _ _ h => h) (Or.inl ⟨by rfl, ?_⟩) (by assumption) ?_
    rotate_left
    · intro wS hSw
      (try dsimp only at hSw)
      obtain ⟨m0, m1⟩ := acells (HS.out.later hSw).inp.attr
      go_simp
      first | done | with_reducible rfl
    try simp only [Act.put, List.getElem_toArray, List.getElem_cons_succ, List.getElem_cons_zero, List.setIfInBounds_toArray, List.set_cons_zero, List.set_cons_succ]
    refine wpAnyH_ready (rs := [3, 8]) (by kernel_rfl) (by simp) ?_
    refine AllReadyH.cons rfl (fun K hK => ?_) (AllReadyH.cons rfl (fun K hK => ?_) AllReadyH.nil)
    · go_simp
      refine (HLA.out _).mono ?_; rintro z wm ⟨rfl, hbm⟩
      have rM : Below X.heap.size X wm := bel rN hbm
      clear hbm
      refine hK.out _ _ ?_ (fun _ => ?_)
      · exact rM
      try simp only [Act.put, List.getElem_toArray, List.getElem_cons_succ, List.getElem_cons_zero, List.setIfInBounds_toArray, List.set_cons_zero, List.set_cons_succ]
      have rN := rM
      refine wpAnyH_ready (rs := [4, 8]) (by kernel_rfl) (by simp) ?_
      refine AllReadyH.cons rfl (fun K hK => ?_) (AllReadyH.cons rfl (fun K hK => ?_) AllReadyH.nil)
      · go_simp
        refine (HC.out _ (HS.out.later rN)).mono ?_; rintro z wm ⟨fo, fn, fc, ao, an, ac, rfl, hfr, hat, hbm⟩
        have rM : Below X.heap.size X wm := bel rN hbm
        have HR := Lib.hid (And.intro (own_le hfr (Nat.le_trans HS.out.inp.size rN.size)) (own_le hat (Nat.le_trans HS.out.inp.size rN.size)))
        clear hbm hfr hat
        refine hK.out _ _ ?_ (fun _ => ?_)
        · exact rM
        try simp only [Act.put, List.getElem_toArray, List.getElem_cons_succ, List.getElem_cons_zero, List.setIfInBounds_toArray, List.set_cons_zero, List.set_cons_succ]
        have rN := rM
        refine wpAnyH_take (i := 5) (v := ?_) rfl (by kernel_rfl) (by kernel_rfl) (by kernel_rfl) (fun _ _ _ h => h) (Or.inl ⟨by rfl, ?_⟩) (by assumption) ?_
        rotate_left
        · intro wS hSw
          (try dsimp only at hSw)
          go_simp
          first | done | with_reducible rfl
        try simp only [Act.put, List.getElem_toArray, List.getElem_cons_succ, List.getElem_cons_zero, List.setIfInBounds_toArray, List.set_cons_zero, List.set_cons_succ]
        refine wpAnyH_take (i := 6) (v := ?_) rfl (by kernel_rfl) (by kernel_rfl) (by kernel_rfl) (fun _ _ _ h => h) (Or.inl ⟨by rfl, ?_⟩) (by assumption) ?_
        rotate_left
        · intro wS hSw
          (try dsimp only at hSw)
          go_simp
          first | done | with_reducible rfl
        try simp only [Act.put, List.getElem_toArray, List.getElem_cons_succ, List.getElem_cons_zero, List.setIfInBounds_toArray, List.set_cons_zero, List.set_cons_succ]
        refine wpAnyH_take (i := 7) (v := ?_) rfl (by kernel_rfl) (by kernel_rfl) (by kernel_rfl) (fun _ _ _ h => h) (Or.inl ⟨by rfl, ?_⟩) (by assumption) ?_
        rotate_left
        · intro wS hSw
          (try dsimp only at hSw)
          go_simp
          first | done | with_reducible rfl
        try simp only [Act.put, List.getElem_toArray, List.getElem_cons_succ, List.getElem_cons_zero, List.setIfInBounds_toArray, List.set_cons_zero, List.set_cons_succ]
        refine wpAnyH_ready (rs := [8]) (by kernel_rfl) (by simp) ?_
        refine AllReadyH.cons rfl (fun K hK => ?_) AllReadyH.nil
        go_simp
        have hz0 := heap_new wm (blkO zB NS NS)
        have hbm := belNew wm (blkO zB NS NS)
        obtain ⟨wz, hwm⟩ : ∃ wz : World, wz = wm.alloc (blkO zB NS NS) := ⟨_, rfl⟩
        rw [← hwm] at hz0 hbm
        have rM : Below X.heap.size X wz := bel rN hbm
        obtain ⟨gz, hgz⟩ : ∃ gz, gz = wm.heap.size := ⟨_, rfl⟩
        have hgx : X.heap.size ≤ gz := by rw [hgz]; exact rN.size
        rw [← hgz] at hz0
        have HZ : Hid (BlkAt wz gz zB NS NS ∧ X.heap.size ≤ gz) := Lib.hid ⟨hz0, hgx⟩
        have HR := Lib.hid (And.intro (own_keep HR.out.1 hbm) (own_keep HR.out.2 hbm))
        change K _ (wm.alloc (blkO zB NS NS))
        rw [← hwm, ← hgz]
        clear hwm hgz hz0 hbm hgx
        refine hK.out _ _ ?_ (fun _ => ?_)
        · exact rM
        try simp only [Act.put, List.getElem_toArray, List.getElem_cons_succ, List.getElem_cons_zero, List.setIfInBounds_toArray, List.set_cons_zero, List.set_cons_succ]
        have rN := rM
        refine wpAnyH_ready (rs := [9]) (by kernel_rfl) (by simp) ?_
        refine AllReadyH.cons rfl (fun K hK => ?_) AllReadyH.nil
        rw [if_pos (by kernel_rfl)]
        refine wpStBK (b := C) _ _ rfl rfl rfl HZ.out.1 zB_len HCL.out rfl rfl ?_; intro wq hxm hgm
        have rM : Below X.heap.size X wq := rN.grown hgm rN.size (fun k hk => by cases hk; exact HZ.out.2)
        have HV : Hid (VarO wq (w.heap.size + 5) gz C (.slice fo fn fc) (.slice ao an ac)) := Lib.hid ⟨hxm, own_grownO HR.out.1 hgm (fun k hk e => own_neB HR.out.1 HZ.out.1 (by decide) (hk.trans e.symm)), own_grownO HR.out.2 hgm (fun k hk e => own_neB HR.out.2 HZ.out.1 (by decide) (hk.trans e.symm))⟩
        clear hxm hgm
        refine hK.out _ _ ?_ (fun _ => ?_)
        · exact rM
        try simp only [Act.put, List.getElem_toArray, List.getElem_cons_succ, List.getElem_cons_zero]
        have rN := rM
        refine wpAnyH_take (i := 10) (v := ?_) rfl (by kernel_rfl) (by kernel_rfl) (by kernel_rfl) (fun _ _ _ h => h) (Or.inl ⟨by rfl, ?_⟩) (by assumption) ?_
        rotate_left
        · intro wS hSw
          (try dsimp only at hSw)
          go_simp
          first | done | with_reducible rfl
        try simp only [Act.put, List.getElem_toArray, List.getElem_cons_succ, List.getElem_cons_zero, List.setIfInBounds_toArray, List.set_cons_zero, List.set_cons_succ]
        refine wpAnyH_done (by kernel_rfl) ?_ _
        (try go_wp2_with fail)
        go_meet
        exact ⟨gz, fo, fn, fc, ao, an, ac, rfl, rfl, Lib.hid ⟨HS.out.later rN, HV.out, Nat.le_trans HS.out.inp.size HZ.out.2⟩⟩
      · go_simp
        have hz0 := heap_new wm (blkO zB NS NS)
        have hbm := belNew wm (blkO zB NS NS)
        obtain ⟨wz, hwm⟩ : ∃ wz : World, wz = wm.alloc (blkO zB NS NS) := ⟨_, rfl⟩
        rw [← hwm] at hz0 hbm
        have rM : Below X.heap.size X wz := bel rN hbm
        obtain ⟨gz, hgz⟩ : ∃ gz, gz = wm.heap.size := ⟨_, rfl⟩
        have hgx : X.heap.size ≤ gz := by rw [hgz]; exact rN.size
        rw [← hgz] at hz0
        have HZ : Hid (BlkAt wz gz zB NS NS ∧ X.heap.size ≤ gz) := Lib.hid ⟨hz0, hgx⟩
        change K _ (wm.alloc (blkO zB NS NS))
        rw [← hwm, ← hgz]
        clear hwm hgz hz0 hbm hgx
        refine hK.out _ _ ?_ (fun _ => ?_)
        · exact rM
        try simp only [Act.put, List.getElem_toArray, List.getElem_cons_succ, List.getElem_cons_zero, List.setIfInBounds_toArray, List.set_cons_zero, List.set_cons_succ]
        have rN := rM
        refine wpAnyH_ready (rs := [4]) (by kernel_rfl) (by simp) ?_
        refine AllReadyH.cons rfl (fun K hK => ?_) AllReadyH.nil
        go_simp
        refine (HC.out _ (HS.out.later rN)).mono ?_; rintro z wm ⟨fo, fn, fc, ao, an, ac, rfl, hfr, hat, hbm⟩
        have rM : Below X.heap.size X wm := bel rN hbm
        have HZ := Lib.hid (And.intro (HZ.out.1.below hbm) HZ.out.2)
        have HR := Lib.hid (And.intro (own_le hfr (Nat.le_trans HS.out.inp.size rN.size)) (own_le hat (Nat.le_trans HS.out.inp.size rN.size)))
        clear hbm hfr hat
        refine hK.out _ _ ?_ (fun _ => ?_)
        · exact rM
        try simp only [Act.put, List.getElem_toArray, List.getElem_cons_succ, List.getElem_cons_zero, List.setIfInBounds_toArray, List.set_cons_zero, List.set_cons_succ]
        have rN := rM
        refine wpAnyH_take (i := 5) (v := ?_) rfl (by kernel_rfl) (by kernel_rfl) (by kernel_rfl) (fun _ _ _ h => h) (Or.inl ⟨by rfl, ?_⟩) (by assumption) ?_
        rotate_left
        · intro wS hSw
          (try dsimp only at hSw)
          go_simp
          first | done | with_reducible rfl
        try simp only [Act.put, List.getElem_toArray, List.getElem_cons_succ, List.getElem_cons_zero, List.setIfInBounds_toArray, List.set_cons_zero, List.set_cons_succ]
        refine wpAnyH_take (i := 6) (v := ?_) rfl (by kernel_rfl) (by kernel_rfl) (by kernel_rfl) (fun _ _ _ h => h) (Or.inl ⟨by rfl, ?_⟩) (by assumption) ?_
        rotate_left
        · intro wS hSw
          (try dsimp only at hSw)
          go_simp
          first | done | with_reducible rfl
        try simp only [Act.put, List.getElem_toArray, List.getElem_cons_succ, List.getElem_cons_zero, List.setIfInBounds_toArray, List.set_cons_zero, List.set_cons_succ]
        refine wpAnyH_take (i := 7) (v := ?_) rfl (by kernel_rfl) (by kernel_rfl) (by kernel_rfl) (fun _ _ _ h => h) (Or.inl ⟨by rfl, ?_⟩) (by assumption) ?_
        rotate_left
        · intro wS hSw
          (try dsimp only at hSw)
          go_simp
          first | done | with_reducible rfl
        try simp only [Act.put, List.getElem_toArray, List.getElem_cons_succ, List.getElem_cons_zero, List.setIfInBounds_toArray, List.set_cons_zero, List.set_cons_succ]
        refine wpAnyH_ready (rs := [9]) (by kernel_rfl) (by simp) ?_
        refine AllReadyH.cons rfl (fun K hK => ?_) AllReadyH.nil
        rw [if_pos (by kernel_rfl)]
        refine wpStBK (b := C) _ _ rfl rfl rfl HZ.out.1 zB_len HCL.out rfl rfl ?_; intro wq hxm hgm
        have rM : Below X.heap.size X wq := rN.grown hgm rN.size (fun k hk => by cases hk; exact HZ.out.2)
        have HV : Hid (VarO wq (w.heap.size + 5) gz C (.slice fo fn fc) (.slice ao an ac)) := Lib.hid ⟨hxm, own_grownO HR.out.1 hgm (fun k hk e => own_neB HR.out.1 HZ.out.1 (by decide) (hk.trans e.symm)), own_grownO HR.out.2 hgm (fun k hk e => own_neB HR.out.2 HZ.out.1 (by decide) (hk.trans e.symm))⟩
        clear hxm hgm
        refine hK.out _ _ ?_ (fun _ => ?_)
        · exact rM
        try simp only [Act.put, List.getElem_toArray, List.getElem_cons_succ, List.getElem_cons_zero]
        have rN := rM
        refine wpAnyH_take (i := 10) (v := ?_) rfl (by kernel_rfl) (by kernel_rfl) (by kernel_rfl) (fun _ _ _ h => h) (Or.inl ⟨by rfl, ?_⟩) (by assumption) ?_
        rotate_left
        · intro wS hSw
          (try dsimp only at hSw)
          go_simp
          first | done | with_reducible rfl
        try simp only [Act.put, List.getElem_toArray, List.getElem_cons_succ, List.getElem_cons_zero, List.setIfInBounds_toArray, List.set_cons_zero, List.set_cons_succ]
        refine wpAnyH_done (by kernel_rfl) ?_ _
        (try go_wp2_with fail)
        go_meet
        exact ⟨gz, fo, fn, fc, ao, an, ac, rfl, rfl, Lib.hid ⟨HS.out.later rN, HV.out, Nat.le_trans HS.out.inp.size HZ.out.2⟩⟩
    · go_simp
      have hz0 := heap_new wn (blkO zB NS NS)
      have hbm := belNew wn (blkO zB NS NS)
      obtain ⟨wz, hwm⟩ : ∃ wz : World, wz = wn.alloc (blkO zB NS NS) := ⟨_, rfl⟩
      rw [← hwm] at hz0 hbm
      have rM : Below X.heap.size X wz := bel rN hbm
      obtain ⟨gz, hgz⟩ : ∃ gz, gz = wn.heap.size := ⟨_, rfl⟩
      have hgx : X.heap.size ≤ gz := by rw [hgz]; exact rN.size
      rw [← hgz] at hz0
      have HZ : Hid (BlkAt wz gz zB NS NS ∧ X.heap.size ≤ gz) := Lib.hid ⟨hz0, hgx⟩
      change K _ (wn.alloc (blkO zB NS NS))
      rw [← hwm, ← hgz]
      clear hwm hgz hz0 hbm hgx
      refine hK.out _ _ ?_ (fun _ => ?_)
      · exact rM
      try simp only [Act.put, List.getElem_toArray, List.getElem_cons_succ, List.getElem_cons_zero, List.setIfInBounds_toArray, List.set_cons_zero, List.set_cons_succ]
      have rN := rM
      refine wpAnyH_ready (rs := [3]) (by kernel_rfl) (by simp) ?_
      refine AllReadyH.cons rfl (fun K hK => ?_) AllReadyH.nil
      go_simp
      refine (HLA.out _).mono ?_; rintro z wm ⟨rfl, hbm⟩
      have rM : Below X.heap.size X wm := bel rN hbm
      have HZ := Lib.hid (And.intro (HZ.out.1.below hbm) HZ.out.2)
      clear hbm
      refine hK.out _ _ ?_ (fun _ => ?_)
      · exact rM
      try simp only [Act.put, List.getElem_toArray, List.getElem_cons_succ, List.getElem_cons_zero, List.setIfInBounds_toArray, List.set_cons_zero, List.set_cons_succ]
      have rN := rM
      refine wpAnyH_ready (rs := [4]) (by kernel_rfl) (by simp) ?_
      refine AllReadyH.cons rfl (fun K hK => ?_) AllReadyH.nil
      go_simp
      refine (HC.out _ (HS.out.later rN)).mono ?_; rintro z wm ⟨fo, fn, fc, ao, an, ac, rfl, hfr, hat, hbm⟩
      have rM : Below X.heap.size X wm := bel rN hbm
      have HZ := Lib.hid (And.intro (HZ.out.1.below hbm) HZ.out.2)
      have HR := Lib.hid (And.intro (own_le hfr (Nat.le_trans HS.out.inp.size rN.size)) (own_le hat (Nat.le_trans HS.out.inp.size rN.size)))
      clear hbm hfr hat
      refine hK.out _ _ ?_ (fun _ => ?_)
      · exact rM
      try simp only [Act.put, List.getElem_toArray, List.getElem_cons_succ, List.getElem_cons_zero, List.setIfInBounds_toArray, List.set_cons_zero, List.set_cons_succ]
      have rN := rM
      refine wpAnyH_take (i := 5) (v := ?_) rfl (by kernel_rfl) (by kernel_rfl) (by kernel_rfl) (fun _ _ _ h => h) (Or.inl ⟨by rfl, ?_⟩) (by assumption) ?_
      rotate_left
      · intro wS hSw
        (try dsimp only at hSw)
        go_simp
        first | done | with_reducible rfl
      try simp only [Act.put, List.getElem_toArray, List.getElem_cons_succ, List.getElem_cons_zero, List.setIfInBounds_toArray, List.set_cons_zero, List.set_cons_succ]
      refine wpAnyH_take (i := 6) (v := ?_) rfl (by kernel_rfl) (by kernel_rfl) (by kernel_rfl) (fun _ _ _ h => h) (Or.inl ⟨by rfl, ?_⟩) (by assumption) ?_
      rotate_left
      · intro wS hSw
        (try dsimp only at hSw)
        go_simp
        first | done | with_reducible rfl
      try simp only [Act.put, List.getElem_toArray, List.getElem_cons_succ, List.getElem_cons_zero, List.setIfInBounds_toArray, List.set_cons_zero, List.set_cons_succ]
      refine wpAnyH_take (i := 7) (v := ?_) rfl (by kernel_rfl) (by kernel_rfl) (by kernel_rfl) (fun _ _ _ h => h) (Or.inl ⟨by rfl, ?_⟩) (by assumption) ?_
      rotate_left
      · intro wS hSw
        (try dsimp only at hSw)
        go_simp
        first | done | with_reducible rfl
      try simp only [Act.put, List.getElem_toArray, List.getElem_cons_succ, List.getElem_cons_zero, List.setIfInBounds_toArray, List.set_cons_zero, List.set_cons_succ]
      refine wpAnyH_ready (rs := [9]) (by kernel_rfl) (by simp) ?_
      refine AllReadyH.cons rfl (fun K hK => ?_) AllReadyH.nil
      rw [if_pos (by kernel_rfl)]
      refine wpStBK (b := C) _ _ rfl rfl rfl HZ.out.1 zB_len HCL.out rfl rfl ?_; intro wq hxm hgm
      have rM : Below X.heap.size X wq := rN.grown hgm rN.size (fun k hk => by cases hk; exact HZ.out.2)
      have HV : Hid (VarO wq (w.heap.size + 5) gz C (.slice fo fn fc) (.slice ao an ac)) := Lib.hid ⟨hxm, own_grownO HR.out.1 hgm (fun k hk e => own_neB HR.out.1 HZ.out.1 (by decide) (hk.trans e.symm)), own_grownO HR.out.2 hgm (fun k hk e => own_neB HR.out.2 HZ.out.1 (by decide) (hk.trans e.symm))⟩
      clear hxm hgm
      refine hK.out _ _ ?_ (fun _ => ?_)
      · exact rM
      try simp only [Act.put, List.getElem_toArray, List.getElem_cons_succ, List.getElem_cons_zero]
      have rN := rM
      refine wpAnyH_take (i := 10) (v := ?_) rfl (by kernel_rfl) (by kernel_rfl) (by kernel_rfl) (fun _ _ _ h => h) (Or.inl ⟨by rfl, ?_⟩) (by assumption) ?_
      rotate_left
      · intro wS hSw
        (try dsimp only at hSw)
        go_simp
        first | done | with_reducible rfl
      try simp only [Act.put, List.getElem_toArray, List.getElem_cons_succ, List.getElem_cons_zero, List.setIfInBounds_toArray, List.set_cons_zero, List.set_cons_succ]
      refine wpAnyH_done (by kernel_rfl) ?_ _
      (try go_wp2_with fail)
      go_meet
      exact ⟨gz, fo, fn, fc, ao, an, ac, rfl, rfl, Lib.hid ⟨HS.out.later rN, HV.out, Nat.le_trans HS.out.inp.size HZ.out.2⟩⟩
  case rest =>
    obtain ⟨g, fo, fn, fc, ao, an, ac, rfl, rfl, HC0⟩ := hcut
    obtain ⟨X, rfl⟩ : ∃ X, X = wc := ⟨_, rfl⟩
    obtain rfl : C = zB := HCZ.out
    have HX : Hid (LwS w b (.slice f1 f2 f3) (.slice a1 a2 a3) (.slice p1 p2 p3) (.slice q1 q2 q3) (.slice r1 r2 r3) (rtO a) g zB (.slice fo fn fc) (.slice ao an ac) X) := Lib.hid (HC0.out.1.toS HC0.out.2.1 HC0.out.2.2)
    have HZR : Hid (∀ Y, LwS w b (.slice f1 f2 f3) (.slice a1 a2 a3) (.slice p1 p2 p3) (.slice q1 q2 q3) (.slice r1 r2 r3) (rtO a) g zB (.slice fo fn fc) (.slice ao an ac) Y → Calls Tryz.prog 17 #[.agg (blkL zB (.slice fo fn fc) (.slice ao an ac)).toArray] Y fun e w' => e = .returned (.bool true) ∧ Below Y.heap.size Y w') := Lib.hid (fun Y hY => by
      have := zero15_any zB _ _ Y hY.c.free.sees (RowA.sees hY.c.attrs) zB_len (by decide) (by decide)
      rw [sameZ] at this
      exact this)
    obtain ⟨y0, y1⟩ := acells HC0.out.1.inp.attr
    go_wp2_with fail
    refine (HMY.out _).mono ?_; rintro e w3 ⟨rfl, hb3⟩
    have HX := Lib.hid (HX.out.later hb3)
    clear hb3 y0 y1 HC0 HS
    go_wp2_with (refine wpLdDg (by rfl) _ rfl rfl HX.out.inp.doc ?_)
    refine (HIN.out _).mono ?_; rintro e w4 ⟨rfl, hb4⟩
    have HX := Lib.hid (HX.out.later hb4)
    clear hb4
    go_wp2_with (refine wpLdD rfl _ rfl rfl HX.out.inp.doc ?_)
    refine (HOF.out _ HX.out.inp.below).mono ?_; rintro e w5 ⟨rfl, hb5⟩
    have HX5 := Lib.hid (HX.out.later hb5)
    clear hb5 HX
    go_upto_region 5 with fail
    change Code.wp _ _ _ _ (w5.alloc (rtO (undP b x).1))
    have HX := Lib.hid (HX5.out.later (belNew w5 (rtO (undP b x).1)))
    clear HX5
    generalize w5.alloc (rtO (undP b x).1) = X at HX ⊢
    go_upto_region 6 with fail
    refine wp_region_held_drew (S := (fun Y => LwS w b (.slice f1 f2 f3) (.slice a1 a2 a3) (.slice p1 p2 p3) (.slice q1 q2 q3) (.slice r1 r2 r3) (rtO a) g zB (.slice fo fn fc) (.slice ao an ac) Y)) (by kernel_rfl) ?_ (fun rN => ?_)
    · exact HX.out.later ⟨rfl, rfl, rfl, Nat.le_refl _, fun _ _ => rfl⟩
    obtain ⟨wn, hwn⟩ : ∃ wn, wn = X.drew := ⟨_, rfl⟩
    rw [← hwn] at rN ⊢
    clear hwn
    have rN : LwS w b (.slice f1 f2 f3) (.slice a1 a2 a3) (.slice p1 p2 p3) (.slice q1 q2 q3) (.slice r1 r2 r3) (rtO a) g zB (.slice fo fn fc) (.slice ao an ac) wn := rN
    refine wpAnyH_take (i := 0) (v := _) rfl (by kernel_rfl) (by kernel_rfl) (by kernel_rfl) (fun _ _ _ h => h) (ldBIf (by rfl) _ rfl rfl (fun W hW => hW.inp.blk) hl) (by assumption) ?_
    try simp only [Act.put, List.getElem_toArray, List.getElem_cons_zero, List.setIfInBounds_toArray, List.set_cons_zero, List.set_cons_succ]
    refine wpAnyH_take (i := 1) (v := _) rfl (by kernel_rfl) (by kernel_rfl) (by kernel_rfl) (fun _ _ _ h => h) (ldDIf (by rfl) _ rfl rfl (fun W hW => hW.inp.doc) ) (by assumption) ?_
    try simp only [Act.put, List.getElem_toArray, List.getElem_cons_succ, List.getElem_cons_zero, List.setIfInBounds_toArray, List.set_cons_zero, List.set_cons_succ]
    refine wpAnyH_take (i := 2) (v := ?_) rfl (by kernel_rfl) (by kernel_rfl) (by kernel_rfl) (fun _ _ _ h => h) (Or.inl ⟨by rfl, ?_⟩) (by assumption) ?_
    rotate_left
    · intro wS hSw
      (try dsimp only at hSw)
      go_simp
      first | done | with_reducible rfl
    try simp only [Act.put, List.getElem_toArray, List.getElem_cons_succ, List.getElem_cons_zero, List.setIfInBounds_toArray, List.set_cons_zero, List.set_cons_succ]
    refine wpAnyH_take (i := 3) (v := ?_) rfl (by kernel_rfl) (by kernel_rfl) (by kernel_rfl) (fun _ _ _ h => h) (Or.inl ⟨by rfl, ?_⟩) (by assumption) ?_
    rotate_left
    · intro wS hSw
      (try dsimp only at hSw)
      go_simp
      first | done | with_reducible rfl
    try simp only [Act.put, List.getElem_toArray, List.getElem_cons_succ, List.getElem_cons_zero, List.setIfInBounds_toArray, List.set_cons_zero, List.set_cons_succ]
    refine wpAnyH_take (i := 4) (v := ?_) rfl (by kernel_rfl) (by kernel_rfl) (by kernel_rfl) (fun _ _ _ h => h) (Or.inl ⟨by rfl, ?_⟩) (by assumption) ?_
    rotate_left
    · intro wS hSw
      (try dsimp only at hSw)
      go_simp
      first | done | with_reducible rfl
    try simp only [Act.put, List.getElem_toArray, List.getElem_cons_succ, List.getElem_cons_zero, List.setIfInBounds_toArray, List.set_cons_zero, List.set_cons_succ]
    refine wpAnyH_take (i := 5) (v := _) rfl (by kernel_rfl) (by kernel_rfl) (by kernel_rfl) (fun _ _ _ h => h) (ldBIf (by rfl) _ rfl rfl (fun W hW => hW.c.blk) zB_len) (by assumption) ?_
    try simp only [Act.put, List.getElem_toArray, List.getElem_cons_succ, List.getElem_cons_zero, List.setIfInBounds_toArray, List.set_cons_zero, List.set_cons_succ]
    refine wpAnyH_ready (rs := [6]) (by kernel_rfl) (by simp) ?_
    refine AllReadyH.cons rfl (fun K hK => ?_) AllReadyH.nil
    go_simp
    refine (HZR.out _ rN).mono ?_; rintro z wm ⟨rfl, hbm⟩
    have rM : LwS w b (.slice f1 f2 f3) (.slice a1 a2 a3) (.slice p1 p2 p3) (.slice q1 q2 q3) (.slice r1 r2 r3) (rtO a) g zB (.slice fo fn fc) (.slice ao an ac) wm := rN.later hbm
    clear hbm
    refine hK.out _ _ ?_ (fun _ => ?_)
    · exact rM
    try simp only [Act.put, List.getElem_toArray, List.getElem_cons_succ, List.getElem_cons_zero, List.setIfInBounds_toArray, List.set_cons_zero, List.set_cons_succ]
    have rN := rM
    refine wpAnyH_take (i := 7) (v := ?_) rfl (by kernel_rfl) (by kernel_rfl) (by kernel_rfl) (fun _ _ _ h => h) (Or.inl ⟨by rfl, ?_⟩) (by assumption) ?_
    rotate_left
    · intro wS hSw
      (try dsimp only at hSw)
      go_simp
      first | done | with_reducible rfl
    try simp only [Act.put, List.getElem_toArray, List.getElem_cons_succ, List.getElem_cons_zero, List.setIfInBounds_toArray, List.set_cons_zero, List.set_cons_succ]
    refine wpAnyH_ready (rs := [8]) (by kernel_rfl) (by simp) ?_
    refine AllReadyH.cons rfl (fun K hK => ?_) AllReadyH.nil
    rw [if_pos (by kernel_rfl)]
    obtain ⟨b0, f0, a0, hz3, hz3l⟩ := rN.z3
    refine wpStBK (b := b) _ _ rfl rfl rfl hz3 hz3l hl rfl rfl ?_; intro wm hxm hgm
    have rM : LwS w b (.slice f1 f2 f3) (.slice a1 a2 a3) (.slice p1 p2 p3) (.slice q1 q2 q3) (.slice r1 r2 r3) (rtO a) g zB (.slice fo fn fc) (.slice ao an ac) wm := rN.st3 hgm hxm hl
    have H3 := Lib.hid hxm
    clear hxm hgm hz3 hz3l
    refine hK.out _ _ ?_ (fun _ => ?_)
    · exact rM
    try simp only [Act.put, List.getElem_toArray, List.getElem_cons_succ, List.getElem_cons_zero]
    have rN := rM
    refine wpAnyH_ready (rs := [9]) (by kernel_rfl) (by simp) ?_
    refine AllReadyH.cons rfl (fun K hK => ?_) AllReadyH.nil
    rw [if_pos (by kernel_rfl)]
    obtain ⟨y0, s0, u01, u02, u03, hz4⟩ := rN.z4
    refine wpStDK (y := b.addr) (s := b.aff) _ _ rfl rfl rfl hz4 rfl rfl rfl ?_; intro wq hxm hgm
    have rM : LwS w b (.slice f1 f2 f3) (.slice a1 a2 a3) (.slice p1 p2 p3) (.slice q1 q2 q3) (.slice r1 r2 r3) (rtO a) g zB (.slice fo fn fc) (.slice ao an ac) wq := rN.st4 hgm hxm
    have H3' := Lib.hid (blk_grownO H3.out hgm (fun e => by have := Option.some.inj e; omega))
    have H4 := Lib.hid hxm
    clear hxm hgm hz4
    refine hK.out _ _ ?_ (fun _ => ?_)
    · exact rM
    try simp only [Act.put, List.getElem_toArray, List.getElem_cons_succ, List.getElem_cons_zero]
    have rN := rM
    refine wpAnyH_take (i := 10) (v := ?_) rfl (by kernel_rfl) (by kernel_rfl) (by kernel_rfl) (fun _ _ _ h => h) (Or.inl ⟨by rfl, ?_⟩) (by assumption) ?_
    rotate_left
    · intro wS hSw
      (try dsimp only at hSw)
      go_simp
      first | done | with_reducible rfl
    try simp only [Act.put, List.getElem_toArray, List.getElem_cons_succ, List.getElem_cons_zero, List.setIfInBounds_toArray, List.set_cons_zero, List.set_cons_succ]
    refine wpAnyH_done (by kernel_rfl) ?_ _
    go_wp2_with fail
    exact bodyPost_ret (resC rfl rfl rfl (loadVarB H3'.out hl) (loadVarD H4.out)) rfl ⟨b, _, _, _, _, _, rfl, HBo.out.below rN.inp.below, rN.inp.below, fun g _ h => h⟩
end
section
open Go.RowKit
set_option maxRecDepth 100000 in
set_option maxHeartbeats 16000000 in
theorem assign15_given (b : BlkS) (f1 a1 p1 q1 r1 : Option Addr) (f2 f3 a2 a3 p2 p3 q2 q3 r2 r3 : Nat) (a : PA) (x : Int) (w : World) (hB : Both w b (.slice f1 f2 f3) (.slice a1 a2 a3) (.slice p1 p2 p3) (.slice q1 q2 q3) (.slice r1 r2 r3)) (h1 : a.1.size ≤ maxLen) (h2 : a.2.size ≤ maxLen) (hx : 0 ≤ x) (hx' : x < 4294967296) (hm : mayP a = true) (hi : inB b.addr x = true) (hq : b.sl.getD (x - b.addr).toNat 0 = 0) (hu : (undP b x).2 = false) :
    Calls Tryz.prog 20 #[.agg (blkL b (.slice f1 f2 f3) (.slice a1 a2 a3)).toArray, docV b.addr b.aff (.slice p1 p2 p3) (.slice q1 q2 q3) (.slice r1 r2 r3), .int .u32 x, atV a] w (DoP w b (.slice f1 f2 f3) (.slice a1 a2 a3) (.slice p1 p2 p3) (.slice q1 q2 q3) (.slice r1 r2 r3)) := by
  have hl := hB.wf.2.1
  have HBo := Lib.hid hB
  have HM := Lib.hid (And.intro (And.intro h1 h2) (And.intro hx hx'))
  have HC : Hid (∀ Y, Lw0 w b (.slice f1 f2 f3) (.slice a1 a2 a3) (.slice p1 p2 p3) (.slice q1 q2 q3) (.slice r1 r2 r3) (rtO a) Y → Calls Tryz.prog 51 #[.agg (blkL b (.slice f1 f2 f3) (.slice a1 a2 a3)).toArray, .int .u32 x, atV a] Y fun e Z => ∃ fo fn fc ao an ac, e = .returned (.tuple #[.agg (blkL (givS b [x - b.addr] a) (.slice fo fn fc) (.slice ao an ac)).toArray, .int .i64 0]) ∧ Owns Z Y.heap.size (.slice fo fn fc) ((givS b [x - b.addr] a)).free ∧ RowA EAt Z Y.heap.size (.slice ao an ac) ((givS b [x - b.addr] a)).attrs ∧ Below Y.heap.size Y Z) := Lib.hid (by
    intro Y hY
    refine (assignAt_any b _ _ x a Y (hB.free.keep hY.inp.below) (hB.attrs.below hY.inp.below) hB.wf hx hx' h1 h2 hB.right hm hi hq).mono ?_
    rintro e Z ⟨fv, av, rfl, hr⟩
    obtain ⟨fo, fn, fc, rfl⟩ := own_form hr.free
    obtain ⟨ao, an, ac, rfl⟩ := own_form hr.attrs
    exact ⟨fo, fn, fc, ao, an, ac, rfl, hr.free, hr.attrs, hr.below⟩)
  obtain ⟨C, hC⟩ : ∃ C, C = givS b [x - b.addr] a := ⟨_, rfl⟩
  rw [← hC] at HC
  obtain ⟨hdv, hok1, hok2⟩ := at_ok hB.wf hB.right hm hi hq
  rw [← hC] at hdv hok1 hok2
  have HCL : Hid (C.sl.length = 64) := Lib.hid hok2.2.1
  have HCB := Lib.hid (And.intro hok2 hok1)
  have HCA : Hid (C.addr = b.addr ∧ C.aff = b.aff) := Lib.hid (by rw [← hdv]; exact ⟨rfl, rfl⟩)
  have HDA : Hid (∀ Y, Below w.heap.size w Y → Calls Tryz.prog 54 #[docV b.addr b.aff (.slice p1 p2 p3) (.slice q1 q2 q3) (.slice r1 r2 r3), .int .u32 x, atV a] Y fun e w' => ∃ u1 u2 u3, e = .returned (docV b.addr b.aff u1 u2 u3) ∧ DocOwn Y w' C u1 u2 u3) := Lib.hid (fun Y hY => by
    have h := docAt_any b _ _ _ x a Y (hB.doc.below hY) hB.wf.2.1 hx hx' (Nat.le_trans (right_free hB.right).2.2 (by decide)) (Nat.le_trans (right_bd hB.wf hB.right).2.2.1 (by decide)) (right_loose hB.wf.2.1 hB.right).2.2.2.2.1
    rw [hdv] at h
    exact h)
  have HMY := refMayA_any a h1 h2
  rw [hm] at HMY
  have HMY := Lib.hid HMY
  have HIN := fun w => inD_any b.addr b.aff (.slice p1 p2 p3) (.slice q1 q2 q3) (.slice r1 r2 r3) x w hx hx'
  rw [hi] at HIN
  have HIN := Lib.hid HIN
  have HOF : Hid (∀ Y, Below w.heap.size w Y → Calls Tryz.prog 53 #[docV b.addr b.aff (.slice p1 p2 p3) (.slice q1 q2 q3) (.slice r1 r2 r3), .int .u32 x] Y fun e w' => e = .returned (.tuple #[atV (undP b x).1, .bool false]) ∧ Below Y.heap.size Y w') := Lib.hid (fun Y hY => by
    have h := refOf_und b _ _ _ x Y (hB.doc.below hY) hB.wf.2.1 (right_bd hB.wf hB.right).1 (right_bd hB.wf hB.right).2.2.1 (right_bd hB.wf hB.right).2.2.2 hx hx'
    rw [hu] at h
    exact h)
  have HLA := Lib.hid (fun w => lawAttr_any a w)
  have HS := Lib.hid (Lw0.new w b (.slice f1 f2 f3) (.slice a1 a2 a3) (.slice p1 p2 p3) (.slice q1 q2 q3) (.slice r1 r2 r3) (rtO a))
  obtain ⟨X, hX⟩ : ∃ X, X = (((((w.alloc (blkO b (.slice f1 f2 f3) (.slice a1 a2 a3))).alloc (docO b.addr b.aff (.slice p1 p2 p3) (.slice q1 q2 q3) (.slice r1 r2 r3))).alloc (rtO a)).alloc (blkO zB NS NS)).alloc (docO 0 ⟨#[]⟩ NS NS NS)) := ⟨_, rfl⟩
  rw [← hX] at HS
  have HW := Lib.hid hX
  clear h1 h2 hx hx' hm hi hq hu hB hX hC hdv hok1 hok2
  go_enter Tryz.func20, Tryz.ntmps20
  go_upto_region 1 with fail
  change Code.wp _ _ _ _ (((((w.alloc (blkO b (.slice f1 f2 f3) (.slice a1 a2 a3))).alloc (docO b.addr b.aff (.slice p1 p2 p3) (.slice q1 q2 q3) (.slice r1 r2 r3))).alloc (rtO a)).alloc (blkO zB NS NS)).alloc (docO 0 ⟨#[]⟩ NS NS NS))
  rw [← HW.out]
  clear HW
  go_cut [11, 12] (fun s11 s12 wx => ∃ (g : Nat) (fo : Option Addr) (fn fc : Nat) (ao : Option Addr) (an ac : Nat), s11 = .pointer (some ⟨g, 0, none⟩) ∧ s12 = .int .i64 0 ∧ Hid (Lw0 w b (.slice f1 f2 f3) (.slice a1 a2 a3) (.slice p1 p2 p3) (.slice q1 q2 q3) (.slice r1 r2 r3) (rtO a) wx ∧ VarO wx (w.heap.size + 5) g C (.slice fo fn fc) (.slice ao an ac) ∧ w.heap.size + 5 ≤ g))
  case first =>
    refine wp_region_held_drew (S := (fun Y => Below X.heap.size X Y)) (by kernel_rfl) ?_ (fun rN => ?_)
    · exact ⟨rfl, rfl, rfl, Nat.le_refl _, fun _ _ => rfl⟩
    obtain ⟨wn, hwn⟩ : ∃ wn, wn = X.drew := ⟨_, rfl⟩
    rw [← hwn] at rN ⊢
    clear hwn
    have rN : Below X.heap.size X wn := rN
    refine wpAnyH_take (i := 0) (v := _) rfl (by kernel_rfl) (by kernel_rfl) (by kernel_rfl) (fun _ _ _ h => h) (ldBIf (by rfl) _ rfl rfl (fun W hW => (HS.out.later hW).inp.blk) hl) (by assumption) ?_
    try simp only [Act.put, List.getElem_toArray, List.getElem_cons_zero, List.setIfInBounds_toArray, List.set_cons_zero, List.set_cons_succ]
    refine wpAnyH_take (i := 1) (v := ?_) rfl (by kernel_rfl) (by kernel_rfl) (by kernel_rfl) (fun _ _ _ h => h) (Or.inl ⟨by rfl, ?_⟩) (by assumption) ?_
    rotate_left
    · intro wS hSw
      (try dsimp only at hSw)
      go_simp
      first | done | with_reducible rfl
    try simp only [Act.put, List.getElem_toArray, List.getElem_cons_succ, List.getElem_cons_zero, List.setIfInBounds_toArray, List.set_cons_zero, List.set_cons_succ]
    refine wpAnyH_take (i := 2) (v := ?_) rfl (by kernel_rfl) (by kernel_rfl) (by kernel_rfl) (fun _ _ _ h => h) (Or.inl ⟨by rfl, ?_⟩) (by assumption) ?_
    rotate_left
    · intro wS hSw
      (try dsimp only at hSw)
      obtain ⟨m0, m1⟩ := acells (HS.out.later hSw).inp.attr
      go_simp
      first | done | with_reducible rfl
    try simp only [Act.put, List.getElem_toArray, List.getElem_cons_succ, List.getElem_cons_zero, List.setIfInBounds_toArray, List.set_cons_zero, List.set_cons_succ]
    refine wpAnyH_ready (rs := [3, 8]) (by kernel_rfl) (by simp) ?_
    refine AllReadyH.cons rfl (fun K hK => ?_) (AllReadyH.cons rfl (fun K hK => ?_) AllReadyH.nil)
    · go_simp
      refine (HLA.out _).mono ?_; rintro z wm ⟨rfl, hbm⟩
      have rM : Below X.heap.size X wm := bel rN hbm
      clear hbm
      refine hK.out _ _ ?_ (fun _ => ?_)
      · exact rM
      try simp only [Act.put, List.getElem_toArray, List.getElem_cons_succ, List.getElem_cons_zero, List.setIfInBounds_toArray, List.set_cons_zero, List.set_cons_succ]
      have rN := rM
      refine wpAnyH_ready (rs := [4, 8]) (by kernel_rfl) (by simp) ?_
      refine AllReadyH.cons rfl (fun K hK => ?_) (AllReadyH.cons rfl (fun K hK => ?_) AllReadyH.nil)
      · go_simp
        refine (HC.out _ (HS.out.later rN)).mono ?_; rintro z wm ⟨fo, fn, fc, ao, an, ac, rfl, hfr, hat, hbm⟩
        have rM : Below X.heap.size X wm := bel rN hbm
        have HR := Lib.hid (And.intro (own_le hfr (Nat.le_trans HS.out.inp.size rN.size)) (own_le hat (Nat.le_trans HS.out.inp.size rN.size)))
        clear hbm hfr hat
        refine hK.out _ _ ?_ (fun _ => ?_)
        · exact rM
        try simp only [Act.put, List.getElem_toArray, List.getElem_cons_succ, List.getElem_cons_zero, List.setIfInBounds_toArray, List.set_cons_zero, List.set_cons_succ]
        have rN := rM
        refine wpAnyH_take (i := 5) (v := ?_) rfl (by kernel_rfl) (by kernel_rfl) (by kernel_rfl) (fun _ _ _ h => h) (Or.inl ⟨by rfl, ?_⟩) (by assumption) ?_
        rotate_left
        · intro wS hSw
          (try dsimp only at hSw)
          go_simp
          first | done | with_reducible rfl
        try simp only [Act.put, List.getElem_toArray, List.getElem_cons_succ, List.getElem_cons_zero, List.setIfInBounds_toArray, List.set_cons_zero, List.set_cons_succ]
        refine wpAnyH_take (i := 6) (v := ?_) rfl (by kernel_rfl) (by kernel_rfl) (by kernel_rfl) (fun _ _ _ h => h) (Or.inl ⟨by rfl, ?_⟩) (by assumption) ?_
        rotate_left
        · intro wS hSw
          (try dsimp only at hSw)
          go_simp
          first | done | with_reducible rfl
        try simp only [Act.put, List.getElem_toArray, List.getElem_cons_succ, List.getElem_cons_zero, List.setIfInBounds_toArray, List.set_cons_zero, List.set_cons_succ]
        refine wpAnyH_take (i := 7) (v := ?_) rfl (by kernel_rfl) (by kernel_rfl) (by kernel_rfl) (fun _ _ _ h => h) (Or.inl ⟨by rfl, ?_⟩) (by assumption) ?_
        rotate_left
        · intro wS hSw
          (try dsimp only at hSw)
          go_simp
          first | done | with_reducible rfl
        try simp only [Act.put, List.getElem_toArray, List.getElem_cons_succ, List.getElem_cons_zero, List.setIfInBounds_toArray, List.set_cons_zero, List.set_cons_succ]
        refine wpAnyH_ready (rs := [8]) (by kernel_rfl) (by simp) ?_
        refine AllReadyH.cons rfl (fun K hK => ?_) AllReadyH.nil
        go_simp
        have hz0 := heap_new wm (blkO zB NS NS)
        have hbm := belNew wm (blkO zB NS NS)
        obtain ⟨wz, hwm⟩ : ∃ wz : World, wz = wm.alloc (blkO zB NS NS) := ⟨_, rfl⟩
        rw [← hwm] at hz0 hbm
        have rM : Below X.heap.size X wz := bel rN hbm
        obtain ⟨gz, hgz⟩ : ∃ gz, gz = wm.heap.size := ⟨_, rfl⟩
        have hgx : X.heap.size ≤ gz := by rw [hgz]; exact rN.size
        rw [← hgz] at hz0
        have HZ : Hid (BlkAt wz gz zB NS NS ∧ X.heap.size ≤ gz) := Lib.hid ⟨hz0, hgx⟩
        have HR := Lib.hid (And.intro (own_keep HR.out.1 hbm) (own_keep HR.out.2 hbm))
        change K _ (wm.alloc (blkO zB NS NS))
        rw [← hwm, ← hgz]
        clear hwm hgz hz0 hbm hgx
        refine hK.out _ _ ?_ (fun _ => ?_)
        · exact rM
        try simp only [Act.put, List.getElem_toArray, List.getElem_cons_succ, List.getElem_cons_zero, List.setIfInBounds_toArray, List.set_cons_zero, List.set_cons_succ]
        have rN := rM
        refine wpAnyH_ready (rs := [9]) (by kernel_rfl) (by simp) ?_
        refine AllReadyH.cons rfl (fun K hK => ?_) AllReadyH.nil
        rw [if_pos (by kernel_rfl)]
        refine wpStBK (b := C) _ _ rfl rfl rfl HZ.out.1 zB_len HCL.out rfl rfl ?_; intro wq hxm hgm
        have rM : Below X.heap.size X wq := rN.grown hgm rN.size (fun k hk => by cases hk; exact HZ.out.2)
        have HV : Hid (VarO wq (w.heap.size + 5) gz C (.slice fo fn fc) (.slice ao an ac)) := Lib.hid ⟨hxm, own_grownO HR.out.1 hgm (fun k hk e => own_neB HR.out.1 HZ.out.1 (by decide) (hk.trans e.symm)), own_grownO HR.out.2 hgm (fun k hk e => own_neB HR.out.2 HZ.out.1 (by decide) (hk.trans e.symm))⟩
        clear hxm hgm
        refine hK.out _ _ ?_ (fun _ => ?_)
        · exact rM
        try simp only [Act.put, List.getElem_toArray, List.getElem_cons_succ, List.getElem_cons_zero]
        have rN := rM
        refine wpAnyH_take (i := 10) (v := ?_) rfl (by kernel_rfl) (by kernel_rfl) (by kernel_rfl) (fun _ _ _ h => h) (Or.inl ⟨by rfl, ?_⟩) (by assumption) ?_
        rotate_left
        · intro wS hSw
          (try dsimp only at hSw)
          go_simp
          first | done | with_reducible rfl
        try simp only [Act.put, List.getElem_toArray, List.getElem_cons_succ, List.getElem_cons_zero, List.setIfInBounds_toArray, List.set_cons_zero, List.set_cons_succ]
        refine wpAnyH_done (by kernel_rfl) ?_ _
        (try go_wp2_with fail)
        go_meet
        exact ⟨gz, fo, fn, fc, ao, an, ac, rfl, rfl, Lib.hid ⟨HS.out.later rN, HV.out, Nat.le_trans HS.out.inp.size HZ.out.2⟩⟩
      · go_simp
        have hz0 := heap_new wm (blkO zB NS NS)
        have hbm := belNew wm (blkO zB NS NS)
        obtain ⟨wz, hwm⟩ : ∃ wz : World, wz = wm.alloc (blkO zB NS NS) := ⟨_, rfl⟩
        rw [← hwm] at hz0 hbm
        have rM : Below X.heap.size X wz := bel rN hbm
        obtain ⟨gz, hgz⟩ : ∃ gz, gz = wm.heap.size := ⟨_, rfl⟩
        have hgx : X.heap.size ≤ gz := by rw [hgz]; exact rN.size
        rw [← hgz] at hz0
        have HZ : Hid (BlkAt wz gz zB NS NS ∧ X.heap.size ≤ gz) := Lib.hid ⟨hz0, hgx⟩
        change K _ (wm.alloc (blkO zB NS NS))
        rw [← hwm, ← hgz]
        clear hwm hgz hz0 hbm hgx
        refine hK.out _ _ ?_ (fun _ => ?_)
        · exact rM
        try simp only [Act.put, List.getElem_toArray, List.getElem_cons_succ, List.getElem_cons_zero, List.setIfInBounds_toArray, List.set_cons_zero, List.set_cons_succ]
        have rN := rM
        refine wpAnyH_ready (rs := [4]) (by kernel_rfl) (by simp) ?_
        refine AllReadyH.cons rfl (fun K hK => ?_) AllReadyH.nil
        go_simp
        refine (HC.out _ (HS.out.later rN)).mono ?_; rintro z wm ⟨fo, fn, fc, ao, an, ac, rfl, hfr, hat, hbm⟩
        have rM : Below X.heap.size X wm := bel rN hbm
        have HZ := Lib.hid (And.intro (HZ.out.1.below hbm) HZ.out.2)
        have HR := Lib.hid (And.intro (own_le hfr (Nat.le_trans HS.out.inp.size rN.size)) (own_le hat (Nat.le_trans HS.out.inp.size rN.size)))
        clear hbm hfr hat
        refine hK.out _ _ ?_ (fun _ => ?_)
        · exact rM
        try simp only [Act.put, List.getElem_toArray, List.getElem_cons_succ, List.getElem_cons_zero, List.setIfInBounds_toArray, List.set_cons_zero, List.set_cons_succ]
        have rN := rM
        refine wpAnyH_take (i := 5) (v := ?_) rfl (by kernel_rfl) (by kernel_rfl) (by kernel_rfl) (fun _ _ _ h => h) (Or.inl ⟨by rfl, ?_⟩) (by assumption) ?_
        rotate_left
        · intro wS hSw
          (try dsimp only at hSw)
          go_simp
          first | done | with_reducible rfl
        try simp only [Act.put, List.getElem_toArray, List.getElem_cons_succ, List.getElem_cons_zero, List.setIfInBounds_toArray, List.set_cons_zero, List.set_cons_succ]
        refine wpAnyH_take (i := 6) (v := ?_) rfl (by kernel_rfl) (by kernel_rfl) (by kernel_rfl) (fun _ _ _ h => h) (Or.inl ⟨by rfl, ?_⟩) (by assumption) ?_
        rotate_left
        · intro wS hSw
          (try dsimp only at hSw)
          go_simp
          first | done | with_reducible rfl
        try simp only [Act.put, List.getElem_toArray, List.getElem_cons_succ, List.getElem_cons_zero, List.setIfInBounds_toArray, List.set_cons_zero, List.set_cons_succ]
        refine wpAnyH_take (i := 7) (v := ?_) rfl (by kernel_rfl) (by kernel_rfl) (by kernel_rfl) (fun _ _ _ h => h) (Or.inl ⟨by rfl, ?_⟩) (by assumption) ?_
        rotate_left
        · intro wS hSw
          (try dsimp only at hSw)
          go_simp
          first | done | with_reducible rfl
        try simp only [Act.put, List.getElem_toArray, List.getElem_cons_succ, List.getElem_cons_zero, List.setIfInBounds_toArray, List.set_cons_zero, List.set_cons_succ]
        refine wpAnyH_ready (rs := [9]) (by kernel_rfl) (by simp) ?_
        refine AllReadyH.cons rfl (fun K hK => ?_) AllReadyH.nil
        rw [if_pos (by kernel_rfl)]
        refine wpStBK (b := C) _ _ rfl rfl rfl HZ.out.1 zB_len HCL.out rfl rfl ?_; intro wq hxm hgm
        have rM : Below X.heap.size X wq := rN.grown hgm rN.size (fun k hk => by cases hk; exact HZ.out.2)
        have HV : Hid (VarO wq (w.heap.size + 5) gz C (.slice fo fn fc) (.slice ao an ac)) := Lib.hid ⟨hxm, own_grownO HR.out.1 hgm (fun k hk e => own_neB HR.out.1 HZ.out.1 (by decide) (hk.trans e.symm)), own_grownO HR.out.2 hgm (fun k hk e => own_neB HR.out.2 HZ.out.1 (by decide) (hk.trans e.symm))⟩
        clear hxm hgm
        refine hK.out _ _ ?_ (fun _ => ?_)
        · exact rM
        try simp only [Act.put, List.getElem_toArray, List.getElem_cons_succ, List.getElem_cons_zero]
        have rN := rM
        refine wpAnyH_take (i := 10) (v := ?_) rfl (by kernel_rfl) (by kernel_rfl) (by kernel_rfl) (fun _ _ _ h => h) (Or.inl ⟨by rfl, ?_⟩) (by assumption) ?_
        rotate_left
        · intro wS hSw
          (try dsimp only at hSw)
          go_simp
          first | done | with_reducible rfl
        try simp only [Act.put, List.getElem_toArray, List.getElem_cons_succ, List.getElem_cons_zero, List.setIfInBounds_toArray, List.set_cons_zero, List.set_cons_succ]
        refine wpAnyH_done (by kernel_rfl) ?_ _
        (try go_wp2_with fail)
        go_meet
        exact ⟨gz, fo, fn, fc, ao, an, ac, rfl, rfl, Lib.hid ⟨HS.out.later rN, HV.out, Nat.le_trans HS.out.inp.size HZ.out.2⟩⟩
    · go_simp
      have hz0 := heap_new wn (blkO zB NS NS)
      have hbm := belNew wn (blkO zB NS NS)
      obtain ⟨wz, hwm⟩ : ∃ wz : World, wz = wn.alloc (blkO zB NS NS) := ⟨_, rfl⟩
      rw [← hwm] at hz0 hbm
      have rM : Below X.heap.size X wz := bel rN hbm
      obtain ⟨gz, hgz⟩ : ∃ gz, gz = wn.heap.size := ⟨_, rfl⟩
      have hgx : X.heap.size ≤ gz := by rw [hgz]; exact rN.size
      rw [← hgz] at hz0
      have HZ : Hid (BlkAt wz gz zB NS NS ∧ X.heap.size ≤ gz) := Lib.hid ⟨hz0, hgx⟩
      change K _ (wn.alloc (blkO zB NS NS))
      rw [← hwm, ← hgz]
      clear hwm hgz hz0 hbm hgx
      refine hK.out _ _ ?_ (fun _ => ?_)
      · exact rM
      try simp only [Act.put, List.getElem_toArray, List.getElem_cons_succ, List.getElem_cons_zero, List.setIfInBounds_toArray, List.set_cons_zero, List.set_cons_succ]
      have rN := rM
      refine wpAnyH_ready (rs := [3]) (by kernel_rfl) (by simp) ?_
      refine AllReadyH.cons rfl (fun K hK => ?_) AllReadyH.nil
      go_simp
      refine (HLA.out _).mono ?_; rintro z wm ⟨rfl, hbm⟩
      have rM : Below X.heap.size X wm := bel rN hbm
      have HZ := Lib.hid (And.intro (HZ.out.1.below hbm) HZ.out.2)
      clear hbm
      refine hK.out _ _ ?_ (fun _ => ?_)
      · exact rM
      try simp only [Act.put, List.getElem_toArray, List.getElem_cons_succ, List.getElem_cons_zero, List.setIfInBounds_toArray, List.set_cons_zero, List.set_cons_succ]
      have rN := rM
      refine wpAnyH_ready (rs := [4]) (by kernel_rfl) (by simp) ?_
      refine AllReadyH.cons rfl (fun K hK => ?_) AllReadyH.nil
      go_simp
      refine (HC.out _ (HS.out.later rN)).mono ?_; rintro z wm ⟨fo, fn, fc, ao, an, ac, rfl, hfr, hat, hbm⟩
      have rM : Below X.heap.size X wm := bel rN hbm
      have HZ := Lib.hid (And.intro (HZ.out.1.below hbm) HZ.out.2)
      have HR := Lib.hid (And.intro (own_le hfr (Nat.le_trans HS.out.inp.size rN.size)) (own_le hat (Nat.le_trans HS.out.inp.size rN.size)))
      clear hbm hfr hat
      refine hK.out _ _ ?_ (fun _ => ?_)
      · exact rM
      try simp only [Act.put, List.getElem_toArray, List.getElem_cons_succ, List.getElem_cons_zero, List.setIfInBounds_toArray, List.set_cons_zero, List.set_cons_succ]
      have rN := rM
      refine wpAnyH_take (i := 5) (v := ?_) rfl (by kernel_rfl) (by kernel_rfl) (by kernel_rfl) (fun _ _ _ h => h) (Or.inl ⟨by rfl, ?_⟩) (by assumption) ?_
      rotate_left
      · intro wS hSw
        (try dsimp only at hSw)
        go_simp
        first | done | with_reducible rfl
      try simp only [Act.put, List.getElem_toArray, List.getElem_cons_succ, List.getElem_cons_zero, List.setIfInBounds_toArray, List.set_cons_zero, List.set_cons_succ]
      refine wpAnyH_take (i := 6) (v := ?_) rfl (by kernel_rfl) (by kernel_rfl) (by kernel_rfl) (fun _ _ _ h => h) (Or.inl ⟨by rfl, ?_⟩) (by assumption) ?_
      rotate_left
      · intro wS hSw
        (try dsimp only at hSw)
        go_simp
        first | done | with_reducible rfl
      try simp only [Act.put, List.getElem_toArray, List.getElem_cons_succ, List.getElem_cons_zero, List.setIfInBounds_toArray, List.set_cons_zero, List.set_cons_succ]
      refine wpAnyH_take (i := 7) (v := ?_) rfl (by kernel_rfl) (by kernel_rfl) (by kernel_rfl) (fun _ _ _ h => h) (Or.inl ⟨by rfl, ?_⟩) (by assumption) ?_
      rotate_left
      · intro wS hSw
        (try dsimp only at hSw)
        go_simp
        first | done | with_reducible rfl
      try simp only [Act.put, List.getElem_toArray, List.getElem_cons_succ, List.getElem_cons_zero, List.setIfInBounds_toArray, List.set_cons_zero, List.set_cons_succ]
      refine wpAnyH_ready (rs := [9]) (by kernel_rfl) (by simp) ?_
      refine AllReadyH.cons rfl (fun K hK => ?_) AllReadyH.nil
      rw [if_pos (by kernel_rfl)]
      refine wpStBK (b := C) _ _ rfl rfl rfl HZ.out.1 zB_len HCL.out rfl rfl ?_; intro wq hxm hgm
      have rM : Below X.heap.size X wq := rN.grown hgm rN.size (fun k hk => by cases hk; exact HZ.out.2)
      have HV : Hid (VarO wq (w.heap.size + 5) gz C (.slice fo fn fc) (.slice ao an ac)) := Lib.hid ⟨hxm, own_grownO HR.out.1 hgm (fun k hk e => own_neB HR.out.1 HZ.out.1 (by decide) (hk.trans e.symm)), own_grownO HR.out.2 hgm (fun k hk e => own_neB HR.out.2 HZ.out.1 (by decide) (hk.trans e.symm))⟩
      clear hxm hgm
      refine hK.out _ _ ?_ (fun _ => ?_)
      · exact rM
      try simp only [Act.put, List.getElem_toArray, List.getElem_cons_succ, List.getElem_cons_zero]
      have rN := rM
      refine wpAnyH_take (i := 10) (v := ?_) rfl (by kernel_rfl) (by kernel_rfl) (by kernel_rfl) (fun _ _ _ h => h) (Or.inl ⟨by rfl, ?_⟩) (by assumption) ?_
      rotate_left
      · intro wS hSw
        (try dsimp only at hSw)
        go_simp
        first | done | with_reducible rfl
      try simp only [Act.put, List.getElem_toArray, List.getElem_cons_succ, List.getElem_cons_zero, List.setIfInBounds_toArray, List.set_cons_zero, List.set_cons_succ]
      refine wpAnyH_done (by kernel_rfl) ?_ _
      (try go_wp2_with fail)
      go_meet
      exact ⟨gz, fo, fn, fc, ao, an, ac, rfl, rfl, Lib.hid ⟨HS.out.later rN, HV.out, Nat.le_trans HS.out.inp.size HZ.out.2⟩⟩
  case rest =>
    obtain ⟨g, fo, fn, fc, ao, an, ac, rfl, rfl, HC0⟩ := hcut
    obtain ⟨X, rfl⟩ : ∃ X, X = wc := ⟨_, rfl⟩
    have HX : Hid (LwS w b (.slice f1 f2 f3) (.slice a1 a2 a3) (.slice p1 p2 p3) (.slice q1 q2 q3) (.slice r1 r2 r3) (rtO a) g C (.slice fo fn fc) (.slice ao an ac) X) := Lib.hid (HC0.out.1.toS HC0.out.2.1 HC0.out.2.2)
    obtain ⟨y0, y1⟩ := acells HC0.out.1.inp.attr
    go_wp2_with fail
    refine (HMY.out _).mono ?_; rintro e w3 ⟨rfl, hb3⟩
    have HX := Lib.hid (HX.out.later hb3)
    clear hb3 y0 y1 HC0 HS
    go_wp2_with (refine wpLdDg (by rfl) _ rfl rfl HX.out.inp.doc ?_)
    refine (HIN.out _).mono ?_; rintro e w4 ⟨rfl, hb4⟩
    have HX := Lib.hid (HX.out.later hb4)
    clear hb4
    go_wp2_with (refine wpLdD rfl _ rfl rfl HX.out.inp.doc ?_)
    refine (HOF.out _ HX.out.inp.below).mono ?_; rintro e w5 ⟨rfl, hb5⟩
    have HX5 := Lib.hid (HX.out.later hb5)
    clear hb5 HX
    go_upto_region 5 with fail
    change Code.wp _ _ _ _ (w5.alloc (rtO (undP b x).1))
    have HX := Lib.hid (HX5.out.later (belNew w5 (rtO (undP b x).1)))
    clear HX5
    generalize w5.alloc (rtO (undP b x).1) = X at HX ⊢
    go_upto_region 7 with fail
    refine wp_region_held_drew (S := (fun Y => LwS w b (.slice f1 f2 f3) (.slice a1 a2 a3) (.slice p1 p2 p3) (.slice q1 q2 q3) (.slice r1 r2 r3) (rtO a) g C (.slice fo fn fc) (.slice ao an ac) Y)) (by kernel_rfl) ?_ (fun rN => ?_)
    · exact HX.out.later ⟨rfl, rfl, rfl, Nat.le_refl _, fun _ _ => rfl⟩
    obtain ⟨wn, hwn⟩ : ∃ wn, wn = X.drew := ⟨_, rfl⟩
    rw [← hwn] at rN ⊢
    clear hwn
    have rN : LwS w b (.slice f1 f2 f3) (.slice a1 a2 a3) (.slice p1 p2 p3) (.slice q1 q2 q3) (.slice r1 r2 r3) (rtO a) g C (.slice fo fn fc) (.slice ao an ac) wn := rN
    refine wpAnyH_take (i := 0) (v := _) rfl (by kernel_rfl) (by kernel_rfl) (by kernel_rfl) (fun _ _ _ h => h) (ldBIf (by rfl) _ rfl rfl (fun W hW => hW.c.blk) HCL.out) (by assumption) ?_
    try simp only [Act.put, List.getElem_toArray, List.getElem_cons_zero, List.setIfInBounds_toArray, List.set_cons_zero, List.set_cons_succ]
    refine wpAnyH_take (i := 1) (v := _) rfl (by kernel_rfl) (by kernel_rfl) (by kernel_rfl) (fun _ _ _ h => h) (ldDIf (by rfl) _ rfl rfl (fun W hW => hW.inp.doc) ) (by assumption) ?_
    try simp only [Act.put, List.getElem_toArray, List.getElem_cons_succ, List.getElem_cons_zero, List.setIfInBounds_toArray, List.set_cons_zero, List.set_cons_succ]
    refine wpAnyH_take (i := 2) (v := ?_) rfl (by kernel_rfl) (by kernel_rfl) (by kernel_rfl) (fun _ _ _ h => h) (Or.inl ⟨by rfl, ?_⟩) (by assumption) ?_
    rotate_left
    · intro wS hSw
      (try dsimp only at hSw)
      go_simp
      first | done | with_reducible rfl
    try simp only [Act.put, List.getElem_toArray, List.getElem_cons_succ, List.getElem_cons_zero, List.setIfInBounds_toArray, List.set_cons_zero, List.set_cons_succ]
    refine wpAnyH_take (i := 3) (v := ?_) rfl (by kernel_rfl) (by kernel_rfl) (by kernel_rfl) (fun _ _ _ h => h) (Or.inl ⟨by rfl, ?_⟩) (by assumption) ?_
    rotate_left
    · intro wS hSw
      (try dsimp only at hSw)
      obtain ⟨m0, m1⟩ := acells hSw.inp.attr
      go_simp
      first | done | with_reducible rfl
    try simp only [Act.put, List.getElem_toArray, List.getElem_cons_succ, List.getElem_cons_zero, List.setIfInBounds_toArray, List.set_cons_zero, List.set_cons_succ]
    refine wpAnyH_take (i := 5) (v := ?_) rfl (by kernel_rfl) (by kernel_rfl) (by kernel_rfl) (fun _ _ _ h => h) (Or.inl ⟨by rfl, ?_⟩) (by assumption) ?_
    rotate_left
    · intro wS hSw
      (try dsimp only at hSw)
      go_simp
      first | done | with_reducible rfl
    try simp only [Act.put, List.getElem_toArray, List.getElem_cons_succ, List.getElem_cons_zero, List.setIfInBounds_toArray, List.set_cons_zero, List.set_cons_succ]
    refine wpAnyH_take (i := 6) (v := ?_) rfl (by kernel_rfl) (by kernel_rfl) (by kernel_rfl) (fun _ _ _ h => h) (Or.inl ⟨by rfl, ?_⟩) (by assumption) ?_
    rotate_left
    · intro wS hSw
      (try dsimp only at hSw)
      go_simp
      first | done | with_reducible rfl
    try simp only [Act.put, List.getElem_toArray, List.getElem_cons_succ, List.getElem_cons_zero, List.setIfInBounds_toArray, List.set_cons_zero, List.set_cons_succ]
    refine wpAnyH_ready (rs := [4]) (by kernel_rfl) (by simp) ?_
    refine AllReadyH.cons rfl (fun K hK => ?_) AllReadyH.nil
    go_simp
    refine (HDA.out _ rN.inp.below).mono ?_; rintro z wm ⟨u1, u2, u3, rfl, hdo⟩
    have rM : LwS w b (.slice f1 f2 f3) (.slice a1 a2 a3) (.slice p1 p2 p3) (.slice q1 q2 q3) (.slice r1 r2 r3) (rtO a) g C (.slice fo fn fc) (.slice ao an ac) wm := rN.later hdo.below
    obtain ⟨x1, y1, rfl⟩ := hdo.slots.slice
    obtain ⟨x2, y2, rfl⟩ := hdo.free.slice
    obtain ⟨x3, y3, rfl⟩ := hdo.attrs.slice
    have HD := Lib.hid (And.intro (And.intro (RowG.le hdo.slots rN.inp.size) (RowG.le hdo.free rN.inp.size)) (RowG.le hdo.attrs rN.inp.size))
    clear hdo
    refine hK.out _ _ ?_ (fun _ => ?_)
    · exact rM
    try simp only [Act.put, List.getElem_toArray, List.getElem_cons_succ, List.getElem_cons_zero, List.setIfInBounds_toArray, List.set_cons_zero, List.set_cons_succ]
    have rN := rM
    refine wpAnyH_ready (rs := [7]) (by kernel_rfl) (by simp) ?_
    refine AllReadyH.cons rfl (fun K hK => ?_) AllReadyH.nil
    rw [if_pos (by kernel_rfl)]
    obtain ⟨b0, f0, a0, hz3, hz3l⟩ := rN.z3
    refine wpStBK (b := C) _ _ rfl rfl rfl hz3 hz3l HCL.out rfl rfl ?_; intro wq hxm hgm
    have rM : LwS w b (.slice f1 f2 f3) (.slice a1 a2 a3) (.slice p1 p2 p3) (.slice q1 q2 q3) (.slice r1 r2 r3) (rtO a) g C (.slice fo fn fc) (.slice ao an ac) wq := rN.st3 hgm hxm HCL.out
    have H3 := Lib.hid hxm
    have HD := Lib.hid (And.intro (And.intro (own_grown HD.out.1.1 hgm (by omega)) (own_grown HD.out.1.2 hgm (by omega))) (own_grown HD.out.2 hgm (by omega)))
    clear hxm hgm hz3 hz3l
    refine hK.out _ _ ?_ (fun _ => ?_)
    · exact rM
    try simp only [Act.put, List.getElem_toArray, List.getElem_cons_succ, List.getElem_cons_zero]
    have rN := rM
    refine wpAnyH_ready (rs := [8]) (by kernel_rfl) (by simp) ?_
    refine AllReadyH.cons rfl (fun K hK => ?_) AllReadyH.nil
    rw [if_pos (by kernel_rfl)]
    obtain ⟨y0, s0, u01, u02, u03, hz4⟩ := rN.z4
    refine wpStDK (y := b.addr) (s := b.aff) _ _ rfl rfl rfl hz4 rfl rfl rfl ?_; intro wp hxm hgm
    have rM : LwS w b (.slice f1 f2 f3) (.slice a1 a2 a3) (.slice p1 p2 p3) (.slice q1 q2 q3) (.slice r1 r2 r3) (rtO a) g C (.slice fo fn fc) (.slice ao an ac) wp := rN.st4 hgm hxm
    have H3' := Lib.hid (blk_grownO H3.out hgm (fun e => by have := Option.some.inj e; omega))
    have HD' := Lib.hid (And.intro (And.intro (own_grown HD.out.1.1 hgm (by omega)) (own_grown HD.out.1.2 hgm (by omega))) (own_grown HD.out.2 hgm (by omega)))
    have H4 := Lib.hid hxm
    clear hxm hgm hz4
    refine hK.out _ _ ?_ (fun _ => ?_)
    · exact rM
    try simp only [Act.put, List.getElem_toArray, List.getElem_cons_succ, List.getElem_cons_zero]
    have rN := rM
    refine wpAnyH_take (i := 9) (v := ?_) rfl (by kernel_rfl) (by kernel_rfl) (by kernel_rfl) (fun _ _ _ h => h) (Or.inl ⟨by rfl, ?_⟩) (by assumption) ?_
    rotate_left
    · intro wS hSw
      (try dsimp only at hSw)
      go_simp
      first | done | with_reducible rfl
    try simp only [Act.put, List.getElem_toArray, List.getElem_cons_succ, List.getElem_cons_zero, List.setIfInBounds_toArray, List.set_cons_zero, List.set_cons_succ]
    refine wpAnyH_done (by kernel_rfl) ?_ _
    go_wp2_with fail
    exact bodyPost_ret (resC rfl rfl rfl (loadVarB H3'.out HCL.out) (loadVarD H4.out)) rfl ⟨C, _, _, _, _, _, by rw [HCA.out.1, HCA.out.2]; rfl, ⟨rN.c.free.sees, RowA.sees rN.c.attrs, ⟨RowG.sees HD'.out.1.1 (fun _ => rfl), RowG.sees HD'.out.1.2 (fun _ => rfl), RowG.sees HD'.out.2 (fun _ => rfl)⟩, HCB.out.1, HCB.out.2⟩, rN.inp.below, fun g hg _ => own_apB rN.c.free rN.c.attrs HD'.out.1.1 HD'.out.1.2 HD'.out.2 (by omega)⟩
end
end Go.Proofs.YtgodmnpcedfdcaaGreat
