/- Joined: BdNb BdNc BdO. -/
import Derived.Test.YtgodmnpcedfdcaaGreatJDm
namespace Go.Proofs.YtgodmnpcedfdcaaGreat
section
open Go.RowKit
set_option maxRecDepth 100000 in
set_option maxHeartbeats 16000000 in
theorem do_other (b : BlkS) (f1 a1 p1 q1 r1 : Option Addr) (f2 f3 a2 a3 p2 p3 q2 q3 r2 r3 : Nat) (k n : Int) (a : PA) (l1 : Option Addr) (l2 l3 : Nat) (l : List Int) (s : ByteArray) (w : World) (hB : Both w b (.slice f1 f2 f3) (.slice a1 a2 a3) (.slice p1 p2 p3) (.slice q1 q2 q3) (.slice r1 r2 r3)) (_ : a.1.size ≤ maxLen) (_ : a.2.size ≤ maxLen) (hls : SeesU w (.slice l1 l2 l3) l) (hlx : ∀ x ∈ l, 0 ≤ x ∧ x < 4294967296) (_ : s.size ≤ maxLen) (hk : ¬ k = 0 ∧ ¬ k = 1 ∧ ¬ k = 2 ∧ ¬ k = 3 ∧ ¬ k = 4 ∧ ¬ k = 5 ∧ ¬ k = 6 ∧ ¬ k = 7) :
    Calls Tryz.prog 6 #[.agg (blkL b (.slice f1 f2 f3) (.slice a1 a2 a3)).toArray, docV b.addr b.aff (.slice p1 p2 p3) (.slice q1 q2 q3) (.slice r1 r2 r3), stV k n a (.slice l1 l2 l3) s] w (DoP w b (.slice f1 f2 f3) (.slice a1 a2 a3) (.slice p1 p2 p3) (.slice q1 q2 q3) (.slice r1 r2 r3)) := by
  have hl := hB.wf.2.1
  have HBo := Lib.hid hB
  obtain ⟨m, hm1, hm2, hm3, hm4, hm5⟩ := cut80 hls
  have HMM := Lib.hid (And.intro hm1 hm2)
  have HLT := Lib.hid (And.intro hm3 (And.intro hm4 hm5))
  have HLX : Hid (∀ x ∈ l.take m, 0 ≤ x ∧ x < 4294967296) := Lib.hid (fun x hx => hlx x (List.mem_of_mem_take hx))
  have d0 : decide (k = 0) = false := decide_eq_false hk.1
  have d1 : decide (k = 1) = false := decide_eq_false hk.2.1
  have d2 : decide (k = 2) = false := decide_eq_false hk.2.2.1
  have d3 : decide (k = 3) = false := decide_eq_false hk.2.2.2.1
  have d4 : decide (k = 4) = false := decide_eq_false hk.2.2.2.2.1
  have d5 : decide (k = 5) = false := decide_eq_false hk.2.2.2.2.2.1
  have d6 : decide (k = 6) = false := decide_eq_false hk.2.2.2.2.2.2.1
  have d7 : decide (k = 7) = false := decide_eq_false hk.2.2.2.2.2.2.2
  have n0 : ¬ k = 0 := hk.1
  have n1 : ¬ k = 1 := hk.2.1
  have n2 : ¬ k = 2 := hk.2.2.1
  have n3 : ¬ k = 3 := hk.2.2.2.1
  have n4 : ¬ k = 4 := hk.2.2.2.2.1
  have n5 : ¬ k = 5 := hk.2.2.2.2.2.1
  have n6 : ¬ k = 6 := hk.2.2.2.2.2.2.1
  have n7 : ¬ k = 7 := hk.2.2.2.2.2.2.2
  have HS := Lib.hid (Lw0.new w b (.slice f1 f2 f3) (.slice a1 a2 a3) (.slice p1 p2 p3) (.slice q1 q2 q3) (.slice r1 r2 r3) (stO k n a (.slice l1 l2 l3) s))
  obtain ⟨X, hX⟩ : ∃ X, X = (((((w.alloc (blkO b (.slice f1 f2 f3) (.slice a1 a2 a3))).alloc (docO b.addr b.aff (.slice p1 p2 p3) (.slice q1 q2 q3) (.slice r1 r2 r3))).alloc (stO k n a (.slice l1 l2 l3) s)).alloc (blkO zB NS NS)).alloc (docO 0 ⟨#[]⟩ NS NS NS)) := ⟨_, rfl⟩
  rw [← hX] at HS
  have HW := Lib.hid hX
  clear hm1 hm2 hm3 hm4 hm5 hls hlx hX hB
  clear hk
  go_enter Tryz.func6, Tryz.ntmps6
  go_upto_region 1 with fail
  change Code.wp _ _ _ _ (((((w.alloc (blkO b (.slice f1 f2 f3) (.slice a1 a2 a3))).alloc (docO b.addr b.aff (.slice p1 p2 p3) (.slice q1 q2 q3) (.slice r1 r2 r3))).alloc (stO k n a (.slice l1 l2 l3) s)).alloc (blkO zB NS NS)).alloc (docO 0 ⟨#[]⟩ NS NS NS))
  rw [← HW.out]
  clear HW
  obtain ⟨cc0, cc1, cc2, cc3, cc4, cc5⟩ := stcells HS.out.inp.attr
  go_upto_if 37 with fail
  go_cut [9] (fun s9 wx => s9 = .slice l1 m l3 ∧ wx = X)
  case first =>
    by_cases h80 : 80 < l2
    · obtain ⟨rfl, hcap, la, rfl⟩ := HMM.out.1 h80
      have hd : decide (80 < (l2 : Int)) = true := decide_eq_true (by omega)
      have hd' : decide (80 < l2) = true := decide_eq_true h80
      go_wp2_with fail
      go_meet
      exact ⟨rfl, rfl⟩
    · obtain rfl := HMM.out.2 h80
      have hd : decide (80 < (m : Int)) = false := decide_eq_false (by omega)
      have hd' : decide (80 < m) = false := decide_eq_false h80
      go_wp2_with fail
      go_meet
      exact ⟨rfl, rfl⟩
  case rest =>
    obtain ⟨rfl, hwc⟩ := hcut
    subst wc
    go_upto_region 37 with fail
    clear cc0 cc1 cc2 cc3 cc4 cc5
    have HX := Lib.hid HS.out.to2
    refine wp_region_held_drew (S := (fun Y => Lw2 w b (.slice f1 f2 f3) (.slice a1 a2 a3) (.slice p1 p2 p3) (.slice q1 q2 q3) (.slice r1 r2 r3) (stO k n a (.slice l1 l2 l3) s) Y)) (by kernel_rfl) ?_ (fun rN => ?_)
    · exact HX.out.later ⟨rfl, rfl, rfl, Nat.le_refl _, fun _ _ => rfl⟩
    obtain ⟨wn, hwn⟩ : ∃ wn, wn = X.drew := ⟨_, rfl⟩
    rw [← hwn] at rN ⊢
    clear hwn
    have rN : Lw2 w b (.slice f1 f2 f3) (.slice a1 a2 a3) (.slice p1 p2 p3) (.slice q1 q2 q3) (.slice r1 r2 r3) (stO k n a (.slice l1 l2 l3) s) wn := rN
    refine wpAnyH_take (i := 0) (v := _) rfl (by kernel_rfl) (by kernel_rfl) (by kernel_rfl) (fun _ _ _ h => h) (ldBIf (by rfl) _ rfl rfl (fun W hW => hW.inp.blk) hl) (by assumption) ?_
    try simp only [Act.put, List.getElem_toArray, List.getElem_cons_zero, List.setIfInBounds_toArray, List.set_cons_zero, List.set_cons_succ]
    refine wpAnyH_take (i := 1) (v := _) rfl (by kernel_rfl) (by kernel_rfl) (by kernel_rfl) (fun _ _ _ h => h) (ldDIf (by rfl) _ rfl rfl (fun W hW => hW.inp.doc) ) (by assumption) ?_
    try simp only [Act.put, List.getElem_toArray, List.getElem_cons_succ, List.getElem_cons_zero, List.setIfInBounds_toArray, List.set_cons_zero, List.set_cons_succ]
    refine wpAnyH_ready (rs := [2]) (by kernel_rfl) (by simp) ?_
    refine AllReadyH.cons rfl (fun K hK => ?_) AllReadyH.nil
    rw [if_pos (by kernel_rfl)]
    obtain ⟨b0, f0, a0, hz3, hz3l⟩ := rN.z3
    refine wpStBK (b := b) _ _ rfl rfl rfl hz3 hz3l hl rfl rfl ?_; intro wm hxm hgm
    have rM : Lw2 w b (.slice f1 f2 f3) (.slice a1 a2 a3) (.slice p1 p2 p3) (.slice q1 q2 q3) (.slice r1 r2 r3) (stO k n a (.slice l1 l2 l3) s) wm := rN.st3 hgm hxm hl
    have H3 := Lib.hid hxm
    clear hxm hgm hz3 hz3l
    refine hK.out _ _ ?_ (fun _ => ?_)
    · exact rM
    try simp only [Act.put, List.getElem_toArray, List.getElem_cons_succ, List.getElem_cons_zero]
    have rN := rM
    refine wpAnyH_ready (rs := [3]) (by kernel_rfl) (by simp) ?_
    refine AllReadyH.cons rfl (fun K hK => ?_) AllReadyH.nil
    rw [if_pos (by kernel_rfl)]
    obtain ⟨y0, s0, u01, u02, u03, hz4⟩ := rN.z4
    refine wpStDK (y := b.addr) (s := b.aff) _ _ rfl rfl rfl hz4 rfl rfl rfl ?_; intro wq hxm hgm
    have rM : Lw2 w b (.slice f1 f2 f3) (.slice a1 a2 a3) (.slice p1 p2 p3) (.slice q1 q2 q3) (.slice r1 r2 r3) (stO k n a (.slice l1 l2 l3) s) wq := rN.st4 hgm hxm
    have H3' := Lib.hid (blk_grownO H3.out hgm (fun e => by have := Option.some.inj e; omega))
    have H4 := Lib.hid hxm
    clear hxm hgm hz4
    refine hK.out _ _ ?_ (fun _ => ?_)
    · exact rM
    try simp only [Act.put, List.getElem_toArray, List.getElem_cons_succ, List.getElem_cons_zero]
    have rN := rM
    refine wpAnyH_take (i := 4) (v := ?_) rfl (by kernel_rfl) (by kernel_rfl) (by kernel_rfl) (fun _ _ _ h => h) (Or.inl ⟨by rfl, ?_⟩) (by assumption) ?_
    rotate_left
    · intro wS hSw
      (try dsimp only at hSw)
      go_simp
      first | done | with_reducible rfl
    try simp only [Act.put, List.getElem_toArray, List.getElem_cons_succ, List.getElem_cons_zero, List.setIfInBounds_toArray, List.set_cons_zero, List.set_cons_succ]
    refine wpAnyH_done (by kernel_rfl) ?_ _
    go_wp2_with fail
    exact bodyPost_ret (resC rfl rfl rfl (loadVarB H3'.out hl) (loadVarD H4.out)) rfl ⟨b, _, _, _, _, _, rfl, HBo.out.below rN.inp.below, rN.inp.below, fun g _ h => h⟩
set_option maxRecDepth 100000 in
set_option maxHeartbeats 16000000 in
theorem do5_none (b : BlkS) (f1 a1 p1 q1 r1 : Option Addr) (f2 f3 a2 a3 p2 p3 q2 q3 r2 r3 : Nat) (n : Int) (a : PA) (l1 : Option Addr) (l2 l3 : Nat) (l : List Int) (s : ByteArray) (w : World) (hB : Both w b (.slice f1 f2 f3) (.slice a1 a2 a3) (.slice p1 p2 p3) (.slice q1 q2 q3) (.slice r1 r2 r3)) (_ : a.1.size ≤ maxLen) (_ : a.2.size ≤ maxLen) (hls : SeesU w (.slice l1 l2 l3) l) (hlx : ∀ x ∈ l, 0 ≤ x ∧ x < 4294967296) (_ : s.size ≤ maxLen) (he : a.1 = em) :
    Calls Tryz.prog 6 #[.agg (blkL b (.slice f1 f2 f3) (.slice a1 a2 a3)).toArray, docV b.addr b.aff (.slice p1 p2 p3) (.slice q1 q2 q3) (.slice r1 r2 r3), stV 5 n a (.slice l1 l2 l3) s] w (DoP w b (.slice f1 f2 f3) (.slice a1 a2 a3) (.slice p1 p2 p3) (.slice q1 q2 q3) (.slice r1 r2 r3)) := by
  have hl := hB.wf.2.1
  have HBo := Lib.hid hB
  obtain ⟨m, hm1, hm2, hm3, hm4, hm5⟩ := cut80 hls
  have HMM := Lib.hid (And.intro hm1 hm2)
  have HLT := Lib.hid (And.intro hm3 (And.intro hm4 hm5))
  have HLX : Hid (∀ x ∈ l.take m, 0 ≤ x ∧ x < 4294967296) := Lib.hid (fun x hx => hlx x (List.mem_of_mem_take hx))
  have HE := Lib.hid he
  have HS := Lib.hid (Lw0.new w b (.slice f1 f2 f3) (.slice a1 a2 a3) (.slice p1 p2 p3) (.slice q1 q2 q3) (.slice r1 r2 r3) (stO 5 n a (.slice l1 l2 l3) s))
  obtain ⟨X, hX⟩ : ∃ X, X = (((((w.alloc (blkO b (.slice f1 f2 f3) (.slice a1 a2 a3))).alloc (docO b.addr b.aff (.slice p1 p2 p3) (.slice q1 q2 q3) (.slice r1 r2 r3))).alloc (stO 5 n a (.slice l1 l2 l3) s)).alloc (blkO zB NS NS)).alloc (docO 0 ⟨#[]⟩ NS NS NS)) := ⟨_, rfl⟩
  rw [← hX] at HS
  have HW := Lib.hid hX
  clear hm1 hm2 hm3 hm4 hm5 hls hlx hX hB
  clear he
  go_enter Tryz.func6, Tryz.ntmps6
  go_upto_region 1 with fail
  change Code.wp _ _ _ _ (((((w.alloc (blkO b (.slice f1 f2 f3) (.slice a1 a2 a3))).alloc (docO b.addr b.aff (.slice p1 p2 p3) (.slice q1 q2 q3) (.slice r1 r2 r3))).alloc (stO 5 n a (.slice l1 l2 l3) s)).alloc (blkO zB NS NS)).alloc (docO 0 ⟨#[]⟩ NS NS NS))
  rw [← HW.out]
  clear HW
  obtain ⟨cc0, cc1, cc2, cc3, cc4, cc5⟩ := stcells HS.out.inp.attr
  go_upto_if 37 with fail
  go_cut [9] (fun s9 wx => s9 = .slice l1 m l3 ∧ wx = X)
  case first =>
    by_cases h80 : 80 < l2
    · obtain ⟨rfl, hcap, la, rfl⟩ := HMM.out.1 h80
      have hd : decide (80 < (l2 : Int)) = true := decide_eq_true (by omega)
      have hd' : decide (80 < l2) = true := decide_eq_true h80
      go_wp2_with fail
      go_meet
      exact ⟨rfl, rfl⟩
    · obtain rfl := HMM.out.2 h80
      have hd : decide (80 < (m : Int)) = false := decide_eq_false (by omega)
      have hd' : decide (80 < m) = false := decide_eq_false h80
      go_wp2_with fail
      go_meet
      exact ⟨rfl, rfl⟩
  case rest =>
    obtain ⟨rfl, hwc⟩ := hcut
    subst wc
    rw [HE.out] at cc2
    go_upto_region 37 with fail
    clear cc0 cc1 cc2 cc3 cc4 cc5
    have HX := Lib.hid HS.out.to2
    refine wp_region_held_drew (S := (fun Y => Lw2 w b (.slice f1 f2 f3) (.slice a1 a2 a3) (.slice p1 p2 p3) (.slice q1 q2 q3) (.slice r1 r2 r3) (stO 5 n a (.slice l1 l2 l3) s) Y)) (by kernel_rfl) ?_ (fun rN => ?_)
    · exact HX.out.later ⟨rfl, rfl, rfl, Nat.le_refl _, fun _ _ => rfl⟩
    obtain ⟨wn, hwn⟩ : ∃ wn, wn = X.drew := ⟨_, rfl⟩
    rw [← hwn] at rN ⊢
    clear hwn
    have rN : Lw2 w b (.slice f1 f2 f3) (.slice a1 a2 a3) (.slice p1 p2 p3) (.slice q1 q2 q3) (.slice r1 r2 r3) (stO 5 n a (.slice l1 l2 l3) s) wn := rN
    refine wpAnyH_take (i := 0) (v := _) rfl (by kernel_rfl) (by kernel_rfl) (by kernel_rfl) (fun _ _ _ h => h) (ldBIf (by rfl) _ rfl rfl (fun W hW => hW.inp.blk) hl) (by assumption) ?_
    try simp only [Act.put, List.getElem_toArray, List.getElem_cons_zero, List.setIfInBounds_toArray, List.set_cons_zero, List.set_cons_succ]
    refine wpAnyH_take (i := 1) (v := _) rfl (by kernel_rfl) (by kernel_rfl) (by kernel_rfl) (fun _ _ _ h => h) (ldDIf (by rfl) _ rfl rfl (fun W hW => hW.inp.doc) ) (by assumption) ?_
    try simp only [Act.put, List.getElem_toArray, List.getElem_cons_succ, List.getElem_cons_zero, List.setIfInBounds_toArray, List.set_cons_zero, List.set_cons_succ]
    refine wpAnyH_ready (rs := [2]) (by kernel_rfl) (by simp) ?_
    refine AllReadyH.cons rfl (fun K hK => ?_) AllReadyH.nil
    rw [if_pos (by kernel_rfl)]
    obtain ⟨b0, f0, a0, hz3, hz3l⟩ := rN.z3
    refine wpStBK (b := b) _ _ rfl rfl rfl hz3 hz3l hl rfl rfl ?_; intro wm hxm hgm
    have rM : Lw2 w b (.slice f1 f2 f3) (.slice a1 a2 a3) (.slice p1 p2 p3) (.slice q1 q2 q3) (.slice r1 r2 r3) (stO 5 n a (.slice l1 l2 l3) s) wm := rN.st3 hgm hxm hl
    have H3 := Lib.hid hxm
    clear hxm hgm hz3 hz3l
    refine hK.out _ _ ?_ (fun _ => ?_)
    · exact rM
    try simp only [Act.put, List.getElem_toArray, List.getElem_cons_succ, List.getElem_cons_zero]
    have rN := rM
    refine wpAnyH_ready (rs := [3]) (by kernel_rfl) (by simp) ?_
    refine AllReadyH.cons rfl (fun K hK => ?_) AllReadyH.nil
    rw [if_pos (by kernel_rfl)]
    obtain ⟨y0, s0, u01, u02, u03, hz4⟩ := rN.z4
    refine wpStDK (y := b.addr) (s := b.aff) _ _ rfl rfl rfl hz4 rfl rfl rfl ?_; intro wq hxm hgm
    have rM : Lw2 w b (.slice f1 f2 f3) (.slice a1 a2 a3) (.slice p1 p2 p3) (.slice q1 q2 q3) (.slice r1 r2 r3) (stO 5 n a (.slice l1 l2 l3) s) wq := rN.st4 hgm hxm
    have H3' := Lib.hid (blk_grownO H3.out hgm (fun e => by have := Option.some.inj e; omega))
    have H4 := Lib.hid hxm
    clear hxm hgm hz4
    refine hK.out _ _ ?_ (fun _ => ?_)
    · exact rM
    try simp only [Act.put, List.getElem_toArray, List.getElem_cons_succ, List.getElem_cons_zero]
    have rN := rM
    refine wpAnyH_take (i := 4) (v := ?_) rfl (by kernel_rfl) (by kernel_rfl) (by kernel_rfl) (fun _ _ _ h => h) (Or.inl ⟨by rfl, ?_⟩) (by assumption) ?_
    rotate_left
    · intro wS hSw
      (try dsimp only at hSw)
      go_simp
      first | done | with_reducible rfl
    try simp only [Act.put, List.getElem_toArray, List.getElem_cons_succ, List.getElem_cons_zero, List.setIfInBounds_toArray, List.set_cons_zero, List.set_cons_succ]
    refine wpAnyH_done (by kernel_rfl) ?_ _
    go_wp2_with fail
    exact bodyPost_ret (resC rfl rfl rfl (loadVarB H3'.out hl) (loadVarD H4.out)) rfl ⟨b, _, _, _, _, _, rfl, HBo.out.below rN.inp.below, rN.inp.below, fun g _ h => h⟩
set_option maxRecDepth 100000 in
set_option maxHeartbeats 16000000 in
theorem do6_none (b : BlkS) (f1 a1 p1 q1 r1 : Option Addr) (f2 f3 a2 a3 p2 p3 q2 q3 r2 r3 : Nat) (n : Int) (a : PA) (l1 : Option Addr) (l2 l3 : Nat) (l : List Int) (s : ByteArray) (w : World) (hB : Both w b (.slice f1 f2 f3) (.slice a1 a2 a3) (.slice p1 p2 p3) (.slice q1 q2 q3) (.slice r1 r2 r3)) (_ : a.1.size ≤ maxLen) (_ : a.2.size ≤ maxLen) (hls : SeesU w (.slice l1 l2 l3) l) (hlx : ∀ x ∈ l, 0 ≤ x ∧ x < 4294967296) (_ : s.size ≤ maxLen) (he : a.2 = em) :
    Calls Tryz.prog 6 #[.agg (blkL b (.slice f1 f2 f3) (.slice a1 a2 a3)).toArray, docV b.addr b.aff (.slice p1 p2 p3) (.slice q1 q2 q3) (.slice r1 r2 r3), stV 6 n a (.slice l1 l2 l3) s] w (DoP w b (.slice f1 f2 f3) (.slice a1 a2 a3) (.slice p1 p2 p3) (.slice q1 q2 q3) (.slice r1 r2 r3)) := by
  have hl := hB.wf.2.1
  have HBo := Lib.hid hB
  obtain ⟨m, hm1, hm2, hm3, hm4, hm5⟩ := cut80 hls
  have HMM := Lib.hid (And.intro hm1 hm2)
  have HLT := Lib.hid (And.intro hm3 (And.intro hm4 hm5))
  have HLX : Hid (∀ x ∈ l.take m, 0 ≤ x ∧ x < 4294967296) := Lib.hid (fun x hx => hlx x (List.mem_of_mem_take hx))
  have HE := Lib.hid he
  have HS := Lib.hid (Lw0.new w b (.slice f1 f2 f3) (.slice a1 a2 a3) (.slice p1 p2 p3) (.slice q1 q2 q3) (.slice r1 r2 r3) (stO 6 n a (.slice l1 l2 l3) s))
  obtain ⟨X, hX⟩ : ∃ X, X = (((((w.alloc (blkO b (.slice f1 f2 f3) (.slice a1 a2 a3))).alloc (docO b.addr b.aff (.slice p1 p2 p3) (.slice q1 q2 q3) (.slice r1 r2 r3))).alloc (stO 6 n a (.slice l1 l2 l3) s)).alloc (blkO zB NS NS)).alloc (docO 0 ⟨#[]⟩ NS NS NS)) := ⟨_, rfl⟩
  rw [← hX] at HS
  have HW := Lib.hid hX
  clear hm1 hm2 hm3 hm4 hm5 hls hlx hX hB
  clear he
  go_enter Tryz.func6, Tryz.ntmps6
  go_upto_region 1 with fail
  change Code.wp _ _ _ _ (((((w.alloc (blkO b (.slice f1 f2 f3) (.slice a1 a2 a3))).alloc (docO b.addr b.aff (.slice p1 p2 p3) (.slice q1 q2 q3) (.slice r1 r2 r3))).alloc (stO 6 n a (.slice l1 l2 l3) s)).alloc (blkO zB NS NS)).alloc (docO 0 ⟨#[]⟩ NS NS NS))
  rw [← HW.out]
  clear HW
  obtain ⟨cc0, cc1, cc2, cc3, cc4, cc5⟩ := stcells HS.out.inp.attr
  go_upto_if 37 with fail
  go_cut [9] (fun s9 wx => s9 = .slice l1 m l3 ∧ wx = X)
  case first =>
    by_cases h80 : 80 < l2
    · obtain ⟨rfl, hcap, la, rfl⟩ := HMM.out.1 h80
      have hd : decide (80 < (l2 : Int)) = true := decide_eq_true (by omega)
      have hd' : decide (80 < l2) = true := decide_eq_true h80
      go_wp2_with fail
      go_meet
      exact ⟨rfl, rfl⟩
    · obtain rfl := HMM.out.2 h80
      have hd : decide (80 < (m : Int)) = false := decide_eq_false (by omega)
      have hd' : decide (80 < m) = false := decide_eq_false h80
      go_wp2_with fail
      go_meet
      exact ⟨rfl, rfl⟩
  case rest =>
    obtain ⟨rfl, hwc⟩ := hcut
    subst wc
    rw [HE.out] at cc3
    go_upto_region 37 with fail
    clear cc0 cc1 cc2 cc3 cc4 cc5
    have HX := Lib.hid HS.out.to2
    refine wp_region_held_drew (S := (fun Y => Lw2 w b (.slice f1 f2 f3) (.slice a1 a2 a3) (.slice p1 p2 p3) (.slice q1 q2 q3) (.slice r1 r2 r3) (stO 6 n a (.slice l1 l2 l3) s) Y)) (by kernel_rfl) ?_ (fun rN => ?_)
    · exact HX.out.later ⟨rfl, rfl, rfl, Nat.le_refl _, fun _ _ => rfl⟩
    obtain ⟨wn, hwn⟩ : ∃ wn, wn = X.drew := ⟨_, rfl⟩
    rw [← hwn] at rN ⊢
    clear hwn
    have rN : Lw2 w b (.slice f1 f2 f3) (.slice a1 a2 a3) (.slice p1 p2 p3) (.slice q1 q2 q3) (.slice r1 r2 r3) (stO 6 n a (.slice l1 l2 l3) s) wn := rN
    refine wpAnyH_take (i := 0) (v := _) rfl (by kernel_rfl) (by kernel_rfl) (by kernel_rfl) (fun _ _ _ h => h) (ldBIf (by rfl) _ rfl rfl (fun W hW => hW.inp.blk) hl) (by assumption) ?_
    try simp only [Act.put, List.getElem_toArray, List.getElem_cons_zero, List.setIfInBounds_toArray, List.set_cons_zero, List.set_cons_succ]
    refine wpAnyH_take (i := 1) (v := _) rfl (by kernel_rfl) (by kernel_rfl) (by kernel_rfl) (fun _ _ _ h => h) (ldDIf (by rfl) _ rfl rfl (fun W hW => hW.inp.doc) ) (by assumption) ?_
    try simp only [Act.put, List.getElem_toArray, List.getElem_cons_succ, List.getElem_cons_zero, List.setIfInBounds_toArray, List.set_cons_zero, List.set_cons_succ]
    refine wpAnyH_ready (rs := [2]) (by kernel_rfl) (by simp) ?_
    refine AllReadyH.cons rfl (fun K hK => ?_) AllReadyH.nil
    rw [if_pos (by kernel_rfl)]
    obtain ⟨b0, f0, a0, hz3, hz3l⟩ := rN.z3
    refine wpStBK (b := b) _ _ rfl rfl rfl hz3 hz3l hl rfl rfl ?_; intro wm hxm hgm
    have rM : Lw2 w b (.slice f1 f2 f3) (.slice a1 a2 a3) (.slice p1 p2 p3) (.slice q1 q2 q3) (.slice r1 r2 r3) (stO 6 n a (.slice l1 l2 l3) s) wm := rN.st3 hgm hxm hl
    have H3 := Lib.hid hxm
    clear hxm hgm hz3 hz3l
    refine hK.out _ _ ?_ (fun _ => ?_)
    · exact rM
    try simp only [Act.put, List.getElem_toArray, List.getElem_cons_succ, List.getElem_cons_zero]
    have rN := rM
    refine wpAnyH_ready (rs := [3]) (by kernel_rfl) (by simp) ?_
    refine AllReadyH.cons rfl (fun K hK => ?_) AllReadyH.nil
    rw [if_pos (by kernel_rfl)]
    obtain ⟨y0, s0, u01, u02, u03, hz4⟩ := rN.z4
    refine wpStDK (y := b.addr) (s := b.aff) _ _ rfl rfl rfl hz4 rfl rfl rfl ?_; intro wq hxm hgm
    have rM : Lw2 w b (.slice f1 f2 f3) (.slice a1 a2 a3) (.slice p1 p2 p3) (.slice q1 q2 q3) (.slice r1 r2 r3) (stO 6 n a (.slice l1 l2 l3) s) wq := rN.st4 hgm hxm
    have H3' := Lib.hid (blk_grownO H3.out hgm (fun e => by have := Option.some.inj e; omega))
    have H4 := Lib.hid hxm
    clear hxm hgm hz4
    refine hK.out _ _ ?_ (fun _ => ?_)
    · exact rM
    try simp only [Act.put, List.getElem_toArray, List.getElem_cons_succ, List.getElem_cons_zero]
    have rN := rM
    refine wpAnyH_take (i := 4) (v := ?_) rfl (by kernel_rfl) (by kernel_rfl) (by kernel_rfl) (fun _ _ _ h => h) (Or.inl ⟨by rfl, ?_⟩) (by assumption) ?_
    rotate_left
    · intro wS hSw
      (try dsimp only at hSw)
      go_simp
      first | done | with_reducible rfl
    try simp only [Act.put, List.getElem_toArray, List.getElem_cons_succ, List.getElem_cons_zero, List.setIfInBounds_toArray, List.set_cons_zero, List.set_cons_succ]
    refine wpAnyH_done (by kernel_rfl) ?_ _
    go_wp2_with fail
    exact bodyPost_ret (resC rfl rfl rfl (loadVarB H3'.out hl) (loadVarD H4.out)) rfl ⟨b, _, _, _, _, _, rfl, HBo.out.below rN.inp.below, rN.inp.below, fun g _ h => h⟩
end
section
open Go.RowKit
set_option maxRecDepth 100000 in
set_option maxHeartbeats 16000000 in
theorem do4 (b : BlkS) (f1 a1 p1 q1 r1 : Option Addr) (f2 f3 a2 a3 p2 p3 q2 q3 r2 r3 : Nat) (n : Int) (a : PA) (l1 : Option Addr) (l2 l3 : Nat) (l : List Int) (s : ByteArray) (w : World) (hB : Both w b (.slice f1 f2 f3) (.slice a1 a2 a3) (.slice p1 p2 p3) (.slice q1 q2 q3) (.slice r1 r2 r3)) (_ : a.1.size ≤ maxLen) (_ : a.2.size ≤ maxLen) (hls : SeesU w (.slice l1 l2 l3) l) (hlx : ∀ x ∈ l, 0 ≤ x ∧ x < 4294967296) (_ : s.size ≤ maxLen)  :
    Calls Tryz.prog 6 #[.agg (blkL b (.slice f1 f2 f3) (.slice a1 a2 a3)).toArray, docV b.addr b.aff (.slice p1 p2 p3) (.slice q1 q2 q3) (.slice r1 r2 r3), stV 4 n a (.slice l1 l2 l3) s] w (DoP w b (.slice f1 f2 f3) (.slice a1 a2 a3) (.slice p1 p2 p3) (.slice q1 q2 q3) (.slice r1 r2 r3)) := by
  have hl := hB.wf.2.1
  have HBo := Lib.hid hB
  obtain ⟨m, hm1, hm2, hm3, hm4, hm5⟩ := cut80 hls
  have HMM := Lib.hid (And.intro hm1 hm2)
  have HLT := Lib.hid (And.intro hm3 (And.intro hm4 hm5))
  have HLX : Hid (∀ x ∈ l.take m, 0 ≤ x ∧ x < 4294967296) := Lib.hid (fun x hx => hlx x (List.mem_of_mem_take hx))
  have hpos : ∀ x ∈ l.take m, 0 ≤ x := fun x hx => (HLX.out x hx).1
  have hbd := HLX.out
  have hll : (l.take m).length ≤ 80 := by rw [List.length_take]; omega
  obtain ⟨C, hC⟩ : ∃ C, C = tidS (relN (fun _ => true) b (l.take m) (l.take m).length).1 := ⟨_, rfl⟩
  obtain ⟨T, hT⟩ : ∃ T : List Int, T = (relN (fun _ => true) b (l.take m) (l.take m).length).2 := ⟨_, rfl⟩
  obtain ⟨hok1, hok2⟩ := rel_right (fun _ => true) hB.wf hB.right (l := l.take m) hpos
  rw [← hC] at hok1 hok2
  have HCL : Hid (C.sl.length = 64) := Lib.hid hok2.2.1
  have HCB := Lib.hid (And.intro hok2 hok1)
  have hinv := relN_inv (fun _ => true) b (l.take m) hB.wf.2.1 (right_bd hB.wf hB.right).2.2.2 (l.take m).length
  have HCA : Hid (C.addr = b.addr ∧ C.aff = b.aff) := Lib.hid (by rw [hC]; exact ⟨hinv.1, hinv.2.1⟩)
  have HTL : Hid (T.length ≤ maxLen) := Lib.hid (by rw [hT]; have := rel_told (M := fun _ => true) (b := b) (l := l.take m) (l.take m).length; unfold maxLen; omega)
  have HC : Hid (∀ Y, Below w.heap.size w Y → Calls Tryz.prog 21 #[.agg (blkL b (.slice f1 f2 f3) (.slice a1 a2 a3)).toArray, .slice l1 m l3] Y fun e Z => ∃ fo fn fc ao an ac ti tn tc, e = .returned (.tuple #[.agg (blkL C (.slice fo fn fc) (.slice ao an ac)).toArray, .slice ti tn tc, .int .i64 0]) ∧ Owns Z Y.heap.size (.slice fo fn fc) C.free ∧ RowA EAt Z Y.heap.size (.slice ao an ac) C.attrs ∧ OwnsU Z Y.heap.size (.slice ti tn tc) T ∧ Below Y.heap.size Y Z) := Lib.hid (by
    intro Y hY
    have h := release15_any b _ _ (.slice l1 m l3) (l.take m) Y (hB.free.keep hY) (hB.attrs.below hY) hB.wf (hm3.later hY) hbd (by unfold maxLen; omega) hB.right
    skip
    rw [← hC, ← hT] at h
    refine h.mono ?_
    rintro e Z ⟨fv, av, tv, rfl, hr, ht⟩
    obtain ⟨fo, fn, fc, rfl⟩ := own_form hr.free
    obtain ⟨ao, an, ac, rfl⟩ := own_form hr.attrs
    obtain ⟨ti, tn, tc, rfl⟩ := own_form ht
    exact ⟨fo, fn, fc, ao, an, ac, ti, tn, tc, rfl, hr.free, hr.attrs, ht, hr.below⟩)
  have HDA : Hid (∀ Y lv, Below w.heap.size w Y → SeesG 1 encU1 Y lv (l.take m) → Calls Tryz.prog 22 #[docV b.addr b.aff (.slice p1 p2 p3) (.slice q1 q2 q3) (.slice r1 r2 r3), lv] Y fun e w' => ∃ u1 u2 u3 tv, e = .returned (.tuple #[docV b.addr b.aff u1 u2 u3, tv]) ∧ DocOwn Y w' C u1 u2 u3 ∧ RowU1 w' Y.heap.size tv T) := Lib.hid (fun Y lv hY hlv => by
    have h := docRelease_any b _ _ _ lv (l.take m) Y (hB.doc.below hY) hB.wf hB.right hlv hbd (by omega)
    rw [← hC, ← hT] at h
    exact h)
  have HS := Lib.hid (Lw0.new w b (.slice f1 f2 f3) (.slice a1 a2 a3) (.slice p1 p2 p3) (.slice q1 q2 q3) (.slice r1 r2 r3) (stO 4 n a (.slice l1 l2 l3) s))
  obtain ⟨X, hX⟩ : ∃ X, X = (((((w.alloc (blkO b (.slice f1 f2 f3) (.slice a1 a2 a3))).alloc (docO b.addr b.aff (.slice p1 p2 p3) (.slice q1 q2 q3) (.slice r1 r2 r3))).alloc (stO 4 n a (.slice l1 l2 l3) s)).alloc (blkO zB NS NS)).alloc (docO 0 ⟨#[]⟩ NS NS NS)) := ⟨_, rfl⟩
  rw [← hX] at HS
  have HW := Lib.hid hX
  clear hm1 hm2 hm3 hm4 hm5 hls hlx hX hB
  clear hpos hbd hll hC hT hok1 hok2 hinv
  go_enter Tryz.func6, Tryz.ntmps6
  go_upto_region 1 with fail
  change Code.wp _ _ _ _ (((((w.alloc (blkO b (.slice f1 f2 f3) (.slice a1 a2 a3))).alloc (docO b.addr b.aff (.slice p1 p2 p3) (.slice q1 q2 q3) (.slice r1 r2 r3))).alloc (stO 4 n a (.slice l1 l2 l3) s)).alloc (blkO zB NS NS)).alloc (docO 0 ⟨#[]⟩ NS NS NS))
  rw [← HW.out]
  clear HW
  obtain ⟨cc0, cc1, cc2, cc3, cc4, cc5⟩ := stcells HS.out.inp.attr
  go_upto_if 37 with fail
  go_cut [9] (fun s9 wx => s9 = .slice l1 m l3 ∧ wx = X)
  case first =>
    by_cases h80 : 80 < l2
    · obtain ⟨rfl, hcap, la, rfl⟩ := HMM.out.1 h80
      have hd : decide (80 < (l2 : Int)) = true := decide_eq_true (by omega)
      have hd' : decide (80 < l2) = true := decide_eq_true h80
      go_wp2_with fail
      go_meet
      exact ⟨rfl, rfl⟩
    · obtain rfl := HMM.out.2 h80
      have hd : decide (80 < (m : Int)) = false := decide_eq_false (by omega)
      have hd' : decide (80 < m) = false := decide_eq_false h80
      go_wp2_with fail
      go_meet
      exact ⟨rfl, rfl⟩
  case rest =>
    obtain ⟨rfl, hwc⟩ := hcut
    subst wc
    go_upto_region 17 with fail
    go_wp2_with (refine wpLdB rfl _ rfl rfl HS.out.inp.blk hl ?_)
    refine (HC.out _ HS.out.inp.below).mono ?_; rintro e w4 ⟨fo, fn, fc, ao, an, ac, ti, tn, tc, rfl, hfr, hat, hto, hb4⟩
    have HS4 := Lib.hid (HS.out.later hb4)
    have HR := Lib.hid (And.intro (own_le hfr HS.out.inp.size) (And.intro (own_le hat HS.out.inp.size) (own_le hto HS.out.inp.size)))
    have HB4 := Lib.hid (Nat.le_trans HS.out.inp.size hb4.size)
    have HX2 : Hid (BlkAt (w4.alloc (blkO zB NS NS)) w4.heap.size zB NS NS) := Lib.hid (heap_new w4 _)
    clear hfr hat hto hb4 HC HS cc0 cc1 cc2 cc3 cc4 cc5
    go_upto_region 18 with ((change wpList _ _ _ _ _ (w4.alloc (blkO zB NS NS))); refine wpStB (b := C) rfl _ _ rfl rfl rfl HX2.out zB_len HCL.out rfl rfl ?_; intro w5 hx5 hg5)
    obtain ⟨hv5, hb5⟩ := varO_new HR.out.1 HR.out.2.1 hx5 hg5
    have HX : Hid (LwS w b (.slice f1 f2 f3) (.slice a1 a2 a3) (.slice p1 p2 p3) (.slice q1 q2 q3) (.slice r1 r2 r3) (stO 4 n a (.slice l1 l2 l3) s) w4.heap.size C (.slice fo fn fc) (.slice ao an ac) w5) := Lib.hid ((HS4.out.later hb5).toS hv5 HB4.out)
    have HTO := Lib.hid (own_keep HR.out.2.2 hb5)
    clear HS4 HR HB4 HX2 hx5 hg5 hv5 hb5
    obtain ⟨g, hg⟩ : ∃ g, g = w4.heap.size := ⟨_, rfl⟩
    rw [← hg] at HX ⊢
    clear hg
    obtain ⟨X, rfl⟩ : ∃ X, X = w5 := ⟨_, rfl⟩
    go_wp2_with (refine wpLdD rfl _ rfl rfl HX.out.inp.doc ?_)
    refine (HDA.out _ (.slice l1 m l3) HX.out.inp.below (HLT.out.1.later HX.out.inp.below).toG).mono ?_; rintro e w5 ⟨v1, v2, v3, tw, rfl, hdo, ht5⟩
    have hd5 := hdo.sees
    have hb5 := hdo.below
    have hap5 : ∀ g, g < w.heap.size + 5 → ApD g b (.slice p1 p2 p3) (.slice q1 q2 q3) (.slice r1 r2 r3) → ApD g C v1 v2 v3 := fun g hg _ => hdo.ap (Nat.lt_of_lt_of_le hg HX.out.inp.size)
    clear hdo
    obtain ⟨x1, x2, x3, rfl⟩ := seesG_form hd5.slots
    obtain ⟨y1, y2, y3, rfl⟩ := seesG_form hd5.free
    obtain ⟨z1, z2, z3, rfl⟩ := seesG_form hd5.attrs
    obtain ⟨uo, un, uc, rfl⟩ := own_form ht5
    have HX5 := Lib.hid (HX.out.later hb5)
    have HT5 := Lib.hid (own_keep HTO.out hb5)
    have HD5 := Lib.hid (And.intro hd5 (And.intro (own_le ht5 (Nat.le_trans HX.out.inp.size (Nat.le_refl _))) hap5))
    have HB5 := Lib.hid (Nat.le_trans HX.out.inp.size hb5.size)
    have HZ5 : Hid (DocAt (w5.alloc (docO 0 ⟨#[]⟩ NS NS NS)) w5.heap.size 0 ⟨#[]⟩ NS NS NS) := Lib.hid (heap_new w5 _)
    clear hd5 ht5 hap5 hb5 HX HTO
    go_upto_region 19 with ((change wpList _ _ _ _ _ (w5.alloc (docO 0 ⟨#[]⟩ NS NS NS))); refine wpStD (y := b.addr) (s := b.aff) rfl _ _ rfl rfl rfl HZ5.out rfl rfl rfl ?_; intro w6 hx6 hg6)
    have hb6 := docv_new hg6
    have HX := Lib.hid (HX5.out.later hb6)
    have HD : Hid (LwD w w5.heap.size C (.slice x1 x2 x3) (.slice y1 y2 y3) (.slice z1 z2 z3) (.slice ti tn tc) (.slice uo un uc) T w6) := Lib.hid ⟨by rw [HCA.out.1, HCA.out.2]; exact hx6, HD5.out.1.below hb6, HD5.out.2.2 _ (by omega) (HBo.out.doc.ap (by omega)), HD5.out.2.2 _ (by omega) (HBo.out.doc.ap (by omega)), HB5.out, own_keep HT5.out hb6, own_keep HD5.out.2.1 hb6⟩
    have HAP : Hid (∀ g, g < w.heap.size → ApD g b (.slice p1 p2 p3) (.slice q1 q2 q3) (.slice r1 r2 r3) → ApD g C (.slice x1 x2 x3) (.slice y1 y2 y3) (.slice z1 z2 z3)) := Lib.hid (fun g hg ha => HD5.out.2.2 g (by omega) ha)
    clear HX5 HT5 HD5 HB5 HZ5 hx6 hg6 hb6
    obtain ⟨gd, hgd⟩ : ∃ gd, gd = w5.heap.size := ⟨_, rfl⟩
    rw [← hgd] at HD ⊢
    clear hgd
    obtain ⟨X, rfl⟩ : ∃ X, X = w6 := ⟨_, rfl⟩
    refine wp_region_held_drew (S := (fun Y => LwS w b (.slice f1 f2 f3) (.slice a1 a2 a3) (.slice p1 p2 p3) (.slice q1 q2 q3) (.slice r1 r2 r3) (stO 4 n a (.slice l1 l2 l3) s) g C (.slice fo fn fc) (.slice ao an ac) Y ∧ LwD w gd C (.slice x1 x2 x3) (.slice y1 y2 y3) (.slice z1 z2 z3) (.slice ti tn tc) (.slice uo un uc) T Y)) (by kernel_rfl) ?_ (fun rN => ?_)
    · exact ⟨HX.out.later ⟨rfl, rfl, rfl, Nat.le_refl _, fun _ _ => rfl⟩, HD.out.later ⟨rfl, rfl, rfl, Nat.le_refl _, fun _ _ => rfl⟩⟩
    obtain ⟨wn, hwn⟩ : ∃ wn, wn = X.drew := ⟨_, rfl⟩
    rw [← hwn] at rN ⊢
    clear hwn
    have rN : LwS w b (.slice f1 f2 f3) (.slice a1 a2 a3) (.slice p1 p2 p3) (.slice q1 q2 q3) (.slice r1 r2 r3) (stO 4 n a (.slice l1 l2 l3) s) g C (.slice fo fn fc) (.slice ao an ac) wn ∧ LwD w gd C (.slice x1 x2 x3) (.slice y1 y2 y3) (.slice z1 z2 z3) (.slice ti tn tc) (.slice uo un uc) T wn := rN
    refine wpAnyH_take (i := 0) (v := _) rfl (by kernel_rfl) (by kernel_rfl) (by kernel_rfl) (fun _ _ _ h => h) (ldBIf (by rfl) _ rfl rfl (fun W hW => hW.1.c.blk) HCL.out) (by assumption) ?_
    try simp only [Act.put, List.getElem_toArray, List.getElem_cons_zero, List.setIfInBounds_toArray, List.set_cons_zero, List.set_cons_succ]
    refine wpAnyH_take (i := 1) (v := _) rfl (by kernel_rfl) (by kernel_rfl) (by kernel_rfl) (fun _ _ _ h => h) (ldDIf (by rfl) _ rfl rfl (fun W hW => hW.2.doc) ) (by assumption) ?_
    try simp only [Act.put, List.getElem_toArray, List.getElem_cons_succ, List.getElem_cons_zero, List.setIfInBounds_toArray, List.set_cons_zero, List.set_cons_succ]
    refine wpAnyH_take (i := 2) (v := ?_) rfl (by kernel_rfl) (by kernel_rfl) (by kernel_rfl) (fun _ _ _ h => h) (Or.inl ⟨by rfl, ?_⟩) (by assumption) ?_
    rotate_left
    · intro wS hSw
      (try dsimp only at hSw)
      go_simp
      first | done | with_reducible rfl
    try simp only [Act.put, List.getElem_toArray, List.getElem_cons_succ, List.getElem_cons_zero, List.setIfInBounds_toArray, List.set_cons_zero, List.set_cons_succ]
    refine wpAnyH_take (i := 3) (v := ?_) rfl (by kernel_rfl) (by kernel_rfl) (by kernel_rfl) (fun _ _ _ h => h) (Or.inl ⟨by rfl, ?_⟩) (by assumption) ?_
    rotate_left
    · intro wS hSw
      (try dsimp only at hSw)
      go_simp
      first | done | with_reducible rfl
    try simp only [Act.put, List.getElem_toArray, List.getElem_cons_succ, List.getElem_cons_zero, List.setIfInBounds_toArray, List.set_cons_zero, List.set_cons_succ]
    refine wpAnyH_take (i := 4) (v := ?_) rfl (by kernel_rfl) (by kernel_rfl) (by kernel_rfl) (fun _ _ _ h => h) (Or.inl ⟨by rfl, ?_⟩) (by assumption) ?_
    rotate_left
    · intro wS hSw
      (try dsimp only at hSw)
      go_simp
      first | done | with_reducible rfl
    try simp only [Act.put, List.getElem_toArray, List.getElem_cons_succ, List.getElem_cons_zero, List.setIfInBounds_toArray, List.set_cons_zero, List.set_cons_succ]
    refine wpAnyH_take (i := 5) (v := ?_) rfl (by kernel_rfl) (by kernel_rfl) (by kernel_rfl) (fun _ _ _ h => h) (Or.inl ⟨by rfl, ?_⟩) (by assumption) ?_
    rotate_left
    · intro wS hSw
      (try dsimp only at hSw)
      go_simp
      first | done | with_reducible rfl
    try simp only [Act.put, List.getElem_toArray, List.getElem_cons_succ, List.getElem_cons_zero, List.setIfInBounds_toArray, List.set_cons_zero, List.set_cons_succ]
    refine wpAnyH_take (i := 6) (v := ?_) rfl (by kernel_rfl) (by kernel_rfl) (by kernel_rfl) (fun _ _ _ h => h) (Or.inl ⟨by rfl, ?_⟩) (by assumption) ?_
    rotate_left
    · intro wS hSw
      (try dsimp only at hSw)
      go_simp
      first | done | with_reducible rfl
    try simp only [Act.put, List.getElem_toArray, List.getElem_cons_succ, List.getElem_cons_zero, List.setIfInBounds_toArray, List.set_cons_zero, List.set_cons_succ]
    refine wpAnyH_ready (rs := [7]) (by kernel_rfl) (by simp) ?_
    refine AllReadyH.cons rfl (fun K hK => ?_) AllReadyH.nil
    go_simp
    refine (addrs_same ((RowG.sees rN.2.ta.row (fun _ => rfl)).toU) ((RowG.sees rN.2.tb (fun _ => rfl)).toU) HTL.out).mono ?_; rintro z wm ⟨rfl, hbm⟩
    have rM : LwS w b (.slice f1 f2 f3) (.slice a1 a2 a3) (.slice p1 p2 p3) (.slice q1 q2 q3) (.slice r1 r2 r3) (stO 4 n a (.slice l1 l2 l3) s) g C (.slice fo fn fc) (.slice ao an ac) wm ∧ LwD w gd C (.slice x1 x2 x3) (.slice y1 y2 y3) (.slice z1 z2 z3) (.slice ti tn tc) (.slice uo un uc) T wm := ⟨rN.1.later hbm, rN.2.later hbm⟩
    clear hbm
    refine hK.out _ _ ?_ (fun _ => ?_)
    · exact rM
    try simp only [Act.put, List.getElem_toArray, List.getElem_cons_succ, List.getElem_cons_zero, List.setIfInBounds_toArray, List.set_cons_zero, List.set_cons_succ]
    have rN := rM
    refine wpAnyH_take (i := 8) (v := ?_) rfl (by kernel_rfl) (by kernel_rfl) (by kernel_rfl) (fun _ _ _ h => h) (Or.inl ⟨by rfl, ?_⟩) (by assumption) ?_
    rotate_left
    · intro wS hSw
      (try dsimp only at hSw)
      go_simp
      first | done | with_reducible rfl
    try simp only [Act.put, List.getElem_toArray, List.getElem_cons_succ, List.getElem_cons_zero, List.setIfInBounds_toArray, List.set_cons_zero, List.set_cons_succ]
    refine wpAnyH_ready (rs := [9]) (by kernel_rfl) (by simp) ?_
    refine AllReadyH.cons rfl (fun K hK => ?_) AllReadyH.nil
    rw [if_pos (by kernel_rfl)]
    obtain ⟨b0, f0, a0, hz3, hz3l⟩ := rN.1.z3
    refine wpStBK (b := C) _ _ rfl rfl rfl hz3 hz3l HCL.out rfl rfl ?_; intro wq hxm hgm
    have rM : LwS w b (.slice f1 f2 f3) (.slice a1 a2 a3) (.slice p1 p2 p3) (.slice q1 q2 q3) (.slice r1 r2 r3) (stO 4 n a (.slice l1 l2 l3) s) g C (.slice fo fn fc) (.slice ao an ac) wq ∧ LwD w gd C (.slice x1 x2 x3) (.slice y1 y2 y3) (.slice z1 z2 z3) (.slice ti tn tc) (.slice uo un uc) T wq := ⟨rN.1.st3 hgm hxm HCL.out, rN.2.st3 hgm⟩
    have H3 := Lib.hid hxm
    clear hxm hgm hz3 hz3l
    refine hK.out _ _ ?_ (fun _ => ?_)
    · exact rM
    try simp only [Act.put, List.getElem_toArray, List.getElem_cons_succ, List.getElem_cons_zero]
    have rN := rM
    refine wpAnyH_ready (rs := [10]) (by kernel_rfl) (by simp) ?_
    refine AllReadyH.cons rfl (fun K hK => ?_) AllReadyH.nil
    rw [if_pos (by kernel_rfl)]
    obtain ⟨y0, s0, u01, u02, u03, hz4⟩ := rN.1.z4
    refine wpStDK (y := C.addr) (s := C.aff) _ _ rfl rfl rfl hz4 rfl rfl rfl ?_; intro wp hxm hgm
    have rM : LwS w b (.slice f1 f2 f3) (.slice a1 a2 a3) (.slice p1 p2 p3) (.slice q1 q2 q3) (.slice r1 r2 r3) (stO 4 n a (.slice l1 l2 l3) s) g C (.slice fo fn fc) (.slice ao an ac) wp ∧ LwD w gd C (.slice x1 x2 x3) (.slice y1 y2 y3) (.slice z1 z2 z3) (.slice ti tn tc) (.slice uo un uc) T wp := ⟨rN.1.st4 hgm hxm, rN.2.st4 hgm⟩
    have H3' := Lib.hid (blk_grownO H3.out hgm (fun e => by have := Option.some.inj e; omega))
    have H4 := Lib.hid hxm
    clear hxm hgm hz4
    refine hK.out _ _ ?_ (fun _ => ?_)
    · exact rM
    try simp only [Act.put, List.getElem_toArray, List.getElem_cons_succ, List.getElem_cons_zero]
    have rN := rM
    refine wpAnyH_take (i := 11) (v := ?_) rfl (by kernel_rfl) (by kernel_rfl) (by kernel_rfl) (fun _ _ _ h => h) (Or.inl ⟨by rfl, ?_⟩) (by assumption) ?_
    rotate_left
    · intro wS hSw
      (try dsimp only at hSw)
      go_simp
      first | done | with_reducible rfl
    try simp only [Act.put, List.getElem_toArray, List.getElem_cons_succ, List.getElem_cons_zero, List.setIfInBounds_toArray, List.set_cons_zero, List.set_cons_succ]
    refine wpAnyH_done (by kernel_rfl) ?_ _
    go_wp2_with fail
    exact bodyPost_ret (resC rfl rfl rfl (loadVarB H3'.out HCL.out) (loadVarD H4.out)) rfl ⟨C, _, _, _, _, _, rfl, ⟨rN.1.c.free.sees, RowA.sees rN.1.c.attrs, rN.2.sees, HCB.out.1, HCB.out.2⟩, rN.1.inp.below, fun g hg ha => ⟨fun _ e => by have := (World.ownsRow.lt rN.1.c.free g e).1; omega, fun _ e => by have := (World.ownsRow.lt rN.1.c.attrs g e).1; omega, HAP.out g hg ha.2.2⟩⟩
end
section
open Go.RowKit
theorem gv_bd {b : BlkS} (hw : BWf b) (hr : rightB b = true) (hd nd : ByteArray) : ∀ n, n ≤ 64 → ∀ x ∈ gvD b.addr b.sl b.attrs hd nd n, 0 ≤ x ∧ x < 4294967296
  | 0, _ => fun x hx => by cases hx
  | n + 1, hn => fun x hx => by
    have ih := gv_bd hw hr hd nd n (by omega)
    have h64 := (right_bd hw hr).1
    have h1 := hw.1
    unfold gvD at hx
    split at hx
    · rcases List.mem_append.1 hx with h | h
      · exact ih x h
      · have := List.mem_singleton.1 h
        omega
    · rw [List.append_nil] at hx; exact ih x hx
theorem nil_toList {s : ByteArray} : (s.toList == ([] : List UInt8)) = decide (s = em) := by
  rw [str_empty]
  by_cases h : s = em
  · subst h; rfl
  · rw [decide_eq_false h, decide_eq_false]
    intro h2
    apply h
    obtain ⟨⟨l⟩⟩ := s
    cases l with
    | nil => rfl
    | cons a l => exact absurd h2 (by show ¬ (l.length + 1 = 0); omega)
theorem em_nil : (em.toList == ([] : List UInt8)) = true := by rw [nil_toList]; exact decide_eq_true rfl
theorem meantE1 (s : ByteArray) (he : ¬ s = em) : ∀ p : PA, (fun p : PA => decide (p.1 = s)) p = (((s.toList == ([] : List UInt8)) || (p.1.toList == s.toList)) && ((em.toList == ([] : List UInt8)) || (p.2.toList == em.toList))) := fun p => by
  have h1 : (s.toList == ([] : List UInt8)) = false := by rw [nil_toList]; exact decide_eq_false he
  rw [h1, em_nil, str_eq_iff]
  simp
theorem meantE2 (s : ByteArray) (he : ¬ s = em) : ∀ p : PA, (fun p : PA => decide (p.2 = s)) p = (((em.toList == ([] : List UInt8)) || (p.1.toList == em.toList)) && ((s.toList == ([] : List UInt8)) || (p.2.toList == s.toList))) := fun p => by
  have h1 : (s.toList == ([] : List UInt8)) = false := by rw [nil_toList]; exact decide_eq_false he
  rw [h1, em_nil, str_eq_iff (a := p.2) (c := s)]
  simp
theorem ne_em {s : ByteArray} (h : ¬ s = em) : (s.toList == ([] : List UInt8)) = false := by rw [nil_toList]; exact decide_eq_false h
end
end Go.Proofs.YtgodmnpcedfdcaaGreat
