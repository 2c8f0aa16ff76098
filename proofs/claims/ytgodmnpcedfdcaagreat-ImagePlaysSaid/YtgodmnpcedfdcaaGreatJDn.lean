/- Joined: BdNl BdNa. -/
import Derived.Test.YtgodmnpcedfdcaaGreatJDm
import Derived.Test.YtgodmnpcedfdcaaGreatJDl
import Derived.Test.YtgodmnpcedfdcaaGreatJDk
namespace Go.Proofs.YtgodmnpcedfdcaaGreat
section
open Go.RowKit
/-- The laws' assign, of any address, under any attribute. -/
theorem assign15_law (b : BlkS) (fv av v1 v2 v3 : Value) (a : PA) (x : Int) (w : World) (hB : Both w b fv av v1 v2 v3) (h1 : a.1.size ≤ maxLen) (h2 : a.2.size ≤ maxLen) (hx : 0 ≤ x) (hx' : x < 4294967296) :
    Calls Tryz.prog 20 #[.agg (blkL b fv av).toArray, docV b.addr b.aff v1 v2 v3, .int .u32 x, atV a] w (DoP w b fv av v1 v2 v3) := by
  obtain ⟨f1, a1, p1, q1, r1, f2, f3, a2, a3, p2, p3, q2, q3, r2, r3, rfl, rfl, rfl, rfl, rfl⟩ := hB.form
  cases hm : mayP a with
  | false => exact assign15_may b f1 a1 p1 q1 r1 f2 f3 a2 a3 p2 p3 q2 q3 r2 r3 a x w hB h1 h2 hx hx' hm
  | true =>
    cases hi : inB b.addr x with
    | false => exact assign15_in b f1 a1 p1 q1 r1 f2 f3 a2 a3 p2 p3 q2 q3 r2 r3 a x w hB h1 h2 hx hx' hm hi
    | true =>
      by_cases hq : b.sl.getD (x - b.addr).toNat 0 = 0
      · exact assign15_given b f1 a1 p1 q1 r1 f2 f3 a2 a3 p2 p3 q2 q3 r2 r3 a x w hB h1 h2 hx hx' hm hi hq (by unfold undP; rw [if_neg (fun h => h.2 hq)])
      · exact assign15_taken b f1 a1 p1 q1 r1 f2 f3 a2 a3 p2 p3 q2 q3 r2 r3 a x w hB h1 h2 hx hx' hm hi hq (by unfold undP; rw [if_pos ⟨hi, hq⟩])
end
section
open Go.RowKit
set_option maxRecDepth 100000 in
set_option maxHeartbeats 16000000 in
theorem do23 (b : BlkS) (f1 a1 p1 q1 r1 : Option Addr) (f2 f3 a2 a3 p2 p3 q2 q3 r2 r3 : Nat) (k n : Int) (a : PA) (l1 : Option Addr) (l2 l3 : Nat) (l : List Int) (s : ByteArray) (w : World) (hB : Both w b (.slice f1 f2 f3) (.slice a1 a2 a3) (.slice p1 p2 p3) (.slice q1 q2 q3) (.slice r1 r2 r3)) (h1 : a.1.size ≤ maxLen) (h2 : a.2.size ≤ maxLen) (hls : SeesU w (.slice l1 l2 l3) l) (hlx : ∀ x ∈ l, 0 ≤ x ∧ x < 4294967296) (_ : s.size ≤ maxLen) (hk : k = 2 ∨ k = 3) :
    Calls Tryz.prog 6 #[.agg (blkL b (.slice f1 f2 f3) (.slice a1 a2 a3)).toArray, docV b.addr b.aff (.slice p1 p2 p3) (.slice q1 q2 q3) (.slice r1 r2 r3), stV k n a (.slice l1 l2 l3) s] w (DoP w b (.slice f1 f2 f3) (.slice a1 a2 a3) (.slice p1 p2 p3) (.slice q1 q2 q3) (.slice r1 r2 r3)) := by
  have hl := hB.wf.2.1
  have HBo := Lib.hid hB
  obtain ⟨m, hm1, hm2, hm3, hm4, hm5⟩ := cut80 hls
  have HMM := Lib.hid (And.intro hm1 hm2)
  have HLT := Lib.hid (And.intro hm3 (And.intro hm4 hm5))
  have HLX : Hid (∀ x ∈ l.take m, 0 ≤ x ∧ x < 4294967296) := Lib.hid (fun x hx => hlx x (List.mem_of_mem_take hx))
  have HAS : Hid (∀ x Y, 0 ≤ x → x < 4294967296 → Below w.heap.size w Y → Calls Tryz.prog 20 #[.agg (blkL b (.slice f1 f2 f3) (.slice a1 a2 a3)).toArray, docV b.addr b.aff (.slice p1 p2 p3) (.slice q1 q2 q3) (.slice r1 r2 r3), .int .u32 x, atV a] Y (DoP Y b (.slice f1 f2 f3) (.slice a1 a2 a3) (.slice p1 p2 p3) (.slice q1 q2 q3) (.slice r1 r2 r3))) := Lib.hid (fun x Y hx hx' hY => assign15_law b _ _ _ _ _ a x Y (hB.below hY) h1 h2 hx hx')
  have HS := Lib.hid (Lw0.new w b (.slice f1 f2 f3) (.slice a1 a2 a3) (.slice p1 p2 p3) (.slice q1 q2 q3) (.slice r1 r2 r3) (stO k n a (.slice l1 l2 l3) s))
  obtain ⟨X, hX⟩ : ∃ X, X = (((((w.alloc (blkO b (.slice f1 f2 f3) (.slice a1 a2 a3))).alloc (docO b.addr b.aff (.slice p1 p2 p3) (.slice q1 q2 q3) (.slice r1 r2 r3))).alloc (stO k n a (.slice l1 l2 l3) s)).alloc (blkO zB NS NS)).alloc (docO 0 ⟨#[]⟩ NS NS NS)) := ⟨_, rfl⟩
  rw [← hX] at HS
  have HW := Lib.hid hX
  clear hm1 hm2 hm3 hm4 hm5 hls hlx hX hB
  clear h1 h2
  go_enter Tryz.func6, Tryz.ntmps6
  go_upto_region 1 with fail
  change Code.wp _ _ _ _ (((((w.alloc (blkO b (.slice f1 f2 f3) (.slice a1 a2 a3))).alloc (docO b.addr b.aff (.slice p1 p2 p3) (.slice q1 q2 q3) (.slice r1 r2 r3))).alloc (stO k n a (.slice l1 l2 l3) s)).alloc (blkO zB NS NS)).alloc (docO 0 ⟨#[]⟩ NS NS NS))
  rw [← HW.out]
  clear HW
  obtain ⟨cc0, cc1, cc2, cc3, cc4, cc5⟩ := stcells HS.out.inp.attr
  go_upto_if 37 with fail
  go_cut [9] (fun s9 wx => s9 = .slice l1 m l3 ∧ wx = X)
  case first =>
    by_cases h80 : 80 < l2
    · obtain ⟨rfl, hcap, la, rfl⟩ := HMM.out.1 h80
      have hd : decide (80 < (l2 : Int)) = true := decide_eq_true (by omega)
      have hd' : decide (80 < l2) = true := decide_eq_true h80
      go_wp2_with fail
      go_meet
      exact ⟨rfl, rfl⟩
    · obtain rfl := HMM.out.2 h80
      have hd : decide (80 < (m : Int)) = false := decide_eq_false (by omega)
      have hd' : decide (80 < m) = false := decide_eq_false h80
      go_wp2_with fail
      go_meet
      exact ⟨rfl, rfl⟩
  case rest =>
    obtain ⟨rfl, hwc⟩ := hcut
    subst wc
    go_upto_if 42 with fail
    go_cut [42] (fun s42 wx => s42 = .bool false ∧ wx = X)
    case first =>
      rcases hk with rfl | rfl
      · go_wp2_with fail
        go_meet
        exact ⟨rfl, rfl⟩
      · go_wp2_with fail
        go_meet
        exact ⟨rfl, rfl⟩
    case rest =>
      obtain ⟨rfl, hwc⟩ := hcut
      subst wc
      go_upto_if 96 with fail
      go_cut [96] (fun s96 wx => s96 = .bool true ∧ wx = X)
      case first =>
        rcases hk with rfl | rfl
        · go_wp2_with fail
          go_meet
          exact ⟨rfl, rfl⟩
        · go_wp2_with fail
          go_meet
          exact ⟨rfl, rfl⟩
      case rest =>
        obtain ⟨rfl, hwc⟩ := hcut
        subst wc
        by_cases hm0 : 0 < m
        · have HM0 := Lib.hid hm0
          obtain ⟨x, hx⟩ : ∃ x, x = (l.take m).getD 0 0 := ⟨_, rfl⟩
          have HX1 : Hid ((l.take m).getD 0 0 = x) := Lib.hid hx.symm
          have HX0 : Hid (0 ≤ x ∧ x < 4294967296) := Lib.hid (by
            have hlt : 0 < (l.take m).length := by rw [List.length_take]; have := HLT.out.2.2; omega
            rw [hx, List.getD_eq_getElem?_getD, List.getElem?_eq_getElem hlt]
            exact HLX.out _ (List.getElem_mem hlt))
          have dm : decide (0 < (m : Int)) = true := decide_eq_true (by omega)
          have dm' : decide (0 < m) = true := decide_eq_true hm0
          obtain ⟨la, rfl⟩ : ∃ la, l1 = some la := by
            obtain ⟨ao, c, e, -, hn, -⟩ := HLT.out.1
            injection e with e1 e2 e3
            subst e1
            cases l1 with
            | none => have := hn rfl; rw [this] at e2; simp at e2; omega
            | some la => exact ⟨la, rfl⟩
          clear hx hm0
          go_upto_region 15 with fail
          clear cc0 cc1 cc2 cc3 cc4 cc5
          have HX := Lib.hid HS.out.to2
          refine wp_region_held_drew (S := (fun Y => Lw2 w b (.slice f1 f2 f3) (.slice a1 a2 a3) (.slice p1 p2 p3) (.slice q1 q2 q3) (.slice r1 r2 r3) (stO k n a (.slice (some la) l2 l3) s) Y)) (by kernel_rfl) ?_ (fun rN => ?_)
          · exact HX.out.later ⟨rfl, rfl, rfl, Nat.le_refl _, fun _ _ => rfl⟩
          obtain ⟨wn, hwn⟩ : ∃ wn, wn = X.drew := ⟨_, rfl⟩
          rw [← hwn] at rN ⊢
          clear hwn
          have rN : Lw2 w b (.slice f1 f2 f3) (.slice a1 a2 a3) (.slice p1 p2 p3) (.slice q1 q2 q3) (.slice r1 r2 r3) (stO k n a (.slice (some la) l2 l3) s) wn := rN
          refine wpAnyH_take (i := 0) (v := _) rfl (by kernel_rfl) (by kernel_rfl) (by kernel_rfl) (fun _ _ _ h => h) (ldBIf (by rfl) _ rfl rfl (fun W hW => hW.inp.blk) hl) (by assumption) ?_
          try simp only [Act.put, List.getElem_toArray, List.getElem_cons_zero, List.setIfInBounds_toArray, List.set_cons_zero, List.set_cons_succ]
          refine wpAnyH_take (i := 1) (v := _) rfl (by kernel_rfl) (by kernel_rfl) (by kernel_rfl) (fun _ _ _ h => h) (ldDIf (by rfl) _ rfl rfl (fun W hW => hW.inp.doc) ) (by assumption) ?_
          try simp only [Act.put, List.getElem_toArray, List.getElem_cons_succ, List.getElem_cons_zero, List.setIfInBounds_toArray, List.set_cons_zero, List.set_cons_succ]
          refine wpAnyH_take (i := 2) (v := ?_) rfl (by kernel_rfl) (by kernel_rfl) (by kernel_rfl) (fun _ _ _ h => h) (Or.inl ⟨by rfl, ?_⟩) (by assumption) ?_
          rotate_left
          · intro wS hSw
            (try dsimp only at hSw)
            go_simp
            first | done | with_reducible rfl
          try simp only [Act.put, List.getElem_toArray, List.getElem_cons_succ, List.getElem_cons_zero, List.setIfInBounds_toArray, List.set_cons_zero, List.set_cons_succ]
          refine wpAnyH_take (i := 3) (v := .pointer (some la)) rfl (by kernel_rfl) (by kernel_rfl) (by kernel_rfl) (fun _ _ _ h => h) (Or.inl ⟨by rfl, ?_⟩) (by assumption) ?_
          · intro wS hSw
            (try dsimp only at hSw)
            go_simp
            intro h0
            exact absurd h0 (by have := HM0.out; omega)
          try simp only [Act.put, List.getElem_toArray, List.getElem_cons_succ, List.getElem_cons_zero, List.setIfInBounds_toArray, List.set_cons_zero, List.set_cons_succ]
          refine wpAnyH_take (i := 4) (v := ?_) rfl (by kernel_rfl) (by kernel_rfl) (by kernel_rfl) (fun _ _ _ h => h) (Or.inl ⟨by rfl, ?_⟩) (by assumption) ?_
          rotate_left
          · intro wS hSw
            (try dsimp only at hSw)
            have hx0 : wS.cell? la = some (.int .u32 x) := by
              obtain ⟨ao, c, e, -, -, hc⟩ := HLT.out.1.later hSw.inp.below
              injection e with e1 e2 e3
              have h5 := hc la e1.symm 0 (by rw [← e2]; exact HM0.out)
              rw [HX1.out] at h5
              exact h5
            go_simp
            first | done | with_reducible rfl
          try simp only [Act.put, List.getElem_toArray, List.getElem_cons_succ, List.getElem_cons_zero, List.setIfInBounds_toArray, List.set_cons_zero, List.set_cons_succ]
          refine wpAnyH_take (i := 5) (v := ?_) rfl (by kernel_rfl) (by kernel_rfl) (by kernel_rfl) (fun _ _ _ h => h) (Or.inl ⟨by rfl, ?_⟩) (by assumption) ?_
          rotate_left
          · intro wS hSw
            (try dsimp only at hSw)
            go_simp
            first | done | with_reducible rfl
          try simp only [Act.put, List.getElem_toArray, List.getElem_cons_succ, List.getElem_cons_zero, List.setIfInBounds_toArray, List.set_cons_zero, List.set_cons_succ]
          refine wpAnyH_take (i := 6) (v := ?_) rfl (by kernel_rfl) (by kernel_rfl) (by kernel_rfl) (fun _ _ _ h => h) (Or.inl ⟨by rfl, ?_⟩) (by assumption) ?_
          rotate_left
          · intro wS hSw
            (try dsimp only at hSw)
            obtain ⟨m0, m1, m2, m3, m4, m5⟩ := stcells hSw.inp.attr
            go_simp
            first | done | with_reducible rfl
          try simp only [Act.put, List.getElem_toArray, List.getElem_cons_succ, List.getElem_cons_zero, List.setIfInBounds_toArray, List.set_cons_zero, List.set_cons_succ]
          refine wpAnyH_ready (rs := [7]) (by kernel_rfl) (by simp) ?_
          refine AllReadyH.cons rfl (fun K hK => ?_) AllReadyH.nil
          go_simp
          refine (HAS.out x _ HX0.out.1 HX0.out.2 rN.inp.below).mono ?_; rintro z wm ⟨c, gv, bv, u1, u2, u3, rfl, hbo, hbm, hap⟩
          obtain ⟨fo, ao, xo, yo, zo, fn, fc, an, ac, xn, xc, yn, yc, zn, zc, rfl, rfl, rfl, rfl, rfl⟩ := hbo.form
          have hsz := rN.inp.size
          have HBO := Lib.hid hbo
          have hlc := hbo.wf.2.1
          have HA3 := Lib.hid (hap (w.heap.size + 3) (by omega) (HBo.out.ap (by omega)))
          have HA4 := Lib.hid (hap (w.heap.size + 4) (by omega) (HBo.out.ap (by omega)))
          have HAP := Lib.hid (fun g (hg : g < w.heap.size) => hap g (by omega))
          have rM : Lw2 w b (.slice f1 f2 f3) (.slice a1 a2 a3) (.slice p1 p2 p3) (.slice q1 q2 q3) (.slice r1 r2 r3) (stO k n a (.slice (some la) l2 l3) s) wm := rN.later hbm
          clear hbo hbm hap hsz
          refine hK.out _ _ ?_ (fun _ => ?_)
          · exact rM
          try simp only [Act.put, List.getElem_toArray, List.getElem_cons_succ, List.getElem_cons_zero, List.setIfInBounds_toArray, List.set_cons_zero, List.set_cons_succ]
          have rN := rM
          refine wpAnyH_take (i := 8) (v := ?_) rfl (by kernel_rfl) (by kernel_rfl) (by kernel_rfl) (fun _ _ _ h => h) (Or.inl ⟨by rfl, ?_⟩) (by assumption) ?_
          rotate_left
          · intro wS hSw
            (try dsimp only at hSw)
            go_simp
            first | done | with_reducible rfl
          try simp only [Act.put, List.getElem_toArray, List.getElem_cons_succ, List.getElem_cons_zero, List.setIfInBounds_toArray, List.set_cons_zero, List.set_cons_succ]
          refine wpAnyH_take (i := 9) (v := ?_) rfl (by kernel_rfl) (by kernel_rfl) (by kernel_rfl) (fun _ _ _ h => h) (Or.inl ⟨by rfl, ?_⟩) (by assumption) ?_
          rotate_left
          · intro wS hSw
            (try dsimp only at hSw)
            go_simp
            first | done | with_reducible rfl
          try simp only [Act.put, List.getElem_toArray, List.getElem_cons_succ, List.getElem_cons_zero, List.setIfInBounds_toArray, List.set_cons_zero, List.set_cons_succ]
          refine wpAnyH_take (i := 10) (v := ?_) rfl (by kernel_rfl) (by kernel_rfl) (by kernel_rfl) (fun _ _ _ h => h) (Or.inl ⟨by rfl, ?_⟩) (by assumption) ?_
          rotate_left
          · intro wS hSw
            (try dsimp only at hSw)
            go_simp
            first | done | with_reducible rfl
          try simp only [Act.put, List.getElem_toArray, List.getElem_cons_succ, List.getElem_cons_zero, List.setIfInBounds_toArray, List.set_cons_zero, List.set_cons_succ]
          refine wpAnyH_ready (rs := [11]) (by kernel_rfl) (by simp) ?_
          refine AllReadyH.cons rfl (fun K hK => ?_) AllReadyH.nil
          rw [if_pos (by kernel_rfl)]
          obtain ⟨b0, f0, a0, hz3, hz3l⟩ := rN.z3
          refine wpStBK (b := c) _ _ rfl rfl rfl hz3 hz3l hlc rfl rfl ?_; intro wq hxm hgm
          have rM : Lw2 w b (.slice f1 f2 f3) (.slice a1 a2 a3) (.slice p1 p2 p3) (.slice q1 q2 q3) (.slice r1 r2 r3) (stO k n a (.slice (some la) l2 l3) s) wq := rN.st3 hgm hxm hlc
          have H3 := Lib.hid hxm
          have HBO := Lib.hid (HBO.out.grownA HA3.out hgm)
          clear hxm hgm hz3 hz3l
          refine hK.out _ _ ?_ (fun _ => ?_)
          · exact rM
          try simp only [Act.put, List.getElem_toArray, List.getElem_cons_succ, List.getElem_cons_zero]
          have rN := rM
          refine wpAnyH_ready (rs := [12]) (by kernel_rfl) (by simp) ?_
          refine AllReadyH.cons rfl (fun K hK => ?_) AllReadyH.nil
          rw [if_pos (by kernel_rfl)]
          obtain ⟨y0, s0, u01, u02, u03, hz4⟩ := rN.z4
          refine wpStDK (y := c.addr) (s := c.aff) _ _ rfl rfl rfl hz4 rfl rfl rfl ?_; intro wp hxm hgm
          have rM : Lw2 w b (.slice f1 f2 f3) (.slice a1 a2 a3) (.slice p1 p2 p3) (.slice q1 q2 q3) (.slice r1 r2 r3) (stO k n a (.slice (some la) l2 l3) s) wp := rN.st4 hgm hxm
          have H3' := Lib.hid (blk_grownO H3.out hgm (fun e => by have := Option.some.inj e; omega))
          have H4 := Lib.hid hxm
          have HBO := Lib.hid (HBO.out.grownA HA4.out hgm)
          clear hxm hgm hz4
          refine hK.out _ _ ?_ (fun _ => ?_)
          · exact rM
          try simp only [Act.put, List.getElem_toArray, List.getElem_cons_succ, List.getElem_cons_zero]
          have rN := rM
          refine wpAnyH_take (i := 13) (v := ?_) rfl (by kernel_rfl) (by kernel_rfl) (by kernel_rfl) (fun _ _ _ h => h) (Or.inl ⟨by rfl, ?_⟩) (by assumption) ?_
          rotate_left
          · intro wS hSw
            (try dsimp only at hSw)
            go_simp
            first | done | with_reducible rfl
          try simp only [Act.put, List.getElem_toArray, List.getElem_cons_succ, List.getElem_cons_zero, List.setIfInBounds_toArray, List.set_cons_zero, List.set_cons_succ]
          refine wpAnyH_done (by kernel_rfl) ?_ _
          go_wp2_with fail
          exact bodyPost_ret (resC rfl rfl rfl (loadVarB H3'.out hlc) (loadVarD H4.out)) rfl ⟨c, _, _, _, _, _, rfl, HBO.out, rN.inp.below, HAP.out⟩
        · obtain rfl : m = 0 := by omega
          go_upto_region 37 with fail
          clear cc0 cc1 cc2 cc3 cc4 cc5
          have HX := Lib.hid HS.out.to2
          refine wp_region_held_drew (S := (fun Y => Lw2 w b (.slice f1 f2 f3) (.slice a1 a2 a3) (.slice p1 p2 p3) (.slice q1 q2 q3) (.slice r1 r2 r3) (stO k n a (.slice l1 l2 l3) s) Y)) (by kernel_rfl) ?_ (fun rN => ?_)
          · exact HX.out.later ⟨rfl, rfl, rfl, Nat.le_refl _, fun _ _ => rfl⟩
          obtain ⟨wn, hwn⟩ : ∃ wn, wn = X.drew := ⟨_, rfl⟩
          rw [← hwn] at rN ⊢
          clear hwn
          have rN : Lw2 w b (.slice f1 f2 f3) (.slice a1 a2 a3) (.slice p1 p2 p3) (.slice q1 q2 q3) (.slice r1 r2 r3) (stO k n a (.slice l1 l2 l3) s) wn := rN
          refine wpAnyH_take (i := 0) (v := _) rfl (by kernel_rfl) (by kernel_rfl) (by kernel_rfl) (fun _ _ _ h => h) (ldBIf (by rfl) _ rfl rfl (fun W hW => hW.inp.blk) hl) (by assumption) ?_
          try simp only [Act.put, List.getElem_toArray, List.getElem_cons_zero, List.setIfInBounds_toArray, List.set_cons_zero, List.set_cons_succ]
          refine wpAnyH_take (i := 1) (v := _) rfl (by kernel_rfl) (by kernel_rfl) (by kernel_rfl) (fun _ _ _ h => h) (ldDIf (by rfl) _ rfl rfl (fun W hW => hW.inp.doc) ) (by assumption) ?_
          try simp only [Act.put, List.getElem_toArray, List.getElem_cons_succ, List.getElem_cons_zero, List.setIfInBounds_toArray, List.set_cons_zero, List.set_cons_succ]
          refine wpAnyH_ready (rs := [2]) (by kernel_rfl) (by simp) ?_
          refine AllReadyH.cons rfl (fun K hK => ?_) AllReadyH.nil
          rw [if_pos (by kernel_rfl)]
          obtain ⟨b0, f0, a0, hz3, hz3l⟩ := rN.z3
          refine wpStBK (b := b) _ _ rfl rfl rfl hz3 hz3l hl rfl rfl ?_; intro wm hxm hgm
          have rM : Lw2 w b (.slice f1 f2 f3) (.slice a1 a2 a3) (.slice p1 p2 p3) (.slice q1 q2 q3) (.slice r1 r2 r3) (stO k n a (.slice l1 l2 l3) s) wm := rN.st3 hgm hxm hl
          have H3 := Lib.hid hxm
          clear hxm hgm hz3 hz3l
          refine hK.out _ _ ?_ (fun _ => ?_)
          · exact rM
          try simp only [Act.put, List.getElem_toArray, List.getElem_cons_succ, List.getElem_cons_zero]
          have rN := rM
          refine wpAnyH_ready (rs := [3]) (by kernel_rfl) (by simp) ?_
          refine AllReadyH.cons rfl (fun K hK => ?_) AllReadyH.nil
          rw [if_pos (by kernel_rfl)]
          obtain ⟨y0, s0, u01, u02, u03, hz4⟩ := rN.z4
          refine wpStDK (y := b.addr) (s := b.aff) _ _ rfl rfl rfl hz4 rfl rfl rfl ?_; intro wq hxm hgm
          have rM : Lw2 w b (.slice f1 f2 f3) (.slice a1 a2 a3) (.slice p1 p2 p3) (.slice q1 q2 q3) (.slice r1 r2 r3) (stO k n a (.slice l1 l2 l3) s) wq := rN.st4 hgm hxm
          have H3' := Lib.hid (blk_grownO H3.out hgm (fun e => by have := Option.some.inj e; omega))
          have H4 := Lib.hid hxm
          clear hxm hgm hz4
          refine hK.out _ _ ?_ (fun _ => ?_)
          · exact rM
          try simp only [Act.put, List.getElem_toArray, List.getElem_cons_succ, List.getElem_cons_zero]
          have rN := rM
          refine wpAnyH_take (i := 4) (v := ?_) rfl (by kernel_rfl) (by kernel_rfl) (by kernel_rfl) (fun _ _ _ h => h) (Or.inl ⟨by rfl, ?_⟩) (by assumption) ?_
          rotate_left
          · intro wS hSw
            (try dsimp only at hSw)
            go_simp
            first | done | with_reducible rfl
          try simp only [Act.put, List.getElem_toArray, List.getElem_cons_succ, List.getElem_cons_zero, List.setIfInBounds_toArray, List.set_cons_zero, List.set_cons_succ]
          refine wpAnyH_done (by kernel_rfl) ?_ _
          go_wp2_with fail
          exact bodyPost_ret (resC rfl rfl rfl (loadVarB H3'.out hl) (loadVarD H4.out)) rfl ⟨b, _, _, _, _, _, rfl, HBo.out.below rN.inp.below, rN.inp.below, fun g _ h => h⟩
end
end Go.Proofs.YtgodmnpcedfdcaaGreat
