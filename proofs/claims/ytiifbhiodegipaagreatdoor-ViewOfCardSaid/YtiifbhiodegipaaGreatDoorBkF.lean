/- Package block: Right, whole. -/
import Derived.Test.YtiifbhiodegipaaGreatDoorSq
import Derived.Test.YtiifbhiodegipaaGreatDoorBkD
namespace Go.Proofs.YtiifbhiodegipaaGreatDoor
open Go.RowKit Go.Maps
def rightB (b : BlkS) : Bool := decide (b.addr % 64 = 0) && (ownB b.aff && (rightA b.attrs && (rightS b && rightF b)))
theorem BlkIs.form {w : World} {cs : Array Value} {b : BlkS} (h : BlkIs w cs b) : ∃ fv av, cs = (blkL b fv av).toArray ∧ Sees w fv b.free ∧ SeesA w av b.attrs ∧ BWf b := h
set_option maxRecDepth 100000 in
set_option maxHeartbeats 8000000 in
theorem rightBlk_any (cs : Array Value) (b : BlkS) (w : World) (h : BlkIs w cs b) : Calls Tryz.prog 64 #[.agg cs] w fun e w' => e = .returned (.bool (rightB b)) ∧ Below w.heap.size w w' := by
  obtain ⟨fv, av, rfl, hfr, hat, ⟨ha, ha'⟩, hl, hok, hfo, hsz, hfl, hal, hps⟩ := h
  obtain ⟨w1, hw1⟩ : ∃ w1, w1 = w.alloc (.cells (blkL b fv av).toArray 59) := ⟨_, rfl⟩
  have hx : BlkAt w1 w.heap.size b fv av := by rw [hw1]; exact BlkAt.new w b fv av
  have hb : Below w.heap.size w w1 := by rw [hw1]; exact belNew w _
  have c0 := hx.addr
  have c1 := hx.aff
  have c67 := hx.attrs hl
  have HX := Lib.hid hx
  have HBW := Lib.hid (And.intro hb (And.intro (hfr.keep hb) (And.intro (hat.below hb) trivial)))
  have HFI := Lib.hid (fun w => first_any b.addr ha ha' w)
  have HOW := Lib.hid (fun w => mayOwn_any b.aff hsz w)
  have HAT := Lib.hid (fun (w : World) (h : SeesA w av b.attrs) => rightAttrs_any av b.attrs w h hal hps)
  have HSL := Lib.hid (fun (w2 : World) (hb2 : Below w1.heap.size w1 w2) => rightSlots_any b fv av w2 hl hok ((hat.below hb).below hb2) hal)
  have HFR := Lib.hid (fun (w2 : World) (hb2 : Below w1.heap.size w1 w2) => rightFree_any b fv av w2 hl ((hfr.keep hb).keep hb2) hfo hfl)
  obtain ⟨R, hR⟩ : ∃ R, R = rightB b := ⟨_, rfl⟩
  rw [← hR]
  have HRR := Lib.hid hR
  clear hx hb hfr hat hR
  go_enter Tryz.func64, Tryz.ntmps64
  go_upto_region 1 with fail
  change Code.wp _ _ _ _ (w.alloc (.cells (blkL b fv av).toArray 59))
  rw [← hw1]
  clear hw1
  by_cases h0 : b.addr % 64 = 0
  · have dq : (b.addr == b.addr - b.addr % 64) = true := by rw [h0]; simp
    cases v1 : ownB b.aff with
    | true =>
      have HV1 := Lib.hid v1
      cases v2 : rightA b.attrs with
      | true =>
        have HV2 := Lib.hid v2
        cases v3 : rightS b with
        | true =>
          have HV3 := Lib.hid v3
          have HF : Hid (R = rightF b) := Lib.hid (by rw [HRR.out]; unfold rightB; rw [decide_eq_true h0, v1, v2, v3]; rfl)
          clear v1 v2 v3 h0
          generalize rightF b = q at HFR HF
          refine wp_region_held_drew (S := (fun W => Below w1.heap.size w1 W)) (by kernel_rfl) ?_ (fun r0 => ?_)
          · exact ⟨rfl, rfl, rfl, Nat.le_refl _, fun _ _ => rfl⟩
          refine tk 0 rfl ?_
          try simp only [Act.put, List.getElem_toArray, List.getElem_cons_zero, List.setIfInBounds_toArray, List.set_cons_zero, List.set_cons_succ]
          refine tq (v := ?_) 1 rfl ?_ ?_
          rotate_left
          · intro wS hSw
            (try dsimp only at hSw)
            have c0 := bcellB hSw c0
            have c1 := bcellB hSw c1
            have c67 := bcellB hSw c67
            go_simp
            first | done | with_reducible rfl
          try simp only [Act.put, qA, qB, qC, qD, qE, qF]
          refine tk 2 rfl ?_
          try simp only [Act.put, qA, qB, qC, qD, qE, qF]
          refine tq (v := ?_) 3 rfl ?_ ?_
          rotate_left
          · intro wS hSw
            (try dsimp only at hSw)
            have c0 := bcellB hSw c0
            have c1 := bcellB hSw c1
            have c67 := bcellB hSw c67
            go_simp
            first | done | with_reducible rfl
          try simp only [Act.put, qA, qB, qC, qD, qE, qF]
          refine wpAnyH_ready (rs := [4]) (by kernel_rfl) (by simp) ?_
          refine AllReadyH.cons rfl (fun K hK => ?_) AllReadyH.nil
          go_simp
          refine (HFI.out _).mono ?_; rintro x wz ⟨rfl, hb42⟩
          refine hK.out _ _ ?_ (fun r1 => ?_)
          · exact bel r0 hb42
          try simp only [Act.put, qA, qB, qC, qD, qE, qF]
          refine tk 5 rfl ?_
          try simp only [Act.put, qA, qB, qC, qD, qE, qF]
          refine tk 6 rfl ?_
          try simp only [Act.put, qA, qB, qC, qD, qE, qF]
          refine tk 7 rfl ?_
          try simp only [Act.put, qA, qB, qC, qD, qE, qF]
          refine tq (v := ?_) 8 rfl ?_ ?_
          rotate_left
          · intro wS hSw
            (try dsimp only at hSw)
            have c0 := bcellB hSw c0
            have c1 := bcellB hSw c1
            have c67 := bcellB hSw c67
            go_simp
            first | done | with_reducible rfl
          try simp only [Act.put, qA, qB, qC, qD, qE, qF]
          refine wpAnyH_ready (rs := [9]) (by kernel_rfl) (by simp) ?_
          refine AllReadyH.cons rfl (fun K hK => ?_) AllReadyH.nil
          go_simp
          refine (HOW.out _).mono ?_; rintro x wo ⟨hx43, hb43⟩; rw [HV1.out] at hx43; subst hx43
          refine hK.out _ _ ?_ (fun r2 => ?_)
          · exact bel r1 hb43
          try simp only [Act.put, qA, qB, qC, qD, qE, qF]
          refine tk 10 rfl ?_
          try simp only [Act.put, qA, qB, qC, qD, qE, qF]
          refine tk 11 rfl ?_
          try simp only [Act.put, qA, qB, qC, qD, qE, qF]
          refine tk 12 rfl ?_
          try simp only [Act.put, qA, qB, qC, qD, qE, qF]
          refine tq (v := ?_) 13 rfl ?_ ?_
          rotate_left
          · intro wS hSw
            (try dsimp only at hSw)
            have c0 := bcellB hSw c0
            have c1 := bcellB hSw c1
            have c67 := bcellB hSw c67
            go_simp
            first | done | with_reducible rfl
          try simp only [Act.put, qA, qB, qC, qD, qE, qF]
          refine wpAnyH_ready (rs := [14]) (by kernel_rfl) (by simp) ?_
          refine AllReadyH.cons rfl (fun K hK => ?_) AllReadyH.nil
          go_simp
          refine (HAT.out _ (HBW.out.2.2.1.below r2)).mono ?_; rintro x wa ⟨hx44, hb44⟩; rw [HV2.out] at hx44; subst hx44
          refine hK.out _ _ ?_ (fun r3 => ?_)
          · exact bel r2 hb44
          try simp only [Act.put, qA, qB, qC, qD, qE, qF]
          refine tk 15 rfl ?_
          try simp only [Act.put, qA, qB, qC, qD, qE, qF]
          refine tk 16 rfl ?_
          try simp only [Act.put, qA, qB, qC, qD, qE, qF]
          refine wpAnyH_take (i := 17) (v := _) rfl (by kernel_rfl) (by kernel_rfl) (by kernel_rfl) (fun _ _ _ h => h) (ldBIf (by rfl) _ rfl rfl (fun W hW => HX.out.below hW) hl) (by assumption) ?_
          try simp only [Act.put, qA, qB, qC, qD, qE, qF]
          refine wpAnyH_ready (rs := [18]) (by kernel_rfl) (by simp) ?_
          refine AllReadyH.cons rfl (fun K hK => ?_) AllReadyH.nil
          go_simp
          refine (HSL.out _ r3).mono ?_; rintro x ws ⟨hx45, hb45⟩; rw [HV3.out] at hx45; subst hx45
          refine hK.out _ _ ?_ (fun r4 => ?_)
          · exact bel r3 hb45
          try simp only [Act.put, qA, qB, qC, qD, qE, qF]
          refine tk 19 rfl ?_
          try simp only [Act.put, qA, qB, qC, qD, qE, qF]
          refine tk 20 rfl ?_
          try simp only [Act.put, qA, qB, qC, qD, qE, qF]
          refine wpAnyH_take (i := 21) (v := _) rfl (by kernel_rfl) (by kernel_rfl) (by kernel_rfl) (fun _ _ _ h => h) (ldBIf (by rfl) _ rfl rfl (fun W hW => HX.out.below hW) hl) (by assumption) ?_
          try simp only [Act.put, qA, qB, qC, qD, qE, qF]
          refine wpAnyH_ready (rs := [22]) (by kernel_rfl) (by simp) ?_
          refine AllReadyH.cons rfl (fun K hK => ?_) AllReadyH.nil
          go_simp
          refine (HFR.out _ r4).mono ?_; rintro x wf ⟨rfl, hb46⟩
          refine hK.out _ _ ?_ (fun r5 => ?_)
          · exact bel r4 hb46
          try simp only [Act.put, qA, qB, qC, qD, qE, qF]
          refine tk 23 rfl ?_
          try simp only [Act.put, qA, qB, qC, qD, qE, qF]
          refine tk 24 rfl ?_
          try simp only [Act.put, qA, qB, qC, qD, qE, qF]
          refine wpAnyH_done (by kernel_rfl) ?_ _
          have HBE := Lib.hid (HBW.out.1.trans (r5.mono HBW.out.1.size))
          clear r0 c0 c1 c67
          go_wp2_with fail
          go_ret
          exact ⟨by rw [HF.out]; rfl, HBE.out⟩
        | false =>
          have HV3 := Lib.hid v3
          have HF : Hid (R = false) := Lib.hid (by rw [HRR.out]; unfold rightB; rw [decide_eq_true h0, v1, v2, v3]; rfl)
          clear v1 v2 v3 h0
          refine wp_region_held_drew (S := (fun W => Below w1.heap.size w1 W)) (by kernel_rfl) ?_ (fun r0 => ?_)
          · exact ⟨rfl, rfl, rfl, Nat.le_refl _, fun _ _ => rfl⟩
          refine tk 0 rfl ?_
          try simp only [Act.put, List.getElem_toArray, List.getElem_cons_zero, List.setIfInBounds_toArray, List.set_cons_zero, List.set_cons_succ]
          refine tq (v := ?_) 1 rfl ?_ ?_
          rotate_left
          · intro wS hSw
            (try dsimp only at hSw)
            have c0 := bcellB hSw c0
            have c1 := bcellB hSw c1
            have c67 := bcellB hSw c67
            go_simp
            first | done | with_reducible rfl
          try simp only [Act.put, qA, qB, qC, qD, qE, qF]
          refine tk 2 rfl ?_
          try simp only [Act.put, qA, qB, qC, qD, qE, qF]
          refine tq (v := ?_) 3 rfl ?_ ?_
          rotate_left
          · intro wS hSw
            (try dsimp only at hSw)
            have c0 := bcellB hSw c0
            have c1 := bcellB hSw c1
            have c67 := bcellB hSw c67
            go_simp
            first | done | with_reducible rfl
          try simp only [Act.put, qA, qB, qC, qD, qE, qF]
          refine wpAnyH_ready (rs := [4]) (by kernel_rfl) (by simp) ?_
          refine AllReadyH.cons rfl (fun K hK => ?_) AllReadyH.nil
          go_simp
          refine (HFI.out _).mono ?_; rintro x wz ⟨rfl, hb42⟩
          refine hK.out _ _ ?_ (fun r1 => ?_)
          · exact bel r0 hb42
          try simp only [Act.put, qA, qB, qC, qD, qE, qF]
          refine tk 5 rfl ?_
          try simp only [Act.put, qA, qB, qC, qD, qE, qF]
          refine tk 6 rfl ?_
          try simp only [Act.put, qA, qB, qC, qD, qE, qF]
          refine tk 7 rfl ?_
          try simp only [Act.put, qA, qB, qC, qD, qE, qF]
          refine tq (v := ?_) 8 rfl ?_ ?_
          rotate_left
          · intro wS hSw
            (try dsimp only at hSw)
            have c0 := bcellB hSw c0
            have c1 := bcellB hSw c1
            have c67 := bcellB hSw c67
            go_simp
            first | done | with_reducible rfl
          try simp only [Act.put, qA, qB, qC, qD, qE, qF]
          refine wpAnyH_ready (rs := [9]) (by kernel_rfl) (by simp) ?_
          refine AllReadyH.cons rfl (fun K hK => ?_) AllReadyH.nil
          go_simp
          refine (HOW.out _).mono ?_; rintro x wo ⟨hx43, hb43⟩; rw [HV1.out] at hx43; subst hx43
          refine hK.out _ _ ?_ (fun r2 => ?_)
          · exact bel r1 hb43
          try simp only [Act.put, qA, qB, qC, qD, qE, qF]
          refine tk 10 rfl ?_
          try simp only [Act.put, qA, qB, qC, qD, qE, qF]
          refine tk 11 rfl ?_
          try simp only [Act.put, qA, qB, qC, qD, qE, qF]
          refine tk 12 rfl ?_
          try simp only [Act.put, qA, qB, qC, qD, qE, qF]
          refine tq (v := ?_) 13 rfl ?_ ?_
          rotate_left
          · intro wS hSw
            (try dsimp only at hSw)
            have c0 := bcellB hSw c0
            have c1 := bcellB hSw c1
            have c67 := bcellB hSw c67
            go_simp
            first | done | with_reducible rfl
          try simp only [Act.put, qA, qB, qC, qD, qE, qF]
          refine wpAnyH_ready (rs := [14]) (by kernel_rfl) (by simp) ?_
          refine AllReadyH.cons rfl (fun K hK => ?_) AllReadyH.nil
          go_simp
          refine (HAT.out _ (HBW.out.2.2.1.below r2)).mono ?_; rintro x wa ⟨hx44, hb44⟩; rw [HV2.out] at hx44; subst hx44
          refine hK.out _ _ ?_ (fun r3 => ?_)
          · exact bel r2 hb44
          try simp only [Act.put, qA, qB, qC, qD, qE, qF]
          refine tk 15 rfl ?_
          try simp only [Act.put, qA, qB, qC, qD, qE, qF]
          refine tk 16 rfl ?_
          try simp only [Act.put, qA, qB, qC, qD, qE, qF]
          refine wpAnyH_take (i := 17) (v := _) rfl (by kernel_rfl) (by kernel_rfl) (by kernel_rfl) (fun _ _ _ h => h) (ldBIf (by rfl) _ rfl rfl (fun W hW => HX.out.below hW) hl) (by assumption) ?_
          try simp only [Act.put, qA, qB, qC, qD, qE, qF]
          refine wpAnyH_ready (rs := [18]) (by kernel_rfl) (by simp) ?_
          refine AllReadyH.cons rfl (fun K hK => ?_) AllReadyH.nil
          go_simp
          refine (HSL.out _ r3).mono ?_; rintro x ws ⟨hx45, hb45⟩; rw [HV3.out] at hx45; subst hx45
          refine hK.out _ _ ?_ (fun r4 => ?_)
          · exact bel r3 hb45
          try simp only [Act.put, qA, qB, qC, qD, qE, qF]
          refine tk 19 rfl ?_
          try simp only [Act.put, qA, qB, qC, qD, qE, qF]
          refine tk 20 rfl ?_
          try simp only [Act.put, qA, qB, qC, qD, qE, qF]
          refine sk 21 rfl ?_
          try simp only [Act.put, qA, qB, qC, qD, qE, qF]
          refine sk 22 rfl ?_
          try simp only [Act.put, qA, qB, qC, qD, qE, qF]
          refine tk 23 rfl ?_
          try simp only [Act.put, qA, qB, qC, qD, qE, qF]
          refine tk 24 rfl ?_
          try simp only [Act.put, qA, qB, qC, qD, qE, qF]
          refine wpAnyH_done (by kernel_rfl) ?_ _
          have HBE := Lib.hid (HBW.out.1.trans (r4.mono HBW.out.1.size))
          clear r0 c0 c1 c67
          go_wp2_with fail
          go_ret
          exact ⟨by rw [HF.out]; rfl, HBE.out⟩
      | false =>
        have HV2 := Lib.hid v2
        have HF : Hid (R = false) := Lib.hid (by rw [HRR.out]; unfold rightB; rw [decide_eq_true h0, v1, v2]; rfl)
        clear v1 v2 h0
        refine wp_region_held_drew (S := (fun W => Below w1.heap.size w1 W)) (by kernel_rfl) ?_ (fun r0 => ?_)
        · exact ⟨rfl, rfl, rfl, Nat.le_refl _, fun _ _ => rfl⟩
        refine tk 0 rfl ?_
        try simp only [Act.put, List.getElem_toArray, List.getElem_cons_zero, List.setIfInBounds_toArray, List.set_cons_zero, List.set_cons_succ]
        refine tq (v := ?_) 1 rfl ?_ ?_
        rotate_left
        · intro wS hSw
          (try dsimp only at hSw)
          have c0 := bcellB hSw c0
          have c1 := bcellB hSw c1
          have c67 := bcellB hSw c67
          go_simp
          first | done | with_reducible rfl
        try simp only [Act.put, qA, qB, qC, qD, qE, qF]
        refine tk 2 rfl ?_
        try simp only [Act.put, qA, qB, qC, qD, qE, qF]
        refine tq (v := ?_) 3 rfl ?_ ?_
        rotate_left
        · intro wS hSw
          (try dsimp only at hSw)
          have c0 := bcellB hSw c0
          have c1 := bcellB hSw c1
          have c67 := bcellB hSw c67
          go_simp
          first | done | with_reducible rfl
        try simp only [Act.put, qA, qB, qC, qD, qE, qF]
        refine wpAnyH_ready (rs := [4]) (by kernel_rfl) (by simp) ?_
        refine AllReadyH.cons rfl (fun K hK => ?_) AllReadyH.nil
        go_simp
        refine (HFI.out _).mono ?_; rintro x wz ⟨rfl, hb42⟩
        refine hK.out _ _ ?_ (fun r1 => ?_)
        · exact bel r0 hb42
        try simp only [Act.put, qA, qB, qC, qD, qE, qF]
        refine tk 5 rfl ?_
        try simp only [Act.put, qA, qB, qC, qD, qE, qF]
        refine tk 6 rfl ?_
        try simp only [Act.put, qA, qB, qC, qD, qE, qF]
        refine tk 7 rfl ?_
        try simp only [Act.put, qA, qB, qC, qD, qE, qF]
        refine tq (v := ?_) 8 rfl ?_ ?_
        rotate_left
        · intro wS hSw
          (try dsimp only at hSw)
          have c0 := bcellB hSw c0
          have c1 := bcellB hSw c1
          have c67 := bcellB hSw c67
          go_simp
          first | done | with_reducible rfl
        try simp only [Act.put, qA, qB, qC, qD, qE, qF]
        refine wpAnyH_ready (rs := [9]) (by kernel_rfl) (by simp) ?_
        refine AllReadyH.cons rfl (fun K hK => ?_) AllReadyH.nil
        go_simp
        refine (HOW.out _).mono ?_; rintro x wo ⟨hx43, hb43⟩; rw [HV1.out] at hx43; subst hx43
        refine hK.out _ _ ?_ (fun r2 => ?_)
        · exact bel r1 hb43
        try simp only [Act.put, qA, qB, qC, qD, qE, qF]
        refine tk 10 rfl ?_
        try simp only [Act.put, qA, qB, qC, qD, qE, qF]
        refine tk 11 rfl ?_
        try simp only [Act.put, qA, qB, qC, qD, qE, qF]
        refine tk 12 rfl ?_
        try simp only [Act.put, qA, qB, qC, qD, qE, qF]
        refine tq (v := ?_) 13 rfl ?_ ?_
        rotate_left
        · intro wS hSw
          (try dsimp only at hSw)
          have c0 := bcellB hSw c0
          have c1 := bcellB hSw c1
          have c67 := bcellB hSw c67
          go_simp
          first | done | with_reducible rfl
        try simp only [Act.put, qA, qB, qC, qD, qE, qF]
        refine wpAnyH_ready (rs := [14]) (by kernel_rfl) (by simp) ?_
        refine AllReadyH.cons rfl (fun K hK => ?_) AllReadyH.nil
        go_simp
        refine (HAT.out _ (HBW.out.2.2.1.below r2)).mono ?_; rintro x wa ⟨hx44, hb44⟩; rw [HV2.out] at hx44; subst hx44
        refine hK.out _ _ ?_ (fun r3 => ?_)
        · exact bel r2 hb44
        try simp only [Act.put, qA, qB, qC, qD, qE, qF]
        refine tk 15 rfl ?_
        try simp only [Act.put, qA, qB, qC, qD, qE, qF]
        refine tk 16 rfl ?_
        try simp only [Act.put, qA, qB, qC, qD, qE, qF]
        refine sk 17 rfl ?_
        try simp only [Act.put, qA, qB, qC, qD, qE, qF]
        refine sk 18 rfl ?_
        try simp only [Act.put, qA, qB, qC, qD, qE, qF]
        refine tk 19 rfl ?_
        try simp only [Act.put, qA, qB, qC, qD, qE, qF]
        refine tk 20 rfl ?_
        try simp only [Act.put, qA, qB, qC, qD, qE, qF]
        refine sk 21 rfl ?_
        try simp only [Act.put, qA, qB, qC, qD, qE, qF]
        refine sk 22 rfl ?_
        try simp only [Act.put, qA, qB, qC, qD, qE, qF]
        refine tk 23 rfl ?_
        try simp only [Act.put, qA, qB, qC, qD, qE, qF]
        refine tk 24 rfl ?_
        try simp only [Act.put, qA, qB, qC, qD, qE, qF]
        refine wpAnyH_done (by kernel_rfl) ?_ _
        have HBE := Lib.hid (HBW.out.1.trans (r3.mono HBW.out.1.size))
        clear r0 c0 c1 c67
        go_wp2_with fail
        go_ret
        exact ⟨by rw [HF.out]; rfl, HBE.out⟩
    | false =>
      have HV1 := Lib.hid v1
      have HF : Hid (R = false) := Lib.hid (by rw [HRR.out]; unfold rightB; rw [decide_eq_true h0, v1]; rfl)
      clear v1 h0
      refine wp_region_held_drew (S := (fun W => Below w1.heap.size w1 W)) (by kernel_rfl) ?_ (fun r0 => ?_)
      · exact ⟨rfl, rfl, rfl, Nat.le_refl _, fun _ _ => rfl⟩
      refine tk 0 rfl ?_
      try simp only [Act.put, List.getElem_toArray, List.getElem_cons_zero, List.setIfInBounds_toArray, List.set_cons_zero, List.set_cons_succ]
      refine tq (v := ?_) 1 rfl ?_ ?_
      rotate_left
      · intro wS hSw
        (try dsimp only at hSw)
        have c0 := bcellB hSw c0
        have c1 := bcellB hSw c1
        have c67 := bcellB hSw c67
        go_simp
        first | done | with_reducible rfl
      try simp only [Act.put, qA, qB, qC, qD, qE, qF]
      refine tk 2 rfl ?_
      try simp only [Act.put, qA, qB, qC, qD, qE, qF]
      refine tq (v := ?_) 3 rfl ?_ ?_
      rotate_left
      · intro wS hSw
        (try dsimp only at hSw)
        have c0 := bcellB hSw c0
        have c1 := bcellB hSw c1
        have c67 := bcellB hSw c67
        go_simp
        first | done | with_reducible rfl
      try simp only [Act.put, qA, qB, qC, qD, qE, qF]
      refine wpAnyH_ready (rs := [4]) (by kernel_rfl) (by simp) ?_
      refine AllReadyH.cons rfl (fun K hK => ?_) AllReadyH.nil
      go_simp
      refine (HFI.out _).mono ?_; rintro x wz ⟨rfl, hb42⟩
      refine hK.out _ _ ?_ (fun r1 => ?_)
      · exact bel r0 hb42
      try simp only [Act.put, qA, qB, qC, qD, qE, qF]
      refine tk 5 rfl ?_
      try simp only [Act.put, qA, qB, qC, qD, qE, qF]
      refine tk 6 rfl ?_
      try simp only [Act.put, qA, qB, qC, qD, qE, qF]
      refine tk 7 rfl ?_
      try simp only [Act.put, qA, qB, qC, qD, qE, qF]
      refine tq (v := ?_) 8 rfl ?_ ?_
      rotate_left
      · intro wS hSw
        (try dsimp only at hSw)
        have c0 := bcellB hSw c0
        have c1 := bcellB hSw c1
        have c67 := bcellB hSw c67
        go_simp
        first | done | with_reducible rfl
      try simp only [Act.put, qA, qB, qC, qD, qE, qF]
      refine wpAnyH_ready (rs := [9]) (by kernel_rfl) (by simp) ?_
      refine AllReadyH.cons rfl (fun K hK => ?_) AllReadyH.nil
      go_simp
      refine (HOW.out _).mono ?_; rintro x wo ⟨hx43, hb43⟩; rw [HV1.out] at hx43; subst hx43
      refine hK.out _ _ ?_ (fun r2 => ?_)
      · exact bel r1 hb43
      try simp only [Act.put, qA, qB, qC, qD, qE, qF]
      refine tk 10 rfl ?_
      try simp only [Act.put, qA, qB, qC, qD, qE, qF]
      refine tk 11 rfl ?_
      try simp only [Act.put, qA, qB, qC, qD, qE, qF]
      refine sk 12 rfl ?_
      try simp only [Act.put, qA, qB, qC, qD, qE, qF]
      refine sk 13 rfl ?_
      try simp only [Act.put, qA, qB, qC, qD, qE, qF]
      refine sk 14 rfl ?_
      try simp only [Act.put, qA, qB, qC, qD, qE, qF]
      refine tk 15 rfl ?_
      try simp only [Act.put, qA, qB, qC, qD, qE, qF]
      refine tk 16 rfl ?_
      try simp only [Act.put, qA, qB, qC, qD, qE, qF]
      refine sk 17 rfl ?_
      try simp only [Act.put, qA, qB, qC, qD, qE, qF]
      refine sk 18 rfl ?_
      try simp only [Act.put, qA, qB, qC, qD, qE, qF]
      refine tk 19 rfl ?_
      try simp only [Act.put, qA, qB, qC, qD, qE, qF]
      refine tk 20 rfl ?_
      try simp only [Act.put, qA, qB, qC, qD, qE, qF]
      refine sk 21 rfl ?_
      try simp only [Act.put, qA, qB, qC, qD, qE, qF]
      refine sk 22 rfl ?_
      try simp only [Act.put, qA, qB, qC, qD, qE, qF]
      refine tk 23 rfl ?_
      try simp only [Act.put, qA, qB, qC, qD, qE, qF]
      refine tk 24 rfl ?_
      try simp only [Act.put, qA, qB, qC, qD, qE, qF]
      refine wpAnyH_done (by kernel_rfl) ?_ _
      have HBE := Lib.hid (HBW.out.1.trans (r2.mono HBW.out.1.size))
      clear r0 c0 c1 c67
      go_wp2_with fail
      go_ret
      exact ⟨by rw [HF.out]; rfl, HBE.out⟩
  · have dq : (b.addr == b.addr - b.addr % 64) = false := by
      have : ¬ b.addr = b.addr - b.addr % 64 := by omega
      simpa using this
    have HF : Hid (R = false) := Lib.hid (by rw [HRR.out]; unfold rightB; rw [decide_eq_false h0]; rfl)
    clear h0
    refine wp_region_held_drew (S := (fun W => Below w1.heap.size w1 W)) (by kernel_rfl) ?_ (fun r0 => ?_)
    · exact ⟨rfl, rfl, rfl, Nat.le_refl _, fun _ _ => rfl⟩
    refine tk 0 rfl ?_
    try simp only [Act.put, List.getElem_toArray, List.getElem_cons_zero, List.setIfInBounds_toArray, List.set_cons_zero, List.set_cons_succ]
    refine tq (v := ?_) 1 rfl ?_ ?_
    rotate_left
    · intro wS hSw
      (try dsimp only at hSw)
      have c0 := bcellB hSw c0
      have c1 := bcellB hSw c1
      have c67 := bcellB hSw c67
      go_simp
      first | done | with_reducible rfl
    try simp only [Act.put, qA, qB, qC, qD, qE, qF]
    refine tk 2 rfl ?_
    try simp only [Act.put, qA, qB, qC, qD, qE, qF]
    refine tq (v := ?_) 3 rfl ?_ ?_
    rotate_left
    · intro wS hSw
      (try dsimp only at hSw)
      have c0 := bcellB hSw c0
      have c1 := bcellB hSw c1
      have c67 := bcellB hSw c67
      go_simp
      first | done | with_reducible rfl
    try simp only [Act.put, qA, qB, qC, qD, qE, qF]
    refine wpAnyH_ready (rs := [4]) (by kernel_rfl) (by simp) ?_
    refine AllReadyH.cons rfl (fun K hK => ?_) AllReadyH.nil
    go_simp
    refine (HFI.out _).mono ?_; rintro x wz ⟨rfl, hb42⟩
    refine hK.out _ _ ?_ (fun r1 => ?_)
    · exact bel r0 hb42
    try simp only [Act.put, qA, qB, qC, qD, qE, qF]
    refine tk 5 rfl ?_
    try simp only [Act.put, qA, qB, qC, qD, qE, qF]
    refine tk 6 rfl ?_
    try simp only [Act.put, qA, qB, qC, qD, qE, qF]
    refine sk 7 rfl ?_
    try simp only [Act.put, qA, qB, qC, qD, qE, qF]
    refine sk 8 rfl ?_
    try simp only [Act.put, qA, qB, qC, qD, qE, qF]
    refine sk 9 rfl ?_
    try simp only [Act.put, qA, qB, qC, qD, qE, qF]
    refine tk 10 rfl ?_
    try simp only [Act.put, qA, qB, qC, qD, qE, qF]
    refine tk 11 rfl ?_
    try simp only [Act.put, qA, qB, qC, qD, qE, qF]
    refine sk 12 rfl ?_
    try simp only [Act.put, qA, qB, qC, qD, qE, qF]
    refine sk 13 rfl ?_
    try simp only [Act.put, qA, qB, qC, qD, qE, qF]
    refine sk 14 rfl ?_
    try simp only [Act.put, qA, qB, qC, qD, qE, qF]
    refine tk 15 rfl ?_
    try simp only [Act.put, qA, qB, qC, qD, qE, qF]
    refine tk 16 rfl ?_
    try simp only [Act.put, qA, qB, qC, qD, qE, qF]
    refine sk 17 rfl ?_
    try simp only [Act.put, qA, qB, qC, qD, qE, qF]
    refine sk 18 rfl ?_
    try simp only [Act.put, qA, qB, qC, qD, qE, qF]
    refine tk 19 rfl ?_
    try simp only [Act.put, qA, qB, qC, qD, qE, qF]
    refine tk 20 rfl ?_
    try simp only [Act.put, qA, qB, qC, qD, qE, qF]
    refine sk 21 rfl ?_
    try simp only [Act.put, qA, qB, qC, qD, qE, qF]
    refine sk 22 rfl ?_
    try simp only [Act.put, qA, qB, qC, qD, qE, qF]
    refine tk 23 rfl ?_
    try simp only [Act.put, qA, qB, qC, qD, qE, qF]
    refine tk 24 rfl ?_
    try simp only [Act.put, qA, qB, qC, qD, qE, qF]
    refine wpAnyH_done (by kernel_rfl) ?_ _
    have HBE := Lib.hid (HBW.out.1.trans (r1.mono HBW.out.1.size))
    clear r0 c0 c1 c67
    go_wp2_with fail
    go_ret
    exact ⟨by rw [HF.out]; rfl, HBE.out⟩
end Go.Proofs.YtiifbhiodegipaaGreatDoor
