/- Package handle: Right. -/
import Derived.Lib.SlBytesConst
import Derived.Lib.AppendZeros
import Derived.Test.YtiifbhiodegipaaGreatDoorSq
import Derived.Test.YtiifbhiodegipaaGreatDoorRcNet
import Derived.Deep.Cut
namespace Go.Proofs.YtiifbhiodegipaaGreatDoor.HN
open Go.RowKit
set_option maxRecDepth 100000 in
set_option maxHeartbeats 8000000 in
theorem right_any (v : Value) (L : CntL) (w : World) (h : SeesC w v L) (hb : CntBd L) (hl : L.length ≤ 4096) :
    Calls Tryz.prog 135 #[hnV v] w fun e w' => e = .returned (.bool (rightH L)) ∧ Below w.heap.size w w' := by
  obtain ⟨W, hW⟩ : ∃ W, W = w.alloc (hnO v) := ⟨_, rfl⟩
  have hb0 : Below w.heap.size w W := by rw [hW]; exact belNew _ _
  have hA : W.heap[w.heap.size]? = some (hnO v) := by rw [hW]; exact heap_new w _
  obtain ⟨ao, c, rfl, hlc, hnil, hc⟩ := h.below hb0
  have HW := Lib.hid hW
  have HC := Lib.hid (And.intro hnil hc)
  have HB0 := Lib.hid hb0
  have HBD := Lib.hid hb
  have c0 := hcell hA
  have d64 : decide (4096 < (L.length : Int)) = false := by simp; omega
  obtain ⟨R, hR⟩ : ∃ R, R = rightH L := ⟨_, rfl⟩
  rw [← hR]
  have HR := Lib.hid hR
  clear hW hnil hc hb0 hA h hb hR
  go_enter Tryz.func135, Tryz.ntmps135
  go_upto_region 1 with fail
  change Code.wp _ _ _ _ (w.alloc (hnO (.slice ao L.length c)))
  rw [← HW.out]
  clear HW
  go_wp2_with fail
  go_loopw [13] (fun j wr => ∃ i : Nat, i ≤ L.length ∧ j = .int .i64 i ∧ Hid (okTo L i = true) ∧ Hid (Below W.heap.size W wr)) (fun j _ => L.length - (intOf j).toNat)
  case atStart => exact ⟨0, Nat.zero_le _, rfl, Lib.hid rfl, Lib.hid (Below.refl _ _)⟩
  case round =>
    obtain ⟨i, hi, rfl, HJ, HBw⟩ := hrel
    by_cases hlt : i < L.length
    · obtain ⟨a, rfl⟩ : ∃ a, ao = some a := by
        cases ao with
        | none => rw [HC.out.1 rfl] at hlt; simp at hlt
        | some a => exact ⟨a, rfl⟩
      obtain ⟨q0, q1⟩ := HC.out.2 a rfl i _ (at2_get hlt)
      have q0 := bcell HBw.out q0
      have q1 := ofs1 (bcell HBw.out q1)
      have c0 := bcell HBw.out c0
      have b0 : (0 : Int) ≤ (i : Int) := by omega
      have b1 : (i : Int) < (L.length : Int) := by omega
      have HOK : Hid (okTo L (i + 1) = okAt L i) := Lib.hid (by rw [okTo, HJ.out]; rfl)
      have HNO : Hid (okAt L i = false → R = false) := Lib.hid (fun e => by rw [HR.out]; exact okTo_no (i := i + 1) (by rw [HOK.out, e]) hlt)
      have HLT := Lib.hid hlt
      have hpb := at2_bd HBD.out i
      have HAT : Hid (okAt L i = ((decide (i = 0) || decide ((at2 L (i - 1)).1 < (at2 L i).1)) && decide ((at2 L i).1 % 64 = 0) && decide (1 ≤ (at2 L i).2) && decide ((at2 L i).2 ≤ 65535))) := Lib.hid rfl
      have HPV : Hid (i ≠ 0 → W.cell? (a.add ((i - 1) * 2)) = some (.int .u32 (at2 L (i - 1)).1)) := Lib.hid (fun h0 => (HC.out.2 a rfl (i - 1) _ (at2_get (by omega))).1)
      generalize at2 L i = p at q0 q1 hpb HAT
      generalize at2 L (i - 1) = q at HAT HPV
      obtain ⟨px, pn⟩ := p
      obtain ⟨qx, qn⟩ := q
      simp only [] at q0 q1 hpb HAT HPV
      have HF := Lib.hid (fun w => first_any px hpb.1.1 hpb.1.2 w)
      have HM := Lib.hid (fun w => mayCount_any pn w)
      have HPB := Lib.hid hpb
      clear hpb
      go_upto_region 6 with fail
      obtain ⟨wx, hwx⟩ : ∃ wx, wx = wr.alloc (cntO (px, pn) 140) := ⟨_, rfl⟩
      have hx1 : wx.heap[wr.heap.size]? = some (cntO (px, pn) 140) := by rw [hwx]; exact heap_new wr _
      have hbx : Below wr.heap.size wr wx := by rw [hwx]; exact belNew _ _
      change Code.wp _ _ _ _ (wr.alloc (cntO (px, pn) 140))
      rw [← hwx]
      obtain ⟨x0, x1⟩ := ccells hx1
      have c0 := bcell hbx c0
      have HBX := Lib.hid (bel HBw.out hbx)
      clear hwx hbx hx1 q0 q1
      by_cases h0 : i = 0
      · have e0 : ((i : Int) == 0) = true := by simpa using h0
        by_cases h64 : px % 64 = 0
        · have db : (px != px - px % 64) = false := by simp; omega
          by_cases hn0 : pn = 0
          · have dn : (pn == 0) = true := by simpa using hn0
            have HBAD : Hid ((((¬ i = 0 ∧ ¬ qx < px) ∨ ¬ px % 64 = 0) ∨ ¬ 1 ≤ pn) ∨ ¬ pn ≤ 65535) := Lib.hid (Or.inl (Or.inr (by omega)))
            clear h64 hn0
            refine wp_region_held_drew (S := (fun W => Below wx.heap.size wx W)) (by kernel_rfl) ?_ (fun r0 => ?_)
            · exact ⟨rfl, rfl, rfl, Nat.le_refl _, fun _ _ => rfl⟩
            refine tk 0 rfl ?_
            try simp only [Act.put, qA, qB, qC, qD, qE, qF]
            refine tk 1 rfl ?_
            try simp only [Act.put, qA, qB, qC, qD, qE, qF]
            refine tk 2 rfl ?_
            try simp only [Act.put, qA, qB, qC, qD, qE, qF]
            refine sk 3 rfl ?_
            try simp only [Act.put, qA, qB, qC, qD, qE, qF]
            refine sk 4 rfl ?_
            try simp only [Act.put, qA, qB, qC, qD, qE, qF]
            refine sk 5 rfl ?_
            try simp only [Act.put, qA, qB, qC, qD, qE, qF]
            refine sk 6 rfl ?_
            try simp only [Act.put, qA, qB, qC, qD, qE, qF]
            refine sk 7 rfl ?_
            try simp only [Act.put, qA, qB, qC, qD, qE, qF]
            refine sk 8 rfl ?_
            try simp only [Act.put, qA, qB, qC, qD, qE, qF]
            refine sk 9 rfl ?_
            try simp only [Act.put, qA, qB, qC, qD, qE, qF]
            refine sk 10 rfl ?_
            try simp only [Act.put, qA, qB, qC, qD, qE, qF]
            refine sk 11 rfl ?_
            try simp only [Act.put, qA, qB, qC, qD, qE, qF]
            refine sk 12 rfl ?_
            try simp only [Act.put, qA, qB, qC, qD, qE, qF]
            refine tk 13 rfl ?_
            try simp only [Act.put, qA, qB, qC, qD, qE, qF]
            refine tk 14 rfl ?_
            try simp only [Act.put, qA, qB, qC, qD, qE, qF]
            refine wpAnyH_done (by kernel_rfl) ?_ _
            generalize wx.drew = W6 at r0 ⊢
            have HB6 := Lib.hid (bel HBX.out r0)
            have x0 := bcell r0 x0
            have x1 := bcell r0 x1
            clear c0
            try clear y0
            try clear r0
            go_upto_region 7 with fail
            refine wp_region_held_drew (S := (fun W => Below W6.heap.size W6 W)) (by kernel_rfl) ?_ (fun s0 => ?_)
            · exact ⟨rfl, rfl, rfl, Nat.le_refl _, fun _ _ => rfl⟩
            refine tk 0 rfl ?_
            try simp only [Act.put, qA, qB, qC, qD, qE, qF]
            refine tk 1 rfl ?_
            try simp only [Act.put, qA, qB, qC, qD, qE, qF]
            refine tk 2 rfl ?_
            try simp only [Act.put, qA, qB, qC, qD, qE, qF]
            refine tk 3 rfl ?_
            try simp only [Act.put, qA, qB, qC, qD, qE, qF]
            refine tq (v := ?_) 4 rfl ?_ ?_
            rotate_left
            · intro wS hSw
              (try dsimp only at hSw)
              have x0 := bcell hSw x0
              have x1 := bcell hSw x1
              go_simp
              first | done | with_reducible rfl
            try simp only [Act.put, qA, qB, qC, qD, qE, qF]
            refine tk 5 rfl ?_
            try simp only [Act.put, qA, qB, qC, qD, qE, qF]
            refine tq (v := ?_) 6 rfl ?_ ?_
            rotate_left
            · intro wS hSw
              (try dsimp only at hSw)
              have x0 := bcell hSw x0
              have x1 := bcell hSw x1
              go_simp
              first | done | with_reducible rfl
            try simp only [Act.put, qA, qB, qC, qD, qE, qF]
            refine wpAnyH_ready (rs := [7]) (by kernel_rfl) (by simp) ?_
            refine AllReadyH.cons rfl (fun K hK => ?_) AllReadyH.nil
            go_simp
            refine (HF.out _).mono ?_; rintro x wf ⟨rfl, hbf⟩
            refine hK.out _ _ ?_ (fun s1 => ?_)
            · exact bel s0 hbf
            try simp only [Act.put, qA, qB, qC, qD, qE, qF]
            refine tk 8 rfl ?_
            try simp only [Act.put, qA, qB, qC, qD, qE, qF]
            refine tk 9 rfl ?_
            try simp only [Act.put, qA, qB, qC, qD, qE, qF]
            refine tk 10 rfl ?_
            try simp only [Act.put, qA, qB, qC, qD, qE, qF]
            refine tk 11 rfl ?_
            try simp only [Act.put, qA, qB, qC, qD, qE, qF]
            refine tq (v := ?_) 12 rfl ?_ ?_
            rotate_left
            · intro wS hSw
              (try dsimp only at hSw)
              have x0 := bcell hSw x0
              have x1 := bcell hSw x1
              go_simp
              first | done | with_reducible rfl
            try simp only [Act.put, qA, qB, qC, qD, qE, qF]
            refine tk 13 rfl ?_
            try simp only [Act.put, qA, qB, qC, qD, qE, qF]
            refine tk 14 rfl ?_
            try simp only [Act.put, qA, qB, qC, qD, qE, qF]
            refine tk 15 rfl ?_
            try simp only [Act.put, qA, qB, qC, qD, qE, qF]
            refine sk 16 rfl ?_
            try simp only [Act.put, qA, qB, qC, qD, qE, qF]
            refine sk 17 rfl ?_
            try simp only [Act.put, qA, qB, qC, qD, qE, qF]
            refine sk 18 rfl ?_
            try simp only [Act.put, qA, qB, qC, qD, qE, qF]
            refine sk 19 rfl ?_
            try simp only [Act.put, qA, qB, qC, qD, qE, qF]
            refine tk 20 rfl ?_
            try simp only [Act.put, qA, qB, qC, qD, qE, qF]
            refine wpAnyH_done (by kernel_rfl) ?_ _
            have HB7 := Lib.hid (bel HB6.out s1)
            have HV := Lib.hid (HNO.out (by rw [HAT.out]; simp only [Bool.and_eq_false_iff, Bool.or_eq_false_iff, decide_eq_false_iff_not]; exact HBAD.out))
            clear s0 x0 x1
            go_wp2_with fail
            go_ret
            exact ⟨by rw [HV.out]; rfl, HB0.out.trans (HB7.out.mono HB0.out.size)⟩
          · have dn : (pn == 0) = false := by simpa using hn0
            cases hm : mayC pn with
            | false =>
              rw [hm] at HM
              have HBAD : Hid ((((¬ i = 0 ∧ ¬ qx < px) ∨ ¬ px % 64 = 0) ∨ ¬ 1 ≤ pn) ∨ ¬ pn ≤ 65535) := Lib.hid (by unfold mayC at hm; have := of_decide_eq_false hm; omega)
              clear h64 hn0 hm
              refine wp_region_held_drew (S := (fun W => Below wx.heap.size wx W)) (by kernel_rfl) ?_ (fun r0 => ?_)
              · exact ⟨rfl, rfl, rfl, Nat.le_refl _, fun _ _ => rfl⟩
              refine tk 0 rfl ?_
              try simp only [Act.put, qA, qB, qC, qD, qE, qF]
              refine tk 1 rfl ?_
              try simp only [Act.put, qA, qB, qC, qD, qE, qF]
              refine tk 2 rfl ?_
              try simp only [Act.put, qA, qB, qC, qD, qE, qF]
              refine sk 3 rfl ?_
              try simp only [Act.put, qA, qB, qC, qD, qE, qF]
              refine sk 4 rfl ?_
              try simp only [Act.put, qA, qB, qC, qD, qE, qF]
              refine sk 5 rfl ?_
              try simp only [Act.put, qA, qB, qC, qD, qE, qF]
              refine sk 6 rfl ?_
              try simp only [Act.put, qA, qB, qC, qD, qE, qF]
              refine sk 7 rfl ?_
              try simp only [Act.put, qA, qB, qC, qD, qE, qF]
              refine sk 8 rfl ?_
              try simp only [Act.put, qA, qB, qC, qD, qE, qF]
              refine sk 9 rfl ?_
              try simp only [Act.put, qA, qB, qC, qD, qE, qF]
              refine sk 10 rfl ?_
              try simp only [Act.put, qA, qB, qC, qD, qE, qF]
              refine sk 11 rfl ?_
              try simp only [Act.put, qA, qB, qC, qD, qE, qF]
              refine sk 12 rfl ?_
              try simp only [Act.put, qA, qB, qC, qD, qE, qF]
              refine tk 13 rfl ?_
              try simp only [Act.put, qA, qB, qC, qD, qE, qF]
              refine tk 14 rfl ?_
              try simp only [Act.put, qA, qB, qC, qD, qE, qF]
              refine wpAnyH_done (by kernel_rfl) ?_ _
              generalize wx.drew = W6 at r0 ⊢
              have HB6 := Lib.hid (bel HBX.out r0)
              have x0 := bcell r0 x0
              have x1 := bcell r0 x1
              clear c0
              try clear y0
              try clear r0
              go_upto_region 7 with fail
              refine wp_region_held_drew (S := (fun W => Below W6.heap.size W6 W)) (by kernel_rfl) ?_ (fun s0 => ?_)
              · exact ⟨rfl, rfl, rfl, Nat.le_refl _, fun _ _ => rfl⟩
              refine tk 0 rfl ?_
              try simp only [Act.put, qA, qB, qC, qD, qE, qF]
              refine tk 1 rfl ?_
              try simp only [Act.put, qA, qB, qC, qD, qE, qF]
              refine tk 2 rfl ?_
              try simp only [Act.put, qA, qB, qC, qD, qE, qF]
              refine tk 3 rfl ?_
              try simp only [Act.put, qA, qB, qC, qD, qE, qF]
              refine tq (v := ?_) 4 rfl ?_ ?_
              rotate_left
              · intro wS hSw
                (try dsimp only at hSw)
                have x0 := bcell hSw x0
                have x1 := bcell hSw x1
                go_simp
                first | done | with_reducible rfl
              try simp only [Act.put, qA, qB, qC, qD, qE, qF]
              refine tk 5 rfl ?_
              try simp only [Act.put, qA, qB, qC, qD, qE, qF]
              refine tq (v := ?_) 6 rfl ?_ ?_
              rotate_left
              · intro wS hSw
                (try dsimp only at hSw)
                have x0 := bcell hSw x0
                have x1 := bcell hSw x1
                go_simp
                first | done | with_reducible rfl
              try simp only [Act.put, qA, qB, qC, qD, qE, qF]
              refine wpAnyH_ready (rs := [7]) (by kernel_rfl) (by simp) ?_
              refine AllReadyH.cons rfl (fun K hK => ?_) AllReadyH.nil
              go_simp
              refine (HF.out _).mono ?_; rintro x wf ⟨rfl, hbf⟩
              refine hK.out _ _ ?_ (fun s1 => ?_)
              · exact bel s0 hbf
              try simp only [Act.put, qA, qB, qC, qD, qE, qF]
              refine tk 8 rfl ?_
              try simp only [Act.put, qA, qB, qC, qD, qE, qF]
              refine tk 9 rfl ?_
              try simp only [Act.put, qA, qB, qC, qD, qE, qF]
              refine tk 10 rfl ?_
              try simp only [Act.put, qA, qB, qC, qD, qE, qF]
              refine tk 11 rfl ?_
              try simp only [Act.put, qA, qB, qC, qD, qE, qF]
              refine tq (v := ?_) 12 rfl ?_ ?_
              rotate_left
              · intro wS hSw
                (try dsimp only at hSw)
                have x0 := bcell hSw x0
                have x1 := bcell hSw x1
                go_simp
                first | done | with_reducible rfl
              try simp only [Act.put, qA, qB, qC, qD, qE, qF]
              refine tk 13 rfl ?_
              try simp only [Act.put, qA, qB, qC, qD, qE, qF]
              refine tk 14 rfl ?_
              try simp only [Act.put, qA, qB, qC, qD, qE, qF]
              refine tk 15 rfl ?_
              try simp only [Act.put, qA, qB, qC, qD, qE, qF]
              refine tk 16 rfl ?_
              try simp only [Act.put, qA, qB, qC, qD, qE, qF]
              refine tq (v := ?_) 17 rfl ?_ ?_
              rotate_left
              · intro wS hSw
                (try dsimp only at hSw)
                have x0 := bcell hSw x0
                have x1 := bcell hSw x1
                go_simp
                first | done | with_reducible rfl
              try simp only [Act.put, qA, qB, qC, qD, qE, qF]
              refine wpAnyH_ready (rs := [18]) (by kernel_rfl) (by simp) ?_
              refine AllReadyH.cons rfl (fun K hK => ?_) AllReadyH.nil
              go_simp
              refine (HM.out _).mono ?_; rintro x wm ⟨rfl, rfl⟩
              refine hK.out _ _ ?_ (fun s2 => ?_)
              · exact s1
              try simp only [Act.put, qA, qB, qC, qD, qE, qF]
              refine tk 19 rfl ?_
              try simp only [Act.put, qA, qB, qC, qD, qE, qF]
              refine tk 20 rfl ?_
              try simp only [Act.put, qA, qB, qC, qD, qE, qF]
              refine wpAnyH_done (by kernel_rfl) ?_ _
              have HB7 := Lib.hid (bel HB6.out s2)
              have HV := Lib.hid (HNO.out (by rw [HAT.out]; simp only [Bool.and_eq_false_iff, Bool.or_eq_false_iff, decide_eq_false_iff_not]; exact HBAD.out))
              clear s0 x0 x1
              go_wp2_with fail
              go_ret
              exact ⟨by rw [HV.out]; rfl, HB0.out.trans (HB7.out.mono HB0.out.size)⟩
            | true =>
              rw [hm] at HM
              have HALL : Hid ((((i = 0 ∨ qx < px) ∧ px % 64 = 0) ∧ 1 ≤ pn) ∧ pn ≤ 65535) := Lib.hid (by unfold mayC at hm; have := of_decide_eq_true hm; refine ⟨⟨⟨?_, h64⟩, by omega⟩, this.2⟩; first | exact Or.inl h0 | exact Or.inr hq)
              clear h64 hn0 hm
              refine wp_region_held_drew (S := (fun W => Below wx.heap.size wx W)) (by kernel_rfl) ?_ (fun r0 => ?_)
              · exact ⟨rfl, rfl, rfl, Nat.le_refl _, fun _ _ => rfl⟩
              refine tk 0 rfl ?_
              try simp only [Act.put, qA, qB, qC, qD, qE, qF]
              refine tk 1 rfl ?_
              try simp only [Act.put, qA, qB, qC, qD, qE, qF]
              refine tk 2 rfl ?_
              try simp only [Act.put, qA, qB, qC, qD, qE, qF]
              refine sk 3 rfl ?_
              try simp only [Act.put, qA, qB, qC, qD, qE, qF]
              refine sk 4 rfl ?_
              try simp only [Act.put, qA, qB, qC, qD, qE, qF]
              refine sk 5 rfl ?_
              try simp only [Act.put, qA, qB, qC, qD, qE, qF]
              refine sk 6 rfl ?_
              try simp only [Act.put, qA, qB, qC, qD, qE, qF]
              refine sk 7 rfl ?_
              try simp only [Act.put, qA, qB, qC, qD, qE, qF]
              refine sk 8 rfl ?_
              try simp only [Act.put, qA, qB, qC, qD, qE, qF]
              refine sk 9 rfl ?_
              try simp only [Act.put, qA, qB, qC, qD, qE, qF]
              refine sk 10 rfl ?_
              try simp only [Act.put, qA, qB, qC, qD, qE, qF]
              refine sk 11 rfl ?_
              try simp only [Act.put, qA, qB, qC, qD, qE, qF]
              refine sk 12 rfl ?_
              try simp only [Act.put, qA, qB, qC, qD, qE, qF]
              refine tk 13 rfl ?_
              try simp only [Act.put, qA, qB, qC, qD, qE, qF]
              refine tk 14 rfl ?_
              try simp only [Act.put, qA, qB, qC, qD, qE, qF]
              refine wpAnyH_done (by kernel_rfl) ?_ _
              generalize wx.drew = W6 at r0 ⊢
              have HB6 := Lib.hid (bel HBX.out r0)
              have x0 := bcell r0 x0
              have x1 := bcell r0 x1
              clear c0
              try clear y0
              try clear r0
              go_upto_region 7 with fail
              refine wp_region_held_drew (S := (fun W => Below W6.heap.size W6 W)) (by kernel_rfl) ?_ (fun s0 => ?_)
              · exact ⟨rfl, rfl, rfl, Nat.le_refl _, fun _ _ => rfl⟩
              refine tk 0 rfl ?_
              try simp only [Act.put, qA, qB, qC, qD, qE, qF]
              refine tk 1 rfl ?_
              try simp only [Act.put, qA, qB, qC, qD, qE, qF]
              refine tk 2 rfl ?_
              try simp only [Act.put, qA, qB, qC, qD, qE, qF]
              refine tk 3 rfl ?_
              try simp only [Act.put, qA, qB, qC, qD, qE, qF]
              refine tq (v := ?_) 4 rfl ?_ ?_
              rotate_left
              · intro wS hSw
                (try dsimp only at hSw)
                have x0 := bcell hSw x0
                have x1 := bcell hSw x1
                go_simp
                first | done | with_reducible rfl
              try simp only [Act.put, qA, qB, qC, qD, qE, qF]
              refine tk 5 rfl ?_
              try simp only [Act.put, qA, qB, qC, qD, qE, qF]
              refine tq (v := ?_) 6 rfl ?_ ?_
              rotate_left
              · intro wS hSw
                (try dsimp only at hSw)
                have x0 := bcell hSw x0
                have x1 := bcell hSw x1
                go_simp
                first | done | with_reducible rfl
              try simp only [Act.put, qA, qB, qC, qD, qE, qF]
              refine wpAnyH_ready (rs := [7]) (by kernel_rfl) (by simp) ?_
              refine AllReadyH.cons rfl (fun K hK => ?_) AllReadyH.nil
              go_simp
              refine (HF.out _).mono ?_; rintro x wf ⟨rfl, hbf⟩
              refine hK.out _ _ ?_ (fun s1 => ?_)
              · exact bel s0 hbf
              try simp only [Act.put, qA, qB, qC, qD, qE, qF]
              refine tk 8 rfl ?_
              try simp only [Act.put, qA, qB, qC, qD, qE, qF]
              refine tk 9 rfl ?_
              try simp only [Act.put, qA, qB, qC, qD, qE, qF]
              refine tk 10 rfl ?_
              try simp only [Act.put, qA, qB, qC, qD, qE, qF]
              refine tk 11 rfl ?_
              try simp only [Act.put, qA, qB, qC, qD, qE, qF]
              refine tq (v := ?_) 12 rfl ?_ ?_
              rotate_left
              · intro wS hSw
                (try dsimp only at hSw)
                have x0 := bcell hSw x0
                have x1 := bcell hSw x1
                go_simp
                first | done | with_reducible rfl
              try simp only [Act.put, qA, qB, qC, qD, qE, qF]
              refine tk 13 rfl ?_
              try simp only [Act.put, qA, qB, qC, qD, qE, qF]
              refine tk 14 rfl ?_
              try simp only [Act.put, qA, qB, qC, qD, qE, qF]
              refine tk 15 rfl ?_
              try simp only [Act.put, qA, qB, qC, qD, qE, qF]
              refine tk 16 rfl ?_
              try simp only [Act.put, qA, qB, qC, qD, qE, qF]
              refine tq (v := ?_) 17 rfl ?_ ?_
              rotate_left
              · intro wS hSw
                (try dsimp only at hSw)
                have x0 := bcell hSw x0
                have x1 := bcell hSw x1
                go_simp
                first | done | with_reducible rfl
              try simp only [Act.put, qA, qB, qC, qD, qE, qF]
              refine wpAnyH_ready (rs := [18]) (by kernel_rfl) (by simp) ?_
              refine AllReadyH.cons rfl (fun K hK => ?_) AllReadyH.nil
              go_simp
              refine (HM.out _).mono ?_; rintro x wm ⟨rfl, rfl⟩
              refine hK.out _ _ ?_ (fun s2 => ?_)
              · exact s1
              try simp only [Act.put, qA, qB, qC, qD, qE, qF]
              refine tk 19 rfl ?_
              try simp only [Act.put, qA, qB, qC, qD, qE, qF]
              refine tk 20 rfl ?_
              try simp only [Act.put, qA, qB, qC, qD, qE, qF]
              refine wpAnyH_done (by kernel_rfl) ?_ _
              have HB7 := Lib.hid (bel HB6.out s2)
              have HG : Hid (okTo L (i + 1) = true) := Lib.hid (by rw [HOK.out, HAT.out]; simp only [Bool.and_eq_true, Bool.or_eq_true, decide_eq_true_eq]; exact HALL.out)
              clear s0 x0 x1
              go_wp2_with fail
              go_roundw
              case rel => exact ⟨i + 1, HLT.out, by go_num, HG, HB7⟩
              case measure => simp [intOf]; have := HLT.out; omega
        · have db : (px != px - px % 64) = true := by simp; omega
          have HBAD : Hid ((((¬ i = 0 ∧ ¬ qx < px) ∨ ¬ px % 64 = 0) ∨ ¬ 1 ≤ pn) ∨ ¬ pn ≤ 65535) := Lib.hid (Or.inl (Or.inl (Or.inr h64)))
          clear h64
          refine wp_region_held_drew (S := (fun W => Below wx.heap.size wx W)) (by kernel_rfl) ?_ (fun r0 => ?_)
          · exact ⟨rfl, rfl, rfl, Nat.le_refl _, fun _ _ => rfl⟩
          refine tk 0 rfl ?_
          try simp only [Act.put, qA, qB, qC, qD, qE, qF]
          refine tk 1 rfl ?_
          try simp only [Act.put, qA, qB, qC, qD, qE, qF]
          refine tk 2 rfl ?_
          try simp only [Act.put, qA, qB, qC, qD, qE, qF]
          refine sk 3 rfl ?_
          try simp only [Act.put, qA, qB, qC, qD, qE, qF]
          refine sk 4 rfl ?_
          try simp only [Act.put, qA, qB, qC, qD, qE, qF]
          refine sk 5 rfl ?_
          try simp only [Act.put, qA, qB, qC, qD, qE, qF]
          refine sk 6 rfl ?_
          try simp only [Act.put, qA, qB, qC, qD, qE, qF]
          refine sk 7 rfl ?_
          try simp only [Act.put, qA, qB, qC, qD, qE, qF]
          refine sk 8 rfl ?_
          try simp only [Act.put, qA, qB, qC, qD, qE, qF]
          refine sk 9 rfl ?_
          try simp only [Act.put, qA, qB, qC, qD, qE, qF]
          refine sk 10 rfl ?_
          try simp only [Act.put, qA, qB, qC, qD, qE, qF]
          refine sk 11 rfl ?_
          try simp only [Act.put, qA, qB, qC, qD, qE, qF]
          refine sk 12 rfl ?_
          try simp only [Act.put, qA, qB, qC, qD, qE, qF]
          refine tk 13 rfl ?_
          try simp only [Act.put, qA, qB, qC, qD, qE, qF]
          refine tk 14 rfl ?_
          try simp only [Act.put, qA, qB, qC, qD, qE, qF]
          refine wpAnyH_done (by kernel_rfl) ?_ _
          generalize wx.drew = W6 at r0 ⊢
          have HB6 := Lib.hid (bel HBX.out r0)
          have x0 := bcell r0 x0
          have x1 := bcell r0 x1
          clear c0
          try clear y0
          try clear r0
          go_upto_region 7 with fail
          refine wp_region_held_drew (S := (fun W => Below W6.heap.size W6 W)) (by kernel_rfl) ?_ (fun s0 => ?_)
          · exact ⟨rfl, rfl, rfl, Nat.le_refl _, fun _ _ => rfl⟩
          refine tk 0 rfl ?_
          try simp only [Act.put, qA, qB, qC, qD, qE, qF]
          refine tk 1 rfl ?_
          try simp only [Act.put, qA, qB, qC, qD, qE, qF]
          refine tk 2 rfl ?_
          try simp only [Act.put, qA, qB, qC, qD, qE, qF]
          refine tk 3 rfl ?_
          try simp only [Act.put, qA, qB, qC, qD, qE, qF]
          refine tq (v := ?_) 4 rfl ?_ ?_
          rotate_left
          · intro wS hSw
            (try dsimp only at hSw)
            have x0 := bcell hSw x0
            have x1 := bcell hSw x1
            go_simp
            first | done | with_reducible rfl
          try simp only [Act.put, qA, qB, qC, qD, qE, qF]
          refine tk 5 rfl ?_
          try simp only [Act.put, qA, qB, qC, qD, qE, qF]
          refine tq (v := ?_) 6 rfl ?_ ?_
          rotate_left
          · intro wS hSw
            (try dsimp only at hSw)
            have x0 := bcell hSw x0
            have x1 := bcell hSw x1
            go_simp
            first | done | with_reducible rfl
          try simp only [Act.put, qA, qB, qC, qD, qE, qF]
          refine wpAnyH_ready (rs := [7]) (by kernel_rfl) (by simp) ?_
          refine AllReadyH.cons rfl (fun K hK => ?_) AllReadyH.nil
          go_simp
          refine (HF.out _).mono ?_; rintro x wf ⟨rfl, hbf⟩
          refine hK.out _ _ ?_ (fun s1 => ?_)
          · exact bel s0 hbf
          try simp only [Act.put, qA, qB, qC, qD, qE, qF]
          refine tk 8 rfl ?_
          try simp only [Act.put, qA, qB, qC, qD, qE, qF]
          refine tk 9 rfl ?_
          try simp only [Act.put, qA, qB, qC, qD, qE, qF]
          refine tk 10 rfl ?_
          try simp only [Act.put, qA, qB, qC, qD, qE, qF]
          refine sk 11 rfl ?_
          try simp only [Act.put, qA, qB, qC, qD, qE, qF]
          refine sk 12 rfl ?_
          try simp only [Act.put, qA, qB, qC, qD, qE, qF]
          refine sk 13 rfl ?_
          try simp only [Act.put, qA, qB, qC, qD, qE, qF]
          refine tk 14 rfl ?_
          try simp only [Act.put, qA, qB, qC, qD, qE, qF]
          refine tk 15 rfl ?_
          try simp only [Act.put, qA, qB, qC, qD, qE, qF]
          refine sk 16 rfl ?_
          try simp only [Act.put, qA, qB, qC, qD, qE, qF]
          refine sk 17 rfl ?_
          try simp only [Act.put, qA, qB, qC, qD, qE, qF]
          refine sk 18 rfl ?_
          try simp only [Act.put, qA, qB, qC, qD, qE, qF]
          refine sk 19 rfl ?_
          try simp only [Act.put, qA, qB, qC, qD, qE, qF]
          refine tk 20 rfl ?_
          try simp only [Act.put, qA, qB, qC, qD, qE, qF]
          refine wpAnyH_done (by kernel_rfl) ?_ _
          have HB7 := Lib.hid (bel HB6.out s1)
          have HV := Lib.hid (HNO.out (by rw [HAT.out]; simp only [Bool.and_eq_false_iff, Bool.or_eq_false_iff, decide_eq_false_iff_not]; exact HBAD.out))
          clear s0 x0 x1
          go_wp2_with fail
          go_ret
          exact ⟨by rw [HV.out]; rfl, HB0.out.trans (HB7.out.mono HB0.out.size)⟩
      · have e0 : ((i : Int) == 0) = false := by simpa using h0
        have y0 := bcell HBX.out (HPV.out h0)
        have s1 : IntKind.i64.wrap ((i : Int) - 1) = (i : Int) - 1 := IntWalk.i64_in _ (by omega)
        have s2 : (0 : Int) ≤ (i : Int) - 1 := by omega
        have s5 : (1 : Int) ≤ (i : Int) := by omega
        have s3 : (i : Int) - 1 < (L.length : Int) := by omega
        have s4 : ((i : Int) - 1).toNat = i - 1 := by omega
        by_cases hq : qx < px
        · have dq : decide (qx < px) = true := by simpa using hq
          by_cases h64 : px % 64 = 0
          · have db : (px != px - px % 64) = false := by simp; omega
            by_cases hn0 : pn = 0
            · have dn : (pn == 0) = true := by simpa using hn0
              have HBAD : Hid ((((¬ i = 0 ∧ ¬ qx < px) ∨ ¬ px % 64 = 0) ∨ ¬ 1 ≤ pn) ∨ ¬ pn ≤ 65535) := Lib.hid (Or.inl (Or.inr (by omega)))
              clear h64 hn0
              refine wp_region_held_drew (S := (fun W => Below wx.heap.size wx W)) (by kernel_rfl) ?_ (fun r0 => ?_)
              · exact ⟨rfl, rfl, rfl, Nat.le_refl _, fun _ _ => rfl⟩
              refine tk 0 rfl ?_
              try simp only [Act.put, qA, qB, qC, qD, qE, qF]
              refine tk 1 rfl ?_
              try simp only [Act.put, qA, qB, qC, qD, qE, qF]
              refine tk 2 rfl ?_
              try simp only [Act.put, qA, qB, qC, qD, qE, qF]
              refine tk 3 rfl ?_
              try simp only [Act.put, qA, qB, qC, qD, qE, qF]
              refine tq (v := ?_) 4 rfl ?_ ?_
              rotate_left
              · intro wS hSw
                (try dsimp only at hSw)
                have c0 := bcell hSw c0
                have y0 := bcell hSw y0
                have x0 := bcell hSw x0
                go_simp
                first | done | with_reducible rfl
              try simp only [Act.put, qA, qB, qC, qD, qE, qF]
              refine tk 5 rfl ?_
              try simp only [Act.put, qA, qB, qC, qD, qE, qF]
              refine tk 6 rfl ?_
              try simp only [Act.put, qA, qB, qC, qD, qE, qF]
              refine tk 7 rfl ?_
              try simp only [Act.put, qA, qB, qC, qD, qE, qF]
              refine tk 8 rfl ?_
              try simp only [Act.put, qA, qB, qC, qD, qE, qF]
              refine tq (v := ?_) 9 rfl ?_ ?_
              rotate_left
              · intro wS hSw
                (try dsimp only at hSw)
                have c0 := bcell hSw c0
                have y0 := bcell hSw y0
                have x0 := bcell hSw x0
                go_simp
                first | done | with_reducible rfl
              try simp only [Act.put, qA, qB, qC, qD, qE, qF]
              refine tk 10 rfl ?_
              try simp only [Act.put, qA, qB, qC, qD, qE, qF]
              refine tq (v := ?_) 11 rfl ?_ ?_
              rotate_left
              · intro wS hSw
                (try dsimp only at hSw)
                have c0 := bcell hSw c0
                have y0 := bcell hSw y0
                have x0 := bcell hSw x0
                go_simp
                first | done | with_reducible rfl
              try simp only [Act.put, qA, qB, qC, qD, qE, qF]
              refine tk 12 rfl ?_
              try simp only [Act.put, qA, qB, qC, qD, qE, qF]
              refine tk 13 rfl ?_
              try simp only [Act.put, qA, qB, qC, qD, qE, qF]
              refine tk 14 rfl ?_
              try simp only [Act.put, qA, qB, qC, qD, qE, qF]
              refine wpAnyH_done (by kernel_rfl) ?_ _
              generalize wx.drew = W6 at r0 ⊢
              have HB6 := Lib.hid (bel HBX.out r0)
              have x0 := bcell r0 x0
              have x1 := bcell r0 x1
              clear c0
              try clear y0
              try clear r0
              go_upto_region 7 with fail
              refine wp_region_held_drew (S := (fun W => Below W6.heap.size W6 W)) (by kernel_rfl) ?_ (fun s0 => ?_)
              · exact ⟨rfl, rfl, rfl, Nat.le_refl _, fun _ _ => rfl⟩
              refine tk 0 rfl ?_
              try simp only [Act.put, qA, qB, qC, qD, qE, qF]
              refine tk 1 rfl ?_
              try simp only [Act.put, qA, qB, qC, qD, qE, qF]
              refine tk 2 rfl ?_
              try simp only [Act.put, qA, qB, qC, qD, qE, qF]
              refine tk 3 rfl ?_
              try simp only [Act.put, qA, qB, qC, qD, qE, qF]
              refine tq (v := ?_) 4 rfl ?_ ?_
              rotate_left
              · intro wS hSw
                (try dsimp only at hSw)
                have x0 := bcell hSw x0
                have x1 := bcell hSw x1
                go_simp
                first | done | with_reducible rfl
              try simp only [Act.put, qA, qB, qC, qD, qE, qF]
              refine tk 5 rfl ?_
              try simp only [Act.put, qA, qB, qC, qD, qE, qF]
              refine tq (v := ?_) 6 rfl ?_ ?_
              rotate_left
              · intro wS hSw
                (try dsimp only at hSw)
                have x0 := bcell hSw x0
                have x1 := bcell hSw x1
                go_simp
                first | done | with_reducible rfl
              try simp only [Act.put, qA, qB, qC, qD, qE, qF]
              refine wpAnyH_ready (rs := [7]) (by kernel_rfl) (by simp) ?_
              refine AllReadyH.cons rfl (fun K hK => ?_) AllReadyH.nil
              go_simp
              refine (HF.out _).mono ?_; rintro x wf ⟨rfl, hbf⟩
              refine hK.out _ _ ?_ (fun s1 => ?_)
              · exact bel s0 hbf
              try simp only [Act.put, qA, qB, qC, qD, qE, qF]
              refine tk 8 rfl ?_
              try simp only [Act.put, qA, qB, qC, qD, qE, qF]
              refine tk 9 rfl ?_
              try simp only [Act.put, qA, qB, qC, qD, qE, qF]
              refine tk 10 rfl ?_
              try simp only [Act.put, qA, qB, qC, qD, qE, qF]
              refine tk 11 rfl ?_
              try simp only [Act.put, qA, qB, qC, qD, qE, qF]
              refine tq (v := ?_) 12 rfl ?_ ?_
              rotate_left
              · intro wS hSw
                (try dsimp only at hSw)
                have x0 := bcell hSw x0
                have x1 := bcell hSw x1
                go_simp
                first | done | with_reducible rfl
              try simp only [Act.put, qA, qB, qC, qD, qE, qF]
              refine tk 13 rfl ?_
              try simp only [Act.put, qA, qB, qC, qD, qE, qF]
              refine tk 14 rfl ?_
              try simp only [Act.put, qA, qB, qC, qD, qE, qF]
              refine tk 15 rfl ?_
              try simp only [Act.put, qA, qB, qC, qD, qE, qF]
              refine sk 16 rfl ?_
              try simp only [Act.put, qA, qB, qC, qD, qE, qF]
              refine sk 17 rfl ?_
              try simp only [Act.put, qA, qB, qC, qD, qE, qF]
              refine sk 18 rfl ?_
              try simp only [Act.put, qA, qB, qC, qD, qE, qF]
              refine sk 19 rfl ?_
              try simp only [Act.put, qA, qB, qC, qD, qE, qF]
              refine tk 20 rfl ?_
              try simp only [Act.put, qA, qB, qC, qD, qE, qF]
              refine wpAnyH_done (by kernel_rfl) ?_ _
              have HB7 := Lib.hid (bel HB6.out s1)
              have HV := Lib.hid (HNO.out (by rw [HAT.out]; simp only [Bool.and_eq_false_iff, Bool.or_eq_false_iff, decide_eq_false_iff_not]; exact HBAD.out))
              clear s0 x0 x1
              go_wp2_with fail
              go_ret
              exact ⟨by rw [HV.out]; rfl, HB0.out.trans (HB7.out.mono HB0.out.size)⟩
            · have dn : (pn == 0) = false := by simpa using hn0
              cases hm : mayC pn with
              | false =>
                rw [hm] at HM
                have HBAD : Hid ((((¬ i = 0 ∧ ¬ qx < px) ∨ ¬ px % 64 = 0) ∨ ¬ 1 ≤ pn) ∨ ¬ pn ≤ 65535) := Lib.hid (by unfold mayC at hm; have := of_decide_eq_false hm; omega)
                clear h64 hn0 hm
                refine wp_region_held_drew (S := (fun W => Below wx.heap.size wx W)) (by kernel_rfl) ?_ (fun r0 => ?_)
                · exact ⟨rfl, rfl, rfl, Nat.le_refl _, fun _ _ => rfl⟩
                refine tk 0 rfl ?_
                try simp only [Act.put, qA, qB, qC, qD, qE, qF]
                refine tk 1 rfl ?_
                try simp only [Act.put, qA, qB, qC, qD, qE, qF]
                refine tk 2 rfl ?_
                try simp only [Act.put, qA, qB, qC, qD, qE, qF]
                refine tk 3 rfl ?_
                try simp only [Act.put, qA, qB, qC, qD, qE, qF]
                refine tq (v := ?_) 4 rfl ?_ ?_
                rotate_left
                · intro wS hSw
                  (try dsimp only at hSw)
                  have c0 := bcell hSw c0
                  have y0 := bcell hSw y0
                  have x0 := bcell hSw x0
                  go_simp
                  first | done | with_reducible rfl
                try simp only [Act.put, qA, qB, qC, qD, qE, qF]
                refine tk 5 rfl ?_
                try simp only [Act.put, qA, qB, qC, qD, qE, qF]
                refine tk 6 rfl ?_
                try simp only [Act.put, qA, qB, qC, qD, qE, qF]
                refine tk 7 rfl ?_
                try simp only [Act.put, qA, qB, qC, qD, qE, qF]
                refine tk 8 rfl ?_
                try simp only [Act.put, qA, qB, qC, qD, qE, qF]
                refine tq (v := ?_) 9 rfl ?_ ?_
                rotate_left
                · intro wS hSw
                  (try dsimp only at hSw)
                  have c0 := bcell hSw c0
                  have y0 := bcell hSw y0
                  have x0 := bcell hSw x0
                  go_simp
                  first | done | with_reducible rfl
                try simp only [Act.put, qA, qB, qC, qD, qE, qF]
                refine tk 10 rfl ?_
                try simp only [Act.put, qA, qB, qC, qD, qE, qF]
                refine tq (v := ?_) 11 rfl ?_ ?_
                rotate_left
                · intro wS hSw
                  (try dsimp only at hSw)
                  have c0 := bcell hSw c0
                  have y0 := bcell hSw y0
                  have x0 := bcell hSw x0
                  go_simp
                  first | done | with_reducible rfl
                try simp only [Act.put, qA, qB, qC, qD, qE, qF]
                refine tk 12 rfl ?_
                try simp only [Act.put, qA, qB, qC, qD, qE, qF]
                refine tk 13 rfl ?_
                try simp only [Act.put, qA, qB, qC, qD, qE, qF]
                refine tk 14 rfl ?_
                try simp only [Act.put, qA, qB, qC, qD, qE, qF]
                refine wpAnyH_done (by kernel_rfl) ?_ _
                generalize wx.drew = W6 at r0 ⊢
                have HB6 := Lib.hid (bel HBX.out r0)
                have x0 := bcell r0 x0
                have x1 := bcell r0 x1
                clear c0
                try clear y0
                try clear r0
                go_upto_region 7 with fail
                refine wp_region_held_drew (S := (fun W => Below W6.heap.size W6 W)) (by kernel_rfl) ?_ (fun s0 => ?_)
                · exact ⟨rfl, rfl, rfl, Nat.le_refl _, fun _ _ => rfl⟩
                refine tk 0 rfl ?_
                try simp only [Act.put, qA, qB, qC, qD, qE, qF]
                refine tk 1 rfl ?_
                try simp only [Act.put, qA, qB, qC, qD, qE, qF]
                refine tk 2 rfl ?_
                try simp only [Act.put, qA, qB, qC, qD, qE, qF]
                refine tk 3 rfl ?_
                try simp only [Act.put, qA, qB, qC, qD, qE, qF]
                refine tq (v := ?_) 4 rfl ?_ ?_
                rotate_left
                · intro wS hSw
                  (try dsimp only at hSw)
                  have x0 := bcell hSw x0
                  have x1 := bcell hSw x1
                  go_simp
                  first | done | with_reducible rfl
                try simp only [Act.put, qA, qB, qC, qD, qE, qF]
                refine tk 5 rfl ?_
                try simp only [Act.put, qA, qB, qC, qD, qE, qF]
                refine tq (v := ?_) 6 rfl ?_ ?_
                rotate_left
                · intro wS hSw
                  (try dsimp only at hSw)
                  have x0 := bcell hSw x0
                  have x1 := bcell hSw x1
                  go_simp
                  first | done | with_reducible rfl
                try simp only [Act.put, qA, qB, qC, qD, qE, qF]
                refine wpAnyH_ready (rs := [7]) (by kernel_rfl) (by simp) ?_
                refine AllReadyH.cons rfl (fun K hK => ?_) AllReadyH.nil
                go_simp
                refine (HF.out _).mono ?_; rintro x wf ⟨rfl, hbf⟩
                refine hK.out _ _ ?_ (fun s1 => ?_)
                · exact bel s0 hbf
                try simp only [Act.put, qA, qB, qC, qD, qE, qF]
                refine tk 8 rfl ?_
                try simp only [Act.put, qA, qB, qC, qD, qE, qF]
                refine tk 9 rfl ?_
                try simp only [Act.put, qA, qB, qC, qD, qE, qF]
                refine tk 10 rfl ?_
                try simp only [Act.put, qA, qB, qC, qD, qE, qF]
                refine tk 11 rfl ?_
                try simp only [Act.put, qA, qB, qC, qD, qE, qF]
                refine tq (v := ?_) 12 rfl ?_ ?_
                rotate_left
                · intro wS hSw
                  (try dsimp only at hSw)
                  have x0 := bcell hSw x0
                  have x1 := bcell hSw x1
                  go_simp
                  first | done | with_reducible rfl
                try simp only [Act.put, qA, qB, qC, qD, qE, qF]
                refine tk 13 rfl ?_
                try simp only [Act.put, qA, qB, qC, qD, qE, qF]
                refine tk 14 rfl ?_
                try simp only [Act.put, qA, qB, qC, qD, qE, qF]
                refine tk 15 rfl ?_
                try simp only [Act.put, qA, qB, qC, qD, qE, qF]
                refine tk 16 rfl ?_
                try simp only [Act.put, qA, qB, qC, qD, qE, qF]
                refine tq (v := ?_) 17 rfl ?_ ?_
                rotate_left
                · intro wS hSw
                  (try dsimp only at hSw)
                  have x0 := bcell hSw x0
                  have x1 := bcell hSw x1
                  go_simp
                  first | done | with_reducible rfl
                try simp only [Act.put, qA, qB, qC, qD, qE, qF]
                refine wpAnyH_ready (rs := [18]) (by kernel_rfl) (by simp) ?_
                refine AllReadyH.cons rfl (fun K hK => ?_) AllReadyH.nil
                go_simp
                refine (HM.out _).mono ?_; rintro x wm ⟨rfl, rfl⟩
                refine hK.out _ _ ?_ (fun s2 => ?_)
                · exact s1
                try simp only [Act.put, qA, qB, qC, qD, qE, qF]
                refine tk 19 rfl ?_
                try simp only [Act.put, qA, qB, qC, qD, qE, qF]
                refine tk 20 rfl ?_
                try simp only [Act.put, qA, qB, qC, qD, qE, qF]
                refine wpAnyH_done (by kernel_rfl) ?_ _
                have HB7 := Lib.hid (bel HB6.out s2)
                have HV := Lib.hid (HNO.out (by rw [HAT.out]; simp only [Bool.and_eq_false_iff, Bool.or_eq_false_iff, decide_eq_false_iff_not]; exact HBAD.out))
                clear s0 x0 x1
                go_wp2_with fail
                go_ret
                exact ⟨by rw [HV.out]; rfl, HB0.out.trans (HB7.out.mono HB0.out.size)⟩
              | true =>
                rw [hm] at HM
                have HALL : Hid ((((i = 0 ∨ qx < px) ∧ px % 64 = 0) ∧ 1 ≤ pn) ∧ pn ≤ 65535) := Lib.hid (by unfold mayC at hm; have := of_decide_eq_true hm; refine ⟨⟨⟨?_, h64⟩, by omega⟩, this.2⟩; first | exact Or.inl h0 | exact Or.inr hq)
                clear h64 hn0 hm
                refine wp_region_held_drew (S := (fun W => Below wx.heap.size wx W)) (by kernel_rfl) ?_ (fun r0 => ?_)
                · exact ⟨rfl, rfl, rfl, Nat.le_refl _, fun _ _ => rfl⟩
                refine tk 0 rfl ?_
                try simp only [Act.put, qA, qB, qC, qD, qE, qF]
                refine tk 1 rfl ?_
                try simp only [Act.put, qA, qB, qC, qD, qE, qF]
                refine tk 2 rfl ?_
                try simp only [Act.put, qA, qB, qC, qD, qE, qF]
                refine tk 3 rfl ?_
                try simp only [Act.put, qA, qB, qC, qD, qE, qF]
                refine tq (v := ?_) 4 rfl ?_ ?_
                rotate_left
                · intro wS hSw
                  (try dsimp only at hSw)
                  have c0 := bcell hSw c0
                  have y0 := bcell hSw y0
                  have x0 := bcell hSw x0
                  go_simp
                  first | done | with_reducible rfl
                try simp only [Act.put, qA, qB, qC, qD, qE, qF]
                refine tk 5 rfl ?_
                try simp only [Act.put, qA, qB, qC, qD, qE, qF]
                refine tk 6 rfl ?_
                try simp only [Act.put, qA, qB, qC, qD, qE, qF]
                refine tk 7 rfl ?_
                try simp only [Act.put, qA, qB, qC, qD, qE, qF]
                refine tk 8 rfl ?_
                try simp only [Act.put, qA, qB, qC, qD, qE, qF]
                refine tq (v := ?_) 9 rfl ?_ ?_
                rotate_left
                · intro wS hSw
                  (try dsimp only at hSw)
                  have c0 := bcell hSw c0
                  have y0 := bcell hSw y0
                  have x0 := bcell hSw x0
                  go_simp
                  first | done | with_reducible rfl
                try simp only [Act.put, qA, qB, qC, qD, qE, qF]
                refine tk 10 rfl ?_
                try simp only [Act.put, qA, qB, qC, qD, qE, qF]
                refine tq (v := ?_) 11 rfl ?_ ?_
                rotate_left
                · intro wS hSw
                  (try dsimp only at hSw)
                  have c0 := bcell hSw c0
                  have y0 := bcell hSw y0
                  have x0 := bcell hSw x0
                  go_simp
                  first | done | with_reducible rfl
                try simp only [Act.put, qA, qB, qC, qD, qE, qF]
                refine tk 12 rfl ?_
                try simp only [Act.put, qA, qB, qC, qD, qE, qF]
                refine tk 13 rfl ?_
                try simp only [Act.put, qA, qB, qC, qD, qE, qF]
                refine tk 14 rfl ?_
                try simp only [Act.put, qA, qB, qC, qD, qE, qF]
                refine wpAnyH_done (by kernel_rfl) ?_ _
                generalize wx.drew = W6 at r0 ⊢
                have HB6 := Lib.hid (bel HBX.out r0)
                have x0 := bcell r0 x0
                have x1 := bcell r0 x1
                clear c0
                try clear y0
                try clear r0
                go_upto_region 7 with fail
                refine wp_region_held_drew (S := (fun W => Below W6.heap.size W6 W)) (by kernel_rfl) ?_ (fun s0 => ?_)
                · exact ⟨rfl, rfl, rfl, Nat.le_refl _, fun _ _ => rfl⟩
                refine tk 0 rfl ?_
                try simp only [Act.put, qA, qB, qC, qD, qE, qF]
                refine tk 1 rfl ?_
                try simp only [Act.put, qA, qB, qC, qD, qE, qF]
                refine tk 2 rfl ?_
                try simp only [Act.put, qA, qB, qC, qD, qE, qF]
                refine tk 3 rfl ?_
                try simp only [Act.put, qA, qB, qC, qD, qE, qF]
                refine tq (v := ?_) 4 rfl ?_ ?_
                rotate_left
                · intro wS hSw
                  (try dsimp only at hSw)
                  have x0 := bcell hSw x0
                  have x1 := bcell hSw x1
                  go_simp
                  first | done | with_reducible rfl
                try simp only [Act.put, qA, qB, qC, qD, qE, qF]
                refine tk 5 rfl ?_
                try simp only [Act.put, qA, qB, qC, qD, qE, qF]
                refine tq (v := ?_) 6 rfl ?_ ?_
                rotate_left
                · intro wS hSw
                  (try dsimp only at hSw)
                  have x0 := bcell hSw x0
                  have x1 := bcell hSw x1
                  go_simp
                  first | done | with_reducible rfl
                try simp only [Act.put, qA, qB, qC, qD, qE, qF]
                refine wpAnyH_ready (rs := [7]) (by kernel_rfl) (by simp) ?_
                refine AllReadyH.cons rfl (fun K hK => ?_) AllReadyH.nil
                go_simp
                refine (HF.out _).mono ?_; rintro x wf ⟨rfl, hbf⟩
                refine hK.out _ _ ?_ (fun s1 => ?_)
                · exact bel s0 hbf
                try simp only [Act.put, qA, qB, qC, qD, qE, qF]
                refine tk 8 rfl ?_
                try simp only [Act.put, qA, qB, qC, qD, qE, qF]
                refine tk 9 rfl ?_
                try simp only [Act.put, qA, qB, qC, qD, qE, qF]
                refine tk 10 rfl ?_
                try simp only [Act.put, qA, qB, qC, qD, qE, qF]
                refine tk 11 rfl ?_
                try simp only [Act.put, qA, qB, qC, qD, qE, qF]
                refine tq (v := ?_) 12 rfl ?_ ?_
                rotate_left
                · intro wS hSw
                  (try dsimp only at hSw)
                  have x0 := bcell hSw x0
                  have x1 := bcell hSw x1
                  go_simp
                  first | done | with_reducible rfl
                try simp only [Act.put, qA, qB, qC, qD, qE, qF]
                refine tk 13 rfl ?_
                try simp only [Act.put, qA, qB, qC, qD, qE, qF]
                refine tk 14 rfl ?_
                try simp only [Act.put, qA, qB, qC, qD, qE, qF]
                refine tk 15 rfl ?_
                try simp only [Act.put, qA, qB, qC, qD, qE, qF]
                refine tk 16 rfl ?_
                try simp only [Act.put, qA, qB, qC, qD, qE, qF]
                refine tq (v := ?_) 17 rfl ?_ ?_
                rotate_left
                · intro wS hSw
                  (try dsimp only at hSw)
                  have x0 := bcell hSw x0
                  have x1 := bcell hSw x1
                  go_simp
                  first | done | with_reducible rfl
                try simp only [Act.put, qA, qB, qC, qD, qE, qF]
                refine wpAnyH_ready (rs := [18]) (by kernel_rfl) (by simp) ?_
                refine AllReadyH.cons rfl (fun K hK => ?_) AllReadyH.nil
                go_simp
                refine (HM.out _).mono ?_; rintro x wm ⟨rfl, rfl⟩
                refine hK.out _ _ ?_ (fun s2 => ?_)
                · exact s1
                try simp only [Act.put, qA, qB, qC, qD, qE, qF]
                refine tk 19 rfl ?_
                try simp only [Act.put, qA, qB, qC, qD, qE, qF]
                refine tk 20 rfl ?_
                try simp only [Act.put, qA, qB, qC, qD, qE, qF]
                refine wpAnyH_done (by kernel_rfl) ?_ _
                have HB7 := Lib.hid (bel HB6.out s2)
                have HG : Hid (okTo L (i + 1) = true) := Lib.hid (by rw [HOK.out, HAT.out]; simp only [Bool.and_eq_true, Bool.or_eq_true, decide_eq_true_eq]; exact HALL.out)
                clear s0 x0 x1
                go_wp2_with fail
                go_roundw
                case rel => exact ⟨i + 1, HLT.out, by go_num, HG, HB7⟩
                case measure => simp [intOf]; have := HLT.out; omega
          · have db : (px != px - px % 64) = true := by simp; omega
            have HBAD : Hid ((((¬ i = 0 ∧ ¬ qx < px) ∨ ¬ px % 64 = 0) ∨ ¬ 1 ≤ pn) ∨ ¬ pn ≤ 65535) := Lib.hid (Or.inl (Or.inl (Or.inr h64)))
            clear h64
            refine wp_region_held_drew (S := (fun W => Below wx.heap.size wx W)) (by kernel_rfl) ?_ (fun r0 => ?_)
            · exact ⟨rfl, rfl, rfl, Nat.le_refl _, fun _ _ => rfl⟩
            refine tk 0 rfl ?_
            try simp only [Act.put, qA, qB, qC, qD, qE, qF]
            refine tk 1 rfl ?_
            try simp only [Act.put, qA, qB, qC, qD, qE, qF]
            refine tk 2 rfl ?_
            try simp only [Act.put, qA, qB, qC, qD, qE, qF]
            refine tk 3 rfl ?_
            try simp only [Act.put, qA, qB, qC, qD, qE, qF]
            refine tq (v := ?_) 4 rfl ?_ ?_
            rotate_left
            · intro wS hSw
              (try dsimp only at hSw)
              have c0 := bcell hSw c0
              have y0 := bcell hSw y0
              have x0 := bcell hSw x0
              go_simp
              first | done | with_reducible rfl
            try simp only [Act.put, qA, qB, qC, qD, qE, qF]
            refine tk 5 rfl ?_
            try simp only [Act.put, qA, qB, qC, qD, qE, qF]
            refine tk 6 rfl ?_
            try simp only [Act.put, qA, qB, qC, qD, qE, qF]
            refine tk 7 rfl ?_
            try simp only [Act.put, qA, qB, qC, qD, qE, qF]
            refine tk 8 rfl ?_
            try simp only [Act.put, qA, qB, qC, qD, qE, qF]
            refine tq (v := ?_) 9 rfl ?_ ?_
            rotate_left
            · intro wS hSw
              (try dsimp only at hSw)
              have c0 := bcell hSw c0
              have y0 := bcell hSw y0
              have x0 := bcell hSw x0
              go_simp
              first | done | with_reducible rfl
            try simp only [Act.put, qA, qB, qC, qD, qE, qF]
            refine tk 10 rfl ?_
            try simp only [Act.put, qA, qB, qC, qD, qE, qF]
            refine tq (v := ?_) 11 rfl ?_ ?_
            rotate_left
            · intro wS hSw
              (try dsimp only at hSw)
              have c0 := bcell hSw c0
              have y0 := bcell hSw y0
              have x0 := bcell hSw x0
              go_simp
              first | done | with_reducible rfl
            try simp only [Act.put, qA, qB, qC, qD, qE, qF]
            refine tk 12 rfl ?_
            try simp only [Act.put, qA, qB, qC, qD, qE, qF]
            refine tk 13 rfl ?_
            try simp only [Act.put, qA, qB, qC, qD, qE, qF]
            refine tk 14 rfl ?_
            try simp only [Act.put, qA, qB, qC, qD, qE, qF]
            refine wpAnyH_done (by kernel_rfl) ?_ _
            generalize wx.drew = W6 at r0 ⊢
            have HB6 := Lib.hid (bel HBX.out r0)
            have x0 := bcell r0 x0
            have x1 := bcell r0 x1
            clear c0
            try clear y0
            try clear r0
            go_upto_region 7 with fail
            refine wp_region_held_drew (S := (fun W => Below W6.heap.size W6 W)) (by kernel_rfl) ?_ (fun s0 => ?_)
            · exact ⟨rfl, rfl, rfl, Nat.le_refl _, fun _ _ => rfl⟩
            refine tk 0 rfl ?_
            try simp only [Act.put, qA, qB, qC, qD, qE, qF]
            refine tk 1 rfl ?_
            try simp only [Act.put, qA, qB, qC, qD, qE, qF]
            refine tk 2 rfl ?_
            try simp only [Act.put, qA, qB, qC, qD, qE, qF]
            refine tk 3 rfl ?_
            try simp only [Act.put, qA, qB, qC, qD, qE, qF]
            refine tq (v := ?_) 4 rfl ?_ ?_
            rotate_left
            · intro wS hSw
              (try dsimp only at hSw)
              have x0 := bcell hSw x0
              have x1 := bcell hSw x1
              go_simp
              first | done | with_reducible rfl
            try simp only [Act.put, qA, qB, qC, qD, qE, qF]
            refine tk 5 rfl ?_
            try simp only [Act.put, qA, qB, qC, qD, qE, qF]
            refine tq (v := ?_) 6 rfl ?_ ?_
            rotate_left
            · intro wS hSw
              (try dsimp only at hSw)
              have x0 := bcell hSw x0
              have x1 := bcell hSw x1
              go_simp
              first | done | with_reducible rfl
            try simp only [Act.put, qA, qB, qC, qD, qE, qF]
            refine wpAnyH_ready (rs := [7]) (by kernel_rfl) (by simp) ?_
            refine AllReadyH.cons rfl (fun K hK => ?_) AllReadyH.nil
            go_simp
            refine (HF.out _).mono ?_; rintro x wf ⟨rfl, hbf⟩
            refine hK.out _ _ ?_ (fun s1 => ?_)
            · exact bel s0 hbf
            try simp only [Act.put, qA, qB, qC, qD, qE, qF]
            refine tk 8 rfl ?_
            try simp only [Act.put, qA, qB, qC, qD, qE, qF]
            refine tk 9 rfl ?_
            try simp only [Act.put, qA, qB, qC, qD, qE, qF]
            refine tk 10 rfl ?_
            try simp only [Act.put, qA, qB, qC, qD, qE, qF]
            refine sk 11 rfl ?_
            try simp only [Act.put, qA, qB, qC, qD, qE, qF]
            refine sk 12 rfl ?_
            try simp only [Act.put, qA, qB, qC, qD, qE, qF]
            refine sk 13 rfl ?_
            try simp only [Act.put, qA, qB, qC, qD, qE, qF]
            refine tk 14 rfl ?_
            try simp only [Act.put, qA, qB, qC, qD, qE, qF]
            refine tk 15 rfl ?_
            try simp only [Act.put, qA, qB, qC, qD, qE, qF]
            refine sk 16 rfl ?_
            try simp only [Act.put, qA, qB, qC, qD, qE, qF]
            refine sk 17 rfl ?_
            try simp only [Act.put, qA, qB, qC, qD, qE, qF]
            refine sk 18 rfl ?_
            try simp only [Act.put, qA, qB, qC, qD, qE, qF]
            refine sk 19 rfl ?_
            try simp only [Act.put, qA, qB, qC, qD, qE, qF]
            refine tk 20 rfl ?_
            try simp only [Act.put, qA, qB, qC, qD, qE, qF]
            refine wpAnyH_done (by kernel_rfl) ?_ _
            have HB7 := Lib.hid (bel HB6.out s1)
            have HV := Lib.hid (HNO.out (by rw [HAT.out]; simp only [Bool.and_eq_false_iff, Bool.or_eq_false_iff, decide_eq_false_iff_not]; exact HBAD.out))
            clear s0 x0 x1
            go_wp2_with fail
            go_ret
            exact ⟨by rw [HV.out]; rfl, HB0.out.trans (HB7.out.mono HB0.out.size)⟩
        · have dq : decide (qx < px) = false := by simpa using hq
          have HBAD : Hid ((((¬ i = 0 ∧ ¬ qx < px) ∨ ¬ px % 64 = 0) ∨ ¬ 1 ≤ pn) ∨ ¬ pn ≤ 65535) := Lib.hid (Or.inl (Or.inl (Or.inl ⟨h0, hq⟩)))
          clear hq
          refine wp_region_held_drew (S := (fun W => Below wx.heap.size wx W)) (by kernel_rfl) ?_ (fun r0 => ?_)
          · exact ⟨rfl, rfl, rfl, Nat.le_refl _, fun _ _ => rfl⟩
          refine tk 0 rfl ?_
          try simp only [Act.put, qA, qB, qC, qD, qE, qF]
          refine tk 1 rfl ?_
          try simp only [Act.put, qA, qB, qC, qD, qE, qF]
          refine tk 2 rfl ?_
          try simp only [Act.put, qA, qB, qC, qD, qE, qF]
          refine tk 3 rfl ?_
          try simp only [Act.put, qA, qB, qC, qD, qE, qF]
          refine tq (v := ?_) 4 rfl ?_ ?_
          rotate_left
          · intro wS hSw
            (try dsimp only at hSw)
            have c0 := bcell hSw c0
            have y0 := bcell hSw y0
            have x0 := bcell hSw x0
            go_simp
            first | done | with_reducible rfl
          try simp only [Act.put, qA, qB, qC, qD, qE, qF]
          refine tk 5 rfl ?_
          try simp only [Act.put, qA, qB, qC, qD, qE, qF]
          refine tk 6 rfl ?_
          try simp only [Act.put, qA, qB, qC, qD, qE, qF]
          refine tk 7 rfl ?_
          try simp only [Act.put, qA, qB, qC, qD, qE, qF]
          refine tk 8 rfl ?_
          try simp only [Act.put, qA, qB, qC, qD, qE, qF]
          refine tq (v := ?_) 9 rfl ?_ ?_
          rotate_left
          · intro wS hSw
            (try dsimp only at hSw)
            have c0 := bcell hSw c0
            have y0 := bcell hSw y0
            have x0 := bcell hSw x0
            go_simp
            first | done | with_reducible rfl
          try simp only [Act.put, qA, qB, qC, qD, qE, qF]
          refine tk 10 rfl ?_
          try simp only [Act.put, qA, qB, qC, qD, qE, qF]
          refine tq (v := ?_) 11 rfl ?_ ?_
          rotate_left
          · intro wS hSw
            (try dsimp only at hSw)
            have c0 := bcell hSw c0
            have y0 := bcell hSw y0
            have x0 := bcell hSw x0
            go_simp
            first | done | with_reducible rfl
          try simp only [Act.put, qA, qB, qC, qD, qE, qF]
          refine tk 12 rfl ?_
          try simp only [Act.put, qA, qB, qC, qD, qE, qF]
          refine tk 13 rfl ?_
          try simp only [Act.put, qA, qB, qC, qD, qE, qF]
          refine tk 14 rfl ?_
          try simp only [Act.put, qA, qB, qC, qD, qE, qF]
          refine wpAnyH_done (by kernel_rfl) ?_ _
          generalize wx.drew = W6 at r0 ⊢
          have HB6 := Lib.hid (bel HBX.out r0)
          have x0 := bcell r0 x0
          have x1 := bcell r0 x1
          clear c0
          try clear y0
          try clear r0
          go_upto_region 7 with fail
          refine wp_region_held_drew (S := (fun W => Below W6.heap.size W6 W)) (by kernel_rfl) ?_ (fun s0 => ?_)
          · exact ⟨rfl, rfl, rfl, Nat.le_refl _, fun _ _ => rfl⟩
          refine tk 0 rfl ?_
          try simp only [Act.put, qA, qB, qC, qD, qE, qF]
          refine tk 1 rfl ?_
          try simp only [Act.put, qA, qB, qC, qD, qE, qF]
          refine tk 2 rfl ?_
          try simp only [Act.put, qA, qB, qC, qD, qE, qF]
          refine sk 3 rfl ?_
          try simp only [Act.put, qA, qB, qC, qD, qE, qF]
          refine sk 4 rfl ?_
          try simp only [Act.put, qA, qB, qC, qD, qE, qF]
          refine sk 5 rfl ?_
          try simp only [Act.put, qA, qB, qC, qD, qE, qF]
          refine sk 6 rfl ?_
          try simp only [Act.put, qA, qB, qC, qD, qE, qF]
          refine sk 7 rfl ?_
          try simp only [Act.put, qA, qB, qC, qD, qE, qF]
          refine sk 8 rfl ?_
          try simp only [Act.put, qA, qB, qC, qD, qE, qF]
          refine tk 9 rfl ?_
          try simp only [Act.put, qA, qB, qC, qD, qE, qF]
          refine tk 10 rfl ?_
          try simp only [Act.put, qA, qB, qC, qD, qE, qF]
          refine sk 11 rfl ?_
          try simp only [Act.put, qA, qB, qC, qD, qE, qF]
          refine sk 12 rfl ?_
          try simp only [Act.put, qA, qB, qC, qD, qE, qF]
          refine sk 13 rfl ?_
          try simp only [Act.put, qA, qB, qC, qD, qE, qF]
          refine tk 14 rfl ?_
          try simp only [Act.put, qA, qB, qC, qD, qE, qF]
          refine tk 15 rfl ?_
          try simp only [Act.put, qA, qB, qC, qD, qE, qF]
          refine sk 16 rfl ?_
          try simp only [Act.put, qA, qB, qC, qD, qE, qF]
          refine sk 17 rfl ?_
          try simp only [Act.put, qA, qB, qC, qD, qE, qF]
          refine sk 18 rfl ?_
          try simp only [Act.put, qA, qB, qC, qD, qE, qF]
          refine sk 19 rfl ?_
          try simp only [Act.put, qA, qB, qC, qD, qE, qF]
          refine tk 20 rfl ?_
          try simp only [Act.put, qA, qB, qC, qD, qE, qF]
          refine wpAnyH_done (by kernel_rfl) ?_ _
          have HB7 := Lib.hid (bel HB6.out s0)
          have HV := Lib.hid (HNO.out (by rw [HAT.out]; simp only [Bool.and_eq_false_iff, Bool.or_eq_false_iff, decide_eq_false_iff_not]; exact HBAD.out))
          clear s0 x0 x1
          go_wp2_with fail
          go_ret
          exact ⟨by rw [HV.out]; rfl, HB0.out.trans (HB7.out.mono HB0.out.size)⟩
    · obtain rfl : i = L.length := by omega
      have HV : Hid (R = true) := Lib.hid (by rw [HR.out]; exact HJ.out)
      go_wp2_with fail
      go_ret
      exact ⟨by rw [HV.out]; rfl, HB0.out.trans (HBw.out.mono HB0.out.size)⟩
end Go.Proofs.YtiifbhiodegipaaGreatDoor.HN
namespace Go.Proofs.YtiifbhiodegipaaGreatDoor.HN
open Go.RowKit
theorem putL_ne {n k : Int} (h0 : 1 ≤ k) (h1 : k ≤ 8) : (putL n k).length = k.toNat := by
  unfold putL
  rw [if_pos (by unfold wOk; simp; omega), numBytes_length]
def cnt8 (p : Int × Int) : List Int := putL p.1 4 ++ putL p.2 2
def hnB (L : CntL) : List Int := (72 :: putL L.length 2) ++ L.flatMap cnt8
theorem cnt8_len (L : CntL) : (L.flatMap cnt8).length = L.length * 6 := by
  induction L with
  | nil => rfl
  | cons p L ih =>
    rw [List.flatMap_cons, List.length_append, ih, List.length_cons]
    unfold cnt8
    rw [List.length_append, putL_ne (by decide) (by decide), putL_ne (by decide) (by decide)]
    have : (4 : Int).toNat = 4 := rfl
    have : (2 : Int).toNat = 2 := rfl
    omega
end Go.Proofs.YtiifbhiodegipaaGreatDoor.HN
