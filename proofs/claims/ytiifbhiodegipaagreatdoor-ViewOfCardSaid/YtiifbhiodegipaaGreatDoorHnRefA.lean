/- Package virgateref17: Right. -/
import Derived.Test.YtiifbhiodegipaaGreatDoorSq
import Derived.Test.YtiifbhiodegipaaGreatDoorHnSet
import Derived.Test.YtiifbhiodegipaaGreatDoorHnRight
namespace Go.Proofs.YtiifbhiodegipaaGreatDoor.HN
open Go.RowKit
set_option maxRecDepth 100000 in
set_option maxHeartbeats 8000000 in
theorem refRight_any (v : Value) (L : CntL) (w : World) (h : SeesC w v L) (hb : CntBd L) (hl : L.length ≤ 4096) :
    Calls Tryz.prog 85 #[v] w fun e w' => e = .returned (.bool (rightH L)) ∧ Below w.heap.size w w' := by
  obtain ⟨ao, c, rfl, hlc, hnil, hc⟩ := h
  have HC := Lib.hid (And.intro hnil hc)
  have HBD := Lib.hid hb
  have HL := Lib.hid hl
  obtain ⟨R, hR⟩ : ∃ R, R = rightH L := ⟨_, rfl⟩
  rw [← hR]
  have HR := Lib.hid hR
  clear hnil hc hb hR
  go_enter Tryz.func85, Tryz.ntmps85
  go_wp2_with fail
  go_loopw [7] (fun j wr => ∃ i : Nat, i ≤ L.length ∧ j = .int .i64 i ∧ Hid (okTo L i = true) ∧ Hid (Below w.heap.size w wr)) (fun j _ => L.length - (intOf j).toNat)
  case atStart => exact ⟨0, Nat.zero_le _, rfl, Lib.hid rfl, Lib.hid (Below.refl _ _)⟩
  case round =>
    obtain ⟨i, hi, rfl, HJ, HBw⟩ := hrel
    by_cases hlt : i < L.length
    · obtain ⟨a, rfl⟩ : ∃ a, ao = some a := by
        cases ao with
        | none => rw [HC.out.1 rfl] at hlt; simp at hlt
        | some a => exact ⟨a, rfl⟩
      obtain ⟨q0, q1⟩ := HC.out.2 a rfl i _ (at2_get hlt)
      have q0 := bcell HBw.out q0
      have q1 := ofs1 (bcell HBw.out q1)
      have b0 : (0 : Int) ≤ (i : Int) := by omega
      have b1 : (i : Int) < (L.length : Int) := by omega
      have d1 : decide ((i : Int) < (L.length : Int)) = true := by simp; omega
      have HOK : Hid (okTo L (i + 1) = okAt L i) := Lib.hid (by rw [okTo, HJ.out]; rfl)
      have HNO : Hid (okAt L i = false → R = false) := Lib.hid (fun e => by rw [HR.out]; exact okTo_no (i := i + 1) (by rw [HOK.out, e]) hlt)
      have HLT := Lib.hid hlt
      have hpb := at2_bd HBD.out i
      have HAT : Hid (okAt L i = ((decide (i = 0) || decide ((at2 L (i - 1)).1 < (at2 L i).1)) && decide ((at2 L i).1 % 64 = 0) && decide (1 ≤ (at2 L i).2) && decide ((at2 L i).2 ≤ 65535))) := Lib.hid rfl
      have HPV : Hid (i ≠ 0 → w.cell? (a.add ((i - 1) * 2)) = some (.int .u32 (at2 L (i - 1)).1)) := Lib.hid (fun h0 => (HC.out.2 a rfl (i - 1) _ (at2_get (by omega))).1)
      generalize at2 L i = p at q0 q1 hpb HAT
      generalize at2 L (i - 1) = q at HAT HPV
      obtain ⟨px, pn⟩ := p
      obtain ⟨qx, qn⟩ := q
      simp only [] at q0 q1 hpb HAT HPV
      have htm : Int.tmod px 64 = px % 64 := Int.tmod_eq_emod_of_nonneg hpb.1.1
      clear hpb
      go_upto_region 4 with fail
      obtain ⟨wx, hwx⟩ : ∃ wx, wx = wr.alloc (cntO (px, pn) ER) := ⟨_, rfl⟩
      have hx1 : wx.heap[wr.heap.size]? = some (cntO (px, pn) ER) := by rw [hwx]; exact heap_new wr _
      have hbx : Below wr.heap.size wr wx := by rw [hwx]; exact belNew _ _
      change Code.wp _ _ _ _ (wr.alloc (cntO (px, pn) ER))
      rw [← hwx]
      obtain ⟨x0, x1⟩ := ccells hx1
      have HBX := Lib.hid (bel HBw.out hbx)
      clear hwx hbx hx1 q0 q1
      by_cases h64 : px % 64 = 0
      · have db : (px % 64 != 0) = false := by simpa using h64
        by_cases hn1 : pn < 1
        · have dn : decide (pn < 1) = true := by simpa using hn1
          have HBAD : Hid ((((¬ i = 0 ∧ ¬ qx < px) ∨ ¬ px % 64 = 0) ∨ ¬ 1 ≤ pn) ∨ ¬ pn ≤ 65535) := Lib.hid (Or.inl (Or.inr (by omega)))
          clear h64 hn1
          refine wp_region_held_drew (S := (fun W => Below wx.heap.size wx W)) (by kernel_rfl) ?_ (fun r0 => ?_)
          · exact ⟨rfl, rfl, rfl, Nat.le_refl _, fun _ _ => rfl⟩
          refine tk 0 rfl ?_
          try simp only [Act.put, qA, qB, qC, qD, qE, qF]
          refine tq (v := ?_) 1 rfl ?_ ?_
          rotate_left
          · intro wS hSw
            (try dsimp only at hSw)
            have x0 := bcell hSw x0
            have x1 := bcell hSw x1
            go_simp
            first | done | with_reducible rfl
          try simp only [Act.put, qA, qB, qC, qD, qE, qF]
          refine tk 2 rfl ?_
          try simp only [Act.put, qA, qB, qC, qD, qE, qF]
          refine tk 3 rfl ?_
          try simp only [Act.put, qA, qB, qC, qD, qE, qF]
          refine tk 4 rfl ?_
          try simp only [Act.put, qA, qB, qC, qD, qE, qF]
          refine tk 5 rfl ?_
          try simp only [Act.put, qA, qB, qC, qD, qE, qF]
          refine tq (v := ?_) 6 rfl ?_ ?_
          rotate_left
          · intro wS hSw
            (try dsimp only at hSw)
            have x0 := bcell hSw x0
            have x1 := bcell hSw x1
            go_simp
            first | done | with_reducible rfl
          try simp only [Act.put, qA, qB, qC, qD, qE, qF]
          refine tk 7 rfl ?_
          try simp only [Act.put, qA, qB, qC, qD, qE, qF]
          refine tk 8 rfl ?_
          try simp only [Act.put, qA, qB, qC, qD, qE, qF]
          refine tk 9 rfl ?_
          try simp only [Act.put, qA, qB, qC, qD, qE, qF]
          refine sk 10 rfl ?_
          try simp only [Act.put, qA, qB, qC, qD, qE, qF]
          refine sk 11 rfl ?_
          try simp only [Act.put, qA, qB, qC, qD, qE, qF]
          refine sk 12 rfl ?_
          try simp only [Act.put, qA, qB, qC, qD, qE, qF]
          refine tk 13 rfl ?_
          try simp only [Act.put, qA, qB, qC, qD, qE, qF]
          refine tk 14 rfl ?_
          try simp only [Act.put, qA, qB, qC, qD, qE, qF]
          refine sk 15 rfl ?_
          try simp only [Act.put, qA, qB, qC, qD, qE, qF]
          refine sk 16 rfl ?_
          try simp only [Act.put, qA, qB, qC, qD, qE, qF]
          refine sk 17 rfl ?_
          try simp only [Act.put, qA, qB, qC, qD, qE, qF]
          refine sk 18 rfl ?_
          try simp only [Act.put, qA, qB, qC, qD, qE, qF]
          refine sk 19 rfl ?_
          try simp only [Act.put, qA, qB, qC, qD, qE, qF]
          refine sk 20 rfl ?_
          try simp only [Act.put, qA, qB, qC, qD, qE, qF]
          refine sk 21 rfl ?_
          try simp only [Act.put, qA, qB, qC, qD, qE, qF]
          refine sk 22 rfl ?_
          try simp only [Act.put, qA, qB, qC, qD, qE, qF]
          refine sk 23 rfl ?_
          try simp only [Act.put, qA, qB, qC, qD, qE, qF]
          refine sk 24 rfl ?_
          try simp only [Act.put, qA, qB, qC, qD, qE, qF]
          refine sk 25 rfl ?_
          try simp only [Act.put, qA, qB, qC, qD, qE, qF]
          refine sk 26 rfl ?_
          try simp only [Act.put, qA, qB, qC, qD, qE, qF]
          refine sk 27 rfl ?_
          try simp only [Act.put, qA, qB, qC, qD, qE, qF]
          refine tk 28 rfl ?_
          try simp only [Act.put, qA, qB, qC, qD, qE, qF]
          refine wpAnyH_done (by kernel_rfl) ?_ _
          have HB6 := Lib.hid (bel HBX.out r0)
          clear x0 x1
          try clear y0
          have HV := Lib.hid (HNO.out (by rw [HAT.out]; simp only [Bool.and_eq_false_iff, Bool.or_eq_false_iff, decide_eq_false_iff_not]; exact HBAD.out))
          go_wp2_with fail
          go_ret
          exact ⟨by rw [HV.out]; rfl, HB6.out⟩
        · have dn : decide (pn < 1) = false := by simpa using hn1
          by_cases hn2 : 65535 < pn
          · have dm : decide (65535 < pn) = true := by simpa using hn2
            have HBAD : Hid ((((¬ i = 0 ∧ ¬ qx < px) ∨ ¬ px % 64 = 0) ∨ ¬ 1 ≤ pn) ∨ ¬ pn ≤ 65535) := Lib.hid (Or.inr (by omega))
            clear h64 hn1 hn2
            refine wp_region_held_drew (S := (fun W => Below wx.heap.size wx W)) (by kernel_rfl) ?_ (fun r0 => ?_)
            · exact ⟨rfl, rfl, rfl, Nat.le_refl _, fun _ _ => rfl⟩
            refine tk 0 rfl ?_
            try simp only [Act.put, qA, qB, qC, qD, qE, qF]
            refine tq (v := ?_) 1 rfl ?_ ?_
            rotate_left
            · intro wS hSw
              (try dsimp only at hSw)
              have x0 := bcell hSw x0
              have x1 := bcell hSw x1
              go_simp
              first | done | with_reducible rfl
            try simp only [Act.put, qA, qB, qC, qD, qE, qF]
            refine tk 2 rfl ?_
            try simp only [Act.put, qA, qB, qC, qD, qE, qF]
            refine tk 3 rfl ?_
            try simp only [Act.put, qA, qB, qC, qD, qE, qF]
            refine tk 4 rfl ?_
            try simp only [Act.put, qA, qB, qC, qD, qE, qF]
            refine tk 5 rfl ?_
            try simp only [Act.put, qA, qB, qC, qD, qE, qF]
            refine tq (v := ?_) 6 rfl ?_ ?_
            rotate_left
            · intro wS hSw
              (try dsimp only at hSw)
              have x0 := bcell hSw x0
              have x1 := bcell hSw x1
              go_simp
              first | done | with_reducible rfl
            try simp only [Act.put, qA, qB, qC, qD, qE, qF]
            refine tk 7 rfl ?_
            try simp only [Act.put, qA, qB, qC, qD, qE, qF]
            refine tk 8 rfl ?_
            try simp only [Act.put, qA, qB, qC, qD, qE, qF]
            refine tk 9 rfl ?_
            try simp only [Act.put, qA, qB, qC, qD, qE, qF]
            refine tk 10 rfl ?_
            try simp only [Act.put, qA, qB, qC, qD, qE, qF]
            refine tq (v := ?_) 11 rfl ?_ ?_
            rotate_left
            · intro wS hSw
              (try dsimp only at hSw)
              have x0 := bcell hSw x0
              have x1 := bcell hSw x1
              go_simp
              first | done | with_reducible rfl
            try simp only [Act.put, qA, qB, qC, qD, qE, qF]
            refine tk 12 rfl ?_
            try simp only [Act.put, qA, qB, qC, qD, qE, qF]
            refine tk 13 rfl ?_
            try simp only [Act.put, qA, qB, qC, qD, qE, qF]
            refine tk 14 rfl ?_
            try simp only [Act.put, qA, qB, qC, qD, qE, qF]
            refine sk 15 rfl ?_
            try simp only [Act.put, qA, qB, qC, qD, qE, qF]
            refine sk 16 rfl ?_
            try simp only [Act.put, qA, qB, qC, qD, qE, qF]
            refine sk 17 rfl ?_
            try simp only [Act.put, qA, qB, qC, qD, qE, qF]
            refine sk 18 rfl ?_
            try simp only [Act.put, qA, qB, qC, qD, qE, qF]
            refine sk 19 rfl ?_
            try simp only [Act.put, qA, qB, qC, qD, qE, qF]
            refine sk 20 rfl ?_
            try simp only [Act.put, qA, qB, qC, qD, qE, qF]
            refine sk 21 rfl ?_
            try simp only [Act.put, qA, qB, qC, qD, qE, qF]
            refine sk 22 rfl ?_
            try simp only [Act.put, qA, qB, qC, qD, qE, qF]
            refine sk 23 rfl ?_
            try simp only [Act.put, qA, qB, qC, qD, qE, qF]
            refine sk 24 rfl ?_
            try simp only [Act.put, qA, qB, qC, qD, qE, qF]
            refine sk 25 rfl ?_
            try simp only [Act.put, qA, qB, qC, qD, qE, qF]
            refine sk 26 rfl ?_
            try simp only [Act.put, qA, qB, qC, qD, qE, qF]
            refine sk 27 rfl ?_
            try simp only [Act.put, qA, qB, qC, qD, qE, qF]
            refine tk 28 rfl ?_
            try simp only [Act.put, qA, qB, qC, qD, qE, qF]
            refine wpAnyH_done (by kernel_rfl) ?_ _
            have HB6 := Lib.hid (bel HBX.out r0)
            clear x0 x1
            try clear y0
            have HV := Lib.hid (HNO.out (by rw [HAT.out]; simp only [Bool.and_eq_false_iff, Bool.or_eq_false_iff, decide_eq_false_iff_not]; exact HBAD.out))
            go_wp2_with fail
            go_ret
            exact ⟨by rw [HV.out]; rfl, HB6.out⟩
          · have dm : decide (65535 < pn) = false := by simpa using hn2
            by_cases h0 : i = 0
            · have d0 : decide ((0 : Int) < (i : Int)) = false := by simp; omega
              have d0n : decide (0 < i) = false := by simp; omega
              have HALL : Hid ((((i = 0 ∨ qx < px) ∧ px % 64 = 0) ∧ 1 ≤ pn) ∧ pn ≤ 65535) := Lib.hid ⟨⟨⟨Or.inl h0, h64⟩, by omega⟩, by omega⟩
              clear h64 hn1 hn2 h0
              refine wp_region_held_drew (S := (fun W => Below wx.heap.size wx W)) (by kernel_rfl) ?_ (fun r0 => ?_)
              · exact ⟨rfl, rfl, rfl, Nat.le_refl _, fun _ _ => rfl⟩
              refine tk 0 rfl ?_
              try simp only [Act.put, qA, qB, qC, qD, qE, qF]
              refine tq (v := ?_) 1 rfl ?_ ?_
              rotate_left
              · intro wS hSw
                (try dsimp only at hSw)
                have x0 := bcell hSw x0
                have x1 := bcell hSw x1
                go_simp
                first | done | with_reducible rfl
              try simp only [Act.put, qA, qB, qC, qD, qE, qF]
              refine tk 2 rfl ?_
              try simp only [Act.put, qA, qB, qC, qD, qE, qF]
              refine tk 3 rfl ?_
              try simp only [Act.put, qA, qB, qC, qD, qE, qF]
              refine tk 4 rfl ?_
              try simp only [Act.put, qA, qB, qC, qD, qE, qF]
              refine tk 5 rfl ?_
              try simp only [Act.put, qA, qB, qC, qD, qE, qF]
              refine tq (v := ?_) 6 rfl ?_ ?_
              rotate_left
              · intro wS hSw
                (try dsimp only at hSw)
                have x0 := bcell hSw x0
                have x1 := bcell hSw x1
                go_simp
                first | done | with_reducible rfl
              try simp only [Act.put, qA, qB, qC, qD, qE, qF]
              refine tk 7 rfl ?_
              try simp only [Act.put, qA, qB, qC, qD, qE, qF]
              refine tk 8 rfl ?_
              try simp only [Act.put, qA, qB, qC, qD, qE, qF]
              refine tk 9 rfl ?_
              try simp only [Act.put, qA, qB, qC, qD, qE, qF]
              refine tk 10 rfl ?_
              try simp only [Act.put, qA, qB, qC, qD, qE, qF]
              refine tq (v := ?_) 11 rfl ?_ ?_
              rotate_left
              · intro wS hSw
                (try dsimp only at hSw)
                have x0 := bcell hSw x0
                have x1 := bcell hSw x1
                go_simp
                first | done | with_reducible rfl
              try simp only [Act.put, qA, qB, qC, qD, qE, qF]
              refine tk 12 rfl ?_
              try simp only [Act.put, qA, qB, qC, qD, qE, qF]
              refine tk 13 rfl ?_
              try simp only [Act.put, qA, qB, qC, qD, qE, qF]
              refine tk 14 rfl ?_
              try simp only [Act.put, qA, qB, qC, qD, qE, qF]
              refine tk 15 rfl ?_
              try simp only [Act.put, qA, qB, qC, qD, qE, qF]
              refine tk 16 rfl ?_
              try simp only [Act.put, qA, qB, qC, qD, qE, qF]
              refine tk 17 rfl ?_
              try simp only [Act.put, qA, qB, qC, qD, qE, qF]
              refine sk 18 rfl ?_
              try simp only [Act.put, qA, qB, qC, qD, qE, qF]
              refine sk 19 rfl ?_
              try simp only [Act.put, qA, qB, qC, qD, qE, qF]
              refine sk 20 rfl ?_
              try simp only [Act.put, qA, qB, qC, qD, qE, qF]
              refine sk 21 rfl ?_
              try simp only [Act.put, qA, qB, qC, qD, qE, qF]
              refine sk 22 rfl ?_
              try simp only [Act.put, qA, qB, qC, qD, qE, qF]
              refine sk 23 rfl ?_
              try simp only [Act.put, qA, qB, qC, qD, qE, qF]
              refine sk 24 rfl ?_
              try simp only [Act.put, qA, qB, qC, qD, qE, qF]
              refine sk 25 rfl ?_
              try simp only [Act.put, qA, qB, qC, qD, qE, qF]
              refine sk 26 rfl ?_
              try simp only [Act.put, qA, qB, qC, qD, qE, qF]
              refine tk 27 rfl ?_
              try simp only [Act.put, qA, qB, qC, qD, qE, qF]
              refine tk 28 rfl ?_
              try simp only [Act.put, qA, qB, qC, qD, qE, qF]
              refine wpAnyH_done (by kernel_rfl) ?_ _
              have HB6 := Lib.hid (bel HBX.out r0)
              clear x0 x1
              try clear y0
              have HG : Hid (okTo L (i + 1) = true) := Lib.hid (by rw [HOK.out, HAT.out]; simp only [Bool.and_eq_true, Bool.or_eq_true, decide_eq_true_eq]; exact HALL.out)
              go_wp2_with fail
              go_roundw
              case rel => exact ⟨i + 1, HLT.out, by go_num, HG, HB6⟩
              case measure => simp [intOf]; have := HLT.out; omega
            · have d0 : decide ((0 : Int) < (i : Int)) = true := by simp; omega
              have d0n : decide (0 < i) = true := by simp; omega
              have y0 := bcell HBX.out (HPV.out h0)
              have s1 : IntKind.i64.wrap ((i : Int) - 1) = (i : Int) - 1 := IntWalk.i64_in _ (by omega)
              have s2 : (0 : Int) ≤ (i : Int) - 1 := by omega
              have s5 : (1 : Int) ≤ (i : Int) := by omega
              have s3 : (i : Int) - 1 < (L.length : Int) := by omega
              have s4 : ((i : Int) - 1).toNat = i - 1 := by omega
              by_cases hq : qx < px
              · have dq : decide (px ≤ qx) = false := by simp; omega
                have HALL : Hid ((((i = 0 ∨ qx < px) ∧ px % 64 = 0) ∧ 1 ≤ pn) ∧ pn ≤ 65535) := Lib.hid ⟨⟨⟨Or.inr hq, h64⟩, by omega⟩, by omega⟩
                clear h64 hn1 hn2 h0 hq
                refine wp_region_held_drew (S := (fun W => Below wx.heap.size wx W)) (by kernel_rfl) ?_ (fun r0 => ?_)
                · exact ⟨rfl, rfl, rfl, Nat.le_refl _, fun _ _ => rfl⟩
                refine tk 0 rfl ?_
                try simp only [Act.put, qA, qB, qC, qD, qE, qF]
                refine tq (v := ?_) 1 rfl ?_ ?_
                rotate_left
                · intro wS hSw
                  (try dsimp only at hSw)
                  have x0 := bcell hSw x0
                  have x1 := bcell hSw x1
                  have y0 := bcell hSw y0
                  go_simp
                  first | done | with_reducible rfl
                try simp only [Act.put, qA, qB, qC, qD, qE, qF]
                refine tk 2 rfl ?_
                try simp only [Act.put, qA, qB, qC, qD, qE, qF]
                refine tk 3 rfl ?_
                try simp only [Act.put, qA, qB, qC, qD, qE, qF]
                refine tk 4 rfl ?_
                try simp only [Act.put, qA, qB, qC, qD, qE, qF]
                refine tk 5 rfl ?_
                try simp only [Act.put, qA, qB, qC, qD, qE, qF]
                refine tq (v := ?_) 6 rfl ?_ ?_
                rotate_left
                · intro wS hSw
                  (try dsimp only at hSw)
                  have x0 := bcell hSw x0
                  have x1 := bcell hSw x1
                  have y0 := bcell hSw y0
                  go_simp
                  first | done | with_reducible rfl
                try simp only [Act.put, qA, qB, qC, qD, qE, qF]
                refine tk 7 rfl ?_
                try simp only [Act.put, qA, qB, qC, qD, qE, qF]
                refine tk 8 rfl ?_
                try simp only [Act.put, qA, qB, qC, qD, qE, qF]
                refine tk 9 rfl ?_
                try simp only [Act.put, qA, qB, qC, qD, qE, qF]
                refine tk 10 rfl ?_
                try simp only [Act.put, qA, qB, qC, qD, qE, qF]
                refine tq (v := ?_) 11 rfl ?_ ?_
                rotate_left
                · intro wS hSw
                  (try dsimp only at hSw)
                  have x0 := bcell hSw x0
                  have x1 := bcell hSw x1
                  have y0 := bcell hSw y0
                  go_simp
                  first | done | with_reducible rfl
                try simp only [Act.put, qA, qB, qC, qD, qE, qF]
                refine tk 12 rfl ?_
                try simp only [Act.put, qA, qB, qC, qD, qE, qF]
                refine tk 13 rfl ?_
                try simp only [Act.put, qA, qB, qC, qD, qE, qF]
                refine tk 14 rfl ?_
                try simp only [Act.put, qA, qB, qC, qD, qE, qF]
                refine tk 15 rfl ?_
                try simp only [Act.put, qA, qB, qC, qD, qE, qF]
                refine tk 16 rfl ?_
                try simp only [Act.put, qA, qB, qC, qD, qE, qF]
                refine tk 17 rfl ?_
                try simp only [Act.put, qA, qB, qC, qD, qE, qF]
                refine tk 18 rfl ?_
                try simp only [Act.put, qA, qB, qC, qD, qE, qF]
                refine tq (v := ?_) 19 rfl ?_ ?_
                rotate_left
                · intro wS hSw
                  (try dsimp only at hSw)
                  have x0 := bcell hSw x0
                  have x1 := bcell hSw x1
                  have y0 := bcell hSw y0
                  go_simp
                  first | done | with_reducible rfl
                try simp only [Act.put, qA, qB, qC, qD, qE, qF]
                refine tk 20 rfl ?_
                try simp only [Act.put, qA, qB, qC, qD, qE, qF]
                refine tk 21 rfl ?_
                try simp only [Act.put, qA, qB, qC, qD, qE, qF]
                refine tk 22 rfl ?_
                try simp only [Act.put, qA, qB, qC, qD, qE, qF]
                refine tk 23 rfl ?_
                try simp only [Act.put, qA, qB, qC, qD, qE, qF]
                refine tk 24 rfl ?_
                try simp only [Act.put, qA, qB, qC, qD, qE, qF]
                refine tq (v := ?_) 25 rfl ?_ ?_
                rotate_left
                · intro wS hSw
                  (try dsimp only at hSw)
                  have x0 := bcell hSw x0
                  have x1 := bcell hSw x1
                  have y0 := bcell hSw y0
                  go_simp
                  first | done | with_reducible rfl
                try simp only [Act.put, qA, qB, qC, qD, qE, qF]
                refine tk 26 rfl ?_
                try simp only [Act.put, qA, qB, qC, qD, qE, qF]
                refine tk 27 rfl ?_
                try simp only [Act.put, qA, qB, qC, qD, qE, qF]
                refine tk 28 rfl ?_
                try simp only [Act.put, qA, qB, qC, qD, qE, qF]
                refine wpAnyH_done (by kernel_rfl) ?_ _
                have HB6 := Lib.hid (bel HBX.out r0)
                clear x0 x1
                try clear y0
                have HG : Hid (okTo L (i + 1) = true) := Lib.hid (by rw [HOK.out, HAT.out]; simp only [Bool.and_eq_true, Bool.or_eq_true, decide_eq_true_eq]; exact HALL.out)
                go_wp2_with fail
                go_roundw
                case rel => exact ⟨i + 1, HLT.out, by go_num, HG, HB6⟩
                case measure => simp [intOf]; have := HLT.out; omega
              · have dq : decide (px ≤ qx) = true := by simp; omega
                have HBAD : Hid ((((¬ i = 0 ∧ ¬ qx < px) ∨ ¬ px % 64 = 0) ∨ ¬ 1 ≤ pn) ∨ ¬ pn ≤ 65535) := Lib.hid (Or.inl (Or.inl (Or.inl ⟨h0, hq⟩)))
                clear h64 hn1 hn2 h0 hq
                refine wp_region_held_drew (S := (fun W => Below wx.heap.size wx W)) (by kernel_rfl) ?_ (fun r0 => ?_)
                · exact ⟨rfl, rfl, rfl, Nat.le_refl _, fun _ _ => rfl⟩
                refine tk 0 rfl ?_
                try simp only [Act.put, qA, qB, qC, qD, qE, qF]
                refine tq (v := ?_) 1 rfl ?_ ?_
                rotate_left
                · intro wS hSw
                  (try dsimp only at hSw)
                  have x0 := bcell hSw x0
                  have x1 := bcell hSw x1
                  have y0 := bcell hSw y0
                  go_simp
                  first | done | with_reducible rfl
                try simp only [Act.put, qA, qB, qC, qD, qE, qF]
                refine tk 2 rfl ?_
                try simp only [Act.put, qA, qB, qC, qD, qE, qF]
                refine tk 3 rfl ?_
                try simp only [Act.put, qA, qB, qC, qD, qE, qF]
                refine tk 4 rfl ?_
                try simp only [Act.put, qA, qB, qC, qD, qE, qF]
                refine tk 5 rfl ?_
                try simp only [Act.put, qA, qB, qC, qD, qE, qF]
                refine tq (v := ?_) 6 rfl ?_ ?_
                rotate_left
                · intro wS hSw
                  (try dsimp only at hSw)
                  have x0 := bcell hSw x0
                  have x1 := bcell hSw x1
                  have y0 := bcell hSw y0
                  go_simp
                  first | done | with_reducible rfl
                try simp only [Act.put, qA, qB, qC, qD, qE, qF]
                refine tk 7 rfl ?_
                try simp only [Act.put, qA, qB, qC, qD, qE, qF]
                refine tk 8 rfl ?_
                try simp only [Act.put, qA, qB, qC, qD, qE, qF]
                refine tk 9 rfl ?_
                try simp only [Act.put, qA, qB, qC, qD, qE, qF]
                refine tk 10 rfl ?_
                try simp only [Act.put, qA, qB, qC, qD, qE, qF]
                refine tq (v := ?_) 11 rfl ?_ ?_
                rotate_left
                · intro wS hSw
                  (try dsimp only at hSw)
                  have x0 := bcell hSw x0
                  have x1 := bcell hSw x1
                  have y0 := bcell hSw y0
                  go_simp
                  first | done | with_reducible rfl
                try simp only [Act.put, qA, qB, qC, qD, qE, qF]
                refine tk 12 rfl ?_
                try simp only [Act.put, qA, qB, qC, qD, qE, qF]
                refine tk 13 rfl ?_
                try simp only [Act.put, qA, qB, qC, qD, qE, qF]
                refine tk 14 rfl ?_
                try simp only [Act.put, qA, qB, qC, qD, qE, qF]
                refine tk 15 rfl ?_
                try simp only [Act.put, qA, qB, qC, qD, qE, qF]
                refine tk 16 rfl ?_
                try simp only [Act.put, qA, qB, qC, qD, qE, qF]
                refine tk 17 rfl ?_
                try simp only [Act.put, qA, qB, qC, qD, qE, qF]
                refine tk 18 rfl ?_
                try simp only [Act.put, qA, qB, qC, qD, qE, qF]
                refine tq (v := ?_) 19 rfl ?_ ?_
                rotate_left
                · intro wS hSw
                  (try dsimp only at hSw)
                  have x0 := bcell hSw x0
                  have x1 := bcell hSw x1
                  have y0 := bcell hSw y0
                  go_simp
                  first | done | with_reducible rfl
                try simp only [Act.put, qA, qB, qC, qD, qE, qF]
                refine tk 20 rfl ?_
                try simp only [Act.put, qA, qB, qC, qD, qE, qF]
                refine tk 21 rfl ?_
                try simp only [Act.put, qA, qB, qC, qD, qE, qF]
                refine tk 22 rfl ?_
                try simp only [Act.put, qA, qB, qC, qD, qE, qF]
                refine tk 23 rfl ?_
                try simp only [Act.put, qA, qB, qC, qD, qE, qF]
                refine tk 24 rfl ?_
                try simp only [Act.put, qA, qB, qC, qD, qE, qF]
                refine tq (v := ?_) 25 rfl ?_ ?_
                rotate_left
                · intro wS hSw
                  (try dsimp only at hSw)
                  have x0 := bcell hSw x0
                  have x1 := bcell hSw x1
                  have y0 := bcell hSw y0
                  go_simp
                  first | done | with_reducible rfl
                try simp only [Act.put, qA, qB, qC, qD, qE, qF]
                refine tk 26 rfl ?_
                try simp only [Act.put, qA, qB, qC, qD, qE, qF]
                refine tk 27 rfl ?_
                try simp only [Act.put, qA, qB, qC, qD, qE, qF]
                refine tk 28 rfl ?_
                try simp only [Act.put, qA, qB, qC, qD, qE, qF]
                refine wpAnyH_done (by kernel_rfl) ?_ _
                have HB6 := Lib.hid (bel HBX.out r0)
                clear x0 x1
                try clear y0
                have HV := Lib.hid (HNO.out (by rw [HAT.out]; simp only [Bool.and_eq_false_iff, Bool.or_eq_false_iff, decide_eq_false_iff_not]; exact HBAD.out))
                go_wp2_with fail
                go_ret
                exact ⟨by rw [HV.out]; rfl, HB6.out⟩
      · have db : (px % 64 != 0) = true := by simpa using h64
        have HBAD : Hid ((((¬ i = 0 ∧ ¬ qx < px) ∨ ¬ px % 64 = 0) ∨ ¬ 1 ≤ pn) ∨ ¬ pn ≤ 65535) := Lib.hid (Or.inl (Or.inl (Or.inr h64)))
        clear h64
        refine wp_region_held_drew (S := (fun W => Below wx.heap.size wx W)) (by kernel_rfl) ?_ (fun r0 => ?_)
        · exact ⟨rfl, rfl, rfl, Nat.le_refl _, fun _ _ => rfl⟩
        refine tk 0 rfl ?_
        try simp only [Act.put, qA, qB, qC, qD, qE, qF]
        refine tq (v := ?_) 1 rfl ?_ ?_
        rotate_left
        · intro wS hSw
          (try dsimp only at hSw)
          have x0 := bcell hSw x0
          have x1 := bcell hSw x1
          go_simp
          first | done | with_reducible rfl
        try simp only [Act.put, qA, qB, qC, qD, qE, qF]
        refine tk 2 rfl ?_
        try simp only [Act.put, qA, qB, qC, qD, qE, qF]
        refine tk 3 rfl ?_
        try simp only [Act.put, qA, qB, qC, qD, qE, qF]
        refine tk 4 rfl ?_
        try simp only [Act.put, qA, qB, qC, qD, qE, qF]
        refine sk 5 rfl ?_
        try simp only [Act.put, qA, qB, qC, qD, qE, qF]
        refine sk 6 rfl ?_
        try simp only [Act.put, qA, qB, qC, qD, qE, qF]
        refine sk 7 rfl ?_
        try simp only [Act.put, qA, qB, qC, qD, qE, qF]
        refine tk 8 rfl ?_
        try simp only [Act.put, qA, qB, qC, qD, qE, qF]
        refine tk 9 rfl ?_
        try simp only [Act.put, qA, qB, qC, qD, qE, qF]
        refine sk 10 rfl ?_
        try simp only [Act.put, qA, qB, qC, qD, qE, qF]
        refine sk 11 rfl ?_
        try simp only [Act.put, qA, qB, qC, qD, qE, qF]
        refine sk 12 rfl ?_
        try simp only [Act.put, qA, qB, qC, qD, qE, qF]
        refine tk 13 rfl ?_
        try simp only [Act.put, qA, qB, qC, qD, qE, qF]
        refine tk 14 rfl ?_
        try simp only [Act.put, qA, qB, qC, qD, qE, qF]
        refine sk 15 rfl ?_
        try simp only [Act.put, qA, qB, qC, qD, qE, qF]
        refine sk 16 rfl ?_
        try simp only [Act.put, qA, qB, qC, qD, qE, qF]
        refine sk 17 rfl ?_
        try simp only [Act.put, qA, qB, qC, qD, qE, qF]
        refine sk 18 rfl ?_
        try simp only [Act.put, qA, qB, qC, qD, qE, qF]
        refine sk 19 rfl ?_
        try simp only [Act.put, qA, qB, qC, qD, qE, qF]
        refine sk 20 rfl ?_
        try simp only [Act.put, qA, qB, qC, qD, qE, qF]
        refine sk 21 rfl ?_
        try simp only [Act.put, qA, qB, qC, qD, qE, qF]
        refine sk 22 rfl ?_
        try simp only [Act.put, qA, qB, qC, qD, qE, qF]
        refine sk 23 rfl ?_
        try simp only [Act.put, qA, qB, qC, qD, qE, qF]
        refine sk 24 rfl ?_
        try simp only [Act.put, qA, qB, qC, qD, qE, qF]
        refine sk 25 rfl ?_
        try simp only [Act.put, qA, qB, qC, qD, qE, qF]
        refine sk 26 rfl ?_
        try simp only [Act.put, qA, qB, qC, qD, qE, qF]
        refine sk 27 rfl ?_
        try simp only [Act.put, qA, qB, qC, qD, qE, qF]
        refine tk 28 rfl ?_
        try simp only [Act.put, qA, qB, qC, qD, qE, qF]
        refine wpAnyH_done (by kernel_rfl) ?_ _
        have HB6 := Lib.hid (bel HBX.out r0)
        clear x0 x1
        try clear y0
        have HV := Lib.hid (HNO.out (by rw [HAT.out]; simp only [Bool.and_eq_false_iff, Bool.or_eq_false_iff, decide_eq_false_iff_not]; exact HBAD.out))
        go_wp2_with fail
        go_ret
        exact ⟨by rw [HV.out]; rfl, HB6.out⟩
    · obtain rfl : i = L.length := by omega
      have d1 : decide ((L.length : Int) < (L.length : Int)) = false := by simp
      have hl4 : decide ((L.length : Int) ≤ 4096) = true := by simp; have := HL.out; omega
      have HV : Hid (R = true) := Lib.hid (by rw [HR.out]; exact HJ.out)
      go_wp2_with fail
      go_ret
      exact ⟨by rw [HV.out]; rfl, HBw.out⟩
end Go.Proofs.YtiifbhiodegipaaGreatDoor.HN
