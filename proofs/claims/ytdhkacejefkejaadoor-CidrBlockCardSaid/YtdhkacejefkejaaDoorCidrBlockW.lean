/- The walk of CidrBlock. -/
import Derived.Test.YtdhkacejefkejaaDoorCidr
namespace Go.Proofs.YtdhkacejefkejaaDoor
open Go.RowKit
theorem block_may (a c : Int) (ha : 0 ≤ a) (c0 : 0 ≤ c) (c1 : c ≤ 32) : mayB (a - a % hole c) c = true ∧ hasB (a - a % hole c) c a = true ∧ 0 ≤ a - a % hole c ∧ a - a % hole c ≤ a := by
  have hp := hole_pos c
  have h1 := Int.emod_nonneg a (Int.ne_of_gt hp)
  have h2 := Int.emod_lt_of_pos a hp
  have h3 : (a - a % hole c) % hole c = 0 := by
    have e := Int.mul_ediv_add_emod a (hole c)
    rw [show a - a % hole c = hole c * (a / hole c) by omega]
    exact Int.mul_emod_right _ _
  have hm : mayB (a - a % hole c) c = true := by
    unfold mayB
    rw [bitsOk_iff.2 ⟨c0, c1⟩, h3]; rfl
  have hle : a % hole c ≤ a := by
    have e := Int.mul_ediv_add_emod a (hole c)
    have := Int.mul_nonneg (Int.le_of_lt hp) (Int.ediv_nonneg ha (Int.le_of_lt hp))
    omega
  refine ⟨hm, ?_, by omega, by omega⟩
  unfold hasB
  rw [hm]
  simp; omega
set_option maxHeartbeats 8000000 in
theorem lawBlock (a c : Int) (ha : 0 ≤ a) (ha' : a < 4294967296) (hc : -9223372036854775808 ≤ c) (hc' : c ≤ 9223372036854775807) (w : World) (hE : Env w) :
    Calls Tryd.prog 13 #[.int .u32 a, .int .i64 c] w fun e w' => e = .returned (.bool true) ∧ Below w.heap.size w w' := by
  by_cases h0 : 0 ≤ c
  · by_cases h1 : c ≤ 32
    · obtain ⟨m1, m2, m3, m4⟩ := block_may a c ha h0 h1
      have d0 : decide (c < 0) = false := by simp; omega
      have d1 : decide (32 < c) = false := by simp; omega
      have e1 : (c == c) = true := by simp
      have HB := Lib.hid (block_yes a c ha ha' h0 h1)
      have HY : Hid (∀ w, Calls Tryd.prog 31 #[.agg #[.int .u32 (a - a % hole c), .int .i64 c]] w fun e w' => e = .returned (.bool true) ∧ Below w.heap.size w w') := Lib.hid (fun w => by rw [← m1]; exact refMay_any _ _ m3 (by omega) hc hc' w)
      have HH : Hid (∀ w, Calls Tryd.prog 40 #[.agg #[.int .u32 (a - a % hole c), .int .i64 c], .int .u32 a] w fun e w' => e = .returned (.bool true) ∧ Below w.heap.size w w') := Lib.hid (fun w => by rw [← m2]; exact refHas_any _ _ _ m3 (by omega) hc hc' ha ha' w)
      clear m1 m2
      go_enter Tryd.func13, Tryd.ntmps13
      go_wp2_with fail
      refine (HB.out _).mono ?_; rintro e w1 ⟨rfl, hb1⟩
      have hC := Cell2.new w1 (a - a % hole c) c 46
      have hB1 := belAlloc hb1 (.cells #[.int .u32 (a - a % hole c), .int .i64 c] 46)
      go_wp2_with fail
      refine (HY.out _).mono ?_; rintro e w2 ⟨rfl, hb2⟩
      have hC2 := hC.keep hb2
      have hB2 := bel hB1 hb2
      obtain ⟨k0, k1, k2⟩ := id hC2
      go_wp2_with fail
      refine (HH.out _).mono ?_; rintro e w3 ⟨rfl, hb3⟩
      have hB3 := bel hB2 hb3
      go_wp2_with fail
      refine (awake2_any _ (hE.below hB3)).mono ?_; rintro e w4 ⟨rfl, hb4⟩
      go_wp2_with fail
      go_ret
      exact ⟨rfl, bel hB3 hb4⟩
    · have d0 : decide (c < 0) = false := by simp; omega
      have d1 : decide (32 < c) = true := by simp; omega
      have HB := Lib.hid (block_no a c (by omega))
      go_enter Tryd.func13, Tryd.ntmps13
      go_wp2_with fail
      refine (HB.out _).mono ?_; rintro e w1 ⟨rfl, hb1⟩
      have hB1 := belAlloc hb1 (.cells #[.int .u32 0, .int .i64 0] 46)
      go_wp2_with fail
      refine (awake2_any _ (hE.below hB1)).mono ?_; rintro e w2 ⟨rfl, hb2⟩
      go_wp2_with fail
      go_ret
      exact ⟨rfl, bel hB1 hb2⟩
  · have d0 : decide (c < 0) = true := by simp; omega
    have HB := Lib.hid (block_no a c (by omega))
    go_enter Tryd.func13, Tryd.ntmps13
    go_wp2_with fail
    refine (HB.out _).mono ?_; rintro e w1 ⟨rfl, hb1⟩
    have hB1 := belAlloc hb1 (.cells #[.int .u32 0, .int .i64 0] 46)
    go_wp2_with fail
    refine (awake2_any _ (hE.below hB1)).mono ?_; rintro e w2 ⟨rfl, hb2⟩
    go_wp2_with fail
    go_ret
    exact ⟨rfl, bel hB1 hb2⟩
end Go.Proofs.YtdhkacejefkejaaDoor
