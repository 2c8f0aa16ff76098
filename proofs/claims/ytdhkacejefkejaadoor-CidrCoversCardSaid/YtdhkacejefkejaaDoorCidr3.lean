/- Nets, on: the reference's Count. -/
import Derived.Test.YtdhkacejefkejaaDoorCidr2
namespace Go.Proofs.YtdhkacejefkejaaDoor
open Go.RowKit
theorem count_size {a b c : Int} (hm : mayB a b = true) (h0 : b ≤ c) (h1 : c ≤ 32) : (sizeI a b).tdiv (2 ^ (32 - c).toNat) = countI a b c := by
  obtain ⟨b0, b1⟩ := may_bits hm
  have e := hole_mul b0 h0 h1
  have hp : (0 : Int) < hole c := hole_pos c
  unfold sizeI countI
  rw [if_pos hm, if_pos ⟨hm, bitsOk_iff.2 ⟨by omega, h1⟩, h0⟩, ← e]
  show (2 ^ (c - b).toNat * hole c).tdiv (hole c) = _
  exact Int.mul_tdiv_cancel _ (Int.ne_of_gt hp)
set_option maxHeartbeats 4000000 in
theorem refCount_any (a b c : Int) (ha : 0 ≤ a) (ha' : a < 4294967296) (hb : -9223372036854775808 ≤ b) (hb' : b ≤ 9223372036854775807) (w : World) :
    Calls Tryd.prog 48 #[.agg #[.int .u32 a, .int .i64 b], .int .i64 c] w fun e w' => e = .returned (.int .i64 (countI a b c)) ∧ Below w.heap.size w w' := by
  have hC := Cell2.new w a b 44
  by_cases hm : mayB a b = true
  · obtain ⟨b0, b1⟩ := may_bits hm
    have HY : Hid (∀ w, Calls Tryd.prog 31 #[.agg #[.int .u32 a, .int .i64 b]] w fun e w' => e = .returned (.bool true) ∧ Below w.heap.size w w') := Lib.hid (fun w => by rw [← hm]; exact refMay_any _ _ ha ha' hb hb' w)
    by_cases h1 : c < b
    · have d0 : decide (c < b) = true := by simpa using h1
      have HV : Hid (0 = countI a b c) := Lib.hid (by unfold countI; rw [if_neg (by rintro ⟨_, _, h⟩; omega)])
      clear hm
      go_enter Tryd.func48, Tryd.ntmps48
      go_wp2_with fail
      refine (HY.out _).mono ?_; rintro e w1 ⟨rfl, hb1⟩
      obtain ⟨k0, k1, k2⟩ := hC.keep hb1
      have hB := bel (belNew _ _) hb1
      go_wp2_with fail
      go_ret
      exact ⟨congrArg (fun n => Ending.returned (.int .i64 n)) HV.out, hB⟩
    · have d0 : decide (c < b) = false := by simpa using h1
      by_cases h2 : 32 < c
      · have d1 : decide (32 < c) = true := by simpa using h2
        have HV : Hid (0 = countI a b c) := Lib.hid (by unfold countI; rw [if_neg (by rintro ⟨_, h, _⟩; have := bitsOk_iff.1 h; omega)])
        clear hm
        go_enter Tryd.func48, Tryd.ntmps48
        go_wp2_with fail
        refine (HY.out _).mono ?_; rintro e w1 ⟨rfl, hb1⟩
        obtain ⟨k0, k1, k2⟩ := hC.keep hb1
        have hB := bel (belNew _ _) hb1
        go_wp2_with fail
        go_ret
        exact ⟨congrArg (fun n => Ending.returned (.int .i64 n)) HV.out, hB⟩
      · have d1 : decide (32 < c) = false := by simpa using h2
        have hcs := count_size (c := c) hm (by omega) (by omega)
        have hcb : 0 ≤ countI a b c ∧ countI a b c ≤ 4294967296 := by
          unfold countI; split
          · have := pow_bd (c - b).toNat (by omega); omega
          · omega
        have HZ : Hid (∀ w, Calls Tryd.prog 38 #[.agg #[.int .u32 a, .int .i64 b]] w fun e w' => e = .returned (.int .i64 (sizeI a b)) ∧ Below w.heap.size w w') := Lib.hid (refSize_any a b ha ha' hb hb')
        have HP := Lib.hid (refPow_any (32 - c) (by omega) (by omega))
        have hs0 : 0 ≤ sizeI a b ∧ sizeI a b ≤ 4294967296 := by
          unfold sizeI; rw [if_pos hm]; exact ⟨Int.le_of_lt (hole_pos b), hole_le b b0⟩
        obtain ⟨s0, s1⟩ := hs0
        obtain ⟨p0, p1⟩ := pow_bd (32 - c).toNat (by omega)
        have HV : Hid (sizeI a b / 2 ^ (32 - c).toNat = countI a b c) := Lib.hid (by rw [← hcs, Int.tdiv_eq_ediv_of_nonneg s0])
        clear hm hcs
        go_enter Tryd.func48, Tryd.ntmps48
        go_wp2_with fail
        refine (HY.out _).mono ?_; rintro e w1 ⟨rfl, hb1⟩
        have hC1 := hC.keep hb1
        obtain ⟨k0, k1, k2⟩ := id hC1
        have hB := bel (belNew _ _) hb1
        go_wp2_with fail
        refine (HZ.out _).mono ?_; rintro e w2 ⟨rfl, hb2⟩
        have hB2 := bel hB hb2
        go_wp2_with fail
        refine (HP.out _).mono ?_; rintro e w' ⟨rfl, rfl⟩
        go_wp2_with fail
        go_ret
        exact ⟨congrArg (fun n => Ending.returned (.int .i64 n)) HV.out, hB2⟩
  · have hmf : mayB a b = false := by simpa using hm
    have HY : Hid (∀ w, Calls Tryd.prog 31 #[.agg #[.int .u32 a, .int .i64 b]] w fun e w' => e = .returned (.bool false) ∧ Below w.heap.size w w') := Lib.hid (fun w => by rw [← hmf]; exact refMay_any _ _ ha ha' hb hb' w)
    have HV : Hid (0 = countI a b c) := Lib.hid (by unfold countI; rw [if_neg (by rintro ⟨h, _, _⟩; exact hm h)])
    clear hm hmf
    go_enter Tryd.func48, Tryd.ntmps48
    go_wp2_with fail
    refine (HY.out _).mono ?_; rintro e w1 ⟨rfl, hb1⟩
    have hB := bel (belNew _ _) hb1
    go_wp2_with fail
    go_ret
    exact ⟨congrArg (fun n => Ending.returned (.int .i64 n)) HV.out, hB⟩
end Go.Proofs.YtdhkacejefkejaaDoor
