/- Package recs: bytes of pools, nodes, affinities. -/
import Derived.Test.YtcfmknocpjjklaaRcPool
namespace Go.Proofs.Ytcfmknocpjjklaa
open Go.RowKit
theorem one_sees (w : World) (c : Int) : Sees (w.alloc (.cells #[.int .u8 c] 5 (1, 2))) (.slice (some ⟨w.heap.size, 0, none⟩) 1 1) [c] := by
  refine ⟨some ⟨w.heap.size, 0, none⟩, 1, rfl, Nat.le_refl _, (fun h => by cases h), fun a ha i hi => ?_⟩
  cases ha
  rw [add0, World.cell?_alloc_mark w _ _ _ i]
  match i, hi with
  | 0, _ => rfl
  | i + 1, hi => exact absurd hi (by simp)
theorem putL_length (n k : Int) : (putL n k).length ≤ 8 := by
  unfold putL
  split
  · rename_i h
    have h2 : 1 ≤ k ∧ k ≤ 8 := of_decide_eq_true h
    rw [numBytes_length]; omega
  · exact Nat.zero_le _
theorem putL_small (b : Int) (h0 : 0 ≤ b) (h1 : b ≤ 255) : putL b 1 = [b] := by
  have h : wOk 1 = true := rfl
  unfold putL
  rw [if_pos h]
  show [b / 256 ^ 0 % 256] = [b]
  rw [Int.pow_zero, Int.ediv_one, Int.emod_eq_of_lt h0 (by omega)]
def poolL (a b : Int) (o : Bool) : List Int := 80 :: putL a 4 ++ [b] ++ [flagI o]
set_option maxRecDepth 100000 in
set_option maxHeartbeats 4000000 in
theorem putPool_any (a b : Int) (o : Bool) (ha : 0 ≤ a) (ha' : a < 4294967296) (w : World) :
    Calls Try.prog 7 #[.agg #[.int .u32 a, .int .i64 b, .bool o]] w fun e w' => e = .returned (if rightB a b = true then .tuple #[.string (strOfNums (poolL a b o)), .int .i64 0] else .tuple #[.string em, .int .i64 1]) ∧ Below w.heap.size w w' := by
  have HR := Lib.hid (fun w => rightPool_any a b o ha ha' w)
  have kc := fun (w : World) (C : Array Value) (n c : Nat) => Lib.run_convert_bytes_const (P := Try.prog) w 57 5 C n c Try.underlying57 Try.underlying5
  have hc := Cell3.new w a b o 32
  have hb0 := belNew w (poolO a b o 32)
  cases hr : rightB a b with
  | false =>
    rw [hr] at HR
    rw [if_neg (by simp)]
    clear hr kc
    go_enter Try.func7, Try.ntmps7
    obtain ⟨c0, c1, c2, c3⟩ := id hc
    go_wp2_with fail
    refine (HR.out _).mono ?_; rintro e w1 ⟨rfl, hb1⟩
    go_wp2_with fail
    go_ret2
    exact ⟨rfl, bel hb0 hb1⟩
  | true =>
    rw [hr] at HR
    rw [if_pos rfl]
    have hbb : 16 ≤ b ∧ b ≤ 26 := by
      unfold rightB at hr
      simp only [Bool.and_eq_true, decide_eq_true_eq] at hr
      exact hr.2
    have m1 : b % 18446744073709551616 = b := Int.emod_eq_of_lt (by omega) (by omega)
    have m2 : a % 18446744073709551616 = a := Int.emod_eq_of_lt (by omega) (by omega)
    have hl4 := putL_length a 4
    have hp1 := putL_small b (by omega) (by omega)
    clear hr
    go_enter Try.func7, Try.ntmps7
    obtain ⟨c0, c1, c2, c3⟩ := id hc
    go_wp2_with fail
    refine (HR.out _).mono ?_; rintro e w1 ⟨rfl, hb1⟩
    have hc1 := hc.keep hb1
    obtain ⟨W, hW⟩ : ∃ W, W = w1.alloc (.cells #[.int .u8 80] 5 (1, 2)) := ⟨_, rfl⟩
    have hs0 := one_sees w1 80
    have hbw : Below w.heap.size w W := by rw [hW]; exact belAlloc (bel hb0 hb1) _
    have hcw : Cell3 w.heap.size a b o W := by rw [hW]; exact hc1.keep (belNew _ _)
    rw [← hW] at hs0
    have HW := Lib.hid hW
    obtain ⟨x0, x1, x2, x3⟩ := id hc1
    clear hW
    go_wp2_with fail
    rw [← HW.out]
    refine (put_any _ _ a 4 _ hs0 (by simp)).mono ?_; rintro e w2 ⟨v2, rfl, ho2, hb2⟩
    have hB2 := bel hbw hb2
    have hc2 := hcw.keep hb2
    obtain ⟨y0, y1, y2, y3⟩ := id hc2
    go_wp2_with fail
    refine (put_any _ _ b 1 _ ho2.sees (by simp; omega)).mono ?_; rintro e w3 ⟨v3, rfl, ho3, hb3⟩
    have hB3 := bel hB2 hb3
    have hc3 := hc2.keep hb3
    rw [hp1] at ho3
    clear y0 y1 y2 y3
    obtain ⟨z0, z1, z2, z3⟩ := id hc3
    go_wp2_with fail
    refine (putFlag_any _ _ o _ ho3.sees (by simp; omega)).mono ?_; rintro e w4 ⟨v4, rfl, ho4, hb4⟩
    have hcv := conv_sees ho4.sees
    go_wp2_with fail
    go_ret2
    exact ⟨rfl, bel hB3 hb4⟩
set_option maxRecDepth 100000 in
theorem putNode_any (o : Bool) (w : World) :
    Calls Try.prog 16 #[.bool o] w fun e w' => e = .returned (.string (strOfNums [78, flagI o])) ∧ Below w.heap.size w w' := by
  have kc := fun (w : World) (C : Array Value) (n c : Nat) => Lib.run_convert_bytes_const (P := Try.prog) w 57 5 C n c Try.underlying57 Try.underlying5
  obtain ⟨W, hW⟩ : ∃ W, W = w.alloc (.cells #[.int .u8 78] 5 (1, 2)) := ⟨_, rfl⟩
  have hs0 := one_sees w 78
  have hbw : Below w.heap.size w W := by rw [hW]; exact belNew _ _
  rw [← hW] at hs0
  have HW := Lib.hid hW
  clear hW
  go_enter Try.func16, Try.ntmps16
  go_wp2_with fail
  rw [← HW.out]
  refine (putFlag_any _ _ o _ hs0 (by simp)).mono ?_; rintro e w4 ⟨v4, rfl, ho4, hb4⟩
  have hcv := conv_sees ho4.sees
  go_wp2_with fail
  go_ret
  exact ⟨rfl, bel hbw hb4⟩
set_option maxRecDepth 100000 in
theorem putAff_any (x : Int) (w : World) :
    Calls Try.prog 18 #[.int .i64 x] w fun e w' => e = .returned (if stB x = true then .tuple #[.string (strOfNums [65, x]), .int .i64 0] else .tuple #[.string em, .int .i64 1]) ∧ Below w.heap.size w w' := by
  have kc := fun (w : World) (C : Array Value) (n c : Nat) => Lib.run_convert_bytes_const (P := Try.prog) w 57 5 C n c Try.underlying57 Try.underlying5
  have HM := Lib.hid (fun w => mayStand_any x w)
  cases hx : stB x with
  | false =>
    rw [hx] at HM
    rw [if_neg (by simp)]
    clear hx kc
    go_enter Try.func18, Try.ntmps18
    go_wp2_with fail
    refine (HM.out _).mono ?_; rintro e w1 ⟨rfl, rfl⟩
    go_wp2_with fail
    go_ret2
    exact ⟨rfl, Below.refl _ _⟩
  | true =>
    have hb : 1 ≤ x ∧ x ≤ 3 := of_decide_eq_true hx
    rw [hx] at HM
    rw [if_pos rfl]
    have m1 : x % 18446744073709551616 = x := Int.emod_eq_of_lt (by omega) (by omega)
    have hp1 := putL_small x (by omega) (by omega)
    obtain ⟨W, hW⟩ : ∃ W, W = w.alloc (.cells #[.int .u8 65] 5 (1, 2)) := ⟨_, rfl⟩
    have hs0 := one_sees w 65
    have hbw : Below w.heap.size w W := by rw [hW]; exact belNew _ _
    rw [← hW] at hs0
    have HW := Lib.hid hW
    clear hW hx
    go_enter Try.func18, Try.ntmps18
    go_wp2_with fail
    refine (HM.out _).mono ?_; rintro e w1 ⟨rfl, rfl⟩
    go_wp2_with fail
    rw [← HW.out]
    refine (put_any _ _ x 1 _ hs0 (by simp)).mono ?_; rintro e w4 ⟨v4, rfl, ho4, hb4⟩
    rw [hp1] at ho4
    have hcv := conv_sees ho4.sees
    go_wp2_with fail
    go_ret2
    exact ⟨rfl, bel hbw hb4⟩
end Go.Proofs.Ytcfmknocpjjklaa
