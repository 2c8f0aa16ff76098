/- The walks of FrameSize and FrameAll, and what a frame at the beginning of bytes comes to. -/
import Derived.Test.YtmniihpfnmpcfaaDoorFrAll
namespace Go.Proofs.YtmniihpfnmpcfaaDoor
open Go.RowKit
theorem numBE_put4 (n : Nat) (h : n < 4294967296) : numBE (putL (n : Int) 4) = n := by
  rw [putL4]
  simp only [numBytes, numBE, List.foldl_cons, List.foldl_nil]
  simp
  omega
theorem frame_cnt {p t : List Int} (h2 : p.length ≤ 1048576) : cntL (frameL p ++ t) = p.length ∧ recL (frameL p ++ t) = p ∧ ((frameL p ++ t).drop 4).take 4 = putL (ofN p) 4 := by
  have e1 : (frameL p ++ t).take 4 = putL p.length 4 := by
    unfold frameL
    rw [List.append_assoc, List.append_assoc, List.take_append_of_le_length (by rw [putL4_len]; omega), List.take_of_length_le (by rw [putL4_len]; omega)]
  have e2 : (frameL p ++ t).drop 4 = putL (ofN p) 4 ++ (p ++ t) := by
    unfold frameL
    rw [List.append_assoc, List.append_assoc]
    have := List.drop_left (l₁ := putL p.length 4) (l₂ := putL (ofN p) 4 ++ (p ++ t))
    rwa [putL4_len] at this
  have e3 : (frameL p ++ t).drop 8 = p ++ t := by
    rw [show (8 : Nat) = 4 + 4 from rfl, ← List.drop_drop, e2]
    have := List.drop_left (l₁ := putL (ofN p) 4) (l₂ := p ++ t)
    rwa [putL4_len] at this
  have e4 : cntL (frameL p ++ t) = p.length := by
    unfold cntL
    rw [e1, numBE_put4 _ (by omega)]
    rfl
  refine ⟨e4, ?_, ?_⟩
  · unfold recL
    rw [e3, e4, List.take_left]
  · rw [e2]
    have := List.take_left (l₁ := putL (ofN p) 4) (l₂ := p ++ t)
    rwa [putL4_len] at this
theorem next_frame {p t : List Int} (hok : okB p) (h1 : 1 ≤ p.length) (h2 : p.length ≤ 1048576) : nextE (frameL p ++ t) = 0 ∧ nextP (frameL p ++ t) = p ∧ nextN (frameL p ++ t) = 8 + p.length := by
  obtain ⟨a, b, c⟩ := frame_cnt (t := t) h2
  have hl : (frameL p ++ t).length = 8 + p.length + t.length := by rw [List.length_append, frameL_len]
  have e : nextE (frameL p ++ t) = 0 := by
    unfold nextE
    rw [if_neg (by omega), if_neg (by omega), a, if_neg (by omega), if_neg (by omega), b, c, numBE_put4 _ (ofN_lt hok), if_pos rfl]
  unfold nextP nextN
  rw [e, b]
  exact ⟨rfl, rfl, rfl⟩
set_option maxHeartbeats 1000000 in
theorem awake5_any (w : World) (hE : Env w) : Calls Tryd.prog 11 #[] w fun e w' => e = .returned (.bool true) ∧ Below w.heap.size w w' := by
  have ho : Owns (w.alloc (.cells #[.int .u8 7] 5)) w.heap.size (.slice (some ⟨w.heap.size, 0, none⟩) [(7 : Int)].length 1) [7] :=
    World.ownsRow_lit w #[.int .u8 7] 1 (Nat.le_refl _) (by unfold maxLen; omega) rfl
  have hb0 := belNew w (.cells #[.int .u8 7] 5)
  have HP := Lib.hid (fput_any _ [7] _ ho.sees (by intro x hx; simp at hx; omega) (by simp) (by simp) (hE.below hb0))
  have HB := Lib.hid hb0
  have L9 : (frameL [7]).length = 9 := frameL_len [7]
  obtain ⟨F, hF⟩ : ∃ F, F = frameL [7] := ⟨_, rfl⟩
  rw [← hF] at HP L9
  have HL9 := Lib.hid L9
  have d0 : (sizeN 1 == 9) = true := by decide
  clear ho hb0 hF L9
  go_enter Tryd.func11, Tryd.ntmps11
  go_wp2_with fail
  refine HP.out.mono ?_; rintro e w1 ⟨v1, rfl, ho1, hb1⟩
  obtain ⟨ao, c, rfl, -⟩ := ho1.sees
  have hb2 := bel HB.out hb1
  rw [HL9.out]
  go_wp2_with fail
  refine (size_any 1 _).mono ?_; rintro e w' ⟨rfl, rfl⟩
  go_wp2_with fail
  go_ret
  exact ⟨rfl, hb2⟩
set_option maxHeartbeats 1000000 in
theorem lawSize (w : World) (n : Int) (_ : -9223372036854775808 ≤ n) (_ : n ≤ 9223372036854775807) (hE : Env w) :
    Calls Tryd.prog 6 #[.int .i64 n] w fun e w' => e = .returned (.bool true) ∧ Below w.heap.size w w' := by
  have HS := Lib.hid (size_any n w)
  have HA := Lib.hid (awake5_any w hE)
  by_cases h0 : 1 ≤ n
  · have d0 : decide (1 ≤ n) = true := by simpa using h0
    by_cases h1 : n ≤ 1048576
    · have d1 : decide (n ≤ 1048576) = true := by simpa using h1
      have s1 : IntKind.i64.wrap (n + 8) = n + 8 := IntWalk.i64_in _ (by omega)
      have e1 : (sizeN n == n + 8) = true := by unfold sizeN; rw [if_pos ⟨h0, h1⟩]; simp; omega
      go_enter Tryd.func6, Tryd.ntmps6
      go_wp2_with fail
      refine HS.out.mono ?_; rintro e w' ⟨rfl, rfl⟩
      go_wp2_with fail
      refine HA.out.mono ?_; rintro e w' ⟨rfl, hb⟩
      go_wp2_with fail
      go_ret
      exact ⟨rfl, hb⟩
    · have d1 : decide (n ≤ 1048576) = false := by simpa using h1
      have e1 : (sizeN n == 0) = true := by unfold sizeN; rw [if_neg (by omega)]; simp
      go_enter Tryd.func6, Tryd.ntmps6
      go_wp2_with fail
      refine HS.out.mono ?_; rintro e w' ⟨rfl, rfl⟩
      go_wp2_with fail
      refine HA.out.mono ?_; rintro e w' ⟨rfl, hb⟩
      go_wp2_with fail
      go_ret
      exact ⟨rfl, hb⟩
  · have d0 : decide (1 ≤ n) = false := by simpa using h0
    have e1 : (sizeN n == 0) = true := by unfold sizeN; rw [if_neg (by omega)]; simp
    go_enter Tryd.func6, Tryd.ntmps6
    go_wp2_with fail
    refine HS.out.mono ?_; rintro e w' ⟨rfl, rfl⟩
    go_wp2_with fail
    refine HA.out.mono ?_; rintro e w' ⟨rfl, hb⟩
    go_wp2_with fail
    go_ret
    exact ⟨rfl, hb⟩
set_option maxHeartbeats 1000000 in
theorem lawAll (w : World) (b : Value) (xs : List Int) (h : Sees w b xs) (hok : okB xs) (hm : xs.length ≤ maxLen) (hE : Env w) :
    Calls Tryd.prog 4 #[b] w fun e w' => e = .returned (.bool true) ∧ Below w.heap.size w w' := by
  have HF := Lib.hid (few5_any b xs w h hm)
  obtain ⟨L, hL⟩ : ∃ L, L = xs.take 200 := ⟨_, rfl⟩
  have hLl : L.length ≤ 200 := by rw [hL, List.length_take]; omega
  have HO := Lib.hid (show okB L by rw [hL]; exact hok.take _)
  rw [← hL] at HF
  clear hL h hok hm
  go_enter Tryd.func4, Tryd.ntmps4
  go_wp2_with fail
  refine HF.out.mono ?_; rintro e w0 ⟨v0, rfl, hs0, hd0, rfl⟩
  go_wp2_with fail
  refine (all_any v0 L _ hs0 HO.out (by omega) hE).mono ?_; rintro e w1 ⟨v1, ls, k, x, rfl, hr1, ha1, hb1⟩
  go_wp2_with fail
  refine (rall_any v0 L _ (hs0.keep hb1) HO.out (by omega)).mono ?_; rintro e w2 ⟨v2, ls2, k2, x2, rfl, hr2, ha2, hb2⟩
  obtain ⟨rfl, rfl, rfl⟩ := AllIs.same _ _ _ _ _ _ _ ha1 ha2
  have hl := (Steps.room _ _ _ ha1.1)
  have hls : ls.length ≤ 100000 := by omega
  have hb12 := bel hb1 hb2
  clear ha1 ha2 hl
  go_wp2_with fail
  refine (same_any v1 v2 ls _ (hr1.keep hb2).sees hr2.sees hls).mono ?_; rintro e w3 ⟨rfl, n, rfl⟩
  have hb3 := below_drewN hb12 n
  go_wp2_with fail
  refine (awake5_any _ (hE.below hb3)).mono ?_; rintro e w4 ⟨rfl, hb4⟩
  go_wp2_with fail
  go_ret
  exact ⟨rfl, bel hb3 hb4⟩
end Go.Proofs.YtmniihpfnmpcfaaDoor
