/- Package frame: what Size, Put and Next come to, and the reference's Put and Next. Conditions: the world facts of Env; bytes are bytes; the bounds said of each. -/
import Derived.Test.YtkjdfelmjanpcaaDoorSumPartsW
import Derived.Test.YtkjdfelmjanpcaaDoorPkRef
namespace Go.Proofs.YtkjdfelmjanpcaaDoor
open Go.RowKit
def sizeN (n : Int) : Int := if 1 ≤ n ∧ n ≤ 1048576 then 8 + n else 0
set_option maxHeartbeats 400000 in
theorem size_any (n : Int) (w : World) :
    Calls Tryd.prog 81 #[.int .i64 n] w fun e w' => e = .returned (.int .i64 (sizeN n)) ∧ w = w' := by
  by_cases h0 : n < 1
  · have d0 : decide (n < 1) = true := by simpa using h0
    have HV : Hid (0 = sizeN n) := Lib.hid (by unfold sizeN; rw [if_neg (by omega)])
    go_enter Tryd.func81, Tryd.ntmps81
    go_wp2
    go_ret
    exact ⟨congrArg (fun n => Ending.returned (.int .i64 n)) HV.out, rfl⟩
  · have d0 : decide (n < 1) = false := by simpa using h0
    by_cases h1 : 1048576 < n
    · have d1 : decide (1048576 < n) = true := by simpa using h1
      have HV : Hid (0 = sizeN n) := Lib.hid (by unfold sizeN; rw [if_neg (by omega)])
      go_enter Tryd.func81, Tryd.ntmps81
      go_wp2
      go_ret
      exact ⟨congrArg (fun n => Ending.returned (.int .i64 n)) HV.out, rfl⟩
    · have d1 : decide (1048576 < n) = false := by simpa using h1
      have HV : Hid (8 + n = sizeN n) := Lib.hid (by unfold sizeN; rw [if_pos (by omega)])
      have s1 : IntKind.i64.wrap (8 + n) = 8 + n := IntWalk.i64_in _ (by omega)
      go_enter Tryd.func81, Tryd.ntmps81
      go_wp2
      go_ret
      exact ⟨congrArg (fun n => Ending.returned (.int .i64 n)) HV.out, rfl⟩
/-- A record's frame. -/
def frameL (p : List Int) : List Int := putL p.length 4 ++ putL (ofN p) 4 ++ p
theorem putL4 (n : Int) : putL n 4 = numBytes n 4 := by unfold putL wOk; rw [if_pos (by decide)]; rfl
theorem putL4_len (n : Int) : (putL n 4).length = 4 := by rw [putL4, numBytes_length]
theorem frameL_len (p : List Int) : (frameL p).length = 8 + p.length := by unfold frameL; rw [List.length_append, List.length_append, putL4_len, putL4_len]
theorem frameL_ok {p : List Int} (h : okB p) : okB (frameL p) := okB_append (okB_append (okB_put _ _) (okB_put _ _)) h
set_option maxHeartbeats 1000000 in
theorem fput_any (v : Value) (p : List Int) (w : World) (h : Sees w v p) (hok : okB p) (h1 : 1 ≤ p.length) (h2 : p.length ≤ 1048576) (hE : Env w) :
    Calls Tryd.prog 49 #[v] w fun e w' => ∃ v', e = .returned (.tuple #[v', .int .i64 0]) ∧ Owns w' w.heap.size v' (frameL p) ∧ Below w.heap.size w w' := by
  have H := Lib.hid h
  have HP0 := Lib.hid (put_any (.slice none 0 0) [] p.length 4 w (Sees.nil w) (Nat.zero_le _))
  have HS := Lib.hid (size_any p.length w)
  obtain ⟨ao, c, rfl, hlc, hnil, hc⟩ := h
  have d0 : (sizeN (p.length : Int) == 0) = false := by unfold sizeN; rw [if_pos (by omega)]; simp; omega
  have s0 : IntKind.u64.wrap (p.length : Int) = p.length := IntWalk.u64_in _ (by omega)
  have o1 := ofN_lt hok
  have s1 : IntKind.u64.wrap ((ofN p : Nat) : Int) = (ofN p : Nat) := IntWalk.u64_in _ (by omega)
  have HO := Lib.hid hok
  clear hc hok
  go_enter Tryd.func49, Tryd.ntmps49
  go_wp2_with fail
  refine HS.out.mono ?_; rintro e w' ⟨rfl, rfl⟩
  go_wp2_with fail
  refine HP0.out.mono ?_; rintro e w1 ⟨v1, rfl, ho1, hb1⟩
  rw [List.nil_append] at ho1
  go_wp2_with fail
  refine (of_any _ p _ (H.out.keep hb1) HO.out (by omega) (hE.below hb1)).mono ?_; rintro e w' ⟨rfl, rfl⟩
  go_wp2_with fail
  refine (put_any v1 _ (ofN p : Nat) 4 _ ho1.sees (by rw [putL4_len]; omega)).mono ?_; rintro e w2 ⟨v2, rfl, ho2, hb2⟩
  obtain ⟨g, cap, rfl, hB, -, -, -, -⟩ := ho2.at (by rw [putL4]; simp [numBytes])
  have hb3 := bel hb1 hb2
  have hk := H.out.keep hb3
  have hz := hb1.size
  have hz2 := hb2.size
  go_wp2_with (first | (at_builtin; refine wpList_append_sees rfl (.tmp 17) (.tmp 18) rfl w1.heap.size g cap _ p _ rfl rfl ho2 hk (by rw [List.length_append, putL4_len, putL4_len]; omega) (by omega) ?_; intro g1 c1 w3 ho3 hg3) | go_in)
  refine bodyPost_ret (v := .tuple #[.slice (some ⟨g1, 0, none⟩) (putL p.length 4 ++ putL (ofN p) 4 ++ p).length c1, .int .i64 0]) ?_ rfl ⟨_, rfl, ?_, hb3.grown hg3 hb3.size (fun k hk => by cases hk; omega)⟩
  · simp [results, Tryd.results49, go_sem]
  · exact ho3.le hz
theorem fput_no (v : Value) (w : World) (h : Sees w v []) :
    Calls Tryd.prog 49 #[v] w fun e w' => e = .returned (.tuple #[.slice none 0 0, .int .i64 1]) ∧ w = w' := by
  have HS := Lib.hid (size_any 0 w)
  obtain ⟨ao, c, rfl, hlc, hnil, hc⟩ := h
  have d0 : (sizeN 0 == 0) = true := by decide
  clear hc
  go_enter Tryd.func49, Tryd.ntmps49
  go_wp2_with fail
  refine HS.out.mono ?_; rintro e w' ⟨rfl, rfl⟩
  go_wp2_with fail
  go_ret2
  exact ⟨rfl, rfl⟩
end Go.Proofs.YtkjdfelmjanpcaaDoor
