/- The law RecsStates: seeds, and the walk. -/
import Derived.Test.YtcfmknocpjjklaaRecsReadW
namespace Go.Proofs.Ytcfmknocpjjklaa
open Go.RowKit
/-- A name's seed. -/
def seedI (h : Int) : List UInt8 → Int
  | [] => h
  | c :: l => seedI (IntKind.u64.wrap (bits .xor .u64 h (IntKind.u64.wrap (c.toNat : Int)) * 1099511628211)) l
theorem seedI_snoc (h : Int) (l : List UInt8) (c : UInt8) : seedI h (l ++ [c]) = IntKind.u64.wrap (bits .xor .u64 (seedI h l) (IntKind.u64.wrap (c.toNat : Int)) * 1099511628211) := by
  induction l generalizing h with
  | nil => rfl
  | cons a l ih => exact ih _
theorem take_snocB (s : ByteArray) (k : Nat) (h : k < s.size) : s.data.toList.take (k + 1) = s.data.toList.take k ++ [s[k]] := by
  rw [List.take_succ_eq_append_getElem (by simpa using h)]; rfl
theorem seed_any (s : ByteArray) (w : World) (hs : s.size ≤ 1000) :
    Calls Try.prog 24 #[.string s] w fun e w' => e = .returned (.int .u64 (seedI 14695981039346656037 s.data.toList)) ∧ w = w' := by
  go_enter Try.func24, Try.ntmps24
  go_wp2
  go_loop [3, 7] (fun h i => ∃ k : Nat, k ≤ s.size ∧ i = .int .i64 k ∧ h = .int .u64 (seedI 14695981039346656037 (s.data.toList.take k))) (fun _ i => s.size - (intOf i).toNat)
  case atStart => exact ⟨0, Nat.zero_le _, rfl, rfl⟩
  case round =>
    obtain ⟨k, hk, rfl, rfl⟩ := hrel
    by_cases hlt : k < s.size
    · have hsn := seedI_snoc 14695981039346656037 (s.data.toList.take k) s[k]
      have hts := take_snocB s k hlt
      have HS : Hid (seedI 14695981039346656037 (s.data.toList.take (k + 1)) = IntKind.u64.wrap (bits .xor .u64 (seedI 14695981039346656037 (s.data.toList.take k)) (IntKind.u64.wrap (s[k].toNat : Int)) * 1099511628211)) := by rw [hts]; exact hsn
      clear hsn hts
      go_wp2
      go_round
      case rel => exact ⟨k + 1, by omega, by go_num, by rw [HS.out]⟩
      case measure => simp [intOf]; omega
    · go_wp2
      go_ret
      obtain rfl : k = s.size := by omega
      exact ⟨by rw [List.take_of_length_le (by simp)]; rfl, rfl⟩
theorem refSeed_any (s : ByteArray) (w : World) (hs : s.size ≤ 1000) :
    Calls Try.prog 25 #[.string s] w fun e w' => e = .returned (.int .u64 (seedI 14695981039346656037 s.data.toList)) ∧ w = w' := by
  go_enter Try.func25, Try.ntmps25
  go_wp2
  go_loop [3, 4] (fun h i => ∃ k : Nat, k ≤ s.size ∧ i = .int .i64 k ∧ h = .int .u64 (seedI 14695981039346656037 (s.data.toList.take k))) (fun _ i => s.size - (intOf i).toNat)
  case atStart => exact ⟨0, Nat.zero_le _, rfl, rfl⟩
  case round =>
    obtain ⟨k, hk, rfl, rfl⟩ := hrel
    by_cases hlt : k < s.size
    · have hsn := seedI_snoc 14695981039346656037 (s.data.toList.take k) s[k]
      have hts := take_snocB s k hlt
      have HS : Hid (seedI 14695981039346656037 (s.data.toList.take (k + 1)) = IntKind.u64.wrap (bits .xor .u64 (seedI 14695981039346656037 (s.data.toList.take k)) (IntKind.u64.wrap (s[k].toNat : Int)) * 1099511628211)) := by rw [hts]; exact hsn
      clear hsn hts
      go_wp2
      go_round
      case rel => exact ⟨k + 1, by omega, by go_num, by rw [HS.out]⟩
      case measure => simp [intOf]; omega
    · go_wp2
      go_ret
      obtain rfl : k = s.size := by omega
      exact ⟨by rw [List.take_of_length_le (by simp)]; rfl, rfl⟩
theorem sliceTo80 (s : ByteArray) (hs : 80 ≤ s.size) (W : World) : (Instr.slice 9 (.string s) none (some (.int .i64 80)) none).run Try.prog W = .ok (.string (s.extract 0 80)) W := by
  rw [run_slice_string_h W 9 s Try.underlying9 .i64 80 (by omega) (by omega)]; rfl

set_option maxRecDepth 100000 in
set_option maxHeartbeats 8000000 in
theorem lawStates (w : World) (n : Int) (o : Bool) (s : ByteArray) (hn : -9223372036854775808 ≤ n) (hn' : n ≤ 9223372036854775807) :
    Calls Try.prog 6 #[.int .i64 n, .bool o, .string s] w fun e w' => e = .returned (.bool true) ∧ Below w.heap.size w w' := by
  have HW := Lib.hid (fun w => awake13_any w)
  have HN := Lib.hid (fun w => putNode_any o w)
  have HR := Lib.hid (fun w => refNode_any o w)
  have HA := Lib.hid (fun w => putAff_any n w)
  by_cases h80 : 80 < s.size
  · have d0 : decide (80 < (s.size : Int)) = true := by simp; omega
    have hsl := sliceTo80 s (by omega)
    have ht : (s.extract 0 80).size ≤ 80 := by rw [ByteArray.size_extract]; omega
    generalize s.extract 0 80 = t at hsl ht
    clear h80
    have HS := Lib.hid (fun w => seed_any t w (by omega))
    have HT := Lib.hid (fun w => refSeed_any t w (by omega))
    generalize seedI 14695981039346656037 t.data.toList = sd at *
    clear ht
    cases hx : stB n with
    | false =>
      rw [hx] at HA
      simp only [Bool.false_eq_true, if_false] at HA
      have q4 : em.toList = [] := by kernel_rfl
      by_cases h1 : n < 1
      · have d1 : decide (n < 1) = true := decide_eq_true h1
        clear hx
        go_enter Try.func6, Try.ntmps6
        go_upto_region 3 with fail
        clear d0 hsl
        go_wp2_with fail
        refine (HN.out _).mono ?_; rintro e w1 ⟨rfl, hb1⟩
        go_wp2_with fail
        refine (HR.out _).mono ?_; rintro e w2 ⟨rfl, rfl⟩
        go_wp2_with fail
        refine (HS.out _).mono ?_; rintro e w2 ⟨rfl, rfl⟩
        go_wp2_with fail
        refine (HT.out _).mono ?_; rintro e w2 ⟨rfl, rfl⟩
        go_wp2_with fail
        refine (HA.out _).mono ?_; rintro e w3 ⟨rfl, hb3⟩
        have hB3 := bel hb1 hb3
        go_wp2_with fail
        refine (HW.out _).mono ?_; rintro e w5 ⟨rfl, hb5⟩
        go_wp2_with fail
        go_ret
        exact ⟨rfl, bel hB3 hb5⟩
      · have d1 : decide (n < 1) = false := decide_eq_false h1
        have d3 : decide (3 < n) = true := decide_eq_true (by
          have h2 : ¬ (1 ≤ n ∧ n ≤ 3) := of_decide_eq_false hx
          omega)
        clear hx
        go_enter Try.func6, Try.ntmps6
        go_upto_region 3 with fail
        clear d0 hsl
        go_wp2_with fail
        refine (HN.out _).mono ?_; rintro e w1 ⟨rfl, hb1⟩
        go_wp2_with fail
        refine (HR.out _).mono ?_; rintro e w2 ⟨rfl, rfl⟩
        go_wp2_with fail
        refine (HS.out _).mono ?_; rintro e w2 ⟨rfl, rfl⟩
        go_wp2_with fail
        refine (HT.out _).mono ?_; rintro e w2 ⟨rfl, rfl⟩
        go_wp2_with fail
        refine (HA.out _).mono ?_; rintro e w3 ⟨rfl, hb3⟩
        have hB3 := bel hb1 hb3
        go_wp2_with fail
        refine (HW.out _).mono ?_; rintro e w5 ⟨rfl, hb5⟩
        go_wp2_with fail
        go_ret
        exact ⟨rfl, bel hB3 hb5⟩
    | true =>
      have hnn : 1 ≤ n ∧ n ≤ 3 := of_decide_eq_true hx
      have d1 : decide (n < 1) = false := decide_eq_false (by omega)
      have d3 : decide (3 < n) = false := decide_eq_false (by omega)
      have m1 : IntKind.u8.wrap n = n := IntWalk.u8_in _ (by omega)
      have m2 : n % 256 = n := Int.emod_eq_of_lt (by omega) (by omega)
      have HD : Hid (∀ w, Calls Try.prog 17 #[.string (strOfNums [65, n])] w fun e w' => e = .returned (.tuple #[.int .i64 n, .int .i64 0]) ∧ Below w.heap.size w w') := Lib.hid (fun w => by
        have h := readAff_any (strOfNums [65, n]) w (by rw [strNums_size]; simp)
        obtain ⟨k1, k2⟩ := affB_of hx
        rw [if_pos k1, k2] at h
        exact h)
      have hsp : strOfNums [65, n] = ⟨#[65]⟩ ++ strOfNums [n] := strOfNums_append [65] [n]
      have hz : ¬ 9223372036854775807 < 1 + (strOfNums [n]).size := by rw [strNums_size]; simp
      rw [hx] at HA
      simp only [if_true] at HA
      rw [hsp] at HA
      rw [hsp] at HD
      clear hx hsp
      go_enter Try.func6, Try.ntmps6
      go_upto_region 3 with fail
      clear d0 hsl
      go_wp2_with fail
      refine (HN.out _).mono ?_; rintro e w1 ⟨rfl, hb1⟩
      go_wp2_with fail
      refine (HR.out _).mono ?_; rintro e w2 ⟨rfl, rfl⟩
      go_wp2_with fail
      refine (HS.out _).mono ?_; rintro e w2 ⟨rfl, rfl⟩
      go_wp2_with fail
      refine (HT.out _).mono ?_; rintro e w2 ⟨rfl, rfl⟩
      go_wp2_with fail
      refine (HA.out _).mono ?_; rintro e w3 ⟨rfl, hb3⟩
      have hB3 := bel hb1 hb3
      go_wp2_with fail
      refine (HD.out _).mono ?_; rintro e w4 ⟨rfl, hb4⟩
      have hB4 := bel hB3 hb4
      have hcv := conv_sees (one_sees0 w4 n)
      go_wp2_with fail
      refine (HW.out _).mono ?_; rintro e w5 ⟨rfl, hb5⟩
      go_wp2_with fail
      go_ret
      exact ⟨rfl, bel (belAlloc hB4 _) hb5⟩
  · have d0 : decide (80 < (s.size : Int)) = false := by simp; omega
    have ht : s.size ≤ 80 := by omega
    clear h80
    have HS := Lib.hid (fun w => seed_any s w (by omega))
    have HT := Lib.hid (fun w => refSeed_any s w (by omega))
    generalize seedI 14695981039346656037 s.data.toList = sd at *
    clear ht
    cases hx : stB n with
    | false =>
      rw [hx] at HA
      simp only [Bool.false_eq_true, if_false] at HA
      have q4 : em.toList = [] := by kernel_rfl
      by_cases h1 : n < 1
      · have d1 : decide (n < 1) = true := decide_eq_true h1
        clear hx
        go_enter Try.func6, Try.ntmps6
        go_upto_region 3 with fail
        clear d0
        go_wp2_with fail
        refine (HN.out _).mono ?_; rintro e w1 ⟨rfl, hb1⟩
        go_wp2_with fail
        refine (HR.out _).mono ?_; rintro e w2 ⟨rfl, rfl⟩
        go_wp2_with fail
        refine (HS.out _).mono ?_; rintro e w2 ⟨rfl, rfl⟩
        go_wp2_with fail
        refine (HT.out _).mono ?_; rintro e w2 ⟨rfl, rfl⟩
        go_wp2_with fail
        refine (HA.out _).mono ?_; rintro e w3 ⟨rfl, hb3⟩
        have hB3 := bel hb1 hb3
        go_wp2_with fail
        refine (HW.out _).mono ?_; rintro e w5 ⟨rfl, hb5⟩
        go_wp2_with fail
        go_ret
        exact ⟨rfl, bel hB3 hb5⟩
      · have d1 : decide (n < 1) = false := decide_eq_false h1
        have d3 : decide (3 < n) = true := decide_eq_true (by
          have h2 : ¬ (1 ≤ n ∧ n ≤ 3) := of_decide_eq_false hx
          omega)
        clear hx
        go_enter Try.func6, Try.ntmps6
        go_upto_region 3 with fail
        clear d0
        go_wp2_with fail
        refine (HN.out _).mono ?_; rintro e w1 ⟨rfl, hb1⟩
        go_wp2_with fail
        refine (HR.out _).mono ?_; rintro e w2 ⟨rfl, rfl⟩
        go_wp2_with fail
        refine (HS.out _).mono ?_; rintro e w2 ⟨rfl, rfl⟩
        go_wp2_with fail
        refine (HT.out _).mono ?_; rintro e w2 ⟨rfl, rfl⟩
        go_wp2_with fail
        refine (HA.out _).mono ?_; rintro e w3 ⟨rfl, hb3⟩
        have hB3 := bel hb1 hb3
        go_wp2_with fail
        refine (HW.out _).mono ?_; rintro e w5 ⟨rfl, hb5⟩
        go_wp2_with fail
        go_ret
        exact ⟨rfl, bel hB3 hb5⟩
    | true =>
      have hnn : 1 ≤ n ∧ n ≤ 3 := of_decide_eq_true hx
      have d1 : decide (n < 1) = false := decide_eq_false (by omega)
      have d3 : decide (3 < n) = false := decide_eq_false (by omega)
      have m1 : IntKind.u8.wrap n = n := IntWalk.u8_in _ (by omega)
      have m2 : n % 256 = n := Int.emod_eq_of_lt (by omega) (by omega)
      have HD : Hid (∀ w, Calls Try.prog 17 #[.string (strOfNums [65, n])] w fun e w' => e = .returned (.tuple #[.int .i64 n, .int .i64 0]) ∧ Below w.heap.size w w') := Lib.hid (fun w => by
        have h := readAff_any (strOfNums [65, n]) w (by rw [strNums_size]; simp)
        obtain ⟨k1, k2⟩ := affB_of hx
        rw [if_pos k1, k2] at h
        exact h)
      have hsp : strOfNums [65, n] = ⟨#[65]⟩ ++ strOfNums [n] := strOfNums_append [65] [n]
      have hz : ¬ 9223372036854775807 < 1 + (strOfNums [n]).size := by rw [strNums_size]; simp
      rw [hx] at HA
      simp only [if_true] at HA
      rw [hsp] at HA
      rw [hsp] at HD
      clear hx hsp
      go_enter Try.func6, Try.ntmps6
      go_upto_region 3 with fail
      clear d0
      go_wp2_with fail
      refine (HN.out _).mono ?_; rintro e w1 ⟨rfl, hb1⟩
      go_wp2_with fail
      refine (HR.out _).mono ?_; rintro e w2 ⟨rfl, rfl⟩
      go_wp2_with fail
      refine (HS.out _).mono ?_; rintro e w2 ⟨rfl, rfl⟩
      go_wp2_with fail
      refine (HT.out _).mono ?_; rintro e w2 ⟨rfl, rfl⟩
      go_wp2_with fail
      refine (HA.out _).mono ?_; rintro e w3 ⟨rfl, hb3⟩
      have hB3 := bel hb1 hb3
      go_wp2_with fail
      refine (HD.out _).mono ?_; rintro e w4 ⟨rfl, hb4⟩
      have hB4 := bel hB3 hb4
      have hcv := conv_sees (one_sees0 w4 n)
      go_wp2_with fail
      refine (HW.out _).mono ?_; rintro e w5 ⟨rfl, hb5⟩
      go_wp2_with fail
      go_ret
      exact ⟨rfl, bel (belAlloc hB4 _) hb5⟩
end Go.Proofs.Ytcfmknocpjjklaa
