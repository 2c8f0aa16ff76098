/- Joined: NmRight NmText NmKeys. -/
import Derived.Test.YtkldglhihfjclaaGreatDoorNMb
import Derived.Laws.RangeAny
import Derived.LoopTactic
namespace Go.Proofs.YtkldglhihfjclaaGreatDoor.NM
section
open Go.RowKit Go.Maps
theorem beqT {x k : Int} (h : x = k) : (x == k) = true := by simp [h]
theorem beqF {x k : Int} (h : x ≠ k) : (x == k) = false := by simp [h]
/-- May a sign stand in a name? -/
def signI (x : Int) : Bool := decide ((97 ≤ x ∧ x ≤ 122) ∨ (65 ≤ x ∧ x ≤ 90) ∨ (48 ≤ x ∧ x ≤ 57) ∨ x = 46 ∨ x = 45 ∨ x = 95)
theorem signs (x : Int) : 97 ≤ x ∧ x ≤ 122 ∨ 65 ≤ x ∧ x ≤ 90 ∨ 48 ≤ x ∧ x ≤ 57 ∨ x = 46 ∨ x = 45 ∨ x = 95 ∨ 123 ≤ x ∨ 91 ≤ x ∧ x ≤ 96 ∧ x ≠ 95 ∨ 58 ≤ x ∧ x ≤ 64 ∨ x ≤ 47 ∧ x ≠ 46 ∧ x ≠ 45 := by omega
def okName (l : List UInt8) : Bool := decide (1 ≤ l.length ∧ l.length ≤ 64) && l.all (fun c => signI (c.toNat : Int))
theorem mayStand_any (x : Int) (w : World) : Calls Tryz.prog 164 #[.int .i32 x] w fun e w' => e = .returned (.bool (signI x)) ∧ w = w' := by
  rcases signs x with h | h | h | h | h | h | h | h | h | h
  · have g97 : decide (97 ≤ x) = true := decide_eq_true (by omega)
    have g65 : decide (65 ≤ x) = true := decide_eq_true (by omega)
    have g48 : decide (48 ≤ x) = true := decide_eq_true (by omega)
    have l122 : decide (x ≤ 122) = true := decide_eq_true (by omega)
    have l90 : decide (x ≤ 90) = false := decide_eq_false (by omega)
    have l57 : decide (x ≤ 57) = false := decide_eq_false (by omega)
    have e46 : (x == 46) = false := beqF (by omega)
    have e45 : (x == 45) = false := beqF (by omega)
    have e95 : (x == 95) = false := beqF (by omega)
    have HV : Hid (true = signI x) := Lib.hid (by unfold signI; exact (decide_eq_true (by omega)).symm)
    clear h
    go_enter Tryz.func164, Tryz.ntmps164
    go_wp2
    go_ret
    exact ⟨congrArg (fun b : Bool => Ending.returned (.bool b)) HV.out, rfl⟩
  · have g97 : decide (97 ≤ x) = false := decide_eq_false (by omega)
    have g65 : decide (65 ≤ x) = true := decide_eq_true (by omega)
    have g48 : decide (48 ≤ x) = true := decide_eq_true (by omega)
    have l122 : decide (x ≤ 122) = true := decide_eq_true (by omega)
    have l90 : decide (x ≤ 90) = true := decide_eq_true (by omega)
    have l57 : decide (x ≤ 57) = false := decide_eq_false (by omega)
    have e46 : (x == 46) = false := beqF (by omega)
    have e45 : (x == 45) = false := beqF (by omega)
    have e95 : (x == 95) = false := beqF (by omega)
    have HV : Hid (true = signI x) := Lib.hid (by unfold signI; exact (decide_eq_true (by omega)).symm)
    clear h
    go_enter Tryz.func164, Tryz.ntmps164
    go_wp2
    go_ret
    exact ⟨congrArg (fun b : Bool => Ending.returned (.bool b)) HV.out, rfl⟩
  · have g97 : decide (97 ≤ x) = false := decide_eq_false (by omega)
    have g65 : decide (65 ≤ x) = false := decide_eq_false (by omega)
    have g48 : decide (48 ≤ x) = true := decide_eq_true (by omega)
    have l122 : decide (x ≤ 122) = true := decide_eq_true (by omega)
    have l90 : decide (x ≤ 90) = true := decide_eq_true (by omega)
    have l57 : decide (x ≤ 57) = true := decide_eq_true (by omega)
    have e46 : (x == 46) = false := beqF (by omega)
    have e45 : (x == 45) = false := beqF (by omega)
    have e95 : (x == 95) = false := beqF (by omega)
    have HV : Hid (true = signI x) := Lib.hid (by unfold signI; exact (decide_eq_true (by omega)).symm)
    clear h
    go_enter Tryz.func164, Tryz.ntmps164
    go_wp2
    go_ret
    exact ⟨congrArg (fun b : Bool => Ending.returned (.bool b)) HV.out, rfl⟩
  · have g97 : decide (97 ≤ x) = false := decide_eq_false (by omega)
    have g65 : decide (65 ≤ x) = false := decide_eq_false (by omega)
    have g48 : decide (48 ≤ x) = false := decide_eq_false (by omega)
    have l122 : decide (x ≤ 122) = true := decide_eq_true (by omega)
    have l90 : decide (x ≤ 90) = true := decide_eq_true (by omega)
    have l57 : decide (x ≤ 57) = true := decide_eq_true (by omega)
    have e46 : (x == 46) = true := beqT (by omega)
    have e45 : (x == 45) = false := beqF (by omega)
    have e95 : (x == 95) = false := beqF (by omega)
    have HV : Hid (true = signI x) := Lib.hid (by unfold signI; exact (decide_eq_true (by omega)).symm)
    clear h
    go_enter Tryz.func164, Tryz.ntmps164
    go_wp2
    go_ret
    exact ⟨congrArg (fun b : Bool => Ending.returned (.bool b)) HV.out, rfl⟩
  · have g97 : decide (97 ≤ x) = false := decide_eq_false (by omega)
    have g65 : decide (65 ≤ x) = false := decide_eq_false (by omega)
    have g48 : decide (48 ≤ x) = false := decide_eq_false (by omega)
    have l122 : decide (x ≤ 122) = true := decide_eq_true (by omega)
    have l90 : decide (x ≤ 90) = true := decide_eq_true (by omega)
    have l57 : decide (x ≤ 57) = true := decide_eq_true (by omega)
    have e46 : (x == 46) = false := beqF (by omega)
    have e45 : (x == 45) = true := beqT (by omega)
    have e95 : (x == 95) = false := beqF (by omega)
    have HV : Hid (true = signI x) := Lib.hid (by unfold signI; exact (decide_eq_true (by omega)).symm)
    clear h
    go_enter Tryz.func164, Tryz.ntmps164
    go_wp2
    go_ret
    exact ⟨congrArg (fun b : Bool => Ending.returned (.bool b)) HV.out, rfl⟩
  · have g97 : decide (97 ≤ x) = false := decide_eq_false (by omega)
    have g65 : decide (65 ≤ x) = true := decide_eq_true (by omega)
    have g48 : decide (48 ≤ x) = true := decide_eq_true (by omega)
    have l122 : decide (x ≤ 122) = true := decide_eq_true (by omega)
    have l90 : decide (x ≤ 90) = false := decide_eq_false (by omega)
    have l57 : decide (x ≤ 57) = false := decide_eq_false (by omega)
    have e46 : (x == 46) = false := beqF (by omega)
    have e45 : (x == 45) = false := beqF (by omega)
    have e95 : (x == 95) = true := beqT (by omega)
    have HV : Hid (true = signI x) := Lib.hid (by unfold signI; exact (decide_eq_true (by omega)).symm)
    clear h
    go_enter Tryz.func164, Tryz.ntmps164
    go_wp2
    go_ret
    exact ⟨congrArg (fun b : Bool => Ending.returned (.bool b)) HV.out, rfl⟩
  · have g97 : decide (97 ≤ x) = true := decide_eq_true (by omega)
    have g65 : decide (65 ≤ x) = true := decide_eq_true (by omega)
    have g48 : decide (48 ≤ x) = true := decide_eq_true (by omega)
    have l122 : decide (x ≤ 122) = false := decide_eq_false (by omega)
    have l90 : decide (x ≤ 90) = false := decide_eq_false (by omega)
    have l57 : decide (x ≤ 57) = false := decide_eq_false (by omega)
    have e46 : (x == 46) = false := beqF (by omega)
    have e45 : (x == 45) = false := beqF (by omega)
    have e95 : (x == 95) = false := beqF (by omega)
    have HV : Hid (false = signI x) := Lib.hid (by unfold signI; exact (decide_eq_false (by omega)).symm)
    clear h
    go_enter Tryz.func164, Tryz.ntmps164
    go_wp2
    go_ret
    exact ⟨congrArg (fun b : Bool => Ending.returned (.bool b)) HV.out, rfl⟩
  · have g97 : decide (97 ≤ x) = false := decide_eq_false (by omega)
    have g65 : decide (65 ≤ x) = true := decide_eq_true (by omega)
    have g48 : decide (48 ≤ x) = true := decide_eq_true (by omega)
    have l122 : decide (x ≤ 122) = true := decide_eq_true (by omega)
    have l90 : decide (x ≤ 90) = false := decide_eq_false (by omega)
    have l57 : decide (x ≤ 57) = false := decide_eq_false (by omega)
    have e46 : (x == 46) = false := beqF (by omega)
    have e45 : (x == 45) = false := beqF (by omega)
    have e95 : (x == 95) = false := beqF (by omega)
    have HV : Hid (false = signI x) := Lib.hid (by unfold signI; exact (decide_eq_false (by omega)).symm)
    clear h
    go_enter Tryz.func164, Tryz.ntmps164
    go_wp2
    go_ret
    exact ⟨congrArg (fun b : Bool => Ending.returned (.bool b)) HV.out, rfl⟩
  · have g97 : decide (97 ≤ x) = false := decide_eq_false (by omega)
    have g65 : decide (65 ≤ x) = false := decide_eq_false (by omega)
    have g48 : decide (48 ≤ x) = true := decide_eq_true (by omega)
    have l122 : decide (x ≤ 122) = true := decide_eq_true (by omega)
    have l90 : decide (x ≤ 90) = true := decide_eq_true (by omega)
    have l57 : decide (x ≤ 57) = false := decide_eq_false (by omega)
    have e46 : (x == 46) = false := beqF (by omega)
    have e45 : (x == 45) = false := beqF (by omega)
    have e95 : (x == 95) = false := beqF (by omega)
    have HV : Hid (false = signI x) := Lib.hid (by unfold signI; exact (decide_eq_false (by omega)).symm)
    clear h
    go_enter Tryz.func164, Tryz.ntmps164
    go_wp2
    go_ret
    exact ⟨congrArg (fun b : Bool => Ending.returned (.bool b)) HV.out, rfl⟩
  · have g97 : decide (97 ≤ x) = false := decide_eq_false (by omega)
    have g65 : decide (65 ≤ x) = false := decide_eq_false (by omega)
    have g48 : decide (48 ≤ x) = false := decide_eq_false (by omega)
    have l122 : decide (x ≤ 122) = true := decide_eq_true (by omega)
    have l90 : decide (x ≤ 90) = true := decide_eq_true (by omega)
    have l57 : decide (x ≤ 57) = true := decide_eq_true (by omega)
    have e46 : (x == 46) = false := beqF (by omega)
    have e45 : (x == 45) = false := beqF (by omega)
    have e95 : (x == 95) = false := beqF (by omega)
    have HV : Hid (false = signI x) := Lib.hid (by unfold signI; exact (decide_eq_false (by omega)).symm)
    clear h
    go_enter Tryz.func164, Tryz.ntmps164
    go_wp2
    go_ret
    exact ⟨congrArg (fun b : Bool => Ending.returned (.bool b)) HV.out, rfl⟩
theorem all_snoc {l : List UInt8} {f : UInt8 → Bool} {i : Nat} (h : i < l.length) (ha : (l.take i).all f = true) (hc : f l[i] = true) : (l.take (i + 1)).all f = true := by
  rw [List.take_add_one, List.getElem?_eq_getElem h, List.all_append, ha]
  simp [hc]
theorem all_no {l : List UInt8} {f : UInt8 → Bool} {i : Nat} (h : i < l.length) (hc : f l[i] = false) : l.all f = false := by
  rw [List.all_eq_false]
  exact ⟨l[i], List.getElem_mem h, by rw [hc]; simp⟩
theorem str_empty (s : ByteArray) : (s.toList == ([] : List UInt8)) = decide (s.size = 0) := by
  rw [ByteArray.toList_eq]
  have h : s.data.toList.length = s.size := rfl
  cases hl : s.data.toList with
  | nil => rw [hl] at h; simp at h; simp [← h]
  | cons a r =>
    rw [hl, List.length_cons] at h
    rw [decide_eq_false (by omega)]
    rfl
set_option maxRecDepth 100000 in
set_option maxHeartbeats 4000000 in
theorem right_any (s : ByteArray) (w : World) (hs : s.size ≤ maxLen) : Calls Tryz.prog 122 #[.string s] w fun e w' => e = .returned (.bool (okName s.data.toList)) ∧ Below w.heap.size w w' := by
  have hl : s.data.toList.length = s.size := rfl
  have k0 : (0 : Int) ≤ (s.size : Int) := by omega
  have k1 : (s.size : Int) ≤ 9223372036854775807 := by unfold maxLen at hs; omega
  clear hs
  have he := str_empty s
  by_cases h0 : s.size = 0
  · rw [decide_eq_true h0] at he
    have HV : Hid (false = okName s.data.toList) := Lib.hid (by unfold okName; rw [hl, h0]; rfl)
    clear h0 hl k0 k1
    go_enter Tryz.func122, Tryz.ntmps122
    go_wp2_with fail
    go_ret
    exact ⟨congrArg (fun b : Bool => Ending.returned (.bool b)) HV.out, Below.refl _ _⟩
  · rw [decide_eq_false h0] at he
    by_cases h64 : 64 < s.size
    · have d0 : decide (64 < (s.size : Int)) = true := by simp; omega
      have HV : Hid (false = okName s.data.toList) := Lib.hid (by unfold okName; rw [hl, decide_eq_false (by omega)]; rfl)
      clear h0 hl
      go_enter Tryz.func122, Tryz.ntmps122
      go_wp2_with fail
      go_ret
      exact ⟨congrArg (fun b : Bool => Ending.returned (.bool b)) HV.out, Below.refl _ _⟩
    · have d0 : decide (64 < (s.size : Int)) = false := by simp; omega
      have HV : Hid (okName s.data.toList = s.data.toList.all (fun c => signI (c.toNat : Int))) := Lib.hid (by unfold okName; rw [hl, decide_eq_true (by omega), Bool.true_and])
      have HL := Lib.hid hl
      have HZ := Lib.hid h64
      clear h0 hl h64
      go_enter Tryz.func122, Tryz.ntmps122
      go_wp2_with fail
      go_loopw [] (fun w' => ∃ pos : Nat, w' = w.iter s pos ∧ pos ≤ s.size ∧ Aside ((s.data.toList.take pos).all (fun c => signI (c.toNat : Int)) = true)) (fun w' => s.size - w'.iterPos w.heap.size)
      case atStart => exact ⟨0, rfl, Nat.zero_le _, rfl⟩
      case round =>
        obtain ⟨pos, rfl, hle, hall⟩ := hrel
        by_cases hp : pos < s.size
        · have hnx : ∀ ty, (Instr.next (.pointer (some ⟨w.heap.size, 0, none⟩)) true ty).run Tryz.prog (w.iter s pos) = _ := fun ty => run_next_any w s pos ty hp
          have hpl : pos < s.data.toList.length := by rw [HL.out]; exact hp
          have hget : s.data.toList[pos] = s[pos] := rfl
          by_cases hlo : (s[pos]'hp).toNat < 128
          · rw [decode_ascii s pos hp hlo] at hnx
            have HM := Lib.hid (mayStand_any ((s[pos]'hp).toNat : Int))
            cases hsg : signI ((s[pos]'hp).toNat : Int) with
            | true =>
              rw [hsg] at HM
              have HN := Lib.hid (all_snoc (f := fun c => signI (c.toNat : Int)) hpl hall.out (by rw [hget]; exact hsg))
              clear hsg hget hpl hall
              go_wp2_with (first
                | (go_at_call 164; refine (HM.out _).mono ?_; rintro e wx ⟨rfl, rfl⟩)
                | go_in)
              go_roundw
              case rel => exact ⟨pos + 1, rfl, by omega, HN.out⟩
              case measure => simp; omega
            | false =>
              rw [hsg] at HM
              have HN := Lib.hid (all_no (f := fun c => signI (c.toNat : Int)) hpl (by rw [hget]; exact hsg))
              clear hsg hget hpl hall
              go_wp2_with (first
                | (go_at_call 164; refine (HM.out _).mono ?_; rintro e wx ⟨rfl, rfl⟩)
                | go_in)
              go_ret
              exact ⟨congrArg (fun b : Bool => Ending.returned (.bool b)) (HV.out.trans HN.out).symm, (Below.refl _ _).alloc (Nat.le_refl _) _⟩
          · obtain ⟨hd, -⟩ := decode_high s pos hp (by omega)
            have HM := Lib.hid (mayStand_any ((Utf8.decode s pos).1 : Int))
            have hsg : signI ((Utf8.decode s pos).1 : Int) = false := by unfold signI; exact decide_eq_false (by omega)
            rw [hsg] at HM
            have HN := Lib.hid (all_no (f := fun c => signI (c.toNat : Int)) hpl (by rw [hget]; unfold signI; exact decide_eq_false (by omega)))
            generalize Utf8.decode s pos = dc at hnx HM
            clear hsg hget hpl hall hd
            go_wp2_with (first
              | (go_at_call 164; refine (HM.out _).mono ?_; rintro e wx ⟨rfl, rfl⟩)
              | go_in)
            go_ret
            exact ⟨congrArg (fun b : Bool => Ending.returned (.bool b)) (HV.out.trans HN.out).symm, (Below.refl _ _).alloc (Nat.le_refl _) _⟩
        · have hnx : ∀ ty, (Instr.next (.pointer (some ⟨w.heap.size, 0, none⟩)) true ty).run Tryz.prog (w.iter s pos) = _ := fun ty => run_next_end w s pos ty hp
          have hall2 := hall.out
          rw [List.take_of_length_le (by rw [HL.out]; omega)] at hall2
          have HN := Lib.hid hall2
          clear hall hall2
          go_wp2_with fail
          go_ret
          exact ⟨congrArg (fun b : Bool => Ending.returned (.bool b)) (HV.out.trans HN.out).symm, (Below.refl _ _).alloc (Nat.le_refl _) _⟩
set_option maxRecDepth 100000 in
set_option maxHeartbeats 4000000 in
theorem refRight12_any (s : ByteArray) (w : World) (hs : s.size ≤ maxLen) : Calls Tryz.prog 76 #[.string s] w fun e w' => e = .returned (.bool (okName s.data.toList)) ∧ w = w' := by
  have hl : s.data.toList.length = s.size := rfl
  have k0 : (0 : Int) ≤ (s.size : Int) := by omega
  have k1 : s.size ≤ 9223372036854775807 := by unfold maxLen at hs; omega
  have HV : Hid (okName s.data.toList = (decide (1 ≤ s.size ∧ s.size ≤ 64) && s.data.toList.all (fun c => signI (c.toNat : Int)))) := Lib.hid rfl
  have HL := Lib.hid hl
  clear hs hl
  go_enter Tryz.func76, Tryz.ntmps76
  go_wp2_with fail
  go_loop [3] (fun j => ∃ i : Nat, i ≤ s.size ∧ j = .int .i64 i ∧ Aside ((s.data.toList.take i).all (fun c => signI (c.toNat : Int)) = true)) (fun j => s.size - (intOf j).toNat)
  case atStart => exact ⟨0, Nat.zero_le _, rfl, rfl⟩
  case round =>
    obtain ⟨i, hi, rfl, hall⟩ := hrel
    by_cases hlt : i < s.size
    · have b1 : (i : Int) < (s.size : Int) := by omega
      have b0 : (0 : Int) ≤ (i : Int) := by omega
      have hpl : i < s.data.toList.length := by rw [HL.out]; exact hlt
      have hget : s.data.toList[i] = s[i] := rfl
      have HN : Hid (signI ((s[i]'hlt).toNat : Int) = true → (s.data.toList.take (i + 1)).all (fun c => signI (c.toNat : Int)) = true) := Lib.hid (fun h => all_snoc (f := fun c => signI (c.toNat : Int)) hpl hall.out (by rw [hget]; exact h))
      have HNO : Hid (signI ((s[i]'hlt).toNat : Int) = false → okName s.data.toList = false) := Lib.hid (fun h => by rw [HV.out, all_no (f := fun c => signI (c.toNat : Int)) hpl (by rw [hget]; exact h), Bool.and_false])
      generalize hx : ((s[i]'hlt).toNat : Int) = x at HN HNO
      have HX := Lib.hid hx
      clear hall hpl hget
      rcases signs x with h | h | h | h | h | h | h | h | h | h
      · have g97 : decide (97 ≤ ((s[i]'hlt).toNat : Int)) = true := decide_eq_true (by have := HX.out; omega)
        have g65 : decide (65 ≤ ((s[i]'hlt).toNat : Int)) = true := decide_eq_true (by have := HX.out; omega)
        have g48 : decide (48 ≤ ((s[i]'hlt).toNat : Int)) = true := decide_eq_true (by have := HX.out; omega)
        have l122 : decide (((s[i]'hlt).toNat : Int) ≤ 122) = true := decide_eq_true (by have := HX.out; omega)
        have l90 : decide (((s[i]'hlt).toNat : Int) ≤ 90) = false := decide_eq_false (by have := HX.out; omega)
        have l57 : decide (((s[i]'hlt).toNat : Int) ≤ 57) = false := decide_eq_false (by have := HX.out; omega)
        have e46 : (((s[i]'hlt).toNat : Int) == 46) = false := beqF (by have := HX.out; omega)
        have e45 : (((s[i]'hlt).toNat : Int) == 45) = false := beqF (by have := HX.out; omega)
        have e95 : (((s[i]'hlt).toNat : Int) == 95) = false := beqF (by have := HX.out; omega)
        have HG := Lib.hid (HN.out (by unfold signI; exact decide_eq_true (by omega)))
        clear h hx
        go_wp2_with fail
        go_round
        case rel => exact ⟨i + 1, by omega, by go_num, HG.out⟩
        case measure => simp [intOf]; omega
      · have g97 : decide (97 ≤ ((s[i]'hlt).toNat : Int)) = false := decide_eq_false (by have := HX.out; omega)
        have g65 : decide (65 ≤ ((s[i]'hlt).toNat : Int)) = true := decide_eq_true (by have := HX.out; omega)
        have g48 : decide (48 ≤ ((s[i]'hlt).toNat : Int)) = true := decide_eq_true (by have := HX.out; omega)
        have l122 : decide (((s[i]'hlt).toNat : Int) ≤ 122) = true := decide_eq_true (by have := HX.out; omega)
        have l90 : decide (((s[i]'hlt).toNat : Int) ≤ 90) = true := decide_eq_true (by have := HX.out; omega)
        have l57 : decide (((s[i]'hlt).toNat : Int) ≤ 57) = false := decide_eq_false (by have := HX.out; omega)
        have e46 : (((s[i]'hlt).toNat : Int) == 46) = false := beqF (by have := HX.out; omega)
        have e45 : (((s[i]'hlt).toNat : Int) == 45) = false := beqF (by have := HX.out; omega)
        have e95 : (((s[i]'hlt).toNat : Int) == 95) = false := beqF (by have := HX.out; omega)
        have HG := Lib.hid (HN.out (by unfold signI; exact decide_eq_true (by omega)))
        clear h hx
        go_wp2_with fail
        go_round
        case rel => exact ⟨i + 1, by omega, by go_num, HG.out⟩
        case measure => simp [intOf]; omega
      · have g97 : decide (97 ≤ ((s[i]'hlt).toNat : Int)) = false := decide_eq_false (by have := HX.out; omega)
        have g65 : decide (65 ≤ ((s[i]'hlt).toNat : Int)) = false := decide_eq_false (by have := HX.out; omega)
        have g48 : decide (48 ≤ ((s[i]'hlt).toNat : Int)) = true := decide_eq_true (by have := HX.out; omega)
        have l122 : decide (((s[i]'hlt).toNat : Int) ≤ 122) = true := decide_eq_true (by have := HX.out; omega)
        have l90 : decide (((s[i]'hlt).toNat : Int) ≤ 90) = true := decide_eq_true (by have := HX.out; omega)
        have l57 : decide (((s[i]'hlt).toNat : Int) ≤ 57) = true := decide_eq_true (by have := HX.out; omega)
        have e46 : (((s[i]'hlt).toNat : Int) == 46) = false := beqF (by have := HX.out; omega)
        have e45 : (((s[i]'hlt).toNat : Int) == 45) = false := beqF (by have := HX.out; omega)
        have e95 : (((s[i]'hlt).toNat : Int) == 95) = false := beqF (by have := HX.out; omega)
        have HG := Lib.hid (HN.out (by unfold signI; exact decide_eq_true (by omega)))
        clear h hx
        go_wp2_with fail
        go_round
        case rel => exact ⟨i + 1, by omega, by go_num, HG.out⟩
        case measure => simp [intOf]; omega
      · have g97 : decide (97 ≤ ((s[i]'hlt).toNat : Int)) = false := decide_eq_false (by have := HX.out; omega)
        have g65 : decide (65 ≤ ((s[i]'hlt).toNat : Int)) = false := decide_eq_false (by have := HX.out; omega)
        have g48 : decide (48 ≤ ((s[i]'hlt).toNat : Int)) = false := decide_eq_false (by have := HX.out; omega)
        have l122 : decide (((s[i]'hlt).toNat : Int) ≤ 122) = true := decide_eq_true (by have := HX.out; omega)
        have l90 : decide (((s[i]'hlt).toNat : Int) ≤ 90) = true := decide_eq_true (by have := HX.out; omega)
        have l57 : decide (((s[i]'hlt).toNat : Int) ≤ 57) = true := decide_eq_true (by have := HX.out; omega)
        have e46 : (((s[i]'hlt).toNat : Int) == 46) = true := beqT (by have := HX.out; omega)
        have e45 : (((s[i]'hlt).toNat : Int) == 45) = false := beqF (by have := HX.out; omega)
        have e95 : (((s[i]'hlt).toNat : Int) == 95) = false := beqF (by have := HX.out; omega)
        have HG := Lib.hid (HN.out (by unfold signI; exact decide_eq_true (by omega)))
        clear h hx
        go_wp2_with fail
        go_round
        case rel => exact ⟨i + 1, by omega, by go_num, HG.out⟩
        case measure => simp [intOf]; omega
      · have g97 : decide (97 ≤ ((s[i]'hlt).toNat : Int)) = false := decide_eq_false (by have := HX.out; omega)
        have g65 : decide (65 ≤ ((s[i]'hlt).toNat : Int)) = false := decide_eq_false (by have := HX.out; omega)
        have g48 : decide (48 ≤ ((s[i]'hlt).toNat : Int)) = false := decide_eq_false (by have := HX.out; omega)
        have l122 : decide (((s[i]'hlt).toNat : Int) ≤ 122) = true := decide_eq_true (by have := HX.out; omega)
        have l90 : decide (((s[i]'hlt).toNat : Int) ≤ 90) = true := decide_eq_true (by have := HX.out; omega)
        have l57 : decide (((s[i]'hlt).toNat : Int) ≤ 57) = true := decide_eq_true (by have := HX.out; omega)
        have e46 : (((s[i]'hlt).toNat : Int) == 46) = false := beqF (by have := HX.out; omega)
        have e45 : (((s[i]'hlt).toNat : Int) == 45) = true := beqT (by have := HX.out; omega)
        have e95 : (((s[i]'hlt).toNat : Int) == 95) = false := beqF (by have := HX.out; omega)
        have HG := Lib.hid (HN.out (by unfold signI; exact decide_eq_true (by omega)))
        clear h hx
        go_wp2_with fail
        go_round
        case rel => exact ⟨i + 1, by omega, by go_num, HG.out⟩
        case measure => simp [intOf]; omega
      · have g97 : decide (97 ≤ ((s[i]'hlt).toNat : Int)) = false := decide_eq_false (by have := HX.out; omega)
        have g65 : decide (65 ≤ ((s[i]'hlt).toNat : Int)) = true := decide_eq_true (by have := HX.out; omega)
        have g48 : decide (48 ≤ ((s[i]'hlt).toNat : Int)) = true := decide_eq_true (by have := HX.out; omega)
        have l122 : decide (((s[i]'hlt).toNat : Int) ≤ 122) = true := decide_eq_true (by have := HX.out; omega)
        have l90 : decide (((s[i]'hlt).toNat : Int) ≤ 90) = false := decide_eq_false (by have := HX.out; omega)
        have l57 : decide (((s[i]'hlt).toNat : Int) ≤ 57) = false := decide_eq_false (by have := HX.out; omega)
        have e46 : (((s[i]'hlt).toNat : Int) == 46) = false := beqF (by have := HX.out; omega)
        have e45 : (((s[i]'hlt).toNat : Int) == 45) = false := beqF (by have := HX.out; omega)
        have e95 : (((s[i]'hlt).toNat : Int) == 95) = true := beqT (by have := HX.out; omega)
        have HG := Lib.hid (HN.out (by unfold signI; exact decide_eq_true (by omega)))
        clear h hx
        go_wp2_with fail
        go_round
        case rel => exact ⟨i + 1, by omega, by go_num, HG.out⟩
        case measure => simp [intOf]; omega
      · have g97 : decide (97 ≤ ((s[i]'hlt).toNat : Int)) = true := decide_eq_true (by have := HX.out; omega)
        have g65 : decide (65 ≤ ((s[i]'hlt).toNat : Int)) = true := decide_eq_true (by have := HX.out; omega)
        have g48 : decide (48 ≤ ((s[i]'hlt).toNat : Int)) = true := decide_eq_true (by have := HX.out; omega)
        have l122 : decide (((s[i]'hlt).toNat : Int) ≤ 122) = false := decide_eq_false (by have := HX.out; omega)
        have l90 : decide (((s[i]'hlt).toNat : Int) ≤ 90) = false := decide_eq_false (by have := HX.out; omega)
        have l57 : decide (((s[i]'hlt).toNat : Int) ≤ 57) = false := decide_eq_false (by have := HX.out; omega)
        have e46 : (((s[i]'hlt).toNat : Int) == 46) = false := beqF (by have := HX.out; omega)
        have e45 : (((s[i]'hlt).toNat : Int) == 45) = false := beqF (by have := HX.out; omega)
        have e95 : (((s[i]'hlt).toNat : Int) == 95) = false := beqF (by have := HX.out; omega)
        have HG := Lib.hid (HNO.out (by unfold signI; exact decide_eq_false (by omega)))
        clear h hx
        go_wp2_with fail
        go_ret
        exact ⟨congrArg (fun b : Bool => Ending.returned (.bool b)) HG.out.symm, rfl⟩
      · have g97 : decide (97 ≤ ((s[i]'hlt).toNat : Int)) = false := decide_eq_false (by have := HX.out; omega)
        have g65 : decide (65 ≤ ((s[i]'hlt).toNat : Int)) = true := decide_eq_true (by have := HX.out; omega)
        have g48 : decide (48 ≤ ((s[i]'hlt).toNat : Int)) = true := decide_eq_true (by have := HX.out; omega)
        have l122 : decide (((s[i]'hlt).toNat : Int) ≤ 122) = true := decide_eq_true (by have := HX.out; omega)
        have l90 : decide (((s[i]'hlt).toNat : Int) ≤ 90) = false := decide_eq_false (by have := HX.out; omega)
        have l57 : decide (((s[i]'hlt).toNat : Int) ≤ 57) = false := decide_eq_false (by have := HX.out; omega)
        have e46 : (((s[i]'hlt).toNat : Int) == 46) = false := beqF (by have := HX.out; omega)
        have e45 : (((s[i]'hlt).toNat : Int) == 45) = false := beqF (by have := HX.out; omega)
        have e95 : (((s[i]'hlt).toNat : Int) == 95) = false := beqF (by have := HX.out; omega)
        have HG := Lib.hid (HNO.out (by unfold signI; exact decide_eq_false (by omega)))
        clear h hx
        go_wp2_with fail
        go_ret
        exact ⟨congrArg (fun b : Bool => Ending.returned (.bool b)) HG.out.symm, rfl⟩
      · have g97 : decide (97 ≤ ((s[i]'hlt).toNat : Int)) = false := decide_eq_false (by have := HX.out; omega)
        have g65 : decide (65 ≤ ((s[i]'hlt).toNat : Int)) = false := decide_eq_false (by have := HX.out; omega)
        have g48 : decide (48 ≤ ((s[i]'hlt).toNat : Int)) = true := decide_eq_true (by have := HX.out; omega)
        have l122 : decide (((s[i]'hlt).toNat : Int) ≤ 122) = true := decide_eq_true (by have := HX.out; omega)
        have l90 : decide (((s[i]'hlt).toNat : Int) ≤ 90) = true := decide_eq_true (by have := HX.out; omega)
        have l57 : decide (((s[i]'hlt).toNat : Int) ≤ 57) = false := decide_eq_false (by have := HX.out; omega)
        have e46 : (((s[i]'hlt).toNat : Int) == 46) = false := beqF (by have := HX.out; omega)
        have e45 : (((s[i]'hlt).toNat : Int) == 45) = false := beqF (by have := HX.out; omega)
        have e95 : (((s[i]'hlt).toNat : Int) == 95) = false := beqF (by have := HX.out; omega)
        have HG := Lib.hid (HNO.out (by unfold signI; exact decide_eq_false (by omega)))
        clear h hx
        go_wp2_with fail
        go_ret
        exact ⟨congrArg (fun b : Bool => Ending.returned (.bool b)) HG.out.symm, rfl⟩
      · have g97 : decide (97 ≤ ((s[i]'hlt).toNat : Int)) = false := decide_eq_false (by have := HX.out; omega)
        have g65 : decide (65 ≤ ((s[i]'hlt).toNat : Int)) = false := decide_eq_false (by have := HX.out; omega)
        have g48 : decide (48 ≤ ((s[i]'hlt).toNat : Int)) = false := decide_eq_false (by have := HX.out; omega)
        have l122 : decide (((s[i]'hlt).toNat : Int) ≤ 122) = true := decide_eq_true (by have := HX.out; omega)
        have l90 : decide (((s[i]'hlt).toNat : Int) ≤ 90) = true := decide_eq_true (by have := HX.out; omega)
        have l57 : decide (((s[i]'hlt).toNat : Int) ≤ 57) = true := decide_eq_true (by have := HX.out; omega)
        have e46 : (((s[i]'hlt).toNat : Int) == 46) = false := beqF (by have := HX.out; omega)
        have e45 : (((s[i]'hlt).toNat : Int) == 45) = false := beqF (by have := HX.out; omega)
        have e95 : (((s[i]'hlt).toNat : Int) == 95) = false := beqF (by have := HX.out; omega)
        have HG := Lib.hid (HNO.out (by unfold signI; exact decide_eq_false (by omega)))
        clear h hx
        go_wp2_with fail
        go_ret
        exact ⟨congrArg (fun b : Bool => Ending.returned (.bool b)) HG.out.symm, rfl⟩
    · obtain rfl : i = s.size := by omega
      have hall2 := hall.out
      rw [List.take_of_length_le (by rw [HL.out]; exact Nat.le_refl _)] at hall2
      have HG : Hid (okName s.data.toList = decide (1 ≤ s.size ∧ s.size ≤ 64)) := Lib.hid (by rw [HV.out, hall2, Bool.and_true])
      clear hall hall2
      by_cases h1 : 1 ≤ s.size
      · have d1 : decide (1 ≤ (s.size : Int)) = true := by simp; omega
        by_cases h2 : s.size ≤ 64
        · have d2 : decide ((s.size : Int) ≤ 64) = true := by simp; omega
          have HF := Lib.hid (HG.out.trans (decide_eq_true ⟨h1, h2⟩))
          go_wp2_with fail
          go_ret
          exact ⟨congrArg (fun b : Bool => Ending.returned (.bool b)) HF.out.symm, rfl⟩
        · have d2 : decide ((s.size : Int) ≤ 64) = false := by simp; omega
          have HF := Lib.hid (HG.out.trans (decide_eq_false (by omega)))
          go_wp2_with fail
          go_ret
          exact ⟨congrArg (fun b : Bool => Ending.returned (.bool b)) HF.out.symm, rfl⟩
      · have d1 : decide (1 ≤ (s.size : Int)) = false := by simp; omega
        have HF := Lib.hid (HG.out.trans (decide_eq_false (by omega)))
        go_wp2_with fail
        go_ret
        exact ⟨congrArg (fun b : Bool => Ending.returned (.bool b)) HF.out.symm, rfl⟩
end
section
open Go.RowKit Go.Maps
/-- The first of one sign by another one. -/
def repl (a b : UInt8) : List UInt8 → List UInt8
  | [] => []
  | c :: r => if c = a then b :: r else c :: repl a b r
theorem index_one (a c : UInt8) (l : List UInt8) : Lib.index (c :: l) [a] = if c = a then 0 else if Lib.index l [a] == -1 then -1 else Lib.index l [a] + 1 := by
  rw [Lib.index]
  by_cases h : c = a
  · subst h; simp
  · have : ([a] : List UInt8).isPrefixOf (c :: l) = false := by simp [List.isPrefixOf]; exact fun e => h e.symm
    rw [this, if_neg h]; rfl
theorem idx_case (l : List UInt8) (a : UInt8) : Lib.index l [a] = -1 ∨ ∃ i : Nat, Lib.index l [a] = i := by
  induction l with
  | nil => exact Or.inl rfl
  | cons c l ih =>
    rw [index_one]
    split
    · exact Or.inr ⟨0, rfl⟩
    · rcases ih with h | ⟨i, h⟩
      · rw [h]; exact Or.inl rfl
      · rw [h]
        exact Or.inr ⟨i + 1, if_neg (by simp)⟩
theorem repl_at (a b : UInt8) : ∀ l : List UInt8, (Lib.index l [a] = -1 → repl a b l = l) ∧ (∀ i : Nat, Lib.index l [a] = i → i < l.length ∧ repl a b l = l.take i ++ [b] ++ l.drop (i + 1))
  | [] => ⟨fun _ => rfl, fun i h => by have h2 : Lib.index [] [a] = -1 := rfl; omega⟩
  | c :: l => by
    obtain ⟨h1, h2⟩ := repl_at a b l
    rw [index_one]
    by_cases hc : c = a
    · rw [if_pos hc]
      refine ⟨fun h => by omega, fun i h => ?_⟩
      obtain rfl : i = 0 := by omega
      exact ⟨Nat.succ_pos _, by rw [repl, if_pos hc]; rfl⟩
    · rw [if_neg hc]
      by_cases hi : Lib.index l [a] = -1
      · have e : (Lib.index l [a] == -1) = true := by simpa using hi
        rw [if_pos e]
        exact ⟨fun _ => by rw [repl, if_neg hc, h1 hi], fun i h => by omega⟩
      · have e : ¬ (Lib.index l [a] == -1) = true := by simpa using hi
        rw [if_neg e]
        refine ⟨fun h => ?_, fun i h => ?_⟩
        · exfalso
          rcases idx_case l a with h5 | ⟨j, h5⟩
          · exact hi h5
          · omega
        · cases i with
          | zero =>
            exfalso
            omega
          | succ i =>
            obtain ⟨h3, h4⟩ := h2 i (by omega)
            exact ⟨Nat.succ_lt_succ h3, by rw [repl, if_neg hc, h4]; rfl⟩
theorem repl_len (a b : UInt8) : ∀ l : List UInt8, (repl a b l).length = l.length
  | [] => rfl
  | c :: l => by
    rw [repl]
    split
    · rfl
    · rw [List.length_cons, repl_len a b l]; rfl
theorem repl_app {a b : UInt8} : ∀ {x : List UInt8} {y : List UInt8}, a ∉ x → repl a b (x ++ a :: y) = x ++ b :: y
  | [], y, _ => by rw [List.nil_append, repl, if_pos rfl]; rfl
  | c :: x, y, h => by
    have hc : c ≠ a := fun e => h (by rw [e]; exact List.mem_cons_self)
    rw [List.cons_append, repl, if_neg hc, repl_app (fun hm => h (List.mem_cons_of_mem _ hm))]; rfl
theorem replace1_any (s : ByteArray) (a b : UInt8) (hab : a ≠ b) (w : World) (hE : Env w) (hs : s.size ≤ 1000) :
    Calls Tryz.prog 120 #[.string s, .string ⟨#[a]⟩, .string ⟨#[b]⟩, .int .i64 1] w fun e w' => e = .returned (.string ⟨(repl a b s.data.toList).toArray⟩) ∧ Below w.heap.size w w' := by
  obtain ⟨m, hm⟩ := hE.max
  have hne : (⟨#[a]⟩ : ByteArray) ≠ ⟨#[b]⟩ := fun e => hab (by
    have h1 := congrArg (fun x : ByteArray => x.data.toList) e
    simpa using h1)
  rcases idx_case s.data.toList a with hi | ⟨i, hi⟩
  · have h0 : Lib.countB s ⟨#[a]⟩ = 0 := Lib.count_miss hi
    refine (Tryz.strings_Replace_absent s ⟨#[a]⟩ ⟨#[b]⟩ 1 m w (by omega) hm (Nat.le_refl 1) hne (by decide) h0).mono ?_
    rintro e w' ⟨rfl, rfl⟩
    refine ⟨?_, Below.refl _ _⟩
    rw [(repl_at a b s.data.toList).1 hi]
  · have h1 : Lib.countB s ⟨#[a]⟩ = 1 + Lib.count (s.data.toList.drop (i + 1)) [a] := Lib.count_hit (by simp) hi
    have hle : Lib.countB s ⟨#[a]⟩ ≤ s.size := Lib.countB_le ⟨#[a]⟩ (Nat.le_refl 1) s.size s (Nat.le_refl _)
    obtain ⟨hl, hr⟩ := (repl_at a b s.data.toList).2 i hi
    refine (Tryz.strings_Replace_some s ⟨#[a]⟩ ⟨#[b]⟩ 1 m w (by omega) hm (Nat.le_refl 1) hne (by decide) (by omega) (by have : (⟨#[b]⟩ : ByteArray).size = 1 := rfl; rw [this]; omega)).mono ?_
    rintro e w' ⟨rfl, hb⟩
    refine ⟨?_, hb⟩
    have hn : Lib.replaceNum s.data.toList [a] 1 = 1 := by
      unfold Lib.replaceNum
      have : Lib.count s.data.toList [a] = Lib.countB s ⟨#[a]⟩ := rfl
      rw [if_neg (by rw [this]; omega)]
      rfl
    have hk : Lib.replaceK [a] [b] 1 s.data.toList = repl a b s.data.toList := by
      rw [hr]
      exact Lib.replaceK_hit [a] [b] 0 s.data.toList i hi
    show Ending.returned (.string ⟨(Lib.replaceK [a] [b] (Lib.replaceNum s.data.toList [a] 1) s.data.toList).toArray⟩) = _
    rw [hn, hk]
/-- A net in a key. -/
def keyTxt (a b : Int) : List UInt8 := repl 47 45 (netText a b)
theorem keyTxt_len (a b : Int) (ha : 0 ≤ a) (ha' : a < 4294967296) : (keyTxt a b).length ≤ 20 := by
  unfold keyTxt
  rw [repl_len]
  unfold netText
  split
  · rename_i hm
    have hb0 : 0 ≤ b ∧ b ≤ 32 := bitsOk_iff.1 (by unfold mayB at hm; rw [Bool.and_eq_true] at hm; exact hm.1)
    have h1 : (ipTxt a).length ≤ 16 := txt_len a ha ha' 4
    have h2 := size_dec b hb0.1 (by omega)
    rw [netTxt_eq]
    simp only [List.length_append, List.length_singleton]
    omega
  · exact Nat.zero_le _
theorem putNet_any (a b : Int) (ha : 0 ≤ a) (ha' : a < 4294967296) (w : World) (hE : Env w) :
    Calls Tryz.prog 92 #[.agg #[.int .u32 a, .int .i64 b]] w fun e w' => e = .returned (.string ⟨(keyTxt a b).toArray⟩) ∧ Below w.heap.size w w' := by
  have hb0 : Below w.heap.size w (w.alloc (.cells #[.int .u32 a, .int .i64 b] 176)) := belNew _ _
  have HP := Lib.hid (netPrint_any a b ha ha' _ (hE.below hb0))
  have hlen : (⟨(netText a b).toArray⟩ : ByteArray).size ≤ 1000 := by
    have h1 := keyTxt_len a b ha ha'
    unfold keyTxt at h1
    rw [repl_len] at h1
    simp [ByteArray.size]
    omega
  have HR : Hid (∀ w', Below w.heap.size w w' → Calls Tryz.prog 120 #[.string ⟨(netText a b).toArray⟩, .string ⟨#[47]⟩, .string ⟨#[45]⟩, .int .i64 1] w' fun e w'' => e = .returned (.string ⟨(keyTxt a b).toArray⟩) ∧ Below w'.heap.size w' w'') := Lib.hid (fun w' hb => replace1_any ⟨(netText a b).toArray⟩ 47 45 (by decide) w' (hE.below hb) hlen)
  have HB := Lib.hid hb0
  clear hb0 hlen hE
  go_enter Tryz.func92, Tryz.ntmps92
  go_wp2_with (first
    | (go_at_call 121; refine HP.out.mono ?_; rintro e w1 ⟨rfl, hb1⟩)
    | (go_at_call 120; refine (HR.out w1 (bel HB.out hb1)).mono ?_; rintro e w2 ⟨rfl, hb2⟩)
    | go_in)
  go_ret
  exact ⟨rfl, bel (bel HB.out hb1) hb2⟩
theorem hole26 : hole 26 = 64 := by decide
/-- The block of an address in a key. -/
def blkTxt (a : Int) : List UInt8 := keyTxt (a - a % 64) 26
theorem blockOf_any (a : Int) (ha : 0 ≤ a) (ha' : a < 4294967296) (w : World) (hE : Env w) :
    Calls Tryz.prog 62 #[.int .u32 a] w fun e w' => e = .returned (.string ⟨(blkTxt a).toArray⟩) ∧ Below w.heap.size w w' := by
  have HB := Lib.hid (block_yes a 26 ha ha' (by decide) (by decide) w)
  rw [hole26] at HB
  have HP : Hid (∀ w', Below w.heap.size w w' → Calls Tryz.prog 92 #[.agg #[.int .u32 (a - a % 64), .int .i64 26]] w' fun e w'' => e = .returned (.string ⟨(blkTxt a).toArray⟩) ∧ Below w'.heap.size w' w'') := Lib.hid (fun w' hb => putNet_any (a - a % 64) 26 (by omega) (by omega) w' (hE.below hb))
  clear hE
  generalize a - a % 64 = f at HB HP
  go_enter Tryz.func62, Tryz.ntmps62
  go_wp2_with (first
    | (go_at_call 91; refine HB.out.mono ?_; rintro e w1 ⟨rfl, hb1⟩)
    | (go_at_call 92; refine (HP.out _ (belAlloc hb1 _)).mono ?_; rintro e w2 ⟨rfl, hb2⟩)
    | go_in)
  go_ret
  exact ⟨rfl, bel (belAlloc hb1 _) hb2⟩
theorem blkTxt_len (a : Int) (ha : 0 ≤ a) (ha' : a < 4294967296) : (blkTxt a).length ≤ 20 := keyTxt_len _ _ (by omega) (by omega)
theorem blockKey_any (a : Int) (ha : 0 ≤ a) (ha' : a < 4294967296) (w : World) (hE : Env w) :
    Calls Tryz.prog 32 #[.int .u32 a] w fun e w' => e = .returned (.string ⟨([98, 108, 111, 99, 107, 47] ++ blkTxt a).toArray⟩) ∧ Below w.heap.size w w' := by
  have HB := Lib.hid (blockOf_any a ha ha' w hE)
  have hl := blkTxt_len a ha ha'
  have q : ¬ 9223372036854775807 < 6 + (blkTxt a).length := by omega
  have HV : Hid ((⟨#[98, 108, 111, 99, 107, 47]⟩ : ByteArray) ++ ⟨(blkTxt a).toArray⟩ = ⟨([98, 108, 111, 99, 107, 47] ++ blkTxt a).toArray⟩) := Lib.hid (mk_append [98, 108, 111, 99, 107, 47] (blkTxt a))
  clear hl hE
  go_enter Tryz.func32, Tryz.ntmps32
  go_wp2_with (first
    | (go_at_call 62; refine HB.out.mono ?_; rintro e w1 ⟨rfl, hb1⟩)
    | go_in)
  go_ret
  exact ⟨congrArg (fun t : ByteArray => Ending.returned (.string t)) HV.out, hb1⟩
end
section
open Go.RowKit Go.Maps
abbrev em : ByteArray := ⟨#[]⟩
theorem okName_size {s : ByteArray} (h : okName s.data.toList = true) : 1 ≤ s.size ∧ s.size ≤ 64 := by
  unfold okName at h
  rw [Bool.and_eq_true, decide_eq_true_eq] at h
  exact h.1
theorem named_any (st s : ByteArray) (hst : st.size ≤ 100) (hs : s.size ≤ maxLen) (w : World) :
    Calls Tryz.prog 93 #[.string st, .string s] w fun e w' => e = .returned (if okName s.data.toList = true then .tuple #[.string (st ++ s), .int .i64 0] else .tuple #[.string em, .int .i64 1]) ∧ Below w.heap.size w w' := by
  have HR := Lib.hid (right_any s w hs)
  cases hk : okName s.data.toList with
  | true =>
    have hz := okName_size hk
    have q : ¬ 9223372036854775807 < st.size + s.size := by omega
    rw [hk] at HR
    rw [if_pos rfl]
    clear hk hz hst hs
    go_enter Tryz.func93, Tryz.ntmps93
    go_wp2_with (first
      | (go_at_call 122; refine HR.out.mono ?_; rintro e w1 ⟨rfl, hb1⟩)
      | go_in)
    refine bodyPost_ret (v := .tuple #[.string (st ++ s), .int .i64 0]) (by simp [results, Tryz.results93, go_sem]) rfl ⟨rfl, hb1⟩
  | false =>
    rw [hk] at HR
    rw [if_neg (by simp)]
    clear hk hst hs
    go_enter Tryz.func93, Tryz.ntmps93
    go_wp2_with (first
      | (go_at_call 122; refine HR.out.mono ?_; rintro e w1 ⟨rfl, hb1⟩)
      | go_in)
    refine bodyPost_ret (v := .tuple #[.string em, .int .i64 1]) (by simp [results, Tryz.results93, go_sem]) rfl ⟨rfl, hb1⟩
abbrev pAff : ByteArray := ⟨#[97, 102, 102, 47]⟩
abbrev pHan : ByteArray := ⟨#[104, 97, 110, 100, 108, 101, 47]⟩
abbrev pNod : ByteArray := ⟨#[110, 111, 100, 101, 47]⟩
abbrev pPool : ByteArray := ⟨#[112, 111, 111, 108, 47]⟩
abbrev pBlk : ByteArray := ⟨#[98, 108, 111, 99, 107, 47]⟩
abbrev slash : ByteArray := ⟨#[47]⟩
theorem affsOf_any (s : ByteArray) (hs : s.size ≤ maxLen) (w : World) :
    Calls Tryz.prog 63 #[.string s] w fun e w' => e = .returned (if okName s.data.toList = true then .tuple #[.string (pAff ++ s ++ slash), .int .i64 0] else .tuple #[.string em, .int .i64 1]) ∧ Below w.heap.size w w' := by
  have HN := Lib.hid (named_any pAff s (by decide) hs w)
  cases hk : okName s.data.toList with
  | true =>
    have hz := okName_size hk
    have q : ¬ 9223372036854775807 < 4 + s.size + 1 := by omega
    rw [hk, if_pos rfl] at HN
    rw [if_pos rfl]
    clear hk hs hz
    go_enter Tryz.func63, Tryz.ntmps63
    go_wp2_with (first
      | (go_at_call 93; refine HN.out.mono ?_; rintro e w1 ⟨rfl, hb1⟩)
      | go_in)
    refine bodyPost_ret (v := .tuple #[.string (pAff ++ s ++ slash), .int .i64 0]) (by simp [results, Tryz.results63, go_sem]) rfl ⟨rfl, hb1⟩
  | false =>
    rw [hk, if_neg (by simp)] at HN
    rw [if_neg (by simp)]
    clear hk hs
    go_enter Tryz.func63, Tryz.ntmps63
    go_wp2_with (first
      | (go_at_call 93; refine HN.out.mono ?_; rintro e w1 ⟨rfl, hb1⟩)
      | go_in)
    refine bodyPost_ret (v := .tuple #[.string em, .int .i64 1]) (by simp [results, Tryz.results63, go_sem]) rfl ⟨rfl, hb1⟩
theorem aff_any (s : ByteArray) (a : Int) (hs : s.size ≤ maxLen) (ha : 0 ≤ a) (ha' : a < 4294967296) (w : World) (hE : Env w) :
    Calls Tryz.prog 33 #[.string s, .int .u32 a] w fun e w' => e = .returned (if okName s.data.toList = true then .tuple #[.string (pAff ++ s ++ slash ++ ⟨(blkTxt a).toArray⟩), .int .i64 0] else .tuple #[.string em, .int .i64 1]) ∧ Below w.heap.size w w' := by
  have HN := Lib.hid (affsOf_any s hs w)
  have HB : Hid (∀ w', Below w.heap.size w w' → Calls Tryz.prog 62 #[.int .u32 a] w' fun e w'' => e = .returned (.string ⟨(blkTxt a).toArray⟩) ∧ Below w'.heap.size w' w'') := Lib.hid (fun w' hb => blockOf_any a ha ha' w' (hE.below hb))
  have hl := blkTxt_len a ha ha'
  clear hE
  cases hk : okName s.data.toList with
  | true =>
    have hz := okName_size hk
    have q : ¬ 9223372036854775807 < 4 + s.size + 1 + (blkTxt a).length := by omega
    rw [hk, if_pos rfl] at HN
    rw [if_pos rfl]
    clear hk hs hz hl
    go_enter Tryz.func33, Tryz.ntmps33
    go_wp2_with (first
      | (go_at_call 63; refine HN.out.mono ?_; rintro e w1 ⟨rfl, hb1⟩)
      | (go_at_call 62; refine (HB.out w1 hb1).mono ?_; rintro e w2 ⟨rfl, hb2⟩)
      | go_in)
    refine bodyPost_ret (v := .tuple #[.string (pAff ++ s ++ slash ++ ⟨(blkTxt a).toArray⟩), .int .i64 0]) (by simp [results, Tryz.results33, go_sem]) rfl ⟨rfl, bel hb1 hb2⟩
  | false =>
    rw [hk, if_neg (by simp)] at HN
    rw [if_neg (by simp)]
    clear hk hs hl
    go_enter Tryz.func33, Tryz.ntmps33
    go_wp2_with (first
      | (go_at_call 63; refine HN.out.mono ?_; rintro e w1 ⟨rfl, hb1⟩)
      | go_in)
    refine bodyPost_ret (v := .tuple #[.string em, .int .i64 1]) (by simp [results, Tryz.results33, go_sem]) rfl ⟨rfl, hb1⟩
def poolOk (a b : Int) : Bool := mayB a b && decide (b ≤ 26)
end
end Go.Proofs.YtkldglhihfjclaaGreatDoor.NM
