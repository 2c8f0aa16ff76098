/- Package pack: a reader that reads texts, and one that is not there. -/
import Derived.Test.YtgodmnpcedfdcaaPkR
namespace Go.Proofs.Ytgodmnpcedfdcaa
open Go.RowKit
def doneB (st : Option (List Int)) : Bool := !st.isNone && ((st.getD []).length : Int) == 0
set_option maxHeartbeats 400000 in
theorem done_any (g B : Nat) (st : Option (List Int)) (w : World) (h : RdP g B st w) :
    Calls Try.prog 74 #[.pointer (some ⟨g, 0, none⟩)] w fun e w' => e = .returned (.bool (doneB st)) ∧ w = w' := by
  have H1 := Lib.hid (bad_any g B st _ h)
  have H2 := Lib.hid (left_any g B st _ h)
  clear h
  unfold doneB
  cases hs : st.isNone with
  | true =>
    rw [hs] at H1
    go_enter Try.func74, Try.ntmps74
    go_wp2_with fail
    refine H1.out.mono ?_; rintro e w1 ⟨rfl, rfl⟩
    go_wp2_with fail
    go_ret
    exact ⟨rfl, rfl⟩
  | false =>
    rw [hs] at H1
    go_enter Try.func74, Try.ntmps74
    go_wp2_with fail
    refine H1.out.mono ?_; rintro e w1 ⟨rfl, rfl⟩
    go_wp2_with fail
    refine H2.out.mono ?_; rintro e w1 ⟨rfl, rfl⟩
    go_wp2_with fail
    go_ret
    exact ⟨by simp, rfl⟩
set_option maxHeartbeats 400000 in
theorem done_nil (w : World) :
    Calls Try.prog 74 #[.pointer none] w fun e w' => e = .returned (.bool false) ∧ w = w' := by
  go_enter Try.func74, Try.ntmps74
  go_wp2_with fail
  refine (bad_nil _).mono ?_; rintro e w1 ⟨rfl, rfl⟩
  go_wp2_with fail
  go_ret
  exact ⟨rfl, rfl⟩
set_option maxHeartbeats 1000000 in
theorem text_any (g B : Nat) (st : Option (List Int)) (w : World) (h : RdP g B st w) :
    Calls Try.prog 71 #[.pointer (some ⟨g, 0, none⟩)] w fun e w' => e = .returned (.string (strOfNums (rdT st).1)) ∧ RdP g B (rdT st).2 w' ∧ w.grownBy w' (some g) := by
  have HU := Lib.hid (u_any g B st 1 w h)
  obtain ⟨b0, b1⟩ := rdU_ok h 1
  have b1' : (rdU st 1).1 < 256 := b1
  clear b1 h
  by_cases hgt : 64 < (rdU st 1).1
  · have d0 : decide (64 < (rdU st 1).1) = true := by simpa using hgt
    have HP : Hid (rdT st = ([], none)) := Lib.hid (by unfold rdT; rw [if_neg (by omega)])
    go_enter Try.func71, Try.ntmps71
    go_wp2_with fail
    refine HU.out.mono ?_; rintro e w1 ⟨rfl, hR, hg⟩
    go_wp2_with fail
    refine (spoil_any g B _ _ hR).mono ?_; rintro e w2 ⟨rfl, hR2, hg2⟩
    go_wp2_with fail
    go_ret
    rw [HP.out]
    exact ⟨rfl, hR2, grown_trans hg hg2⟩
  · have d0 : decide (64 < (rdU st 1).1) = false := by simpa using hgt
    have HP : Hid (rdT st = rdB (rdU st 1).2 (rdU st 1).1) := Lib.hid (by unfold rdT; rw [if_pos (by omega)])
    have s1 : IntKind.i64.wrap (rdU st 1).1 = (rdU st 1).1 := IntWalk.i64_in _ (by omega)
    go_enter Try.func71, Try.ntmps71
    go_wp2_with fail
    refine HU.out.mono ?_; rintro e w1 ⟨rfl, hR, hg⟩
    go_wp2_with fail
    refine (bytes_any g B _ _ _ hR).mono ?_; rintro e w2 ⟨v, rfl, hs, -, hR2, hg2⟩
    have hcv := conv_sees hs
    go_wp2_with fail
    go_ret
    rw [HP.out]
    exact ⟨rfl, hR2, grown_trans hg hg2⟩
set_option maxHeartbeats 400000 in
theorem u_nil (k : Int) (w : World) :
    Calls Try.prog 70 #[.pointer none, .int .i64 k] w fun e w' => e = .returned (.int .u64 0) ∧ w = w' := by
  by_cases hk : wOk k = true
  · have HM : Hid (∀ w, Calls Try.prog 101 #[.int .i64 k] w fun e w' => e = .returned (.bool true) ∧ w = w') := Lib.hid (fun w => by rw [← hk]; exact mayWidth_any k w)
    clear hk
    go_enter Try.func70, Try.ntmps70
    go_wp2_with fail
    refine (HM.out _).mono ?_; rintro e w1 ⟨rfl, rfl⟩
    go_wp2_with fail
    refine (bytes_nil _ _).mono ?_; rintro e w1 ⟨rfl, rfl⟩
    go_wp2_with fail
    refine wp_loop_rounds 1 ?_
    rw [rounds_succ]
    go_wp2
    go_ret
    exact ⟨rfl, rfl⟩
  · have hkf : wOk k = false := by simpa using hk
    have HM : Hid (∀ w, Calls Try.prog 101 #[.int .i64 k] w fun e w' => e = .returned (.bool false) ∧ w = w') := Lib.hid (fun w => by rw [← hkf]; exact mayWidth_any k w)
    clear hk hkf
    go_enter Try.func70, Try.ntmps70
    go_wp2_with fail
    refine (HM.out _).mono ?_; rintro e w1 ⟨rfl, rfl⟩
    go_wp2_with fail
    refine (spoil_nil _).mono ?_; rintro e w1 ⟨rfl, rfl⟩
    go_wp2_with fail
    go_ret
    exact ⟨rfl, rfl⟩
set_option maxHeartbeats 400000 in
theorem text_nil (w : World) :
    Calls Try.prog 71 #[.pointer none] w fun e w' => e = .returned (.string ByteArray.empty) ∧ w = w' := by
  go_enter Try.func71, Try.ntmps71
  go_wp2_with fail
  refine (u_nil _ _).mono ?_; rintro e w1 ⟨rfl, rfl⟩
  go_wp2_with fail
  refine (bytes_nil _ _).mono ?_; rintro e w1 ⟨rfl, rfl⟩
  have hcv := conv_sees (Sees.nil w)
  go_wp2_with fail
  go_ret
  exact ⟨rfl, rfl⟩
end Go.Proofs.Ytgodmnpcedfdcaa
