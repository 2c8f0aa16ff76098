/- Package pack: a reader that reads texts, and one that is not there. -/
import Derived.Test.YtgodmnpcedfdcaaGreatPkR
namespace Go.Proofs.YtgodmnpcedfdcaaGreat
open Go.RowKit
def doneB (st : Option (List Int)) : Bool := !st.isNone && ((st.getD []).length : Int) == 0
set_option maxHeartbeats 400000 in
theorem done_any (g B : Nat) (st : Option (List Int)) (w : World) (h : RdP g B st w) :
    Calls Tryz.prog 38 #[.pointer (some ⟨g, 0, none⟩)] w fun e w' => e = .returned (.bool (doneB st)) ∧ w = w' := by
  have H1 := Lib.hid (bad_any g B st _ h)
  have H2 := Lib.hid (left_any g B st _ h)
  clear h
  unfold doneB
  cases hs : st.isNone with
  | true =>
    rw [hs] at H1
    go_enter Tryz.func38, Tryz.ntmps38
    go_wp2_with fail
    refine H1.out.mono ?_; rintro e w1 ⟨rfl, rfl⟩
    go_wp2_with fail
    go_ret
    exact ⟨rfl, rfl⟩
  | false =>
    rw [hs] at H1
    go_enter Tryz.func38, Tryz.ntmps38
    go_wp2_with fail
    refine H1.out.mono ?_; rintro e w1 ⟨rfl, rfl⟩
    go_wp2_with fail
    refine H2.out.mono ?_; rintro e w1 ⟨rfl, rfl⟩
    go_wp2_with fail
    go_ret
    exact ⟨by simp, rfl⟩
set_option maxHeartbeats 1000000 in
theorem text_any (g B : Nat) (st : Option (List Int)) (w : World) (h : RdP g B st w) :
    Calls Tryz.prog 35 #[.pointer (some ⟨g, 0, none⟩)] w fun e w' => e = .returned (.string (strOfNums (rdT st).1)) ∧ RdP g B (rdT st).2 w' ∧ w.grownBy w' (some g) := by
  have HU := Lib.hid (u_any g B st 1 w h)
  obtain ⟨b0, b1⟩ := rdU_ok h 1
  have b1' : (rdU st 1).1 < 256 := b1
  clear b1 h
  by_cases hgt : 64 < (rdU st 1).1
  · have d0 : decide (64 < (rdU st 1).1) = true := by simpa using hgt
    have HP : Hid (rdT st = ([], none)) := Lib.hid (by unfold rdT; rw [if_neg (by omega)])
    go_enter Tryz.func35, Tryz.ntmps35
    go_wp2_with fail
    refine HU.out.mono ?_; rintro e w1 ⟨rfl, hR, hg⟩
    go_wp2_with fail
    refine (spoil_any g B _ _ hR).mono ?_; rintro e w2 ⟨rfl, hR2, hg2⟩
    go_wp2_with fail
    go_ret
    rw [HP.out]
    exact ⟨rfl, hR2, grown_trans hg hg2⟩
  · have d0 : decide (64 < (rdU st 1).1) = false := by simpa using hgt
    have HP : Hid (rdT st = rdB (rdU st 1).2 (rdU st 1).1) := Lib.hid (by unfold rdT; rw [if_pos (by omega)])
    have s1 : IntKind.i64.wrap (rdU st 1).1 = (rdU st 1).1 := IntWalk.i64_in _ (by omega)
    go_enter Tryz.func35, Tryz.ntmps35
    go_wp2_with fail
    refine HU.out.mono ?_; rintro e w1 ⟨rfl, hR, hg⟩
    go_wp2_with fail
    refine (bytes_any g B _ _ _ hR).mono ?_; rintro e w2 ⟨v, rfl, hs, -, hR2, hg2⟩
    have hcv := conv_sees hs
    go_wp2_with fail
    go_ret
    rw [HP.out]
    exact ⟨rfl, hR2, grown_trans hg hg2⟩
end Go.Proofs.YtgodmnpcedfdcaaGreat
