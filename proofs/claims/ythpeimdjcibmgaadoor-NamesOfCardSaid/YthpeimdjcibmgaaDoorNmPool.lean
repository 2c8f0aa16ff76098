/- Package names: the document's own key of a pool; a text cut to its first signs. -/
import Derived.Test.YthpeimdjcibmgaaDoorNmMath
import Derived.Test.YthpeimdjcibmgaaDoorNmPre
namespace Go.Proofs.YthpeimdjcibmgaaDoor
open Go.RowKit Go.Maps
theorem poolOk_of {a b : Int} (h : mayB a b = true) : poolOk a b = !decide (26 < b) := by
  unfold poolOk
  rw [h, Bool.true_and]
  by_cases hb : b ≤ 26
  · rw [decide_eq_true hb, decide_eq_false (by omega)]; rfl
  · rw [decide_eq_false hb, decide_eq_true (by omega)]; rfl
set_option maxHeartbeats 4000000 in
theorem refPool_any (a b : Int) (ha : 0 ≤ a) (ha' : a < 4294967296) (hb : -9223372036854775808 ≤ b) (hb' : b ≤ 9223372036854775807) (w : World) :
    Calls Tryd.prog 8 #[.agg #[.int .u32 a, .int .i64 b]] w fun e w' => e = .returned (if poolOk a b = true then .tuple #[.string (pPool ++ ⟨(keyTxt a b).toArray⟩), .bool true] else .tuple #[.string em, .bool false]) ∧ Below w.heap.size w w' := by
  have HM : Hid (∀ w, Calls Tryd.prog 27 #[.agg #[.int .u32 a, .int .i64 b]] w fun e w' => e = .returned (.bool (mayB a b)) ∧ Below w.heap.size w w') := Lib.hid (fun w => refMay_any a b ha ha' hb hb' w)
  have hc := Cell2.new w a b 24
  have hb0 := belNew w (.cells #[.int .u32 a, .int .i64 b] 24)
  cases hm : mayB a b with
  | false =>
    have hp : poolOk a b = false := by unfold poolOk; rw [hm]; rfl
    rw [hp, if_neg (by simp)]
    rw [hm] at HM
    clear hm hp
    go_enter Tryd.func8, Tryd.ntmps8
    obtain ⟨c0, c1, c2⟩ := id hc
    go_wp2_with (first
      | (go_at_call 27; refine (HM.out _).mono ?_; rintro e w1 ⟨rfl, hb1⟩)
      | go_in)
    refine bodyPost_ret (v := .tuple #[.string em, .bool false]) (by simp [results, Tryd.results8, go_sem]) rfl ⟨rfl, bel hb0 hb1⟩
  | true =>
    obtain ⟨b0, b1⟩ := may_bits hm
    have HN : Hid (∀ w, Calls Tryd.prog 28 #[.agg #[.int .u32 a, .int .i64 b]] w fun e w' => e = .returned (.string ⟨(keyTxt a b).toArray⟩) ∧ Below w.heap.size w w') := Lib.hid (fun w => refNet_any a b hm ha ha' b0 b1 w)
    have hl := keyTxt_len a b ha ha'
    have q : ¬ 9223372036854775807 < 5 + (keyTxt a b).length := by omega
    have q2 : (⟨(keyTxt a b).toArray⟩ : ByteArray).size = (keyTxt a b).length := size_mk _
    have q3 : ¬ 9223372036854775807 < 5 + (⟨(keyTxt a b).toArray⟩ : ByteArray).size := by omega
    rw [poolOk_of hm]
    rw [hm] at HM
    clear hl q q2
    generalize (⟨(keyTxt a b).toArray⟩ : ByteArray) = X at *
    by_cases h26 : 26 < b
    · have d : decide (26 < b) = true := decide_eq_true h26
      rw [d, if_neg (by simp)]
      clear hm
      go_enter Tryd.func8, Tryd.ntmps8
      obtain ⟨c0, c1, c2⟩ := id hc
      go_wp2_with fail
      refine (HM.out _).mono ?_; rintro e w1 ⟨rfl, hb1⟩
      obtain ⟨x0, x1, x2⟩ := hc.keep hb1
      go_wp2_with fail
      refine bodyPost_ret (v := .tuple #[.string em, .bool false]) (by simp [results, Tryd.results8, go_sem]) rfl ⟨rfl, bel hb0 hb1⟩
    · have d : decide (26 < b) = false := decide_eq_false h26
      rw [d, if_pos (by simp)]
      clear hm
      go_enter Tryd.func8, Tryd.ntmps8
      obtain ⟨c0, c1, c2⟩ := id hc
      go_wp2_with fail
      refine (HM.out _).mono ?_; rintro e w1 ⟨rfl, hb1⟩
      obtain ⟨x0, x1, x2⟩ := hc.keep hb1
      go_wp2_with fail
      refine (HN.out _).mono ?_; rintro e w2 ⟨rfl, hb2⟩
      go_wp2_with fail
      refine bodyPost_ret (v := .tuple #[.string (pPool ++ X), .bool true]) (by simp [results, Tryd.results8, go_sem]) rfl ⟨rfl, bel (bel hb0 hb1) hb2⟩
end Go.Proofs.YthpeimdjcibmgaaDoor
