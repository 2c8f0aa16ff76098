/- Package recs: nodes and affinities, read out of any bytes; the document's bytes of a node; chapter 13's example. -/
import Derived.Test.YtcfmknocpjjklaaRcMath
namespace Go.Proofs.Ytcfmknocpjjklaa
open Go.RowKit
set_option maxRecDepth 100000 in
set_option maxHeartbeats 4000000 in
theorem readNode_any (s : ByteArray) (w : World) (hs : s.size ≤ 1000) :
    Calls Try.prog 15 #[.string s] w fun e w' => e = .returned (if nodeB s = true then .tuple #[.bool ((v1 s).1 == 1), .int .i64 0] else .tuple #[.bool false, .int .i64 3]) ∧ Below w.heap.size w w' := by
  have HB := Lib.hid (fun w => behind_any pN s hs w)
  have HF : Hid (∀ g w, RdP g g (some (strI (rest s pN))) w → Calls Try.prog 32 #[.pointer (some ⟨g, 0, none⟩)] w fun e w' => e = .returned (.tuple #[.bool ((v1 s).1 == 1), .bool (decide ((v1 s).1 ≤ 1))]) ∧ RdP g g (v1 s).2 w' ∧ w.grownBy w' (some g)) := Lib.hid (fun g w h => readFlag_any g g _ w h)
  have HD : Hid (∀ g w, RdP g g (v1 s).2 w → Calls Try.prog 33 #[.pointer (some ⟨g, 0, none⟩)] w fun e w' => e = .returned (.bool (doneB (v1 s).2)) ∧ w = w') := Lib.hid (fun g w h => done_any g g _ w h)
  have hn : nodeB s = (starts s pN && (decide ((v1 s).1 ≤ 1) && doneB (v1 s).2)) := rfl
  rw [hn]
  generalize ((v1 s).1 == 1) = o at *
  generalize decide ((v1 s).1 ≤ 1) = F at *
  generalize doneB (v1 s).2 = D at *
  generalize starts s pN = S at *
  generalize hRV : (if (S && (F && D)) = true then (.tuple #[.bool o, .int .i64 0] : Value) else .tuple #[.bool false, .int .i64 3]) = RV
  have HV := Lib.hid hRV.symm
  clear hn hRV
  go_enter Try.func15, Try.ntmps15
  go_wp2_with fail
  refine (HB.out _).mono ?_; rintro e w1 ⟨g, rfl, hR1, hg1, hb1⟩
  go_wp2_with fail
  refine (HF.out _ _ hR1).mono ?_; rintro e w2 ⟨rfl, hR2, hg2⟩
  have hB2 : Below w.heap.size w w2 := below_grown hb1 hg2 hg1
  go_upto_region 3 with fail
  cases S with
  | false =>
    go_wp2_with fail
    go_ret2
    exact ⟨by rw [HV.out]; simp, hB2⟩
  | true =>
    cases F with
    | false =>
      go_wp2_with fail
      go_ret2
      exact ⟨by rw [HV.out]; simp, hB2⟩
    | true =>
      cases D with
      | false =>
        go_wp2_with fail
        refine (HD.out _ _ hR2).mono ?_; rintro e w3 ⟨rfl, rfl⟩
        go_wp2_with fail
        go_ret2
        exact ⟨by rw [HV.out]; simp, hB2⟩
      | true =>
        go_wp2_with fail
        refine (HD.out _ _ hR2).mono ?_; rintro e w3 ⟨rfl, rfl⟩
        go_wp2_with fail
        go_ret2
        exact ⟨by rw [HV.out]; simp, hB2⟩
set_option maxRecDepth 100000 in
set_option maxHeartbeats 4000000 in
theorem readAff_any (s : ByteArray) (w : World) (hs : s.size ≤ 1000) :
    Calls Try.prog 17 #[.string s] w fun e w' => e = .returned (if affB s = true then .tuple #[.int .i64 (a1 s).1, .int .i64 0] else .tuple #[.int .i64 0, .int .i64 3]) ∧ Below w.heap.size w w' := by
  obtain ⟨b0, b1⟩ := a1_bd s
  have HB := Lib.hid (fun w => behind_any pA s hs w)
  have HU : Hid (∀ g w, RdP g g (some (strI (rest s pA))) w → Calls Try.prog 31 #[.pointer (some ⟨g, 0, none⟩), .int .i64 1] w fun e w' => e = .returned (.int .u64 (a1 s).1) ∧ RdP g g (a1 s).2 w' ∧ w.grownBy w' (some g)) := Lib.hid (fun g w h => u_any g g _ 1 w h)
  have HD : Hid (∀ g w, RdP g g (a1 s).2 w → Calls Try.prog 33 #[.pointer (some ⟨g, 0, none⟩)] w fun e w' => e = .returned (.bool (doneB (a1 s).2)) ∧ w = w') := Lib.hid (fun g w h => done_any g g _ w h)
  have HM : Hid (∀ w, Calls Try.prog 35 #[.int .i64 (a1 s).1] w fun e w' => e = .returned (.bool (stB (a1 s).1)) ∧ w = w') := Lib.hid (fun w => mayStand_any _ w)
  have hn : affB s = (starts s pA && (doneB (a1 s).2 && stB (a1 s).1)) := rfl
  rw [hn]
  generalize stB (a1 s).1 = F at *
  generalize doneB (a1 s).2 = D at *
  generalize starts s pA = S at *
  generalize (a1 s).1 = x at *
  generalize hRV : (if (S && (D && F)) = true then (.tuple #[.int .i64 x, .int .i64 0] : Value) else .tuple #[.int .i64 0, .int .i64 3]) = RV
  have HV := Lib.hid hRV.symm
  clear hn hRV
  go_enter Try.func17, Try.ntmps17
  go_wp2_with fail
  refine (HB.out _).mono ?_; rintro e w1 ⟨g, rfl, hR1, hg1, hb1⟩
  go_wp2_with fail
  refine (HU.out _ _ hR1).mono ?_; rintro e w2 ⟨rfl, hR2, hg2⟩
  have hB2 : Below w.heap.size w w2 := below_grown hb1 hg2 hg1
  go_upto_region 3 with fail
  cases S with
  | false =>
    go_wp2_with fail
    go_ret2
    exact ⟨by rw [HV.out]; simp, hB2⟩
  | true =>
    cases D with
    | false =>
      go_wp2_with fail
      refine (HD.out _ _ hR2).mono ?_; rintro e w3 ⟨rfl, rfl⟩
      go_wp2_with fail
      go_ret2
      exact ⟨by rw [HV.out]; simp, hB2⟩
    | true =>
      cases F with
      | false =>
        go_wp2_with fail
        refine (HD.out _ _ hR2).mono ?_; rintro e w3 ⟨rfl, rfl⟩
        go_wp2_with fail
        refine (HM.out _).mono ?_; rintro e w4 ⟨rfl, rfl⟩
        go_wp2_with fail
        go_ret2
        exact ⟨by rw [HV.out]; simp, hB2⟩
      | true =>
        go_wp2_with fail
        refine (HD.out _ _ hR2).mono ?_; rintro e w3 ⟨rfl, rfl⟩
        go_wp2_with fail
        refine (HM.out _).mono ?_; rintro e w4 ⟨rfl, rfl⟩
        go_wp2_with fail
        go_ret2
        exact ⟨by rw [HV.out]; simp, hB2⟩
theorem node_str (o : Bool) : strOfNums [78, flagI o] = if o = true then ⟨#[78, 1]⟩ else ⟨#[78, 0]⟩ := by cases o <;> rfl
theorem refNode_any (o : Bool) (w : World) :
    Calls Try.prog 23 #[.bool o] w fun e w' => e = .returned (.string (strOfNums [78, flagI o])) ∧ w = w' := by
  cases o with
  | false =>
    go_enter Try.func23, Try.ntmps23
    go_wp2_with fail
    go_ret
    exact ⟨rfl, rfl⟩
  | true =>
    go_enter Try.func23, Try.ntmps23
    go_wp2_with fail
    go_ret
    exact ⟨rfl, rfl⟩
theorem ex13a : nodeB ⟨#[78, 1]⟩ = true := by kernel_rfl
theorem ex13b : ((v1 ⟨#[78, 1]⟩).1 == 1) = true := by kernel_rfl
set_option maxRecDepth 100000 in
theorem awake13_any (w : World) :
    Calls Try.prog 11 #[] w fun e w' => e = .returned (.bool true) ∧ Below w.heap.size w w' := by
  have HR : Hid (∀ w, Calls Try.prog 15 #[.string ⟨#[78, 1]⟩] w fun e w' => e = .returned (.tuple #[.bool true, .int .i64 0]) ∧ Below w.heap.size w w') := Lib.hid (fun w => by
    have h := readNode_any ⟨#[78, 1]⟩ w (by decide)
    rw [if_pos ex13a, ex13b] at h
    exact h)
  have HP : Hid (∀ w, Calls Try.prog 16 #[.bool true] w fun e w' => e = .returned (.string ⟨#[78, 1]⟩) ∧ Below w.heap.size w w') := Lib.hid (fun w => putNode_any true w)
  go_enter Try.func11, Try.ntmps11
  go_wp2_with fail
  refine (HR.out _).mono ?_; rintro e w1 ⟨rfl, hb1⟩
  go_wp2_with fail
  refine (HP.out _).mono ?_; rintro e w2 ⟨rfl, hb2⟩
  go_wp2_with fail
  go_ret
  exact ⟨rfl, bel hb1 hb2⟩
end Go.Proofs.Ytcfmknocpjjklaa
