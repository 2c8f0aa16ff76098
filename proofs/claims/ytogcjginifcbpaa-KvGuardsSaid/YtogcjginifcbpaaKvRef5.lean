/- The document's state: May. -/
import Derived.Test.YtogcjginifcbpaaKvRef4
namespace Go.Proofs.Ytogcjginifcbpaa
open Go.RowKit Go.Maps
set_option maxRecDepth 100000 in
set_option maxHeartbeats 4000000 in
theorem refMay_any (v : Value) (L : List KEnt) (R : Int) (e : KEff) (w : World) (h : SeesI w v L) (hl : L.length ≤ maxLen) (hk : e.key.size ≤ maxLen) (hv2 : e.val.size ≤ maxLen) (hR : -9223372036854775808 ≤ R ∧ R ≤ 9223372036854775807) :
    Calls Try.prog 31 #[stV R v, effV e] w fun x w' => x = .returned (.bool (mayA ⟨R, L⟩ e)) ∧ Below w.heap.size w w' := by
  obtain ⟨W, hW, hb, hz, hA, hB⟩ := two_new w (stO R v) (effR9 e)
  have HF := Lib.hid (refFind_any v L R e.key W (h.below hb) hl)
  have HW := Lib.hid hW
  have HB0 := Lib.hid hb
  have HK : Hid (∀ w, Calls Try.prog 52 #[.string e.key] w fun x w' => x = .returned (.bool (mayK e.key)) ∧ w = w') := Lib.hid (key9_any e.key hk)
  have s0 := cell0 hA
  have s1 := cell1 hA
  obtain ⟨e0, e1, e2, e3⟩ := eff_cells hB
  have hmv : mayV e.val = decide (e.val.size ≤ 65536) := rfl
  have hsz0 : (0 : Int) ≤ (e.val.size : Int) := by omega
  have hsz1 : (e.val.size : Int) ≤ 9223372036854775807 := by unfold maxLen at hv2; omega
  obtain ⟨r0, r1⟩ := hR
  generalize hM : mayA ⟨R, L⟩ e = B
  unfold mayA at hM
  simp only [] at hM
  rw [hmv] at hM
  unfold gotV at HF
  generalize mayK e.key = t1 at HK hM
  generalize there L e.key = th at HF hM
  generalize gotU L e.key = u at HF
  obtain ⟨u1, u2, u3⟩ := u
  have HM := Lib.hid hM
  have HE := Lib.hid (And.intro e0 (And.intro e1 (And.intro e2 (And.intro e3 s0))))
  clear hW hb hz hA hB h hk hl hmv hM hv2 e2 e3 e1
  go_enter Try.func31, Try.ntmps31
  go_upto_region 1 with fail
  change Code.wp _ _ _ _ ((w.alloc (stO R v)).alloc (effR9 e))
  rw [← HW.out]
  go_upto_region 2 with (first
    | (go_at_call 50; refine HF.out.mono ?_; rintro x w1 ⟨rfl, hb1⟩)
    | go_in)
  obtain ⟨w2, hw2⟩ : ∃ w2, w2 = w1.alloc (itRO u1 u2 u3) := ⟨_, rfl⟩
  change Code.wp _ _ _ _ (w1.alloc (itRO u1 u2 u3))
  rw [← hw2]
  have hb2 : Below W.heap.size W w2 := by rw [hw2]; exact belAlloc hb1 _
  clear e0 s0 s1
  obtain ⟨e0, e1, e2, e3, s0⟩ := HE.out
  have e0 := bcell hb2 e0
  have e1 := bcell hb2 e1
  have e2 := bcell hb2 e2
  have e3 := bcell hb2 e3
  have s0 := bcell hb2 s0
  have HB2 := Lib.hid (HB0.out.trans (hb2.mono HB0.out.size))
  clear hw2 hb1 hb2 HW HE HF
  cases t1 with
  | false =>
    go_wp2_with (first
      | (go_at_call 52; refine (HK.out _).mono ?_; rintro x wz ⟨rfl, rfl⟩)
      | go_in)
    go_ret
    exact ⟨congrArg (fun b : Bool => Ending.returned (.bool b)) (HM.out.symm.trans (by simp)).symm, HB2.out⟩
  | true =>
    by_cases hv : e.val.size ≤ 65536
    · have d1 : decide (65536 < (e.val.size : Int)) = false := by simp; omega
      rw [decide_eq_true hv] at HM
      by_cases hx : 9223372036854775806 < R
      · have d2 : decide (9223372036854775806 < R) = true := by simpa using hx
        have hx2 : (R == 9223372036854775807) = true := by simp; omega
        rw [hx2] at HM
        clear hx hx2
        go_wp2_with (first
          | (go_at_call 52; refine (HK.out _).mono ?_; rintro x wz ⟨rfl, rfl⟩)
          | go_in)
        go_ret
        exact ⟨congrArg (fun b : Bool => Ending.returned (.bool b)) (HM.out.symm.trans (by simp)).symm, HB2.out⟩
      · have d2 : decide (9223372036854775806 < R) = false := by simpa using hx
        have hx2 : (R == 9223372036854775807) = false := by simp; omega
        have s9 : IntKind.i64.wrap (R + 1) = R + 1 := IntWalk.i64_in _ (by omega)
        rw [hx2] at HM
        clear hx hx2
        cases he : (e.rev == R + 1) with
        | false =>
          have he2 := bne_of he
          rw [he] at HM
          go_wp2_with (first
            | (go_at_call 52; refine (HK.out _).mono ?_; rintro x wz ⟨rfl, rfl⟩)
            | go_in)
          go_ret
          exact ⟨congrArg (fun b : Bool => Ending.returned (.bool b)) (HM.out.symm.trans (by simp)).symm, HB2.out⟩
        | true =>
          have he2 := bne_of he
          rw [he] at HM
          cases hg : e.gone with
          | false =>
            rw [hg] at HM e3
            clear hg
            go_wp2_with (first
              | (go_at_call 52; refine (HK.out _).mono ?_; rintro x wz ⟨rfl, rfl⟩)
              | go_in)
            go_ret
            exact ⟨congrArg (fun b : Bool => Ending.returned (.bool b)) (HM.out.symm.trans (by simp)).symm, HB2.out⟩
          | true =>
            rw [hg] at HM e3
            clear hg
            cases hi : (e.val.toList == ([] : List UInt8)) with
            | false =>
              rw [hi] at HM
              go_wp2_with (first
                | (go_at_call 52; refine (HK.out _).mono ?_; rintro x wz ⟨rfl, rfl⟩)
                | go_in)
              go_ret
              exact ⟨congrArg (fun b : Bool => Ending.returned (.bool b)) (HM.out.symm.trans (by simp)).symm, HB2.out⟩
            | true =>
              rw [hi] at HM
              cases th with
              | true =>
                go_wp2_with (first
                  | (go_at_call 52; refine (HK.out _).mono ?_; rintro x wz ⟨rfl, rfl⟩)
                  | go_in)
                go_ret
                exact ⟨congrArg (fun b : Bool => Ending.returned (.bool b)) (HM.out.symm.trans (by simp)).symm, HB2.out⟩
              | false =>
                go_wp2_with (first
                  | (go_at_call 52; refine (HK.out _).mono ?_; rintro x wz ⟨rfl, rfl⟩)
                  | go_in)
                go_ret
                exact ⟨congrArg (fun b : Bool => Ending.returned (.bool b)) (HM.out.symm.trans (by simp)).symm, HB2.out⟩
    · have d1 : decide (65536 < (e.val.size : Int)) = true := by simp; omega
      rw [decide_eq_false hv] at HM
      go_wp2_with (first
        | (go_at_call 52; refine (HK.out _).mono ?_; rintro x wz ⟨rfl, rfl⟩)
        | go_in)
      go_ret
      exact ⟨congrArg (fun b : Bool => Ending.returned (.bool b)) (HM.out.symm.trans (by simp)).symm, HB2.out⟩
end Go.Proofs.Ytogcjginifcbpaa
