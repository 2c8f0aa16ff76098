/- Package redo: Read. -/
import Derived.Test.YtogcjginifcbpaaRdRead
namespace Go.Proofs.Ytogcjginifcbpaa
open Go.RowKit Go.Maps
set_option maxRecDepth 100000 in
set_option maxHeartbeats 4000000 in
theorem read_core (b : Value) (xs : List Int) (w : World) (h : Sees w b xs) (hok : okB xs) (hl : xs.length ≤ 100000000000000) (kd rv : Int) (st1 st2 : Option (List Int)) (k1 k2 : ByteArray) (D rt : Bool)
    (HU : Hid (∀ g w, RdP g g (some xs) w → Calls Try.prog 61 #[.pointer (some ⟨g, 0, none⟩), .int .i64 1] w fun e w' => e = .returned (.int .u64 kd) ∧ RdP g g st1 w' ∧ w.grownBy w' (some g)))
    (HI : Hid (∀ g w, RdP g g st1 w → Calls Try.prog 62 #[.pointer (some ⟨g, 0, none⟩)] w fun e w' => e = .returned (.agg #[.string k1, .string k2, .int .i64 rv]) ∧ RdP g g st2 w' ∧ w.grownBy w' (some g)))
    (HD : Hid (∀ g w, RdP g g st2 w → Calls Try.prog 63 #[.pointer (some ⟨g, 0, none⟩)] w fun e w' => e = .returned (.bool D) ∧ w = w'))
    (HR : Hid (∀ w, Calls Try.prog 57 #[.agg #[.string k1, .string k2, .int .i64 rv, .bool (kd == 2)]] w fun x w' => x = .returned (.bool rt) ∧ Below w.heap.size w w')) :
    Calls Try.prog 40 #[b] w fun e w' => e = .returned (if (D && (kd == 1 || kd == 2) && rt) = true then .tuple #[.agg #[.string k1, .string k2, .int .i64 rv, .bool (kd == 2)], .int .i64 0] else .tuple #[.agg #[.string emp, .string emp, .int .i64 0, .bool false], .int .i64 3]) ∧ Below w.heap.size w w' := by
  obtain ⟨w0, hw0⟩ : ∃ w0, w0 = w.alloc (effO eff0) := ⟨_, rfl⟩
  have hb0 : Below w.heap.size w w0 := by rw [hw0]; exact belNew _ _
  have hx0 : w0.heap[w.heap.size]? = some (effO eff0) := by rw [hw0]; exact heap_alloc_new w _
  have HW := Lib.hid hw0
  have H0 := Lib.hid (And.intro hb0 hx0)
  have HN := Lib.hid (new_any b xs w0 (h.keep hb0) hok hl)
  clear hw0 hb0 hx0 h
  go_enter Try.func40, Try.ntmps40
  go_upto_region 1 with fail
  change Code.wp _ _ _ _ (w.alloc (effO eff0))
  rw [← HW.out]
  go_upto_region 5 with (first
    | (go_at_call 60; refine HN.out.mono ?_; rintro e w1 ⟨g, rfl, hR1, hg1, hb1⟩)
    | (go_at_call 61; refine (HU.out g w1 hR1).mono ?_; rintro e w2 ⟨rfl, hR2, hg2⟩)
    | (go_at_call 62; refine (HI.out g w2 hR2).mono ?_; rintro e w3 ⟨rfl, hR3, hg3⟩)
    | go_in)
  obtain ⟨W, hWe, hb5, hz5, hA5, hB5⟩ := two_alloc w3 (.cells #[.string k1, .string k2, .int .i64 rv] 73) (.cells #[.string k1, .string k2, .int .i64 rv, .bool (kd == 2)] 38)
  change Code.wp _ _ _ _ ((w3.alloc (.cells #[.string k1, .string k2, .int .i64 rv] 73)).alloc (.cells #[.string k1, .string k2, .int .i64 rv, .bool (kd == 2)] 38))
  rw [← hWe]
  have hs0 : w.heap.size < w0.heap.size := heap_lt H0.out.2
  have hg := grown_trans hg2 hg3
  have hx1 := (hb1.block w.heap.size hs0).trans H0.out.2
  have hx3 := (hg.block w.heap.size (heap_lt hx1) (fun e => absurd (Option.some.inj e) (by omega))).trans hx1
  have hx5 := (hb5.block w.heap.size (heap_lt hx3)).trans hx3
  have hbw : Below w.heap.size w W := ((H0.out.1.trans (hb1.mono (by omega))).grown hg (by have := hb1.size; omega) (fun k e => by have := Option.some.inj e; omega)).trans (hb5.mono (by have := hb1.size; have := hg.size; omega))
  have hR5 := hR3.below hb5
  have HX := Lib.hid (And.intro hx5 (And.intro hbw hB5))
  have HD5 := Lib.hid (HD.out g W hR5)
  clear hR1 hg1 hb1 hR2 hg2 hR3 hg3 hWe hb5 hz5 hA5 hg hx1 hx3 hbw hR5 HU HI HD HN HW
  have H1 := Lib.hid (put4_at hx5 (.string emp) (.string emp) (.int .i64 0) (.bool false))
  obtain ⟨c0, c1, c2, c3, f0, f1, f2, f3⟩ := four hx5
  obtain ⟨p0, p1, p2, p3, -⟩ := four hB5
  clear hx5 hB5
  cases D with
  | false =>
    go_wp2_with (first
      | (go_at_call 63; refine HD5.out.mono ?_; rintro e w6 ⟨rfl, rfl⟩)
      | go_in)
    have hE := H1.out
    unfold put4 at hE
    have hBl := put4_below HX.out.2.1 (Nat.le_refl _) (.string emp) (.string emp) (.int .i64 0) (.bool false)
    unfold put4 at hBl
    refine bodyPost_ret (v := .tuple #[.agg #[.string emp, .string emp, .int .i64 0, .bool false], .int .i64 3]) (by simp [results, Try.results40, go_sem, World.cell?, hE]) rfl ⟨rfl, hBl⟩
  | true =>
    by_cases hk1 : kd = 1
    · have e1 : (kd == 1) = true := by simpa using hk1
      have e2 : (kd == 2) = false := by simp; omega
      have n1 : (kd != 1) = false := by simp; omega
      simp only [e2] at HR p3
      cases rt with
      | false =>
        go_wp2_with (first
          | (go_at_call 63; refine HD5.out.mono ?_; rintro e w6 ⟨rfl, rfl⟩)
          | (go_at_call 57; refine (HR.out _).mono ?_; rintro x w7 ⟨rfl, hb7⟩; have hx7 := (hb7.block _ (heap_lt HX.out.1)).trans HX.out.1; have hB7 := (hb7.block _ (heap_lt HX.out.2.2)).trans HX.out.2.2; obtain ⟨d0, d1, d2, d3, g0, g1, g2, g3⟩ := four hx7; obtain ⟨q0, q1, q2, q3, -⟩ := four hB7; have HE7 := Lib.hid hx7; clear hx7 hB7)
          | go_in)
        all_goals
          have hE := put4_at HE7.out (.string emp) (.string emp) (.int .i64 0) (.bool false)
          unfold put4 at hE
          have hBl := put4_below (HX.out.2.1.trans (hb7.mono HX.out.2.1.size)) (Nat.le_refl _) (.string emp) (.string emp) (.int .i64 0) (.bool false)
          unfold put4 at hBl
          refine bodyPost_ret (v := .tuple #[.agg #[.string emp, .string emp, .int .i64 0, .bool false], .int .i64 3]) (by simp [results, Try.results40, go_sem, World.cell?, hE]) rfl ⟨by simp , hBl⟩
      | true =>
        go_wp2_with (first
          | (go_at_call 63; refine HD5.out.mono ?_; rintro e w6 ⟨rfl, rfl⟩)
          | (go_at_call 57; refine (HR.out _).mono ?_; rintro x w7 ⟨rfl, hb7⟩; have hx7 := (hb7.block _ (heap_lt HX.out.1)).trans HX.out.1; have hB7 := (hb7.block _ (heap_lt HX.out.2.2)).trans HX.out.2.2; obtain ⟨d0, d1, d2, d3, g0, g1, g2, g3⟩ := four hx7; obtain ⟨q0, q1, q2, q3, -⟩ := four hB7; have HE7 := Lib.hid hx7; clear hx7 hB7)
          | go_in)
        all_goals
          have hE := put4_at HE7.out (.string k1) (.string k2) (.int .i64 rv) (.bool false)
          unfold put4 at hE
          have hBl := put4_below (HX.out.2.1.trans (hb7.mono HX.out.2.1.size)) (Nat.le_refl _) (.string k1) (.string k2) (.int .i64 rv) (.bool false)
          unfold put4 at hBl
          refine bodyPost_ret (v := .tuple #[.agg #[.string k1, .string k2, .int .i64 rv, .bool false], .int .i64 0]) (by simp [results, Try.results40, go_sem, World.cell?, hE]) rfl ⟨by simp , hBl⟩
    · have e1 : (kd == 1) = false := by simpa using hk1
      have n1 : (kd != 1) = true := by simpa using hk1
      by_cases hk2 : kd = 2
      · have e2 : (kd == 2) = true := by simpa using hk2
        have n2 : (kd != 2) = false := by simp; omega
        simp only [e2] at HR p3
        cases rt with
        | false =>
          go_wp2_with (first
            | (go_at_call 63; refine HD5.out.mono ?_; rintro e w6 ⟨rfl, rfl⟩)
            | (go_at_call 57; refine (HR.out _).mono ?_; rintro x w7 ⟨rfl, hb7⟩; have hx7 := (hb7.block _ (heap_lt HX.out.1)).trans HX.out.1; have hB7 := (hb7.block _ (heap_lt HX.out.2.2)).trans HX.out.2.2; obtain ⟨d0, d1, d2, d3, g0, g1, g2, g3⟩ := four hx7; obtain ⟨q0, q1, q2, q3, -⟩ := four hB7; have HE7 := Lib.hid hx7; clear hx7 hB7)
            | go_in)
          all_goals
            have hE := put4_at HE7.out (.string emp) (.string emp) (.int .i64 0) (.bool false)
            unfold put4 at hE
            have hBl := put4_below (HX.out.2.1.trans (hb7.mono HX.out.2.1.size)) (Nat.le_refl _) (.string emp) (.string emp) (.int .i64 0) (.bool false)
            unfold put4 at hBl
            refine bodyPost_ret (v := .tuple #[.agg #[.string emp, .string emp, .int .i64 0, .bool false], .int .i64 3]) (by simp [results, Try.results40, go_sem, World.cell?, hE]) rfl ⟨by simp , hBl⟩
        | true =>
          go_wp2_with (first
            | (go_at_call 63; refine HD5.out.mono ?_; rintro e w6 ⟨rfl, rfl⟩)
            | (go_at_call 57; refine (HR.out _).mono ?_; rintro x w7 ⟨rfl, hb7⟩; have hx7 := (hb7.block _ (heap_lt HX.out.1)).trans HX.out.1; have hB7 := (hb7.block _ (heap_lt HX.out.2.2)).trans HX.out.2.2; obtain ⟨d0, d1, d2, d3, g0, g1, g2, g3⟩ := four hx7; obtain ⟨q0, q1, q2, q3, -⟩ := four hB7; have HE7 := Lib.hid hx7; clear hx7 hB7)
            | go_in)
          all_goals
            have hE := put4_at HE7.out (.string k1) (.string k2) (.int .i64 rv) (.bool true)
            unfold put4 at hE
            have hBl := put4_below (HX.out.2.1.trans (hb7.mono HX.out.2.1.size)) (Nat.le_refl _) (.string k1) (.string k2) (.int .i64 rv) (.bool true)
            unfold put4 at hBl
            refine bodyPost_ret (v := .tuple #[.agg #[.string k1, .string k2, .int .i64 rv, .bool true], .int .i64 0]) (by simp [results, Try.results40, go_sem, World.cell?, hE]) rfl ⟨by simp , hBl⟩
      · have e2 : (kd == 2) = false := by simpa using hk2
        have n2 : (kd != 2) = true := by simpa using hk2
        go_wp2_with (first
          | (go_at_call 63; refine HD5.out.mono ?_; rintro e w6 ⟨rfl, rfl⟩)
          | go_in)
        all_goals
          have hE := H1.out
          unfold put4 at hE
          have hBl := put4_below HX.out.2.1 (Nat.le_refl _) (.string emp) (.string emp) (.int .i64 0) (.bool false)
          unfold put4 at hBl
          refine bodyPost_ret (v := .tuple #[.agg #[.string emp, .string emp, .int .i64 0, .bool false], .int .i64 3]) (by simp [results, Try.results40, go_sem, World.cell?, hE]) rfl ⟨by simp , hBl⟩
end Go.Proofs.Ytogcjginifcbpaa
