/- HandleSets: a handle with so many in a block, more, or fewer. -/
import Derived.Test.YtcgkambkfaeceaaHnAwake
import Derived.Test.YtcgkambkfaeceaaHnSame
import Derived.Test.YtcgkambkfaeceaaHnOpen
import Derived.Test.YtcgkambkfaeceaaHnRefA
import Derived.Test.YtcgkambkfaeceaaHnRefB
import Derived.Test.YtcgkambkfaeceaaHnRefC
namespace Go.Proofs.Ytcgkambkfaeceaa
open Go.RowKit
theorem set_bd {L : CntL} {b n : Int} (h : CntBd L) (hb : 0 ≤ b) (hb' : b < 4294967296) (hn : -9223372036854775808 ≤ n ∧ n ≤ 9223372036854775807) : CntBd (setH L b n) := fun p hp => by
  rcases setH_mem hp with hp | ⟨rfl, _⟩
  · exact h p hp
  · exact ⟨⟨hb, hb'⟩, hn⟩
theorem sameT_any (a b : Value) (N : CntL) (w : World) (h : SeesC w a N) (h2 : SeesC w b N) (hl : N.length ≤ 1000000) :
    Calls Try.prog 16 #[a, b] w fun e w' => e = .returned (.bool true) ∧ Below w.heap.size w w' := by
  have := same_any a b N N w h h2 hl hl
  rwa [decide_eq_true (rfl : N = N)] at this
set_option maxRecDepth 100000 in
set_option maxHeartbeats 16000000 in
theorem lawSets (w : World) (v : Value) (L : CntL) (a n : Int) (h : SeesC w v L) (hb : CntBd L) (hl : L.length ≤ maxLen) (ha : 0 ≤ a) (ha' : a < 4294967296) (hn0 : -9223372036854775808 ≤ n) (hn1 : n ≤ 9223372036854775807) :
    Calls Try.prog 5 #[v, .int .u32 a, .int .i64 n] w fun e w' => e = .returned (.bool true) ∧ Below w.heap.size w w' := by
  have HOU := Lib.hid (ours_any v L w h (by unfold maxLen at hl; omega))
  have hbt := hb.take 40
  have hl2 : (L.take 40).length ≤ 40 := by rw [List.length_take]; omega
  have HAW := Lib.hid (fun w => awake17_any w)
  generalize L.take 40 = M at HOU hbt hl2
  clear h hb hl
  have HPL := Lib.hid (fun v w (h : SeesC w v M) => plain_any v M w h (by omega))
  have HRR := Lib.hid (fun v w (h : SeesC w v M) => refRight_any v M w h hbt (by omega))
  cases hr : rightH M with
  | false =>
    have HSB := Lib.hid (fun v w (h : SeesC w v M) => set_bad v M a n w h hbt (by omega) (Or.inl hr))
    have HAB := Lib.hid (fun v w (h : SeesC w v M) => add_bad v M a n w h hbt (by omega) (Or.inl hr))
    have HUB := Lib.hid (fun v w (h : SeesC w v M) => sub_bad v M a n w h hbt (by omega) (Or.inl hr))
    rw [hr] at HRR
    clear hbt hr
    go_enter Try.func5, Try.ntmps5
    go_wp2_with fail
    refine (HOU.out).mono ?_; rintro e w1 ⟨v1, rfl, ho1, hb1⟩
    have HB1 := Lib.hid (hb1)
    clear hb1
    have HS1 := Lib.hid ho1.sees
    obtain ⟨ao, c, rfl, -⟩ := ho1.sees
    clear ho1
    have HS1 := Lib.hid (HS1.out.below (belNew w1 (hnO (.slice ao M.length c))))
    have c7 := hcell (heap_new w1 (hnO (.slice ao M.length c)))
    have HB2 := Lib.hid (belAlloc HB1.out (hnO (.slice ao M.length c)))
    go_wp2_with fail
    refine (HPL.out _ _ HS1.out).mono ?_; rintro e w3 ⟨v8, rfl, ho8, hb3⟩
    have c7 := bcell hb3 c7
    have HS1 := Lib.hid (HS1.out.below hb3)
    have HB3 := Lib.hid (bel HB2.out hb3)
    clear hb3
    have HS8 := Lib.hid ho8.sees
    clear ho8
    go_wp2_with fail
    refine (HSB.out _ _ HS1.out).mono ?_; rintro e w4 ⟨rfl, hb4⟩
    have c7 := bcell hb4 c7
    have HS1 := Lib.hid (HS1.out.below hb4)
    have HS8 := Lib.hid (HS8.out.below hb4)
    have HB4 := Lib.hid (bel HB3.out hb4)
    clear hb4
    have c7 := bcell (belNew w4 (hnO (.slice none 0 0))) c7
    have HS1 := Lib.hid (HS1.out.below (belNew w4 (hnO (.slice none 0 0))))
    have HS8 := Lib.hid (HS8.out.below (belNew w4 (hnO (.slice none 0 0))))
    have HB5 := Lib.hid (belAlloc HB4.out (hnO (.slice none 0 0)))
    go_wp2_with fail
    refine (HAB.out _ _ HS1.out).mono ?_; rintro e w6 ⟨rfl, hb6⟩
    have c7 := bcell hb6 c7
    have HS1 := Lib.hid (HS1.out.below hb6)
    have HS8 := Lib.hid (HS8.out.below hb6)
    have HB6 := Lib.hid (bel HB5.out hb6)
    clear hb6
    have c7 := bcell (belNew w6 (hnO (.slice none 0 0))) c7
    have HS1 := Lib.hid (HS1.out.below (belNew w6 (hnO (.slice none 0 0))))
    have HS8 := Lib.hid (HS8.out.below (belNew w6 (hnO (.slice none 0 0))))
    have HB7 := Lib.hid (belAlloc HB6.out (hnO (.slice none 0 0)))
    go_wp2_with fail
    refine (HUB.out _ _ HS1.out).mono ?_; rintro e w8 ⟨rfl, hb8⟩
    have c7 := bcell hb8 c7
    have HS1 := Lib.hid (HS1.out.below hb8)
    have HS8 := Lib.hid (HS8.out.below hb8)
    have HB8 := Lib.hid (bel HB7.out hb8)
    clear hb8
    have c7 := bcell (belNew w8 (hnO (.slice none 0 0))) c7
    have HS1 := Lib.hid (HS1.out.below (belNew w8 (hnO (.slice none 0 0))))
    have HS8 := Lib.hid (HS8.out.below (belNew w8 (hnO (.slice none 0 0))))
    have HB9 := Lib.hid (belAlloc HB8.out (hnO (.slice none 0 0)))
    go_wp2_with fail
    refine (HRR.out _ _ HS8.out).mono ?_; rintro e w10 ⟨rfl, hb10⟩
    have c7 := bcell hb10 c7
    have HS1 := Lib.hid (HS1.out.below hb10)
    have HS8 := Lib.hid (HS8.out.below hb10)
    have HB10 := Lib.hid (bel HB9.out hb10)
    clear hb10
    go_wp2_with fail
    refine (HAW.out _).mono ?_; rintro e w11 ⟨rfl, hb11⟩
    have c7 := bcell hb11 c7
    have HS1 := Lib.hid (HS1.out.below hb11)
    have HS8 := Lib.hid (HS8.out.below hb11)
    have HB11 := Lib.hid (bel HB10.out hb11)
    clear hb11
    go_wp2_with fail
    go_ret
    exact ⟨rfl, HB11.out⟩
  | true =>
    rw [hr] at HRR
    by_cases hm : mayC n = false
    · have HSB := Lib.hid (fun v w (h : SeesC w v M) => set_bad v M a n w h hbt (by omega) (Or.inr hm))
      have HAB := Lib.hid (fun v w (h : SeesC w v M) => add_bad v M a n w h hbt (by omega) (Or.inr hm))
      have HUB := Lib.hid (fun v w (h : SeesC w v M) => sub_bad v M a n w h hbt (by omega) (Or.inr hm))
      by_cases hneg : n < 0
      · have dn : decide (n < 0) = true := by simpa using hneg
        clear hbt hr hm hneg
        go_enter Try.func5, Try.ntmps5
        go_wp2_with fail
        refine (HOU.out).mono ?_; rintro e w1 ⟨v1, rfl, ho1, hb1⟩
        have HB1 := Lib.hid (hb1)
        clear hb1
        have HS1 := Lib.hid ho1.sees
        obtain ⟨ao, c, rfl, -⟩ := ho1.sees
        clear ho1
        have HS1 := Lib.hid (HS1.out.below (belNew w1 (hnO (.slice ao M.length c))))
        have c7 := hcell (heap_new w1 (hnO (.slice ao M.length c)))
        have HB2 := Lib.hid (belAlloc HB1.out (hnO (.slice ao M.length c)))
        go_wp2_with fail
        refine (HPL.out _ _ HS1.out).mono ?_; rintro e w3 ⟨v8, rfl, ho8, hb3⟩
        have c7 := bcell hb3 c7
        have HS1 := Lib.hid (HS1.out.below hb3)
        have HB3 := Lib.hid (bel HB2.out hb3)
        clear hb3
        have HS8 := Lib.hid ho8.sees
        clear ho8
        go_wp2_with fail
        refine (HSB.out _ _ HS1.out).mono ?_; rintro e w4 ⟨rfl, hb4⟩
        have c7 := bcell hb4 c7
        have HS1 := Lib.hid (HS1.out.below hb4)
        have HS8 := Lib.hid (HS8.out.below hb4)
        have HB4 := Lib.hid (bel HB3.out hb4)
        clear hb4
        have c7 := bcell (belNew w4 (hnO (.slice none 0 0))) c7
        have HS1 := Lib.hid (HS1.out.below (belNew w4 (hnO (.slice none 0 0))))
        have HS8 := Lib.hid (HS8.out.below (belNew w4 (hnO (.slice none 0 0))))
        have HB5 := Lib.hid (belAlloc HB4.out (hnO (.slice none 0 0)))
        go_wp2_with fail
        refine (HAB.out _ _ HS1.out).mono ?_; rintro e w6 ⟨rfl, hb6⟩
        have c7 := bcell hb6 c7
        have HS1 := Lib.hid (HS1.out.below hb6)
        have HS8 := Lib.hid (HS8.out.below hb6)
        have HB6 := Lib.hid (bel HB5.out hb6)
        clear hb6
        have c7 := bcell (belNew w6 (hnO (.slice none 0 0))) c7
        have HS1 := Lib.hid (HS1.out.below (belNew w6 (hnO (.slice none 0 0))))
        have HS8 := Lib.hid (HS8.out.below (belNew w6 (hnO (.slice none 0 0))))
        have HB7 := Lib.hid (belAlloc HB6.out (hnO (.slice none 0 0)))
        go_wp2_with fail
        refine (HUB.out _ _ HS1.out).mono ?_; rintro e w8 ⟨rfl, hb8⟩
        have c7 := bcell hb8 c7
        have HS1 := Lib.hid (HS1.out.below hb8)
        have HS8 := Lib.hid (HS8.out.below hb8)
        have HB8 := Lib.hid (bel HB7.out hb8)
        clear hb8
        have c7 := bcell (belNew w8 (hnO (.slice none 0 0))) c7
        have HS1 := Lib.hid (HS1.out.below (belNew w8 (hnO (.slice none 0 0))))
        have HS8 := Lib.hid (HS8.out.below (belNew w8 (hnO (.slice none 0 0))))
        have HB9 := Lib.hid (belAlloc HB8.out (hnO (.slice none 0 0)))
        go_wp2_with fail
        refine (HRR.out _ _ HS8.out).mono ?_; rintro e w10 ⟨rfl, hb10⟩
        have c7 := bcell hb10 c7
        have HS1 := Lib.hid (HS1.out.below hb10)
        have HS8 := Lib.hid (HS8.out.below hb10)
        have HB10 := Lib.hid (bel HB9.out hb10)
        clear hb10
        go_wp2_with fail
        refine (HAW.out _).mono ?_; rintro e w11 ⟨rfl, hb11⟩
        have c7 := bcell hb11 c7
        have HS1 := Lib.hid (HS1.out.below hb11)
        have HS8 := Lib.hid (HS8.out.below hb11)
        have HB11 := Lib.hid (bel HB10.out hb11)
        clear hb11
        go_wp2_with fail
        go_ret
        exact ⟨rfl, HB11.out⟩
      · have dn : decide (n < 0) = false := by simpa using hneg
        have dm : decide (65535 < n) = true := by unfold mayC at hm; have := of_decide_eq_false hm; simp; omega
        clear hbt hr hm hneg
        go_enter Try.func5, Try.ntmps5
        go_wp2_with fail
        refine (HOU.out).mono ?_; rintro e w1 ⟨v1, rfl, ho1, hb1⟩
        have HB1 := Lib.hid (hb1)
        clear hb1
        have HS1 := Lib.hid ho1.sees
        obtain ⟨ao, c, rfl, -⟩ := ho1.sees
        clear ho1
        have HS1 := Lib.hid (HS1.out.below (belNew w1 (hnO (.slice ao M.length c))))
        have c7 := hcell (heap_new w1 (hnO (.slice ao M.length c)))
        have HB2 := Lib.hid (belAlloc HB1.out (hnO (.slice ao M.length c)))
        go_wp2_with fail
        refine (HPL.out _ _ HS1.out).mono ?_; rintro e w3 ⟨v8, rfl, ho8, hb3⟩
        have c7 := bcell hb3 c7
        have HS1 := Lib.hid (HS1.out.below hb3)
        have HB3 := Lib.hid (bel HB2.out hb3)
        clear hb3
        have HS8 := Lib.hid ho8.sees
        clear ho8
        go_wp2_with fail
        refine (HSB.out _ _ HS1.out).mono ?_; rintro e w4 ⟨rfl, hb4⟩
        have c7 := bcell hb4 c7
        have HS1 := Lib.hid (HS1.out.below hb4)
        have HS8 := Lib.hid (HS8.out.below hb4)
        have HB4 := Lib.hid (bel HB3.out hb4)
        clear hb4
        have c7 := bcell (belNew w4 (hnO (.slice none 0 0))) c7
        have HS1 := Lib.hid (HS1.out.below (belNew w4 (hnO (.slice none 0 0))))
        have HS8 := Lib.hid (HS8.out.below (belNew w4 (hnO (.slice none 0 0))))
        have HB5 := Lib.hid (belAlloc HB4.out (hnO (.slice none 0 0)))
        go_wp2_with fail
        refine (HAB.out _ _ HS1.out).mono ?_; rintro e w6 ⟨rfl, hb6⟩
        have c7 := bcell hb6 c7
        have HS1 := Lib.hid (HS1.out.below hb6)
        have HS8 := Lib.hid (HS8.out.below hb6)
        have HB6 := Lib.hid (bel HB5.out hb6)
        clear hb6
        have c7 := bcell (belNew w6 (hnO (.slice none 0 0))) c7
        have HS1 := Lib.hid (HS1.out.below (belNew w6 (hnO (.slice none 0 0))))
        have HS8 := Lib.hid (HS8.out.below (belNew w6 (hnO (.slice none 0 0))))
        have HB7 := Lib.hid (belAlloc HB6.out (hnO (.slice none 0 0)))
        go_wp2_with fail
        refine (HUB.out _ _ HS1.out).mono ?_; rintro e w8 ⟨rfl, hb8⟩
        have c7 := bcell hb8 c7
        have HS1 := Lib.hid (HS1.out.below hb8)
        have HS8 := Lib.hid (HS8.out.below hb8)
        have HB8 := Lib.hid (bel HB7.out hb8)
        clear hb8
        have c7 := bcell (belNew w8 (hnO (.slice none 0 0))) c7
        have HS1 := Lib.hid (HS1.out.below (belNew w8 (hnO (.slice none 0 0))))
        have HS8 := Lib.hid (HS8.out.below (belNew w8 (hnO (.slice none 0 0))))
        have HB9 := Lib.hid (belAlloc HB8.out (hnO (.slice none 0 0)))
        go_wp2_with fail
        refine (HRR.out _ _ HS8.out).mono ?_; rintro e w10 ⟨rfl, hb10⟩
        have c7 := bcell hb10 c7
        have HS1 := Lib.hid (HS1.out.below hb10)
        have HS8 := Lib.hid (HS8.out.below hb10)
        have HB10 := Lib.hid (bel HB9.out hb10)
        clear hb10
        go_wp2_with fail
        refine (HAW.out _).mono ?_; rintro e w11 ⟨rfl, hb11⟩
        have c7 := bcell hb11 c7
        have HS1 := Lib.hid (HS1.out.below hb11)
        have HS8 := Lib.hid (HS8.out.below hb11)
        have HB11 := Lib.hid (bel HB10.out hb11)
        clear hb11
        go_wp2_with fail
        go_ret
        exact ⟨rfl, HB11.out⟩
    · have hm : mayC n = true := by cases h1 : mayC n <;> simp_all
      have hmn : 0 ≤ n ∧ n ≤ 65535 := by unfold mayC at hm; exact of_decide_eq_true hm
      have hri := (right_iff M).1 hr
      have hbo := ofH_bd (b := a - a % 64) hri.1
      have HST := Lib.hid (fun v w (h : SeesC w v M) => set_any v M a n w h hbt (by omega) ha ha' hr hm)
      have HSU := Lib.hid (fun v w (h : SeesC w v M) => sub_any v M a n w h hbt (by omega) ha ha' hr hm)
      have HOF := Lib.hid (fun v w (h : SeesC w v M) => of_any v M a w h hri.2 (by omega) ha ha')
      have HRO := Lib.hid (fun v w (h : SeesC w v M) => refOf_any v M a w h hri.2 (by omega) ha ha')
      have HRS := Lib.hid (fun v w (h : SeesC w v M) => refSet_any v M a n w h hri.2 (by omega) ha ha' hmn.1 hmn.2)
      have HRL := Lib.hid (fun v w (h : SeesC w v M) => refSet_any v M a (max (ofH M (a - a % 64) - n) 0) w h hri.2 (by omega) ha ha' (by omega) (by omega))
      have HSM := Lib.hid (fun a b N w (h1 : SeesC w a N) (h2 : SeesC w b N) (hl : N.length ≤ 1000000) => sameT_any a b N w h1 h2 hl)
      have hXl := setH_len M (a - a % 64) n
      have hZl := setH_len M (a - a % 64) (max (ofH M (a - a % 64) - n) 0)
      have HXL : Hid ((setH M (a - a % 64) n).length ≤ 1000000) := Lib.hid (by omega)
      have HZL : Hid ((setH M (a - a % 64) (max (ofH M (a - a % 64) - n) 0)).length ≤ 1000000) := Lib.hid (by omega)
      have HPX := Lib.hid (fun v w (h : SeesC w v (setH M (a - a % 64) n)) => plain_any v _ w h HXL.out)
      have HPZ := Lib.hid (fun v w (h : SeesC w v (setH M (a - a % 64) (max (ofH M (a - a % 64) - n) 0))) => plain_any v _ w h HZL.out)
      have dn0 : decide (n < 0) = false := by simp; omega
      have dn1 : decide (65535 < n) = false := by simp; omega
      have hw1 : IntKind.i64.wrap (65535 - n) = 65535 - n := IntWalk.i64_in _ (by omega)
      unfold SetOk at HST HSU
      by_cases hf : 65535 < ofH M (a - a % 64) + n
      · have HAD := Lib.hid (fun v w (h : SeesC w v M) => add_full v M a n w h hbt (by omega) ha ha' hr hm hf)
        clear hXl hZl
        generalize ofH M (a - a % 64) = F at *
        have hw2 : IntKind.i64.wrap (F - n) = F - n := IntWalk.i64_in _ (by omega)
        have dF : decide (65535 - n < F) = true := by simp; omega
        by_cases hle : F - n < 0
        · have dl : decide (F - n < 0) = true := by simpa using hle
          rw [show max (F - n) 0 = 0 from by omega] at *
          clear hbt hr hm hle hf hri hbo hmn
          go_enter Try.func5, Try.ntmps5
          go_wp2_with fail
          refine (HOU.out).mono ?_; rintro e w1 ⟨v1, rfl, ho1, hb1⟩
          have HB1 := Lib.hid (hb1)
          clear hb1
          have HS1 := Lib.hid ho1.sees
          obtain ⟨ao, c, rfl, -⟩ := ho1.sees
          clear ho1
          have HS1 := Lib.hid (HS1.out.below (belNew w1 (hnO (.slice ao M.length c))))
          have c7 := hcell (heap_new w1 (hnO (.slice ao M.length c)))
          have HB2 := Lib.hid (belAlloc HB1.out (hnO (.slice ao M.length c)))
          go_wp2_with fail
          refine (HPL.out _ _ HS1.out).mono ?_; rintro e w3 ⟨v8, rfl, ho8, hb3⟩
          have c7 := bcell hb3 c7
          have HS1 := Lib.hid (HS1.out.below hb3)
          have HB3 := Lib.hid (bel HB2.out hb3)
          clear hb3
          have HS8 := Lib.hid ho8.sees
          clear ho8
          go_wp2_with fail
          refine (HST.out _ _ HS1.out).mono ?_; rintro e w4 ⟨v9, rfl, ho9, hb4⟩
          have c7 := bcell hb4 c7
          have HS1 := Lib.hid (HS1.out.below hb4)
          have HS8 := Lib.hid (HS8.out.below hb4)
          have HB4 := Lib.hid (bel HB3.out hb4)
          clear hb4
          have HS9 := Lib.hid ho9.sees
          obtain ⟨a9, n9, c9', rfl⟩ := sl_form ho9
          clear ho9
          have c7 := bcell (belNew w4 (hnO (.slice a9 n9 c9'))) c7
          have HS1 := Lib.hid (HS1.out.below (belNew w4 (hnO (.slice a9 n9 c9'))))
          have HS8 := Lib.hid (HS8.out.below (belNew w4 (hnO (.slice a9 n9 c9'))))
          have HS9 := Lib.hid (HS9.out.below (belNew w4 (hnO (.slice a9 n9 c9'))))
          have c9 := hcell (heap_new w4 (hnO (.slice a9 n9 c9')))
          have HB5 := Lib.hid (belAlloc HB4.out (hnO (.slice a9 n9 c9')))
          go_wp2_with fail
          refine (HAD.out _ _ HS1.out).mono ?_; rintro e w6 ⟨rfl, hb6⟩
          have c7 := bcell hb6 c7
          have c9 := bcell hb6 c9
          have HS1 := Lib.hid (HS1.out.below hb6)
          have HS8 := Lib.hid (HS8.out.below hb6)
          have HS9 := Lib.hid (HS9.out.below hb6)
          have HB6 := Lib.hid (bel HB5.out hb6)
          clear hb6
          have c7 := bcell (belNew w6 (hnO (.slice none 0 0))) c7
          have c9 := bcell (belNew w6 (hnO (.slice none 0 0))) c9
          have HS1 := Lib.hid (HS1.out.below (belNew w6 (hnO (.slice none 0 0))))
          have HS8 := Lib.hid (HS8.out.below (belNew w6 (hnO (.slice none 0 0))))
          have HS9 := Lib.hid (HS9.out.below (belNew w6 (hnO (.slice none 0 0))))
          have c11 := hcell (heap_new w6 (hnO (.slice none 0 0)))
          have HB7 := Lib.hid (belAlloc HB6.out (hnO (.slice none 0 0)))
          go_wp2_with fail
          refine (HSU.out _ _ HS1.out).mono ?_; rintro e w8 ⟨v13, rfl, ho13, hb8⟩
          have c7 := bcell hb8 c7
          have c9 := bcell hb8 c9
          have c11 := bcell hb8 c11
          have HS1 := Lib.hid (HS1.out.below hb8)
          have HS8 := Lib.hid (HS8.out.below hb8)
          have HS9 := Lib.hid (HS9.out.below hb8)
          have HB8 := Lib.hid (bel HB7.out hb8)
          clear hb8
          have HS13 := Lib.hid ho13.sees
          obtain ⟨a13, n13, c13', rfl⟩ := sl_form ho13
          clear ho13
          have c7 := bcell (belNew w8 (hnO (.slice a13 n13 c13'))) c7
          have c9 := bcell (belNew w8 (hnO (.slice a13 n13 c13'))) c9
          have c11 := bcell (belNew w8 (hnO (.slice a13 n13 c13'))) c11
          have HS1 := Lib.hid (HS1.out.below (belNew w8 (hnO (.slice a13 n13 c13'))))
          have HS8 := Lib.hid (HS8.out.below (belNew w8 (hnO (.slice a13 n13 c13'))))
          have HS9 := Lib.hid (HS9.out.below (belNew w8 (hnO (.slice a13 n13 c13'))))
          have HS13 := Lib.hid (HS13.out.below (belNew w8 (hnO (.slice a13 n13 c13'))))
          have c13 := hcell (heap_new w8 (hnO (.slice a13 n13 c13')))
          have HB9 := Lib.hid (belAlloc HB8.out (hnO (.slice a13 n13 c13')))
          go_wp2_with fail
          refine (HRR.out _ _ HS8.out).mono ?_; rintro e w10 ⟨rfl, hb10⟩
          have c7 := bcell hb10 c7
          have c9 := bcell hb10 c9
          have c11 := bcell hb10 c11
          have c13 := bcell hb10 c13
          have HS1 := Lib.hid (HS1.out.below hb10)
          have HS8 := Lib.hid (HS8.out.below hb10)
          have HS9 := Lib.hid (HS9.out.below hb10)
          have HS13 := Lib.hid (HS13.out.below hb10)
          have HB10 := Lib.hid (bel HB9.out hb10)
          clear hb10
          go_wp2_with fail
          refine (HRS.out _ _ HS8.out).mono ?_; rintro e w11 ⟨v15, rfl, ho15, hb11⟩
          have c7 := bcell hb11 c7
          have c9 := bcell hb11 c9
          have c11 := bcell hb11 c11
          have c13 := bcell hb11 c13
          have HS1 := Lib.hid (HS1.out.below hb11)
          have HS8 := Lib.hid (HS8.out.below hb11)
          have HS9 := Lib.hid (HS9.out.below hb11)
          have HS13 := Lib.hid (HS13.out.below hb11)
          have HB11 := Lib.hid (bel HB10.out hb11)
          clear hb11
          have HS15 := Lib.hid ho15.sees
          clear ho15
          go_wp2_with fail
          refine (HRO.out _ _ HS8.out).mono ?_; rintro e w12 ⟨rfl, hb12⟩
          have c7 := bcell hb12 c7
          have c9 := bcell hb12 c9
          have c11 := bcell hb12 c11
          have c13 := bcell hb12 c13
          have HS1 := Lib.hid (HS1.out.below hb12)
          have HS8 := Lib.hid (HS8.out.below hb12)
          have HS9 := Lib.hid (HS9.out.below hb12)
          have HS13 := Lib.hid (HS13.out.below hb12)
          have HS15 := Lib.hid (HS15.out.below hb12)
          have HB12 := Lib.hid (bel HB11.out hb12)
          clear hb12
          go_wp2_with fail
          refine (HRL.out _ _ HS8.out).mono ?_; rintro e w13 ⟨v18, rfl, ho18, hb13⟩
          have c7 := bcell hb13 c7
          have c9 := bcell hb13 c9
          have c11 := bcell hb13 c11
          have c13 := bcell hb13 c13
          have HS1 := Lib.hid (HS1.out.below hb13)
          have HS8 := Lib.hid (HS8.out.below hb13)
          have HS9 := Lib.hid (HS9.out.below hb13)
          have HS13 := Lib.hid (HS13.out.below hb13)
          have HS15 := Lib.hid (HS15.out.below hb13)
          have HB13 := Lib.hid (bel HB12.out hb13)
          clear hb13
          have HS18 := Lib.hid ho18.sees
          clear ho18
          go_wp2_with fail
          refine (HPX.out _ _ HS9.out).mono ?_; rintro e w14 ⟨v20, rfl, ho20, hb14⟩
          have c7 := bcell hb14 c7
          have c9 := bcell hb14 c9
          have c11 := bcell hb14 c11
          have c13 := bcell hb14 c13
          have HS1 := Lib.hid (HS1.out.below hb14)
          have HS8 := Lib.hid (HS8.out.below hb14)
          have HS9 := Lib.hid (HS9.out.below hb14)
          have HS13 := Lib.hid (HS13.out.below hb14)
          have HS15 := Lib.hid (HS15.out.below hb14)
          have HS18 := Lib.hid (HS18.out.below hb14)
          have HB14 := Lib.hid (bel HB13.out hb14)
          clear hb14
          have HS20 := Lib.hid ho20.sees
          clear ho20
          go_wp2_with fail
          refine (HSM.out _ _ _ _ HS20.out HS15.out HXL.out).mono ?_; rintro e w15 ⟨rfl, hb15⟩
          have c7 := bcell hb15 c7
          have c9 := bcell hb15 c9
          have c11 := bcell hb15 c11
          have c13 := bcell hb15 c13
          have HS1 := Lib.hid (HS1.out.below hb15)
          have HS8 := Lib.hid (HS8.out.below hb15)
          have HS9 := Lib.hid (HS9.out.below hb15)
          have HS13 := Lib.hid (HS13.out.below hb15)
          have HS15 := Lib.hid (HS15.out.below hb15)
          have HS18 := Lib.hid (HS18.out.below hb15)
          have HS20 := Lib.hid (HS20.out.below hb15)
          have HB15 := Lib.hid (bel HB14.out hb15)
          clear hb15
          go_wp2_with fail
          refine (HPZ.out _ _ HS13.out).mono ?_; rintro e w16 ⟨v21, rfl, ho21, hb16⟩
          have c7 := bcell hb16 c7
          have c9 := bcell hb16 c9
          have c11 := bcell hb16 c11
          have c13 := bcell hb16 c13
          have HS1 := Lib.hid (HS1.out.below hb16)
          have HS8 := Lib.hid (HS8.out.below hb16)
          have HS9 := Lib.hid (HS9.out.below hb16)
          have HS13 := Lib.hid (HS13.out.below hb16)
          have HS15 := Lib.hid (HS15.out.below hb16)
          have HS18 := Lib.hid (HS18.out.below hb16)
          have HS20 := Lib.hid (HS20.out.below hb16)
          have HB16 := Lib.hid (bel HB15.out hb16)
          clear hb16
          have HS21 := Lib.hid ho21.sees
          clear ho21
          go_wp2_with fail
          refine (HSM.out _ _ _ _ HS21.out HS18.out HZL.out).mono ?_; rintro e w17 ⟨rfl, hb17⟩
          have c7 := bcell hb17 c7
          have c9 := bcell hb17 c9
          have c11 := bcell hb17 c11
          have c13 := bcell hb17 c13
          have HS1 := Lib.hid (HS1.out.below hb17)
          have HS8 := Lib.hid (HS8.out.below hb17)
          have HS9 := Lib.hid (HS9.out.below hb17)
          have HS13 := Lib.hid (HS13.out.below hb17)
          have HS15 := Lib.hid (HS15.out.below hb17)
          have HS18 := Lib.hid (HS18.out.below hb17)
          have HS20 := Lib.hid (HS20.out.below hb17)
          have HS21 := Lib.hid (HS21.out.below hb17)
          have HB17 := Lib.hid (bel HB16.out hb17)
          clear hb17
          go_wp2_with fail
          refine (HOF.out _ _ HS1.out).mono ?_; rintro e w18 ⟨rfl, hb18⟩
          have c7 := bcell hb18 c7
          have c9 := bcell hb18 c9
          have c11 := bcell hb18 c11
          have c13 := bcell hb18 c13
          have HS1 := Lib.hid (HS1.out.below hb18)
          have HS8 := Lib.hid (HS8.out.below hb18)
          have HS9 := Lib.hid (HS9.out.below hb18)
          have HS13 := Lib.hid (HS13.out.below hb18)
          have HS15 := Lib.hid (HS15.out.below hb18)
          have HS18 := Lib.hid (HS18.out.below hb18)
          have HS20 := Lib.hid (HS20.out.below hb18)
          have HS21 := Lib.hid (HS21.out.below hb18)
          have HB18 := Lib.hid (bel HB17.out hb18)
          clear hb18
          go_wp2_with fail
          refine (HRO.out _ _ HS8.out).mono ?_; rintro e w19 ⟨rfl, hb19⟩
          have c7 := bcell hb19 c7
          have c9 := bcell hb19 c9
          have c11 := bcell hb19 c11
          have c13 := bcell hb19 c13
          have HS1 := Lib.hid (HS1.out.below hb19)
          have HS8 := Lib.hid (HS8.out.below hb19)
          have HS9 := Lib.hid (HS9.out.below hb19)
          have HS13 := Lib.hid (HS13.out.below hb19)
          have HS15 := Lib.hid (HS15.out.below hb19)
          have HS18 := Lib.hid (HS18.out.below hb19)
          have HS20 := Lib.hid (HS20.out.below hb19)
          have HS21 := Lib.hid (HS21.out.below hb19)
          have HB19 := Lib.hid (bel HB18.out hb19)
          clear hb19
          go_wp2_with fail
          refine (HRO.out _ _ HS8.out).mono ?_; rintro e w20 ⟨rfl, hb20⟩
          have c7 := bcell hb20 c7
          have c9 := bcell hb20 c9
          have c11 := bcell hb20 c11
          have c13 := bcell hb20 c13
          have HS1 := Lib.hid (HS1.out.below hb20)
          have HS8 := Lib.hid (HS8.out.below hb20)
          have HS9 := Lib.hid (HS9.out.below hb20)
          have HS13 := Lib.hid (HS13.out.below hb20)
          have HS15 := Lib.hid (HS15.out.below hb20)
          have HS18 := Lib.hid (HS18.out.below hb20)
          have HS20 := Lib.hid (HS20.out.below hb20)
          have HS21 := Lib.hid (HS21.out.below hb20)
          have HB20 := Lib.hid (bel HB19.out hb20)
          clear hb20
          go_wp2_with fail
          refine (HAW.out _).mono ?_; rintro e w21 ⟨rfl, hb21⟩
          have c7 := bcell hb21 c7
          have c9 := bcell hb21 c9
          have c11 := bcell hb21 c11
          have c13 := bcell hb21 c13
          have HS1 := Lib.hid (HS1.out.below hb21)
          have HS8 := Lib.hid (HS8.out.below hb21)
          have HS9 := Lib.hid (HS9.out.below hb21)
          have HS13 := Lib.hid (HS13.out.below hb21)
          have HS15 := Lib.hid (HS15.out.below hb21)
          have HS18 := Lib.hid (HS18.out.below hb21)
          have HS20 := Lib.hid (HS20.out.below hb21)
          have HS21 := Lib.hid (HS21.out.below hb21)
          have HB21 := Lib.hid (bel HB20.out hb21)
          clear hb21
          clear c7 c9 c11 c13
          go_wp2_with fail
          go_ret
          exact ⟨rfl, HB21.out⟩
        · have dl : decide (F - n < 0) = false := by simpa using hle
          rw [show max (F - n) 0 = F - n from by omega] at *
          clear hbt hr hm hle hf hri hbo hmn
          go_enter Try.func5, Try.ntmps5
          go_wp2_with fail
          refine (HOU.out).mono ?_; rintro e w1 ⟨v1, rfl, ho1, hb1⟩
          have HB1 := Lib.hid (hb1)
          clear hb1
          have HS1 := Lib.hid ho1.sees
          obtain ⟨ao, c, rfl, -⟩ := ho1.sees
          clear ho1
          have HS1 := Lib.hid (HS1.out.below (belNew w1 (hnO (.slice ao M.length c))))
          have c7 := hcell (heap_new w1 (hnO (.slice ao M.length c)))
          have HB2 := Lib.hid (belAlloc HB1.out (hnO (.slice ao M.length c)))
          go_wp2_with fail
          refine (HPL.out _ _ HS1.out).mono ?_; rintro e w3 ⟨v8, rfl, ho8, hb3⟩
          have c7 := bcell hb3 c7
          have HS1 := Lib.hid (HS1.out.below hb3)
          have HB3 := Lib.hid (bel HB2.out hb3)
          clear hb3
          have HS8 := Lib.hid ho8.sees
          clear ho8
          go_wp2_with fail
          refine (HST.out _ _ HS1.out).mono ?_; rintro e w4 ⟨v9, rfl, ho9, hb4⟩
          have c7 := bcell hb4 c7
          have HS1 := Lib.hid (HS1.out.below hb4)
          have HS8 := Lib.hid (HS8.out.below hb4)
          have HB4 := Lib.hid (bel HB3.out hb4)
          clear hb4
          have HS9 := Lib.hid ho9.sees
          obtain ⟨a9, n9, c9', rfl⟩ := sl_form ho9
          clear ho9
          have c7 := bcell (belNew w4 (hnO (.slice a9 n9 c9'))) c7
          have HS1 := Lib.hid (HS1.out.below (belNew w4 (hnO (.slice a9 n9 c9'))))
          have HS8 := Lib.hid (HS8.out.below (belNew w4 (hnO (.slice a9 n9 c9'))))
          have HS9 := Lib.hid (HS9.out.below (belNew w4 (hnO (.slice a9 n9 c9'))))
          have c9 := hcell (heap_new w4 (hnO (.slice a9 n9 c9')))
          have HB5 := Lib.hid (belAlloc HB4.out (hnO (.slice a9 n9 c9')))
          go_wp2_with fail
          refine (HAD.out _ _ HS1.out).mono ?_; rintro e w6 ⟨rfl, hb6⟩
          have c7 := bcell hb6 c7
          have c9 := bcell hb6 c9
          have HS1 := Lib.hid (HS1.out.below hb6)
          have HS8 := Lib.hid (HS8.out.below hb6)
          have HS9 := Lib.hid (HS9.out.below hb6)
          have HB6 := Lib.hid (bel HB5.out hb6)
          clear hb6
          have c7 := bcell (belNew w6 (hnO (.slice none 0 0))) c7
          have c9 := bcell (belNew w6 (hnO (.slice none 0 0))) c9
          have HS1 := Lib.hid (HS1.out.below (belNew w6 (hnO (.slice none 0 0))))
          have HS8 := Lib.hid (HS8.out.below (belNew w6 (hnO (.slice none 0 0))))
          have HS9 := Lib.hid (HS9.out.below (belNew w6 (hnO (.slice none 0 0))))
          have c11 := hcell (heap_new w6 (hnO (.slice none 0 0)))
          have HB7 := Lib.hid (belAlloc HB6.out (hnO (.slice none 0 0)))
          go_wp2_with fail
          refine (HSU.out _ _ HS1.out).mono ?_; rintro e w8 ⟨v13, rfl, ho13, hb8⟩
          have c7 := bcell hb8 c7
          have c9 := bcell hb8 c9
          have c11 := bcell hb8 c11
          have HS1 := Lib.hid (HS1.out.below hb8)
          have HS8 := Lib.hid (HS8.out.below hb8)
          have HS9 := Lib.hid (HS9.out.below hb8)
          have HB8 := Lib.hid (bel HB7.out hb8)
          clear hb8
          have HS13 := Lib.hid ho13.sees
          obtain ⟨a13, n13, c13', rfl⟩ := sl_form ho13
          clear ho13
          have c7 := bcell (belNew w8 (hnO (.slice a13 n13 c13'))) c7
          have c9 := bcell (belNew w8 (hnO (.slice a13 n13 c13'))) c9
          have c11 := bcell (belNew w8 (hnO (.slice a13 n13 c13'))) c11
          have HS1 := Lib.hid (HS1.out.below (belNew w8 (hnO (.slice a13 n13 c13'))))
          have HS8 := Lib.hid (HS8.out.below (belNew w8 (hnO (.slice a13 n13 c13'))))
          have HS9 := Lib.hid (HS9.out.below (belNew w8 (hnO (.slice a13 n13 c13'))))
          have HS13 := Lib.hid (HS13.out.below (belNew w8 (hnO (.slice a13 n13 c13'))))
          have c13 := hcell (heap_new w8 (hnO (.slice a13 n13 c13')))
          have HB9 := Lib.hid (belAlloc HB8.out (hnO (.slice a13 n13 c13')))
          go_wp2_with fail
          refine (HRR.out _ _ HS8.out).mono ?_; rintro e w10 ⟨rfl, hb10⟩
          have c7 := bcell hb10 c7
          have c9 := bcell hb10 c9
          have c11 := bcell hb10 c11
          have c13 := bcell hb10 c13
          have HS1 := Lib.hid (HS1.out.below hb10)
          have HS8 := Lib.hid (HS8.out.below hb10)
          have HS9 := Lib.hid (HS9.out.below hb10)
          have HS13 := Lib.hid (HS13.out.below hb10)
          have HB10 := Lib.hid (bel HB9.out hb10)
          clear hb10
          go_wp2_with fail
          refine (HRS.out _ _ HS8.out).mono ?_; rintro e w11 ⟨v15, rfl, ho15, hb11⟩
          have c7 := bcell hb11 c7
          have c9 := bcell hb11 c9
          have c11 := bcell hb11 c11
          have c13 := bcell hb11 c13
          have HS1 := Lib.hid (HS1.out.below hb11)
          have HS8 := Lib.hid (HS8.out.below hb11)
          have HS9 := Lib.hid (HS9.out.below hb11)
          have HS13 := Lib.hid (HS13.out.below hb11)
          have HB11 := Lib.hid (bel HB10.out hb11)
          clear hb11
          have HS15 := Lib.hid ho15.sees
          clear ho15
          go_wp2_with fail
          refine (HRO.out _ _ HS8.out).mono ?_; rintro e w12 ⟨rfl, hb12⟩
          have c7 := bcell hb12 c7
          have c9 := bcell hb12 c9
          have c11 := bcell hb12 c11
          have c13 := bcell hb12 c13
          have HS1 := Lib.hid (HS1.out.below hb12)
          have HS8 := Lib.hid (HS8.out.below hb12)
          have HS9 := Lib.hid (HS9.out.below hb12)
          have HS13 := Lib.hid (HS13.out.below hb12)
          have HS15 := Lib.hid (HS15.out.below hb12)
          have HB12 := Lib.hid (bel HB11.out hb12)
          clear hb12
          go_wp2_with fail
          refine (HRL.out _ _ HS8.out).mono ?_; rintro e w13 ⟨v18, rfl, ho18, hb13⟩
          have c7 := bcell hb13 c7
          have c9 := bcell hb13 c9
          have c11 := bcell hb13 c11
          have c13 := bcell hb13 c13
          have HS1 := Lib.hid (HS1.out.below hb13)
          have HS8 := Lib.hid (HS8.out.below hb13)
          have HS9 := Lib.hid (HS9.out.below hb13)
          have HS13 := Lib.hid (HS13.out.below hb13)
          have HS15 := Lib.hid (HS15.out.below hb13)
          have HB13 := Lib.hid (bel HB12.out hb13)
          clear hb13
          have HS18 := Lib.hid ho18.sees
          clear ho18
          go_wp2_with fail
          refine (HPX.out _ _ HS9.out).mono ?_; rintro e w14 ⟨v20, rfl, ho20, hb14⟩
          have c7 := bcell hb14 c7
          have c9 := bcell hb14 c9
          have c11 := bcell hb14 c11
          have c13 := bcell hb14 c13
          have HS1 := Lib.hid (HS1.out.below hb14)
          have HS8 := Lib.hid (HS8.out.below hb14)
          have HS9 := Lib.hid (HS9.out.below hb14)
          have HS13 := Lib.hid (HS13.out.below hb14)
          have HS15 := Lib.hid (HS15.out.below hb14)
          have HS18 := Lib.hid (HS18.out.below hb14)
          have HB14 := Lib.hid (bel HB13.out hb14)
          clear hb14
          have HS20 := Lib.hid ho20.sees
          clear ho20
          go_wp2_with fail
          refine (HSM.out _ _ _ _ HS20.out HS15.out HXL.out).mono ?_; rintro e w15 ⟨rfl, hb15⟩
          have c7 := bcell hb15 c7
          have c9 := bcell hb15 c9
          have c11 := bcell hb15 c11
          have c13 := bcell hb15 c13
          have HS1 := Lib.hid (HS1.out.below hb15)
          have HS8 := Lib.hid (HS8.out.below hb15)
          have HS9 := Lib.hid (HS9.out.below hb15)
          have HS13 := Lib.hid (HS13.out.below hb15)
          have HS15 := Lib.hid (HS15.out.below hb15)
          have HS18 := Lib.hid (HS18.out.below hb15)
          have HS20 := Lib.hid (HS20.out.below hb15)
          have HB15 := Lib.hid (bel HB14.out hb15)
          clear hb15
          go_wp2_with fail
          refine (HPZ.out _ _ HS13.out).mono ?_; rintro e w16 ⟨v21, rfl, ho21, hb16⟩
          have c7 := bcell hb16 c7
          have c9 := bcell hb16 c9
          have c11 := bcell hb16 c11
          have c13 := bcell hb16 c13
          have HS1 := Lib.hid (HS1.out.below hb16)
          have HS8 := Lib.hid (HS8.out.below hb16)
          have HS9 := Lib.hid (HS9.out.below hb16)
          have HS13 := Lib.hid (HS13.out.below hb16)
          have HS15 := Lib.hid (HS15.out.below hb16)
          have HS18 := Lib.hid (HS18.out.below hb16)
          have HS20 := Lib.hid (HS20.out.below hb16)
          have HB16 := Lib.hid (bel HB15.out hb16)
          clear hb16
          have HS21 := Lib.hid ho21.sees
          clear ho21
          go_wp2_with fail
          refine (HSM.out _ _ _ _ HS21.out HS18.out HZL.out).mono ?_; rintro e w17 ⟨rfl, hb17⟩
          have c7 := bcell hb17 c7
          have c9 := bcell hb17 c9
          have c11 := bcell hb17 c11
          have c13 := bcell hb17 c13
          have HS1 := Lib.hid (HS1.out.below hb17)
          have HS8 := Lib.hid (HS8.out.below hb17)
          have HS9 := Lib.hid (HS9.out.below hb17)
          have HS13 := Lib.hid (HS13.out.below hb17)
          have HS15 := Lib.hid (HS15.out.below hb17)
          have HS18 := Lib.hid (HS18.out.below hb17)
          have HS20 := Lib.hid (HS20.out.below hb17)
          have HS21 := Lib.hid (HS21.out.below hb17)
          have HB17 := Lib.hid (bel HB16.out hb17)
          clear hb17
          go_wp2_with fail
          refine (HOF.out _ _ HS1.out).mono ?_; rintro e w18 ⟨rfl, hb18⟩
          have c7 := bcell hb18 c7
          have c9 := bcell hb18 c9
          have c11 := bcell hb18 c11
          have c13 := bcell hb18 c13
          have HS1 := Lib.hid (HS1.out.below hb18)
          have HS8 := Lib.hid (HS8.out.below hb18)
          have HS9 := Lib.hid (HS9.out.below hb18)
          have HS13 := Lib.hid (HS13.out.below hb18)
          have HS15 := Lib.hid (HS15.out.below hb18)
          have HS18 := Lib.hid (HS18.out.below hb18)
          have HS20 := Lib.hid (HS20.out.below hb18)
          have HS21 := Lib.hid (HS21.out.below hb18)
          have HB18 := Lib.hid (bel HB17.out hb18)
          clear hb18
          go_wp2_with fail
          refine (HRO.out _ _ HS8.out).mono ?_; rintro e w19 ⟨rfl, hb19⟩
          have c7 := bcell hb19 c7
          have c9 := bcell hb19 c9
          have c11 := bcell hb19 c11
          have c13 := bcell hb19 c13
          have HS1 := Lib.hid (HS1.out.below hb19)
          have HS8 := Lib.hid (HS8.out.below hb19)
          have HS9 := Lib.hid (HS9.out.below hb19)
          have HS13 := Lib.hid (HS13.out.below hb19)
          have HS15 := Lib.hid (HS15.out.below hb19)
          have HS18 := Lib.hid (HS18.out.below hb19)
          have HS20 := Lib.hid (HS20.out.below hb19)
          have HS21 := Lib.hid (HS21.out.below hb19)
          have HB19 := Lib.hid (bel HB18.out hb19)
          clear hb19
          go_wp2_with fail
          refine (HRO.out _ _ HS8.out).mono ?_; rintro e w20 ⟨rfl, hb20⟩
          have c7 := bcell hb20 c7
          have c9 := bcell hb20 c9
          have c11 := bcell hb20 c11
          have c13 := bcell hb20 c13
          have HS1 := Lib.hid (HS1.out.below hb20)
          have HS8 := Lib.hid (HS8.out.below hb20)
          have HS9 := Lib.hid (HS9.out.below hb20)
          have HS13 := Lib.hid (HS13.out.below hb20)
          have HS15 := Lib.hid (HS15.out.below hb20)
          have HS18 := Lib.hid (HS18.out.below hb20)
          have HS20 := Lib.hid (HS20.out.below hb20)
          have HS21 := Lib.hid (HS21.out.below hb20)
          have HB20 := Lib.hid (bel HB19.out hb20)
          clear hb20
          go_wp2_with fail
          refine (HAW.out _).mono ?_; rintro e w21 ⟨rfl, hb21⟩
          have c7 := bcell hb21 c7
          have c9 := bcell hb21 c9
          have c11 := bcell hb21 c11
          have c13 := bcell hb21 c13
          have HS1 := Lib.hid (HS1.out.below hb21)
          have HS8 := Lib.hid (HS8.out.below hb21)
          have HS9 := Lib.hid (HS9.out.below hb21)
          have HS13 := Lib.hid (HS13.out.below hb21)
          have HS15 := Lib.hid (HS15.out.below hb21)
          have HS18 := Lib.hid (HS18.out.below hb21)
          have HS20 := Lib.hid (HS20.out.below hb21)
          have HS21 := Lib.hid (HS21.out.below hb21)
          have HB21 := Lib.hid (bel HB20.out hb21)
          clear hb21
          clear c7 c9 c11 c13
          go_wp2_with fail
          go_ret
          exact ⟨rfl, HB21.out⟩
      · have HAD := Lib.hid (fun v w (h : SeesC w v M) => add_any v M a n w h hbt (by omega) ha ha' hr hm (by omega))
        have HRM := Lib.hid (fun v w (h : SeesC w v M) => refSet_any v M a (ofH M (a - a % 64) + n) w h hri.2 (by omega) ha ha' (by omega) (by omega))
        have hYl := setH_len M (a - a % 64) (ofH M (a - a % 64) + n)
        have HYL : Hid ((setH M (a - a % 64) (ofH M (a - a % 64) + n)).length ≤ 1000000) := Lib.hid (by omega)
        have HPY := Lib.hid (fun v w (h : SeesC w v (setH M (a - a % 64) (ofH M (a - a % 64) + n))) => plain_any v _ w h HYL.out)
        unfold SetOk at HAD
        clear hXl hZl hYl
        generalize ofH M (a - a % 64) = F at *
        have hw2 : IntKind.i64.wrap (F - n) = F - n := IntWalk.i64_in _ (by omega)
        have hw3 : IntKind.i64.wrap (F + n) = F + n := IntWalk.i64_in _ (by omega)
        have dF : decide (65535 - n < F) = false := by simp; omega
        by_cases hle : F - n < 0
        · have dl : decide (F - n < 0) = true := by simpa using hle
          rw [show max (F - n) 0 = 0 from by omega] at *
          clear hbt hr hm hle hf hri hbo hmn
          go_enter Try.func5, Try.ntmps5
          go_wp2_with fail
          refine (HOU.out).mono ?_; rintro e w1 ⟨v1, rfl, ho1, hb1⟩
          have HB1 := Lib.hid (hb1)
          clear hb1
          have HS1 := Lib.hid ho1.sees
          obtain ⟨ao, c, rfl, -⟩ := ho1.sees
          clear ho1
          have HS1 := Lib.hid (HS1.out.below (belNew w1 (hnO (.slice ao M.length c))))
          have c7 := hcell (heap_new w1 (hnO (.slice ao M.length c)))
          have HB2 := Lib.hid (belAlloc HB1.out (hnO (.slice ao M.length c)))
          go_wp2_with fail
          refine (HPL.out _ _ HS1.out).mono ?_; rintro e w3 ⟨v8, rfl, ho8, hb3⟩
          have c7 := bcell hb3 c7
          have HS1 := Lib.hid (HS1.out.below hb3)
          have HB3 := Lib.hid (bel HB2.out hb3)
          clear hb3
          have HS8 := Lib.hid ho8.sees
          clear ho8
          go_wp2_with fail
          refine (HST.out _ _ HS1.out).mono ?_; rintro e w4 ⟨v9, rfl, ho9, hb4⟩
          have c7 := bcell hb4 c7
          have HS1 := Lib.hid (HS1.out.below hb4)
          have HS8 := Lib.hid (HS8.out.below hb4)
          have HB4 := Lib.hid (bel HB3.out hb4)
          clear hb4
          have HS9 := Lib.hid ho9.sees
          obtain ⟨a9, n9, c9', rfl⟩ := sl_form ho9
          clear ho9
          have c7 := bcell (belNew w4 (hnO (.slice a9 n9 c9'))) c7
          have HS1 := Lib.hid (HS1.out.below (belNew w4 (hnO (.slice a9 n9 c9'))))
          have HS8 := Lib.hid (HS8.out.below (belNew w4 (hnO (.slice a9 n9 c9'))))
          have HS9 := Lib.hid (HS9.out.below (belNew w4 (hnO (.slice a9 n9 c9'))))
          have c9 := hcell (heap_new w4 (hnO (.slice a9 n9 c9')))
          have HB5 := Lib.hid (belAlloc HB4.out (hnO (.slice a9 n9 c9')))
          go_wp2_with fail
          refine (HAD.out _ _ HS1.out).mono ?_; rintro e w6 ⟨v11, rfl, ho11, hb6⟩
          have c7 := bcell hb6 c7
          have c9 := bcell hb6 c9
          have HS1 := Lib.hid (HS1.out.below hb6)
          have HS8 := Lib.hid (HS8.out.below hb6)
          have HS9 := Lib.hid (HS9.out.below hb6)
          have HB6 := Lib.hid (bel HB5.out hb6)
          clear hb6
          have HS11 := Lib.hid ho11.sees
          obtain ⟨a11, n11, c11', rfl⟩ := sl_form ho11
          clear ho11
          have c7 := bcell (belNew w6 (hnO (.slice a11 n11 c11'))) c7
          have c9 := bcell (belNew w6 (hnO (.slice a11 n11 c11'))) c9
          have HS1 := Lib.hid (HS1.out.below (belNew w6 (hnO (.slice a11 n11 c11'))))
          have HS8 := Lib.hid (HS8.out.below (belNew w6 (hnO (.slice a11 n11 c11'))))
          have HS9 := Lib.hid (HS9.out.below (belNew w6 (hnO (.slice a11 n11 c11'))))
          have HS11 := Lib.hid (HS11.out.below (belNew w6 (hnO (.slice a11 n11 c11'))))
          have c11 := hcell (heap_new w6 (hnO (.slice a11 n11 c11')))
          have HB7 := Lib.hid (belAlloc HB6.out (hnO (.slice a11 n11 c11')))
          go_wp2_with fail
          refine (HSU.out _ _ HS1.out).mono ?_; rintro e w8 ⟨v13, rfl, ho13, hb8⟩
          have c7 := bcell hb8 c7
          have c9 := bcell hb8 c9
          have c11 := bcell hb8 c11
          have HS1 := Lib.hid (HS1.out.below hb8)
          have HS8 := Lib.hid (HS8.out.below hb8)
          have HS9 := Lib.hid (HS9.out.below hb8)
          have HS11 := Lib.hid (HS11.out.below hb8)
          have HB8 := Lib.hid (bel HB7.out hb8)
          clear hb8
          have HS13 := Lib.hid ho13.sees
          obtain ⟨a13, n13, c13', rfl⟩ := sl_form ho13
          clear ho13
          have c7 := bcell (belNew w8 (hnO (.slice a13 n13 c13'))) c7
          have c9 := bcell (belNew w8 (hnO (.slice a13 n13 c13'))) c9
          have c11 := bcell (belNew w8 (hnO (.slice a13 n13 c13'))) c11
          have HS1 := Lib.hid (HS1.out.below (belNew w8 (hnO (.slice a13 n13 c13'))))
          have HS8 := Lib.hid (HS8.out.below (belNew w8 (hnO (.slice a13 n13 c13'))))
          have HS9 := Lib.hid (HS9.out.below (belNew w8 (hnO (.slice a13 n13 c13'))))
          have HS11 := Lib.hid (HS11.out.below (belNew w8 (hnO (.slice a13 n13 c13'))))
          have HS13 := Lib.hid (HS13.out.below (belNew w8 (hnO (.slice a13 n13 c13'))))
          have c13 := hcell (heap_new w8 (hnO (.slice a13 n13 c13')))
          have HB9 := Lib.hid (belAlloc HB8.out (hnO (.slice a13 n13 c13')))
          go_wp2_with fail
          refine (HRR.out _ _ HS8.out).mono ?_; rintro e w10 ⟨rfl, hb10⟩
          have c7 := bcell hb10 c7
          have c9 := bcell hb10 c9
          have c11 := bcell hb10 c11
          have c13 := bcell hb10 c13
          have HS1 := Lib.hid (HS1.out.below hb10)
          have HS8 := Lib.hid (HS8.out.below hb10)
          have HS9 := Lib.hid (HS9.out.below hb10)
          have HS11 := Lib.hid (HS11.out.below hb10)
          have HS13 := Lib.hid (HS13.out.below hb10)
          have HB10 := Lib.hid (bel HB9.out hb10)
          clear hb10
          go_wp2_with fail
          refine (HRS.out _ _ HS8.out).mono ?_; rintro e w11 ⟨v15, rfl, ho15, hb11⟩
          have c7 := bcell hb11 c7
          have c9 := bcell hb11 c9
          have c11 := bcell hb11 c11
          have c13 := bcell hb11 c13
          have HS1 := Lib.hid (HS1.out.below hb11)
          have HS8 := Lib.hid (HS8.out.below hb11)
          have HS9 := Lib.hid (HS9.out.below hb11)
          have HS11 := Lib.hid (HS11.out.below hb11)
          have HS13 := Lib.hid (HS13.out.below hb11)
          have HB11 := Lib.hid (bel HB10.out hb11)
          clear hb11
          have HS15 := Lib.hid ho15.sees
          clear ho15
          go_wp2_with fail
          refine (HRO.out _ _ HS8.out).mono ?_; rintro e w12 ⟨rfl, hb12⟩
          have c7 := bcell hb12 c7
          have c9 := bcell hb12 c9
          have c11 := bcell hb12 c11
          have c13 := bcell hb12 c13
          have HS1 := Lib.hid (HS1.out.below hb12)
          have HS8 := Lib.hid (HS8.out.below hb12)
          have HS9 := Lib.hid (HS9.out.below hb12)
          have HS11 := Lib.hid (HS11.out.below hb12)
          have HS13 := Lib.hid (HS13.out.below hb12)
          have HS15 := Lib.hid (HS15.out.below hb12)
          have HB12 := Lib.hid (bel HB11.out hb12)
          clear hb12
          go_wp2_with fail
          refine (HRL.out _ _ HS8.out).mono ?_; rintro e w13 ⟨v18, rfl, ho18, hb13⟩
          have c7 := bcell hb13 c7
          have c9 := bcell hb13 c9
          have c11 := bcell hb13 c11
          have c13 := bcell hb13 c13
          have HS1 := Lib.hid (HS1.out.below hb13)
          have HS8 := Lib.hid (HS8.out.below hb13)
          have HS9 := Lib.hid (HS9.out.below hb13)
          have HS11 := Lib.hid (HS11.out.below hb13)
          have HS13 := Lib.hid (HS13.out.below hb13)
          have HS15 := Lib.hid (HS15.out.below hb13)
          have HB13 := Lib.hid (bel HB12.out hb13)
          clear hb13
          have HS18 := Lib.hid ho18.sees
          clear ho18
          go_wp2_with fail
          refine (HPX.out _ _ HS9.out).mono ?_; rintro e w14 ⟨v20, rfl, ho20, hb14⟩
          have c7 := bcell hb14 c7
          have c9 := bcell hb14 c9
          have c11 := bcell hb14 c11
          have c13 := bcell hb14 c13
          have HS1 := Lib.hid (HS1.out.below hb14)
          have HS8 := Lib.hid (HS8.out.below hb14)
          have HS9 := Lib.hid (HS9.out.below hb14)
          have HS11 := Lib.hid (HS11.out.below hb14)
          have HS13 := Lib.hid (HS13.out.below hb14)
          have HS15 := Lib.hid (HS15.out.below hb14)
          have HS18 := Lib.hid (HS18.out.below hb14)
          have HB14 := Lib.hid (bel HB13.out hb14)
          clear hb14
          have HS20 := Lib.hid ho20.sees
          clear ho20
          go_wp2_with fail
          refine (HSM.out _ _ _ _ HS20.out HS15.out HXL.out).mono ?_; rintro e w15 ⟨rfl, hb15⟩
          have c7 := bcell hb15 c7
          have c9 := bcell hb15 c9
          have c11 := bcell hb15 c11
          have c13 := bcell hb15 c13
          have HS1 := Lib.hid (HS1.out.below hb15)
          have HS8 := Lib.hid (HS8.out.below hb15)
          have HS9 := Lib.hid (HS9.out.below hb15)
          have HS11 := Lib.hid (HS11.out.below hb15)
          have HS13 := Lib.hid (HS13.out.below hb15)
          have HS15 := Lib.hid (HS15.out.below hb15)
          have HS18 := Lib.hid (HS18.out.below hb15)
          have HS20 := Lib.hid (HS20.out.below hb15)
          have HB15 := Lib.hid (bel HB14.out hb15)
          clear hb15
          go_wp2_with fail
          refine (HPZ.out _ _ HS13.out).mono ?_; rintro e w16 ⟨v21, rfl, ho21, hb16⟩
          have c7 := bcell hb16 c7
          have c9 := bcell hb16 c9
          have c11 := bcell hb16 c11
          have c13 := bcell hb16 c13
          have HS1 := Lib.hid (HS1.out.below hb16)
          have HS8 := Lib.hid (HS8.out.below hb16)
          have HS9 := Lib.hid (HS9.out.below hb16)
          have HS11 := Lib.hid (HS11.out.below hb16)
          have HS13 := Lib.hid (HS13.out.below hb16)
          have HS15 := Lib.hid (HS15.out.below hb16)
          have HS18 := Lib.hid (HS18.out.below hb16)
          have HS20 := Lib.hid (HS20.out.below hb16)
          have HB16 := Lib.hid (bel HB15.out hb16)
          clear hb16
          have HS21 := Lib.hid ho21.sees
          clear ho21
          go_wp2_with fail
          refine (HSM.out _ _ _ _ HS21.out HS18.out HZL.out).mono ?_; rintro e w17 ⟨rfl, hb17⟩
          have c7 := bcell hb17 c7
          have c9 := bcell hb17 c9
          have c11 := bcell hb17 c11
          have c13 := bcell hb17 c13
          have HS1 := Lib.hid (HS1.out.below hb17)
          have HS8 := Lib.hid (HS8.out.below hb17)
          have HS9 := Lib.hid (HS9.out.below hb17)
          have HS11 := Lib.hid (HS11.out.below hb17)
          have HS13 := Lib.hid (HS13.out.below hb17)
          have HS15 := Lib.hid (HS15.out.below hb17)
          have HS18 := Lib.hid (HS18.out.below hb17)
          have HS20 := Lib.hid (HS20.out.below hb17)
          have HS21 := Lib.hid (HS21.out.below hb17)
          have HB17 := Lib.hid (bel HB16.out hb17)
          clear hb17
          go_wp2_with fail
          refine (HOF.out _ _ HS1.out).mono ?_; rintro e w18 ⟨rfl, hb18⟩
          have c7 := bcell hb18 c7
          have c9 := bcell hb18 c9
          have c11 := bcell hb18 c11
          have c13 := bcell hb18 c13
          have HS1 := Lib.hid (HS1.out.below hb18)
          have HS8 := Lib.hid (HS8.out.below hb18)
          have HS9 := Lib.hid (HS9.out.below hb18)
          have HS11 := Lib.hid (HS11.out.below hb18)
          have HS13 := Lib.hid (HS13.out.below hb18)
          have HS15 := Lib.hid (HS15.out.below hb18)
          have HS18 := Lib.hid (HS18.out.below hb18)
          have HS20 := Lib.hid (HS20.out.below hb18)
          have HS21 := Lib.hid (HS21.out.below hb18)
          have HB18 := Lib.hid (bel HB17.out hb18)
          clear hb18
          go_wp2_with fail
          refine (HRO.out _ _ HS8.out).mono ?_; rintro e w19 ⟨rfl, hb19⟩
          have c7 := bcell hb19 c7
          have c9 := bcell hb19 c9
          have c11 := bcell hb19 c11
          have c13 := bcell hb19 c13
          have HS1 := Lib.hid (HS1.out.below hb19)
          have HS8 := Lib.hid (HS8.out.below hb19)
          have HS9 := Lib.hid (HS9.out.below hb19)
          have HS11 := Lib.hid (HS11.out.below hb19)
          have HS13 := Lib.hid (HS13.out.below hb19)
          have HS15 := Lib.hid (HS15.out.below hb19)
          have HS18 := Lib.hid (HS18.out.below hb19)
          have HS20 := Lib.hid (HS20.out.below hb19)
          have HS21 := Lib.hid (HS21.out.below hb19)
          have HB19 := Lib.hid (bel HB18.out hb19)
          clear hb19
          go_wp2_with fail
          refine (HRO.out _ _ HS8.out).mono ?_; rintro e w20 ⟨rfl, hb20⟩
          have c7 := bcell hb20 c7
          have c9 := bcell hb20 c9
          have c11 := bcell hb20 c11
          have c13 := bcell hb20 c13
          have HS1 := Lib.hid (HS1.out.below hb20)
          have HS8 := Lib.hid (HS8.out.below hb20)
          have HS9 := Lib.hid (HS9.out.below hb20)
          have HS11 := Lib.hid (HS11.out.below hb20)
          have HS13 := Lib.hid (HS13.out.below hb20)
          have HS15 := Lib.hid (HS15.out.below hb20)
          have HS18 := Lib.hid (HS18.out.below hb20)
          have HS20 := Lib.hid (HS20.out.below hb20)
          have HS21 := Lib.hid (HS21.out.below hb20)
          have HB20 := Lib.hid (bel HB19.out hb20)
          clear hb20
          go_wp2_with fail
          refine (HRO.out _ _ HS8.out).mono ?_; rintro e w21 ⟨rfl, hb21⟩
          have c7 := bcell hb21 c7
          have c9 := bcell hb21 c9
          have c11 := bcell hb21 c11
          have c13 := bcell hb21 c13
          have HS1 := Lib.hid (HS1.out.below hb21)
          have HS8 := Lib.hid (HS8.out.below hb21)
          have HS9 := Lib.hid (HS9.out.below hb21)
          have HS11 := Lib.hid (HS11.out.below hb21)
          have HS13 := Lib.hid (HS13.out.below hb21)
          have HS15 := Lib.hid (HS15.out.below hb21)
          have HS18 := Lib.hid (HS18.out.below hb21)
          have HS20 := Lib.hid (HS20.out.below hb21)
          have HS21 := Lib.hid (HS21.out.below hb21)
          have HB21 := Lib.hid (bel HB20.out hb21)
          clear hb21
          go_wp2_with fail
          refine (HRM.out _ _ HS8.out).mono ?_; rintro e w22 ⟨v22, rfl, ho22, hb22⟩
          have c7 := bcell hb22 c7
          have c9 := bcell hb22 c9
          have c11 := bcell hb22 c11
          have c13 := bcell hb22 c13
          have HS1 := Lib.hid (HS1.out.below hb22)
          have HS8 := Lib.hid (HS8.out.below hb22)
          have HS9 := Lib.hid (HS9.out.below hb22)
          have HS11 := Lib.hid (HS11.out.below hb22)
          have HS13 := Lib.hid (HS13.out.below hb22)
          have HS15 := Lib.hid (HS15.out.below hb22)
          have HS18 := Lib.hid (HS18.out.below hb22)
          have HS20 := Lib.hid (HS20.out.below hb22)
          have HS21 := Lib.hid (HS21.out.below hb22)
          have HB22 := Lib.hid (bel HB21.out hb22)
          clear hb22
          have HS22 := Lib.hid ho22.sees
          clear ho22
          go_wp2_with fail
          refine (HPY.out _ _ HS11.out).mono ?_; rintro e w23 ⟨v23, rfl, ho23, hb23⟩
          have c7 := bcell hb23 c7
          have c9 := bcell hb23 c9
          have c11 := bcell hb23 c11
          have c13 := bcell hb23 c13
          have HS1 := Lib.hid (HS1.out.below hb23)
          have HS8 := Lib.hid (HS8.out.below hb23)
          have HS9 := Lib.hid (HS9.out.below hb23)
          have HS11 := Lib.hid (HS11.out.below hb23)
          have HS13 := Lib.hid (HS13.out.below hb23)
          have HS15 := Lib.hid (HS15.out.below hb23)
          have HS18 := Lib.hid (HS18.out.below hb23)
          have HS20 := Lib.hid (HS20.out.below hb23)
          have HS21 := Lib.hid (HS21.out.below hb23)
          have HS22 := Lib.hid (HS22.out.below hb23)
          have HB23 := Lib.hid (bel HB22.out hb23)
          clear hb23
          have HS23 := Lib.hid ho23.sees
          clear ho23
          go_wp2_with fail
          refine (HSM.out _ _ _ _ HS23.out HS22.out HYL.out).mono ?_; rintro e w24 ⟨rfl, hb24⟩
          have c7 := bcell hb24 c7
          have c9 := bcell hb24 c9
          have c11 := bcell hb24 c11
          have c13 := bcell hb24 c13
          have HS1 := Lib.hid (HS1.out.below hb24)
          have HS8 := Lib.hid (HS8.out.below hb24)
          have HS9 := Lib.hid (HS9.out.below hb24)
          have HS11 := Lib.hid (HS11.out.below hb24)
          have HS13 := Lib.hid (HS13.out.below hb24)
          have HS15 := Lib.hid (HS15.out.below hb24)
          have HS18 := Lib.hid (HS18.out.below hb24)
          have HS20 := Lib.hid (HS20.out.below hb24)
          have HS21 := Lib.hid (HS21.out.below hb24)
          have HS22 := Lib.hid (HS22.out.below hb24)
          have HS23 := Lib.hid (HS23.out.below hb24)
          have HB24 := Lib.hid (bel HB23.out hb24)
          clear hb24
          go_wp2_with fail
          refine (HAW.out _).mono ?_; rintro e w25 ⟨rfl, hb25⟩
          have c7 := bcell hb25 c7
          have c9 := bcell hb25 c9
          have c11 := bcell hb25 c11
          have c13 := bcell hb25 c13
          have HS1 := Lib.hid (HS1.out.below hb25)
          have HS8 := Lib.hid (HS8.out.below hb25)
          have HS9 := Lib.hid (HS9.out.below hb25)
          have HS11 := Lib.hid (HS11.out.below hb25)
          have HS13 := Lib.hid (HS13.out.below hb25)
          have HS15 := Lib.hid (HS15.out.below hb25)
          have HS18 := Lib.hid (HS18.out.below hb25)
          have HS20 := Lib.hid (HS20.out.below hb25)
          have HS21 := Lib.hid (HS21.out.below hb25)
          have HS22 := Lib.hid (HS22.out.below hb25)
          have HS23 := Lib.hid (HS23.out.below hb25)
          have HB25 := Lib.hid (bel HB24.out hb25)
          clear hb25
          clear c7 c9 c11 c13
          go_wp2_with fail
          go_ret
          exact ⟨rfl, HB25.out⟩
        · have dl : decide (F - n < 0) = false := by simpa using hle
          rw [show max (F - n) 0 = F - n from by omega] at *
          clear hbt hr hm hle hf hri hbo hmn
          go_enter Try.func5, Try.ntmps5
          go_wp2_with fail
          refine (HOU.out).mono ?_; rintro e w1 ⟨v1, rfl, ho1, hb1⟩
          have HB1 := Lib.hid (hb1)
          clear hb1
          have HS1 := Lib.hid ho1.sees
          obtain ⟨ao, c, rfl, -⟩ := ho1.sees
          clear ho1
          have HS1 := Lib.hid (HS1.out.below (belNew w1 (hnO (.slice ao M.length c))))
          have c7 := hcell (heap_new w1 (hnO (.slice ao M.length c)))
          have HB2 := Lib.hid (belAlloc HB1.out (hnO (.slice ao M.length c)))
          go_wp2_with fail
          refine (HPL.out _ _ HS1.out).mono ?_; rintro e w3 ⟨v8, rfl, ho8, hb3⟩
          have c7 := bcell hb3 c7
          have HS1 := Lib.hid (HS1.out.below hb3)
          have HB3 := Lib.hid (bel HB2.out hb3)
          clear hb3
          have HS8 := Lib.hid ho8.sees
          clear ho8
          go_wp2_with fail
          refine (HST.out _ _ HS1.out).mono ?_; rintro e w4 ⟨v9, rfl, ho9, hb4⟩
          have c7 := bcell hb4 c7
          have HS1 := Lib.hid (HS1.out.below hb4)
          have HS8 := Lib.hid (HS8.out.below hb4)
          have HB4 := Lib.hid (bel HB3.out hb4)
          clear hb4
          have HS9 := Lib.hid ho9.sees
          obtain ⟨a9, n9, c9', rfl⟩ := sl_form ho9
          clear ho9
          have c7 := bcell (belNew w4 (hnO (.slice a9 n9 c9'))) c7
          have HS1 := Lib.hid (HS1.out.below (belNew w4 (hnO (.slice a9 n9 c9'))))
          have HS8 := Lib.hid (HS8.out.below (belNew w4 (hnO (.slice a9 n9 c9'))))
          have HS9 := Lib.hid (HS9.out.below (belNew w4 (hnO (.slice a9 n9 c9'))))
          have c9 := hcell (heap_new w4 (hnO (.slice a9 n9 c9')))
          have HB5 := Lib.hid (belAlloc HB4.out (hnO (.slice a9 n9 c9')))
          go_wp2_with fail
          refine (HAD.out _ _ HS1.out).mono ?_; rintro e w6 ⟨v11, rfl, ho11, hb6⟩
          have c7 := bcell hb6 c7
          have c9 := bcell hb6 c9
          have HS1 := Lib.hid (HS1.out.below hb6)
          have HS8 := Lib.hid (HS8.out.below hb6)
          have HS9 := Lib.hid (HS9.out.below hb6)
          have HB6 := Lib.hid (bel HB5.out hb6)
          clear hb6
          have HS11 := Lib.hid ho11.sees
          obtain ⟨a11, n11, c11', rfl⟩ := sl_form ho11
          clear ho11
          have c7 := bcell (belNew w6 (hnO (.slice a11 n11 c11'))) c7
          have c9 := bcell (belNew w6 (hnO (.slice a11 n11 c11'))) c9
          have HS1 := Lib.hid (HS1.out.below (belNew w6 (hnO (.slice a11 n11 c11'))))
          have HS8 := Lib.hid (HS8.out.below (belNew w6 (hnO (.slice a11 n11 c11'))))
          have HS9 := Lib.hid (HS9.out.below (belNew w6 (hnO (.slice a11 n11 c11'))))
          have HS11 := Lib.hid (HS11.out.below (belNew w6 (hnO (.slice a11 n11 c11'))))
          have c11 := hcell (heap_new w6 (hnO (.slice a11 n11 c11')))
          have HB7 := Lib.hid (belAlloc HB6.out (hnO (.slice a11 n11 c11')))
          go_wp2_with fail
          refine (HSU.out _ _ HS1.out).mono ?_; rintro e w8 ⟨v13, rfl, ho13, hb8⟩
          have c7 := bcell hb8 c7
          have c9 := bcell hb8 c9
          have c11 := bcell hb8 c11
          have HS1 := Lib.hid (HS1.out.below hb8)
          have HS8 := Lib.hid (HS8.out.below hb8)
          have HS9 := Lib.hid (HS9.out.below hb8)
          have HS11 := Lib.hid (HS11.out.below hb8)
          have HB8 := Lib.hid (bel HB7.out hb8)
          clear hb8
          have HS13 := Lib.hid ho13.sees
          obtain ⟨a13, n13, c13', rfl⟩ := sl_form ho13
          clear ho13
          have c7 := bcell (belNew w8 (hnO (.slice a13 n13 c13'))) c7
          have c9 := bcell (belNew w8 (hnO (.slice a13 n13 c13'))) c9
          have c11 := bcell (belNew w8 (hnO (.slice a13 n13 c13'))) c11
          have HS1 := Lib.hid (HS1.out.below (belNew w8 (hnO (.slice a13 n13 c13'))))
          have HS8 := Lib.hid (HS8.out.below (belNew w8 (hnO (.slice a13 n13 c13'))))
          have HS9 := Lib.hid (HS9.out.below (belNew w8 (hnO (.slice a13 n13 c13'))))
          have HS11 := Lib.hid (HS11.out.below (belNew w8 (hnO (.slice a13 n13 c13'))))
          have HS13 := Lib.hid (HS13.out.below (belNew w8 (hnO (.slice a13 n13 c13'))))
          have c13 := hcell (heap_new w8 (hnO (.slice a13 n13 c13')))
          have HB9 := Lib.hid (belAlloc HB8.out (hnO (.slice a13 n13 c13')))
          go_wp2_with fail
          refine (HRR.out _ _ HS8.out).mono ?_; rintro e w10 ⟨rfl, hb10⟩
          have c7 := bcell hb10 c7
          have c9 := bcell hb10 c9
          have c11 := bcell hb10 c11
          have c13 := bcell hb10 c13
          have HS1 := Lib.hid (HS1.out.below hb10)
          have HS8 := Lib.hid (HS8.out.below hb10)
          have HS9 := Lib.hid (HS9.out.below hb10)
          have HS11 := Lib.hid (HS11.out.below hb10)
          have HS13 := Lib.hid (HS13.out.below hb10)
          have HB10 := Lib.hid (bel HB9.out hb10)
          clear hb10
          go_wp2_with fail
          refine (HRS.out _ _ HS8.out).mono ?_; rintro e w11 ⟨v15, rfl, ho15, hb11⟩
          have c7 := bcell hb11 c7
          have c9 := bcell hb11 c9
          have c11 := bcell hb11 c11
          have c13 := bcell hb11 c13
          have HS1 := Lib.hid (HS1.out.below hb11)
          have HS8 := Lib.hid (HS8.out.below hb11)
          have HS9 := Lib.hid (HS9.out.below hb11)
          have HS11 := Lib.hid (HS11.out.below hb11)
          have HS13 := Lib.hid (HS13.out.below hb11)
          have HB11 := Lib.hid (bel HB10.out hb11)
          clear hb11
          have HS15 := Lib.hid ho15.sees
          clear ho15
          go_wp2_with fail
          refine (HRO.out _ _ HS8.out).mono ?_; rintro e w12 ⟨rfl, hb12⟩
          have c7 := bcell hb12 c7
          have c9 := bcell hb12 c9
          have c11 := bcell hb12 c11
          have c13 := bcell hb12 c13
          have HS1 := Lib.hid (HS1.out.below hb12)
          have HS8 := Lib.hid (HS8.out.below hb12)
          have HS9 := Lib.hid (HS9.out.below hb12)
          have HS11 := Lib.hid (HS11.out.below hb12)
          have HS13 := Lib.hid (HS13.out.below hb12)
          have HS15 := Lib.hid (HS15.out.below hb12)
          have HB12 := Lib.hid (bel HB11.out hb12)
          clear hb12
          go_wp2_with fail
          refine (HRL.out _ _ HS8.out).mono ?_; rintro e w13 ⟨v18, rfl, ho18, hb13⟩
          have c7 := bcell hb13 c7
          have c9 := bcell hb13 c9
          have c11 := bcell hb13 c11
          have c13 := bcell hb13 c13
          have HS1 := Lib.hid (HS1.out.below hb13)
          have HS8 := Lib.hid (HS8.out.below hb13)
          have HS9 := Lib.hid (HS9.out.below hb13)
          have HS11 := Lib.hid (HS11.out.below hb13)
          have HS13 := Lib.hid (HS13.out.below hb13)
          have HS15 := Lib.hid (HS15.out.below hb13)
          have HB13 := Lib.hid (bel HB12.out hb13)
          clear hb13
          have HS18 := Lib.hid ho18.sees
          clear ho18
          go_wp2_with fail
          refine (HPX.out _ _ HS9.out).mono ?_; rintro e w14 ⟨v20, rfl, ho20, hb14⟩
          have c7 := bcell hb14 c7
          have c9 := bcell hb14 c9
          have c11 := bcell hb14 c11
          have c13 := bcell hb14 c13
          have HS1 := Lib.hid (HS1.out.below hb14)
          have HS8 := Lib.hid (HS8.out.below hb14)
          have HS9 := Lib.hid (HS9.out.below hb14)
          have HS11 := Lib.hid (HS11.out.below hb14)
          have HS13 := Lib.hid (HS13.out.below hb14)
          have HS15 := Lib.hid (HS15.out.below hb14)
          have HS18 := Lib.hid (HS18.out.below hb14)
          have HB14 := Lib.hid (bel HB13.out hb14)
          clear hb14
          have HS20 := Lib.hid ho20.sees
          clear ho20
          go_wp2_with fail
          refine (HSM.out _ _ _ _ HS20.out HS15.out HXL.out).mono ?_; rintro e w15 ⟨rfl, hb15⟩
          have c7 := bcell hb15 c7
          have c9 := bcell hb15 c9
          have c11 := bcell hb15 c11
          have c13 := bcell hb15 c13
          have HS1 := Lib.hid (HS1.out.below hb15)
          have HS8 := Lib.hid (HS8.out.below hb15)
          have HS9 := Lib.hid (HS9.out.below hb15)
          have HS11 := Lib.hid (HS11.out.below hb15)
          have HS13 := Lib.hid (HS13.out.below hb15)
          have HS15 := Lib.hid (HS15.out.below hb15)
          have HS18 := Lib.hid (HS18.out.below hb15)
          have HS20 := Lib.hid (HS20.out.below hb15)
          have HB15 := Lib.hid (bel HB14.out hb15)
          clear hb15
          go_wp2_with fail
          refine (HPZ.out _ _ HS13.out).mono ?_; rintro e w16 ⟨v21, rfl, ho21, hb16⟩
          have c7 := bcell hb16 c7
          have c9 := bcell hb16 c9
          have c11 := bcell hb16 c11
          have c13 := bcell hb16 c13
          have HS1 := Lib.hid (HS1.out.below hb16)
          have HS8 := Lib.hid (HS8.out.below hb16)
          have HS9 := Lib.hid (HS9.out.below hb16)
          have HS11 := Lib.hid (HS11.out.below hb16)
          have HS13 := Lib.hid (HS13.out.below hb16)
          have HS15 := Lib.hid (HS15.out.below hb16)
          have HS18 := Lib.hid (HS18.out.below hb16)
          have HS20 := Lib.hid (HS20.out.below hb16)
          have HB16 := Lib.hid (bel HB15.out hb16)
          clear hb16
          have HS21 := Lib.hid ho21.sees
          clear ho21
          go_wp2_with fail
          refine (HSM.out _ _ _ _ HS21.out HS18.out HZL.out).mono ?_; rintro e w17 ⟨rfl, hb17⟩
          have c7 := bcell hb17 c7
          have c9 := bcell hb17 c9
          have c11 := bcell hb17 c11
          have c13 := bcell hb17 c13
          have HS1 := Lib.hid (HS1.out.below hb17)
          have HS8 := Lib.hid (HS8.out.below hb17)
          have HS9 := Lib.hid (HS9.out.below hb17)
          have HS11 := Lib.hid (HS11.out.below hb17)
          have HS13 := Lib.hid (HS13.out.below hb17)
          have HS15 := Lib.hid (HS15.out.below hb17)
          have HS18 := Lib.hid (HS18.out.below hb17)
          have HS20 := Lib.hid (HS20.out.below hb17)
          have HS21 := Lib.hid (HS21.out.below hb17)
          have HB17 := Lib.hid (bel HB16.out hb17)
          clear hb17
          go_wp2_with fail
          refine (HOF.out _ _ HS1.out).mono ?_; rintro e w18 ⟨rfl, hb18⟩
          have c7 := bcell hb18 c7
          have c9 := bcell hb18 c9
          have c11 := bcell hb18 c11
          have c13 := bcell hb18 c13
          have HS1 := Lib.hid (HS1.out.below hb18)
          have HS8 := Lib.hid (HS8.out.below hb18)
          have HS9 := Lib.hid (HS9.out.below hb18)
          have HS11 := Lib.hid (HS11.out.below hb18)
          have HS13 := Lib.hid (HS13.out.below hb18)
          have HS15 := Lib.hid (HS15.out.below hb18)
          have HS18 := Lib.hid (HS18.out.below hb18)
          have HS20 := Lib.hid (HS20.out.below hb18)
          have HS21 := Lib.hid (HS21.out.below hb18)
          have HB18 := Lib.hid (bel HB17.out hb18)
          clear hb18
          go_wp2_with fail
          refine (HRO.out _ _ HS8.out).mono ?_; rintro e w19 ⟨rfl, hb19⟩
          have c7 := bcell hb19 c7
          have c9 := bcell hb19 c9
          have c11 := bcell hb19 c11
          have c13 := bcell hb19 c13
          have HS1 := Lib.hid (HS1.out.below hb19)
          have HS8 := Lib.hid (HS8.out.below hb19)
          have HS9 := Lib.hid (HS9.out.below hb19)
          have HS11 := Lib.hid (HS11.out.below hb19)
          have HS13 := Lib.hid (HS13.out.below hb19)
          have HS15 := Lib.hid (HS15.out.below hb19)
          have HS18 := Lib.hid (HS18.out.below hb19)
          have HS20 := Lib.hid (HS20.out.below hb19)
          have HS21 := Lib.hid (HS21.out.below hb19)
          have HB19 := Lib.hid (bel HB18.out hb19)
          clear hb19
          go_wp2_with fail
          refine (HRO.out _ _ HS8.out).mono ?_; rintro e w20 ⟨rfl, hb20⟩
          have c7 := bcell hb20 c7
          have c9 := bcell hb20 c9
          have c11 := bcell hb20 c11
          have c13 := bcell hb20 c13
          have HS1 := Lib.hid (HS1.out.below hb20)
          have HS8 := Lib.hid (HS8.out.below hb20)
          have HS9 := Lib.hid (HS9.out.below hb20)
          have HS11 := Lib.hid (HS11.out.below hb20)
          have HS13 := Lib.hid (HS13.out.below hb20)
          have HS15 := Lib.hid (HS15.out.below hb20)
          have HS18 := Lib.hid (HS18.out.below hb20)
          have HS20 := Lib.hid (HS20.out.below hb20)
          have HS21 := Lib.hid (HS21.out.below hb20)
          have HB20 := Lib.hid (bel HB19.out hb20)
          clear hb20
          go_wp2_with fail
          refine (HRO.out _ _ HS8.out).mono ?_; rintro e w21 ⟨rfl, hb21⟩
          have c7 := bcell hb21 c7
          have c9 := bcell hb21 c9
          have c11 := bcell hb21 c11
          have c13 := bcell hb21 c13
          have HS1 := Lib.hid (HS1.out.below hb21)
          have HS8 := Lib.hid (HS8.out.below hb21)
          have HS9 := Lib.hid (HS9.out.below hb21)
          have HS11 := Lib.hid (HS11.out.below hb21)
          have HS13 := Lib.hid (HS13.out.below hb21)
          have HS15 := Lib.hid (HS15.out.below hb21)
          have HS18 := Lib.hid (HS18.out.below hb21)
          have HS20 := Lib.hid (HS20.out.below hb21)
          have HS21 := Lib.hid (HS21.out.below hb21)
          have HB21 := Lib.hid (bel HB20.out hb21)
          clear hb21
          go_wp2_with fail
          refine (HRM.out _ _ HS8.out).mono ?_; rintro e w22 ⟨v22, rfl, ho22, hb22⟩
          have c7 := bcell hb22 c7
          have c9 := bcell hb22 c9
          have c11 := bcell hb22 c11
          have c13 := bcell hb22 c13
          have HS1 := Lib.hid (HS1.out.below hb22)
          have HS8 := Lib.hid (HS8.out.below hb22)
          have HS9 := Lib.hid (HS9.out.below hb22)
          have HS11 := Lib.hid (HS11.out.below hb22)
          have HS13 := Lib.hid (HS13.out.below hb22)
          have HS15 := Lib.hid (HS15.out.below hb22)
          have HS18 := Lib.hid (HS18.out.below hb22)
          have HS20 := Lib.hid (HS20.out.below hb22)
          have HS21 := Lib.hid (HS21.out.below hb22)
          have HB22 := Lib.hid (bel HB21.out hb22)
          clear hb22
          have HS22 := Lib.hid ho22.sees
          clear ho22
          go_wp2_with fail
          refine (HPY.out _ _ HS11.out).mono ?_; rintro e w23 ⟨v23, rfl, ho23, hb23⟩
          have c7 := bcell hb23 c7
          have c9 := bcell hb23 c9
          have c11 := bcell hb23 c11
          have c13 := bcell hb23 c13
          have HS1 := Lib.hid (HS1.out.below hb23)
          have HS8 := Lib.hid (HS8.out.below hb23)
          have HS9 := Lib.hid (HS9.out.below hb23)
          have HS11 := Lib.hid (HS11.out.below hb23)
          have HS13 := Lib.hid (HS13.out.below hb23)
          have HS15 := Lib.hid (HS15.out.below hb23)
          have HS18 := Lib.hid (HS18.out.below hb23)
          have HS20 := Lib.hid (HS20.out.below hb23)
          have HS21 := Lib.hid (HS21.out.below hb23)
          have HS22 := Lib.hid (HS22.out.below hb23)
          have HB23 := Lib.hid (bel HB22.out hb23)
          clear hb23
          have HS23 := Lib.hid ho23.sees
          clear ho23
          go_wp2_with fail
          refine (HSM.out _ _ _ _ HS23.out HS22.out HYL.out).mono ?_; rintro e w24 ⟨rfl, hb24⟩
          have c7 := bcell hb24 c7
          have c9 := bcell hb24 c9
          have c11 := bcell hb24 c11
          have c13 := bcell hb24 c13
          have HS1 := Lib.hid (HS1.out.below hb24)
          have HS8 := Lib.hid (HS8.out.below hb24)
          have HS9 := Lib.hid (HS9.out.below hb24)
          have HS11 := Lib.hid (HS11.out.below hb24)
          have HS13 := Lib.hid (HS13.out.below hb24)
          have HS15 := Lib.hid (HS15.out.below hb24)
          have HS18 := Lib.hid (HS18.out.below hb24)
          have HS20 := Lib.hid (HS20.out.below hb24)
          have HS21 := Lib.hid (HS21.out.below hb24)
          have HS22 := Lib.hid (HS22.out.below hb24)
          have HS23 := Lib.hid (HS23.out.below hb24)
          have HB24 := Lib.hid (bel HB23.out hb24)
          clear hb24
          go_wp2_with fail
          refine (HAW.out _).mono ?_; rintro e w25 ⟨rfl, hb25⟩
          have c7 := bcell hb25 c7
          have c9 := bcell hb25 c9
          have c11 := bcell hb25 c11
          have c13 := bcell hb25 c13
          have HS1 := Lib.hid (HS1.out.below hb25)
          have HS8 := Lib.hid (HS8.out.below hb25)
          have HS9 := Lib.hid (HS9.out.below hb25)
          have HS11 := Lib.hid (HS11.out.below hb25)
          have HS13 := Lib.hid (HS13.out.below hb25)
          have HS15 := Lib.hid (HS15.out.below hb25)
          have HS18 := Lib.hid (HS18.out.below hb25)
          have HS20 := Lib.hid (HS20.out.below hb25)
          have HS21 := Lib.hid (HS21.out.below hb25)
          have HS22 := Lib.hid (HS22.out.below hb25)
          have HS23 := Lib.hid (HS23.out.below hb25)
          have HB25 := Lib.hid (bel HB24.out hb25)
          clear hb25
          clear c7 c9 c11 c13
          go_wp2_with fail
          go_ret
          exact ⟨rfl, HB25.out⟩
end Go.Proofs.Ytcgkambkfaeceaa
