/- HandlePut: whether a handle is right, and its bytes; they are read as it was. -/
import Derived.Test.YtcgkambkfaeceaaHnAwake
import Derived.Test.YtcgkambkfaeceaaHnMathB
import Derived.Test.YtcgkambkfaeceaaHnRefA
import Derived.Test.YtcgkambkfaeceaaHnRefB
import Derived.Test.YtcgkambkfaeceaaHnPutB
import Derived.Test.YtcgkambkfaeceaaHnOpen
namespace Go.Proofs.Ytcgkambkfaeceaa
open Go.RowKit
theorem sameU_any (a b : Value) (N : CntL) (w : World) (h : SeesC w a N) (h2 : SeesC w b N) (hl : N.length ≤ 1000000) :
    Calls Try.prog 16 #[a, b] w fun e w' => e = .returned (.bool true) ∧ Below w.heap.size w w' := by
  have := same_any a b N N w h h2 hl hl
  rwa [decide_eq_true (rfl : N = N)] at this
set_option maxRecDepth 100000 in
set_option maxHeartbeats 16000000 in
theorem lawPut (w : World) (v : Value) (L : CntL) (h : SeesC w v L) (hb : CntBd L) (hl : L.length ≤ maxLen) :
    Calls Try.prog 3 #[v] w fun e w' => e = .returned (.bool true) ∧ Below w.heap.size w w' := by
  have HOU := Lib.hid (ours_any v L w h (by unfold maxLen at hl; omega))
  have hbt := hb.take 40
  have hl2 : (L.take 40).length ≤ 40 := by rw [List.length_take]; omega
  have HAW := Lib.hid (fun w => awake17_any w)
  generalize L.take 40 = M at HOU hbt hl2
  clear h hb hl
  have HPL := Lib.hid (fun v w (h : SeesC w v M) => plain_any v M w h (by omega))
  have HRR := Lib.hid (fun v w (h : SeesC w v M) => refRight_any v M w h hbt (by omega))
  have HRH := Lib.hid (fun v w (h : SeesC w v M) => right_any v M w h hbt (by omega))
  cases hr : rightH M with
  | false =>
    have HPT := Lib.hid (fun v w (h : SeesC w v M) => hput_no v M w h hbt (by omega) hr)
    rw [hr] at HRR HRH
    clear hbt hr
    go_enter Try.func3, Try.ntmps3
    go_wp2_with fail
    refine (HOU.out).mono ?_; rintro e w1 ⟨v1, rfl, ho1, hb1⟩
    have HB1 := Lib.hid (hb1)
    clear hb1
    have HS1 := Lib.hid ho1.sees
    obtain ⟨ao, c, rfl, -⟩ := ho1.sees
    clear ho1
    have HS1 := Lib.hid (HS1.out.below (belNew w1 (hnO (.slice ao M.length c))))
    have c3 := hcell (heap_new w1 (hnO (.slice ao M.length c)))
    have HB2 := Lib.hid (belAlloc HB1.out (hnO (.slice ao M.length c)))
    go_wp2_with fail
    refine (HPL.out _ _ HS1.out).mono ?_; rintro e w3 ⟨v4, rfl, ho4, hb3⟩
    have c3 := bcell hb3 c3
    have HS1 := Lib.hid (HS1.out.below hb3)
    have HB3 := Lib.hid (bel HB2.out hb3)
    clear hb3
    have HS4 := Lib.hid ho4.sees
    clear ho4
    go_wp2_with fail
    refine (HPT.out _ _ HS1.out).mono ?_; rintro e w4 ⟨rfl, hb4⟩
    have c3 := bcell hb4 c3
    have HS1 := Lib.hid (HS1.out.below hb4)
    have HS4 := Lib.hid (HS4.out.below hb4)
    have HB4 := Lib.hid (bel HB3.out hb4)
    clear hb4
    go_wp2_with fail
    refine (HRH.out _ _ HS1.out).mono ?_; rintro e w5 ⟨rfl, hb5⟩
    have c3 := bcell hb5 c3
    have HS1 := Lib.hid (HS1.out.below hb5)
    have HS4 := Lib.hid (HS4.out.below hb5)
    have HB5 := Lib.hid (bel HB4.out hb5)
    clear hb5
    go_wp2_with fail
    refine (HRR.out _ _ HS4.out).mono ?_; rintro e w6 ⟨rfl, hb6⟩
    have c3 := bcell hb6 c3
    have HS1 := Lib.hid (HS1.out.below hb6)
    have HS4 := Lib.hid (HS4.out.below hb6)
    have HB6 := Lib.hid (bel HB5.out hb6)
    clear hb6
    go_wp2_with fail
    refine (HRR.out _ _ HS4.out).mono ?_; rintro e w7 ⟨rfl, hb7⟩
    have c3 := bcell hb7 c3
    have HS1 := Lib.hid (HS1.out.below hb7)
    have HS4 := Lib.hid (HS4.out.below hb7)
    have HB7 := Lib.hid (bel HB6.out hb7)
    clear hb7
    go_wp2_with fail
    refine (HAW.out _).mono ?_; rintro e w8 ⟨rfl, hb8⟩
    have c3 := bcell hb8 c3
    have HS1 := Lib.hid (HS1.out.below hb8)
    have HS4 := Lib.hid (HS4.out.below hb8)
    have HB8 := Lib.hid (bel HB7.out hb8)
    clear hb8
    clear c3
    go_wp2_with fail
    go_ret
    exact ⟨rfl, HB8.out⟩
  | true =>
    have hok := ((right_iff M).1 hr).1
    have HPT := Lib.hid (fun v w (h : SeesC w v M) => hput_any v M w h hbt (by omega) hr)
    have HPU := Lib.hid (fun v w (h : SeesC w v M) => hrefPut_any v M w h hbt hok (by omega))
    have hok2 : ∀ p ∈ M, 0 ≤ p.2 ∧ p.2 ≤ 65535 := fun p hp => by
      have := hok p hp
      unfold CntOk at this
      omega
    have HTO := Lib.hid (fun v w (h : SeesC w v M) => total_any v M w h hok2 (by omega))
    have HRT := Lib.hid (fun v w (h : SeesC w v M) => refTotal_any v M w h hok2 (by omega))
    have HSM := Lib.hid (fun a b w (h1 : SeesC w a M) (h2 : SeesC w b M) => sameU_any a b M w h1 h2 (by omega))
    obtain ⟨e1, e2⟩ := read_put hbt hr (by omega)
    have HRD := Lib.hid (fun w => hread_any (strOfNums (hnB M)) w (by rw [strOfNums_size, hnB_len]; omega))
    rw [e1, e2] at HRD
    have e0 : ∀ v, resH true v = .tuple #[hnV v, .int .i64 0] := fun _ => rfl
    simp only [e0] at HRD
    obtain ⟨Z, hZ⟩ : ∃ Z, Z = strOfNums (hnB M) := ⟨_, rfl⟩
    rw [← hZ] at HPT HPU HRD
    have hTT : (Z.toList == Z.toList) = true := by simp
    rw [hr] at HRR HRH
    clear hbt hr hok hok2 e1 e2 e0 hZ
    go_enter Try.func3, Try.ntmps3
    go_wp2_with fail
    refine (HOU.out).mono ?_; rintro e w1 ⟨v1, rfl, ho1, hb1⟩
    have HB1 := Lib.hid (hb1)
    clear hb1
    have HS1 := Lib.hid ho1.sees
    obtain ⟨ao, c, rfl, -⟩ := ho1.sees
    clear ho1
    have HS1 := Lib.hid (HS1.out.below (belNew w1 (hnO (.slice ao M.length c))))
    have c3 := hcell (heap_new w1 (hnO (.slice ao M.length c)))
    have HB2 := Lib.hid (belAlloc HB1.out (hnO (.slice ao M.length c)))
    go_wp2_with fail
    refine (HPL.out _ _ HS1.out).mono ?_; rintro e w3 ⟨v4, rfl, ho4, hb3⟩
    have c3 := bcell hb3 c3
    have HS1 := Lib.hid (HS1.out.below hb3)
    have HB3 := Lib.hid (bel HB2.out hb3)
    clear hb3
    have HS4 := Lib.hid ho4.sees
    clear ho4
    go_wp2_with fail
    refine (HPT.out _ _ HS1.out).mono ?_; rintro e w4 ⟨rfl, hb4⟩
    have c3 := bcell hb4 c3
    have HS1 := Lib.hid (HS1.out.below hb4)
    have HS4 := Lib.hid (HS4.out.below hb4)
    have HB4 := Lib.hid (bel HB3.out hb4)
    clear hb4
    go_wp2_with fail
    refine (HRH.out _ _ HS1.out).mono ?_; rintro e w5 ⟨rfl, hb5⟩
    have c3 := bcell hb5 c3
    have HS1 := Lib.hid (HS1.out.below hb5)
    have HS4 := Lib.hid (HS4.out.below hb5)
    have HB5 := Lib.hid (bel HB4.out hb5)
    clear hb5
    go_wp2_with fail
    refine (HRR.out _ _ HS4.out).mono ?_; rintro e w6 ⟨rfl, hb6⟩
    have c3 := bcell hb6 c3
    have HS1 := Lib.hid (HS1.out.below hb6)
    have HS4 := Lib.hid (HS4.out.below hb6)
    have HB6 := Lib.hid (bel HB5.out hb6)
    clear hb6
    go_wp2_with fail
    refine (HRR.out _ _ HS4.out).mono ?_; rintro e w7 ⟨rfl, hb7⟩
    have c3 := bcell hb7 c3
    have HS1 := Lib.hid (HS1.out.below hb7)
    have HS4 := Lib.hid (HS4.out.below hb7)
    have HB7 := Lib.hid (bel HB6.out hb7)
    clear hb7
    go_wp2_with fail
    refine (HRD.out _).mono ?_; rintro e w8 ⟨v7, rfl, hs7, hb8⟩
    have c3 := bcell hb8 c3
    have HS1 := Lib.hid (HS1.out.below hb8)
    have HS4 := Lib.hid (HS4.out.below hb8)
    have HB8 := Lib.hid (bel HB7.out hb8)
    clear hb8
    have HS7 := Lib.hid hs7
    obtain ⟨ao7, c7', rfl, -⟩ := hs7
    have c3 := bcell (belNew w8 (hnO (.slice ao7 M.length c7'))) c3
    have HS1 := Lib.hid (HS1.out.below (belNew w8 (hnO (.slice ao7 M.length c7'))))
    have HS4 := Lib.hid (HS4.out.below (belNew w8 (hnO (.slice ao7 M.length c7'))))
    have HS7 := Lib.hid (HS7.out.below (belNew w8 (hnO (.slice ao7 M.length c7'))))
    have c7 := hcell (heap_new w8 (hnO (.slice ao7 M.length c7')))
    have HB9 := Lib.hid (belAlloc HB8.out (hnO (.slice ao7 M.length c7')))
    go_wp2_with fail
    refine (HPU.out _ _ HS4.out).mono ?_; rintro e w10 ⟨rfl, hb10⟩
    have c3 := bcell hb10 c3
    have c7 := bcell hb10 c7
    have HS1 := Lib.hid (HS1.out.below hb10)
    have HS4 := Lib.hid (HS4.out.below hb10)
    have HS7 := Lib.hid (HS7.out.below hb10)
    have HB10 := Lib.hid (bel HB9.out hb10)
    clear hb10
    go_wp2_with fail
    refine (HPL.out _ _ HS7.out).mono ?_; rintro e w11 ⟨v8, rfl, ho8, hb11⟩
    have c3 := bcell hb11 c3
    have c7 := bcell hb11 c7
    have HS1 := Lib.hid (HS1.out.below hb11)
    have HS4 := Lib.hid (HS4.out.below hb11)
    have HS7 := Lib.hid (HS7.out.below hb11)
    have HB11 := Lib.hid (bel HB10.out hb11)
    clear hb11
    have HS8 := Lib.hid ho8.sees
    clear ho8
    go_wp2_with fail
    refine (HSM.out _ _ _ HS8.out HS4.out).mono ?_; rintro e w12 ⟨rfl, hb12⟩
    have c3 := bcell hb12 c3
    have c7 := bcell hb12 c7
    have HS1 := Lib.hid (HS1.out.below hb12)
    have HS4 := Lib.hid (HS4.out.below hb12)
    have HS7 := Lib.hid (HS7.out.below hb12)
    have HS8 := Lib.hid (HS8.out.below hb12)
    have HB12 := Lib.hid (bel HB11.out hb12)
    clear hb12
    go_wp2_with fail
    refine (HTO.out _ _ HS1.out).mono ?_; rintro e w13 ⟨rfl, hb13⟩
    have c3 := bcell hb13 c3
    have c7 := bcell hb13 c7
    have HS1 := Lib.hid (HS1.out.below hb13)
    have HS4 := Lib.hid (HS4.out.below hb13)
    have HS7 := Lib.hid (HS7.out.below hb13)
    have HS8 := Lib.hid (HS8.out.below hb13)
    have HB13 := Lib.hid (bel HB12.out hb13)
    clear hb13
    go_wp2_with fail
    refine (HRT.out _ _ HS4.out).mono ?_; rintro e w14 ⟨rfl, hb14⟩
    have c3 := bcell hb14 c3
    have c7 := bcell hb14 c7
    have HS1 := Lib.hid (HS1.out.below hb14)
    have HS4 := Lib.hid (HS4.out.below hb14)
    have HS7 := Lib.hid (HS7.out.below hb14)
    have HS8 := Lib.hid (HS8.out.below hb14)
    have HB14 := Lib.hid (bel HB13.out hb14)
    clear hb14
    go_wp2_with fail
    refine (HAW.out _).mono ?_; rintro e w15 ⟨rfl, hb15⟩
    have c3 := bcell hb15 c3
    have c7 := bcell hb15 c7
    have HS1 := Lib.hid (HS1.out.below hb15)
    have HS4 := Lib.hid (HS4.out.below hb15)
    have HS7 := Lib.hid (HS7.out.below hb15)
    have HS8 := Lib.hid (HS8.out.below hb15)
    have HB15 := Lib.hid (bel HB14.out hb15)
    clear hb15
    clear c3 c7
    go_wp2_with fail
    go_ret
    exact ⟨rfl, HB15.out⟩
end Go.Proofs.Ytcgkambkfaeceaa
