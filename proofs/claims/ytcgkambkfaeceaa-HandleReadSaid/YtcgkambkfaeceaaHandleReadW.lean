/- HandleRead: bytes that are read as a handle are just that one's. -/
import Derived.Test.YtcgkambkfaeceaaHnAwake
import Derived.Test.YtcgkambkfaeceaaHnMathB
import Derived.Test.YtcgkambkfaeceaaHnRefA
namespace Go.Proofs.Ytcgkambkfaeceaa
open Go.RowKit
set_option maxRecDepth 100000 in
set_option maxHeartbeats 16000000 in
theorem lawRead (w : World) (s : ByteArray) :
    Calls Try.prog 4 #[.string s] w fun e w' => e = .returned (.bool true) ∧ Below w.heap.size w w' := by
  have HAW := Lib.hid (fun w => awake17_any w)
  by_cases hs : 200 < s.size
  · have d0 : decide ((200 : Int) < (s.size : Int)) = true := by simp; omega
    have hs2 : (200 : Int) ≤ (s.size : Int) := by omega
    obtain ⟨T, hT⟩ : ∃ T, T = s.extract 0 200 := ⟨_, rfl⟩
    have hTs : T.size ≤ 200 := by rw [hT, ByteArray.size_extract]; omega
    have HRD := Lib.hid (fun w => hread_any T w (by omega))
    have HBK := Lib.hid (fun h => read_back (s := T) h)
    have HBD := Lib.hid (read_bd T (by omega))
    have HT := Lib.hid hT
    clear hTs hT hs
    have HE : Hid (s.extract 0 200 = T) := Lib.hid HT.out.symm
    have hex := HE.out
    cases hk : okHB T with
    | false =>
      rw [hk] at HRD
      have e0 : ∀ v, resH false v = .tuple #[hnV (.slice none 0 0), .int .i64 3] := fun _ => rfl
      simp only [e0] at HRD
      clear HBK hk e0 HBD
      go_enter Try.func4, Try.ntmps4
      go_wp2_with fail
      refine (HRD.out _).mono ?_; rintro e w1 ⟨v1, rfl, hs1, hb1⟩
      have HB1 := Lib.hid (hb1)
      clear hb1
      clear hs1
      have c3 := hcell (heap_new w1 (hnO (.slice none 0 0)))
      have HB2 := Lib.hid (belAlloc HB1.out (hnO (.slice none 0 0)))
      go_wp2_with fail
      refine (HAW.out _).mono ?_; rintro e w3 ⟨rfl, hb3⟩
      have c3 := bcell hb3 c3
      have HB3 := Lib.hid (bel HB2.out hb3)
      clear hb3
      clear c3
      go_wp2_with fail
      go_ret
      exact ⟨rfl, HB3.out⟩
    | true =>
      rw [hk] at HRD
      have e0 : ∀ v, resH true v = .tuple #[hnV v, .int .i64 0] := fun _ => rfl
      simp only [e0] at HRD
      obtain ⟨hr, hq⟩ := HBK.out hk
      obtain ⟨M, hM⟩ : ∃ M, M = (readR T).1 := ⟨_, rfl⟩
      have hl := HBD.out.2.1
      have hbd := HBD.out.1
      rw [← hM] at HRD hr hq hl hbd
      have HPL := Lib.hid (fun v w (h : SeesC w v M) => plain_any v M w h (by omega))
      have HRR := Lib.hid (fun v w (h : SeesC w v M) => refRight_any v M w h hbd (by omega))
      have HPU := Lib.hid (fun v w (h : SeesC w v M) => hrefPut_any v M w h hbd ((right_iff M).1 hr).1 (by omega))
      rw [hr] at HRR
      rw [hq] at HPU
      have hTT : (T.toList == T.toList) = true := by simp
      clear HBK hk e0 HBD hr hq hM hl hbd
      go_enter Try.func4, Try.ntmps4
      go_wp2_with fail
      refine (HRD.out _).mono ?_; rintro e w1 ⟨v1, rfl, hs1, hb1⟩
      have HB1 := Lib.hid (hb1)
      clear hb1
      have HS1 := Lib.hid hs1
      obtain ⟨ao, c, rfl, -⟩ := hs1
      have HS1 := Lib.hid (HS1.out.below (belNew w1 (hnO (.slice ao M.length c))))
      have c3 := hcell (heap_new w1 (hnO (.slice ao M.length c)))
      have HB2 := Lib.hid (belAlloc HB1.out (hnO (.slice ao M.length c)))
      go_wp2_with fail
      refine (HPL.out _ _ HS1.out).mono ?_; rintro e w3 ⟨v4, rfl, ho4, hb3⟩
      have c3 := bcell hb3 c3
      have HS1 := Lib.hid (HS1.out.below hb3)
      have HB3 := Lib.hid (bel HB2.out hb3)
      clear hb3
      have HS4 := Lib.hid ho4.sees
      clear ho4
      go_wp2_with fail
      refine (HRR.out _ _ HS4.out).mono ?_; rintro e w4 ⟨rfl, hb4⟩
      have c3 := bcell hb4 c3
      have HS1 := Lib.hid (HS1.out.below hb4)
      have HS4 := Lib.hid (HS4.out.below hb4)
      have HB4 := Lib.hid (bel HB3.out hb4)
      clear hb4
      go_wp2_with fail
      refine (HPL.out _ _ HS1.out).mono ?_; rintro e w5 ⟨v5, rfl, ho5, hb5⟩
      have c3 := bcell hb5 c3
      have HS1 := Lib.hid (HS1.out.below hb5)
      have HS4 := Lib.hid (HS4.out.below hb5)
      have HB5 := Lib.hid (bel HB4.out hb5)
      clear hb5
      have HS5 := Lib.hid ho5.sees
      clear ho5
      go_wp2_with fail
      refine (HPU.out _ _ HS5.out).mono ?_; rintro e w6 ⟨rfl, hb6⟩
      have c3 := bcell hb6 c3
      have HS1 := Lib.hid (HS1.out.below hb6)
      have HS4 := Lib.hid (HS4.out.below hb6)
      have HS5 := Lib.hid (HS5.out.below hb6)
      have HB6 := Lib.hid (bel HB5.out hb6)
      clear hb6
      go_wp2_with fail
      refine (HAW.out _).mono ?_; rintro e w7 ⟨rfl, hb7⟩
      have c3 := bcell hb7 c3
      have HS1 := Lib.hid (HS1.out.below hb7)
      have HS4 := Lib.hid (HS4.out.below hb7)
      have HS5 := Lib.hid (HS5.out.below hb7)
      have HB7 := Lib.hid (bel HB6.out hb7)
      clear hb7
      clear c3
      go_wp2_with fail
      go_ret
      exact ⟨rfl, HB7.out⟩
  · have d0 : decide ((200 : Int) < (s.size : Int)) = false := by simp; omega
    obtain ⟨T, hT⟩ : ∃ T, T = s := ⟨_, rfl⟩
    subst hT
    have HRD := Lib.hid (fun w => hread_any T w (by omega))
    have HBK := Lib.hid (fun h => read_back (s := T) h)
    have HBD := Lib.hid (read_bd T (by omega))
    clear hs
    cases hk : okHB T with
    | false =>
      rw [hk] at HRD
      have e0 : ∀ v, resH false v = .tuple #[hnV (.slice none 0 0), .int .i64 3] := fun _ => rfl
      simp only [e0] at HRD
      clear HBK hk e0 HBD
      go_enter Try.func4, Try.ntmps4
      go_wp2_with fail
      refine (HRD.out _).mono ?_; rintro e w1 ⟨v1, rfl, hs1, hb1⟩
      have HB1 := Lib.hid (hb1)
      clear hb1
      clear hs1
      have c3 := hcell (heap_new w1 (hnO (.slice none 0 0)))
      have HB2 := Lib.hid (belAlloc HB1.out (hnO (.slice none 0 0)))
      go_wp2_with fail
      refine (HAW.out _).mono ?_; rintro e w3 ⟨rfl, hb3⟩
      have c3 := bcell hb3 c3
      have HB3 := Lib.hid (bel HB2.out hb3)
      clear hb3
      clear c3
      go_wp2_with fail
      go_ret
      exact ⟨rfl, HB3.out⟩
    | true =>
      rw [hk] at HRD
      have e0 : ∀ v, resH true v = .tuple #[hnV v, .int .i64 0] := fun _ => rfl
      simp only [e0] at HRD
      obtain ⟨hr, hq⟩ := HBK.out hk
      obtain ⟨M, hM⟩ : ∃ M, M = (readR T).1 := ⟨_, rfl⟩
      have hl := HBD.out.2.1
      have hbd := HBD.out.1
      rw [← hM] at HRD hr hq hl hbd
      have HPL := Lib.hid (fun v w (h : SeesC w v M) => plain_any v M w h (by omega))
      have HRR := Lib.hid (fun v w (h : SeesC w v M) => refRight_any v M w h hbd (by omega))
      have HPU := Lib.hid (fun v w (h : SeesC w v M) => hrefPut_any v M w h hbd ((right_iff M).1 hr).1 (by omega))
      rw [hr] at HRR
      rw [hq] at HPU
      have hTT : (T.toList == T.toList) = true := by simp
      clear HBK hk e0 HBD hr hq hM hl hbd
      go_enter Try.func4, Try.ntmps4
      go_wp2_with fail
      refine (HRD.out _).mono ?_; rintro e w1 ⟨v1, rfl, hs1, hb1⟩
      have HB1 := Lib.hid (hb1)
      clear hb1
      have HS1 := Lib.hid hs1
      obtain ⟨ao, c, rfl, -⟩ := hs1
      have HS1 := Lib.hid (HS1.out.below (belNew w1 (hnO (.slice ao M.length c))))
      have c3 := hcell (heap_new w1 (hnO (.slice ao M.length c)))
      have HB2 := Lib.hid (belAlloc HB1.out (hnO (.slice ao M.length c)))
      go_wp2_with fail
      refine (HPL.out _ _ HS1.out).mono ?_; rintro e w3 ⟨v4, rfl, ho4, hb3⟩
      have c3 := bcell hb3 c3
      have HS1 := Lib.hid (HS1.out.below hb3)
      have HB3 := Lib.hid (bel HB2.out hb3)
      clear hb3
      have HS4 := Lib.hid ho4.sees
      clear ho4
      go_wp2_with fail
      refine (HRR.out _ _ HS4.out).mono ?_; rintro e w4 ⟨rfl, hb4⟩
      have c3 := bcell hb4 c3
      have HS1 := Lib.hid (HS1.out.below hb4)
      have HS4 := Lib.hid (HS4.out.below hb4)
      have HB4 := Lib.hid (bel HB3.out hb4)
      clear hb4
      go_wp2_with fail
      refine (HPL.out _ _ HS1.out).mono ?_; rintro e w5 ⟨v5, rfl, ho5, hb5⟩
      have c3 := bcell hb5 c3
      have HS1 := Lib.hid (HS1.out.below hb5)
      have HS4 := Lib.hid (HS4.out.below hb5)
      have HB5 := Lib.hid (bel HB4.out hb5)
      clear hb5
      have HS5 := Lib.hid ho5.sees
      clear ho5
      go_wp2_with fail
      refine (HPU.out _ _ HS5.out).mono ?_; rintro e w6 ⟨rfl, hb6⟩
      have c3 := bcell hb6 c3
      have HS1 := Lib.hid (HS1.out.below hb6)
      have HS4 := Lib.hid (HS4.out.below hb6)
      have HS5 := Lib.hid (HS5.out.below hb6)
      have HB6 := Lib.hid (bel HB5.out hb6)
      clear hb6
      go_wp2_with fail
      refine (HAW.out _).mono ?_; rintro e w7 ⟨rfl, hb7⟩
      have c3 := bcell hb7 c3
      have HS1 := Lib.hid (HS1.out.below hb7)
      have HS4 := Lib.hid (HS4.out.below hb7)
      have HS5 := Lib.hid (HS5.out.below hb7)
      have HB7 := Lib.hid (bel HB6.out hb7)
      clear hb7
      clear c3
      go_wp2_with fail
      go_ret
      exact ⟨rfl, HB7.out⟩
end Go.Proofs.Ytcgkambkfaeceaa
