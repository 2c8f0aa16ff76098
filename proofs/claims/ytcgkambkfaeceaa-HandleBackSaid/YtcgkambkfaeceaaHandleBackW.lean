/- HandleBack: so many fewer behind so many more is the handle again. -/
import Derived.Test.YtcgkambkfaeceaaHnAwake
import Derived.Test.YtcgkambkfaeceaaHnSame
import Derived.Test.YtcgkambkfaeceaaHnOpen
namespace Go.Proofs.Ytcgkambkfaeceaa
open Go.RowKit
theorem set_bd {L : CntL} {b n : Int} (h : CntBd L) (hb : 0 ≤ b) (hb' : b < 4294967296) (hn : -9223372036854775808 ≤ n ∧ n ≤ 9223372036854775807) : CntBd (setH L b n) := fun p hp => by
  rcases setH_mem hp with hp | ⟨rfl, _⟩
  · exact h p hp
  · exact ⟨⟨hb, hb'⟩, hn⟩
set_option maxRecDepth 100000 in
set_option maxHeartbeats 8000000 in
theorem lawBack (w : World) (v : Value) (L : CntL) (a n : Int) (h : SeesC w v L) (hb : CntBd L) (hl : L.length ≤ maxLen) (ha : 0 ≤ a) (ha' : a < 4294967296) (hn0 : -9223372036854775808 ≤ n) (hn1 : n ≤ 9223372036854775807) :
    Calls Try.prog 6 #[v, .int .u32 a, .int .i64 n] w fun e w' => e = .returned (.bool true) ∧ Below w.heap.size w w' := by
  have HOU := Lib.hid (ours_any v L w h (by unfold maxLen at hl; omega))
  have HBT := Lib.hid (hb.take 40)
  have hl2 : (L.take 40).length ≤ 40 := by rw [List.length_take]; omega
  have HAW := Lib.hid (fun w => awake17_any w)
  generalize L.take 40 = M at HOU HBT hl2
  clear h hb hl
  by_cases hbad : rightH M = false ∨ mayC n = false
  · have HBAD := Lib.hid hbad
    clear hbad
    go_enter Try.func6, Try.ntmps6
    go_wp2_with fail
    refine HOU.out.mono ?_; rintro e w1 ⟨v1, rfl, ho1, hb1⟩
    have hs1 := ho1.sees.below (belNew w1 (hnO v1))
    have HB2 := Lib.hid (belAlloc hb1 (hnO v1))
    obtain ⟨ao, c, rfl, -⟩ := ho1.sees
    have HAD := Lib.hid (add_bad (.slice ao M.length c) M a n (w1.alloc (hnO (.slice ao M.length c))) hs1 HBT.out (by omega) HBAD.out)
    clear ho1 hb1 hs1
    go_wp2_with fail
    refine HAD.out.mono ?_; rintro e w3 ⟨rfl, hb3⟩
    have HB3 := Lib.hid (bel HB2.out hb3)
    clear hb3
    go_wp2_with fail
    refine (HAW.out _).mono ?_; rintro e w4 ⟨rfl, hb4⟩
    have HB4 := Lib.hid (belAlloc HB3.out (hnO (.slice none 0 0)))
    have HB5 := Lib.hid (bel HB4.out hb4)
    clear hb4
    go_wp2_with fail
    go_ret
    exact ⟨rfl, HB5.out⟩
  · obtain ⟨hr, hm⟩ : rightH M = true ∧ mayC n = true := by
      cases h1 : rightH M <;> cases h2 : mayC n <;> simp_all
    clear hbad
    have hmn : 0 ≤ n ∧ n ≤ 65535 := by unfold mayC at hm; exact of_decide_eq_true hm
    have hri := (right_iff M).1 hr
    have hbo := ofH_bd (b := a - a % 64) hri.1
    by_cases hf : 65535 < ofH M (a - a % 64) + n
    · have HF := Lib.hid hf
      clear hri hbo hf hmn
      go_enter Try.func6, Try.ntmps6
      go_wp2_with fail
      refine HOU.out.mono ?_; rintro e w1 ⟨v1, rfl, ho1, hb1⟩
      have hs1 := ho1.sees.below (belNew w1 (hnO v1))
      have HB2 := Lib.hid (belAlloc hb1 (hnO v1))
      obtain ⟨ao, c, rfl, -⟩ := ho1.sees
      have HAD := Lib.hid (add_full (.slice ao M.length c) M a n (w1.alloc (hnO (.slice ao M.length c))) hs1 HBT.out (by omega) ha ha' hr hm HF.out)
      clear ho1 hb1 hs1
      go_wp2_with fail
      refine HAD.out.mono ?_; rintro e w3 ⟨rfl, hb3⟩
      have HB3 := Lib.hid (bel HB2.out hb3)
      clear hb3
      go_wp2_with fail
      refine (HAW.out _).mono ?_; rintro e w4 ⟨rfl, hb4⟩
      have HB4 := Lib.hid (belAlloc HB3.out (hnO (.slice none 0 0)))
      have HB5 := Lib.hid (bel HB4.out hb4)
      clear hb4
      go_wp2_with fail
      go_ret
      exact ⟨rfl, HB5.out⟩
    · have hf : ofH M (a - a % 64) + n ≤ 65535 := by omega
      obtain ⟨X, hX⟩ : ∃ X, X = setH M (a - a % 64) (ofH M (a - a % 64) + n) := ⟨_, rfl⟩
      have hbnd : 0 ≤ a - a % 64 ∧ a - a % 64 < 4294967296 ∧ (a - a % 64) % 64 = 0 := by omega
      have hXr : rightH X = true := by rw [hX]; exact setH_right hr hbnd.2.2 (by omega) hf
      have HXB : Hid (CntBd X) := Lib.hid (by rw [hX]; exact set_bd HBT.out hbnd.1 hbnd.2.1 (by omega))
      have hXl : X.length ≤ 41 := by rw [hX]; have := setH_len M (a - a % 64) (ofH M (a - a % 64) + n); omega
      have HBK : Hid (setH X (a - a % 64) (max (ofH X (a - a % 64) - n) 0) = M) := Lib.hid (by
        rw [hX, ofH_set hri.2, setH_set hri.2, show max (ofH M (a - a % 64) + n - n) 0 = ofH M (a - a % 64) from by omega]
        exact setH_self hri.2 (fun p hp => by have := (hri.1 p hp).2.1; omega))
      have HTO : Hid (totalH X = totalH M + n) := Lib.hid (by rw [hX, totalH_set hri.2]; omega)
      have okc : ∀ {Y : CntL}, rightH Y = true → ∀ p ∈ Y, 0 ≤ p.2 ∧ p.2 ≤ 65535 := fun hY p hp => by
        have := (((right_iff _).1 hY).1 p hp)
        unfold CntOk at this
        omega
      have HOX := Lib.hid (okc hXr)
      have HOM := Lib.hid (okc hr)
      have htm := total_bd HOM.out (by omega)
      have hwt : IntKind.i64.wrap (totalH M + n) = totalH M + n := IntWalk.i64_in _ (by omega)
      have HX := Lib.hid hX
      have HSUB := Lib.hid (fun v w1 (h1 : SeesC w1 v X) => sub_any v X a n w1 h1 HXB.out (by omega) ha ha' hXr hm)
      have HF := Lib.hid hf
      clear hX hbnd okc hri hbo hf htm hmn
      go_enter Try.func6, Try.ntmps6
      go_wp2_with fail
      refine HOU.out.mono ?_; rintro e w1 ⟨v1, rfl, ho1, hb1⟩
      have hs1 := ho1.sees.below (belNew w1 (hnO v1))
      have HB2 := Lib.hid (belAlloc hb1 (hnO v1))
      obtain ⟨ao, c, rfl, -⟩ := ho1.sees
      have HAD := Lib.hid (add_any (.slice ao M.length c) M a n (w1.alloc (hnO (.slice ao M.length c))) hs1 HBT.out (by omega) ha ha' hr hm HF.out)
      have c7 := hcell (heap_new w1 (hnO (.slice ao M.length c)))
      have HS1 := Lib.hid hs1
      clear ho1 hb1 hs1
      go_wp2_with fail
      refine HAD.out.mono ?_; rintro e w3 ⟨v3, rfl, ho3, hb3⟩
      rw [← HX.out] at ho3
      obtain ⟨ao3, c3, rfl, -⟩ := ho3.sees
      have c7 := bcell hb3 c7
      have HS3 := Lib.hid (HS1.out.below hb3)
      have HSX := Lib.hid (ho3.sees.below (belNew w3 (hnO (.slice ao3 X.length c3))))
      have HB4 := Lib.hid (bel HB2.out (belAlloc hb3 (hnO (.slice ao3 X.length c3))))
      have c7 := bcell (belNew w3 (hnO (.slice ao3 X.length c3))) c7
      have c8 := hcell (heap_new w3 (hnO (.slice ao3 X.length c3)))
      have HS4 := Lib.hid (HS3.out.below (belNew w3 (hnO (.slice ao3 X.length c3))))
      have HSU := Lib.hid (HSUB.out _ _ HSX.out)
      clear ho3 hb3
      go_wp2_with fail
      refine HSU.out.mono ?_; rintro e w5 ⟨v5, rfl, ho5, hb5⟩
      rw [HBK.out] at ho5
      obtain ⟨ao5, c5, rfl, -⟩ := ho5.sees
      obtain ⟨wz, hwz⟩ : ∃ wz, wz = w5.alloc (hnO (.slice ao5 M.length c5)) := ⟨_, rfl⟩
      have hbz : Below w5.heap.size w5 wz := by rw [hwz]; exact belNew _ _
      have c7 := bcell hbz (bcell hb5 c7)
      have c8 := bcell hbz (bcell hb5 c8)
      have c10 : wz.cell? ⟨w5.heap.size, 0, none⟩ = some (.slice ao5 M.length c5) := by rw [hwz]; exact hcell (heap_new w5 _)
      have HSM1 := Lib.hid ((HS4.out.below hb5).below hbz)
      have HSX1 := Lib.hid ((HSX.out.below hb5).below hbz)
      have HSY1 := Lib.hid (ho5.sees.below hbz)
      have HBZ := Lib.hid (bel HB4.out (bel hb5 hbz))
      have HPY := Lib.hid (fun w9 (hb : Below wz.heap.size wz w9) => plain_any _ M w9 (HSY1.out.below hb) (by omega))
      have HPH := Lib.hid (fun w9 (hb : Below wz.heap.size wz w9) => plain_any _ M w9 (HSM1.out.below hb) (by omega))
      have HTX := Lib.hid (fun w9 (hb : Below wz.heap.size wz w9) => total_any _ X w9 (HSX1.out.below hb) HOX.out (by omega))
      have HTH := Lib.hid (fun w9 (hb : Below wz.heap.size wz w9) => total_any _ M w9 (HSM1.out.below hb) HOM.out (by omega))
      have HSM : Hid (∀ a b w9, SeesC w9 a M → SeesC w9 b M → Calls Try.prog 16 #[a, b] w9 fun e w' => e = .returned (.bool true) ∧ Below w9.heap.size w9 w') := Lib.hid (fun a b w9 h1 h2 => by
        have := same_any a b M M w9 h1 h2 (by omega) (by omega)
        rwa [decide_eq_true (rfl : M = M)] at this)
      rw [HTO.out] at HTX
      have HWZ := Lib.hid hwz
      clear hwz hbz hb5 ho5
      go_upto_region 6 with fail
      change Code.wp _ _ _ _ (w5.alloc (hnO (.slice ao5 M.length c5)))
      rw [← HWZ.out]
      clear HWZ
      refine wp_region_held_drew (S := (fun W => Below wz.heap.size wz W)) (by kernel_rfl) ?_ (fun r0 => ?_)
      · exact ⟨rfl, rfl, rfl, Nat.le_refl _, fun _ _ => rfl⟩
      refine wpAnyH_take (i := 0) (v := ?_) rfl (by kernel_rfl) (by kernel_rfl) (by kernel_rfl) (fun _ _ _ h => h) (Or.inl ⟨by rfl, ?_⟩) (by assumption) ?_
      rotate_left
      · intro wS hSw
        (try dsimp only at hSw)
        go_simp
        first | done | with_reducible rfl
      try simp only [Act.put, List.getElem_toArray, List.getElem_cons_succ, List.getElem_cons_zero, List.setIfInBounds_toArray, List.set_cons_zero, List.set_cons_succ]
      refine wpAnyH_take (i := 1) (v := ?_) rfl (by kernel_rfl) (by kernel_rfl) (by kernel_rfl) (fun _ _ _ h => h) (Or.inl ⟨by rfl, ?_⟩) (by assumption) ?_
      rotate_left
      · intro wS hSw
        (try dsimp only at hSw)
        go_simp
        first | done | with_reducible rfl
      try simp only [Act.put, List.getElem_toArray, List.getElem_cons_succ, List.getElem_cons_zero, List.setIfInBounds_toArray, List.set_cons_zero, List.set_cons_succ]
      refine wpAnyH_take (i := 2) (v := ?_) rfl (by kernel_rfl) (by kernel_rfl) (by kernel_rfl) (fun _ _ _ h => h) (Or.inl ⟨by rfl, ?_⟩) (by assumption) ?_
      rotate_left
      · intro wS hSw
        (try dsimp only at hSw)
        go_simp
        first | done | with_reducible rfl
      try simp only [Act.put, List.getElem_toArray, List.getElem_cons_succ, List.getElem_cons_zero, List.setIfInBounds_toArray, List.set_cons_zero, List.set_cons_succ]
      refine wpAnyH_take (i := 3) (v := ?_) rfl (by kernel_rfl) (by kernel_rfl) (by kernel_rfl) (fun _ _ _ h => h) (Or.inl ⟨by rfl, ?_⟩) (by assumption) ?_
      rotate_left
      · intro wS hSw
        (try dsimp only at hSw)
        have c7 := bcell hSw c7
        have c8 := bcell hSw c8
        have c10 := bcell hSw c10
        go_simp
        first | done | with_reducible rfl
      try simp only [Act.put, List.getElem_toArray, List.getElem_cons_succ, List.getElem_cons_zero, List.setIfInBounds_toArray, List.set_cons_zero, List.set_cons_succ]
      refine wpAnyH_take (i := 5) (v := ?_) rfl (by kernel_rfl) (by kernel_rfl) (by kernel_rfl) (fun _ _ _ h => h) (Or.inl ⟨by rfl, ?_⟩) (by assumption) ?_
      rotate_left
      · intro wS hSw
        (try dsimp only at hSw)
        have c7 := bcell hSw c7
        have c8 := bcell hSw c8
        have c10 := bcell hSw c10
        go_simp
        first | done | with_reducible rfl
      try simp only [Act.put, List.getElem_toArray, List.getElem_cons_succ, List.getElem_cons_zero, List.setIfInBounds_toArray, List.set_cons_zero, List.set_cons_succ]
      refine wpAnyH_ready (rs := [4]) (by kernel_rfl) (by simp) ?_
      refine AllReadyH.cons rfl (fun K hK => ?_) AllReadyH.nil
      go_simp
      refine (HPY.out _ (by assumption)).mono ?_; rintro x wp ⟨v4, rfl, ho4, hb4⟩
      refine hK.out _ _ ?_ (fun r1 => ?_)
      · exact bel r0 hb4
      try simp only [Act.put, List.getElem_toArray, List.getElem_cons_succ, List.getElem_cons_zero, List.setIfInBounds_toArray, List.set_cons_zero, List.set_cons_succ]
      refine wpAnyH_ready (rs := [6]) (by kernel_rfl) (by simp) ?_
      refine AllReadyH.cons rfl (fun K hK => ?_) AllReadyH.nil
      go_simp
      refine (HPH.out _ (by assumption)).mono ?_; rintro x wq ⟨v6, rfl, ho6, hb6⟩
      refine hK.out _ _ ?_ (fun r2 => ?_)
      · exact bel r1 hb6
      try simp only [Act.put, List.getElem_toArray, List.getElem_cons_succ, List.getElem_cons_zero, List.setIfInBounds_toArray, List.set_cons_zero, List.set_cons_succ]
      refine wpAnyH_ready (rs := [7]) (by kernel_rfl) (by simp) ?_
      refine AllReadyH.cons rfl (fun K hK => ?_) AllReadyH.nil
      go_simp
      refine (HSM.out _ _ _ (ho4.sees.below hb6) ho6.sees).mono ?_; rintro x ws ⟨rfl, hb7⟩
      refine hK.out _ _ ?_ (fun r3 => ?_)
      · exact bel r2 hb7
      try simp only [Act.put, List.getElem_toArray, List.getElem_cons_succ, List.getElem_cons_zero, List.setIfInBounds_toArray, List.set_cons_zero, List.set_cons_succ]
      refine wpAnyH_take (i := 8) (v := ?_) rfl (by kernel_rfl) (by kernel_rfl) (by kernel_rfl) (fun _ _ _ h => h) (Or.inl ⟨by rfl, ?_⟩) (by assumption) ?_
      rotate_left
      · intro wS hSw
        (try dsimp only at hSw)
        go_simp
        first | done | with_reducible rfl
      try simp only [Act.put, List.getElem_toArray, List.getElem_cons_succ, List.getElem_cons_zero, List.setIfInBounds_toArray, List.set_cons_zero, List.set_cons_succ]
      refine wpAnyH_take (i := 9) (v := ?_) rfl (by kernel_rfl) (by kernel_rfl) (by kernel_rfl) (fun _ _ _ h => h) (Or.inl ⟨by rfl, ?_⟩) (by assumption) ?_
      rotate_left
      · intro wS hSw
        (try dsimp only at hSw)
        go_simp
        first | done | with_reducible rfl
      try simp only [Act.put, List.getElem_toArray, List.getElem_cons_succ, List.getElem_cons_zero, List.setIfInBounds_toArray, List.set_cons_zero, List.set_cons_succ]
      refine wpAnyH_take (i := 10) (v := ?_) rfl (by kernel_rfl) (by kernel_rfl) (by kernel_rfl) (fun _ _ _ h => h) (Or.inl ⟨by rfl, ?_⟩) (by assumption) ?_
      rotate_left
      · intro wS hSw
        (try dsimp only at hSw)
        have c7 := bcell hSw c7
        have c8 := bcell hSw c8
        have c10 := bcell hSw c10
        go_simp
        first | done | with_reducible rfl
      try simp only [Act.put, List.getElem_toArray, List.getElem_cons_succ, List.getElem_cons_zero, List.setIfInBounds_toArray, List.set_cons_zero, List.set_cons_succ]
      refine wpAnyH_take (i := 12) (v := ?_) rfl (by kernel_rfl) (by kernel_rfl) (by kernel_rfl) (fun _ _ _ h => h) (Or.inl ⟨by rfl, ?_⟩) (by assumption) ?_
      rotate_left
      · intro wS hSw
        (try dsimp only at hSw)
        have c7 := bcell hSw c7
        have c8 := bcell hSw c8
        have c10 := bcell hSw c10
        go_simp
        first | done | with_reducible rfl
      try simp only [Act.put, List.getElem_toArray, List.getElem_cons_succ, List.getElem_cons_zero, List.setIfInBounds_toArray, List.set_cons_zero, List.set_cons_succ]
      refine wpAnyH_take (i := 14) (v := ?_) rfl (by kernel_rfl) (by kernel_rfl) (by kernel_rfl) (fun _ _ _ h => h) (Or.inl ⟨by rfl, ?_⟩) (by assumption) ?_
      rotate_left
      · intro wS hSw
        (try dsimp only at hSw)
        go_simp
        first | done | with_reducible rfl
      try simp only [Act.put, List.getElem_toArray, List.getElem_cons_succ, List.getElem_cons_zero, List.setIfInBounds_toArray, List.set_cons_zero, List.set_cons_succ]
      refine wpAnyH_ready (rs := [11]) (by kernel_rfl) (by simp) ?_
      refine AllReadyH.cons rfl (fun K hK => ?_) AllReadyH.nil
      go_simp
      refine (HTX.out _ (by assumption)).mono ?_; rintro x wt ⟨rfl, hb11⟩
      refine hK.out _ _ ?_ (fun r4 => ?_)
      · exact bel r3 hb11
      try simp only [Act.put, List.getElem_toArray, List.getElem_cons_succ, List.getElem_cons_zero, List.setIfInBounds_toArray, List.set_cons_zero, List.set_cons_succ]
      refine wpAnyH_ready (rs := [13]) (by kernel_rfl) (by simp) ?_
      refine AllReadyH.cons rfl (fun K hK => ?_) AllReadyH.nil
      go_simp
      refine (HTH.out _ (by assumption)).mono ?_; rintro x wu ⟨rfl, hb13⟩
      refine hK.out _ _ ?_ (fun r5 => ?_)
      · exact bel r4 hb13
      try simp only [Act.put, List.getElem_toArray, List.getElem_cons_succ, List.getElem_cons_zero, List.setIfInBounds_toArray, List.set_cons_zero, List.set_cons_succ]
      refine wpAnyH_take (i := 15) (v := ?_) rfl (by kernel_rfl) (by kernel_rfl) (by kernel_rfl) (fun _ _ _ h => h) (Or.inl ⟨by rfl, ?_⟩) (by assumption) ?_
      rotate_left
      · intro wS hSw
        (try dsimp only at hSw)
        go_simp
        first | done | with_reducible rfl
      try simp only [Act.put, List.getElem_toArray, List.getElem_cons_succ, List.getElem_cons_zero, List.setIfInBounds_toArray, List.set_cons_zero, List.set_cons_succ]
      refine wpAnyH_take (i := 16) (v := ?_) rfl (by kernel_rfl) (by kernel_rfl) (by kernel_rfl) (fun _ _ _ h => h) (Or.inl ⟨by rfl, ?_⟩) (by assumption) ?_
      rotate_left
      · intro wS hSw
        (try dsimp only at hSw)
        go_simp
        first | done | with_reducible rfl
      try simp only [Act.put, List.getElem_toArray, List.getElem_cons_succ, List.getElem_cons_zero, List.setIfInBounds_toArray, List.set_cons_zero, List.set_cons_succ]
      refine wpAnyH_take (i := 17) (v := ?_) rfl (by kernel_rfl) (by kernel_rfl) (by kernel_rfl) (fun _ _ _ h => h) (Or.inl ⟨by rfl, ?_⟩) (by assumption) ?_
      rotate_left
      · intro wS hSw
        (try dsimp only at hSw)
        go_simp
        first | done | with_reducible rfl
      try simp only [Act.put, List.getElem_toArray, List.getElem_cons_succ, List.getElem_cons_zero, List.setIfInBounds_toArray, List.set_cons_zero, List.set_cons_succ]
      refine wpAnyH_take (i := 18) (v := ?_) rfl (by kernel_rfl) (by kernel_rfl) (by kernel_rfl) (fun _ _ _ h => h) (Or.inl ⟨by rfl, ?_⟩) (by assumption) ?_
      rotate_left
      · intro wS hSw
        (try dsimp only at hSw)
        go_simp
        first | done | with_reducible rfl
      try simp only [Act.put, List.getElem_toArray, List.getElem_cons_succ, List.getElem_cons_zero, List.setIfInBounds_toArray, List.set_cons_zero, List.set_cons_succ]
      refine wpAnyH_ready (rs := [19]) (by kernel_rfl) (by simp) ?_
      refine AllReadyH.cons rfl (fun K hK => ?_) AllReadyH.nil
      go_simp
      refine (HAW.out _).mono ?_; rintro x wv ⟨rfl, hb19⟩
      refine hK.out _ _ ?_ (fun r6 => ?_)
      · exact bel r5 hb19
      try simp only [Act.put, List.getElem_toArray, List.getElem_cons_succ, List.getElem_cons_zero, List.setIfInBounds_toArray, List.set_cons_zero, List.set_cons_succ]
      refine wpAnyH_take (i := 20) (v := ?_) rfl (by kernel_rfl) (by kernel_rfl) (by kernel_rfl) (fun _ _ _ h => h) (Or.inl ⟨by rfl, ?_⟩) (by assumption) ?_
      rotate_left
      · intro wS hSw
        (try dsimp only at hSw)
        go_simp
        first | done | with_reducible rfl
      try simp only [Act.put, List.getElem_toArray, List.getElem_cons_succ, List.getElem_cons_zero, List.setIfInBounds_toArray, List.set_cons_zero, List.set_cons_succ]
      refine wpAnyH_take (i := 21) (v := ?_) rfl (by kernel_rfl) (by kernel_rfl) (by kernel_rfl) (fun _ _ _ h => h) (Or.inl ⟨by rfl, ?_⟩) (by assumption) ?_
      rotate_left
      · intro wS hSw
        (try dsimp only at hSw)
        go_simp
        first | done | with_reducible rfl
      try simp only [Act.put, List.getElem_toArray, List.getElem_cons_succ, List.getElem_cons_zero, List.setIfInBounds_toArray, List.set_cons_zero, List.set_cons_succ]
      refine wpAnyH_done (by kernel_rfl) ?_ _
      have HBL := Lib.hid (bel HBZ.out r6)
      clear c7 c8 c10
      go_wp2_with fail
      go_ret
      exact ⟨rfl, HBL.out⟩
end Go.Proofs.Ytcgkambkfaeceaa
