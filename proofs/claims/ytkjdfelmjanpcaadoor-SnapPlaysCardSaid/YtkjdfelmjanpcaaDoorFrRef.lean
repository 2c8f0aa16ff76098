/- The reference of package frame: what its Put and Next come to. Conditions: bytes are bytes; the bounds said of each. -/
import Derived.Test.YtkjdfelmjanpcaaDoorFrNext
namespace Go.Proofs.YtkjdfelmjanpcaaDoor
open Go.RowKit
set_option maxHeartbeats 1000000 in
theorem rput_any (v : Value) (p : List Int) (w : World) (h : Sees w v p) (hok : okB p) (h2 : p.length ≤ 1048576) :
    Calls Tryd.prog 78 #[v] w fun e w' => ∃ v', e = .returned v' ∧ Owns w' w.heap.size v' (frameL p) ∧ Below w.heap.size w w' := by
  have H := Lib.hid h
  obtain ⟨ao, c, rfl, hlc, hnil, hc⟩ := h
  have s0 : IntKind.u64.wrap (p.length : Int) = p.length := IntWalk.u64_in _ (by omega)
  have o1 := ofN_lt hok
  have s1 : IntKind.u64.wrap ((ofN p : Nat) : Int) = (ofN p : Nat) := IntWalk.u64_in _ (by omega)
  have HO := Lib.hid hok
  have ho0 : Owns (w.alloc (.cells #[] 5)) w.heap.size (.slice (some ⟨w.heap.size, 0, none⟩) ([] : List Int).length 0) [] := World.ownsRow_made w #[] 0 (Nat.le_refl _) (Nat.zero_le _) rfl
  have HO0 := Lib.hid ho0
  have HB0 := Lib.hid (belNew w (.cells #[] 5))
  have L4 := Lib.hid putL4_len
  clear hc hok ho0
  go_enter Tryd.func78, Tryd.ntmps78
  go_wp2_with fail
  refine (refPut_any p.length 4 _ (by omega) (by omega)).mono ?_; rintro e w1 ⟨v1, rfl, ho1, hb1⟩
  have hb1' := bel HB0.out hb1
  have hoA := HO0.out.keep hb1
  have hz1 := hb1'.size
  have hl1 := L4.out p.length
  have HL1 := Lib.hid hl1
  clear hl1
  go_wp2_with (first | (at_builtin; refine wpList_append_sees rfl (.tmp 4) (.tmp 8) rfl w.heap.size w.heap.size 0 [] _ v1 rfl rfl hoA ho1.sees (by rw [HL1.out]; simp) (by omega) ?_; intro g1 c1 w2 ho2 hg2) | fail)
  rw [List.nil_append] at ho2
  have hb2 := hb1'.grown hg2 hz1 (fun k hk => by cases hk; exact Nat.le_refl _)
  refine (refOf_any _ p _ (H.out.keep hb2) HO.out (by omega)).mono ?_; rintro e w' ⟨rfl, rfl⟩
  go_wp2_with fail
  refine (refPut_any (ofN p : Nat) 4 _ (by omega) (by omega)).mono ?_; rintro e w3 ⟨v3, rfl, ho3, hb3⟩
  have hb3' := bel hb2 hb3
  have hoB := ho2.keep hb3
  have hgB := (ho2.lt g1 rfl).2
  have hz3 := hb3'.size
  have HL2 := Lib.hid (L4.out (ofN p : Nat))
  have HK := Lib.hid (H.out.keep hb3')
  go_wp2_with (first
    | (at_builtin; refine wpList_append_sees rfl (.tmp 10) (.tmp 14) rfl w.heap.size g1 c1 _ _ v3 rfl rfl hoB ho3.sees (by rw [HL1.out, HL2.out]; omega) (by omega) ?_; intro g2 c2 w4 ho4 hg4; have hb4 := hb3'.grown hg4 hz3 (fun k hk => by cases hk; exact (hoB.lt g1 rfl).1); have hz4 := hb4.size; obtain ⟨L2, hL2⟩ : ∃ L2, L2 = putL p.length 4 ++ putL (ofN p : Nat) 4 := ⟨_, rfl⟩; rw [← hL2] at ho4 ⊢; have HLL := Lib.hid hL2; have hLl : L2.length = 8 := (by rw [hL2, List.length_append, HL1.out, HL2.out]); have HLl := Lib.hid hLl; clear hL2 hLl)
    | (at_builtin; refine wpList_append_sees rfl (.tmp 16) (.tmp 17) rfl w.heap.size g2 c2 _ p (.slice ao p.length c) rfl rfl ho4 (H.out.keep hb4) (by rw [HLl.out]; omega) (by omega) ?_; intro g3 c3 w5 ho5 hg5) | fail)
  go_ret
  have hf : frameL p = L2 ++ p := by rw [HLL.out]; rfl
  rw [List.length_append] at ho5
  rw [hf]
  exact ⟨_, rfl, ho5, hb4.grown hg5 hz4 (fun k hk => by cases hk; exact (ho4.lt g2 rfl).1)⟩
theorem slice_lh {ao : Option Addr} {n c i j : Nat} (k kk : Int) (hk : k = i) (hkk : kk = j) (hij : i ≤ j) (hj : j ≤ c) : ∃ ao', (ao' = ao.map (fun x => x.add i) ∨ c = i ∧ ao' = ao) ∧
    ∀ w, (Instr.sliceAt 32 (.slice ao n c) (some (.int .i64 k)) (some (.int .i64 kk)) none).run Tryd.prog w = .ok (.slice ao' (j - i) (c - i)) w := by
  subst hk hkk
  by_cases h : c = i
  · refine ⟨ao, Or.inr ⟨h, rfl⟩, fun w => ?_⟩
    obtain rfl : i = j := by omega
    simp [go_sem, Tryd.underlying32, h]
  · refine ⟨_, Or.inl rfl, fun w => ?_⟩
    simp [go_sem, Tryd.underlying32, hij, hj, h]
set_option maxHeartbeats 2000000 in
theorem rnext_any (v : Value) (l : List Int) (k : Nat) (w : World) (h : Sees w v l) (hok : okB l) (hl : l.length ≤ 100000000000000) (hk : k ≤ l.length) :
    Calls Tryd.prog 55 #[v, .int .i64 k] w fun e w' => ∃ v', e = .returned (.tuple #[v', .int .i64 (nextE (l.drop k))]) ∧ Sees w v' (nextP (l.drop k)) ∧ (∀ d, v'.ownBlock = some d → v.ownBlock = some d) ∧ w = w' := by
  have H := Lib.hid h
  obtain ⟨ao, c, rfl, hlc, hnil, hc⟩ := h
  have HO := Lib.hid hok
  obtain ⟨m, hm⟩ : ∃ m, l.length = k + m := ⟨l.length - k, by omega⟩
  obtain ⟨D, hD⟩ : ∃ D, D = l.drop k := ⟨_, rfl⟩
  have hDl : D.length = m := by rw [hD, List.length_drop]; omega
  have hDo : okB D := by rw [hD]; exact hok.drop k
  rw [← hD]
  clear hc
  have s0 : IntKind.i64.wrap ((l.length : Int) - k) = m := by rw [show (l.length : Int) - k = m from by omega]; exact IntWalk.i64_in _ (by omega)
  by_cases h0 : m = 0
  · have d0 : ((m : Int) == 0) = true := by simpa using h0
    have E1 : Hid (nextE D = 6) := Lib.hid (by unfold nextE; rw [if_pos (by omega)])
    have E2 := Lib.hid (next_bad E1.out (by decide))
    clear hm hDl hDo hD h0
    go_enter Tryd.func55, Tryd.ntmps55
    go_wp2_with fail
    go_ret2
    rw [E1.out, E2.out.1]
    exact ⟨_, rfl, Sees.nil _, (fun d h => by cases h), rfl⟩
  · have d0 : ((m : Int) == 0) = false := by simpa using h0
    by_cases h8 : m < 8
    · have d1 : decide ((m : Int) < 8) = true := by simp; omega
      have E1 : Hid (nextE D = 4) := Lib.hid (by unfold nextE; rw [if_neg (by omega), if_pos (by omega)])
      have E2 := Lib.hid (next_bad E1.out (by decide))
      clear hm hDl hDo hD h0
      go_enter Tryd.func55, Tryd.ntmps55
      go_wp2_with fail
      go_ret2
      rw [E1.out, E2.out.1]
      exact ⟨_, rfl, Sees.nil _, (fun d h => by cases h), rfl⟩
    · have d1 : decide ((m : Int) < 8) = false := by simp; omega
      obtain ⟨hC, hC'⟩ := cnt_cast hDo
      obtain ⟨x0, x1⟩ := numBE4 (l := (D.drop 4).take 4) ((hDo.drop 4).take 4) (by rw [List.length_take]; omega)
      obtain ⟨a1, h1, S1⟩ := slice_lh (ao := ao) (n := l.length) (c := c) (i := k) (j := k + 4) (k : Int) ((k : Int) + 4) rfl (by omega) (by omega) (by omega)
      obtain ⟨a2, h2, S2⟩ := slice_lh (ao := ao) (n := l.length) (c := c) (i := k + 4) (j := k + 8) ((k : Int) + 4) ((k : Int) + 8) (by omega) (by omega) (by omega) (by omega)
      rw [show k + 4 - k = 4 from by omega] at S1
      rw [show k + 8 - (k + 4) = 4 from by omega] at S2
      have P1 := (sees_piece H.out (i := k) (n := 4) (by omega) a1 h1).1
      have P2 := (sees_piece H.out (i := k + 4) (n := 4) (by omega) a2 h2).1
      rw [← hD] at P1
      rw [← List.drop_drop, ← hD] at P2
      have HN1 := Lib.hid (refNumB_any _ _ w P1 (hDo.take 4) (by rw [List.length_take]; omega))
      have HN2 := Lib.hid (refNumB_any _ _ w P2 ((hDo.drop 4).take 4) (by rw [List.length_take]; omega))
      have HE : Hid (nextE D = if cntL D = 0 ∨ 1048576 < cntL D then 3 else if m - 8 < cntL D then 4 else if numBE ((D.drop 4).take 4) = ofN (recL D) then 0 else 5) := Lib.hid (by unfold nextE; rw [if_neg (by omega), if_neg (by omega), hDl])
      have HRo := Lib.hid (show okB (recL D) from (hDo.drop 8).take _)
      have HRe : Hid (recL D = (l.drop (k + 8)).take (cntL D)) := Lib.hid (by unfold recL; rw [hD, List.drop_drop])
      have HRl : Hid (cntL D ≤ m - 8 → (recL D).length = cntL D) := Lib.hid fun hh => by unfold recL; rw [List.length_take, List.length_drop]; omega
      have o1 := ofN_lt HRo.out
      rw [hC] at HN1
      obtain ⟨C, hCe⟩ : ∃ C, C = cntL D := ⟨_, rfl⟩
      obtain ⟨X, hX⟩ : ∃ X, X = numBE ((D.drop 4).take 4) := ⟨_, rfl⟩
      rw [← hCe] at HN1 HE HRe HRl hC'
      rw [← hX] at HN2 HE x0 x1
      have HCe := Lib.hid hCe
      clear hC h1 h2 hCe hX hDo P1 P2 hok
      have HD := Lib.hid (And.intro hD hDl)
      have HM := Lib.hid hm
      have q1 : k + m = l.length := hm.symm
      clear hD hDl hm
      have s1 : IntKind.i64.wrap ((k : Int) + 4) = k + 4 := IntWalk.i64_in _ (by omega)
      have s2 : IntKind.i64.wrap ((k : Int) + 8) = k + 8 := IntWalk.i64_in _ (by omega)
      have s3 : IntKind.i64.wrap (C : Int) = C := IntWalk.i64_in _ (by omega)
      have s4 : IntKind.i64.wrap ((m : Int) - 8) = m - 8 := IntWalk.i64_in _ (by omega)
      have s5 : IntKind.i64.wrap ((k : Int) + 8 + C) = k + 8 + C := IntWalk.i64_in _ (by omega)
      have s6 : IntKind.u64.wrap ((ofN (recL D) : Nat) : Int) = (ofN (recL D) : Nat) := IntWalk.u64_in _ (by omega)
      by_cases g0 : C = 0 ∨ 1048576 < C
      · have E1 := HE.out
        rw [if_pos g0] at E1
        have E2 := Lib.hid (next_bad E1 (by decide))
        have E1 := Lib.hid E1
        have Q1 := Lib.hid q1
        clear q1
        rcases g0 with g0 | g0
        · have d2 : ((C : Int) == 0) = true := by simpa using g0
          clear g0
          go_enter Tryd.func55, Tryd.ntmps55
          go_wp2_with fail
          refine HN1.out.mono ?_; rintro e w' ⟨rfl, rfl⟩
          go_wp2_with fail
          go_ret2
          rw [E1.out, E2.out.1]
          exact ⟨_, rfl, Sees.nil _, (fun d h => by cases h), rfl⟩
        · have d2 : ((C : Int) == 0) = false := by simp; omega
          have d3 : decide (1048576 < (C : Int)) = true := by simp; omega
          have d4 : decide (1048576 < C) = true := by simp; omega
          clear g0
          go_enter Tryd.func55, Tryd.ntmps55
          go_wp2_with fail
          refine HN1.out.mono ?_; rintro e w' ⟨rfl, rfl⟩
          go_wp2_with fail
          go_ret2
          rw [E1.out, E2.out.1]
          exact ⟨_, rfl, Sees.nil _, (fun d h => by cases h), rfl⟩
      · have E1 := HE.out
        rw [if_neg g0] at E1
        have d2 : ((C : Int) == 0) = false := by simp; omega
        have d3 : decide (1048576 < (C : Int)) = false := by simp; omega
        by_cases g1 : m - 8 < C
        · rw [if_pos g1] at E1
          have E2 := Lib.hid (next_bad E1 (by decide))
          have E1 := Lib.hid E1
          have d4 : decide ((m : Int) - 8 < (C : Int)) = true := by simp; omega
          have Q1 := Lib.hid q1
          clear q1 g0 g1
          go_enter Tryd.func55, Tryd.ntmps55
          go_wp2_with fail
          refine HN1.out.mono ?_; rintro e w' ⟨rfl, rfl⟩
          go_wp2_with fail
          go_ret2
          rw [E1.out, E2.out.1]
          exact ⟨_, rfl, Sees.nil _, (fun d h => by cases h), rfl⟩
        · rw [if_neg g1] at E1
          have d4 : decide ((m : Int) - 8 < (C : Int)) = false := by simp; omega
          obtain ⟨a3, h3, S3⟩ := slice_lh (ao := ao) (n := l.length) (c := c) (i := k + 8) (j := k + 8 + C) ((k : Int) + 8) ((k : Int) + 8 + C) (by omega) (by omega) (by omega) (by omega)
          rw [show k + 8 + C - (k + 8) = C from by omega] at S3
          have P3 := (sees_piece H.out (i := k + 8) (n := C) (by omega) a3 h3)
          rw [← HRe.out] at P3
          have HL := Lib.hid (HRl.out (by omega))
          have HO3 := Lib.hid (refOf_any _ (recL D) w P3.1 HRo.out (by rw [HL.out]; omega))
          have P3 := Lib.hid P3
          have Q1 := Lib.hid q1
          clear q1 g0 g1 h3
          by_cases hx : X = ofN (recL D)
          · have e1 : (X != ((ofN (recL D) : Nat) : Int)) = false := by simp [hx]
            rw [if_pos hx] at E1
            have HX := Lib.hid hx
            have E2 : Hid (nextP D = recL D) := Lib.hid (by unfold nextP; rw [E1]; rfl)
            have E1 := Lib.hid E1
            clear hx
            go_enter Tryd.func55, Tryd.ntmps55
            go_wp2_with fail
            refine HN1.out.mono ?_; rintro e w' ⟨rfl, rfl⟩
            go_wp2_with fail
            refine HN2.out.mono ?_; rintro e w' ⟨rfl, rfl⟩
            go_wp2_with fail
            refine HO3.out.mono ?_; rintro e w' ⟨rfl, rfl⟩
            go_wp2_with fail
            go_ret2
            rw [E1.out, E2.out]
            exact ⟨_, rfl, P3.out.1, P3.out.2, rfl⟩
          · have e1 : (X != ((ofN (recL D) : Nat) : Int)) = true := by simpa using hx
            rw [if_neg hx] at E1
            have E2 := Lib.hid (next_bad E1 (by decide))
            have E1 := Lib.hid E1
            have HX := Lib.hid hx
            clear hx
            go_enter Tryd.func55, Tryd.ntmps55
            go_wp2_with fail
            refine HN1.out.mono ?_; rintro e w' ⟨rfl, rfl⟩
            go_wp2_with fail
            refine HN2.out.mono ?_; rintro e w' ⟨rfl, rfl⟩
            go_wp2_with fail
            refine HO3.out.mono ?_; rintro e w' ⟨rfl, rfl⟩
            go_wp2_with fail
            go_ret2
            rw [E1.out, E2.out.1]
            exact ⟨_, rfl, Sees.nil _, (fun d h => by cases h), rfl⟩
end Go.Proofs.YtkjdfelmjanpcaaDoor
