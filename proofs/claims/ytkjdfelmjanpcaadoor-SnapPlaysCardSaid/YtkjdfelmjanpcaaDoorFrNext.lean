/- Package frame: what Next comes to, and the reference's Put and Next. Conditions: the world facts of Env; bytes are bytes; the bounds said of each. -/
import Derived.Test.YtkjdfelmjanpcaaDoorFr
namespace Go.Proofs.YtkjdfelmjanpcaaDoor
open Go.RowKit
/-- How many bytes the record at the beginning of l says that it has; these; and what is told of l. -/
def cntL (l : List Int) : Nat := (numBE (l.take 4)).toNat
def recL (l : List Int) : List Int := (l.drop 8).take (cntL l)
def nextE (l : List Int) : Nat := if l.length = 0 then 6 else if l.length < 8 then 4 else if cntL l = 0 ∨ 1048576 < cntL l then 3 else if l.length - 8 < cntL l then 4 else if numBE ((l.drop 4).take 4) = ofN (recL l) then 0 else 5
def nextP (l : List Int) : List Int := if nextE l = 0 then recL l else []
def nextN (l : List Int) : Nat := if nextE l = 0 then 8 + (recL l).length else 0
theorem numBE4 {l : List Int} (h : okB l) (hl : l.length ≤ 4) : 0 ≤ numBE l ∧ numBE l < 4294967296 := by
  obtain ⟨a, b⟩ := numBE_bd l h
  refine ⟨a, Int.lt_of_lt_of_le b ?_⟩
  have h1 : (256 : Nat) ^ l.length ≤ 256 ^ 4 := Nat.pow_le_pow_right (by omega) hl
  have h2 : ((256 ^ l.length : Nat) : Int) ≤ ((256 ^ 4 : Nat) : Int) := Int.ofNat_le.2 h1
  rw [Int.natCast_pow] at h2
  simpa using h2
theorem cnt_cast {l : List Int} (h : okB l) : numBE (l.take 4) = (cntL l : Int) ∧ cntL l < 4294967296 := by
  obtain ⟨a, b⟩ := numBE4 (h.take 4) (by rw [List.length_take]; omega)
  unfold cntL
  omega
theorem rd8a {l : List Int} (h : 8 ≤ l.length) : rdU (some (l.take 8)) 4 = (numBE (l.take 4), some ((l.take 8).drop 4)) := by
  have e : rdB (some (l.take 8)) ((4 : Nat) : Int) = ((l.take 8).take 4, some ((l.take 8).drop 4)) := rdB_yes (by rw [List.length_take]; omega)
  unfold rdU
  rw [if_pos (by decide), show (4 : Int) = ((4 : Nat) : Int) from rfl, e, List.take_take]
  rfl
theorem rd8b {l : List Int} (h : 8 ≤ l.length) : rdU (some ((l.take 8).drop 4)) 4 = (numBE ((l.drop 4).take 4), some []) := by
  have e0 : (l.take 8).drop 4 = (l.drop 4).take 4 := by rw [List.drop_take]
  have e : rdB (some ((l.drop 4).take 4)) ((4 : Nat) : Int) = (((l.drop 4).take 4).take 4, some (((l.drop 4).take 4).drop 4)) := rdB_yes (by rw [List.length_take, List.length_drop]; omega)
  unfold rdU
  rw [if_pos (by decide), e0, show (4 : Int) = ((4 : Nat) : Int) from rfl, e, List.take_take, List.drop_take]
  simp
theorem slice_lo {ao : Option Addr} {n c i : Nat} (k : Int) (hk : k = i) (hi : i ≤ n) : ∃ ao', (ao' = ao.map (fun x => x.add i) ∨ c = i ∧ ao' = ao) ∧
    ∀ w, (Instr.sliceAt 32 (.slice ao n c) (some (.int .i64 k)) none none).run Tryd.prog w = .ok (.slice ao' (n - i) (c - i)) w := by
  subst hk
  by_cases h : c = i
  · refine ⟨ao, Or.inr ⟨h, rfl⟩, fun w => ?_⟩
    simp [go_sem, Tryd.underlying32, hi, h]
  · refine ⟨_, Or.inl rfl, fun w => ?_⟩
    simp [go_sem, Tryd.underlying32, hi, h]
theorem sees_head {w : World} {ao : Option Addr} {c : Nat} {xs : List Int} (h : Sees w (.slice ao xs.length c) xs) {n : Nat} (hn : n ≤ xs.length) : Sees w (.slice ao n c) (xs.take n) := by
  obtain ⟨ao0, c0, he, hlc, hnil, hc⟩ := h
  cases he
  have e : (xs.take n).length = n := by rw [List.length_take]; omega
  refine ⟨ao, c, by rw [e], by omega, fun h => by rw [hnil h]; exact List.take_nil, fun a ha i hi => ?_⟩
  rw [e] at hi
  rw [hc a ha i (by omega)]
  simp only [List.getD, List.getElem?_take, if_pos hi]
theorem next_bad {l : List Int} {e : Nat} (h : nextE l = e) (he : e ≠ 0) : nextP l = [] ∧ nextN l = 0 := by
  unfold nextP nextN
  rw [h, if_neg he, if_neg he]
  exact ⟨rfl, rfl⟩
set_option maxHeartbeats 1000000 in
theorem next_any (v : Value) (l : List Int) (w : World) (h : Sees w v l) (hok : okB l) (hl : l.length ≤ 100000000000000) (hE : Env w) :
    Calls Tryd.prog 80 #[v] w fun e w' => ∃ v', e = .returned (.tuple #[v', .int .i64 (nextN l), .int .i64 (nextE l)]) ∧ Owns w' w.heap.size v' (nextP l) ∧ Below w.heap.size w w' := by
  have H := Lib.hid h
  obtain ⟨ao, c, rfl, hlc, hnil, hc⟩ := h
  have HO := Lib.hid hok
  clear hc
  by_cases h0 : l.length = 0
  · have d0 : (((l.length : Nat) : Int) == 0) = true := by simp [h0]
    have d1 : l = [] := List.eq_nil_of_length_eq_zero h0
    clear hok
    subst d1
    go_enter Tryd.func80, Tryd.ntmps80
    go_wp2_with fail
    go_ret3
    exact ⟨_, rfl, Owns.nil _ _, Below.refl _ _⟩
  · have d0 : (((l.length : Nat) : Int) == 0) = false := by simpa using h0
    by_cases h8 : l.length < 8
    · have d1 : decide (((l.length : Nat) : Int) < 8) = true := by simp; omega
      have e1 : Hid (nextE l = 4) := Lib.hid (by unfold nextE; rw [if_neg h0, if_pos h8])
      have e2 : Hid (nextP l = [] ∧ nextN l = 0) := Lib.hid (by unfold nextP nextN; rw [e1.out]; exact ⟨rfl, rfl⟩)
      clear hok
      go_enter Tryd.func80, Tryd.ntmps80
      go_wp2_with fail
      go_ret3
      rw [e1.out, e2.out.1, e2.out.2]
      exact ⟨_, rfl, Owns.nil _ _, Below.refl _ _⟩
    · have d1 : decide (((l.length : Nat) : Int) < 8) = false := by simp; omega
      have hN := Lib.hid (new_any (.slice ao 8 c) (l.take 8) w (sees_head H.out (by omega)) (hok.take 8) (by rw [List.length_take]; omega))
      obtain ⟨hC, hC'⟩ := cnt_cast hok
      obtain ⟨x0, x1⟩ := numBE4 (l := (l.drop 4).take 4) ((hok.drop 4).take 4) (by rw [List.length_take]; omega)
      have HA := Lib.hid (rd8a (l := l) (by omega))
      have HB := Lib.hid (rd8b (l := l) (by omega))
      rw [hC] at HA
      obtain ⟨ao', h', S8⟩ := slice_lo (ao := ao) (n := l.length) (c := c) (i := 8) 8 rfl (by omega)
      have HE : Hid (nextE l = if cntL l = 0 ∨ 1048576 < cntL l then 3 else if l.length - 8 < cntL l then 4 else if numBE ((l.drop 4).take 4) = ofN (recL l) then 0 else 5) := Lib.hid (by unfold nextE; rw [if_neg h0, if_neg h8])
      have HP : Hid (cntL l ≤ l.length - 8 → Sees w (.slice ao' (cntL l) (c - 8)) (recL l)) := Lib.hid fun hh => (sees_piece H.out (i := 8) (n := cntL l) (by omega) ao' h').1
      have HRl : Hid (cntL l ≤ l.length - 8 → (recL l).length = cntL l) := Lib.hid fun hh => by unfold recL; rw [List.length_take, List.length_drop]; omega
      have HRo := Lib.hid (show okB (recL l) from (hok.drop 8).take _)
      have o1 := ofN_lt HRo.out
      obtain ⟨C, hCe⟩ : ∃ C, C = cntL l := ⟨_, rfl⟩
      obtain ⟨X, hX⟩ : ∃ X, X = numBE ((l.drop 4).take 4) := ⟨_, rfl⟩
      rw [← hCe] at HA HE HP HRl hC'
      rw [← hX] at HB HE x0 x1
      have HCe := Lib.hid hCe
      clear hok hC h' hCe hX
      have s8 : IntKind.u64.wrap ((l.length - 8 : Nat) : Int) = (l.length - 8 : Nat) := IntWalk.u64_in _ (by omega)
      have s9 : IntKind.i64.wrap (8 + (C : Int)) = 8 + C := IntWalk.i64_in _ (by omega)
      have s10 : IntKind.u64.wrap ((ofN (recL l) : Nat) : Int) = (ofN (recL l) : Nat) := IntWalk.u64_in _ (by omega)
      go_enter Tryd.func80, Tryd.ntmps80
      go_wp2_with fail
      refine hN.out.mono ?_; rintro e w1 ⟨g, rfl, hr1, hg, hb1⟩
      go_wp2_with fail
      refine (u_any g g _ 4 _ hr1).mono ?_; rintro e w2 ⟨he, hr2, hg2⟩
      rw [HA.out] at he hr2
      subst he
      dsimp only at hr2
      have hb2 := hb1.grown hg2 hb1.size (fun k hk => by cases hk; exact hg)
      go_wp2_with fail
      refine (u_any g g _ 4 _ hr2).mono ?_; rintro e w3 ⟨he, hr3, hg3⟩
      rw [HB.out] at he
      subst he
      have hb3 := hb2.grown hg3 hb2.size (fun k hk => by cases hk; exact hg)
      dsimp only
      clear hr1 hr2 hr3 hg2 hg3 hb1 hb2
      go_wp2_with fail
      · have hh : C = 0 := by assumption
        have e1 := HE.out
        rw [if_pos (Or.inl hh)] at e1
        obtain ⟨e2, e3⟩ := next_bad e1 (by decide)
        go_ret3
        rw [e1, e2, e3]
        exact ⟨_, rfl, Owns.nil _ _, hb3⟩
      · have hh : 1048576 < C := by
          have g1 : ¬ C = 0 := by assumption
          have g2 : ((C : Int) == 0) = true ∨ (1048576 : Int) < C := by assumption
          rcases g2 with g2 | g2
          · exact absurd (by simpa using g2) g1
          · omega
        have e1 := HE.out
        rw [if_pos (Or.inr hh)] at e1
        obtain ⟨e2, e3⟩ := next_bad e1 (by decide)
        go_ret3
        rw [e1, e2, e3]
        exact ⟨_, rfl, Owns.nil _ _, hb3⟩
      · have g1 : ¬ C = 0 := by assumption
        have g2 : C ≤ 1048576 := by
          have g2 : ((C : Int) == 0) = false ∧ (C : Int) ≤ 1048576 := by assumption
          omega
        have hh : l.length - 8 < C := by omega
        have e1 := HE.out
        rw [if_neg (by omega), if_pos hh] at e1
        obtain ⟨e2, e3⟩ := next_bad e1 (by decide)
        go_ret3
        rw [e1, e2, e3]
        exact ⟨_, rfl, Owns.nil _ _, hb3⟩
      · have g1 : ¬ C = 0 := by assumption
        have g2 : C ≤ 1048576 := by
          have g2 : ((C : Int) == 0) = false ∧ (C : Int) ≤ 1048576 := by assumption
          omega
        have g3 : C ≤ l.length - 8 := by omega
        have k1 := (HP.out g3).keep hb3
        have k2 := HRl.out g3
        have KE := Lib.hid HE.out
        rw [if_neg (by omega), if_neg (by omega)] at KE
        refine (of_any _ (recL l) _ k1 HRo.out (by omega) (hE.below hb3)).mono ?_; rintro e w' ⟨rfl, rfl⟩
        have K2 := Lib.hid k2
        clear k2
        by_cases hx : X = ofN (recL l)
        · have q1 : (((ofN (recL l) : Nat) : Int) != X) = false := by simp [hx]
          rw [if_pos hx] at KE
          have HX := Lib.hid hx
          clear hx
          go_wp2_with fail
          refine (clone_any _ (recL l) _ k1 (by rw [K2.out]; omega)).mono ?_; rintro e w4 ⟨v4, rfl, ho4, hb4⟩
          go_wp2_with fail
          go_ret3
          have e2 : nextP l = recL l ∧ nextN l = 8 + (recL l).length := by unfold nextP nextN; rw [KE.out]; exact ⟨rfl, rfl⟩
          rw [KE.out, e2.1, e2.2, K2.out]
          exact ⟨_, rfl, ho4.le hb3.size, bel hb3 hb4⟩
        · have q1 : (((ofN (recL l) : Nat) : Int) != X) = true := by simp; omega
          rw [if_neg hx] at KE
          have HX := Lib.hid hx
          clear hx
          obtain ⟨e2, e3⟩ := next_bad KE.out (by decide)
          have E2 := Lib.hid e2
          have E3 := Lib.hid e3
          clear e2 e3
          go_wp2_with fail
          go_ret3
          rw [KE.out, E2.out, E3.out]
          exact ⟨_, rfl, Owns.nil _ _, hb3⟩
end Go.Proofs.YtkjdfelmjanpcaaDoor
