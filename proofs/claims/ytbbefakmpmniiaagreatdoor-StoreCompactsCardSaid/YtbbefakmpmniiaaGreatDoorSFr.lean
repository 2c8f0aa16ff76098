/- Joined: Fr FrNext FrRef FrAll FrLaw FrMany FrTorn FrNew. -/
import Derived.Test.YtbbefakmpmniiaaGreatDoorSSum
import Derived.Test.YtbbefakmpmniiaaGreatDoorSPk
import Derived.Maps.AppendAt
namespace Go.Proofs.YtbbefakmpmniiaaGreatDoor
section
open Go.RowKit
def sizeN (n : Int) : Int := if 1 ≤ n ∧ n ≤ 1048576 then 8 + n else 0
set_option maxHeartbeats 400000 in
theorem size_any (n : Int) (w : World) :
    Calls Tryz.prog 157 #[.int .i64 n] w fun e w' => e = .returned (.int .i64 (sizeN n)) ∧ w = w' := by
  by_cases h0 : n < 1
  · have d0 : decide (n < 1) = true := by simpa using h0
    have HV : Hid (0 = sizeN n) := Lib.hid (by unfold sizeN; rw [if_neg (by omega)])
    go_enter Tryz.func157, Tryz.ntmps157
    go_wp2
    go_ret
    exact ⟨congrArg (fun n => Ending.returned (.int .i64 n)) HV.out, rfl⟩
  · have d0 : decide (n < 1) = false := by simpa using h0
    by_cases h1 : 1048576 < n
    · have d1 : decide (1048576 < n) = true := by simpa using h1
      have HV : Hid (0 = sizeN n) := Lib.hid (by unfold sizeN; rw [if_neg (by omega)])
      go_enter Tryz.func157, Tryz.ntmps157
      go_wp2
      go_ret
      exact ⟨congrArg (fun n => Ending.returned (.int .i64 n)) HV.out, rfl⟩
    · have d1 : decide (1048576 < n) = false := by simpa using h1
      have HV : Hid (8 + n = sizeN n) := Lib.hid (by unfold sizeN; rw [if_pos (by omega)])
      have s1 : IntKind.i64.wrap (8 + n) = 8 + n := IntWalk.i64_in _ (by omega)
      go_enter Tryz.func157, Tryz.ntmps157
      go_wp2
      go_ret
      exact ⟨congrArg (fun n => Ending.returned (.int .i64 n)) HV.out, rfl⟩
/-- A record's frame. -/
def frameL (p : List Int) : List Int := putL p.length 4 ++ putL (ofN p) 4 ++ p
theorem putL4 (n : Int) : putL n 4 = numBytes n 4 := by unfold putL wOk; rw [if_pos (by decide)]; rfl
theorem putL4_len (n : Int) : (putL n 4).length = 4 := by rw [putL4, numBytes_length]
theorem frameL_len (p : List Int) : (frameL p).length = 8 + p.length := by unfold frameL; rw [List.length_append, List.length_append, putL4_len, putL4_len]
theorem frameL_ok {p : List Int} (h : okB p) : okB (frameL p) := okB_append (okB_append (okB_put _ _) (okB_put _ _)) h
set_option maxHeartbeats 1000000 in
theorem fput_any (v : Value) (p : List Int) (w : World) (h : Sees w v p) (hok : okB p) (h1 : 1 ≤ p.length) (h2 : p.length ≤ 1048576) (hE : Env w) :
    Calls Tryz.prog 132 #[v] w fun e w' => ∃ v', e = .returned (.tuple #[v', .int .i64 0]) ∧ Owns w' w.heap.size v' (frameL p) ∧ Below w.heap.size w w' := by
  have H := Lib.hid h
  have HP0 := Lib.hid (put_any (.slice none 0 0) [] p.length 4 w (Sees.nil w) (Nat.zero_le _))
  have HS := Lib.hid (size_any p.length w)
  obtain ⟨ao, c, rfl, hlc, hnil, hc⟩ := h
  have d0 : (sizeN (p.length : Int) == 0) = false := by unfold sizeN; rw [if_pos (by omega)]; simp; omega
  have s0 : IntKind.u64.wrap (p.length : Int) = p.length := IntWalk.u64_in _ (by omega)
  have o1 := ofN_lt hok
  have s1 : IntKind.u64.wrap ((ofN p : Nat) : Int) = (ofN p : Nat) := IntWalk.u64_in _ (by omega)
  have HO := Lib.hid hok
  clear hc hok
  go_enter Tryz.func132, Tryz.ntmps132
  go_wp2_with fail
  refine HS.out.mono ?_; rintro e w' ⟨rfl, rfl⟩
  go_wp2_with fail
  refine HP0.out.mono ?_; rintro e w1 ⟨v1, rfl, ho1, hb1⟩
  rw [List.nil_append] at ho1
  go_wp2_with fail
  refine (of_any _ p _ (H.out.keep hb1) HO.out (by omega) (hE.below hb1)).mono ?_; rintro e w' ⟨rfl, rfl⟩
  go_wp2_with fail
  refine (put_any v1 _ (ofN p : Nat) 4 _ ho1.sees (by rw [putL4_len]; omega)).mono ?_; rintro e w2 ⟨v2, rfl, ho2, hb2⟩
  obtain ⟨g, cap, rfl, hB, -, -, -, -⟩ := ho2.at (by rw [putL4]; simp [numBytes])
  have hb3 := bel hb1 hb2
  have hk := H.out.keep hb3
  have hz := hb1.size
  have hz2 := hb2.size
  go_wp2_with (first | (at_builtin; refine wpList_append_sees rfl (.tmp 17) (.tmp 18) rfl w1.heap.size g cap _ p _ rfl rfl ho2 hk (by rw [List.length_append, putL4_len, putL4_len]; omega) (by omega) ?_; intro g1 c1 w3 ho3 hg3) | go_in)
  refine bodyPost_ret (v := .tuple #[.slice (some ⟨g1, 0, none⟩) (putL p.length 4 ++ putL (ofN p) 4 ++ p).length c1, .int .i64 0]) ?_ rfl ⟨_, rfl, ?_, hb3.grown hg3 hb3.size (fun k hk => by cases hk; omega)⟩
  · simp [results, Tryz.results132, go_sem]
  · exact ho3.le hz
theorem fput_no (v : Value) (w : World) (h : Sees w v []) :
    Calls Tryz.prog 132 #[v] w fun e w' => e = .returned (.tuple #[.slice none 0 0, .int .i64 1]) ∧ w = w' := by
  have HS := Lib.hid (size_any 0 w)
  obtain ⟨ao, c, rfl, hlc, hnil, hc⟩ := h
  have d0 : (sizeN 0 == 0) = true := by decide
  clear hc
  go_enter Tryz.func132, Tryz.ntmps132
  go_wp2_with fail
  refine HS.out.mono ?_; rintro e w' ⟨rfl, rfl⟩
  go_wp2_with fail
  go_ret2
  exact ⟨rfl, rfl⟩
end
section
open Go.RowKit
/-- How many bytes the record at the beginning of l says that it has; these; and what is told of l. -/
def cntL (l : List Int) : Nat := (numBE (l.take 4)).toNat
def recL (l : List Int) : List Int := (l.drop 8).take (cntL l)
def nextE (l : List Int) : Nat := if l.length = 0 then 6 else if l.length < 8 then 4 else if cntL l = 0 ∨ 1048576 < cntL l then 3 else if l.length - 8 < cntL l then 4 else if numBE ((l.drop 4).take 4) = ofN (recL l) then 0 else 5
def nextP (l : List Int) : List Int := if nextE l = 0 then recL l else []
def nextN (l : List Int) : Nat := if nextE l = 0 then 8 + (recL l).length else 0
theorem numBE4 {l : List Int} (h : okB l) (hl : l.length ≤ 4) : 0 ≤ numBE l ∧ numBE l < 4294967296 := by
  obtain ⟨a, b⟩ := numBE_bd l h
  refine ⟨a, Int.lt_of_lt_of_le b ?_⟩
  have h1 : (256 : Nat) ^ l.length ≤ 256 ^ 4 := Nat.pow_le_pow_right (by omega) hl
  have h2 : ((256 ^ l.length : Nat) : Int) ≤ ((256 ^ 4 : Nat) : Int) := Int.ofNat_le.2 h1
  rw [Int.natCast_pow] at h2
  simpa using h2
theorem cnt_cast {l : List Int} (h : okB l) : numBE (l.take 4) = (cntL l : Int) ∧ cntL l < 4294967296 := by
  obtain ⟨a, b⟩ := numBE4 (h.take 4) (by rw [List.length_take]; omega)
  unfold cntL
  omega
theorem rd8a {l : List Int} (h : 8 ≤ l.length) : rdU (some (l.take 8)) 4 = (numBE (l.take 4), some ((l.take 8).drop 4)) := by
  have e : rdB (some (l.take 8)) ((4 : Nat) : Int) = ((l.take 8).take 4, some ((l.take 8).drop 4)) := rdB_yes (by rw [List.length_take]; omega)
  unfold rdU
  rw [if_pos (by decide), show (4 : Int) = ((4 : Nat) : Int) from rfl, e, List.take_take]
  rfl
theorem rd8b {l : List Int} (h : 8 ≤ l.length) : rdU (some ((l.take 8).drop 4)) 4 = (numBE ((l.drop 4).take 4), some []) := by
  have e0 : (l.take 8).drop 4 = (l.drop 4).take 4 := by rw [List.drop_take]
  have e : rdB (some ((l.drop 4).take 4)) ((4 : Nat) : Int) = (((l.drop 4).take 4).take 4, some (((l.drop 4).take 4).drop 4)) := rdB_yes (by rw [List.length_take, List.length_drop]; omega)
  unfold rdU
  rw [if_pos (by decide), e0, show (4 : Int) = ((4 : Nat) : Int) from rfl, e, List.take_take, List.drop_take]
  simp
theorem slice_lo {ao : Option Addr} {n c i : Nat} (k : Int) (hk : k = i) (hi : i ≤ n) : ∃ ao', (ao' = ao.map (fun x => x.add i) ∨ c = i ∧ ao' = ao) ∧
    ∀ w, (Instr.sliceAt 70 (.slice ao n c) (some (.int .i64 k)) none none).run Tryz.prog w = .ok (.slice ao' (n - i) (c - i)) w := by
  subst hk
  by_cases h : c = i
  · refine ⟨ao, Or.inr ⟨h, rfl⟩, fun w => ?_⟩
    simp [go_sem, Tryz.underlying70, hi, h]
  · refine ⟨_, Or.inl rfl, fun w => ?_⟩
    simp [go_sem, Tryz.underlying70, hi, h]
theorem sees_head {w : World} {ao : Option Addr} {c : Nat} {xs : List Int} (h : Sees w (.slice ao xs.length c) xs) {n : Nat} (hn : n ≤ xs.length) : Sees w (.slice ao n c) (xs.take n) := by
  obtain ⟨ao0, c0, he, hlc, hnil, hc⟩ := h
  cases he
  have e : (xs.take n).length = n := by rw [List.length_take]; omega
  refine ⟨ao, c, by rw [e], by omega, fun h => by rw [hnil h]; exact List.take_nil, fun a ha i hi => ?_⟩
  rw [e] at hi
  rw [hc a ha i (by omega)]
  simp only [List.getD, List.getElem?_take, if_pos hi]
theorem next_bad {l : List Int} {e : Nat} (h : nextE l = e) (he : e ≠ 0) : nextP l = [] ∧ nextN l = 0 := by
  unfold nextP nextN
  rw [h, if_neg he, if_neg he]
  exact ⟨rfl, rfl⟩
set_option maxHeartbeats 1000000 in
theorem next_any (v : Value) (l : List Int) (w : World) (h : Sees w v l) (hok : okB l) (hl : l.length ≤ 100000000000000) (hE : Env w) :
    Calls Tryz.prog 100 #[v] w fun e w' => ∃ v', e = .returned (.tuple #[v', .int .i64 (nextN l), .int .i64 (nextE l)]) ∧ Owns w' w.heap.size v' (nextP l) ∧ Below w.heap.size w w' := by
  have H := Lib.hid h
  obtain ⟨ao, c, rfl, hlc, hnil, hc⟩ := h
  have HO := Lib.hid hok
  clear hc
  by_cases h0 : l.length = 0
  · have d0 : (((l.length : Nat) : Int) == 0) = true := by simp [h0]
    have d1 : l = [] := List.eq_nil_of_length_eq_zero h0
    clear hok
    subst d1
    go_enter Tryz.func100, Tryz.ntmps100
    go_wp2_with fail
    go_ret3
    exact ⟨_, rfl, Owns.nil _ _, Below.refl _ _⟩
  · have d0 : (((l.length : Nat) : Int) == 0) = false := by simpa using h0
    by_cases h8 : l.length < 8
    · have d1 : decide (((l.length : Nat) : Int) < 8) = true := by simp; omega
      have e1 : Hid (nextE l = 4) := Lib.hid (by unfold nextE; rw [if_neg h0, if_pos h8])
      have e2 : Hid (nextP l = [] ∧ nextN l = 0) := Lib.hid (by unfold nextP nextN; rw [e1.out]; exact ⟨rfl, rfl⟩)
      clear hok
      go_enter Tryz.func100, Tryz.ntmps100
      go_wp2_with fail
      go_ret3
      rw [e1.out, e2.out.1, e2.out.2]
      exact ⟨_, rfl, Owns.nil _ _, Below.refl _ _⟩
    · have d1 : decide (((l.length : Nat) : Int) < 8) = false := by simp; omega
      have hN := Lib.hid (new_any (.slice ao 8 c) (l.take 8) w (sees_head H.out (by omega)) (hok.take 8) (by rw [List.length_take]; omega))
      obtain ⟨hC, hC'⟩ := cnt_cast hok
      obtain ⟨x0, x1⟩ := numBE4 (l := (l.drop 4).take 4) ((hok.drop 4).take 4) (by rw [List.length_take]; omega)
      have HA := Lib.hid (rd8a (l := l) (by omega))
      have HB := Lib.hid (rd8b (l := l) (by omega))
      rw [hC] at HA
      obtain ⟨ao', h', S8⟩ := slice_lo (ao := ao) (n := l.length) (c := c) (i := 8) 8 rfl (by omega)
      have HE : Hid (nextE l = if cntL l = 0 ∨ 1048576 < cntL l then 3 else if l.length - 8 < cntL l then 4 else if numBE ((l.drop 4).take 4) = ofN (recL l) then 0 else 5) := Lib.hid (by unfold nextE; rw [if_neg h0, if_neg h8])
      have HP : Hid (cntL l ≤ l.length - 8 → Sees w (.slice ao' (cntL l) (c - 8)) (recL l)) := Lib.hid fun hh => (sees_piece H.out (i := 8) (n := cntL l) (by omega) ao' h').1
      have HRl : Hid (cntL l ≤ l.length - 8 → (recL l).length = cntL l) := Lib.hid fun hh => by unfold recL; rw [List.length_take, List.length_drop]; omega
      have HRo := Lib.hid (show okB (recL l) from (hok.drop 8).take _)
      have o1 := ofN_lt HRo.out
      obtain ⟨C, hCe⟩ : ∃ C, C = cntL l := ⟨_, rfl⟩
      obtain ⟨X, hX⟩ : ∃ X, X = numBE ((l.drop 4).take 4) := ⟨_, rfl⟩
      rw [← hCe] at HA HE HP HRl hC'
      rw [← hX] at HB HE x0 x1
      have HCe := Lib.hid hCe
      clear hok hC h' hCe hX
      have s8 : IntKind.u64.wrap ((l.length - 8 : Nat) : Int) = (l.length - 8 : Nat) := IntWalk.u64_in _ (by omega)
      have s9 : IntKind.i64.wrap (8 + (C : Int)) = 8 + C := IntWalk.i64_in _ (by omega)
      have s10 : IntKind.u64.wrap ((ofN (recL l) : Nat) : Int) = (ofN (recL l) : Nat) := IntWalk.u64_in _ (by omega)
      go_enter Tryz.func100, Tryz.ntmps100
      go_wp2_with fail
      refine hN.out.mono ?_; rintro e w1 ⟨g, rfl, hr1, hg, hb1⟩
      go_wp2_with fail
      refine (u_any g g _ 4 _ hr1).mono ?_; rintro e w2 ⟨he, hr2, hg2⟩
      rw [HA.out] at he hr2
      subst he
      dsimp only at hr2
      have hb2 := hb1.grown hg2 hb1.size (fun k hk => by cases hk; exact hg)
      go_wp2_with fail
      refine (u_any g g _ 4 _ hr2).mono ?_; rintro e w3 ⟨he, hr3, hg3⟩
      rw [HB.out] at he
      subst he
      have hb3 := hb2.grown hg3 hb2.size (fun k hk => by cases hk; exact hg)
      dsimp only
      clear hr1 hr2 hr3 hg2 hg3 hb1 hb2
      go_wp2_with fail
      · have hh : C = 0 := by assumption
        have e1 := HE.out
        rw [if_pos (Or.inl hh)] at e1
        obtain ⟨e2, e3⟩ := next_bad e1 (by decide)
        go_ret3
        rw [e1, e2, e3]
        exact ⟨_, rfl, Owns.nil _ _, hb3⟩
      · have hh : 1048576 < C := by
          have g1 : ¬ C = 0 := by assumption
          have g2 : ((C : Int) == 0) = true ∨ (1048576 : Int) < C := by assumption
          rcases g2 with g2 | g2
          · exact absurd (by simpa using g2) g1
          · omega
        have e1 := HE.out
        rw [if_pos (Or.inr hh)] at e1
        obtain ⟨e2, e3⟩ := next_bad e1 (by decide)
        go_ret3
        rw [e1, e2, e3]
        exact ⟨_, rfl, Owns.nil _ _, hb3⟩
      · have g1 : ¬ C = 0 := by assumption
        have g2 : C ≤ 1048576 := by
          have g2 : ((C : Int) == 0) = false ∧ (C : Int) ≤ 1048576 := by assumption
          omega
        have hh : l.length - 8 < C := by omega
        have e1 := HE.out
        rw [if_neg (by omega), if_pos hh] at e1
        obtain ⟨e2, e3⟩ := next_bad e1 (by decide)
        go_ret3
        rw [e1, e2, e3]
        exact ⟨_, rfl, Owns.nil _ _, hb3⟩
      · have g1 : ¬ C = 0 := by assumption
        have g2 : C ≤ 1048576 := by
          have g2 : ((C : Int) == 0) = false ∧ (C : Int) ≤ 1048576 := by assumption
          omega
        have g3 : C ≤ l.length - 8 := by omega
        have k1 := (HP.out g3).keep hb3
        have k2 := HRl.out g3
        have KE := Lib.hid HE.out
        rw [if_neg (by omega), if_neg (by omega)] at KE
        refine (of_any _ (recL l) _ k1 HRo.out (by omega) (hE.below hb3)).mono ?_; rintro e w' ⟨rfl, rfl⟩
        have K2 := Lib.hid k2
        clear k2
        by_cases hx : X = ofN (recL l)
        · have q1 : (((ofN (recL l) : Nat) : Int) != X) = false := by simp [hx]
          rw [if_pos hx] at KE
          have HX := Lib.hid hx
          clear hx
          go_wp2_with fail
          refine (clone_any _ (recL l) _ k1 (by rw [K2.out]; omega)).mono ?_; rintro e w4 ⟨v4, rfl, ho4, hb4⟩
          go_wp2_with fail
          go_ret3
          have e2 : nextP l = recL l ∧ nextN l = 8 + (recL l).length := by unfold nextP nextN; rw [KE.out]; exact ⟨rfl, rfl⟩
          rw [KE.out, e2.1, e2.2, K2.out]
          exact ⟨_, rfl, ho4.le hb3.size, bel hb3 hb4⟩
        · have q1 : (((ofN (recL l) : Nat) : Int) != X) = true := by simp; omega
          rw [if_neg hx] at KE
          have HX := Lib.hid hx
          clear hx
          obtain ⟨e2, e3⟩ := next_bad KE.out (by decide)
          have E2 := Lib.hid e2
          have E3 := Lib.hid e3
          clear e2 e3
          go_wp2_with fail
          go_ret3
          rw [KE.out, E2.out, E3.out]
          exact ⟨_, rfl, Owns.nil _ _, hb3⟩
end
section
open Go.RowKit
set_option maxHeartbeats 1000000 in
theorem rput_any (v : Value) (p : List Int) (w : World) (h : Sees w v p) (hok : okB p) (h2 : p.length ≤ 1048576) :
    Calls Tryz.prog 73 #[v] w fun e w' => ∃ v', e = .returned v' ∧ Owns w' w.heap.size v' (frameL p) ∧ Below w.heap.size w w' := by
  have H := Lib.hid h
  obtain ⟨ao, c, rfl, hlc, hnil, hc⟩ := h
  have s0 : IntKind.u64.wrap (p.length : Int) = p.length := IntWalk.u64_in _ (by omega)
  have o1 := ofN_lt hok
  have s1 : IntKind.u64.wrap ((ofN p : Nat) : Int) = (ofN p : Nat) := IntWalk.u64_in _ (by omega)
  have HO := Lib.hid hok
  have ho0 : Owns (w.alloc (.cells #[] 5)) w.heap.size (.slice (some ⟨w.heap.size, 0, none⟩) ([] : List Int).length 0) [] := World.ownsRow_made w #[] 0 (Nat.le_refl _) (Nat.zero_le _) rfl
  have HO0 := Lib.hid ho0
  have HB0 := Lib.hid (belNew w (.cells #[] 5))
  have L4 := Lib.hid putL4_len
  clear hc hok ho0
  go_enter Tryz.func73, Tryz.ntmps73
  go_wp2_with fail
  refine (refPut_any p.length 4 _ (by omega) (by omega)).mono ?_; rintro e w1 ⟨v1, rfl, ho1, hb1⟩
  have hb1' := bel HB0.out hb1
  have hoA := HO0.out.keep hb1
  have hz1 := hb1'.size
  have hl1 := L4.out p.length
  have HL1 := Lib.hid hl1
  clear hl1
  go_wp2_with (first | (at_builtin; refine wpList_append_sees rfl (.tmp 4) (.tmp 8) rfl w.heap.size w.heap.size 0 [] _ v1 rfl rfl hoA ho1.sees (by rw [HL1.out]; simp) (by omega) ?_; intro g1 c1 w2 ho2 hg2) | fail)
  rw [List.nil_append] at ho2
  have hb2 := hb1'.grown hg2 hz1 (fun k hk => by cases hk; exact Nat.le_refl _)
  refine (refOf_any _ p _ (H.out.keep hb2) HO.out (by omega)).mono ?_; rintro e w' ⟨rfl, rfl⟩
  go_wp2_with fail
  refine (refPut_any (ofN p : Nat) 4 _ (by omega) (by omega)).mono ?_; rintro e w3 ⟨v3, rfl, ho3, hb3⟩
  have hb3' := bel hb2 hb3
  have hoB := ho2.keep hb3
  have hgB := (ho2.lt g1 rfl).2
  have hz3 := hb3'.size
  have HL2 := Lib.hid (L4.out (ofN p : Nat))
  have HK := Lib.hid (H.out.keep hb3')
  go_wp2_with (first
    | (at_builtin; refine wpList_append_sees rfl (.tmp 10) (.tmp 14) rfl w.heap.size g1 c1 _ _ v3 rfl rfl hoB ho3.sees (by rw [HL1.out, HL2.out]; omega) (by omega) ?_; intro g2 c2 w4 ho4 hg4; have hb4 := hb3'.grown hg4 hz3 (fun k hk => by cases hk; exact (hoB.lt g1 rfl).1); have hz4 := hb4.size; obtain ⟨L2, hL2⟩ : ∃ L2, L2 = putL p.length 4 ++ putL (ofN p : Nat) 4 := ⟨_, rfl⟩; rw [← hL2] at ho4 ⊢; have HLL := Lib.hid hL2; have hLl : L2.length = 8 := (by rw [hL2, List.length_append, HL1.out, HL2.out]); have HLl := Lib.hid hLl; clear hL2 hLl)
    | (at_builtin; refine wpList_append_sees rfl (.tmp 16) (.tmp 17) rfl w.heap.size g2 c2 _ p (.slice ao p.length c) rfl rfl ho4 (H.out.keep hb4) (by rw [HLl.out]; omega) (by omega) ?_; intro g3 c3 w5 ho5 hg5) | fail)
  go_ret
  have hf : frameL p = L2 ++ p := by rw [HLL.out]; rfl
  rw [List.length_append] at ho5
  rw [hf]
  exact ⟨_, rfl, ho5, hb4.grown hg5 hz4 (fun k hk => by cases hk; exact (ho4.lt g2 rfl).1)⟩
theorem slice_lh {ao : Option Addr} {n c i j : Nat} (k kk : Int) (hk : k = i) (hkk : kk = j) (hij : i ≤ j) (hj : j ≤ c) : ∃ ao', (ao' = ao.map (fun x => x.add i) ∨ c = i ∧ ao' = ao) ∧
    ∀ w, (Instr.sliceAt 70 (.slice ao n c) (some (.int .i64 k)) (some (.int .i64 kk)) none).run Tryz.prog w = .ok (.slice ao' (j - i) (c - i)) w := by
  subst hk hkk
  by_cases h : c = i
  · refine ⟨ao, Or.inr ⟨h, rfl⟩, fun w => ?_⟩
    obtain rfl : i = j := by omega
    simp [go_sem, Tryz.underlying70, h]
  · refine ⟨_, Or.inl rfl, fun w => ?_⟩
    simp [go_sem, Tryz.underlying70, hij, hj, h]
set_option maxHeartbeats 2000000 in
theorem rnext_any (v : Value) (l : List Int) (k : Nat) (w : World) (h : Sees w v l) (hok : okB l) (hl : l.length ≤ 100000000000000) (hk : k ≤ l.length) :
    Calls Tryz.prog 107 #[v, .int .i64 k] w fun e w' => ∃ v', e = .returned (.tuple #[v', .int .i64 (nextE (l.drop k))]) ∧ Sees w v' (nextP (l.drop k)) ∧ (∀ d, v'.ownBlock = some d → v.ownBlock = some d) ∧ w = w' := by
  have H := Lib.hid h
  obtain ⟨ao, c, rfl, hlc, hnil, hc⟩ := h
  have HO := Lib.hid hok
  obtain ⟨m, hm⟩ : ∃ m, l.length = k + m := ⟨l.length - k, by omega⟩
  obtain ⟨D, hD⟩ : ∃ D, D = l.drop k := ⟨_, rfl⟩
  have hDl : D.length = m := by rw [hD, List.length_drop]; omega
  have hDo : okB D := by rw [hD]; exact hok.drop k
  rw [← hD]
  clear hc
  have s0 : IntKind.i64.wrap ((l.length : Int) - k) = m := by rw [show (l.length : Int) - k = m from by omega]; exact IntWalk.i64_in _ (by omega)
  by_cases h0 : m = 0
  · have d0 : ((m : Int) == 0) = true := by simpa using h0
    have E1 : Hid (nextE D = 6) := Lib.hid (by unfold nextE; rw [if_pos (by omega)])
    have E2 := Lib.hid (next_bad E1.out (by decide))
    clear hm hDl hDo hD h0
    go_enter Tryz.func107, Tryz.ntmps107
    go_wp2_with fail
    go_ret2
    rw [E1.out, E2.out.1]
    exact ⟨_, rfl, Sees.nil _, (fun d h => by cases h), rfl⟩
  · have d0 : ((m : Int) == 0) = false := by simpa using h0
    by_cases h8 : m < 8
    · have d1 : decide ((m : Int) < 8) = true := by simp; omega
      have E1 : Hid (nextE D = 4) := Lib.hid (by unfold nextE; rw [if_neg (by omega), if_pos (by omega)])
      have E2 := Lib.hid (next_bad E1.out (by decide))
      clear hm hDl hDo hD h0
      go_enter Tryz.func107, Tryz.ntmps107
      go_wp2_with fail
      go_ret2
      rw [E1.out, E2.out.1]
      exact ⟨_, rfl, Sees.nil _, (fun d h => by cases h), rfl⟩
    · have d1 : decide ((m : Int) < 8) = false := by simp; omega
      obtain ⟨hC, hC'⟩ := cnt_cast hDo
      obtain ⟨x0, x1⟩ := numBE4 (l := (D.drop 4).take 4) ((hDo.drop 4).take 4) (by rw [List.length_take]; omega)
      obtain ⟨a1, h1, S1⟩ := slice_lh (ao := ao) (n := l.length) (c := c) (i := k) (j := k + 4) (k : Int) ((k : Int) + 4) rfl (by omega) (by omega) (by omega)
      obtain ⟨a2, h2, S2⟩ := slice_lh (ao := ao) (n := l.length) (c := c) (i := k + 4) (j := k + 8) ((k : Int) + 4) ((k : Int) + 8) (by omega) (by omega) (by omega) (by omega)
      rw [show k + 4 - k = 4 from by omega] at S1
      rw [show k + 8 - (k + 4) = 4 from by omega] at S2
      have P1 := (sees_piece H.out (i := k) (n := 4) (by omega) a1 h1).1
      have P2 := (sees_piece H.out (i := k + 4) (n := 4) (by omega) a2 h2).1
      rw [← hD] at P1
      rw [← List.drop_drop, ← hD] at P2
      have HN1 := Lib.hid (refNumB_any _ _ w P1 (hDo.take 4) (by rw [List.length_take]; omega))
      have HN2 := Lib.hid (refNumB_any _ _ w P2 ((hDo.drop 4).take 4) (by rw [List.length_take]; omega))
      have HE : Hid (nextE D = if cntL D = 0 ∨ 1048576 < cntL D then 3 else if m - 8 < cntL D then 4 else if numBE ((D.drop 4).take 4) = ofN (recL D) then 0 else 5) := Lib.hid (by unfold nextE; rw [if_neg (by omega), if_neg (by omega), hDl])
      have HRo := Lib.hid (show okB (recL D) from (hDo.drop 8).take _)
      have HRe : Hid (recL D = (l.drop (k + 8)).take (cntL D)) := Lib.hid (by unfold recL; rw [hD, List.drop_drop])
      have HRl : Hid (cntL D ≤ m - 8 → (recL D).length = cntL D) := Lib.hid fun hh => by unfold recL; rw [List.length_take, List.length_drop]; omega
      have o1 := ofN_lt HRo.out
      rw [hC] at HN1
      obtain ⟨C, hCe⟩ : ∃ C, C = cntL D := ⟨_, rfl⟩
      obtain ⟨X, hX⟩ : ∃ X, X = numBE ((D.drop 4).take 4) := ⟨_, rfl⟩
      rw [← hCe] at HN1 HE HRe HRl hC'
      rw [← hX] at HN2 HE x0 x1
      have HCe := Lib.hid hCe
      clear hC h1 h2 hCe hX hDo P1 P2 hok
      have HD := Lib.hid (And.intro hD hDl)
      have HM := Lib.hid hm
      have q1 : k + m = l.length := hm.symm
      clear hD hDl hm
      have s1 : IntKind.i64.wrap ((k : Int) + 4) = k + 4 := IntWalk.i64_in _ (by omega)
      have s2 : IntKind.i64.wrap ((k : Int) + 8) = k + 8 := IntWalk.i64_in _ (by omega)
      have s3 : IntKind.i64.wrap (C : Int) = C := IntWalk.i64_in _ (by omega)
      have s4 : IntKind.i64.wrap ((m : Int) - 8) = m - 8 := IntWalk.i64_in _ (by omega)
      have s5 : IntKind.i64.wrap ((k : Int) + 8 + C) = k + 8 + C := IntWalk.i64_in _ (by omega)
      have s6 : IntKind.u64.wrap ((ofN (recL D) : Nat) : Int) = (ofN (recL D) : Nat) := IntWalk.u64_in _ (by omega)
      by_cases g0 : C = 0 ∨ 1048576 < C
      · have E1 := HE.out
        rw [if_pos g0] at E1
        have E2 := Lib.hid (next_bad E1 (by decide))
        have E1 := Lib.hid E1
        have Q1 := Lib.hid q1
        clear q1
        rcases g0 with g0 | g0
        · have d2 : ((C : Int) == 0) = true := by simpa using g0
          clear g0
          go_enter Tryz.func107, Tryz.ntmps107
          go_wp2_with fail
          refine HN1.out.mono ?_; rintro e w' ⟨rfl, rfl⟩
          go_wp2_with fail
          go_ret2
          rw [E1.out, E2.out.1]
          exact ⟨_, rfl, Sees.nil _, (fun d h => by cases h), rfl⟩
        · have d2 : ((C : Int) == 0) = false := by simp; omega
          have d3 : decide (1048576 < (C : Int)) = true := by simp; omega
          have d4 : decide (1048576 < C) = true := by simp; omega
          clear g0
          go_enter Tryz.func107, Tryz.ntmps107
          go_wp2_with fail
          refine HN1.out.mono ?_; rintro e w' ⟨rfl, rfl⟩
          go_wp2_with fail
          go_ret2
          rw [E1.out, E2.out.1]
          exact ⟨_, rfl, Sees.nil _, (fun d h => by cases h), rfl⟩
      · have E1 := HE.out
        rw [if_neg g0] at E1
        have d2 : ((C : Int) == 0) = false := by simp; omega
        have d3 : decide (1048576 < (C : Int)) = false := by simp; omega
        by_cases g1 : m - 8 < C
        · rw [if_pos g1] at E1
          have E2 := Lib.hid (next_bad E1 (by decide))
          have E1 := Lib.hid E1
          have d4 : decide ((m : Int) - 8 < (C : Int)) = true := by simp; omega
          have Q1 := Lib.hid q1
          clear q1 g0 g1
          go_enter Tryz.func107, Tryz.ntmps107
          go_wp2_with fail
          refine HN1.out.mono ?_; rintro e w' ⟨rfl, rfl⟩
          go_wp2_with fail
          go_ret2
          rw [E1.out, E2.out.1]
          exact ⟨_, rfl, Sees.nil _, (fun d h => by cases h), rfl⟩
        · rw [if_neg g1] at E1
          have d4 : decide ((m : Int) - 8 < (C : Int)) = false := by simp; omega
          obtain ⟨a3, h3, S3⟩ := slice_lh (ao := ao) (n := l.length) (c := c) (i := k + 8) (j := k + 8 + C) ((k : Int) + 8) ((k : Int) + 8 + C) (by omega) (by omega) (by omega) (by omega)
          rw [show k + 8 + C - (k + 8) = C from by omega] at S3
          have P3 := (sees_piece H.out (i := k + 8) (n := C) (by omega) a3 h3)
          rw [← HRe.out] at P3
          have HL := Lib.hid (HRl.out (by omega))
          have HO3 := Lib.hid (refOf_any _ (recL D) w P3.1 HRo.out (by rw [HL.out]; omega))
          have P3 := Lib.hid P3
          have Q1 := Lib.hid q1
          clear q1 g0 g1 h3
          by_cases hx : X = ofN (recL D)
          · have e1 : (X != ((ofN (recL D) : Nat) : Int)) = false := by simp [hx]
            rw [if_pos hx] at E1
            have HX := Lib.hid hx
            have E2 : Hid (nextP D = recL D) := Lib.hid (by unfold nextP; rw [E1]; rfl)
            have E1 := Lib.hid E1
            clear hx
            go_enter Tryz.func107, Tryz.ntmps107
            go_wp2_with fail
            refine HN1.out.mono ?_; rintro e w' ⟨rfl, rfl⟩
            go_wp2_with fail
            refine HN2.out.mono ?_; rintro e w' ⟨rfl, rfl⟩
            go_wp2_with fail
            refine HO3.out.mono ?_; rintro e w' ⟨rfl, rfl⟩
            go_wp2_with fail
            go_ret2
            rw [E1.out, E2.out]
            exact ⟨_, rfl, P3.out.1, P3.out.2, rfl⟩
          · have e1 : (X != ((ofN (recL D) : Nat) : Int)) = true := by simpa using hx
            rw [if_neg hx] at E1
            have E2 := Lib.hid (next_bad E1 (by decide))
            have E1 := Lib.hid E1
            have HX := Lib.hid hx
            clear hx
            go_enter Tryz.func107, Tryz.ntmps107
            go_wp2_with fail
            refine HN1.out.mono ?_; rintro e w' ⟨rfl, rfl⟩
            go_wp2_with fail
            refine HN2.out.mono ?_; rintro e w' ⟨rfl, rfl⟩
            go_wp2_with fail
            refine HO3.out.mono ?_; rintro e w' ⟨rfl, rfl⟩
            go_wp2_with fail
            go_ret2
            rw [E1.out, E2.out.1]
            exact ⟨_, rfl, Sees.nil _, (fun d h => by cases h), rfl⟩
end
section
open Go.RowKit
/-- A row of the call's own that holds slices which read so; none of them lies in the row's block. -/
def RowO (w : World) (B : Nat) (v : Value) (ls : List (List Int)) : Prop :=
  ∃ vs : List Value, vs.length = ls.length ∧ w.ownsRow B 70 1 v ls.length vs ∧ ∀ i, i < ls.length → Sees w (vs.getD i undef) (ls.getD i []) ∧ ∀ d, (vs.getD i undef).ownBlock = some d → d < w.heap.size ∧ v.ownBlock ≠ some d
theorem RowO.nil (w : World) (B : Nat) : RowO w B (.slice none 0 0) [] := ⟨[], rfl, World.ownsRow_nil _ _ _ _, fun i hi => by cases hi⟩
theorem RowO.sees {w : World} {B : Nat} {v : Value} {ls : List (List Int)} (h : RowO w B v ls) : SeesRow w v ls := by
  obtain ⟨vs, hl, ho, he⟩ := h
  have hc := fun g hg => World.ownsRow.cells ho (g := g) hg
  obtain ⟨_, ⟨rfl, hn⟩ | ⟨g, cap, cur, rfl, _, _, hnc, _, _, _⟩⟩ := ho
  · obtain rfl := List.eq_nil_of_length_eq_zero hn
    exact ⟨none, 0, rfl, Nat.le_refl _, fun _ => rfl, fun a ha => by cases ha⟩
  · exact ⟨some ⟨g, 0, none⟩, cap, rfl, hnc, (fun e => by cases e), fun a ha i hi => (by
      cases ha
      exact ⟨vs.getD i undef, hc g rfl i _ (by simp [List.getD, List.getElem?_eq_getElem (show i < vs.length by omega)]), (he i hi).1⟩)⟩
theorem RowO.keep {w w' : World} {B : Nat} {v : Value} {ls : List (List Int)} (h : RowO w B v ls) (hb : Below w.heap.size w w') : RowO w' B v ls := by
  obtain ⟨vs, hl, ho, he⟩ := h
  refine ⟨vs, hl, ⟨ho.1, ho.2.imp id fun ⟨g, cap, cur, e, hB, hg, r⟩ => ⟨g, cap, cur, e, hB, (hb.block g (heap_lt hg)).trans hg, r⟩⟩, fun i hi => ⟨(he i hi).1.keep hb, fun d hd => ⟨?_, ((he i hi).2 d hd).2⟩⟩⟩
  exact Nat.lt_of_lt_of_le ((he i hi).2 d hd).1 hb.size
theorem RowO.le {w : World} {B B' : Nat} {v : Value} {ls : List (List Int)} (h : RowO w B v ls) (hb : B' ≤ B) : RowO w B' v ls := by
  obtain ⟨vs, hl, ho, he⟩ := h
  exact ⟨vs, hl, ⟨ho.1, ho.2.imp id fun ⟨a, b, c, d, e, f⟩ => ⟨a, b, c, d, Nat.le_trans hb e, f⟩⟩, he⟩
theorem RowO.lt {w : World} {B : Nat} {v : Value} {ls : List (List Int)} (h : RowO w B v ls) {d : Nat} (hd : v.ownBlock = some d) : B ≤ d ∧ d < w.heap.size := by
  obtain ⟨vs, hl, ho, he⟩ := h
  exact ho.lt d hd
theorem info22 : (Tryz.prog.info? 70).map (fun i => (i.zero, i.size, i.bytes)) = some (some (.slice none 0 0), 1, 24) := by kernel_rfl
/-- append of one slice to a row of the call's own. -/
theorem wpList_push {w0 : World} {ops : Array Oper} {rest : List Oper} {o : Oper} {a : Act} {Q : Exit → Act → World → Prop} (hgd : o.guard = none) (s x : Operand)
    (ho : o.op = .call { callee := .builtin .append, args := #[s, x], argTypes := #[97, 97] }) (B : Nat) (v u : Value) (ls : List (List Int)) (p : List Int)
    (hs : a.eval s = v) (hx : a.eval x = .slice (some ⟨w0.heap.size, 0, none⟩) 1 1) (hrow : RowO w0 B v ls) (hu : Sees w0 u p) (hud : ∀ d, u.ownBlock = some d → d < w0.heap.size ∧ v.ownBlock ≠ some d) (hlen : ls.length ≤ 100000) (hB : B ≤ w0.heap.size)
    (h : ∀ v' w', RowO w' B v' (ls ++ [p]) → w0.grownBy w' v.ownBlock → Below B w0 w' → (v'.ownBlock = v.ownBlock ∨ v'.ownBlock = some (w0.heap.size + 1)) → wpList Tryz.prog ops Q rest (a.put o.dst v') w') :
    wpList Tryz.prog ops Q (o :: rest) a (w0.alloc (.cells #[u] 70)) := by
  obtain ⟨i0, hi, hz0, hz1, hz2⟩ := info_parts info22
  obtain ⟨vs, hl, hown, he⟩ := hrow
  refine wpList_append_own_at _ hgd s x 97 ho B 70 i0 (.slice none 0 0) 1 24 Tryz.underlying97 hi hz0 hz1 hz2 rfl (by decide) v _ vs hs (hown.alloc _) ⟨w0.heap.size, 0, none⟩ 1 1 [u] hx rfl (cell_one_new _ _ _) ?_ (by unfold maxLen; omega) (by omega) (by simp; omega) ?_
  · intro y hy
    obtain rfl := List.mem_singleton.1 hy
    obtain ⟨ao, c, rfl, _⟩ := hu
    rfl
  · intro v' w' hown' hgrow _ hat
    have hg0 : w0.grownBy w' v.ownBlock := World.grownBy.trans (b := w0.alloc (.cells #[u] 70)) ⟨rfl, rfl, rfl, by simp, fun k hk _ => Below.heap_alloc w0 _ k hk⟩ hgrow
    rw [show (w0.alloc (.cells #[u] 70)).heap.size = w0.heap.size + 1 from by simp] at hat
    have hsz := hg0.size
    have hsz2 : w0.heap.size + 1 ≤ w'.heap.size := by
      have := hgrow.size
      simp at this
      omega
    refine h v' w' ⟨vs ++ [u], by simp [hl], by rw [List.length_append]; exact hown', fun i hi' => ?_⟩ hg0 ((Below.refl B w0).grown hg0 hB (fun k hk => (hown.lt k hk).1)) hat
    have key : ∀ (y : Value) (q : List Int), Sees w0 y q → (∀ d, y.ownBlock = some d → d < w0.heap.size ∧ v.ownBlock ≠ some d) → Sees w' y q ∧ ∀ d, y.ownBlock = some d → d < w'.heap.size ∧ v'.ownBlock ≠ some d := by
      intro y q hy hyd
      refine ⟨sees_heap hy (fun d hd hlt => hg0.block d hlt (fun e => (hyd d hd).2 e.symm)), fun d hd => ⟨by have := (hyd d hd).1; omega, fun e => ?_⟩⟩
      rcases hat with h1 | h1
      · exact (hyd d hd).2 (h1.symm.trans e)
      · rw [e] at h1
        have := (hyd d hd).1
        have := Option.some.inj h1
        omega
    by_cases hlt : i < ls.length
    · have e1 : (vs ++ [u]).getD i undef = vs.getD i undef := by simp only [List.getD]; rw [List.getElem?_append_left (by omega)]
      have e2 : (ls ++ [p]).getD i [] = ls.getD i [] := by simp only [List.getD]; rw [List.getElem?_append_left hlt]
      rw [e1, e2]
      exact key _ _ (he i hlt).1 (he i hlt).2
    · obtain rfl : i = ls.length := by rw [List.length_append, List.length_singleton] at hi'; omega
      have e1 : (vs ++ [u]).getD ls.length undef = u := by simp only [List.getD]; rw [← hl, List.getElem?_concat_length]; rfl
      have e2 : (ls ++ [p]).getD ls.length [] = p := by simp only [List.getD]; rw [List.getElem?_concat_length]; rfl
      rw [e1, e2]
      exact key _ _ hu hud
/-! All records, one behind the other. -/
def Steps : List (List Int) → List Int → Nat → Prop
  | [], _, k => k = 0
  | p :: ls, l, k => nextE l = 0 ∧ nextP l = p ∧ ∃ k', Steps ls (l.drop (nextN l)) k' ∧ k = nextN l + k'
theorem Steps.snoc : ∀ (ls : List (List Int)) (l : List Int) (k : Nat), Steps ls l k → nextE (l.drop k) = 0 → Steps (ls ++ [nextP (l.drop k)]) l (k + nextN (l.drop k))
  | [], l, k, h, he => by
    obtain rfl : k = 0 := h
    rw [List.drop_zero] at he
    rw [List.drop_zero]
    exact ⟨he, rfl, 0, rfl, by omega⟩
  | p :: ls, l, k, h, he => by
    obtain ⟨h1, h2, k', h3, rfl⟩ := h
    rw [← List.drop_drop] at he
    have ih := Steps.snoc ls _ _ h3 he
    rw [List.drop_drop] at ih
    exact ⟨h1, h2, _, ih, by omega⟩
def AllIs (ls : List (List Int)) (l : List Int) (k e : Nat) : Prop := Steps ls l k ∧ nextE (l.drop k) = e ∧ e ≠ 0
theorem AllIs.same : ∀ (ls ls' : List (List Int)) (l : List Int) (k k' e e' : Nat), AllIs ls l k e → AllIs ls' l k' e' → ls = ls' ∧ k = k' ∧ e = e'
  | [], [], l, k, k', e, e', h, h' => by
    obtain ⟨rfl, h2, _⟩ := h
    obtain ⟨rfl, h3, _⟩ := h'
    exact ⟨rfl, rfl, h2.symm.trans h3⟩
  | [], p :: ls', l, k, k', e, e', h, h' => by
    obtain ⟨rfl, h2, h3⟩ := h
    obtain ⟨⟨h4, _⟩, _⟩ := h'
    rw [List.drop_zero] at h2
    exact absurd (h2.symm.trans h4) h3
  | p :: ls, [], l, k, k', e, e', h, h' => by
    obtain ⟨rfl, h2, h3⟩ := h'
    obtain ⟨⟨h4, _⟩, _⟩ := h
    rw [List.drop_zero] at h2
    exact absurd (h2.symm.trans h4) h3
  | p :: ls, p' :: ls', l, k, k', e, e', h, h' => by
    obtain ⟨⟨h1, h2, m, h3, rfl⟩, h4, h5⟩ := h
    obtain ⟨⟨g1, g2, m', g3, rfl⟩, g4, g5⟩ := h'
    rw [← List.drop_drop] at h4 g4
    obtain ⟨r1, r2, r3⟩ := AllIs.same ls ls' _ m m' e e' ⟨h3, h4, h5⟩ ⟨g3, g4, g5⟩
    exact ⟨by rw [← h2, ← g2, r1], by rw [r2], r3⟩
theorem next_room {l : List Int} (h : nextE l = 0) : 9 ≤ nextN l ∧ nextN l ≤ l.length ∧ (nextP l).length + 8 = nextN l := by
  have e1 : nextN l = 8 + (recL l).length ∧ nextP l = recL l := by unfold nextN nextP; rw [if_pos h, if_pos h]; exact ⟨rfl, rfl⟩
  unfold nextE at h
  by_cases h0 : l.length = 0
  · rw [if_pos h0] at h; cases h
  rw [if_neg h0] at h
  by_cases h1 : l.length < 8
  · rw [if_pos h1] at h; cases h
  rw [if_neg h1] at h
  by_cases h2 : cntL l = 0 ∨ 1048576 < cntL l
  · rw [if_pos h2] at h; cases h
  rw [if_neg h2] at h
  by_cases h3 : l.length - 8 < cntL l
  · rw [if_pos h3] at h; cases h
  have e2 : (recL l).length = cntL l := by unfold recL; rw [List.length_take, List.length_drop]; omega
  rw [e1.1, e1.2, e2]
  omega
theorem Steps.room : ∀ (ls : List (List Int)) (l : List Int) (k : Nat), Steps ls l k → 9 * ls.length ≤ k ∧ k ≤ l.length
  | [], l, k, h => by
    obtain rfl : k = 0 := h
    simp
  | p :: ls, l, k, h => by
    obtain ⟨h1, h2, k', h3, rfl⟩ := h
    have a := next_room h1
    have b := Steps.room ls _ _ h3
    rw [List.length_drop] at b
    rw [List.length_cons]
    omega
theorem sees_tail {w : World} {ao : Option Addr} {c : Nat} {l : List Int} (h : Sees w (.slice ao l.length c) l) {k : Nat} (hk : k ≤ l.length) : ∃ ao',
    (∀ w, (Instr.sliceAt 70 (.slice ao l.length c) (some (.int .i64 k)) none none).run Tryz.prog w = .ok (.slice ao' (l.length - k) (c - k)) w) ∧ Sees w (.slice ao' (l.length - k) (c - k)) (l.drop k) := by
  obtain ⟨ao', h', S⟩ := slice_lo (ao := ao) (n := l.length) (c := c) (i := k) k rfl hk
  refine ⟨ao', S, ?_⟩
  have := (sees_piece h (i := k) (n := l.length - k) (by omega) ao' h').1
  rwa [List.take_of_length_le (by rw [List.length_drop]; omega)] at this
def AllPost (w : World) (l : List Int) (e : Ending) (w' : World) : Prop :=
  ∃ v' ls k x, e = .returned (.tuple #[v', .int .i64 ((k : Nat) : Int), .int .i64 ((x : Nat) : Int)]) ∧ RowO w' w.heap.size v' ls ∧ AllIs ls l k x ∧ Below w.heap.size w w'
set_option maxHeartbeats 2000000 in
theorem all_any (v : Value) (l : List Int) (w : World) (h : Sees w v l) (hok : okB l) (hl : l.length ≤ 100000) (hE : Env w) :
    Calls Tryz.prog 60 #[v] w (AllPost w l) := by
  have H := Lib.hid h
  obtain ⟨ao, c, rfl, hlc, hnil, hc⟩ := h
  have HO := Lib.hid hok
  clear hc hok
  go_enter Tryz.func60, Tryz.ntmps60
  go_wp2_with fail
  go_loopw [5, 6] (fun v k wr => ∃ ls : List (List Int), ∃ i : Nat, k = .int .i64 i ∧ RowO wr w.heap.size v ls ∧ Steps ls l i ∧ Below w.heap.size w wr) (fun _ k _ => l.length - (intOf k).toNat)
  case atStart => exact ⟨[], 0, rfl, RowO.nil _ _, rfl, Below.refl _ _⟩
  case round =>
    obtain ⟨ls, i, rfl, hrow, hst, hbel⟩ := hrel
    have hr := Steps.room _ _ _ hst
    obtain ⟨a1, S1, hs1⟩ := sees_tail (H.out.keep hbel) hr.2
    have HN := Lib.hid (next_any _ _ wr hs1 (HO.out.drop i) (by rw [List.length_drop]; omega) (hE.below hbel))
    have HR := Lib.hid hr
    have HS := Lib.hid hst
    have HW := Lib.hid hrow
    have b0 : (i : Int) ≤ (l.length : Int) := by omega
    have hB0 := hbel.size
    clear hs1 hr hst hrow
    by_cases hx : nextE (l.drop i) = 0
    · have N1 := Lib.hid (next_room hx)
      have N2 := Lib.hid (Steps.snoc _ _ _ HS.out hx)
      rw [hx] at HN
      have HX := Lib.hid hx
      clear hx
      obtain ⟨n, hn⟩ : ∃ n, n = nextN (l.drop i) := ⟨_, rfl⟩
      obtain ⟨p, hp⟩ : ∃ p, p = nextP (l.drop i) := ⟨_, rfl⟩
      rw [← hn, ← hp] at HN N2
      rw [← hn] at N1
      clear hn hp
      have hlen : ls.length ≤ 100000 ∧ n ≤ l.length - i ∧ 9 ≤ n ∧ i ≤ l.length := by
        have h1 := HR.out; have h2 := N1.out; rw [List.length_drop] at h2; omega
      have s1 : IntKind.i64.wrap ((i : Int) + n) = i + n := IntWalk.i64_in _ (by omega)
      go_wp2_with fail
      refine HN.out.mono ?_; rintro e w1 ⟨v1, rfl, ho1, hb1⟩
      have hrow1 := HW.out.keep hb1
      have hbel1 := bel hbel hb1
      have hz1 := hbel1.size
      obtain ⟨ao1, c1, hv1, -⟩ := id ho1.sees
      subst hv1
      go_wp2_with (first
        | (at_builtin; refine wpList_push rfl (.tmp 23) (.tmp 25) rfl w.heap.size u5 (.slice ao1 p.length c1) ls p rfl rfl hrow1 ho1.sees (fun d hd => ⟨(ho1.lt d hd).2, fun e => by have h1 := (ho1.lt d hd).1; have h2 := (HW.out.lt e).2; omega⟩) hlen.1 (by omega) ?_; intro v2 w2 hrow2 hg2 hb2 hat)
        | fail)
      go_roundw
      case rel => exact ⟨ls ++ [p], i + n, by go_num, hrow2, N2.out, hbel1.trans hb2⟩
      case measure => simp [intOf]; omega
    · have HA : Hid (AllIs ls l i (nextE (l.drop i))) := Lib.hid ⟨HS.out, rfl, hx⟩
      have HX := Lib.hid hx
      have hpos : 0 < nextE (l.drop i) := by omega
      obtain ⟨x, hxe⟩ : ∃ x, x = nextE (l.drop i) := ⟨_, rfl⟩
      rw [← hxe] at HA HN hpos
      have d0 : (((x : Nat) : Int) != 0) = true := by simp; omega
      clear hx hxe
      go_wp2_with fail
      refine HN.out.mono ?_; rintro e w1 ⟨v1, rfl, ho1, hb1⟩
      have hrow1 := HW.out.keep hb1
      have hbel1 := bel hbel hb1
      go_wp2_with fail
      go_ret3
      exact ⟨_, ls, i, x, rfl, hrow1, HA.out, hbel1⟩
set_option maxHeartbeats 2000000 in
theorem rall_any (v : Value) (l : List Int) (w : World) (h : Sees w v l) (hok : okB l) (hl : l.length ≤ 100000) :
    Calls Tryz.prog 65 #[v] w (AllPost w l) := by
  have H := Lib.hid h
  have HV : Hid (l ≠ [] → ∀ d, v.ownBlock = some d → d < w.heap.size) := Lib.hid (by
    obtain ⟨ao, c, rfl, hlc, hnil, hc⟩ := h
    intro hne d hd
    cases ao with
    | none => cases hd
    | some a =>
      have := cell_lt8 (hc a rfl 0 (List.length_pos_iff.2 hne))
      rw [add_block] at this
      cases hd
      exact this)
  have HO := Lib.hid hok
  clear hok
  go_enter Tryz.func65, Tryz.ntmps65
  go_wp2_with fail
  go_loopw [5, 6] (fun x k wr => ∃ ls : List (List Int), ∃ i : Nat, k = .int .i64 i ∧ RowO wr w.heap.size x ls ∧ Steps ls l i ∧ Below w.heap.size w wr) (fun _ k _ => l.length - (intOf k).toNat)
  case atStart => exact ⟨[], 0, rfl, RowO.nil _ _, rfl, Below.refl _ _⟩
  case round =>
    obtain ⟨ls, i, rfl, hrow, hst, hbel⟩ := hrel
    have hr := Steps.room _ _ _ hst
    have HN := Lib.hid (rnext_any v l i wr (H.out.keep hbel) HO.out (by omega) hr.2)
    have HR := Lib.hid hr
    have HS := Lib.hid hst
    have HW := Lib.hid hrow
    have hB0 := hbel.size
    clear hr hst hrow h
    by_cases hx : nextE (l.drop i) = 0
    · have N1 := Lib.hid (next_room hx)
      have N2 := Lib.hid (Steps.snoc _ _ _ HS.out hx)
      rw [hx] at HN
      have HX := Lib.hid hx
      clear hx
      obtain ⟨n, hn⟩ : ∃ n, n = nextN (l.drop i) := ⟨_, rfl⟩
      obtain ⟨p, hp⟩ : ∃ p, p = nextP (l.drop i) := ⟨_, rfl⟩
      rw [← hn, ← hp] at N1 N2
      rw [← hp] at HN
      clear hn hp
      have hlen : ls.length ≤ 100000 ∧ n ≤ l.length - i ∧ 9 ≤ n ∧ i ≤ l.length ∧ p.length + 8 = n := by
        have h1 := HR.out; have h2 := N1.out; rw [List.length_drop] at h2; omega
      have hne : l ≠ [] := by rintro rfl; simp at hlen; omega
      have HV := Lib.hid (HV.out hne)
      obtain rfl : p.length + 8 = n := hlen.2.2.2.2
      have s0 : IntKind.i64.wrap (8 + (p.length : Int)) = 8 + p.length := IntWalk.i64_in _ (by omega)
      have s1 : IntKind.i64.wrap ((i : Int) + (8 + p.length)) = i + (8 + p.length) := IntWalk.i64_in _ (by omega)
      clear hne
      go_wp2_with fail
      refine HN.out.mono ?_; rintro e w1 ⟨v1, rfl, hs1, hd1, rfl⟩
      obtain ⟨ao1, c1, hv1, -⟩ := id hs1
      subst hv1
      go_wp2_with (first
        | (at_builtin; refine wpList_push rfl (.tmp 20) (.tmp 22) rfl w.heap.size u5 (.slice ao1 p.length c1) ls p rfl rfl HW.out hs1 (fun d hd => ⟨Nat.lt_of_lt_of_le (HV.out d (hd1 d hd)) hB0, fun e => Nat.not_lt.2 (HW.out.lt e).1 (HV.out d (hd1 d hd))⟩) hlen.1 hB0 ?_; intro v2 w2 hrow2 hg2 hb2 hat)
        | fail)
      go_roundw
      case rel => exact ⟨ls ++ [p], i + (p.length + 8), by go_num, hrow2, N2.out, hbel.trans hb2⟩
      case measure => simp [intOf]; omega
    · have HA : Hid (AllIs ls l i (nextE (l.drop i))) := Lib.hid ⟨HS.out, rfl, hx⟩
      have HX := Lib.hid hx
      have hpos : 0 < nextE (l.drop i) := by omega
      obtain ⟨x, hxe⟩ : ∃ x, x = nextE (l.drop i) := ⟨_, rfl⟩
      rw [← hxe] at HA HN hpos
      have d0 : (((x : Nat) : Int) != 0) = true := by simp; omega
      clear hx hxe
      go_wp2_with fail
      refine HN.out.mono ?_; rintro e w1 ⟨v1, rfl, hs1, hd1, rfl⟩
      go_wp2_with fail
      go_ret3
      exact ⟨_, ls, i, x, rfl, HW.out, HA.out, hbel⟩
theorem Sees.drewN {w : World} {v : Value} {xs : List Int} (h : Sees w v xs) (n : Nat) : Sees (w.drewN n) v xs := h
theorem SeesRow.drewN {w : World} {v : Value} {ls : List (List Int)} (h : SeesRow w v ls) (n : Nat) : SeesRow (w.drewN n) v ls := h
end
section
open Go.RowKit
theorem numBE_put4 (n : Nat) (h : n < 4294967296) : numBE (putL (n : Int) 4) = n := by
  rw [putL4]
  simp only [numBytes, numBE, List.foldl_cons, List.foldl_nil]
  simp
  omega
theorem frame_cnt {p t : List Int} (h2 : p.length ≤ 1048576) : cntL (frameL p ++ t) = p.length ∧ recL (frameL p ++ t) = p ∧ ((frameL p ++ t).drop 4).take 4 = putL (ofN p) 4 := by
  have e1 : (frameL p ++ t).take 4 = putL p.length 4 := by
    unfold frameL
    rw [List.append_assoc, List.append_assoc, List.take_append_of_le_length (by rw [putL4_len]; omega), List.take_of_length_le (by rw [putL4_len]; omega)]
  have e2 : (frameL p ++ t).drop 4 = putL (ofN p) 4 ++ (p ++ t) := by
    unfold frameL
    rw [List.append_assoc, List.append_assoc]
    have := List.drop_left (l₁ := putL p.length 4) (l₂ := putL (ofN p) 4 ++ (p ++ t))
    rwa [putL4_len] at this
  have e3 : (frameL p ++ t).drop 8 = p ++ t := by
    rw [show (8 : Nat) = 4 + 4 from rfl, ← List.drop_drop, e2]
    have := List.drop_left (l₁ := putL (ofN p) 4) (l₂ := p ++ t)
    rwa [putL4_len] at this
  have e4 : cntL (frameL p ++ t) = p.length := by
    unfold cntL
    rw [e1, numBE_put4 _ (by omega)]
    rfl
  refine ⟨e4, ?_, ?_⟩
  · unfold recL
    rw [e3, e4, List.take_left]
  · rw [e2]
    have := List.take_left (l₁ := putL (ofN p) 4) (l₂ := p ++ t)
    rwa [putL4_len] at this
theorem next_frame {p t : List Int} (hok : okB p) (h1 : 1 ≤ p.length) (h2 : p.length ≤ 1048576) : nextE (frameL p ++ t) = 0 ∧ nextP (frameL p ++ t) = p ∧ nextN (frameL p ++ t) = 8 + p.length := by
  obtain ⟨a, b, c⟩ := frame_cnt (t := t) h2
  have hl : (frameL p ++ t).length = 8 + p.length + t.length := by rw [List.length_append, frameL_len]
  have e : nextE (frameL p ++ t) = 0 := by
    unfold nextE
    rw [if_neg (by omega), if_neg (by omega), a, if_neg (by omega), if_neg (by omega), b, c, numBE_put4 _ (ofN_lt hok), if_pos rfl]
  unfold nextP nextN
  rw [e, b]
  exact ⟨rfl, rfl, rfl⟩
end
section
open Go.RowKit
/-- A row of the call's own whose slices lie below block B. -/
def RowE (w : World) (B : Nat) (v : Value) (ls : List (List Int)) : Prop :=
  ∃ vs : List Value, vs.length = ls.length ∧ w.ownsRow B 70 1 v ls.length vs ∧ ∀ i, i < ls.length → Sees w (vs.getD i undef) (ls.getD i []) ∧ ∀ d, (vs.getD i undef).ownBlock = some d → d < B
theorem RowE.nil (w : World) (B : Nat) : RowE w B (.slice none 0 0) [] := ⟨[], rfl, World.ownsRow_nil _ _ _ _, fun i hi => by cases hi⟩
theorem RowE.row {w : World} {B : Nat} {v : Value} {ls : List (List Int)} (h : RowE w B v ls) (hB : B ≤ w.heap.size) : RowO w B v ls := by
  obtain ⟨vs, hl, ho, he⟩ := h
  exact ⟨vs, hl, ho, fun i hi => ⟨(he i hi).1, fun d hd => ⟨Nat.lt_of_lt_of_le ((he i hi).2 d hd) hB, fun e => Nat.not_lt.2 (ho.lt d e).1 ((he i hi).2 d hd)⟩⟩⟩
theorem RowE.below {w w' : World} {B : Nat} {v : Value} {ls : List (List Int)} (h : RowE w B v ls) (hb : Below B w w') (hv : ∀ d, v.ownBlock = some d → w'.heap[d]? = w.heap[d]?) : RowE w' B v ls := by
  obtain ⟨vs, hl, ho, he⟩ := h
  refine ⟨vs, hl, ⟨ho.1, ho.2.imp id fun ⟨g, cap, cur, e, hB, hg, r⟩ => ⟨g, cap, cur, e, hB, (hv g (by rw [e]; rfl)).trans hg, r⟩⟩, fun i hi => ⟨sees_heap (he i hi).1 (fun d hd _ => hb.block d ((he i hi).2 d hd)), (he i hi).2⟩⟩
theorem RowE.keep {w w' : World} {B : Nat} {v : Value} {ls : List (List Int)} (h : RowE w B v ls) (hb : Below w.heap.size w w') (hB : B ≤ w.heap.size) : RowE w' B v ls :=
  h.below (hb.mono hB) fun d hd => by
    obtain ⟨vs, hl, ho, he⟩ := h
    exact hb.block d (ho.lt d hd).2
theorem own_row_ne {w : World} {B B' : Nat} {a x : Value} {xs : List Int} {ls : List (List Int)} (h : Owns w B a xs) (h' : RowE w B' x ls) {d : Nat} (ha : a.ownBlock = some d) : x.ownBlock ≠ some d := by
  obtain ⟨vs, hl, ho, he⟩ := h'
  intro hx
  obtain ⟨_, ⟨rfl, _⟩ | ⟨g, cap, cur, rfl, _, hg, _⟩⟩ := h
  · cases ha
  · obtain ⟨_, ⟨rfl, _⟩ | ⟨g', cap', cur', rfl, _, hg', _⟩⟩ := ho
    · cases hx
    · have e1 : g = d := by simpa [Value.ownBlock] using ha
      have e2 : g' = d := by simpa [Value.ownBlock] using hx
      subst e1 e2
      rw [hg] at hg'
      simp at hg'
/-- append of one slice that lies below B to such a row. -/
theorem wpList_pushE {w0 : World} {ops : Array Oper} {rest : List Oper} {o : Oper} {a : Act} {Q : Exit → Act → World → Prop} (hgd : o.guard = none) (s x : Operand)
    (ho : o.op = .call { callee := .builtin .append, args := #[s, x], argTypes := #[97, 97] }) (B : Nat) (v u : Value) (ls : List (List Int)) (p : List Int)
    (hs : a.eval s = v) (hx : a.eval x = .slice (some ⟨w0.heap.size, 0, none⟩) 1 1) (hrow : RowE w0 B v ls) (hu : Sees w0 u p) (hud : ∀ d, u.ownBlock = some d → d < B) (hlen : ls.length ≤ 100000) (hB : B ≤ w0.heap.size)
    (h : ∀ v' w', RowE w' B v' (ls ++ [p]) → w0.grownBy w' v.ownBlock → Below B w0 w' → wpList Tryz.prog ops Q rest (a.put o.dst v') w') :
    wpList Tryz.prog ops Q (o :: rest) a (w0.alloc (.cells #[u] 70)) := by
  obtain ⟨i0, hi, hz0, hz1, hz2⟩ := info_parts info22
  obtain ⟨vs, hl, hown, he⟩ := hrow
  refine wpList_append_own_at _ hgd s x 97 ho B 70 i0 (.slice none 0 0) 1 24 Tryz.underlying97 hi hz0 hz1 hz2 rfl (by decide) v _ vs hs (hown.alloc _) ⟨w0.heap.size, 0, none⟩ 1 1 [u] hx rfl (cell_one_new _ _ _) ?_ (by unfold maxLen; omega) (by omega) (by simp; omega) ?_
  · intro y hy
    obtain rfl := List.mem_singleton.1 hy
    obtain ⟨ao, c, rfl, _⟩ := hu
    rfl
  · intro v' w' hown' hgrow _ hat
    have hg0 : w0.grownBy w' v.ownBlock := World.grownBy.trans (b := w0.alloc (.cells #[u] 70)) ⟨rfl, rfl, rfl, by simp, fun k hk _ => Below.heap_alloc w0 _ k hk⟩ hgrow
    have hbel : Below B w0 w' := (Below.refl B w0).grown hg0 hB (fun k hk => (hown.lt k hk).1)
    have key : ∀ (y : Value) (q : List Int), Sees w0 y q → (∀ d, y.ownBlock = some d → d < B) → Sees w' y q ∧ ∀ d, y.ownBlock = some d → d < B :=
      fun y q hy hyd => ⟨sees_heap hy (fun d hd _ => hbel.block d (hyd d hd)), hyd⟩
    refine h v' w' ⟨vs ++ [u], by simp [hl], by rw [List.length_append]; exact hown', fun i hi' => ?_⟩ hg0 hbel
    by_cases hlt : i < ls.length
    · have e1 : (vs ++ [u]).getD i undef = vs.getD i undef := by simp only [List.getD]; rw [List.getElem?_append_left (by omega)]
      have e2 : (ls ++ [p]).getD i [] = ls.getD i [] := by simp only [List.getD]; rw [List.getElem?_append_left hlt]
      rw [e1, e2]
      exact key _ _ (he i hlt).1 (he i hlt).2
    · obtain rfl : i = ls.length := by rw [List.length_append, List.length_singleton] at hi'; omega
      have e1 : (vs ++ [u]).getD ls.length undef = u := by simp only [List.getD]; rw [← hl, List.getElem?_concat_length]; rfl
      have e2 : (ls ++ [p]).getD ls.length [] = p := by simp only [List.getD]; rw [List.getElem?_concat_length]; rfl
      rw [e1, e2]
      exact key _ _ hu hud
/-- append of bytes that are there to bytes of the call's own, nil or not. -/
theorem wpList_append_bytes {w : World} {ops : Array Oper} {rest : List Oper} {o : Oper} {a : Act} {Q : Exit → Act → World → Prop} (hgd : o.guard = none) (s x : Operand)
    (ho : o.op = .call { callee := .builtin .append, args := #[s, x], argTypes := #[70, 70] }) (B : Nat) (v : Value) (xs t : List Int) (src : Value)
    (hs : a.eval s = v) (hx : a.eval x = src) (hown : Owns w B v xs) (hsee : Sees w src t) (hne : t ≠ []) (hb : xs.length + t.length ≤ 100000000000) (hB : B ≤ w.heap.size)
    (h : ∀ v' w', Owns w' B v' (xs ++ t) → w.grownBy w' v.ownBlock → Below B w w' → wpList Tryz.prog ops Q rest (a.put o.dst v') w') : wpList Tryz.prog ops Q (o :: rest) a w := by
  obtain ⟨i0, hi, hz0, hz1, hz2⟩ := info_parts info8
  obtain ⟨ao, c, rfl, hlc, hnil, hc⟩ := hsee
  obtain ⟨ad, rfl⟩ : ∃ ad, ao = some ad := by
    cases ao with
    | none => exact absurd (hnil rfl) hne
    | some ad => exact ⟨ad, rfl⟩
  refine wpList_append_own w hgd s x 70 ho B 5 i0 (.int .u8 0) 1 1 Tryz.underlying70 hi hz0 hz1 hz2 rfl (by decide) v _ _ hs hown ad t.length c (cells8 t) hx (by simp) (fun j u hj => ?_) (fun u hu => by obtain ⟨z, _, rfl⟩ := List.mem_map.1 hu; rfl) (by unfold maxLen; omega) (by omega) hB ?_
  · have hjl : j < t.length := by
      have := (List.getElem?_eq_some_iff.1 hj).1
      simpa using this
    rw [getD_cells hjl] at hj
    rw [← hj]
    exact hc ad rfl j hjl
  · intro v' w' ho' hg' hn'
    refine h v' w' ?_ hg' ((Below.refl B w).grown hg' hB (fun k hk => (hown.lt k hk).1))
    unfold Owns cells8
    rw [List.length_append, List.map_append]
    exact ho'
/-! Frames one behind the other. -/
def flatF (ps : List (List Int)) : List Int := ps.flatMap frameL
def goodP (ps : List (List Int)) : Prop := ∀ p ∈ ps, okB p ∧ 1 ≤ p.length ∧ p.length ≤ 200
theorem flatF_snoc (ps : List (List Int)) (p : List Int) : flatF (ps ++ [p]) = flatF ps ++ frameL p := by unfold flatF; rw [List.flatMap_append]; simp
theorem goodP_snoc {ps : List (List Int)} {p : List Int} (h : goodP ps) (hp : okB p ∧ 1 ≤ p.length ∧ p.length ≤ 200) : goodP (ps ++ [p]) := fun q hq => by
  rcases List.mem_append.1 hq with hq | hq
  · exact h q hq
  · rw [List.mem_singleton.1 hq]; exact hp
theorem flatF_len : ∀ (ps : List (List Int)), goodP ps → (flatF ps).length ≤ 208 * ps.length
  | [], _ => Nat.zero_le _
  | p :: ps, h => by
    have ih := flatF_len ps (fun q hq => h q (List.mem_cons_of_mem _ hq))
    have h1 := (h p List.mem_cons_self).2.2
    have e : (flatF (p :: ps)).length = (frameL p).length + (flatF ps).length := by unfold flatF; rw [List.flatMap_cons, List.length_append]
    rw [e, frameL_len, List.length_cons]
    omega
theorem flatF_ok : ∀ (ps : List (List Int)), goodP ps → okB (flatF ps)
  | [], _ => fun x hx => by cases hx
  | p :: ps, h => by
    have e : flatF (p :: ps) = frameL p ++ flatF ps := by unfold flatF; rw [List.flatMap_cons]
    rw [e]
    exact okB_append (frameL_ok (h p List.mem_cons_self).1) (flatF_ok ps (fun q hq => h q (List.mem_cons_of_mem _ hq)))
theorem flatF_steps : ∀ (ps : List (List Int)) (t : List Int), goodP ps → Steps ps (flatF ps ++ t) (flatF ps).length
  | [], _, _ => rfl
  | p :: ps, t, h => by
    obtain ⟨h1, h2, h3⟩ := h p List.mem_cons_self
    have e : flatF (p :: ps) = frameL p ++ flatF ps := by unfold flatF; rw [List.flatMap_cons]
    obtain ⟨n1, n2, n3⟩ := next_frame (t := flatF ps ++ t) h1 h2 (by omega)
    rw [e, List.append_assoc]
    refine ⟨n1, n2, (flatF ps).length, ?_, ?_⟩
    · rw [n3, ← frameL_len p, List.drop_left]
      exact flatF_steps ps t (fun q hq => h q (List.mem_cons_of_mem _ hq))
    · rw [n3, List.length_append, frameL_len]
theorem flatF_all (ps : List (List Int)) (h : goodP ps) : AllIs ps (flatF ps) (flatF ps).length 6 := by
  have := flatF_steps ps [] h
  rw [List.append_nil] at this
  refine ⟨this, ?_, by decide⟩
  rw [List.drop_length]
  rfl
end
section
open Go.RowKit
/-- Where the frames end. -/
def endsF : Nat → List (List Int) → List Int
  | _, [] => []
  | k, p :: ps => ((k + (8 + p.length) : Nat) : Int) :: endsF (k + (8 + p.length)) ps
theorem endsF_len : ∀ (ps : List (List Int)) (k : Nat), (endsF k ps).length = ps.length
  | [], _ => rfl
  | p :: ps, k => by rw [endsF, List.length_cons, List.length_cons, endsF_len ps]
theorem flatF_cons (p : List Int) (ps : List (List Int)) : flatF (p :: ps) = frameL p ++ flatF ps := by unfold flatF; rw [List.flatMap_cons]
theorem endsF_snoc : ∀ (ps : List (List Int)) (k : Nat) (p : List Int), endsF k (ps ++ [p]) = endsF k ps ++ [((k + (flatF ps ++ frameL p).length : Nat) : Int)]
  | [], k, p => by
    show [((k + (8 + p.length) : Nat) : Int)] = [((k + (([] : List Int) ++ frameL p).length : Nat) : Int)]
    rw [List.nil_append, frameL_len]
  | q :: ps, k, p => by
    rw [List.cons_append, endsF, endsF_snoc ps, endsF, List.cons_append, flatF_cons, List.append_assoc]
    congr 3
    simp only [List.length_append, frameL_len]
    omega
/-- How many frames end by c, and where the last of these does. -/
def cntTo (c : Nat) (k : Nat) : List (List Int) → Nat × Nat
  | [] => (0, k)
  | p :: ps => if k + (8 + p.length) ≤ c then ((cntTo c (k + (8 + p.length)) ps).1 + 1, (cntTo c (k + (8 + p.length)) ps).2) else (0, k)
/-- The same, counted one end behind the other. -/
def tally (c : Nat) (l : List Int) : Nat × Nat := l.foldl (fun s e => if e ≤ (c : Int) then (s.1 + 1, e.toNat) else s) (0, 0)
theorem tally_snoc (c : Nat) (l : List Int) (e : Int) : tally c (l ++ [e]) = if e ≤ (c : Int) then ((tally c l).1 + 1, e.toNat) else tally c l := by unfold tally; rw [List.foldl_append]; rfl
theorem foldl_none (c : Nat) : ∀ (ps : List (List Int)) (k : Nat) (s : Nat × Nat), c < k → (endsF k ps).foldl (fun s e => if e ≤ (c : Int) then (s.1 + 1, e.toNat) else s) s = s
  | [], _, _, _ => rfl
  | p :: ps, k, s, h => by
    rw [endsF, List.foldl_cons, if_neg (by omega)]
    exact foldl_none c ps _ s (by omega)
theorem foldl_ends (c : Nat) : ∀ (ps : List (List Int)) (k : Nat) (s : Nat × Nat), s.2 = k → (endsF k ps).foldl (fun s e => if e ≤ (c : Int) then (s.1 + 1, e.toNat) else s) s = (s.1 + (cntTo c k ps).1, (cntTo c k ps).2)
  | [], k, s, h => by
    show s = (s.1 + 0, k)
    rw [← h]; rfl
  | p :: ps, k, s, h => by
    rw [endsF, List.foldl_cons]
    by_cases hc : k + (8 + p.length) ≤ c
    · rw [if_pos (by omega), foldl_ends c ps (k + (8 + p.length)) _ (by simp only []; omega), cntTo, if_pos hc]
      refine Prod.ext ?_ rfl
      simp only []
      omega
    · rw [if_neg (by omega), foldl_none c ps _ s (by omega), cntTo, if_neg hc]
      exact Prod.ext rfl h
theorem tally_ends (c : Nat) (ps : List (List Int)) : tally c (endsF 0 ps) = cntTo c 0 ps := by
  unfold tally
  rw [foldl_ends c ps 0 (0, 0) rfl]
  exact Prod.ext (by simp only []; omega) rfl
theorem cntTo_at (c : Nat) : ∀ (ps : List (List Int)) (k : Nat), (cntTo c k ps).1 ≤ ps.length ∧ (cntTo c k ps).2 = k + (flatF (ps.take (cntTo c k ps).1)).length ∧ (k ≤ c → (cntTo c k ps).2 ≤ c)
  | [], k => ⟨Nat.le_refl _, rfl, fun h => h⟩
  | p :: ps, k => by
    rw [cntTo]
    by_cases hc : k + (8 + p.length) ≤ c
    · rw [if_pos hc]
      obtain ⟨a, b, d⟩ := cntTo_at c ps (k + (8 + p.length))
      simp only []
      refine ⟨by rw [List.length_cons]; omega, ?_, fun _ => d hc⟩
      rw [b, List.take_succ_cons, flatF_cons, List.length_append, frameL_len]
      omega
    · rw [if_neg hc]
      exact ⟨Nat.zero_le _, rfl, fun h => h⟩
/-- A frame cut off: more is wanted, or nothing is there. -/
theorem next_torn {p t : List Int} (h1 : 1 ≤ p.length) (h2 : p.length ≤ 1048576) {n : Nat} (hn : n < (frameL p).length) : nextE ((frameL p ++ t).take n) = if n = 0 then 6 else 4 := by
  have hl : ((frameL p ++ t).take n).length = n := by rw [List.length_take, List.length_append]; omega
  unfold nextE
  rw [hl]
  by_cases h0 : n = 0
  · rw [if_pos h0, if_pos h0]
  rw [if_neg h0, if_neg h0]
  by_cases h8 : n < 8
  · rw [if_pos h8]
  rw [if_neg h8]
  have e : cntL ((frameL p ++ t).take n) = p.length := by
    have h := (frame_cnt (t := t) h2).1
    unfold cntL at h ⊢
    rw [List.take_take, show min 4 n = 4 from by omega]
    exact h
  rw [frameL_len] at hn
  rw [e, if_neg (by omega), if_pos (by omega)]
theorem torn_all : ∀ (ps : List (List Int)) (c k : Nat), goodP ps → k ≤ c → c - k ≤ (flatF ps).length →
    AllIs (ps.take (cntTo c k ps).1) ((flatF ps).take (c - k)) ((cntTo c k ps).2 - k) (if (cntTo c k ps).2 = c then 6 else 4)
  | [], c, k, _, hk, hc => by
    have e : c - k = 0 := by simpa [flatF] using hc
    have : k = c := by omega
    subst this
    rw [Nat.sub_self]
    refine ⟨?_, ?_, ?_⟩
    · show (k - k) = 0; omega
    · show nextE (List.drop (k - k) _) = if k = k then 6 else 4
      rw [Nat.sub_self, if_pos rfl]; rfl
    · show (if k = k then 6 else 4) ≠ 0
      rw [if_pos rfl]; decide
  | p :: ps, c, k, h, hk, hc => by
    obtain ⟨h1, h2, h3⟩ := h p List.mem_cons_self
    rw [flatF_cons, List.length_append, frameL_len] at hc
    rw [cntTo]
    by_cases hle : k + (8 + p.length) ≤ c
    · rw [if_pos hle]
      simp only []
      obtain ⟨a, b, d⟩ := torn_all ps c (k + (8 + p.length)) (fun q hq => h q (List.mem_cons_of_mem _ hq)) hle (by omega)
      have hat := cntTo_at c ps (k + (8 + p.length))
      obtain ⟨n1, n2, n3⟩ := next_frame (t := (flatF ps).take (c - (k + (8 + p.length)))) h1 h2 (by omega)
      have et : (flatF (p :: ps)).take (c - k) = frameL p ++ (flatF ps).take (c - (k + (8 + p.length))) := by
        rw [flatF_cons, List.take_append, frameL_len, List.take_of_length_le (by rw [frameL_len]; omega)]
        congr 2
        omega
      have ed : (frameL p ++ (flatF ps).take (c - (k + (8 + p.length)))).drop (8 + p.length) = (flatF ps).take (c - (k + (8 + p.length))) := by
        have := List.drop_left (l₁ := frameL p) (l₂ := (flatF ps).take (c - (k + (8 + p.length))))
        rwa [frameL_len] at this
      rw [et, List.take_succ_cons]
      refine ⟨⟨n1, n2, _, by rw [n3, ed]; exact a, by rw [n3, hat.2.1]; omega⟩, ?_, d⟩
      have e2 : (cntTo c (k + (8 + p.length)) ps).2 - k = (8 + p.length) + ((cntTo c (k + (8 + p.length)) ps).2 - (k + (8 + p.length))) := by rw [hat.2.1]; omega
      rw [e2, ← List.drop_drop, ed]
      exact b
    · rw [if_neg hle]
      simp only []
      rw [Nat.sub_self, List.take_zero]
      refine ⟨rfl, ?_, by split <;> decide⟩
      rw [List.drop_zero, flatF_cons, next_torn h2 (by omega) (by rw [frameL_len]; omega)]
      by_cases hkc : k = c
      · rw [if_pos hkc, if_pos (by omega)]
      · rw [if_neg hkc, if_neg (by omega)]
end
section
open Go.RowKit
/-- A row of the call's own that holds slices which read so; of the blocks of all of them Z holds, none lies in the row's block. -/
def RowZ (Z : Nat → Prop) (w : World) (B : Nat) (v : Value) (ls : List (List Int)) : Prop :=
  ∃ vs : List Value, vs.length = ls.length ∧ w.ownsRow B 70 1 v ls.length vs ∧ ∀ i, i < ls.length → Sees w (vs.getD i undef) (ls.getD i []) ∧ ∀ d, (vs.getD i undef).ownBlock = some d → Z d ∧ d < w.heap.size ∧ v.ownBlock ≠ some d
/-- .. and all of them lie at B or behind. -/
abbrev RowN (w : World) (B : Nat) (v : Value) (ls : List (List Int)) : Prop := RowZ (fun d => B ≤ d) w B v ls
section
variable {Z : Nat → Prop}
theorem RowZ.nil (Z : Nat → Prop) (w : World) (B : Nat) : RowZ Z w B (.slice none 0 0) [] := ⟨[], rfl, World.ownsRow_nil _ _ _ _, fun i hi => by cases hi⟩
theorem RowZ.row {w : World} {B : Nat} {v : Value} {ls : List (List Int)} (h : RowZ Z w B v ls) : RowO w B v ls := by
  obtain ⟨vs, hl, ho, he⟩ := h
  exact ⟨vs, hl, ho, fun i hi => ⟨(he i hi).1, fun d hd => ((he i hi).2 d hd).2⟩⟩
theorem RowZ.sees {w : World} {B : Nat} {v : Value} {ls : List (List Int)} (h : RowZ Z w B v ls) : SeesRow w v ls := h.row.sees
theorem RowZ.lt {w : World} {B : Nat} {v : Value} {ls : List (List Int)} (h : RowZ Z w B v ls) {d : Nat} (hd : v.ownBlock = some d) : B ≤ d ∧ d < w.heap.size := h.row.lt hd
/-- Kept by all that leaves the blocks from B on, and those of Z, up to the heap's end, as they are. -/
theorem RowZ.stay {w w' : World} {B : Nat} {v : Value} {ls : List (List Int)} (h : RowZ Z w B v ls) (hz : w.heap.size ≤ w'.heap.size) (hb : ∀ d, B ≤ d ∨ Z d → d < w.heap.size → w'.heap[d]? = w.heap[d]?) : RowZ Z w' B v ls := by
  obtain ⟨vs, hl, ho, he⟩ := h
  refine ⟨vs, hl, ⟨ho.1, ho.2.imp id fun ⟨g, cap, cur, e, hB, hg, r⟩ => ⟨g, cap, cur, e, hB, (hb g (Or.inl hB) (heap_lt hg)).trans hg, r⟩⟩, fun i hi => ⟨sees_heap (he i hi).1 (fun d hd hlt => hb d (Or.inr ((he i hi).2 d hd).1) hlt), fun d hd => ?_⟩⟩
  have := (he i hi).2 d hd
  exact ⟨this.1, by omega, this.2.2⟩
/-- .. as they are: the row's own block, and those of Z. -/
theorem RowZ.stay1 {w w' : World} {B : Nat} {v : Value} {ls : List (List Int)} (h : RowZ Z w B v ls) (hz : w.heap.size ≤ w'.heap.size) (hb : ∀ d, v.ownBlock = some d ∨ Z d → d < w.heap.size → w'.heap[d]? = w.heap[d]?) : RowZ Z w' B v ls := by
  obtain ⟨vs, hl, ho, he⟩ := h
  refine ⟨vs, hl, ⟨ho.1, ho.2.imp id fun ⟨g, cap, cur, e, hB, hg, r⟩ => ⟨g, cap, cur, e, hB, (hb g (Or.inl (by rw [e]; rfl)) (heap_lt hg)).trans hg, r⟩⟩, fun i hi => ⟨sees_heap (he i hi).1 (fun d hd hlt => hb d (Or.inr ((he i hi).2 d hd).1) hlt), fun d hd => ?_⟩⟩
  have := (he i hi).2 d hd
  exact ⟨this.1, by omega, this.2.2⟩
theorem RowZ.keep {w w' : World} {B : Nat} {v : Value} {ls : List (List Int)} (h : RowZ Z w B v ls) (hb : Below w.heap.size w w') : RowZ Z w' B v ls := h.stay hb.size (fun d _ hd => hb.block d hd)
theorem RowZ.le {w : World} {B B' : Nat} {Z' : Nat → Prop} {v : Value} {ls : List (List Int)} (h : RowZ Z w B v ls) (hb : B' ≤ B) (hz : ∀ d, Z d → Z' d) : RowZ Z' w B' v ls := by
  obtain ⟨vs, hl, ho, he⟩ := h
  exact ⟨vs, hl, ⟨ho.1, ho.2.imp id fun ⟨a, b, c, d, e, f⟩ => ⟨a, b, c, d, Nat.le_trans hb e, f⟩⟩, fun i hi => ⟨(he i hi).1, fun d hd => ⟨hz d ((he i hi).2 d hd).1, ((he i hi).2 d hd).2⟩⟩⟩
end
theorem RowN.stay {w w' : World} {B : Nat} {v : Value} {ls : List (List Int)} (h : RowN w B v ls) (hz : w.heap.size ≤ w'.heap.size) (hb : ∀ d, B ≤ d → d < w.heap.size → w'.heap[d]? = w.heap[d]?) : RowN w' B v ls := RowZ.stay h hz (fun d hd => hb d (hd.elim id id))
theorem RowN.le {w : World} {B B' : Nat} {v : Value} {ls : List (List Int)} (h : RowN w B v ls) (hb : B' ≤ B) : RowN w B' v ls := RowZ.le h hb (fun _ h => Nat.le_trans hb h)
/-- append of one slice to a row of the call's own. -/
theorem wpList_pushZ (Z : Nat → Prop) {w0 : World} {ops : Array Oper} {rest : List Oper} {o : Oper} {a : Act} {Q : Exit → Act → World → Prop} (hgd : o.guard = none) (s x : Operand)
    (ho : o.op = .call { callee := .builtin .append, args := #[s, x], argTypes := #[97, 97] }) (B : Nat) (v u : Value) (ls : List (List Int)) (p : List Int)
    (hs : a.eval s = v) (hx : a.eval x = .slice (some ⟨w0.heap.size, 0, none⟩) 1 1) (hrow : RowZ Z w0 B v ls) (hu : Sees w0 u p) (hud : ∀ d, u.ownBlock = some d → Z d ∧ d < w0.heap.size ∧ v.ownBlock ≠ some d) (hlen : ls.length ≤ 100000) (hB : B ≤ w0.heap.size)
    (h : ∀ v' w', RowZ Z w' B v' (ls ++ [p]) → w0.grownBy w' v.ownBlock → Below B w0 w' → (v'.ownBlock = v.ownBlock ∨ v'.ownBlock = some (w0.heap.size + 1)) → wpList Tryz.prog ops Q rest (a.put o.dst v') w') :
    wpList Tryz.prog ops Q (o :: rest) a (w0.alloc (.cells #[u] 70)) := by
  obtain ⟨i0, hi, hz0, hz1, hz2⟩ := info_parts info22
  obtain ⟨vs, hl, hown, he⟩ := hrow
  refine wpList_append_own_at _ hgd s x 97 ho B 70 i0 (.slice none 0 0) 1 24 Tryz.underlying97 hi hz0 hz1 hz2 rfl (by decide) v _ vs hs (hown.alloc _) ⟨w0.heap.size, 0, none⟩ 1 1 [u] hx rfl (cell_one_new _ _ _) ?_ (by unfold maxLen; omega) (by omega) (by simp; omega) ?_
  · intro y hy
    obtain rfl := List.mem_singleton.1 hy
    obtain ⟨ao, c, rfl, _⟩ := hu
    rfl
  · intro v' w' hown' hgrow _ hat
    have hg0 : w0.grownBy w' v.ownBlock := World.grownBy.trans (b := w0.alloc (.cells #[u] 70)) ⟨rfl, rfl, rfl, by simp, fun k hk _ => Below.heap_alloc w0 _ k hk⟩ hgrow
    rw [show (w0.alloc (.cells #[u] 70)).heap.size = w0.heap.size + 1 from by simp] at hat
    have hsz := hg0.size
    have hsz2 : w0.heap.size + 1 ≤ w'.heap.size := by
      have := hgrow.size
      simp at this
      omega
    refine h v' w' ⟨vs ++ [u], by simp [hl], by rw [List.length_append]; exact hown', fun i hi' => ?_⟩ hg0 ((Below.refl B w0).grown hg0 hB (fun k hk => (hown.lt k hk).1)) hat
    have key : ∀ (y : Value) (q : List Int), Sees w0 y q → (∀ d, y.ownBlock = some d → Z d ∧ d < w0.heap.size ∧ v.ownBlock ≠ some d) → Sees w' y q ∧ ∀ d, y.ownBlock = some d → Z d ∧ d < w'.heap.size ∧ v'.ownBlock ≠ some d := by
      intro y q hy hyd
      refine ⟨sees_heap hy (fun d hd hlt => hg0.block d hlt (fun e => (hyd d hd).2.2 e.symm)), fun d hd => ⟨(hyd d hd).1, by have := (hyd d hd).2.1; omega, fun e => ?_⟩⟩
      rcases hat with h1 | h1
      · exact (hyd d hd).2.2 (h1.symm.trans e)
      · rw [e] at h1
        have := (hyd d hd).2.1
        have := Option.some.inj h1
        omega
    by_cases hlt : i < ls.length
    · have e1 : (vs ++ [u]).getD i undef = vs.getD i undef := by simp only [List.getD]; rw [List.getElem?_append_left (by omega)]
      have e2 : (ls ++ [p]).getD i [] = ls.getD i [] := by simp only [List.getD]; rw [List.getElem?_append_left hlt]
      rw [e1, e2]
      exact key _ _ (he i hlt).1 (he i hlt).2
    · obtain rfl : i = ls.length := by rw [List.length_append, List.length_singleton] at hi'; omega
      have e1 : (vs ++ [u]).getD ls.length undef = u := by simp only [List.getD]; rw [← hl, List.getElem?_concat_length]; rfl
      have e2 : (ls ++ [p]).getD ls.length [] = p := by simp only [List.getD]; rw [List.getElem?_concat_length]; rfl
      rw [e1, e2]
      exact key _ _ hu hud
def AllNew (w : World) (l : List Int) (e : Ending) (w' : World) : Prop :=
  ∃ v' ls k x, e = .returned (.tuple #[v', .int .i64 ((k : Nat) : Int), .int .i64 ((x : Nat) : Int)]) ∧ RowN w' w.heap.size v' ls ∧ AllIs ls l k x ∧ Below w.heap.size w w'
def AllZ (w : World) (v : Value) (l : List Int) (e : Ending) (w' : World) : Prop :=
  ∃ v' ls k x, e = .returned (.tuple #[v', .int .i64 ((k : Nat) : Int), .int .i64 ((x : Nat) : Int)]) ∧ RowZ (fun d => l ≠ [] ∧ v.ownBlock = some d) w' w.heap.size v' ls ∧ AllIs ls l k x ∧ Below w.heap.size w w'
set_option maxHeartbeats 2000000 in
theorem all_new (v : Value) (l : List Int) (w : World) (h : Sees w v l) (hok : okB l) (hl : l.length ≤ 100000) (hE : Env w) :
    Calls Tryz.prog 60 #[v] w (AllNew w l) := by
  have H := Lib.hid h
  obtain ⟨ao, c, rfl, hlc, hnil, hc⟩ := h
  have HO := Lib.hid hok
  clear hc hok
  go_enter Tryz.func60, Tryz.ntmps60
  go_wp2_with fail
  go_loopw [5, 6] (fun v k wr => ∃ ls : List (List Int), ∃ i : Nat, k = .int .i64 i ∧ RowZ (fun d => w.heap.size ≤ d) wr w.heap.size v ls ∧ Steps ls l i ∧ Below w.heap.size w wr) (fun _ k _ => l.length - (intOf k).toNat)
  case atStart => exact ⟨[], 0, rfl, RowZ.nil _ _ _, rfl, Below.refl _ _⟩
  case round =>
    obtain ⟨ls, i, rfl, hrow, hst, hbel⟩ := hrel
    have hr := Steps.room _ _ _ hst
    obtain ⟨a1, S1, hs1⟩ := sees_tail (H.out.keep hbel) hr.2
    have HN := Lib.hid (next_any _ _ wr hs1 (HO.out.drop i) (by rw [List.length_drop]; omega) (hE.below hbel))
    have HR := Lib.hid hr
    have HS := Lib.hid hst
    have HW := Lib.hid hrow
    have b0 : (i : Int) ≤ (l.length : Int) := by omega
    have hB0 := hbel.size
    clear hs1 hr hst hrow
    by_cases hx : nextE (l.drop i) = 0
    · have N1 := Lib.hid (next_room hx)
      have N2 := Lib.hid (Steps.snoc _ _ _ HS.out hx)
      rw [hx] at HN
      have HX := Lib.hid hx
      clear hx
      obtain ⟨n, hn⟩ : ∃ n, n = nextN (l.drop i) := ⟨_, rfl⟩
      obtain ⟨p, hp⟩ : ∃ p, p = nextP (l.drop i) := ⟨_, rfl⟩
      rw [← hn, ← hp] at HN N2
      rw [← hn] at N1
      clear hn hp
      have hlen : ls.length ≤ 100000 ∧ n ≤ l.length - i ∧ 9 ≤ n ∧ i ≤ l.length := by
        have h1 := HR.out; have h2 := N1.out; rw [List.length_drop] at h2; omega
      have s1 : IntKind.i64.wrap ((i : Int) + n) = i + n := IntWalk.i64_in _ (by omega)
      go_wp2_with fail
      refine HN.out.mono ?_; rintro e w1 ⟨v1, rfl, ho1, hb1⟩
      have hrow1 := HW.out.keep hb1
      have hbel1 := bel hbel hb1
      have hz1 := hbel1.size
      obtain ⟨ao1, c1, hv1, -⟩ := id ho1.sees
      subst hv1
      go_wp2_with (first
        | (at_builtin; refine wpList_pushZ (fun d => w.heap.size ≤ d) rfl (.tmp 23) (.tmp 25) rfl w.heap.size u5 (.slice ao1 p.length c1) ls p rfl rfl hrow1 ho1.sees (fun d hd => ⟨by have h1 := (ho1.lt d hd).1; omega, (ho1.lt d hd).2, fun e => by have h1 := (ho1.lt d hd).1; have h2 := (HW.out.lt e).2; omega⟩) hlen.1 (by omega) ?_; intro v2 w2 hrow2 hg2 hb2 hat)
        | fail)
      go_roundw
      case rel => exact ⟨ls ++ [p], i + n, by go_num, hrow2, N2.out, hbel1.trans hb2⟩
      case measure => simp [intOf]; omega
    · have HA : Hid (AllIs ls l i (nextE (l.drop i))) := Lib.hid ⟨HS.out, rfl, hx⟩
      have HX := Lib.hid hx
      have hpos : 0 < nextE (l.drop i) := by omega
      obtain ⟨x, hxe⟩ : ∃ x, x = nextE (l.drop i) := ⟨_, rfl⟩
      rw [← hxe] at HA HN hpos
      have d0 : (((x : Nat) : Int) != 0) = true := by simp; omega
      clear hx hxe
      go_wp2_with fail
      refine HN.out.mono ?_; rintro e w1 ⟨v1, rfl, ho1, hb1⟩
      have hrow1 := HW.out.keep hb1
      have hbel1 := bel hbel hb1
      go_wp2_with fail
      go_ret3
      exact ⟨_, ls, i, x, rfl, hrow1, HA.out, hbel1⟩
set_option maxHeartbeats 2000000 in
theorem rall_z (v : Value) (l : List Int) (w : World) (h : Sees w v l) (hok : okB l) (hl : l.length ≤ 100000) :
    Calls Tryz.prog 65 #[v] w (AllZ w v l) := by
  have H := Lib.hid h
  have HV : Hid (l ≠ [] → ∀ d, v.ownBlock = some d → d < w.heap.size) := Lib.hid (by
    obtain ⟨ao, c, rfl, hlc, hnil, hc⟩ := h
    intro hne d hd
    cases ao with
    | none => cases hd
    | some a =>
      have := cell_lt8 (hc a rfl 0 (List.length_pos_iff.2 hne))
      rw [add_block] at this
      cases hd
      exact this)
  have HO := Lib.hid hok
  clear hok
  go_enter Tryz.func65, Tryz.ntmps65
  go_wp2_with fail
  go_loopw [5, 6] (fun x k wr => ∃ ls : List (List Int), ∃ i : Nat, k = .int .i64 i ∧ RowZ (fun d => l ≠ [] ∧ v.ownBlock = some d) wr w.heap.size x ls ∧ Steps ls l i ∧ Below w.heap.size w wr) (fun _ k _ => l.length - (intOf k).toNat)
  case atStart => exact ⟨[], 0, rfl, RowZ.nil _ _ _, rfl, Below.refl _ _⟩
  case round =>
    obtain ⟨ls, i, rfl, hrow, hst, hbel⟩ := hrel
    have hr := Steps.room _ _ _ hst
    have HN := Lib.hid (rnext_any v l i wr (H.out.keep hbel) HO.out (by omega) hr.2)
    have HR := Lib.hid hr
    have HS := Lib.hid hst
    have HW := Lib.hid hrow
    have hB0 := hbel.size
    clear hr hst hrow h
    by_cases hx : nextE (l.drop i) = 0
    · have N1 := Lib.hid (next_room hx)
      have N2 := Lib.hid (Steps.snoc _ _ _ HS.out hx)
      rw [hx] at HN
      have HX := Lib.hid hx
      clear hx
      obtain ⟨n, hn⟩ : ∃ n, n = nextN (l.drop i) := ⟨_, rfl⟩
      obtain ⟨p, hp⟩ : ∃ p, p = nextP (l.drop i) := ⟨_, rfl⟩
      rw [← hn, ← hp] at N1 N2
      rw [← hp] at HN
      clear hn hp
      have hlen : ls.length ≤ 100000 ∧ n ≤ l.length - i ∧ 9 ≤ n ∧ i ≤ l.length ∧ p.length + 8 = n := by
        have h1 := HR.out; have h2 := N1.out; rw [List.length_drop] at h2; omega
      have hne : l ≠ [] := by rintro rfl; simp at hlen; omega
      have HV := Lib.hid (HV.out hne)
      have HNE := Lib.hid hne
      obtain rfl : p.length + 8 = n := hlen.2.2.2.2
      have s0 : IntKind.i64.wrap (8 + (p.length : Int)) = 8 + p.length := IntWalk.i64_in _ (by omega)
      have s1 : IntKind.i64.wrap ((i : Int) + (8 + p.length)) = i + (8 + p.length) := IntWalk.i64_in _ (by omega)
      clear hne
      go_wp2_with fail
      refine HN.out.mono ?_; rintro e w1 ⟨v1, rfl, hs1, hd1, rfl⟩
      obtain ⟨ao1, c1, hv1, -⟩ := id hs1
      subst hv1
      go_wp2_with (first
        | (at_builtin; refine wpList_pushZ (fun d => l ≠ [] ∧ v.ownBlock = some d) rfl (.tmp 20) (.tmp 22) rfl w.heap.size u5 (.slice ao1 p.length c1) ls p rfl rfl HW.out hs1 (fun d hd => ⟨⟨HNE.out, hd1 d hd⟩, Nat.lt_of_lt_of_le (HV.out d (hd1 d hd)) hB0, fun e => Nat.not_lt.2 (HW.out.lt e).1 (HV.out d (hd1 d hd))⟩) hlen.1 hB0 ?_; intro v2 w2 hrow2 hg2 hb2 hat)
        | fail)
      go_roundw
      case rel => exact ⟨ls ++ [p], i + (p.length + 8), by go_num, hrow2, N2.out, hbel.trans hb2⟩
      case measure => simp [intOf]; omega
    · have HA : Hid (AllIs ls l i (nextE (l.drop i))) := Lib.hid ⟨HS.out, rfl, hx⟩
      have HX := Lib.hid hx
      have hpos : 0 < nextE (l.drop i) := by omega
      obtain ⟨x, hxe⟩ : ∃ x, x = nextE (l.drop i) := ⟨_, rfl⟩
      rw [← hxe] at HA HN hpos
      have d0 : (((x : Nat) : Int) != 0) = true := by simp; omega
      clear hx hxe
      go_wp2_with fail
      refine HN.out.mono ?_; rintro e w1 ⟨v1, rfl, hs1, hd1, rfl⟩
      go_wp2_with fail
      go_ret3
      exact ⟨_, ls, i, x, rfl, HW.out, HA.out, hbel⟩
end
end Go.Proofs.YtbbefakmpmniiaaGreatDoor
