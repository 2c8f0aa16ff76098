/- Joined: Fr FrNext FrRef FrAll FrLaw FrMany FrTorn FrNew. -/
import Derived.Test.YtbbefakmpmniiaaGreatDoorSSum
import Derived.Test.YtbbefakmpmniiaaGreatDoorSPk
import Derived.Maps.AppendAt
namespace Go.Proofs.YtbbefakmpmniiaaGreatDoor
section
open Go.RowKit
def sizeN (n : Int) : Int := if 1 ≤ n ∧ n ≤ 1048576 then 8 + n else 0
set_option maxHeartbeats 400000 in
theorem size_any (n : Int) (w : World) :
    Calls Tryz.prog 157 #[.int .i64 n] w fun e w' => e = .returned (.int .i64 (sizeN n)) ∧ w = w' := by
  by_cases h0 : n < 1
  · have d0 : decide (n < 1) = true := by simpa using h0
    have HV : Hid (0 = sizeN n) := Lib.hid (by unfold sizeN; rw [if_neg (by omega)])
    go_enter Tryz.func157, Tryz.ntmps157
    go_wp2
    go_ret
    exact ⟨congrArg (fun n => Ending.returned (.int .i64 n)) HV.out, rfl⟩
  · have d0 : decide (n < 1) = false := by simpa using h0
    by_cases h1 : 1048576 < n
    · have d1 : decide (1048576 < n) = true := by simpa using h1
      have HV : Hid (0 = sizeN n) := Lib.hid (by unfold sizeN; rw [if_neg (by omega)])
      go_enter Tryz.func157, Tryz.ntmps157
      go_wp2
      go_ret
      exact ⟨congrArg (fun n => Ending.returned (.int .i64 n)) HV.out, rfl⟩
    · have d1 : decide (1048576 < n) = false := by simpa using h1
      have HV : Hid (8 + n = sizeN n) := Lib.hid (by unfold sizeN; rw [if_pos (by omega)])
      have s1 : IntKind.i64.wrap (8 + n) = 8 + n := IntWalk.i64_in _ (by omega)
      go_enter Tryz.func157, Tryz.ntmps157
      go_wp2
      go_ret
      exact ⟨congrArg (fun n => Ending.returned (.int .i64 n)) HV.out, rfl⟩
/-- A record's frame. -/
def frameL (p : List Int) : List Int := putL p.length 4 ++ putL (ofN p) 4 ++ p
theorem putL4 (n : Int) : putL n 4 = numBytes n 4 := by unfold putL wOk; rw [if_pos (by decide)]; rfl
theorem putL4_len (n : Int) : (putL n 4).length = 4 := by rw [putL4, numBytes_length]
theorem frameL_len (p : List Int) : (frameL p).length = 8 + p.length := by unfold frameL; rw [List.length_append, List.length_append, putL4_len, putL4_len]
theorem frameL_ok {p : List Int} (h : okB p) : okB (frameL p) := okB_append (okB_append (okB_put _ _) (okB_put _ _)) h
set_option maxHeartbeats 1000000 in
theorem fput_any (v : Value) (p : List Int) (w : World) (h : Sees w v p) (hok : okB p) (h1 : 1 ≤ p.length) (h2 : p.length ≤ 1048576) (hE : Env w) :
    Calls Tryz.prog 132 #[v] w fun e w' => ∃ v', e = .returned (.tuple #[v', .int .i64 0]) ∧ Owns w' w.heap.size v' (frameL p) ∧ Below w.heap.size w w' := by
  have H := Lib.hid h
  have HP0 := Lib.hid (put_any (.slice none 0 0) [] p.length 4 w (Sees.nil w) (Nat.zero_le _))
  have HS := Lib.hid (size_any p.length w)
  obtain ⟨ao, c, rfl, hlc, hnil, hc⟩ := h
  have d0 : (sizeN (p.length : Int) == 0) = false := by unfold sizeN; rw [if_pos (by omega)]; simp; omega
  have s0 : IntKind.u64.wrap (p.length : Int) = p.length := IntWalk.u64_in _ (by omega)
  have o1 := ofN_lt hok
  have s1 : IntKind.u64.wrap ((ofN p : Nat) : Int) = (ofN p : Nat) := IntWalk.u64_in _ (by omega)
  have HO := Lib.hid hok
  clear hc hok
  go_enter Tryz.func132, Tryz.ntmps132
  go_wp2_with fail
  refine HS.out.mono ?_; rintro e w' ⟨rfl, rfl⟩
  go_wp2_with fail
  refine HP0.out.mono ?_; rintro e w1 ⟨v1, rfl, ho1, hb1⟩
  rw [List.nil_append] at ho1
  go_wp2_with fail
  refine (of_any _ p _ (H.out.keep hb1) HO.out (by omega) (hE.below hb1)).mono ?_; rintro e w' ⟨rfl, rfl⟩
  go_wp2_with fail
  refine (put_any v1 _ (ofN p : Nat) 4 _ ho1.sees (by rw [putL4_len]; omega)).mono ?_; rintro e w2 ⟨v2, rfl, ho2, hb2⟩
  obtain ⟨g, cap, rfl, hB, -, -, -, -⟩ := ho2.at (by rw [putL4]; simp [numBytes])
  have hb3 := bel hb1 hb2
  have hk := H.out.keep hb3
  have hz := hb1.size
  have hz2 := hb2.size
  go_wp2_with (first | (at_builtin; refine wpList_append_sees rfl (.tmp 17) (.tmp 18) rfl w1.heap.size g cap _ p _ rfl rfl ho2 hk (by rw [List.length_append, putL4_len, putL4_len]; omega) (by omega) ?_; intro g1 c1 w3 ho3 hg3) | go_in)
  refine bodyPost_ret (v := .tuple #[.slice (some ⟨g1, 0, none⟩) (putL p.length 4 ++ putL (ofN p) 4 ++ p).length c1, .int .i64 0]) ?_ rfl ⟨_, rfl, ?_, hb3.grown hg3 hb3.size (fun k hk => by cases hk; omega)⟩
  · simp [results, Tryz.results132, go_sem]
  · exact ho3.le hz
theorem fput_no (v : Value) (w : World) (h : Sees w v []) :
    Calls Tryz.prog 132 #[v] w fun e w' => e = .returned (.tuple #[.slice none 0 0, .int .i64 1]) ∧ w = w' := by
  have HS := Lib.hid (size_any 0 w)
  obtain ⟨ao, c, rfl, hlc, hnil, hc⟩ := h
  have d0 : (sizeN 0 == 0) = true := by decide
  clear hc
  go_enter Tryz.func132, Tryz.ntmps132
  go_wp2_with fail
  refine HS.out.mono ?_; rintro e w' ⟨rfl, rfl⟩
  go_wp2_with fail
  go_ret2
  exact ⟨rfl, rfl⟩
end
section
open Go.RowKit
/-- How many bytes the record at the beginning of l says that it has; these; and what is told of l. -/
def cntL (l : List Int) : Nat := (numBE (l.take 4)).toNat
def recL (l : List Int) : List Int := (l.drop 8).take (cntL l)
def nextE (l : List Int) : Nat := if l.length = 0 then 6 else if l.length < 8 then 4 else if cntL l = 0 ∨ 1048576 < cntL l then 3 else if l.length - 8 < cntL l then 4 else if numBE ((l.drop 4).take 4) = ofN (recL l) then 0 else 5
def nextP (l : List Int) : List Int := if nextE l = 0 then recL l else []
def nextN (l : List Int) : Nat := if nextE l = 0 then 8 + (recL l).length else 0
theorem numBE4 {l : List Int} (h : okB l) (hl : l.length ≤ 4) : 0 ≤ numBE l ∧ numBE l < 4294967296 := by
  obtain ⟨a, b⟩ := numBE_bd l h
  refine ⟨a, Int.lt_of_lt_of_le b ?_⟩
  have h1 : (256 : Nat) ^ l.length ≤ 256 ^ 4 := Nat.pow_le_pow_right (by omega) hl
  have h2 : ((256 ^ l.length : Nat) : Int) ≤ ((256 ^ 4 : Nat) : Int) := Int.ofNat_le.2 h1
  rw [Int.natCast_pow] at h2
  simpa using h2
theorem cnt_cast {l : List Int} (h : okB l) : numBE (l.take 4) = (cntL l : Int) ∧ cntL l < 4294967296 := by
  obtain ⟨a, b⟩ := numBE4 (h.take 4) (by rw [List.length_take]; omega)
  unfold cntL
  omega
theorem rd8a {l : List Int} (h : 8 ≤ l.length) : rdU (some (l.take 8)) 4 = (numBE (l.take 4), some ((l.take 8).drop 4)) := by
  have e : rdB (some (l.take 8)) ((4 : Nat) : Int) = ((l.take 8).take 4, some ((l.take 8).drop 4)) := rdB_yes (by rw [List.length_take]; omega)
  unfold rdU
  rw [if_pos (by decide), show (4 : Int) = ((4 : Nat) : Int) from rfl, e, List.take_take]
  rfl
theorem rd8b {l : List Int} (h : 8 ≤ l.length) : rdU (some ((l.take 8).drop 4)) 4 = (numBE ((l.drop 4).take 4), some []) := by
  have e0 : (l.take 8).drop 4 = (l.drop 4).take 4 := by rw [List.drop_take]
  have e : rdB (some ((l.drop 4).take 4)) ((4 : Nat) : Int) = (((l.drop 4).take 4).take 4, some (((l.drop 4).take 4).drop 4)) := rdB_yes (by rw [List.length_take, List.length_drop]; omega)
  unfold rdU
  rw [if_pos (by decide), e0, show (4 : Int) = ((4 : Nat) : Int) from rfl, e, List.take_take, List.drop_take]
  simp
theorem slice_lo {ao : Option Addr} {n c i : Nat} (k : Int) (hk : k = i) (hi : i ≤ n) : ∃ ao', (ao' = ao.map (fun x => x.add i) ∨ c = i ∧ ao' = ao) ∧
    ∀ w, (Instr.sliceAt 70 (.slice ao n c) (some (.int .i64 k)) none none).run Tryz.prog w = .ok (.slice ao' (n - i) (c - i)) w := by
  subst hk
  by_cases h : c = i
  · refine ⟨ao, Or.inr ⟨h, rfl⟩, fun w => ?_⟩
    simp [go_sem, Tryz.underlying70, hi, h]
  · refine ⟨_, Or.inl rfl, fun w => ?_⟩
    simp [go_sem, Tryz.underlying70, hi, h]
theorem sees_head {w : World} {ao : Option Addr} {c : Nat} {xs : List Int} (h : Sees w (.slice ao xs.length c) xs) {n : Nat} (hn : n ≤ xs.length) : Sees w (.slice ao n c) (xs.take n) := by
  obtain ⟨ao0, c0, he, hlc, hnil, hc⟩ := h
  cases he
  have e : (xs.take n).length = n := by rw [List.length_take]; omega
  refine ⟨ao, c, by rw [e], by omega, fun h => by rw [hnil h]; exact List.take_nil, fun a ha i hi => ?_⟩
  rw [e] at hi
  rw [hc a ha i (by omega)]
  simp only [List.getD, List.getElem?_take, if_pos hi]
theorem next_bad {l : List Int} {e : Nat} (h : nextE l = e) (he : e ≠ 0) : nextP l = [] ∧ nextN l = 0 := by
  unfold nextP nextN
  rw [h, if_neg he, if_neg he]
  exact ⟨rfl, rfl⟩
set_option maxHeartbeats 1000000 in
theorem next_any (v : Value) (l : List Int) (w : World) (h : Sees w v l) (hok : okB l) (hl : l.length ≤ 100000000000000) (hE : Env w) :
    Calls Tryz.prog 100 #[v] w fun e w' => ∃ v', e = .returned (.tuple #[v', .int .i64 (nextN l), .int .i64 (nextE l)]) ∧ Owns w' w.heap.size v' (nextP l) ∧ Below w.heap.size w w' := by
  have H := Lib.hid h
  obtain ⟨ao, c, rfl, hlc, hnil, hc⟩ := h
  have HO := Lib.hid hok
  clear hc
  by_cases h0 : l.length = 0
  · have d0 : (((l.length : Nat) : Int) == 0) = true := by simp [h0]
    have d1 : l = [] := List.eq_nil_of_length_eq_zero h0
    clear hok
    subst d1
    go_enter Tryz.func100, Tryz.ntmps100
    go_wp2_with fail
    go_ret3
    exact ⟨_, rfl, Owns.nil _ _, Below.refl _ _⟩
  · have d0 : (((l.length : Nat) : Int) == 0) = false := by simpa using h0
    by_cases h8 : l.length < 8
    · have d1 : decide (((l.length : Nat) : Int) < 8) = true := by simp; omega
      have e1 : Hid (nextE l = 4) := Lib.hid (by unfold nextE; rw [if_neg h0, if_pos h8])
      have e2 : Hid (nextP l = [] ∧ nextN l = 0) := Lib.hid (by unfold nextP nextN; rw [e1.out]; exact ⟨rfl, rfl⟩)
      clear hok
      go_enter Tryz.func100, Tryz.ntmps100
      go_wp2_with fail
      go_ret3
      rw [e1.out, e2.out.1, e2.out.2]
      exact ⟨_, rfl, Owns.nil _ _, Below.refl _ _⟩
    · have d1 : decide (((l.length : Nat) : Int) < 8) = false := by simp; omega
      have hN := Lib.hid (new_any (.slice ao 8 c) (l.take 8) w (sees_head H.out (by omega)) (hok.take 8) (by rw [List.length_take]; omega))
      obtain ⟨hC, hC'⟩ := cnt_cast hok
      obtain ⟨x0, x1⟩ := numBE4 (l := (l.drop 4).take 4) ((hok.drop 4).take 4) (by rw [List.length_take]; omega)
      have HA := Lib.hid (rd8a (l := l) (by omega))
      have HB := Lib.hid (rd8b (l := l) (by omega))
      rw [hC] at HA
      obtain ⟨ao', h', S8⟩ := slice_lo (ao := ao) (n := l.length) (c := c) (i := 8) 8 rfl (by omega)
      have HE : Hid (nextE l = if cntL l = 0 ∨ 1048576 < cntL l then 3 else if l.length - 8 < cntL l then 4 else if numBE ((l.drop 4).take 4) = ofN (recL l) then 0 else 5) := Lib.hid (by unfold nextE; rw [if_neg h0, if_neg h8])
      have HP : Hid (cntL l ≤ l.length - 8 → Sees w (.slice ao' (cntL l) (c - 8)) (recL l)) := Lib.hid fun hh => (sees_piece H.out (i := 8) (n := cntL l) (by omega) ao' h').1
      have HRl : Hid (cntL l ≤ l.length - 8 → (recL l).length = cntL l) := Lib.hid fun hh => by unfold recL; rw [List.length_take, List.length_drop]; omega
      have HRo := Lib.hid (show okB (recL l) from (hok.drop 8).take _)
      have o1 := ofN_lt HRo.out
      obtain ⟨C, hCe⟩ : ∃ C, C = cntL l := ⟨_, rfl⟩
      obtain ⟨X, hX⟩ : ∃ X, X = numBE ((l.drop 4).take 4) := ⟨_, rfl⟩
      rw [← hCe] at HA HE HP HRl hC'
      rw [← hX] at HB HE x0 x1
      have HCe := Lib.hid hCe
      clear hok hC h' hCe hX
      have s8 : IntKind.u64.wrap ((l.length - 8 : Nat) : Int) = (l.length - 8 : Nat) := IntWalk.u64_in _ (by omega)
      have s9 : IntKind.i64.wrap (8 + (C : Int)) = 8 + C := IntWalk.i64_in _ (by omega)
      have s10 : IntKind.u64.wrap ((ofN (recL l) : Nat) : Int) = (ofN (recL l) : Nat) := IntWalk.u64_in _ (by omega)
      go_enter Tryz.func100, Tryz.ntmps100
      go_wp2_with fail
      refine hN.out.mono ?_; rintro e w1 ⟨g, rfl, hr1, hg, hb1⟩
      go_wp2_with fail
      refine (u_any g g _ 4 _ hr1).mono ?_; rintro e w2 ⟨he, hr2, hg2⟩
      rw [HA.out] at he hr2
      subst he
      dsimp only at hr2
      have hb2 := hb1.grown hg2 hb1.size (fun k hk => by cases hk; exact hg)
      go_wp2_with fail
      refine (u_any g g _ 4 _ hr2).mono ?_; rintro e w3 ⟨he, hr3, hg3⟩
      rw [HB.out] at he
      subst he
      have hb3 := hb2.grown hg3 hb2.size (fun k hk => by cases hk; exact hg)
      dsimp only
      clear hr1 hr2 hr3 hg2 hg3 hb1 hb2
      go_wp2_with fail
      · have hh : C = 0 := by assumption
        have e1 := HE.out
        rw [if_pos (Or.inl hh)] at e1
        obtain ⟨e2, e3⟩ := next_bad e1 (by decide)
        go_ret3
        rw [e1, e2, e3]
        exact ⟨_, rfl, Owns.nil _ _, hb3⟩
      · have hh : 1048576 < C := by
          have g1 : ¬ C = 0 := by assumption
          have g2 : ((C : Int) == 0) = true ∨ (1048576 : Int) < C := by assumption
          rcases g2 with g2 | g2
          · exact absurd (by simpa using g2) g1
          · omega
        have e1 := HE.out
        rw [if_pos (Or.inr hh)] at e1
        obtain ⟨e2, e3⟩ := next_bad e1 (by decide)
        go_ret3
        rw [e1, e2, e3]
        exact ⟨_, rfl, Owns.nil _ _, hb3⟩
      · have g1 : ¬ C = 0 := by assumption
        have g2 : C ≤ 1048576 := by
          have g2 : ((C : Int) == 0) = false ∧ (C : Int) ≤ 1048576 := by assumption
          omega
        have hh : l.length - 8 < C := by omega
        have e1 := HE.out
        rw [if_neg (by omega), if_pos hh] at e1
        obtain ⟨e2, e3⟩ := next_bad e1 (by decide)
        go_ret3
        rw [e1, e2, e3]
        exact ⟨_, rfl, Owns.nil _ _, hb3⟩
      · have g1 : ¬ C = 0 := by assumption
        have g2 : C ≤ 1048576 := by
          have g2 : ((C : Int) == 0) = false ∧ (C : Int) ≤ 1048576 := by assumption
          omega
        have g3 : C ≤ l.length - 8 := by omega
        have k1 := (HP.out g3).keep hb3
        have k2 := HRl.out g3
        have KE := Lib.hid HE.out
        rw [if_neg (by omega), if_neg (by omega)] at KE
        refine (of_any _ (recL l) _ k1 HRo.out (by omega) (hE.below hb3)).mono ?_; rintro e w' ⟨rfl, rfl⟩
        have K2 := Lib.hid k2
        clear k2
        by_cases hx : X = ofN (recL l)
        · have q1 : (((ofN (recL l) : Nat) : Int) != X) = false := by simp [hx]
          rw [if_pos hx] at KE
          have HX := Lib.hid hx
          clear hx
          go_wp2_with fail
          refine (clone_any _ (recL l) _ k1 (by rw [K2.out]; omega)).mono ?_; rintro e w4 ⟨v4, rfl, ho4, hb4⟩
          go_wp2_with fail
          go_ret3
          have e2 : nextP l = recL l ∧ nextN l = 8 + (recL l).length := by unfold nextP nextN; rw [KE.out]; exact ⟨rfl, rfl⟩
          rw [KE.out, e2.1, e2.2, K2.out]
          exact ⟨_, rfl, ho4.le hb3.size, bel hb3 hb4⟩
        · have q1 : (((ofN (recL l) : Nat) : Int) != X) = true := by simp; omega
          rw [if_neg hx] at KE
          have HX := Lib.hid hx
          clear hx
          obtain ⟨e2, e3⟩ := next_bad KE.out (by decide)
          have E2 := Lib.hid e2
          have E3 := Lib.hid e3
          clear e2 e3
          go_wp2_with fail
          go_ret3
          rw [KE.out, E2.out, E3.out]
          exact ⟨_, rfl, Owns.nil _ _, hb3⟩
end
section
open Go.RowKit
end
section
open Go.RowKit
/-- A row of the call's own that holds slices which read so; none of them lies in the row's block. -/
def RowO (w : World) (B : Nat) (v : Value) (ls : List (List Int)) : Prop :=
  ∃ vs : List Value, vs.length = ls.length ∧ w.ownsRow B 70 1 v ls.length vs ∧ ∀ i, i < ls.length → Sees w (vs.getD i undef) (ls.getD i []) ∧ ∀ d, (vs.getD i undef).ownBlock = some d → d < w.heap.size ∧ v.ownBlock ≠ some d
theorem RowO.nil (w : World) (B : Nat) : RowO w B (.slice none 0 0) [] := ⟨[], rfl, World.ownsRow_nil _ _ _ _, fun i hi => by cases hi⟩
theorem RowO.sees {w : World} {B : Nat} {v : Value} {ls : List (List Int)} (h : RowO w B v ls) : SeesRow w v ls := by
  obtain ⟨vs, hl, ho, he⟩ := h
  have hc := fun g hg => World.ownsRow.cells ho (g := g) hg
  obtain ⟨_, ⟨rfl, hn⟩ | ⟨g, cap, cur, rfl, _, _, hnc, _, _, _⟩⟩ := ho
  · obtain rfl := List.eq_nil_of_length_eq_zero hn
    exact ⟨none, 0, rfl, Nat.le_refl _, fun _ => rfl, fun a ha => by cases ha⟩
  · exact ⟨some ⟨g, 0, none⟩, cap, rfl, hnc, (fun e => by cases e), fun a ha i hi => (by
      cases ha
      exact ⟨vs.getD i undef, hc g rfl i _ (by simp [List.getD, List.getElem?_eq_getElem (show i < vs.length by omega)]), (he i hi).1⟩)⟩
theorem RowO.keep {w w' : World} {B : Nat} {v : Value} {ls : List (List Int)} (h : RowO w B v ls) (hb : Below w.heap.size w w') : RowO w' B v ls := by
  obtain ⟨vs, hl, ho, he⟩ := h
  refine ⟨vs, hl, ⟨ho.1, ho.2.imp id fun ⟨g, cap, cur, e, hB, hg, r⟩ => ⟨g, cap, cur, e, hB, (hb.block g (heap_lt hg)).trans hg, r⟩⟩, fun i hi => ⟨(he i hi).1.keep hb, fun d hd => ⟨?_, ((he i hi).2 d hd).2⟩⟩⟩
  exact Nat.lt_of_lt_of_le ((he i hi).2 d hd).1 hb.size
theorem RowO.le {w : World} {B B' : Nat} {v : Value} {ls : List (List Int)} (h : RowO w B v ls) (hb : B' ≤ B) : RowO w B' v ls := by
  obtain ⟨vs, hl, ho, he⟩ := h
  exact ⟨vs, hl, ⟨ho.1, ho.2.imp id fun ⟨a, b, c, d, e, f⟩ => ⟨a, b, c, d, Nat.le_trans hb e, f⟩⟩, he⟩
theorem RowO.lt {w : World} {B : Nat} {v : Value} {ls : List (List Int)} (h : RowO w B v ls) {d : Nat} (hd : v.ownBlock = some d) : B ≤ d ∧ d < w.heap.size := by
  obtain ⟨vs, hl, ho, he⟩ := h
  exact ho.lt d hd
theorem info22 : (Tryz.prog.info? 70).map (fun i => (i.zero, i.size, i.bytes)) = some (some (.slice none 0 0), 1, 24) := by kernel_rfl
/-- append of one slice to a row of the call's own. -/
theorem wpList_push {w0 : World} {ops : Array Oper} {rest : List Oper} {o : Oper} {a : Act} {Q : Exit → Act → World → Prop} (hgd : o.guard = none) (s x : Operand)
    (ho : o.op = .call { callee := .builtin .append, args := #[s, x], argTypes := #[97, 97] }) (B : Nat) (v u : Value) (ls : List (List Int)) (p : List Int)
    (hs : a.eval s = v) (hx : a.eval x = .slice (some ⟨w0.heap.size, 0, none⟩) 1 1) (hrow : RowO w0 B v ls) (hu : Sees w0 u p) (hud : ∀ d, u.ownBlock = some d → d < w0.heap.size ∧ v.ownBlock ≠ some d) (hlen : ls.length ≤ 100000) (hB : B ≤ w0.heap.size)
    (h : ∀ v' w', RowO w' B v' (ls ++ [p]) → w0.grownBy w' v.ownBlock → Below B w0 w' → (v'.ownBlock = v.ownBlock ∨ v'.ownBlock = some (w0.heap.size + 1)) → wpList Tryz.prog ops Q rest (a.put o.dst v') w') :
    wpList Tryz.prog ops Q (o :: rest) a (w0.alloc (.cells #[u] 70)) := by
  obtain ⟨i0, hi, hz0, hz1, hz2⟩ := info_parts info22
  obtain ⟨vs, hl, hown, he⟩ := hrow
  refine wpList_append_own_at _ hgd s x 97 ho B 70 i0 (.slice none 0 0) 1 24 Tryz.underlying97 hi hz0 hz1 hz2 rfl (by decide) v _ vs hs (hown.alloc _) ⟨w0.heap.size, 0, none⟩ 1 1 [u] hx rfl (cell_one_new _ _ _) ?_ (by unfold maxLen; omega) (by omega) (by simp; omega) ?_
  · intro y hy
    obtain rfl := List.mem_singleton.1 hy
    obtain ⟨ao, c, rfl, _⟩ := hu
    rfl
  · intro v' w' hown' hgrow _ hat
    have hg0 : w0.grownBy w' v.ownBlock := World.grownBy.trans (b := w0.alloc (.cells #[u] 70)) ⟨rfl, rfl, rfl, by simp, fun k hk _ => Below.heap_alloc w0 _ k hk⟩ hgrow
    rw [show (w0.alloc (.cells #[u] 70)).heap.size = w0.heap.size + 1 from by simp] at hat
    have hsz := hg0.size
    have hsz2 : w0.heap.size + 1 ≤ w'.heap.size := by
      have := hgrow.size
      simp at this
      omega
    refine h v' w' ⟨vs ++ [u], by simp [hl], by rw [List.length_append]; exact hown', fun i hi' => ?_⟩ hg0 ((Below.refl B w0).grown hg0 hB (fun k hk => (hown.lt k hk).1)) hat
    have key : ∀ (y : Value) (q : List Int), Sees w0 y q → (∀ d, y.ownBlock = some d → d < w0.heap.size ∧ v.ownBlock ≠ some d) → Sees w' y q ∧ ∀ d, y.ownBlock = some d → d < w'.heap.size ∧ v'.ownBlock ≠ some d := by
      intro y q hy hyd
      refine ⟨sees_heap hy (fun d hd hlt => hg0.block d hlt (fun e => (hyd d hd).2 e.symm)), fun d hd => ⟨by have := (hyd d hd).1; omega, fun e => ?_⟩⟩
      rcases hat with h1 | h1
      · exact (hyd d hd).2 (h1.symm.trans e)
      · rw [e] at h1
        have := (hyd d hd).1
        have := Option.some.inj h1
        omega
    by_cases hlt : i < ls.length
    · have e1 : (vs ++ [u]).getD i undef = vs.getD i undef := by simp only [List.getD]; rw [List.getElem?_append_left (by omega)]
      have e2 : (ls ++ [p]).getD i [] = ls.getD i [] := by simp only [List.getD]; rw [List.getElem?_append_left hlt]
      rw [e1, e2]
      exact key _ _ (he i hlt).1 (he i hlt).2
    · obtain rfl : i = ls.length := by rw [List.length_append, List.length_singleton] at hi'; omega
      have e1 : (vs ++ [u]).getD ls.length undef = u := by simp only [List.getD]; rw [← hl, List.getElem?_concat_length]; rfl
      have e2 : (ls ++ [p]).getD ls.length [] = p := by simp only [List.getD]; rw [List.getElem?_concat_length]; rfl
      rw [e1, e2]
      exact key _ _ hu hud
/-! All records, one behind the other. -/
def Steps : List (List Int) → List Int → Nat → Prop
  | [], _, k => k = 0
  | p :: ls, l, k => nextE l = 0 ∧ nextP l = p ∧ ∃ k', Steps ls (l.drop (nextN l)) k' ∧ k = nextN l + k'
theorem Steps.snoc : ∀ (ls : List (List Int)) (l : List Int) (k : Nat), Steps ls l k → nextE (l.drop k) = 0 → Steps (ls ++ [nextP (l.drop k)]) l (k + nextN (l.drop k))
  | [], l, k, h, he => by
    obtain rfl : k = 0 := h
    rw [List.drop_zero] at he
    rw [List.drop_zero]
    exact ⟨he, rfl, 0, rfl, by omega⟩
  | p :: ls, l, k, h, he => by
    obtain ⟨h1, h2, k', h3, rfl⟩ := h
    rw [← List.drop_drop] at he
    have ih := Steps.snoc ls _ _ h3 he
    rw [List.drop_drop] at ih
    exact ⟨h1, h2, _, ih, by omega⟩
def AllIs (ls : List (List Int)) (l : List Int) (k e : Nat) : Prop := Steps ls l k ∧ nextE (l.drop k) = e ∧ e ≠ 0
theorem AllIs.same : ∀ (ls ls' : List (List Int)) (l : List Int) (k k' e e' : Nat), AllIs ls l k e → AllIs ls' l k' e' → ls = ls' ∧ k = k' ∧ e = e'
  | [], [], l, k, k', e, e', h, h' => by
    obtain ⟨rfl, h2, _⟩ := h
    obtain ⟨rfl, h3, _⟩ := h'
    exact ⟨rfl, rfl, h2.symm.trans h3⟩
  | [], p :: ls', l, k, k', e, e', h, h' => by
    obtain ⟨rfl, h2, h3⟩ := h
    obtain ⟨⟨h4, _⟩, _⟩ := h'
    rw [List.drop_zero] at h2
    exact absurd (h2.symm.trans h4) h3
  | p :: ls, [], l, k, k', e, e', h, h' => by
    obtain ⟨rfl, h2, h3⟩ := h'
    obtain ⟨⟨h4, _⟩, _⟩ := h
    rw [List.drop_zero] at h2
    exact absurd (h2.symm.trans h4) h3
  | p :: ls, p' :: ls', l, k, k', e, e', h, h' => by
    obtain ⟨⟨h1, h2, m, h3, rfl⟩, h4, h5⟩ := h
    obtain ⟨⟨g1, g2, m', g3, rfl⟩, g4, g5⟩ := h'
    rw [← List.drop_drop] at h4 g4
    obtain ⟨r1, r2, r3⟩ := AllIs.same ls ls' _ m m' e e' ⟨h3, h4, h5⟩ ⟨g3, g4, g5⟩
    exact ⟨by rw [← h2, ← g2, r1], by rw [r2], r3⟩
theorem next_room {l : List Int} (h : nextE l = 0) : 9 ≤ nextN l ∧ nextN l ≤ l.length ∧ (nextP l).length + 8 = nextN l := by
  have e1 : nextN l = 8 + (recL l).length ∧ nextP l = recL l := by unfold nextN nextP; rw [if_pos h, if_pos h]; exact ⟨rfl, rfl⟩
  unfold nextE at h
  by_cases h0 : l.length = 0
  · rw [if_pos h0] at h; cases h
  rw [if_neg h0] at h
  by_cases h1 : l.length < 8
  · rw [if_pos h1] at h; cases h
  rw [if_neg h1] at h
  by_cases h2 : cntL l = 0 ∨ 1048576 < cntL l
  · rw [if_pos h2] at h; cases h
  rw [if_neg h2] at h
  by_cases h3 : l.length - 8 < cntL l
  · rw [if_pos h3] at h; cases h
  have e2 : (recL l).length = cntL l := by unfold recL; rw [List.length_take, List.length_drop]; omega
  rw [e1.1, e1.2, e2]
  omega
theorem Steps.room : ∀ (ls : List (List Int)) (l : List Int) (k : Nat), Steps ls l k → 9 * ls.length ≤ k ∧ k ≤ l.length
  | [], l, k, h => by
    obtain rfl : k = 0 := h
    simp
  | p :: ls, l, k, h => by
    obtain ⟨h1, h2, k', h3, rfl⟩ := h
    have a := next_room h1
    have b := Steps.room ls _ _ h3
    rw [List.length_drop] at b
    rw [List.length_cons]
    omega
theorem sees_tail {w : World} {ao : Option Addr} {c : Nat} {l : List Int} (h : Sees w (.slice ao l.length c) l) {k : Nat} (hk : k ≤ l.length) : ∃ ao',
    (∀ w, (Instr.sliceAt 70 (.slice ao l.length c) (some (.int .i64 k)) none none).run Tryz.prog w = .ok (.slice ao' (l.length - k) (c - k)) w) ∧ Sees w (.slice ao' (l.length - k) (c - k)) (l.drop k) := by
  obtain ⟨ao', h', S⟩ := slice_lo (ao := ao) (n := l.length) (c := c) (i := k) k rfl hk
  refine ⟨ao', S, ?_⟩
  have := (sees_piece h (i := k) (n := l.length - k) (by omega) ao' h').1
  rwa [List.take_of_length_le (by rw [List.length_drop]; omega)] at this
def AllPost (w : World) (l : List Int) (e : Ending) (w' : World) : Prop :=
  ∃ v' ls k x, e = .returned (.tuple #[v', .int .i64 ((k : Nat) : Int), .int .i64 ((x : Nat) : Int)]) ∧ RowO w' w.heap.size v' ls ∧ AllIs ls l k x ∧ Below w.heap.size w w'
set_option maxHeartbeats 2000000 in
theorem all_any (v : Value) (l : List Int) (w : World) (h : Sees w v l) (hok : okB l) (hl : l.length ≤ 100000) (hE : Env w) :
    Calls Tryz.prog 60 #[v] w (AllPost w l) := by
  have H := Lib.hid h
  obtain ⟨ao, c, rfl, hlc, hnil, hc⟩ := h
  have HO := Lib.hid hok
  clear hc hok
  go_enter Tryz.func60, Tryz.ntmps60
  go_wp2_with fail
  go_loopw [5, 6] (fun v k wr => ∃ ls : List (List Int), ∃ i : Nat, k = .int .i64 i ∧ RowO wr w.heap.size v ls ∧ Steps ls l i ∧ Below w.heap.size w wr) (fun _ k _ => l.length - (intOf k).toNat)
  case atStart => exact ⟨[], 0, rfl, RowO.nil _ _, rfl, Below.refl _ _⟩
  case round =>
    obtain ⟨ls, i, rfl, hrow, hst, hbel⟩ := hrel
    have hr := Steps.room _ _ _ hst
    obtain ⟨a1, S1, hs1⟩ := sees_tail (H.out.keep hbel) hr.2
    have HN := Lib.hid (next_any _ _ wr hs1 (HO.out.drop i) (by rw [List.length_drop]; omega) (hE.below hbel))
    have HR := Lib.hid hr
    have HS := Lib.hid hst
    have HW := Lib.hid hrow
    have b0 : (i : Int) ≤ (l.length : Int) := by omega
    have hB0 := hbel.size
    clear hs1 hr hst hrow
    by_cases hx : nextE (l.drop i) = 0
    · have N1 := Lib.hid (next_room hx)
      have N2 := Lib.hid (Steps.snoc _ _ _ HS.out hx)
      rw [hx] at HN
      have HX := Lib.hid hx
      clear hx
      obtain ⟨n, hn⟩ : ∃ n, n = nextN (l.drop i) := ⟨_, rfl⟩
      obtain ⟨p, hp⟩ : ∃ p, p = nextP (l.drop i) := ⟨_, rfl⟩
      rw [← hn, ← hp] at HN N2
      rw [← hn] at N1
      clear hn hp
      have hlen : ls.length ≤ 100000 ∧ n ≤ l.length - i ∧ 9 ≤ n ∧ i ≤ l.length := by
        have h1 := HR.out; have h2 := N1.out; rw [List.length_drop] at h2; omega
      have s1 : IntKind.i64.wrap ((i : Int) + n) = i + n := IntWalk.i64_in _ (by omega)
      go_wp2_with fail
      refine HN.out.mono ?_; rintro e w1 ⟨v1, rfl, ho1, hb1⟩
      have hrow1 := HW.out.keep hb1
      have hbel1 := bel hbel hb1
      have hz1 := hbel1.size
      obtain ⟨ao1, c1, hv1, -⟩ := id ho1.sees
      subst hv1
      go_wp2_with (first
        | (at_builtin; refine wpList_push rfl (.tmp 23) (.tmp 25) rfl w.heap.size u5 (.slice ao1 p.length c1) ls p rfl rfl hrow1 ho1.sees (fun d hd => ⟨(ho1.lt d hd).2, fun e => by have h1 := (ho1.lt d hd).1; have h2 := (HW.out.lt e).2; omega⟩) hlen.1 (by omega) ?_; intro v2 w2 hrow2 hg2 hb2 hat)
        | fail)
      go_roundw
      case rel => exact ⟨ls ++ [p], i + n, by go_num, hrow2, N2.out, hbel1.trans hb2⟩
      case measure => simp [intOf]; omega
    · have HA : Hid (AllIs ls l i (nextE (l.drop i))) := Lib.hid ⟨HS.out, rfl, hx⟩
      have HX := Lib.hid hx
      have hpos : 0 < nextE (l.drop i) := by omega
      obtain ⟨x, hxe⟩ : ∃ x, x = nextE (l.drop i) := ⟨_, rfl⟩
      rw [← hxe] at HA HN hpos
      have d0 : (((x : Nat) : Int) != 0) = true := by simp; omega
      clear hx hxe
      go_wp2_with fail
      refine HN.out.mono ?_; rintro e w1 ⟨v1, rfl, ho1, hb1⟩
      have hrow1 := HW.out.keep hb1
      have hbel1 := bel hbel hb1
      go_wp2_with fail
      go_ret3
      exact ⟨_, ls, i, x, rfl, hrow1, HA.out, hbel1⟩
theorem Sees.drewN {w : World} {v : Value} {xs : List Int} (h : Sees w v xs) (n : Nat) : Sees (w.drewN n) v xs := h
theorem SeesRow.drewN {w : World} {v : Value} {ls : List (List Int)} (h : SeesRow w v ls) (n : Nat) : SeesRow (w.drewN n) v ls := h
end
section
open Go.RowKit
theorem numBE_put4 (n : Nat) (h : n < 4294967296) : numBE (putL (n : Int) 4) = n := by
  rw [putL4]
  simp only [numBytes, numBE, List.foldl_cons, List.foldl_nil]
  simp
  omega
theorem frame_cnt {p t : List Int} (h2 : p.length ≤ 1048576) : cntL (frameL p ++ t) = p.length ∧ recL (frameL p ++ t) = p ∧ ((frameL p ++ t).drop 4).take 4 = putL (ofN p) 4 := by
  have e1 : (frameL p ++ t).take 4 = putL p.length 4 := by
    unfold frameL
    rw [List.append_assoc, List.append_assoc, List.take_append_of_le_length (by rw [putL4_len]; omega), List.take_of_length_le (by rw [putL4_len]; omega)]
  have e2 : (frameL p ++ t).drop 4 = putL (ofN p) 4 ++ (p ++ t) := by
    unfold frameL
    rw [List.append_assoc, List.append_assoc]
    have := List.drop_left (l₁ := putL p.length 4) (l₂ := putL (ofN p) 4 ++ (p ++ t))
    rwa [putL4_len] at this
  have e3 : (frameL p ++ t).drop 8 = p ++ t := by
    rw [show (8 : Nat) = 4 + 4 from rfl, ← List.drop_drop, e2]
    have := List.drop_left (l₁ := putL (ofN p) 4) (l₂ := p ++ t)
    rwa [putL4_len] at this
  have e4 : cntL (frameL p ++ t) = p.length := by
    unfold cntL
    rw [e1, numBE_put4 _ (by omega)]
    rfl
  refine ⟨e4, ?_, ?_⟩
  · unfold recL
    rw [e3, e4, List.take_left]
  · rw [e2]
    have := List.take_left (l₁ := putL (ofN p) 4) (l₂ := p ++ t)
    rwa [putL4_len] at this
theorem next_frame {p t : List Int} (hok : okB p) (h1 : 1 ≤ p.length) (h2 : p.length ≤ 1048576) : nextE (frameL p ++ t) = 0 ∧ nextP (frameL p ++ t) = p ∧ nextN (frameL p ++ t) = 8 + p.length := by
  obtain ⟨a, b, c⟩ := frame_cnt (t := t) h2
  have hl : (frameL p ++ t).length = 8 + p.length + t.length := by rw [List.length_append, frameL_len]
  have e : nextE (frameL p ++ t) = 0 := by
    unfold nextE
    rw [if_neg (by omega), if_neg (by omega), a, if_neg (by omega), if_neg (by omega), b, c, numBE_put4 _ (ofN_lt hok), if_pos rfl]
  unfold nextP nextN
  rw [e, b]
  exact ⟨rfl, rfl, rfl⟩
end
section
open Go.RowKit
/-- A row of the call's own whose slices lie below block B. -/
def RowE (w : World) (B : Nat) (v : Value) (ls : List (List Int)) : Prop :=
  ∃ vs : List Value, vs.length = ls.length ∧ w.ownsRow B 70 1 v ls.length vs ∧ ∀ i, i < ls.length → Sees w (vs.getD i undef) (ls.getD i []) ∧ ∀ d, (vs.getD i undef).ownBlock = some d → d < B
theorem RowE.nil (w : World) (B : Nat) : RowE w B (.slice none 0 0) [] := ⟨[], rfl, World.ownsRow_nil _ _ _ _, fun i hi => by cases hi⟩
theorem RowE.row {w : World} {B : Nat} {v : Value} {ls : List (List Int)} (h : RowE w B v ls) (hB : B ≤ w.heap.size) : RowO w B v ls := by
  obtain ⟨vs, hl, ho, he⟩ := h
  exact ⟨vs, hl, ho, fun i hi => ⟨(he i hi).1, fun d hd => ⟨Nat.lt_of_lt_of_le ((he i hi).2 d hd) hB, fun e => Nat.not_lt.2 (ho.lt d e).1 ((he i hi).2 d hd)⟩⟩⟩
theorem RowE.below {w w' : World} {B : Nat} {v : Value} {ls : List (List Int)} (h : RowE w B v ls) (hb : Below B w w') (hv : ∀ d, v.ownBlock = some d → w'.heap[d]? = w.heap[d]?) : RowE w' B v ls := by
  obtain ⟨vs, hl, ho, he⟩ := h
  refine ⟨vs, hl, ⟨ho.1, ho.2.imp id fun ⟨g, cap, cur, e, hB, hg, r⟩ => ⟨g, cap, cur, e, hB, (hv g (by rw [e]; rfl)).trans hg, r⟩⟩, fun i hi => ⟨sees_heap (he i hi).1 (fun d hd _ => hb.block d ((he i hi).2 d hd)), (he i hi).2⟩⟩
theorem RowE.keep {w w' : World} {B : Nat} {v : Value} {ls : List (List Int)} (h : RowE w B v ls) (hb : Below w.heap.size w w') (hB : B ≤ w.heap.size) : RowE w' B v ls :=
  h.below (hb.mono hB) fun d hd => by
    obtain ⟨vs, hl, ho, he⟩ := h
    exact hb.block d (ho.lt d hd).2
/-! Frames one behind the other. -/
def flatF (ps : List (List Int)) : List Int := ps.flatMap frameL
theorem flatF_snoc (ps : List (List Int)) (p : List Int) : flatF (ps ++ [p]) = flatF ps ++ frameL p := by unfold flatF; rw [List.flatMap_append]; simp
end
section
open Go.RowKit
/-- A frame cut off: more is wanted, or nothing is there. -/
theorem next_torn {p t : List Int} (h1 : 1 ≤ p.length) (h2 : p.length ≤ 1048576) {n : Nat} (hn : n < (frameL p).length) : nextE ((frameL p ++ t).take n) = if n = 0 then 6 else 4 := by
  have hl : ((frameL p ++ t).take n).length = n := by rw [List.length_take, List.length_append]; omega
  unfold nextE
  rw [hl]
  by_cases h0 : n = 0
  · rw [if_pos h0, if_pos h0]
  rw [if_neg h0, if_neg h0]
  by_cases h8 : n < 8
  · rw [if_pos h8]
  rw [if_neg h8]
  have e : cntL ((frameL p ++ t).take n) = p.length := by
    have h := (frame_cnt (t := t) h2).1
    unfold cntL at h ⊢
    rw [List.take_take, show min 4 n = 4 from by omega]
    exact h
  rw [frameL_len] at hn
  rw [e, if_neg (by omega), if_pos (by omega)]
end
section
open Go.RowKit
/-- A row of the call's own that holds slices which read so; of the blocks of all of them Z holds, none lies in the row's block. -/
def RowZ (Z : Nat → Prop) (w : World) (B : Nat) (v : Value) (ls : List (List Int)) : Prop :=
  ∃ vs : List Value, vs.length = ls.length ∧ w.ownsRow B 70 1 v ls.length vs ∧ ∀ i, i < ls.length → Sees w (vs.getD i undef) (ls.getD i []) ∧ ∀ d, (vs.getD i undef).ownBlock = some d → Z d ∧ d < w.heap.size ∧ v.ownBlock ≠ some d
/-- .. and all of them lie at B or behind. -/
abbrev RowN (w : World) (B : Nat) (v : Value) (ls : List (List Int)) : Prop := RowZ (fun d => B ≤ d) w B v ls
section
variable {Z : Nat → Prop}
theorem RowZ.nil (Z : Nat → Prop) (w : World) (B : Nat) : RowZ Z w B (.slice none 0 0) [] := ⟨[], rfl, World.ownsRow_nil _ _ _ _, fun i hi => by cases hi⟩
theorem RowZ.row {w : World} {B : Nat} {v : Value} {ls : List (List Int)} (h : RowZ Z w B v ls) : RowO w B v ls := by
  obtain ⟨vs, hl, ho, he⟩ := h
  exact ⟨vs, hl, ho, fun i hi => ⟨(he i hi).1, fun d hd => ((he i hi).2 d hd).2⟩⟩
theorem RowZ.sees {w : World} {B : Nat} {v : Value} {ls : List (List Int)} (h : RowZ Z w B v ls) : SeesRow w v ls := h.row.sees
theorem RowZ.lt {w : World} {B : Nat} {v : Value} {ls : List (List Int)} (h : RowZ Z w B v ls) {d : Nat} (hd : v.ownBlock = some d) : B ≤ d ∧ d < w.heap.size := h.row.lt hd
/-- Kept by all that leaves the blocks from B on, and those of Z, up to the heap's end, as they are. -/
theorem RowZ.stay {w w' : World} {B : Nat} {v : Value} {ls : List (List Int)} (h : RowZ Z w B v ls) (hz : w.heap.size ≤ w'.heap.size) (hb : ∀ d, B ≤ d ∨ Z d → d < w.heap.size → w'.heap[d]? = w.heap[d]?) : RowZ Z w' B v ls := by
  obtain ⟨vs, hl, ho, he⟩ := h
  refine ⟨vs, hl, ⟨ho.1, ho.2.imp id fun ⟨g, cap, cur, e, hB, hg, r⟩ => ⟨g, cap, cur, e, hB, (hb g (Or.inl hB) (heap_lt hg)).trans hg, r⟩⟩, fun i hi => ⟨sees_heap (he i hi).1 (fun d hd hlt => hb d (Or.inr ((he i hi).2 d hd).1) hlt), fun d hd => ?_⟩⟩
  have := (he i hi).2 d hd
  exact ⟨this.1, by omega, this.2.2⟩
theorem RowZ.keep {w w' : World} {B : Nat} {v : Value} {ls : List (List Int)} (h : RowZ Z w B v ls) (hb : Below w.heap.size w w') : RowZ Z w' B v ls := h.stay hb.size (fun d _ hd => hb.block d hd)
theorem RowZ.le {w : World} {B B' : Nat} {Z' : Nat → Prop} {v : Value} {ls : List (List Int)} (h : RowZ Z w B v ls) (hb : B' ≤ B) (hz : ∀ d, Z d → Z' d) : RowZ Z' w B' v ls := by
  obtain ⟨vs, hl, ho, he⟩ := h
  exact ⟨vs, hl, ⟨ho.1, ho.2.imp id fun ⟨a, b, c, d, e, f⟩ => ⟨a, b, c, d, Nat.le_trans hb e, f⟩⟩, fun i hi => ⟨(he i hi).1, fun d hd => ⟨hz d ((he i hi).2 d hd).1, ((he i hi).2 d hd).2⟩⟩⟩
end
theorem RowN.stay {w w' : World} {B : Nat} {v : Value} {ls : List (List Int)} (h : RowN w B v ls) (hz : w.heap.size ≤ w'.heap.size) (hb : ∀ d, B ≤ d → d < w.heap.size → w'.heap[d]? = w.heap[d]?) : RowN w' B v ls := RowZ.stay h hz (fun d hd => hb d (hd.elim id id))
theorem RowN.le {w : World} {B B' : Nat} {v : Value} {ls : List (List Int)} (h : RowN w B v ls) (hb : B' ≤ B) : RowN w B' v ls := RowZ.le h hb (fun _ h => Nat.le_trans hb h)
/-- append of one slice to a row of the call's own. -/
theorem wpList_pushZ (Z : Nat → Prop) {w0 : World} {ops : Array Oper} {rest : List Oper} {o : Oper} {a : Act} {Q : Exit → Act → World → Prop} (hgd : o.guard = none) (s x : Operand)
    (ho : o.op = .call { callee := .builtin .append, args := #[s, x], argTypes := #[97, 97] }) (B : Nat) (v u : Value) (ls : List (List Int)) (p : List Int)
    (hs : a.eval s = v) (hx : a.eval x = .slice (some ⟨w0.heap.size, 0, none⟩) 1 1) (hrow : RowZ Z w0 B v ls) (hu : Sees w0 u p) (hud : ∀ d, u.ownBlock = some d → Z d ∧ d < w0.heap.size ∧ v.ownBlock ≠ some d) (hlen : ls.length ≤ 100000) (hB : B ≤ w0.heap.size)
    (h : ∀ v' w', RowZ Z w' B v' (ls ++ [p]) → w0.grownBy w' v.ownBlock → Below B w0 w' → (v'.ownBlock = v.ownBlock ∨ v'.ownBlock = some (w0.heap.size + 1)) → wpList Tryz.prog ops Q rest (a.put o.dst v') w') :
    wpList Tryz.prog ops Q (o :: rest) a (w0.alloc (.cells #[u] 70)) := by
  obtain ⟨i0, hi, hz0, hz1, hz2⟩ := info_parts info22
  obtain ⟨vs, hl, hown, he⟩ := hrow
  refine wpList_append_own_at _ hgd s x 97 ho B 70 i0 (.slice none 0 0) 1 24 Tryz.underlying97 hi hz0 hz1 hz2 rfl (by decide) v _ vs hs (hown.alloc _) ⟨w0.heap.size, 0, none⟩ 1 1 [u] hx rfl (cell_one_new _ _ _) ?_ (by unfold maxLen; omega) (by omega) (by simp; omega) ?_
  · intro y hy
    obtain rfl := List.mem_singleton.1 hy
    obtain ⟨ao, c, rfl, _⟩ := hu
    rfl
  · intro v' w' hown' hgrow _ hat
    have hg0 : w0.grownBy w' v.ownBlock := World.grownBy.trans (b := w0.alloc (.cells #[u] 70)) ⟨rfl, rfl, rfl, by simp, fun k hk _ => Below.heap_alloc w0 _ k hk⟩ hgrow
    rw [show (w0.alloc (.cells #[u] 70)).heap.size = w0.heap.size + 1 from by simp] at hat
    have hsz := hg0.size
    have hsz2 : w0.heap.size + 1 ≤ w'.heap.size := by
      have := hgrow.size
      simp at this
      omega
    refine h v' w' ⟨vs ++ [u], by simp [hl], by rw [List.length_append]; exact hown', fun i hi' => ?_⟩ hg0 ((Below.refl B w0).grown hg0 hB (fun k hk => (hown.lt k hk).1)) hat
    have key : ∀ (y : Value) (q : List Int), Sees w0 y q → (∀ d, y.ownBlock = some d → Z d ∧ d < w0.heap.size ∧ v.ownBlock ≠ some d) → Sees w' y q ∧ ∀ d, y.ownBlock = some d → Z d ∧ d < w'.heap.size ∧ v'.ownBlock ≠ some d := by
      intro y q hy hyd
      refine ⟨sees_heap hy (fun d hd hlt => hg0.block d hlt (fun e => (hyd d hd).2.2 e.symm)), fun d hd => ⟨(hyd d hd).1, by have := (hyd d hd).2.1; omega, fun e => ?_⟩⟩
      rcases hat with h1 | h1
      · exact (hyd d hd).2.2 (h1.symm.trans e)
      · rw [e] at h1
        have := (hyd d hd).2.1
        have := Option.some.inj h1
        omega
    by_cases hlt : i < ls.length
    · have e1 : (vs ++ [u]).getD i undef = vs.getD i undef := by simp only [List.getD]; rw [List.getElem?_append_left (by omega)]
      have e2 : (ls ++ [p]).getD i [] = ls.getD i [] := by simp only [List.getD]; rw [List.getElem?_append_left hlt]
      rw [e1, e2]
      exact key _ _ (he i hlt).1 (he i hlt).2
    · obtain rfl : i = ls.length := by rw [List.length_append, List.length_singleton] at hi'; omega
      have e1 : (vs ++ [u]).getD ls.length undef = u := by simp only [List.getD]; rw [← hl, List.getElem?_concat_length]; rfl
      have e2 : (ls ++ [p]).getD ls.length [] = p := by simp only [List.getD]; rw [List.getElem?_concat_length]; rfl
      rw [e1, e2]
      exact key _ _ hu hud
def AllNew (w : World) (l : List Int) (e : Ending) (w' : World) : Prop :=
  ∃ v' ls k x, e = .returned (.tuple #[v', .int .i64 ((k : Nat) : Int), .int .i64 ((x : Nat) : Int)]) ∧ RowN w' w.heap.size v' ls ∧ AllIs ls l k x ∧ Below w.heap.size w w'
set_option maxHeartbeats 2000000 in
theorem all_new (v : Value) (l : List Int) (w : World) (h : Sees w v l) (hok : okB l) (hl : l.length ≤ 100000) (hE : Env w) :
    Calls Tryz.prog 60 #[v] w (AllNew w l) := by
  have H := Lib.hid h
  obtain ⟨ao, c, rfl, hlc, hnil, hc⟩ := h
  have HO := Lib.hid hok
  clear hc hok
  go_enter Tryz.func60, Tryz.ntmps60
  go_wp2_with fail
  go_loopw [5, 6] (fun v k wr => ∃ ls : List (List Int), ∃ i : Nat, k = .int .i64 i ∧ RowZ (fun d => w.heap.size ≤ d) wr w.heap.size v ls ∧ Steps ls l i ∧ Below w.heap.size w wr) (fun _ k _ => l.length - (intOf k).toNat)
  case atStart => exact ⟨[], 0, rfl, RowZ.nil _ _ _, rfl, Below.refl _ _⟩
  case round =>
    obtain ⟨ls, i, rfl, hrow, hst, hbel⟩ := hrel
    have hr := Steps.room _ _ _ hst
    obtain ⟨a1, S1, hs1⟩ := sees_tail (H.out.keep hbel) hr.2
    have HN := Lib.hid (next_any _ _ wr hs1 (HO.out.drop i) (by rw [List.length_drop]; omega) (hE.below hbel))
    have HR := Lib.hid hr
    have HS := Lib.hid hst
    have HW := Lib.hid hrow
    have b0 : (i : Int) ≤ (l.length : Int) := by omega
    have hB0 := hbel.size
    clear hs1 hr hst hrow
    by_cases hx : nextE (l.drop i) = 0
    · have N1 := Lib.hid (next_room hx)
      have N2 := Lib.hid (Steps.snoc _ _ _ HS.out hx)
      rw [hx] at HN
      have HX := Lib.hid hx
      clear hx
      obtain ⟨n, hn⟩ : ∃ n, n = nextN (l.drop i) := ⟨_, rfl⟩
      obtain ⟨p, hp⟩ : ∃ p, p = nextP (l.drop i) := ⟨_, rfl⟩
      rw [← hn, ← hp] at HN N2
      rw [← hn] at N1
      clear hn hp
      have hlen : ls.length ≤ 100000 ∧ n ≤ l.length - i ∧ 9 ≤ n ∧ i ≤ l.length := by
        have h1 := HR.out; have h2 := N1.out; rw [List.length_drop] at h2; omega
      have s1 : IntKind.i64.wrap ((i : Int) + n) = i + n := IntWalk.i64_in _ (by omega)
      go_wp2_with fail
      refine HN.out.mono ?_; rintro e w1 ⟨v1, rfl, ho1, hb1⟩
      have hrow1 := HW.out.keep hb1
      have hbel1 := bel hbel hb1
      have hz1 := hbel1.size
      obtain ⟨ao1, c1, hv1, -⟩ := id ho1.sees
      subst hv1
      go_wp2_with (first
        | (at_builtin; refine wpList_pushZ (fun d => w.heap.size ≤ d) rfl (.tmp 23) (.tmp 25) rfl w.heap.size u5 (.slice ao1 p.length c1) ls p rfl rfl hrow1 ho1.sees (fun d hd => ⟨by have h1 := (ho1.lt d hd).1; omega, (ho1.lt d hd).2, fun e => by have h1 := (ho1.lt d hd).1; have h2 := (HW.out.lt e).2; omega⟩) hlen.1 (by omega) ?_; intro v2 w2 hrow2 hg2 hb2 hat)
        | fail)
      go_roundw
      case rel => exact ⟨ls ++ [p], i + n, by go_num, hrow2, N2.out, hbel1.trans hb2⟩
      case measure => simp [intOf]; omega
    · have HA : Hid (AllIs ls l i (nextE (l.drop i))) := Lib.hid ⟨HS.out, rfl, hx⟩
      have HX := Lib.hid hx
      have hpos : 0 < nextE (l.drop i) := by omega
      obtain ⟨x, hxe⟩ : ∃ x, x = nextE (l.drop i) := ⟨_, rfl⟩
      rw [← hxe] at HA HN hpos
      have d0 : (((x : Nat) : Int) != 0) = true := by simp; omega
      clear hx hxe
      go_wp2_with fail
      refine HN.out.mono ?_; rintro e w1 ⟨v1, rfl, ho1, hb1⟩
      have hrow1 := HW.out.keep hb1
      have hbel1 := bel hbel hb1
      go_wp2_with fail
      go_ret3
      exact ⟨_, ls, i, x, rfl, hrow1, HA.out, hbel1⟩
end
end Go.Proofs.YtbbefakmpmniiaaGreatDoor
