/- The law RecsRead: the walk. -/
import Derived.Test.YtcfmknocpjjklaaRcRefs
namespace Go.Proofs.Ytcfmknocpjjklaa
open Go.RowKit
theorem sliceTo40 (s : ByteArray) (hs : 40 ≤ s.size) (W : World) : (Instr.slice 9 (.string s) none (some (.int .i64 40)) none).run Try.prog W = .ok (.string (s.extract 0 40)) W := by
  rw [run_slice_string_h W 9 s Try.underlying9 .i64 40 (by omega) (by omega)]; rfl
theorem starts_one {s : ByteArray} {c d : UInt8} (h : starts s ⟨#[c]⟩ = true) (hcd : (c.toNat : Int) ≠ d.toNat) : starts s ⟨#[d]⟩ = false := by
  cases k : starts s ⟨#[d]⟩ with
  | false => rfl
  | true =>
    have h1 := strI_cons h
    have h2 := strI_cons k
    rw [h1] at h2
    exact absurd (List.cons.inj h2).1 hcd
def pV (s : ByteArray) : Value := if poolB s = true then .tuple #[.agg #[.int .u32 (u1 s).1, .int .i64 (u2 s).1, .bool ((u3 s).1 == 1)], .int .i64 0] else .tuple #[.agg #[.int .u32 0, .int .i64 0, .bool false], .int .i64 3]
def nV (s : ByteArray) : Value := if nodeB s = true then .tuple #[.bool ((v1 s).1 == 1), .int .i64 0] else .tuple #[.bool false, .int .i64 3]
def aV (s : ByteArray) : Value := if affB s = true then .tuple #[.int .i64 (a1 s).1, .int .i64 0] else .tuple #[.int .i64 0, .int .i64 3]
def p0 : Value := .tuple #[.agg #[.int .u32 0, .int .i64 0, .bool false], .int .i64 3]
def n0 : Value := .tuple #[.bool false, .int .i64 3]
def x0 : Value := .tuple #[.int .i64 0, .int .i64 3]
def NoN (s : ByteArray) : Prop := s ≠ ⟨#[78, 0]⟩ ∧ s ≠ ⟨#[78, 1]⟩
def NoA (s : ByteArray) : Prop := s ≠ ⟨#[65, 1]⟩ ∧ s ≠ ⟨#[65, 2]⟩ ∧ s ≠ ⟨#[65, 3]⟩
def Kinds13 (s : ByteArray) (P N A : Value) : Prop :=
  (P = p0 ∧ N = n0 ∧ A = x0 ∧ NoN s ∧ NoA s)
  ∨ (∃ (a b : Int) (o : Bool), rightB a b = true ∧ 0 ≤ a ∧ a < 4294967296 ∧ strOfNums (poolL a b o) = s ∧ P = .tuple #[.agg #[.int .u32 a, .int .i64 b, .bool o], .int .i64 0] ∧ N = n0 ∧ A = x0 ∧ NoN s ∧ NoA s)
  ∨ (∃ o : Bool, strOfNums [78, flagI o] = s ∧ P = p0 ∧ N = .tuple #[.bool o, .int .i64 0] ∧ A = x0 ∧ NoA s)
  ∨ (∃ x : Int, stB x = true ∧ strOfNums [65, x] = s ∧ P = p0 ∧ N = n0 ∧ A = .tuple #[.int .i64 x, .int .i64 0] ∧ NoN s)
theorem kinds13 (s : ByteArray) : Kinds13 s (pV s) (nV s) (aV s) := by
  cases hp : poolB s with
  | true =>
    have hs : starts s pP = true := by
      have h := hp
      unfold poolB at h
      rw [Bool.and_eq_true] at h
      exact h.1
    have hn : nodeB s = false := by unfold nodeB; rw [starts_one (d := 78) hs (by decide)]; rfl
    have ha : affB s = false := by unfold affB; rw [starts_one (d := 65) hs (by decide)]; rfl
    obtain ⟨h1, h2⟩ := poolB_back hp
    obtain ⟨⟨b0, b1⟩, _, _⟩ := u_bd s
    exact Or.inr (Or.inl ⟨(u1 s).1, (u2 s).1, _, h1, b0, b1, h2, by unfold pV; rw [if_pos hp], by unfold nV; rw [hn]; rfl, by unfold aV; rw [ha]; rfl, node_no hn, aff_no ha⟩)
  | false =>
    have hpv : pV s = p0 := by unfold pV; rw [hp]; rfl
    cases hn : nodeB s with
    | true =>
      have hs : starts s pN = true := by
        have h := hn
        unfold nodeB at h
        rw [Bool.and_eq_true] at h
        exact h.1
      have ha : affB s = false := by unfold affB; rw [starts_one (d := 65) hs (by decide)]; rfl
      exact Or.inr (Or.inr (Or.inl ⟨_, nodeB_back hn, hpv, by unfold nV; rw [if_pos hn], by unfold aV; rw [ha]; rfl, aff_no ha⟩))
    | false =>
      have hnv : nV s = n0 := by unfold nV; rw [hn]; rfl
      cases ha : affB s with
      | true =>
        obtain ⟨h1, h2⟩ := affB_back ha
        exact Or.inr (Or.inr (Or.inr ⟨_, h1, h2, hpv, hnv, by unfold aV; rw [if_pos ha], node_no hn⟩))
      | false => exact Or.inl ⟨hpv, hnv, by unfold aV; rw [ha]; rfl, node_no hn, aff_no ha⟩
theorem ne_list {s : ByteArray} {l : List UInt8} (h : s ≠ ⟨l.toArray⟩) : (s.toList = l) = False ∧ (s.toList == l) = false := by
  have h1 : ¬ s.toList = l := fun e => h (by
    rw [ByteArray.toList_eq] at e
    rw [← e])
  exact ⟨eq_false h1, by simpa using h1⟩
set_option maxRecDepth 100000 in
set_option maxHeartbeats 8000000 in
theorem lawRead (w : World) (s : ByteArray) :
    Calls Try.prog 4 #[.string s] w fun e w' => e = .returned (.bool true) ∧ Below w.heap.size w w' := by
  have HW := Lib.hid (fun w => awake13_any w)
  by_cases h40 : 40 < s.size
  · have d0 : decide (40 < (s.size : Int)) = true := by simp; omega
    have hsl := sliceTo40 s (by omega)
    have ht : (s.extract 0 40).size ≤ 40 := by rw [ByteArray.size_extract]; omega
    generalize s.extract 0 40 = t at hsl ht
    clear h40
    have HP : Hid (∀ w, Calls Try.prog 12 #[.string t] w fun e w' => e = .returned (pV t) ∧ Below w.heap.size w w') := Lib.hid (fun w => readPool_any t w (by omega))
    have HN : Hid (∀ w, Calls Try.prog 15 #[.string t] w fun e w' => e = .returned (nV t) ∧ Below w.heap.size w w') := Lib.hid (fun w => readNode_any t w (by omega))
    have HA : Hid (∀ w, Calls Try.prog 17 #[.string t] w fun e w' => e = .returned (aV t) ∧ Below w.heap.size w w') := Lib.hid (fun w => readAff_any t w (by omega))
    have HK := Lib.hid (kinds13 t)
    generalize pV t = P at HP HK
    generalize nV t = N at HN HK
    generalize aV t = A at HA HK
    go_enter Try.func4, Try.ntmps4
    go_upto_region 3 with fail
    clear d0 hsl
    rcases HK.out with ⟨rfl, rfl, rfl, hno, hao⟩ | ⟨a, b, o, hr, h0, h1, hk, rfl, rfl, rfl, hno, hao⟩ | ⟨o, hk, rfl, rfl, rfl, hao⟩ | ⟨x, hx, hk, rfl, rfl, rfl, hno⟩
    · unfold p0 at HP
      unfold n0 at HN
      unfold x0 at HA
      obtain ⟨n1, n2⟩ := hno
      obtain ⟨n1a, n1b⟩ := ne_list (l := [78, 0]) n1
      obtain ⟨n2a, n2b⟩ := ne_list (l := [78, 1]) n2
      clear n1 n2
      obtain ⟨m1, m2, m3⟩ := hao
      obtain ⟨m1a, m1b⟩ := ne_list (l := [65, 1]) m1
      obtain ⟨m2a, m2b⟩ := ne_list (l := [65, 2]) m2
      obtain ⟨m3a, m3b⟩ := ne_list (l := [65, 3]) m3
      clear m1 m2 m3
      go_wp2_with fail
      refine (HP.out _).mono ?_; rintro e w1 ⟨rfl, hb1⟩
      have hB1 := hb1
      have hB1 := belAlloc hB1 (poolO 0 0 false 32)
      go_wp2_with fail
      refine (HN.out _).mono ?_; rintro e w2 ⟨rfl, hb2⟩
      have hB2 := bel hB1 hb2
      go_wp2_with fail
      refine (HA.out _).mono ?_; rintro e w3 ⟨rfl, hb3⟩
      have hB3 := bel hB2 hb3
      go_wp2_with fail
      refine (HW.out _).mono ?_; rintro e w4 ⟨rfl, hb4⟩
      have hB4 := bel hB3 hb4
      go_wp2_with fail
      go_ret
      exact ⟨rfl, hB4⟩
    · have hbb : 16 ≤ b ∧ b ≤ 26 := by
        have hr2 := hr
        unfold rightB at hr2
        simp only [Bool.and_eq_true, decide_eq_true_eq] at hr2
        exact hr2.2
      have HO := Lib.hid (fun w => plain13_any a b o w)
      have HQ : Hid (∀ w, Calls Try.prog 10 #[.agg #[.int .u32 a, .int .i64 b, .bool o]] w fun e w' => e = .returned (.bool true) ∧ Below w.heap.size w w') := Lib.hid (fun w => by have h := refRight13_any a b o h0 h1 (by omega) (by omega) w; rw [hr] at h; exact h)
      have HT : Hid (∀ w, Calls Try.prog 13 #[.agg #[.int .u32 a, .int .i64 b, .bool o]] w fun e w' => e = .returned (.string t) ∧ Below w.heap.size w w') := Lib.hid (fun w => by have h := refPut13_any a b o h0 h1 (by omega) (by omega) w; rw [hk] at h; exact h)
      clear hbb hr hk
      unfold n0 at HN
      unfold x0 at HA
      obtain ⟨n1, n2⟩ := hno
      obtain ⟨n1a, n1b⟩ := ne_list (l := [78, 0]) n1
      obtain ⟨n2a, n2b⟩ := ne_list (l := [78, 1]) n2
      clear n1 n2
      obtain ⟨m1, m2, m3⟩ := hao
      obtain ⟨m1a, m1b⟩ := ne_list (l := [65, 1]) m1
      obtain ⟨m2a, m2b⟩ := ne_list (l := [65, 2]) m2
      obtain ⟨m3a, m3b⟩ := ne_list (l := [65, 3]) m3
      clear m1 m2 m3
      go_wp2_with fail
      refine (HP.out _).mono ?_; rintro e w1 ⟨rfl, hb1⟩
      have hB1 := hb1
      have hp1 : Cell3 w1.heap.size a b o (w1.alloc (poolO a b o 32)) := Cell3.new _ _ _ _ _
      have hB1 := belAlloc hB1 (poolO a b o 32)
      go_wp2_with fail
      refine (HO.out _).mono ?_; rintro e w2 ⟨rfl, hb2⟩
      have hB2 := bel hB1 hb2
      have hp2 := hp1.keep hb2
      go_wp2_with fail
      refine (HQ.out _).mono ?_; rintro e w3 ⟨rfl, hb3⟩
      have hB3 := bel hB2 hb3
      have hp3 := hp2.keep hb3
      obtain ⟨q0, q1, q2, q3⟩ := id hp3
      go_wp2_with fail
      refine (HO.out _).mono ?_; rintro e w4 ⟨rfl, hb4⟩
      have hB4 := bel hB3 hb4
      clear q0 q1 q2 q3
      go_wp2_with fail
      refine (HT.out _).mono ?_; rintro e w5 ⟨rfl, hb5⟩
      have hB5 := bel hB4 hb5
      go_wp2_with fail
      refine (HN.out _).mono ?_; rintro e w6 ⟨rfl, hb6⟩
      have hB6 := bel hB5 hb6
      go_wp2_with fail
      refine (HA.out _).mono ?_; rintro e w7 ⟨rfl, hb7⟩
      have hB7 := bel hB6 hb7
      go_wp2_with fail
      refine (HW.out _).mono ?_; rintro e w8 ⟨rfl, hb8⟩
      have hB8 := bel hB7 hb8
      go_wp2_with fail
      go_ret
      exact ⟨rfl, hB8⟩
    · have HT : Hid (∀ w, Calls Try.prog 16 #[.bool o] w fun e w' => e = .returned (.string t) ∧ Below w.heap.size w w') := Lib.hid (fun w => by have h := putNode_any o w; rw [hk] at h; exact h)
      clear hk
      unfold p0 at HP
      unfold x0 at HA
      obtain ⟨m1, m2, m3⟩ := hao
      obtain ⟨m1a, m1b⟩ := ne_list (l := [65, 1]) m1
      obtain ⟨m2a, m2b⟩ := ne_list (l := [65, 2]) m2
      obtain ⟨m3a, m3b⟩ := ne_list (l := [65, 3]) m3
      clear m1 m2 m3
      go_wp2_with fail
      refine (HP.out _).mono ?_; rintro e w1 ⟨rfl, hb1⟩
      have hB1 := hb1
      have hB1 := belAlloc hB1 (poolO 0 0 false 32)
      go_wp2_with fail
      refine (HN.out _).mono ?_; rintro e w2 ⟨rfl, hb2⟩
      have hB2 := bel hB1 hb2
      go_wp2_with fail
      refine (HT.out _).mono ?_; rintro e w3 ⟨rfl, hb3⟩
      have hB3 := bel hB2 hb3
      go_wp2_with fail
      refine (HA.out _).mono ?_; rintro e w4 ⟨rfl, hb4⟩
      have hB4 := bel hB3 hb4
      go_wp2_with fail
      refine (HW.out _).mono ?_; rintro e w5 ⟨rfl, hb5⟩
      have hB5 := bel hB4 hb5
      go_wp2_with fail
      go_ret
      exact ⟨rfl, hB5⟩
    · have HT : Hid (∀ w, Calls Try.prog 18 #[.int .i64 x] w fun e w' => e = .returned (.tuple #[.string t, .int .i64 0]) ∧ Below w.heap.size w w') := Lib.hid (fun w => by have h := putAff_any x w; rw [if_pos hx, hk] at h; exact h)
      clear hk hx
      unfold p0 at HP
      unfold n0 at HN
      obtain ⟨n1, n2⟩ := hno
      obtain ⟨n1a, n1b⟩ := ne_list (l := [78, 0]) n1
      obtain ⟨n2a, n2b⟩ := ne_list (l := [78, 1]) n2
      clear n1 n2
      go_wp2_with fail
      refine (HP.out _).mono ?_; rintro e w1 ⟨rfl, hb1⟩
      have hB1 := hb1
      have hB1 := belAlloc hB1 (poolO 0 0 false 32)
      go_wp2_with fail
      refine (HN.out _).mono ?_; rintro e w2 ⟨rfl, hb2⟩
      have hB2 := bel hB1 hb2
      go_wp2_with fail
      refine (HA.out _).mono ?_; rintro e w3 ⟨rfl, hb3⟩
      have hB3 := bel hB2 hb3
      go_wp2_with fail
      refine (HT.out _).mono ?_; rintro e w4 ⟨rfl, hb4⟩
      have hB4 := bel hB3 hb4
      go_wp2_with fail
      refine (HW.out _).mono ?_; rintro e w5 ⟨rfl, hb5⟩
      have hB5 := bel hB4 hb5
      go_wp2_with fail
      go_ret
      exact ⟨rfl, hB5⟩
  · have d0 : decide (40 < (s.size : Int)) = false := by simp; omega
    have ht : s.size ≤ 40 := by omega
    clear h40
    have HP : Hid (∀ w, Calls Try.prog 12 #[.string s] w fun e w' => e = .returned (pV s) ∧ Below w.heap.size w w') := Lib.hid (fun w => readPool_any s w (by omega))
    have HN : Hid (∀ w, Calls Try.prog 15 #[.string s] w fun e w' => e = .returned (nV s) ∧ Below w.heap.size w w') := Lib.hid (fun w => readNode_any s w (by omega))
    have HA : Hid (∀ w, Calls Try.prog 17 #[.string s] w fun e w' => e = .returned (aV s) ∧ Below w.heap.size w w') := Lib.hid (fun w => readAff_any s w (by omega))
    have HK := Lib.hid (kinds13 s)
    generalize pV s = P at HP HK
    generalize nV s = N at HN HK
    generalize aV s = A at HA HK
    go_enter Try.func4, Try.ntmps4
    go_upto_region 3 with fail
    clear d0
    rcases HK.out with ⟨rfl, rfl, rfl, hno, hao⟩ | ⟨a, b, o, hr, h0, h1, hk, rfl, rfl, rfl, hno, hao⟩ | ⟨o, hk, rfl, rfl, rfl, hao⟩ | ⟨x, hx, hk, rfl, rfl, rfl, hno⟩
    · unfold p0 at HP
      unfold n0 at HN
      unfold x0 at HA
      obtain ⟨n1, n2⟩ := hno
      obtain ⟨n1a, n1b⟩ := ne_list (l := [78, 0]) n1
      obtain ⟨n2a, n2b⟩ := ne_list (l := [78, 1]) n2
      clear n1 n2
      obtain ⟨m1, m2, m3⟩ := hao
      obtain ⟨m1a, m1b⟩ := ne_list (l := [65, 1]) m1
      obtain ⟨m2a, m2b⟩ := ne_list (l := [65, 2]) m2
      obtain ⟨m3a, m3b⟩ := ne_list (l := [65, 3]) m3
      clear m1 m2 m3
      go_wp2_with fail
      refine (HP.out _).mono ?_; rintro e w1 ⟨rfl, hb1⟩
      have hB1 := hb1
      have hB1 := belAlloc hB1 (poolO 0 0 false 32)
      go_wp2_with fail
      refine (HN.out _).mono ?_; rintro e w2 ⟨rfl, hb2⟩
      have hB2 := bel hB1 hb2
      go_wp2_with fail
      refine (HA.out _).mono ?_; rintro e w3 ⟨rfl, hb3⟩
      have hB3 := bel hB2 hb3
      go_wp2_with fail
      refine (HW.out _).mono ?_; rintro e w4 ⟨rfl, hb4⟩
      have hB4 := bel hB3 hb4
      go_wp2_with fail
      go_ret
      exact ⟨rfl, hB4⟩
    · have hbb : 16 ≤ b ∧ b ≤ 26 := by
        have hr2 := hr
        unfold rightB at hr2
        simp only [Bool.and_eq_true, decide_eq_true_eq] at hr2
        exact hr2.2
      have HO := Lib.hid (fun w => plain13_any a b o w)
      have HQ : Hid (∀ w, Calls Try.prog 10 #[.agg #[.int .u32 a, .int .i64 b, .bool o]] w fun e w' => e = .returned (.bool true) ∧ Below w.heap.size w w') := Lib.hid (fun w => by have h := refRight13_any a b o h0 h1 (by omega) (by omega) w; rw [hr] at h; exact h)
      have HT : Hid (∀ w, Calls Try.prog 13 #[.agg #[.int .u32 a, .int .i64 b, .bool o]] w fun e w' => e = .returned (.string s) ∧ Below w.heap.size w w') := Lib.hid (fun w => by have h := refPut13_any a b o h0 h1 (by omega) (by omega) w; rw [hk] at h; exact h)
      clear hbb hr hk
      unfold n0 at HN
      unfold x0 at HA
      obtain ⟨n1, n2⟩ := hno
      obtain ⟨n1a, n1b⟩ := ne_list (l := [78, 0]) n1
      obtain ⟨n2a, n2b⟩ := ne_list (l := [78, 1]) n2
      clear n1 n2
      obtain ⟨m1, m2, m3⟩ := hao
      obtain ⟨m1a, m1b⟩ := ne_list (l := [65, 1]) m1
      obtain ⟨m2a, m2b⟩ := ne_list (l := [65, 2]) m2
      obtain ⟨m3a, m3b⟩ := ne_list (l := [65, 3]) m3
      clear m1 m2 m3
      go_wp2_with fail
      refine (HP.out _).mono ?_; rintro e w1 ⟨rfl, hb1⟩
      have hB1 := hb1
      have hp1 : Cell3 w1.heap.size a b o (w1.alloc (poolO a b o 32)) := Cell3.new _ _ _ _ _
      have hB1 := belAlloc hB1 (poolO a b o 32)
      go_wp2_with fail
      refine (HO.out _).mono ?_; rintro e w2 ⟨rfl, hb2⟩
      have hB2 := bel hB1 hb2
      have hp2 := hp1.keep hb2
      go_wp2_with fail
      refine (HQ.out _).mono ?_; rintro e w3 ⟨rfl, hb3⟩
      have hB3 := bel hB2 hb3
      have hp3 := hp2.keep hb3
      obtain ⟨q0, q1, q2, q3⟩ := id hp3
      go_wp2_with fail
      refine (HO.out _).mono ?_; rintro e w4 ⟨rfl, hb4⟩
      have hB4 := bel hB3 hb4
      clear q0 q1 q2 q3
      go_wp2_with fail
      refine (HT.out _).mono ?_; rintro e w5 ⟨rfl, hb5⟩
      have hB5 := bel hB4 hb5
      go_wp2_with fail
      refine (HN.out _).mono ?_; rintro e w6 ⟨rfl, hb6⟩
      have hB6 := bel hB5 hb6
      go_wp2_with fail
      refine (HA.out _).mono ?_; rintro e w7 ⟨rfl, hb7⟩
      have hB7 := bel hB6 hb7
      go_wp2_with fail
      refine (HW.out _).mono ?_; rintro e w8 ⟨rfl, hb8⟩
      have hB8 := bel hB7 hb8
      go_wp2_with fail
      go_ret
      exact ⟨rfl, hB8⟩
    · have HT : Hid (∀ w, Calls Try.prog 16 #[.bool o] w fun e w' => e = .returned (.string s) ∧ Below w.heap.size w w') := Lib.hid (fun w => by have h := putNode_any o w; rw [hk] at h; exact h)
      clear hk
      unfold p0 at HP
      unfold x0 at HA
      obtain ⟨m1, m2, m3⟩ := hao
      obtain ⟨m1a, m1b⟩ := ne_list (l := [65, 1]) m1
      obtain ⟨m2a, m2b⟩ := ne_list (l := [65, 2]) m2
      obtain ⟨m3a, m3b⟩ := ne_list (l := [65, 3]) m3
      clear m1 m2 m3
      go_wp2_with fail
      refine (HP.out _).mono ?_; rintro e w1 ⟨rfl, hb1⟩
      have hB1 := hb1
      have hB1 := belAlloc hB1 (poolO 0 0 false 32)
      go_wp2_with fail
      refine (HN.out _).mono ?_; rintro e w2 ⟨rfl, hb2⟩
      have hB2 := bel hB1 hb2
      go_wp2_with fail
      refine (HT.out _).mono ?_; rintro e w3 ⟨rfl, hb3⟩
      have hB3 := bel hB2 hb3
      go_wp2_with fail
      refine (HA.out _).mono ?_; rintro e w4 ⟨rfl, hb4⟩
      have hB4 := bel hB3 hb4
      go_wp2_with fail
      refine (HW.out _).mono ?_; rintro e w5 ⟨rfl, hb5⟩
      have hB5 := bel hB4 hb5
      go_wp2_with fail
      go_ret
      exact ⟨rfl, hB5⟩
    · have HT : Hid (∀ w, Calls Try.prog 18 #[.int .i64 x] w fun e w' => e = .returned (.tuple #[.string s, .int .i64 0]) ∧ Below w.heap.size w w') := Lib.hid (fun w => by have h := putAff_any x w; rw [if_pos hx, hk] at h; exact h)
      clear hk hx
      unfold p0 at HP
      unfold n0 at HN
      obtain ⟨n1, n2⟩ := hno
      obtain ⟨n1a, n1b⟩ := ne_list (l := [78, 0]) n1
      obtain ⟨n2a, n2b⟩ := ne_list (l := [78, 1]) n2
      clear n1 n2
      go_wp2_with fail
      refine (HP.out _).mono ?_; rintro e w1 ⟨rfl, hb1⟩
      have hB1 := hb1
      have hB1 := belAlloc hB1 (poolO 0 0 false 32)
      go_wp2_with fail
      refine (HN.out _).mono ?_; rintro e w2 ⟨rfl, hb2⟩
      have hB2 := bel hB1 hb2
      go_wp2_with fail
      refine (HA.out _).mono ?_; rintro e w3 ⟨rfl, hb3⟩
      have hB3 := bel hB2 hb3
      go_wp2_with fail
      refine (HT.out _).mono ?_; rintro e w4 ⟨rfl, hb4⟩
      have hB4 := bel hB3 hb4
      go_wp2_with fail
      refine (HW.out _).mono ?_; rintro e w5 ⟨rfl, hb5⟩
      have hB5 := bel hB4 hb5
      go_wp2_with fail
      go_ret
      exact ⟨rfl, hB5⟩
end Go.Proofs.Ytcfmknocpjjklaa
