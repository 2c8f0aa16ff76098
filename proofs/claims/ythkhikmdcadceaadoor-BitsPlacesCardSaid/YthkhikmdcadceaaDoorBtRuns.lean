/- Package bits: Runs. -/
import Derived.Test.YthkhikmdcadceaaDoorBtRunM
namespace Go.Proofs.YthkhikmdcadceaaDoor
open Go.RowKit
theorem infoP : (Tryd.prog.info? 44).map (fun i => (i.zero, i.size, i.bytes)) = some (some (.agg #[.int .i64 0, .int .i64 0]), 2, 16) := by kernel_rfl
abbrev cellsP (R : List (Int × Int)) : List Value := R.flatMap (fun p => [.int .i64 p.1, .int .i64 p.2])
/-- A row of pairs of the call's own. -/
abbrev OwnsP (w : World) (B : Nat) (v : Value) (R : List (Int × Int)) : Prop := w.ownsRow B 44 2 v R.length (cellsP R)
theorem OwnsP.nil (w : World) (B : Nat) : OwnsP w B (.slice none 0 0) [] := World.ownsRow_nil _ _ _ _
theorem OwnsP.keep {w w' : World} {B : Nat} {v : Value} {R : List (Int × Int)} (h : OwnsP w B v R) (hb : Below w.heap.size w w') : OwnsP w' B v R :=
  ⟨h.1, h.2.imp id fun ⟨g, cap, cur, e, hB, hg, r⟩ => ⟨g, cap, cur, e, hB, (hb.block g (heap_ltI hg)).trans hg, r⟩⟩
theorem runL_len (f : Nat) : ∀ x, x < M64 → (runL f x).length ≤ (memZ x 64).length := by
  induction f with
  | zero => intro x _; exact Nat.zero_le _
  | succ f ih =>
    intro x hx
    unfold runL
    by_cases h0 : x = 0
    · rw [if_pos h0]; exact Nat.zero_le _
    · rw [if_neg h0, List.length_cons]
      have := ih (clrN x) (clr_lt hx)
      have := clr_len h0 hx
      omega
theorem not_xor {y : Nat} (hy : y < M64) : bits .xor .u64 18446744073709551615 (y : Int) = ((18446744073709551615 - y : Nat) : Int) := by
  have h := u64_xor_nat 18446744073709551615 y (by decide) hy
  have e : (18446744073709551615 : Nat) ^^^ y = 18446744073709551615 - y := by
    apply set_ext (Nat.xor_lt_two_pow (n := 64) (by decide) hy) (Nat.lt_of_le_of_lt (Nat.sub_le _ _) (by decide))
    intro j hj
    rw [not_bit hy hj, Nat.testBit_xor]
    have h1 : (18446744073709551615 : Nat).testBit j = true := by
      rw [show (18446744073709551615 : Nat) = 2 ^ 64 - 1 by decide, Nat.testBit_two_pow_sub_one, decide_eq_true hj]
    rw [h1, Bool.true_xor]
  rw [e] at h
  exact h
theorem run_facts {s : Nat} (h0 : s ≠ 0) (hs : s < M64) :
    (s : Int) / 2 ^ firstN s = ((s / 2 ^ firstN s : Nat) : Int) ∧ bits .xor .u64 18446744073709551615 ((s / 2 ^ firstN s : Nat) : Int) = ((notN s : Nat) : Int) ∧
    bits .andNot .u64 (s : Int) ((2 ^ behN s - 1 : Nat) : Int) = ((clrN s : Nat) : Int) := by
  obtain ⟨r1, r2, -, -, -⟩ := run_spec h0 hs
  have hyx : s / 2 ^ firstN s < M64 := Nat.lt_of_le_of_lt (Nat.div_le_self _ _) hs
  have hp64 : 2 ^ behN s ≤ 2 ^ 64 := Nat.pow_le_pow_right (by omega) r2
  have hp0 : 0 < 2 ^ behN s := Nat.pow_pos (by omega)
  have e64 : (2 : Nat) ^ 64 = 18446744073709551616 := by decide
  rw [e64] at hp64
  refine ⟨by rw [Int.natCast_ediv, Int.natCast_pow]; rfl, not_xor hyx, ?_⟩
  have h2 : 2 ^ behN s - 1 < 18446744073709551616 := by omega
  exact u64_andNot_nat s (2 ^ behN s - 1) hs h2
theorem allM_of {b : Nat} (h : b ≤ 64) : allM (b : Int) = b := by unfold allM; omega
set_option maxRecDepth 100000 in
set_option maxHeartbeats 8000000 in
theorem runs_any (x : Nat) (hx : x < M64) (w : World) (hE : Env w) :
    Calls Tryd.prog 22 #[.int .u64 x] w fun e w' => ∃ v, e = .returned v ∧ OwnsP w' w.heap.size v (runL 65 x) ∧ Below w.heap.size w w' := by
  obtain ⟨i0, hi, hz0, hz1, hz2⟩ := info_parts infoP
  have hlen65 : (memZ x 64).length < 65 := by have := memZ_len x 64; omega
  have hrl : (runL 65 x).length ≤ 64 := Nat.le_trans (runL_len 65 x hx) (memZ_len x 64)
  have HX := Lib.hid (And.intro hx hlen65)
  generalize hR : runL 65 x = R at *
  have HR := Lib.hid hR
  clear hx hlen65 hR
  go_enter Tryd.func22, Tryd.ntmps22
  go_wp2
  go_loopg [0, 3] 65 (fun gh n v wr => ∃ (s : Nat) (D : List (Int × Int)), n = .int .u64 (s : Int) ∧ s < M64 ∧ (memZ s 64).length < gh ∧ gh ≤ 65 ∧ D ++ runL gh s = R ∧ OwnsP wr w.heap.size v D ∧ Below w.heap.size w wr)
  case atStart => exact ⟨x, [], rfl, HX.out.1, HX.out.2, Nat.le_refl _, HR.out, OwnsP.nil _ _, Below.refl _ _⟩
  case round =>
    obtain ⟨s, D, rfl, hs, hml, hg65, hD, hown, hbel⟩ := hrel
    by_cases h0 : s = 0
    · subst h0
      have hDR : D = R := by
        rw [← hD]
        cases gk with
        | zero => simp [runL]
        | succ f => rw [runL, if_pos rfl]; simp
      subst hDR
      clear hD hs hml
      go_wp2_with fail
      go_ret
      exact ⟨_, rfl, hown, hbel⟩
    · obtain ⟨f, rfl⟩ : ∃ f, gk = f + 1 := ⟨gk - 1, by omega⟩
      have hcl := clr_len h0 hs
      rw [runL, if_neg h0] at hD
      have hdl : D.length ≤ 64 := by
        have := congrArg List.length hD
        rw [List.length_append] at this
        omega
      obtain ⟨r1, r2, -, -, -⟩ := run_spec h0 hs
      have hEr := hE.below hbel
      have HL : Hid (Calls Tryd.prog 19 #[.int .u64 s] wr fun e w' => e = .returned (.tuple #[.int .i64 (firstN s), .bool true]) ∧ wr = w') := Lib.hid (by
        have h := low_any s hs wr hEr
        rw [if_neg h0] at h
        exact h)
      have HC : Hid (Calls Tryd.prog 26 #[.int .u64 (notN s)] wr fun e w' => e = .returned (.int .i64 ((behN s : Int) - (firstN s : Int))) ∧ wr = w') := Lib.hid (by
        have h := ctz_any (notN s) (notN_lt s) wr hEr
        have e : ((Lib.ctz 64 (notN s) : Nat) : Int) = (behN s : Int) - (firstN s : Int) := by unfold behN; omega
        rw [e] at h
        exact h)
      have HA : Hid (∀ w, Calls Tryd.prog 18 #[.int .i64 (behN s)] w fun e w' => e = .returned (.int .u64 ((2 ^ behN s - 1 : Nat) : Int)) ∧ w = w') := Lib.hid (fun w => by
        have h := all_any (behN s) w
        rw [allM_of r2] at h
        exact h)
      have KX : Hid (bits .xor .u64 IntKind.u64.max ((s : Int) / 2 ^ firstN s) = ((notN s : Nat) : Int)) := Lib.hid (by
        obtain ⟨k1, k2, -⟩ := run_facts h0 hs
        have em : IntKind.u64.max = 18446744073709551615 := by decide
        rw [em, k1]
        exact k2)
      have K3 := Lib.hid (run_facts h0 hs).2.2
      have HN : Hid (clrN s < M64 ∧ (memZ (clrN s) 64).length < f ∧ f ≤ 65) := Lib.hid ⟨clr_lt hs, by omega, by omega⟩
      have HDn : Hid ((D ++ [((firstN s : Int), (behN s : Int))]) ++ runL f (clrN s) = R) := Lib.hid (by rw [List.append_assoc]; exact hD)
      have d0 : ((s : Int) == 0) = false := by simp; omega
      have d0' : ((s : Int) != 0) = true := by simp; omega
      have hsz := hbel.size
      clear hcl hD hEr hs hml hg65 h0
      generalize clrN s = s2 at *
      generalize 2 ^ behN s - 1 = msk2 at *
      generalize notN s = nt at *
      generalize behN s = B at *
      generalize firstN s = F at *
      have hFB : (F : Int) + ((B : Int) - (F : Int)) = (B : Int) := by omega
      have df : decide ((F : Int) < 0) = false := decide_eq_false (by omega)
      go_wp2_with fail
      refine HL.out.mono ?_; rintro e w1 ⟨rfl, rfl⟩
      go_wp2_with fail
      rw [KX.out]
      refine HC.out.mono ?_; rintro e w1 ⟨rfl, rfl⟩
      go_wp2_with (first | (at_builtin; refine wpList_append_own _ rfl _ _ 41 rfl w.heap.size 44 i0 (.agg #[.int .i64 0, .int .i64 0]) 2 16 Tryd.underlying41 hi hz0 hz1 hz2 rfl (by decide) _ _ _ rfl (hown.alloc _) ⟨wr.heap.size, 0, none⟩ 1 1 [.int .i64 (F : Int), .int .i64 (B : Int)] rfl rfl ?qc1 ?qc2 ?qc3 ?qc4 ?qc5 ?_) | (go_at_call 18; refine (HA.out _).mono ?_; rintro e w4 ⟨rfl, rfl⟩) | go_in)
      case qc1 =>
        intro j u hj
        match j, hj with
        | 0, hj =>
          simp at hj
          subst hj
          rw [add0]
          simp
        | 1, hj =>
          simp at hj
          subst hj
          rw [add0]
          simp
        | j + 2, hj => simp at hj
      case qc2 =>
        intro u hu
        simp at hu
        rcases hu with rfl | rfl <;> rfl
      case qc3 => unfold maxLen; omega
      case qc4 => omega
      case qc5 => first | omega | (simp; omega)
      intro v' w3 hown' hgrow _
      go_wp2_with fail
      have k3 := K3.out
      refine (HA.out _).mono ?_; rintro e w4 ⟨rfl, rfl⟩
      go_wp2_with fail
      go_roundg f
      case measure => omega
      case rel =>
        refine ⟨s2, D ++ [((F : Int), (B : Int))], rfl, HN.out.1, HN.out.2.1, HN.out.2.2, HDn.out, ?_, ?_⟩
        · unfold OwnsP cellsP
          rw [List.flatMap_append, List.length_append]
          exact hown'
        · exact (belAlloc hbel _).grown hgrow (by simp; omega) (fun g hg => (hown.lt g hg).1)
end Go.Proofs.YthkhikmdcadceaaDoor
