/- The law BitsRuns: both ways give the same runs. -/
import Derived.Test.YthkhikmdcadceaaDoorBtAwake
namespace Go.Proofs.YthkhikmdcadceaaDoor
open Go.RowKit
theorem belowDN {B : Nat} {a w : World} (h : Below B a w) (m : Nat) : Below B a (w.drewN m) := ⟨h.os, h.tape, h.output, h.size, h.block⟩
set_option maxRecDepth 100000 in
set_option maxHeartbeats 4000000 in
theorem bitsRuns_walk (W : World) (x : Int) (h0 : 0 ≤ x) (h1 : x < 18446744073709551616) (hE : Env W) :
    Calls Tryd.prog 6 #[.int .u64 x] W fun e W' => e = .returned (.bool true) ∧ Below W.heap.size W W' := by
  obtain ⟨n, rfl⟩ := Int.eq_ofNat_of_zero_le h0
  have hn : n < M64 := by have hk : n < 18446744073709551616 := by omega
                          exact hk
  have HL := Lib.hid (runs_any n hn W hE)
  have HF := Lib.hid (fun w => refRuns_any n hn w)
  have HAw := Lib.hid (fun (w : World) (hb : Below W.heap.size W w) => awake14_any w (hE.below hb))
  have hRl : (runL 65 n).length ≤ 64 := Nat.le_trans (runL_len 65 n hn) (memZ_len n 64)
  generalize runL 65 n = R at *
  clear hn h0 h1
  go_enter Tryd.func6, Tryd.ntmps6
  go_wp2_with fail
  refine HL.out.mono ?_; rintro e w1 ⟨v1, rfl, ho1, hb1⟩
  go_wp2_with fail
  refine (HF.out w1).mono ?_; rintro e w2 ⟨v2, rfl, ho2, hb2⟩
  have ho1' := ho1.keep hb2
  have HB := Lib.hid (hb1.trans (hb2.mono hb1.size))
  by_cases hR : R = []
  · subst hR
    obtain ⟨ao1, c1, rfl, _⟩ := ho1'.form
    obtain ⟨ao2, c2, rfl, _⟩ := ho2.form
    clear ho1 ho1' ho2 hb1 hb2
    go_wp2_with fail
    go_loopw [17] (fun j wr => j = .int .i64 0 ∧ wr = w2) (fun j _ => 0)
    case atStart => exact ⟨rfl, rfl⟩
    case round =>
      obtain ⟨rfl, rfl⟩ := hrel
      go_wp2_with fail
      refine (HAw.out _ HB.out).mono ?_; rintro e w3 ⟨rfl, hb3⟩
      go_wp2_with fail
      go_ret
      exact ⟨rfl, HB.out.trans (hb3.mono HB.out.size)⟩
  · obtain ⟨g1, c1, rfl, _, hg1, hc1, A1⟩ := ho1'.at hR
    obtain ⟨g2, c2, rfl, _, hg2, hc2, A2⟩ := ho2.at hR
    have B1 := Lib.hid A1
    have B2 := Lib.hid A2
    clear A1 A2 ho1 ho1' ho2 hb1 hb2
    go_wp2_with fail
    go_loopw [17] (fun j wr => ∃ i m : Nat, i ≤ R.length ∧ j = .int .i64 i ∧ wr = w2.drewN m) (fun j _ => R.length - (intOf j).toNat)
    case atStart => exact ⟨0, 0, by omega, rfl, rfl⟩
    case round =>
      obtain ⟨i, m, hi, rfl, rfl⟩ := hrel
      by_cases hlt : i < R.length
      · have hex : ∃ p, R[i]? = some p := ⟨_, List.getElem?_eq_getElem hlt⟩
        obtain ⟨⟨a, b⟩, hp⟩ := hex
        obtain ⟨k0, k1⟩ := B1.out i _ hp
        obtain ⟨k2, k3⟩ := B2.out i _ hp
        have e1 : ∀ W, (Op.equalIn 10000 44 (.agg #[.int .i64 a, .int .i64 b]) (.agg #[.int .i64 a, .int .i64 b])).run Tryd.prog W = .ok true W := fun W => arr_eqP 9998 a b W
        have HLT := Lib.hid hlt
        simp only at k0 k1 k2 k3
        clear hp
        go_upto_region 7 with fail
        go_quiet (fail)
        go_wp2
        go_roundw
        case rel => exact ⟨i + 1, _, HLT.out, by go_num, rfl⟩
        case measure => simp [intOf]; have := HLT.out; omega
      · obtain rfl : i = R.length := by omega
        have hbw : Below W.heap.size W (w2.drewN m) := belowDN HB.out m
        have HBw := Lib.hid hbw
        clear hbw
        go_wp2_with fail
        refine (HAw.out _ HBw.out).mono ?_; rintro e w3 ⟨rfl, hb3⟩
        go_wp2_with fail
        go_ret
        exact ⟨rfl, HBw.out.trans (hb3.mono HBw.out.size)⟩
end Go.Proofs.YthkhikmdcadceaaDoor
