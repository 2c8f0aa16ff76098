/- The law BitsPlaces: the least and the greatest slot, and each by its place. -/
import Derived.Test.YthkhikmdcadceaaDoorBitsListsW
namespace Go.Proofs.YthkhikmdcadceaaDoor
open Go.RowKit
theorem OwnsI.at {w : World} {B : Nat} {v : Value} {R : List Int} (h : OwnsI w B v R) (hR : R ≠ []) :
    ∃ g c, v = .slice (some ⟨g, 0, none⟩) R.length c ∧ R.length ≤ c ∧ ∀ i, i < R.length → w.cell? ⟨g, i, none⟩ = some (.int .i64 (R.getD i 0)) := by
  have h0 := h
  obtain ⟨_, ⟨rfl, hn⟩ | ⟨g, cap, cur, rfl, hB, hb, hnc, _, _, _⟩⟩ := h
  · exact absurd (List.eq_nil_of_length_eq_zero hn) hR
  · exact ⟨g, cap, rfl, hnc, fun i hi => by rw [World.ownsRow.cellAt h0 _ (by omega), getD_cellsI hi]⟩
theorem OwnsI.empty {w : World} {B : Nat} {v : Value} (h : OwnsI w B v []) : ∃ ao c, v = .slice ao 0 c := by
  obtain ⟨ao, c, e, _⟩ := h.form1
  exact ⟨ao, c, e⟩
set_option maxRecDepth 100000 in
set_option maxHeartbeats 4000000 in
theorem bitsPlaces_walk (W : World) (x k : Int) (h0 : 0 ≤ x) (h1 : x < 18446744073709551616) (_ : -9223372036854775808 ≤ k) (_ : k ≤ 9223372036854775807) (hE : Env W) :
    Calls Tryd.prog 5 #[.int .u64 x, .int .i64 k] W fun e W' => e = .returned (.bool true) ∧ Below W.heap.size W W' := by
  obtain ⟨n, rfl⟩ := Int.eq_ofNat_of_zero_le h0
  have hn : n < M64 := by have hk : n < 18446744073709551616 := by omega
                          exact hk
  have HF := Lib.hid (refList_any n hn W)
  have HAw := Lib.hid (fun (w : World) (hb : Below W.heap.size W w) => awake14_any w (hE.below hb))
  by_cases hz : n = 0
  · have HLo : Hid (∀ w, Below W.heap.size W w → Calls Tryd.prog 19 #[.int .u64 (n : Int)] w fun e w' => e = .returned (.tuple #[.int .i64 0, .bool false]) ∧ w = w') := Lib.hid (fun w hb => by
      have h := low_any n hn w (hE.below hb)
      rw [if_pos hz] at h
      exact h)
    have HHi : Hid (∀ w, Calls Tryd.prog 20 #[.int .u64 (n : Int)] w fun e w' => e = .returned (.tuple #[.int .i64 0, .bool false]) ∧ w = w') := Lib.hid (fun w => by
      have h := high_any n hn w
      rw [if_pos hz] at h
      exact h)
    have HNt : Hid (∀ w, Below W.heap.size W w → Calls Tryd.prog 21 #[.int .u64 (n : Int), .int .i64 k] w fun e w' => e = .returned (.tuple #[.int .i64 0, .bool false]) ∧ w = w') := Lib.hid (fun w hb => by
      have h := nth_any n k hn w (hE.below hb)
      rw [if_neg (by rw [hz, mem_zero]; simp)] at h
      exact h)
    have hm : memZ n 64 = [] := by rw [hz]; exact mem_zero
    rw [hm] at HF
    clear hm hn hz h0 h1
    go_enter Tryd.func5, Tryd.ntmps5
    go_wp2_with fail
    refine HF.out.mono ?_; rintro e w1 ⟨v1, rfl, ho1, hb1⟩
    obtain ⟨ao, c, rfl⟩ := ho1.empty
    have HB := Lib.hid hb1
    clear ho1 hb1
    go_wp2_with fail
    refine (HLo.out w1 HB.out).mono ?_; rintro e w1' ⟨rfl, rfl⟩
    go_wp2_with fail
    refine (HHi.out w1).mono ?_; rintro e w1' ⟨rfl, rfl⟩
    go_wp2_with fail
    refine (HNt.out w1 HB.out).mono ?_; rintro e w1' ⟨rfl, rfl⟩
    go_wp2_with fail
    refine (HAw.out _ HB.out).mono ?_; rintro e w3 ⟨rfl, hb3⟩
    go_wp2_with fail
    go_ret
    exact ⟨rfl, HB.out.trans (hb3.mono HB.out.size)⟩
  · have hmc := mem_cons hz hn
    have hml := mem_last hz hn
    have hR : memZ n 64 ≠ [] := by rw [hmc]; simp
    have hh : (memZ n 64).getD 0 0 = (Lib.ctz 64 n : Int) := by rw [hmc]; rfl
    clear hmc
    have HLo : Hid (∀ w, Below W.heap.size W w → Calls Tryd.prog 19 #[.int .u64 (n : Int)] w fun e w' => e = .returned (.tuple #[.int .i64 ((memZ n 64).getD 0 0), .bool true]) ∧ w = w') := Lib.hid (fun w hb => by
      have h := low_any n hn w (hE.below hb)
      rw [if_neg hz, ← hh] at h
      exact h)
    have HHi : Hid (∀ w, Calls Tryd.prog 20 #[.int .u64 (n : Int)] w fun e w' => e = .returned (.tuple #[.int .i64 ((memZ n 64).getD ((memZ n 64).length - 1) 0), .bool true]) ∧ w = w') := Lib.hid (fun w => by
      have h := high_any n hn w
      rw [if_neg hz, ← hml] at h
      exact h)
    have HNt := Lib.hid (fun (w : World) (hb : Below W.heap.size W w) => nth_any n k hn w (hE.below hb))
    have hlen := memZ_len n 64
    generalize memZ n 64 = R at *
    clear hh hml hz hn h0 h1
    obtain ⟨L, hL⟩ : ∃ L, R.length = L + 1 := by
      cases R with
      | nil => exact absurd rfl hR
      | cons a R => exact ⟨R.length, rfl⟩
    rw [hL] at HHi HNt
    rw [hL] at hlen
    rw [Nat.add_sub_cancel] at HHi
    have d0 : ((L : Int) + 1 == 0) = false := by simp; omega
    by_cases hk : 0 ≤ k ∧ k < ((L + 1 : Nat) : Int)
    · obtain ⟨q, rfl⟩ := Int.eq_ofNat_of_zero_le hk.1
      have hq : q < L + 1 := by omega
      have dq : decide ((q : Int) < (L : Int) + 1) = true := decide_eq_true (by omega)
      have hT : Hid (∀ w, Below W.heap.size W w → Calls Tryd.prog 21 #[.int .u64 (n : Int), .int .i64 (q : Int)] w fun e w' => e = .returned (.tuple #[.int .i64 (R.getD q 0), .bool true]) ∧ w = w') := Lib.hid (fun w hb => by
        have h := HNt.out w hb
        rw [if_pos hk, Int.toNat_natCast] at h
        exact h)
      clear HNt hk
      go_enter Tryd.func5, Tryd.ntmps5
      go_wp2_with fail
      refine HF.out.mono ?_; rintro e w1 ⟨v1, rfl, ho1, hb1⟩
      obtain ⟨g, c, rfl, hc, hcell⟩ := ho1.at hR
      have C0 := hcell 0 (by omega)
      have CL := hcell L (by omega)
      have CQ := hcell q (by omega)
      have HB := Lib.hid hb1
      rw [hL] at hc ⊢
      clear ho1 hb1 hcell
      generalize R.getD 0 0 = a at *
      generalize R.getD L 0 = b at *
      generalize R.getD q 0 = y at *
      clear hR hL
      go_wp2_with fail
      refine (HLo.out w1 HB.out).mono ?_; rintro e w1' ⟨rfl, rfl⟩
      go_wp2_with fail
      refine (HHi.out w1).mono ?_; rintro e w1' ⟨rfl, rfl⟩
      go_wp2_with fail
      refine (hT.out w1 HB.out).mono ?_; rintro e w1' ⟨rfl, rfl⟩
      go_wp2_with fail
      refine (HAw.out _ HB.out).mono ?_; rintro e w3 ⟨rfl, hb3⟩
      go_wp2_with fail
      go_ret
      exact ⟨rfl, HB.out.trans (hb3.mono HB.out.size)⟩
    · have hT : Hid (∀ w, Below W.heap.size W w → Calls Tryd.prog 21 #[.int .u64 (n : Int), .int .i64 k] w fun e w' => e = .returned (.tuple #[.int .i64 0, .bool false]) ∧ w = w') := Lib.hid (fun w hb => by
        have h := HNt.out w hb
        rw [if_neg hk] at h
        exact h)
      clear HNt
      go_enter Tryd.func5, Tryd.ntmps5
      go_wp2_with fail
      refine HF.out.mono ?_; rintro e w1 ⟨v1, rfl, ho1, hb1⟩
      obtain ⟨g, c, rfl, hc, hcell⟩ := ho1.at hR
      have C0 := hcell 0 (by omega)
      have CL := hcell L (by omega)
      have HB := Lib.hid hb1
      rw [hL] at hc ⊢
      clear ho1 hb1 hcell
      generalize R.getD 0 0 = a at *
      generalize R.getD L 0 = b at *
      clear hR hL
      by_cases hk0 : 0 ≤ k
      · have hk1 : (L : Int) + 1 ≤ k := by omega
        clear hk
        go_wp2_with fail
        refine (HLo.out w1 HB.out).mono ?_; rintro e w1' ⟨rfl, rfl⟩
        go_wp2_with fail
        refine (HHi.out w1).mono ?_; rintro e w1' ⟨rfl, rfl⟩
        go_wp2_with fail
        refine (hT.out w1 HB.out).mono ?_; rintro e w1' ⟨rfl, rfl⟩
        go_wp2_with fail
        refine (HAw.out _ HB.out).mono ?_; rintro e w3 ⟨rfl, hb3⟩
        go_wp2_with fail
        go_ret
        exact ⟨rfl, HB.out.trans (hb3.mono HB.out.size)⟩
      · have hk1 : k < 0 := by omega
        clear hk hk0
        go_wp2_with fail
        refine (HLo.out w1 HB.out).mono ?_; rintro e w1' ⟨rfl, rfl⟩
        go_wp2_with fail
        refine (HHi.out w1).mono ?_; rintro e w1' ⟨rfl, rfl⟩
        go_wp2_with fail
        refine (hT.out w1 HB.out).mono ?_; rintro e w1' ⟨rfl, rfl⟩
        go_wp2_with fail
        refine (HAw.out _ HB.out).mono ?_; rintro e w3 ⟨rfl, hb3⟩
        go_wp2_with fail
        go_ret
        exact ⟨rfl, HB.out.trans (hb3.mono HB.out.size)⟩
end Go.Proofs.YthkhikmdcadceaaDoor
