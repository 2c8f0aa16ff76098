/- The law BitsLists: the slots of a set, how many, and the set of numbers. -/
import Derived.Test.YthkhikmdcadceaaDoorBitsRunsW
namespace Go.Proofs.YthkhikmdcadceaaDoor
open Go.RowKit
theorem OwnsI.form1 {w : World} {B : Nat} {v : Value} {R : List Int} (h : OwnsI w B v R) : ∃ ao c, v = .slice ao R.length c ∧ R.length ≤ c := by
  obtain ⟨ao, c, e, hl, _⟩ := h.sees
  exact ⟨ao, c, e, hl⟩
set_option maxRecDepth 100000 in
set_option maxHeartbeats 4000000 in
theorem bitsLists_walk (W : World) (x : Int) (v : Value) (l : List Int) (h0 : 0 ≤ x) (h1 : x < 18446744073709551616) (hs : SeesI W v l) (hE : Env W) :
    Calls Tryd.prog 3 #[.int .u64 x, v] W fun e W' => e = .returned (.bool true) ∧ Below W.heap.size W W' := by
  obtain ⟨n, rfl⟩ := Int.eq_ofNat_of_zero_le h0
  have hn : n < M64 := by have hk : n < 18446744073709551616 := by omega
                          exact hk
  have HL := Lib.hid (fun w => list_any n hn w)
  have HF := Lib.hid (fun w => refList_any n hn w)
  have hNn := fun w => len_any n hn w
  rw [← memZ_length n] at hNn
  have HN := Lib.hid hNn
  have HM := Lib.hid (ofN_mem hn)
  have HAw := Lib.hid (fun (w : World) (hb : Below W.heap.size W w) => awake14_any w (hE.below hb))
  have hRl : (memZ n 64).length ≤ 64 := memZ_len n 64
  generalize memZ n 64 = R at *
  clear hn h0 h1 hNn
  obtain ⟨ao, c, rfl, hlc, hnil, hcell⟩ := hs
  have HS0 := Lib.hid (show SeesI W (.slice ao l.length c) l from ⟨ao, c, rfl, hlc, hnil, hcell⟩)
  clear hcell
  by_cases hl : l.length ≤ 20
  · have HS := HS0
    clear hnil
    have hl1 : Hid (l.length ≤ 20) := Lib.hid hl
    go_enter Tryd.func3, Tryd.ntmps3
    go_wp2_with fail
    refine (HL.out W).mono ?_; rintro e w1 ⟨v1, rfl, ho1, hb1⟩
    go_wp2_with fail
    refine (HF.out w1).mono ?_; rintro e w2 ⟨v2, rfl, ho2, hb2⟩
    have HB2 := Lib.hid (hb1.trans (hb2.mono hb1.size))
    have HSm := Lib.hid (same_yes v1 v2 _ w2 (ho1.sees.keep hb2) ho2.sees (by omega))
    clear ho1 ho2 hb1 hb2
    go_wp2_with fail
    refine HSm.out.mono ?_; rintro e w3 ⟨rfl, m, rfl⟩
    have HB3 := Lib.hid (belowDN HB2.out m)
    generalize w2.drewN m = w3 at HB3 ⊢
    go_wp2_with fail
    refine (HN.out w3).mono ?_; rintro e w3' ⟨rfl, rfl⟩
    go_wp2_with fail
    refine (HF.out w3).mono ?_; rintro e w4 ⟨v3, rfl, ho3, hb3⟩
    obtain ⟨ao3, c3, rfl, hc3⟩ := ho3.form1
    have HB4 := Lib.hid (HB3.out.trans (hb3.mono HB3.out.size))
    have HS4 := Lib.hid (HS.out.keep HB4.out)
    clear ho3 hb3
    go_wp2_with fail
    refine (of_any _ _ w4 HS4.out (by have := hl1.out; omega)).mono ?_; rintro e w4' ⟨rfl, rfl⟩
    go_wp2_with fail
    refine (refOf_any _ _ w4 HS4.out (by have := hl1.out; omega)).mono ?_; rintro e w4' ⟨rfl, rfl⟩
    go_wp2_with fail
    refine (HL.out w4).mono ?_; rintro e w5 ⟨v4, rfl, ho4, hb4⟩
    have HO := Lib.hid (of_any v4 _ w5 ho4.sees (by omega))
    rw [HM.out] at HO
    have HB5 := Lib.hid (HB4.out.trans (hb4.mono HB4.out.size))
    clear ho4 hb4
    go_wp2_with fail
    refine HO.out.mono ?_; rintro e w5' ⟨rfl, rfl⟩
    go_wp2_with fail
    refine (HAw.out _ HB5.out).mono ?_; rintro e w6 ⟨rfl, hb6⟩
    go_wp2_with fail
    go_ret
    exact ⟨rfl, HB5.out.trans (hb6.mono HB5.out.size)⟩
  · obtain ⟨a, rfl⟩ : ∃ a, ao = some a := by
      cases ao with
      | none => exact absurd (by rw [hnil rfl]; simp) hl
      | some a => exact ⟨a, rfl⟩
    have HS := Lib.hid (HS0.out.take (k := 20) (by omega))
    have h20 : 20 < l.length := by omega
    have hc20 : 20 ≤ c := by omega
    have hl1 : Hid ((l.take 20).length ≤ 1000) := Lib.hid (by simp; omega)
    clear hnil hl
    go_enter Tryd.func3, Tryd.ntmps3
    go_wp2_with fail
    refine (HL.out W).mono ?_; rintro e w1 ⟨v1, rfl, ho1, hb1⟩
    go_wp2_with fail
    refine (HF.out w1).mono ?_; rintro e w2 ⟨v2, rfl, ho2, hb2⟩
    have HB2 := Lib.hid (hb1.trans (hb2.mono hb1.size))
    have HSm := Lib.hid (same_yes v1 v2 _ w2 (ho1.sees.keep hb2) ho2.sees (by omega))
    clear ho1 ho2 hb1 hb2
    go_wp2_with fail
    refine HSm.out.mono ?_; rintro e w3 ⟨rfl, m, rfl⟩
    have HB3 := Lib.hid (belowDN HB2.out m)
    generalize w2.drewN m = w3 at HB3 ⊢
    go_wp2_with fail
    refine (HN.out w3).mono ?_; rintro e w3' ⟨rfl, rfl⟩
    go_wp2_with fail
    refine (HF.out w3).mono ?_; rintro e w4 ⟨v3, rfl, ho3, hb3⟩
    obtain ⟨ao3, c3, rfl, hc3⟩ := ho3.form1
    have HB4 := Lib.hid (HB3.out.trans (hb3.mono HB3.out.size))
    have HS4 := Lib.hid (HS.out.keep HB4.out)
    clear ho3 hb3
    go_wp2_with fail
    refine (of_any _ _ w4 HS4.out hl1.out).mono ?_; rintro e w4' ⟨rfl, rfl⟩
    go_wp2_with fail
    refine (refOf_any _ _ w4 HS4.out hl1.out).mono ?_; rintro e w4' ⟨rfl, rfl⟩
    go_wp2_with fail
    refine (HL.out w4).mono ?_; rintro e w5 ⟨v4, rfl, ho4, hb4⟩
    have HO := Lib.hid (of_any v4 _ w5 ho4.sees (by omega))
    rw [HM.out] at HO
    have HB5 := Lib.hid (HB4.out.trans (hb4.mono HB4.out.size))
    clear ho4 hb4
    go_wp2_with fail
    refine HO.out.mono ?_; rintro e w5' ⟨rfl, rfl⟩
    go_wp2_with fail
    refine (HAw.out _ HB5.out).mono ?_; rintro e w6 ⟨rfl, hb6⟩
    go_wp2_with fail
    go_ret
    exact ⟨rfl, HB5.out.trans (hb6.mono HB5.out.size)⟩
end Go.Proofs.YthkhikmdcadceaaDoor
