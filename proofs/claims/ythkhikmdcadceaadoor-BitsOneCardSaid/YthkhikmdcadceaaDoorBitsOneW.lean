/- The law BitsOne: one slot in a set, with it, without it, and the first slots. -/
import Derived.Test.YthkhikmdcadceaaDoorBitsPlacesW
import Derived.Maps.AppendAt
namespace Go.Proofs.YthkhikmdcadceaaDoor
open Go.RowKit
/-- The slots of a row that are not this one. -/
def woL (l : List Int) (i : Int) : List Int := l.filter (fun k => k != i)
theorem woL_snoc (l : List Int) (i k : Int) : woL (l ++ [k]) i = if k = i then woL l i else woL l i ++ [k] := by
  unfold woL
  rw [List.filter_append]
  by_cases h : k = i
  · simp [h]
  · simp [h]
theorem woL_len (l : List Int) (i : Int) : (woL l i).length ≤ l.length := List.length_filter_le _ _
theorem woL_mem (l : List Int) (i k : Int) : k ∈ woL l i ↔ k ∈ l ∧ k ≠ i := by
  unfold woL
  rw [List.mem_filter]
  simp
theorem has_in {n : Nat} (i : Int) : hasB n i = decide (i ∈ memZ n 64) := by
  rw [Bool.eq_iff_iff, decide_eq_true_eq, memZ_mem]
  unfold hasB slotB
  constructor
  · intro h
    simp only [Bool.and_eq_true, decide_eq_true_eq] at h
    exact ⟨i.toNat, by omega, by omega, h.2⟩
  · rintro ⟨k, rfl, hk, hb⟩
    rw [decide_eq_true (by omega), decide_eq_true (by omega), Int.toNat_natCast, hb]
    rfl
theorem ofN_wo {n : Nat} (hn : n < M64) (i : Int) : ofN (woL (memZ n 64) i) = n &&& (18446744073709551615 - oneN i) := by
  refine set_ext (ofN_lt _) (and_lt hn) (fun j hj => ?_)
  rw [ofN_bit, Nat.testBit_and, not_bit (oneN_lt i) hj, oneN_bit, decide_eq_true hj, Bool.true_and, Bool.true_and, Bool.eq_iff_iff, decide_eq_true_eq, woL_mem, memZ_mem]
  constructor
  · rintro ⟨⟨m, hm, _, hb⟩, hne⟩
    obtain rfl : j = m := by omega
    rw [hb, decide_eq_false (fun e => hne e.symm)]
    rfl
  · intro h
    simp only [Bool.and_eq_true, Bool.not_eq_true', decide_eq_false_iff_not] at h
    exact ⟨⟨j, rfl, hj, h.1⟩, fun e => h.2 e.symm⟩
theorem ofN_first (m : Nat) (hm : m ≤ 64) : ofN (from_ 0 m) = 2 ^ m - 1 := by
  have hlt : 2 ^ m - 1 < M64 := by
    have h := Nat.pow_le_pow_right (n := 2) (by omega) hm
    have h2 : (2 : Nat) ^ 64 = 18446744073709551616 := by decide
    have h3 : 0 < 2 ^ m := Nat.pow_pos (by omega)
    have hk : 2 ^ m - 1 < 18446744073709551616 := by omega
    exact hk
  refine set_ext (ofN_lt _) hlt (fun j hj => ?_)
  rw [ofN_bit, decide_eq_true hj, Bool.true_and, Nat.testBit_two_pow_sub_one, Bool.eq_iff_iff, decide_eq_true_eq, decide_eq_true_eq, from_mem]
  omega
theorem from_snoc : ∀ (m : Nat) (a : Int), from_ a (m + 1) = from_ a m ++ [a + m]
  | 0, a => by simp [from_]
  | m + 1, a => by
    have h := from_snoc m (a + 1)
    have e1 : from_ a (m + 1 + 1) = a :: from_ (a + 1) (m + 1) := rfl
    have e2 : from_ a (m + 1) = a :: from_ (a + 1) m := rfl
    rw [e1, h, e2, List.cons_append]
    congr 3
    omega
theorem from_len : ∀ (m : Nat) (a : Int), (from_ a m).length = m
  | 0, _ => rfl
  | m + 1, a => by
    have e1 : from_ a (m + 1) = a :: from_ (a + 1) m := rfl
    rw [e1, List.length_cons, from_len m]
theorem ownsMono {w : World} {B C : Nat} {v : Value} {R : List Int} (h : OwnsI w B v R) (k : C ≤ B) : OwnsI w C v R :=
  ⟨h.1, h.2.imp id fun ⟨g, cap, cur, e, hB, r⟩ => ⟨g, cap, cur, e, Nat.le_trans k hB, r⟩⟩
theorem apartB {w : World} {B : Nat} {v : Value} {R : List Int} (h : OwnsI w B v R) {k : Nat} (hk : w.heap.size ≤ k) : v.ownBlock ≠ some k := fun e => by
  have := (World.ownsRow.lt h k e).2
  omega
set_option maxRecDepth 100000 in
set_option maxHeartbeats 4000000 in
theorem bitsOne_walk (W : World) (x i n : Int) (h0 : 0 ≤ x) (h1 : x < 18446744073709551616) (_ : -9223372036854775808 ≤ i) (_ : i ≤ 9223372036854775807) (_ : -9223372036854775808 ≤ n) (_ : n ≤ 9223372036854775807) (hE : Env W) :
    Calls Tryd.prog 4 #[.int .u64 x, .int .i64 i, .int .i64 n] W fun e W' => e = .returned (.bool true) ∧ Below W.heap.size W W' := by
  obtain ⟨s, rfl⟩ := Int.eq_ofNat_of_zero_le h0
  have hs : s < M64 := by have hk : s < 18446744073709551616 := by omega
                          exact hk
  obtain ⟨i0, hi, hz0, hz1, hz2⟩ := info_parts infoI
  have HF := Lib.hid (fun w => refList_any s hs w)
  have HAw := Lib.hid (fun (w : World) (hb : Below W.heap.size W w) => awake14_any w (hE.below hb))
  have hH := fun w => has_any s i hs w
  rw [has_in] at hH
  have HH := Lib.hid hH
  have HWi := Lib.hid (fun w => with_any s i hs w)
  have hWo := fun w => without_any s i hs w
  rw [← ofN_wo hs i] at hWo
  have HWo := Lib.hid hWo
  have hAl := fun w => all_any n w
  have hm64 : allM n ≤ 64 := by unfold allM; omega
  have hmn : ∀ k : Nat, k < allM n ↔ ((k : Int) < 64 ∧ (k : Int) < n) := fun k => by unfold allM; omega
  rw [← ofN_first _ hm64] at hAl
  have HAl := Lib.hid hAl
  have hOn : ofN (memZ s 64 ++ [i]) = s ||| oneN i := by rw [ofN_snoc, ofN_mem hs]
  rw [← hOn] at HWi
  have hRl : (memZ s 64).length ≤ 64 := memZ_len s 64
  generalize allM n = M at *
  generalize memZ s 64 = R at *
  clear hs h0 h1 hH hWo hAl hOn
  have hRm : R.length ≤ 1000 := by omega
  have hRm1 : (R ++ [i]).length ≤ 1000 := by simp; omega
  have hRm2 : (woL R i).length ≤ 1000 := by have := woL_len R i; omega
  have hRm3 : (from_ 0 M).length ≤ 1000 := by rw [from_len]; omega
  have HLN := Lib.hid (And.intro hRm (And.intro hRm1 (And.intro hRm2 hRm3)))
  clear hRm hRm1 hRm2 hRm3
  go_enter Tryd.func4, Tryd.ntmps4
  go_wp2_with fail
  refine (HF.out W).mono ?_; rintro e w1 ⟨v1, rfl, ho1, hb1⟩
  go_wp2_with fail
  refine (in_any v1 _ i w1 ho1.sees HLN.out.1).mono ?_; rintro e w1' ⟨rfl, rfl⟩
  clear ho1
  generalize decide (i ∈ R) = bi at *
  go_wp2_with fail
  refine (HF.out w1).mono ?_; rintro e w2 ⟨v2, rfl, ho2, hb2⟩
  have HB2 := Lib.hid (hb1.trans (hb2.mono hb1.size))
  have ho2' : OwnsI w2 W.heap.size v2 R := ownsMono ho2 hb1.size
  have hsz2 := HB2.out.size
  clear ho2 hb1 hb2
  go_wp2_with (first | (at_builtin; refine wpList_append_own_at _ rfl _ _ 23 rfl W.heap.size 3 i0 (.int .i64 0) 1 8 Tryd.underlying23 hi hz0 hz1 hz2 rfl (by decide) _ _ _ rfl (ho2'.alloc _) ⟨w2.heap.size, 0, none⟩ 1 1 [.int .i64 (i : Int)] rfl rfl ?qc1 ?qc2 ?qc3 ?qc4 ?qc5 ?_) | go_in)
  case qc1 =>
    intro j u hj
    match j, hj with
    | 0, hj =>
      simp at hj
      subst hj
      rw [add0]
      simp
    | j + 1, hj => simp at hj
  case qc2 => first | rfl | (intro u hu; simp at hu; subst hu; rfl)
  case qc3 => unfold maxLen; omega
  case qc4 => omega
  case qc5 => first | omega | (simp; omega)
  intro v' w3 hown' hgrow _ hblk
  have hoW : OwnsI w3 W.heap.size v' (R ++ [i]) := by
    unfold OwnsI cellsI
    rw [List.length_append]
    simpa only [List.length_singleton, List.map_append, List.map_cons, List.map_nil] using hown'
  have HB3 : Hid (Below W.heap.size W w3) := Lib.hid ((belAlloc HB2.out _).grown hgrow (by simp; omega) (fun g hg => (ho2'.lt g hg).1))
  clear hown' hgrow hblk ho2'
  have hsz3 := HB3.out.size
  have hoN : OwnsI (w3.alloc (.cells #[] 3)) W.heap.size (.slice (some ⟨w3.heap.size, 0, none⟩) 0 0) [] := World.ownsRow_lit w3 #[] 0 hsz3 (Nat.zero_le _) rfl
  have HB4 : Hid (Below W.heap.size W (w3.alloc (.cells #[] 3))) := Lib.hid (belAlloc HB3.out _)
  have hoW4 : OwnsI (w3.alloc (.cells #[] 3)) W.heap.size v' (R ++ [i]) := hoW.alloc _
  have hap4 : v'.ownBlock ≠ (Value.slice (some ⟨w3.heap.size, 0, none⟩) 0 0).ownBlock := apartB hoW (Nat.le_refl _)
  have HQ := Lib.hid (And.intro hoN (And.intro hoW4 hap4))
  clear hoN hoW4 hap4 hoW
  go_wp2_with fail
  refine (HF.out _).mono ?_; rintro e w5 ⟨v5, rfl, ho5, hb5⟩
  have ho5' : OwnsI w5 W.heap.size v5 R := ownsMono ho5 HB4.out.size
  have hoN := HQ.out.1.keep hb5
  have hoW := HQ.out.2.1.keep hb5
  have hap1 := HQ.out.2.2
  have hap2 : v5.ownBlock ≠ (Value.slice (some ⟨w3.heap.size, 0, none⟩) 0 0).ownBlock := fun e => by
    have h := (World.ownsRow.lt ho5 _ e).1
    simp at h
    omega
  have HB5 := Lib.hid (HB4.out.trans (hb5.mono HB4.out.size))
  clear ho5 hb5
  generalize hvN : Value.slice (some ⟨w3.heap.size, 0, none⟩) 0 0 = vN at *
  obtain ⟨ao5, c5, rfl, hc5⟩ := ho5'.form1
  have HI := Lib.hid (And.intro hoN (And.intro hoW (And.intro ho5' (And.intro hap1 (And.intro hap2 HB5.out)))))
  clear hoN hoW ho5' hap1 hap2 hvN
  go_wp2_with fail
  go_loopw [10, 29] (fun u j wr => ∃ q : Nat, q ≤ R.length ∧ j = .int .i64 q ∧ Hid (OwnsI wr W.heap.size u (woL (R.take q) i) ∧ OwnsI wr W.heap.size v' (R ++ [i]) ∧ OwnsI wr W.heap.size (.slice ao5 R.length c5) R ∧ v'.ownBlock ≠ u.ownBlock ∧ (Value.slice ao5 R.length c5).ownBlock ≠ u.ownBlock ∧ Below W.heap.size W wr)) (fun _ j _ => R.length - (intOf j).toNat)
  case atStart => exact ⟨0, by omega, rfl, HI⟩
  case round =>
    obtain ⟨q, hq, rfl, HJ⟩ := hrel
    by_cases hlt : q < R.length
    · have hR : R ≠ [] := fun e => by rw [e] at hlt; simp at hlt
      obtain ⟨g5, c5', e5, _, hcell⟩ := HJ.out.2.2.1.at hR
      simp only [Value.slice.injEq, true_and] at e5
      obtain ⟨rfl, rfl⟩ := e5
      have hc := hcell q hlt
      have htk := take_snocI R q hlt
      have hlq : (woL (R.take q) i).length ≤ 64 := by have := woL_len (R.take q) i; rw [List.length_take] at this; omega
      have hwo := woL_snoc (R.take q) i (R.getD q 0)
      rw [← htk] at hwo
      generalize R.getD q 0 = y at hc hwo
      have hsz := HJ.out.2.2.2.2.2.size
      clear hcell htk hR
      by_cases hy : y = i
      · subst hy
        rw [if_pos rfl] at hwo
        have HM := Lib.hid hwo
        clear hwo hlq
        go_wp2_with fail
        go_roundw
        case rel => exact ⟨q + 1, by omega, by go_num, by rw [HM.out]; exact HJ⟩
        case measure => simp [intOf]; omega
      · rw [if_neg hy] at hwo
        have HM := Lib.hid hwo
        have dy : (y == i) = false := by simpa using hy
        have hown := HJ.out.1
        clear hwo hy
        go_wp2_with (first | (at_builtin; refine wpList_append_own_at _ rfl _ _ 23 rfl W.heap.size 3 i0 (.int .i64 0) 1 8 Tryd.underlying23 hi hz0 hz1 hz2 rfl (by decide) _ _ _ rfl (hown.alloc _) ⟨wr.heap.size, 0, none⟩ 1 1 [.int .i64 (y : Int)] rfl rfl ?qc1 ?qc2 ?qc3 ?qc4 ?qc5 ?_) | go_in)
        case qc1 =>
          intro j u hj
          match j, hj with
          | 0, hj =>
            simp at hj
            subst hj
            rw [add0]
            simp
          | j + 1, hj => simp at hj
        case qc2 => first | rfl | (intro u hu; simp at hu; subst hu; rfl)
        case qc3 => unfold maxLen; omega
        case qc4 => omega
        case qc5 => first | omega | (simp; omega)
        intro v' w3 hown' hgrow _ hblk
        go_wp2
        go_roundw
        case rel =>
          refine ⟨q + 1, by omega, by go_num, Lib.hid ⟨?_, ?_, ?_, ?_, ?_, ?_⟩⟩
          · unfold OwnsI cellsI
            rw [HM.out, List.length_append]
            simpa only [List.length_singleton, List.map_append, List.map_cons, List.map_nil] using hown'
          · exact (HJ.out.2.1.alloc _).kept hgrow (.inr HJ.out.2.2.2.1)
          · exact (HJ.out.2.2.1.alloc _).kept hgrow (.inr HJ.out.2.2.2.2.1)
          · rcases hblk with e | e
            · rw [e]; exact HJ.out.2.2.2.1
            · rw [e]; exact apartB HJ.out.2.1 (by simp)
          · rcases hblk with e | e
            · rw [e]; exact HJ.out.2.2.2.2.1
            · rw [e]; exact apartB HJ.out.2.2.1 (by simp)
          · exact (belAlloc HJ.out.2.2.2.2.2 _).grown hgrow (by simp; omega) (fun g hg => (hown.lt g hg).1)
        case measure => simp [intOf]; omega
    · obtain rfl : q = R.length := by omega
      have HJ2 := Lib.hid HJ.out
      rw [List.take_length] at HJ2
      obtain ⟨hA, hB, _, _, _, hC⟩ := HJ2.out
      have HP := Lib.hid (And.intro hA (And.intro hB hC))
      have hszw := hC.size
      clear HJ HJ2 HI hA hB hC
      generalize wr = w6 at *
      go_wp2_with fail
      go_loopw [13, 14] (fun t j w7 => ∃ q : Nat, q ≤ M ∧ j = .int .i64 q ∧ OwnsI w7 w6.heap.size t (from_ 0 q) ∧ Below w6.heap.size w6 w7) (fun _ j _ => M - (intOf j).toNat)
      case atStart => exact ⟨0, by omega, rfl, OwnsI.nil _ _, Below.refl _ _⟩
      case round =>
        obtain ⟨q, hq, rfl, hown, hbel⟩ := hrel
        have hmq := hmn q
        by_cases hlt : q < M
        · have dq1 : decide ((q : Int) < 64) = true := decide_eq_true (hmq.1 hlt).1
          have dq2 : decide ((q : Int) < n) = true := decide_eq_true (hmq.1 hlt).2
          have hfl := from_len q 0
          have hsz := hbel.size
          have HM := Lib.hid (from_snoc q 0)
          rw [Int.zero_add] at HM
          have HMN := Lib.hid hmn
          clear hmn hmq
          go_wp2_with (first | (at_builtin; refine wpList_append_own_at _ rfl _ _ 23 rfl w6.heap.size 3 i0 (.int .i64 0) 1 8 Tryd.underlying23 hi hz0 hz1 hz2 rfl (by decide) _ _ _ rfl (hown.alloc _) ⟨wr.heap.size, 0, none⟩ 1 1 [.int .i64 (q : Int)] rfl rfl ?qc1 ?qc2 ?qc3 ?qc4 ?qc5 ?_) | go_in)
          case qc1 =>
            intro j u hj
            match j, hj with
            | 0, hj =>
              simp at hj
              subst hj
              rw [add0]
              simp
            | j + 1, hj => simp at hj
          case qc2 => first | rfl | (intro u hu; simp at hu; subst hu; rfl)
          case qc3 => unfold maxLen; omega
          case qc4 => omega
          case qc5 => first | omega | (simp; omega)
          intro v' w3 hown' hgrow _ hblk
          go_wp2
          go_roundw
          case rel =>
            refine ⟨q + 1, by omega, by go_num, ?_, ?_⟩
            · unfold OwnsI cellsI
              rw [HM.out, List.length_append, hfl]
              simpa only [List.length_singleton, List.map_append, List.map_cons, List.map_nil] using hown'
            · exact (belAlloc hbel _).grown hgrow (by simp; omega) (fun g hg => (hown.lt g hg).1)
          case measure => simp [intOf]; omega
        · obtain rfl : q = M := by omega
          have hboth : ¬((q : Int) < 64 ∧ (q : Int) < n) := fun h => hlt (hmq.2 h)
          have HT := Lib.hid (And.intro hown (And.intro hbel (And.intro (HP.out.1.keep hbel) (And.intro (HP.out.2.1.keep hbel) (HP.out.2.2.trans (hbel.mono HP.out.2.2.size))))))
          have HMN := Lib.hid hmn
          clear hmn hmq hown hbel hlt
          by_cases h64 : (q : Int) < 64
          · have dq1 : decide ((q : Int) < 64) = true := decide_eq_true h64
            have dq2 : decide ((q : Int) < n) = false := decide_eq_false (fun h => hboth ⟨h64, h⟩)
            clear hboth
            go_wp2_with fail
            refine (HH.out wr).mono ?_; rintro e w8 ⟨rfl, rfl⟩
            go_wp2_with fail
            refine (HWi.out wr).mono ?_; rintro e w8 ⟨rfl, rfl⟩
            go_wp2_with fail
            refine (refOf_any _ _ wr HT.out.2.2.2.1.sees HLN.out.2.1).mono ?_; rintro e w8 ⟨rfl, rfl⟩
            go_wp2_with fail
            refine (HWo.out wr).mono ?_; rintro e w8 ⟨rfl, rfl⟩
            go_wp2_with fail
            refine (refOf_any _ _ wr HT.out.2.2.1.sees HLN.out.2.2.1).mono ?_; rintro e w8 ⟨rfl, rfl⟩
            go_wp2_with fail
            refine (HAl.out wr).mono ?_; rintro e w8 ⟨rfl, rfl⟩
            go_wp2_with fail
            refine (refOf_any _ _ wr HT.out.1.sees HLN.out.2.2.2).mono ?_; rintro e w8 ⟨rfl, rfl⟩
            go_wp2_with fail
            refine (HAw.out _ HT.out.2.2.2.2).mono ?_; rintro e w9 ⟨rfl, hb9⟩
            go_wp2_with fail
            go_ret
            exact ⟨rfl, HT.out.2.2.2.2.trans (hb9.mono HT.out.2.2.2.2.size)⟩
          · have dq1 : decide ((q : Int) < 64) = false := decide_eq_false h64
            clear hboth
            go_wp2_with fail
            refine (HH.out wr).mono ?_; rintro e w8 ⟨rfl, rfl⟩
            go_wp2_with fail
            refine (HWi.out wr).mono ?_; rintro e w8 ⟨rfl, rfl⟩
            go_wp2_with fail
            refine (refOf_any _ _ wr HT.out.2.2.2.1.sees HLN.out.2.1).mono ?_; rintro e w8 ⟨rfl, rfl⟩
            go_wp2_with fail
            refine (HWo.out wr).mono ?_; rintro e w8 ⟨rfl, rfl⟩
            go_wp2_with fail
            refine (refOf_any _ _ wr HT.out.2.2.1.sees HLN.out.2.2.1).mono ?_; rintro e w8 ⟨rfl, rfl⟩
            go_wp2_with fail
            refine (HAl.out wr).mono ?_; rintro e w8 ⟨rfl, rfl⟩
            go_wp2_with fail
            refine (refOf_any _ _ wr HT.out.1.sees HLN.out.2.2.2).mono ?_; rintro e w8 ⟨rfl, rfl⟩
            go_wp2_with fail
            refine (HAw.out _ HT.out.2.2.2.2).mono ?_; rintro e w9 ⟨rfl, hb9⟩
            go_wp2_with fail
            go_ret
            exact ⟨rfl, HT.out.2.2.2.2.trans (hb9.mono HT.out.2.2.2.2.size)⟩
end Go.Proofs.YthkhikmdcadceaaDoor
