/- The law RecsBlocks: the walk. -/
import Derived.Test.YtcfmknocpjjklaaRcRefB
namespace Go.Proofs.Ytcfmknocpjjklaa
open Go.RowKit
theorem turn_of {s i k N : Int} (hs : 0 ≤ s) (hs' : s < N) (hi : 0 ≤ i) (hi' : i < N) (hk : 0 ≤ k) (hk' : k < N) : (s + i) % N = k ↔ i = (k - s) % N := by
  constructor
  · intro h
    rw [← h, Int.emod_sub_emod, show s + i - s = i by omega, Int.emod_eq_of_lt hi hi']
  · intro h
    rw [h, Int.add_emod_emod, show s + (k - s) = k by omega, Int.emod_eq_of_lt hk hk']
theorem OwnsU.at {w : World} {B : Nat} {v : Value} {xs : List Int} (h : OwnsU w B v xs) (hx : xs ≠ []) :
    ∃ g cap, v = .slice (some ⟨g, 0, none⟩) xs.length cap ∧ B ≤ g ∧ g < w.heap.size ∧ xs.length ≤ cap ∧ (∀ i, i < xs.length → w.cell? ⟨g, i, none⟩ = some (.int .u32 (xs.getD i 0))) := by
  have h0 := h
  obtain ⟨_, ⟨rfl, hn⟩ | ⟨g, cap, cur, rfl, hB, hb, hnc, _, _, _⟩⟩ := h
  · exact absurd (List.eq_nil_of_length_eq_zero hn) hx
  · refine ⟨g, cap, rfl, hB, heap_lt hb, hnc, fun i hi => ?_⟩
    rw [World.ownsRow.cellAt h0 i (by omega)]
    simp [List.getD, List.getElem?_eq_getElem hi]
theorem blkL_get (a : Int) (n i : Nat) (h : i < n) : (blkL a n).getD i 0 = a + 64 * (i : Int) := by
  unfold blkL
  rw [List.getD, List.getElem?_eq_getElem (by simpa using h)]
  simp
def cnt (m i : Int) : Int := if m < i then 1 else 0
theorem slice_of {w : World} {B : Nat} {v : Value} {xs : List Int} (h : OwnsU w B v xs) : ∃ ao cap, v = .slice ao xs.length cap ∧ xs.length ≤ cap := by
  obtain ⟨_, ⟨rfl, hn⟩ | ⟨g, cap, cur, rfl, hB, hb, hnc, _, _, _⟩⟩ := h
  · exact ⟨none, 0, by rw [hn], by omega⟩
  · exact ⟨_, cap, rfl, hnc⟩
set_option maxRecDepth 100000 in
set_option maxHeartbeats 8000000 in
theorem lawBlocks (w : World) (a b : Int) (o : Bool) (k sd : Int) (ha : 0 ≤ a) (ha' : a < 4294967296) (hb : -9223372036854775808 ≤ b) (hb' : b ≤ 9223372036854775807) (hk : -9223372036854775808 ≤ k) (hk' : k ≤ 9223372036854775807) (hs : 0 ≤ sd) (hs' : sd < 18446744073709551616) :
    Calls Try.prog 5 #[.agg #[.int .u32 a, .int .i64 b, .bool o], .int .i64 k, .int .u64 sd] w fun e w' => e = .returned (.bool true) ∧ Below w.heap.size w w' := by
  have HW := Lib.hid (fun w => awake13_any w)
  by_cases hlt : b < 20
  · have dlt : decide (b < 20) = true := decide_eq_true hlt
    obtain ⟨n0, n1, -, n3⟩ := nB_bd (b := 20) ha ha'
    have HQ := Lib.hid (fun w => refBlocks_any a 20 o ha ha' (by omega) (by omega) w)
    have HO := Lib.hid (fun w => ours13_any a 20 o w)
    have HN := Lib.hid (fun w => blocks_any a 20 o ha ha' w)
    have HB := Lib.hid (fun w => block_any a 20 k o ha ha' w)
    have HF := Lib.hid (fun i w => from_any a 20 sd i o ha ha' hs (by omega) w)
    obtain ⟨N, hN⟩ : ∃ N : Nat, nB a 20 = (N : Int) := ⟨(nB a 20).toNat, by omega⟩
    rw [hN] at HN HB HF n0 n1
    have hNt : ((N : Int)).toNat = N := by omega
    rw [hN, hNt] at HQ
    clear hN hNt n3
    have hc0 := Cell3.new w a b o 26
    obtain ⟨w0, hw0⟩ : ∃ w0, w0 = w.alloc (poolO a 20 o 26) := ⟨_, rfl⟩
    have hc : Cell3 w.heap.size a 20 o w0 := by rw [hw0]; exact Cell3.new w a 20 o _
    have hb0 : Below w.heap.size w w0 := by rw [hw0]; exact belNew _ _
    have HWW := Lib.hid hw0
    clear hw0
    go_enter Try.func5, Try.ntmps5
    obtain ⟨z0, z1, z2, z3⟩ := id hc0
    go_upto_region 3 with fail
    change Code.wp _ _ _ _ (w.alloc (poolO a 20 o 26))
    rw [← HWW.out]
    clear HWW z0 z1 z2 z3 hc0 dlt
    obtain ⟨c0, c1, c2, c3⟩ := id hc
    go_wp2_with fail
    refine (HQ.out _).mono ?_; rintro e w1 ⟨lv, rfl, hown, hb1⟩
    obtain ⟨lo, lc, rfl, hlc⟩ := slice_of hown
    have hc1 := hc.keep hb1
    have hB1 := hb0.trans (hb1.mono hb0.size)
    clear c0 c1 c2 c3 hb1
    obtain ⟨c0, c1, c2, c3⟩ := id hc1
    have hlen := blkL_length a N
    rw [hlen] at hlc
    go_wp2_with fail
    refine (HO.out _).mono ?_; rintro e w2 ⟨rfl, hb2⟩
    have hp3 : Cell3 w2.heap.size a 20 o (w2.alloc (poolO a 20 o 32)) := Cell3.new _ _ _ _ _
    obtain ⟨w3, hw3⟩ : ∃ w3, w3 = w2.alloc (poolO a 20 o 32) := ⟨_, rfl⟩
    have hb3 : Below w2.heap.size w2 w3 := by rw [hw3]; exact belNew _ _
    rw [← hw3] at hp3
    have hB3 := bel hB1 (bel hb2 hb3)
    have hown3 := (hown.keep hb2).keep hb3
    go_upto_region 5 with fail
    change Code.wp _ _ _ _ (w2.alloc (poolO a 20 o 32))
    rw [← hw3]
    clear c0 c1 c2 c3 hc1 hb2 hb3 hw3 hB1 hc hb0 HQ HO hown
    obtain ⟨c0, c1, c2, c3⟩ := id hp3
    cases hin : inB k (N : Int) with
    | false =>
      rw [hin] at HB
      have HFk : Hid (∀ w, Calls Try.prog 21 #[.agg #[.int .u32 a, .int .i64 20, .bool o], .int .u64 sd, .int .i64 k] w fun e w' => e = .returned (.tuple #[.int .u32 0, .bool false]) ∧ Below w.heap.size w w') := Lib.hid (fun w => by
        have h := HF.out k w
        rw [hin, if_neg (by simp)] at h
        exact h)
      simp only [Bool.false_eq_true, if_false] at HB
      have hd : decide (k < 0) = true ∨ (decide (k < 0) = false ∧ decide ((N : Int) ≤ k) = true) := by
        unfold inB at hin
        by_cases h0 : k < 0
        · exact Or.inl (decide_eq_true h0)
        · rw [decide_eq_true (by omega : 0 ≤ k), Bool.true_and] at hin
          have := of_decide_eq_false hin
          exact Or.inr ⟨decide_eq_false h0, decide_eq_true (by omega)⟩
      clear hin HF hlen
      go_wp2_with fail
      refine (HB.out _).mono ?_; rintro e w4 ⟨rfl, hb4⟩
      have hp4 := hp3.keep hb4
      have hB4 := bel hB3 hb4
      clear c0 c1 c2 c3
      obtain ⟨c0, c1, c2, c3⟩ := id hp4
      go_wp2_with fail
      refine (HFk.out _).mono ?_; rintro e w5 ⟨rfl, hb5⟩
      have hp5 := hp4.keep hb5
      have hB5 := bel hB4 hb5
      clear c0 c1 c2 c3
      obtain ⟨c0, c1, c2, c3⟩ := id hp5
      go_wp2_with fail
      refine (HN.out _).mono ?_; rintro e w6 ⟨rfl, hb6⟩
      have hB6 := bel hB5 hb6
      clear c0 c1 c2 c3
      rcases hd with d0 | ⟨d0, d1⟩
      · go_wp2_with fail
        refine (HW.out _).mono ?_; rintro e w7 ⟨rfl, hb7⟩
        go_wp2_with fail
        go_ret
        exact ⟨rfl, bel hB6 hb7⟩
      · go_wp2_with fail
        refine (HW.out _).mono ?_; rintro e w7 ⟨rfl, hb7⟩
        go_wp2_with fail
        go_ret
        exact ⟨rfl, bel hB6 hb7⟩
    | true =>
      have hkk : 0 ≤ k ∧ k < (N : Int) := by
        unfold inB at hin
        simpa only [Bool.and_eq_true, decide_eq_true_eq] using hin
      obtain ⟨K, rfl⟩ : ∃ K : Nat, k = (K : Int) := ⟨k.toNat, by omega⟩
      have hKN : K < N := by omega
      have dk0 : decide ((K : Int) < 0) = false := decide_eq_false (by omega)
      have dk1 : decide ((N : Int) ≤ (K : Int)) = false := decide_eq_false (by omega)
      have dk2 : decide (N ≤ K) = false := decide_eq_false (by omega)
      rw [hin] at HB
      simp only [if_true] at HB
      have hsm : 0 ≤ sd % (N : Int) ∧ sd % (N : Int) < (N : Int) := ⟨Int.emod_nonneg _ (by omega), Int.emod_lt_of_pos _ (by omega)⟩
      have hjm : 0 ≤ (sd % (N : Int) + (K : Int)) % (N : Int) ∧ (sd % (N : Int) + (K : Int)) % (N : Int) < (N : Int) := ⟨Int.emod_nonneg _ (by omega), Int.emod_lt_of_pos _ (by omega)⟩
      have HFk : Hid (∀ w, Calls Try.prog 21 #[.agg #[.int .u32 a, .int .i64 20, .bool o], .int .u64 sd, .int .i64 (K : Int)] w fun e w' => e = .returned (.tuple #[.int .u32 (a + (sd % (N : Int) + (K : Int)) % (N : Int) * 64), .bool true]) ∧ Below w.heap.size w w') := Lib.hid (fun w => by
        have h := HF.out K w
        rw [hin, if_pos rfl] at h
        exact h)
      have HFi : Hid (∀ i : Nat, i < N → ∀ w, Calls Try.prog 21 #[.agg #[.int .u32 a, .int .i64 20, .bool o], .int .u64 sd, .int .i64 (i : Int)] w fun e w' => e = .returned (.tuple #[.int .u32 (a + (sd % (N : Int) + (i : Int)) % (N : Int) * 64), .bool true]) ∧ Below w.heap.size w w') := Lib.hid (fun i hi w => by
        have h := HF.out i w
        have hii : inB (i : Int) (N : Int) = true := by unfold inB; rw [decide_eq_true (by omega), decide_eq_true (by omega)]; rfl
        rw [hii, if_pos rfl] at h
        exact h)
      clear HF
      obtain ⟨J, hJ⟩ : ∃ J : Nat, (sd % (N : Int) + (K : Int)) % (N : Int) = (J : Int) := ⟨((sd % (N : Int) + (K : Int)) % (N : Int)).toNat, by omega⟩
      have hJN : J < N := by rw [hJ] at hjm; omega
      rw [hJ] at HFk
      have HJ := Lib.hid hJ
      have HS := Lib.hid hsm
      have HT : Hid (∀ i : Nat, i < N → (((a + (sd % (N : Int) + (i : Int)) % (N : Int) * 64 : Int) == a + (K : Int) * 64) = decide ((i : Int) = ((K : Int) - sd % (N : Int)) % (N : Int)))) := Lib.hid (fun i hi => by
        have h := turn_of (s := sd % (N : Int)) (i := (i : Int)) (k := (K : Int)) (N := (N : Int)) hsm.1 hsm.2 (by omega) (by omega) hkk.1 hkk.2
        rw [Bool.eq_iff_iff, beq_iff_eq, decide_eq_true_iff, ← h]
        constructor
        · intro h2; omega
        · intro h2; rw [h2])
      have HM : Hid (0 ≤ ((K : Int) - sd % (N : Int)) % (N : Int) ∧ ((K : Int) - sd % (N : Int)) % (N : Int) < (N : Int)) := Lib.hid ⟨Int.emod_nonneg _ (by omega), Int.emod_lt_of_pos _ (by omega)⟩
      generalize ((K : Int) - sd % (N : Int)) % (N : Int) = m at HT HM
      have HC : Hid (a + (K : Int) * 64 = a + 64 * (K : Int) ∧ a + (J : Int) * 64 = a + 64 * (J : Int)) := Lib.hid ⟨by omega, by omega⟩
      clear hin hjm hJ hsm
      have hne : blkL a N ≠ [] := fun e => by rw [e] at hlen; simp at hlen; omega
      go_wp2_with fail
      refine (HB.out _).mono ?_; rintro e w4 ⟨rfl, hb4⟩
      have hp4 := hp3.keep hb4
      have hB4 := bel hB3 hb4
      clear c0 c1 c2 c3
      obtain ⟨c0, c1, c2, c3⟩ := id hp4
      go_wp2_with fail
      refine (HFk.out _).mono ?_; rintro e w5 ⟨rfl, hb5⟩
      have hp5 := hp4.keep hb5
      have hB5 := bel hB4 hb5
      clear c0 c1 c2 c3
      obtain ⟨c0, c1, c2, c3⟩ := id hp5
      go_wp2_with fail
      refine (HN.out _).mono ?_; rintro e w6 ⟨rfl, hb6⟩
      have hp6 := hp5.keep hb6
      have hB6 := bel hB5 hb6
      have hown6 := ((hown3.keep hb4).keep hb5).keep hb6
      clear c0 c1 c2 c3 hb4 hb5 hb6 hp4 hp5 hB4 hB5 hp3 hB3 hown3
      obtain ⟨g, cap, hgv, -, hgs, hcap, hcell⟩ := hown6.at hne
      rw [hlen] at hcell hgv
      have cK := hcell K hKN
      have cJ := hcell J hJN
      rw [blkL_get a N K hKN, ← HC.out.1] at cK
      rw [blkL_get a N J hJN, ← HC.out.2] at cJ
      cases hgv
      clear hcell hne hcap hown6 hlen
      have hsm := HS.out
      go_upto_region 12 with fail
      have hJ2 := HJ.out
      rw [hJ2]
      clear hsm hJ2
      generalize hA0 : a + (K : Int) * 64 = A0 at *
      generalize a + (J : Int) * 64 = A1 at *
      go_upto_region 14 with fail
      clear cK cJ hgs
      go_wp2_with fail
      go_loopw [14, 15] (fun sn j wr => ∃ i : Nat, i ≤ N ∧ j = .int .i64 i ∧ sn = .int .i64 (cnt m i) ∧ Cell3 w2.heap.size a 20 o wr ∧ Below w.heap.size w wr) (fun _ j _ => N - (intOf j).toNat)
      case atStart => exact ⟨0, Nat.zero_le _, rfl, by rw [show cnt m ((0 : Nat) : Int) = 0 from if_neg (by have := HM.out; omega)], hp6, hB6⟩
      case round =>
        obtain ⟨i, hi, rfl, rfl, hcr, hbr⟩ := hrel
        by_cases hlt2 : i < N
        · obtain ⟨x0, x1, x2, x3⟩ := id hcr
          have ht := HT.out i hlt2
          have hf := HFi.out i hlt2
          generalize a + (sd % (N : Int) + (i : Int)) % (N : Int) * 64 = X at ht hf
          have HFr := Lib.hid hf
          clear hf
          have cb : cnt m i = 0 ∨ cnt m i = 1 := by unfold cnt; split <;> omega
          by_cases hm : (i : Int) = m
          · have hcs : cnt m i + 1 = cnt m ((i + 1 : Nat) : Int) := by unfold cnt; rw [if_neg (by omega), if_pos (by omega)]; rfl
            rw [decide_eq_true hm] at ht
            have HCS := Lib.hid hcs
            have HCB := Lib.hid cb
            clear hcs hm
            generalize cnt m i = c at *
            have c5 : 0 ≤ c ∧ c ≤ 1 := by omega
            clear cb
            go_wp2_with fail
            refine (HFr.out _).mono ?_; rintro e w7 ⟨rfl, hb7⟩
            go_wp2_with fail
            go_roundw
            case rel => first | exact ⟨i + 1, by omega, by go_num, by rw [← HCS.out], hcr.keep hb7, bel hbr hb7⟩ | ((repeat apply Exists.intro); exact ⟨⟨i + 1, by omega, by go_num, by rw [← HCS.out], hcr.keep hb7, bel hbr hb7⟩, rfl⟩)
            case measure => simp [intOf]; omega
          · have hcs : cnt m i = cnt m ((i + 1 : Nat) : Int) := by
              unfold cnt
              by_cases h3 : m < (i : Int)
              · rw [if_pos h3, if_pos (by omega)]
              · rw [if_neg h3, if_neg (by omega)]
            rw [decide_eq_false hm] at ht
            have HCS := Lib.hid hcs
            clear hcs hm cb
            go_wp2_with fail
            refine (HFr.out _).mono ?_; rintro e w7 ⟨rfl, hb7⟩
            go_wp2_with fail
            go_roundw
            case rel => first | exact ⟨i + 1, by omega, by go_num, by rw [← HCS.out], hcr.keep hb7, bel hbr hb7⟩ | ((repeat apply Exists.intro); exact ⟨⟨i + 1, by omega, by go_num, by rw [← HCS.out], hcr.keep hb7, bel hbr hb7⟩, rfl⟩)
            case measure => simp [intOf]; omega
        · obtain rfl : i = N := by omega
          have h1 : cnt m (i : Int) = 1 := if_pos (by have := HM.out; omega)
          rw [h1]
          go_wp2_with fail
          refine (HW.out _).mono ?_; rintro e w8 ⟨rfl, hb8⟩
          go_wp2_with fail
          go_ret
          exact ⟨rfl, bel hbr hb8⟩
  · have dlt : decide (b < 20) = false := decide_eq_false hlt
    obtain ⟨n0, n1, -, n3⟩ := nB_bd (b := b) ha ha'
    have HQ := Lib.hid (fun w => refBlocks_any a b o ha ha' (by omega) (by omega) w)
    have HO := Lib.hid (fun w => ours13_any a b o w)
    have HN := Lib.hid (fun w => blocks_any a b o ha ha' w)
    have HB := Lib.hid (fun w => block_any a b k o ha ha' w)
    have HF := Lib.hid (fun i w => from_any a b sd i o ha ha' hs (by omega) w)
    obtain ⟨N, hN⟩ : ∃ N : Nat, nB a b = (N : Int) := ⟨(nB a b).toNat, by omega⟩
    rw [hN] at HN HB HF n0 n1
    have hNt : ((N : Int)).toNat = N := by omega
    rw [hN, hNt] at HQ
    clear hN hNt n3
    have hc0 := Cell3.new w a b o 26
    obtain ⟨w0, hw0⟩ : ∃ w0, w0 = w.alloc (poolO a b o 26) := ⟨_, rfl⟩
    have hc : Cell3 w.heap.size a b o w0 := by rw [hw0]; exact Cell3.new w a b o _
    have hb0 : Below w.heap.size w w0 := by rw [hw0]; exact belNew _ _
    have HWW := Lib.hid hw0
    clear hw0
    go_enter Try.func5, Try.ntmps5
    obtain ⟨z0, z1, z2, z3⟩ := id hc0
    go_upto_region 3 with fail
    change Code.wp _ _ _ _ (w.alloc (poolO a b o 26))
    rw [← HWW.out]
    clear HWW z0 z1 z2 z3 hc0 dlt
    obtain ⟨c0, c1, c2, c3⟩ := id hc
    go_wp2_with fail
    refine (HQ.out _).mono ?_; rintro e w1 ⟨lv, rfl, hown, hb1⟩
    obtain ⟨lo, lc, rfl, hlc⟩ := slice_of hown
    have hc1 := hc.keep hb1
    have hB1 := hb0.trans (hb1.mono hb0.size)
    clear c0 c1 c2 c3 hb1
    obtain ⟨c0, c1, c2, c3⟩ := id hc1
    have hlen := blkL_length a N
    rw [hlen] at hlc
    go_wp2_with fail
    refine (HO.out _).mono ?_; rintro e w2 ⟨rfl, hb2⟩
    have hp3 : Cell3 w2.heap.size a b o (w2.alloc (poolO a b o 32)) := Cell3.new _ _ _ _ _
    obtain ⟨w3, hw3⟩ : ∃ w3, w3 = w2.alloc (poolO a b o 32) := ⟨_, rfl⟩
    have hb3 : Below w2.heap.size w2 w3 := by rw [hw3]; exact belNew _ _
    rw [← hw3] at hp3
    have hB3 := bel hB1 (bel hb2 hb3)
    have hown3 := (hown.keep hb2).keep hb3
    go_upto_region 5 with fail
    change Code.wp _ _ _ _ (w2.alloc (poolO a b o 32))
    rw [← hw3]
    clear c0 c1 c2 c3 hc1 hb2 hb3 hw3 hB1 hc hb0 HQ HO hown
    obtain ⟨c0, c1, c2, c3⟩ := id hp3
    cases hin : inB k (N : Int) with
    | false =>
      rw [hin] at HB
      have HFk : Hid (∀ w, Calls Try.prog 21 #[.agg #[.int .u32 a, .int .i64 b, .bool o], .int .u64 sd, .int .i64 k] w fun e w' => e = .returned (.tuple #[.int .u32 0, .bool false]) ∧ Below w.heap.size w w') := Lib.hid (fun w => by
        have h := HF.out k w
        rw [hin, if_neg (by simp)] at h
        exact h)
      simp only [Bool.false_eq_true, if_false] at HB
      have hd : decide (k < 0) = true ∨ (decide (k < 0) = false ∧ decide ((N : Int) ≤ k) = true) := by
        unfold inB at hin
        by_cases h0 : k < 0
        · exact Or.inl (decide_eq_true h0)
        · rw [decide_eq_true (by omega : 0 ≤ k), Bool.true_and] at hin
          have := of_decide_eq_false hin
          exact Or.inr ⟨decide_eq_false h0, decide_eq_true (by omega)⟩
      clear hin HF hlen
      go_wp2_with fail
      refine (HB.out _).mono ?_; rintro e w4 ⟨rfl, hb4⟩
      have hp4 := hp3.keep hb4
      have hB4 := bel hB3 hb4
      clear c0 c1 c2 c3
      obtain ⟨c0, c1, c2, c3⟩ := id hp4
      go_wp2_with fail
      refine (HFk.out _).mono ?_; rintro e w5 ⟨rfl, hb5⟩
      have hp5 := hp4.keep hb5
      have hB5 := bel hB4 hb5
      clear c0 c1 c2 c3
      obtain ⟨c0, c1, c2, c3⟩ := id hp5
      go_wp2_with fail
      refine (HN.out _).mono ?_; rintro e w6 ⟨rfl, hb6⟩
      have hB6 := bel hB5 hb6
      clear c0 c1 c2 c3
      rcases hd with d0 | ⟨d0, d1⟩
      · go_wp2_with fail
        refine (HW.out _).mono ?_; rintro e w7 ⟨rfl, hb7⟩
        go_wp2_with fail
        go_ret
        exact ⟨rfl, bel hB6 hb7⟩
      · go_wp2_with fail
        refine (HW.out _).mono ?_; rintro e w7 ⟨rfl, hb7⟩
        go_wp2_with fail
        go_ret
        exact ⟨rfl, bel hB6 hb7⟩
    | true =>
      have hkk : 0 ≤ k ∧ k < (N : Int) := by
        unfold inB at hin
        simpa only [Bool.and_eq_true, decide_eq_true_eq] using hin
      obtain ⟨K, rfl⟩ : ∃ K : Nat, k = (K : Int) := ⟨k.toNat, by omega⟩
      have hKN : K < N := by omega
      have dk0 : decide ((K : Int) < 0) = false := decide_eq_false (by omega)
      have dk1 : decide ((N : Int) ≤ (K : Int)) = false := decide_eq_false (by omega)
      have dk2 : decide (N ≤ K) = false := decide_eq_false (by omega)
      rw [hin] at HB
      simp only [if_true] at HB
      have hsm : 0 ≤ sd % (N : Int) ∧ sd % (N : Int) < (N : Int) := ⟨Int.emod_nonneg _ (by omega), Int.emod_lt_of_pos _ (by omega)⟩
      have hjm : 0 ≤ (sd % (N : Int) + (K : Int)) % (N : Int) ∧ (sd % (N : Int) + (K : Int)) % (N : Int) < (N : Int) := ⟨Int.emod_nonneg _ (by omega), Int.emod_lt_of_pos _ (by omega)⟩
      have HFk : Hid (∀ w, Calls Try.prog 21 #[.agg #[.int .u32 a, .int .i64 b, .bool o], .int .u64 sd, .int .i64 (K : Int)] w fun e w' => e = .returned (.tuple #[.int .u32 (a + (sd % (N : Int) + (K : Int)) % (N : Int) * 64), .bool true]) ∧ Below w.heap.size w w') := Lib.hid (fun w => by
        have h := HF.out K w
        rw [hin, if_pos rfl] at h
        exact h)
      have HFi : Hid (∀ i : Nat, i < N → ∀ w, Calls Try.prog 21 #[.agg #[.int .u32 a, .int .i64 b, .bool o], .int .u64 sd, .int .i64 (i : Int)] w fun e w' => e = .returned (.tuple #[.int .u32 (a + (sd % (N : Int) + (i : Int)) % (N : Int) * 64), .bool true]) ∧ Below w.heap.size w w') := Lib.hid (fun i hi w => by
        have h := HF.out i w
        have hii : inB (i : Int) (N : Int) = true := by unfold inB; rw [decide_eq_true (by omega), decide_eq_true (by omega)]; rfl
        rw [hii, if_pos rfl] at h
        exact h)
      clear HF
      obtain ⟨J, hJ⟩ : ∃ J : Nat, (sd % (N : Int) + (K : Int)) % (N : Int) = (J : Int) := ⟨((sd % (N : Int) + (K : Int)) % (N : Int)).toNat, by omega⟩
      have hJN : J < N := by rw [hJ] at hjm; omega
      rw [hJ] at HFk
      have HJ := Lib.hid hJ
      have HS := Lib.hid hsm
      have HT : Hid (∀ i : Nat, i < N → (((a + (sd % (N : Int) + (i : Int)) % (N : Int) * 64 : Int) == a + (K : Int) * 64) = decide ((i : Int) = ((K : Int) - sd % (N : Int)) % (N : Int)))) := Lib.hid (fun i hi => by
        have h := turn_of (s := sd % (N : Int)) (i := (i : Int)) (k := (K : Int)) (N := (N : Int)) hsm.1 hsm.2 (by omega) (by omega) hkk.1 hkk.2
        rw [Bool.eq_iff_iff, beq_iff_eq, decide_eq_true_iff, ← h]
        constructor
        · intro h2; omega
        · intro h2; rw [h2])
      have HM : Hid (0 ≤ ((K : Int) - sd % (N : Int)) % (N : Int) ∧ ((K : Int) - sd % (N : Int)) % (N : Int) < (N : Int)) := Lib.hid ⟨Int.emod_nonneg _ (by omega), Int.emod_lt_of_pos _ (by omega)⟩
      generalize ((K : Int) - sd % (N : Int)) % (N : Int) = m at HT HM
      have HC : Hid (a + (K : Int) * 64 = a + 64 * (K : Int) ∧ a + (J : Int) * 64 = a + 64 * (J : Int)) := Lib.hid ⟨by omega, by omega⟩
      clear hin hjm hJ hsm
      have hne : blkL a N ≠ [] := fun e => by rw [e] at hlen; simp at hlen; omega
      go_wp2_with fail
      refine (HB.out _).mono ?_; rintro e w4 ⟨rfl, hb4⟩
      have hp4 := hp3.keep hb4
      have hB4 := bel hB3 hb4
      clear c0 c1 c2 c3
      obtain ⟨c0, c1, c2, c3⟩ := id hp4
      go_wp2_with fail
      refine (HFk.out _).mono ?_; rintro e w5 ⟨rfl, hb5⟩
      have hp5 := hp4.keep hb5
      have hB5 := bel hB4 hb5
      clear c0 c1 c2 c3
      obtain ⟨c0, c1, c2, c3⟩ := id hp5
      go_wp2_with fail
      refine (HN.out _).mono ?_; rintro e w6 ⟨rfl, hb6⟩
      have hp6 := hp5.keep hb6
      have hB6 := bel hB5 hb6
      have hown6 := ((hown3.keep hb4).keep hb5).keep hb6
      clear c0 c1 c2 c3 hb4 hb5 hb6 hp4 hp5 hB4 hB5 hp3 hB3 hown3
      obtain ⟨g, cap, hgv, -, hgs, hcap, hcell⟩ := hown6.at hne
      rw [hlen] at hcell hgv
      have cK := hcell K hKN
      have cJ := hcell J hJN
      rw [blkL_get a N K hKN, ← HC.out.1] at cK
      rw [blkL_get a N J hJN, ← HC.out.2] at cJ
      cases hgv
      clear hcell hne hcap hown6 hlen
      have hsm := HS.out
      go_upto_region 12 with fail
      have hJ2 := HJ.out
      rw [hJ2]
      clear hsm hJ2
      generalize hA0 : a + (K : Int) * 64 = A0 at *
      generalize a + (J : Int) * 64 = A1 at *
      go_upto_region 14 with fail
      clear cK cJ hgs
      go_wp2_with fail
      go_loopw [14, 15] (fun sn j wr => ∃ i : Nat, i ≤ N ∧ j = .int .i64 i ∧ sn = .int .i64 (cnt m i) ∧ Cell3 w2.heap.size a b o wr ∧ Below w.heap.size w wr) (fun _ j _ => N - (intOf j).toNat)
      case atStart => exact ⟨0, Nat.zero_le _, rfl, by rw [show cnt m ((0 : Nat) : Int) = 0 from if_neg (by have := HM.out; omega)], hp6, hB6⟩
      case round =>
        obtain ⟨i, hi, rfl, rfl, hcr, hbr⟩ := hrel
        by_cases hlt2 : i < N
        · obtain ⟨x0, x1, x2, x3⟩ := id hcr
          have ht := HT.out i hlt2
          have hf := HFi.out i hlt2
          generalize a + (sd % (N : Int) + (i : Int)) % (N : Int) * 64 = X at ht hf
          have HFr := Lib.hid hf
          clear hf
          have cb : cnt m i = 0 ∨ cnt m i = 1 := by unfold cnt; split <;> omega
          by_cases hm : (i : Int) = m
          · have hcs : cnt m i + 1 = cnt m ((i + 1 : Nat) : Int) := by unfold cnt; rw [if_neg (by omega), if_pos (by omega)]; rfl
            rw [decide_eq_true hm] at ht
            have HCS := Lib.hid hcs
            have HCB := Lib.hid cb
            clear hcs hm
            generalize cnt m i = c at *
            have c5 : 0 ≤ c ∧ c ≤ 1 := by omega
            clear cb
            go_wp2_with fail
            refine (HFr.out _).mono ?_; rintro e w7 ⟨rfl, hb7⟩
            go_wp2_with fail
            go_roundw
            case rel => first | exact ⟨i + 1, by omega, by go_num, by rw [← HCS.out], hcr.keep hb7, bel hbr hb7⟩ | ((repeat apply Exists.intro); exact ⟨⟨i + 1, by omega, by go_num, by rw [← HCS.out], hcr.keep hb7, bel hbr hb7⟩, rfl⟩)
            case measure => simp [intOf]; omega
          · have hcs : cnt m i = cnt m ((i + 1 : Nat) : Int) := by
              unfold cnt
              by_cases h3 : m < (i : Int)
              · rw [if_pos h3, if_pos (by omega)]
              · rw [if_neg h3, if_neg (by omega)]
            rw [decide_eq_false hm] at ht
            have HCS := Lib.hid hcs
            clear hcs hm cb
            go_wp2_with fail
            refine (HFr.out _).mono ?_; rintro e w7 ⟨rfl, hb7⟩
            go_wp2_with fail
            go_roundw
            case rel => first | exact ⟨i + 1, by omega, by go_num, by rw [← HCS.out], hcr.keep hb7, bel hbr hb7⟩ | ((repeat apply Exists.intro); exact ⟨⟨i + 1, by omega, by go_num, by rw [← HCS.out], hcr.keep hb7, bel hbr hb7⟩, rfl⟩)
            case measure => simp [intOf]; omega
        · obtain rfl : i = N := by omega
          have h1 : cnt m (i : Int) = 1 := if_pos (by have := HM.out; omega)
          rw [h1]
          go_wp2_with fail
          refine (HW.out _).mono ?_; rintro e w8 ⟨rfl, hb8⟩
          go_wp2_with fail
          go_ret
          exact ⟨rfl, bel hbr hb8⟩
end Go.Proofs.Ytcfmknocpjjklaa
