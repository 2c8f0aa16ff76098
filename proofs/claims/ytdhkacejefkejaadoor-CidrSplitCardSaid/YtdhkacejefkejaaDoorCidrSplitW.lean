/- The walk of CidrSplit. -/
import Derived.Test.YtdhkacejefkejaaDoorCidr3
import Derived.IntWalk
namespace Go.Proofs.YtdhkacejefkejaaDoor
open Go.RowKit
theorem split_facts {a b c k : Int} (ha : 0 ≤ a) (ha' : a < 4294967296) (hk : 0 ≤ k) (hk' : k < countI a b c) :
    mayB (a + k * hole c) c = true ∧ covB a b (a + k * hole c) c = true ∧ lastI (a + k * hole c) c = a + k * hole c + hole c - 1 ∧ lastI a b = a + hole b - 1 ∧ countI a b c * hole c = hole b ∧ 0 ≤ a + k * hole c ∧ a + k * hole c < 4294967296 ∧ 0 ≤ c ∧ c ≤ 32 := by
  obtain ⟨hm, hc, hle, q0, q1, q2⟩ := nth_bd ha ha' hk hk'
  obtain ⟨b0, b1⟩ := may_bits hm
  obtain ⟨c0, c1⟩ := bitsOk_iff.1 hc
  have hp := hole_pos c
  have e := hole_mul b0 hle c1
  have h0 := may_mod hm
  have ea := Int.mul_ediv_add_emod a (hole b)
  have hmod : (a + k * hole c) % hole c = 0 := by
    have h1 : a = hole c * (2 ^ (c - b).toNat * (a / hole b)) := by
      rw [← Int.mul_assoc, Int.mul_comm (hole c), e]; omega
    rw [h1, Int.mul_comm k, ← Int.mul_add]
    exact Int.mul_emod_right _ _
  have hm2 : mayB (a + k * hole c) c = true := by
    unfold mayB; rw [hc, hmod]; rfl
  have hco : countI a b c * hole c = hole b := by
    unfold countI; rw [if_pos ⟨hm, hc, hle⟩]; exact e
  refine ⟨hm2, ?_, ?_, ?_, hco, by omega, q2, c0, c1⟩
  · unfold covB hasB
    rw [hm2, hm]
    simp; omega
  · unfold lastI; rw [if_pos hm2]
  · unfold lastI; rw [if_pos hm]
/-- Two nets in two blocks, and what was there before is as it was. -/
theorem tD {w W : World} {g h : Nat} {a b c d : Int} (H : W.cell? ⟨g, 0, none⟩ = some (.int .u32 a) ∧ W.cell? ⟨g, 1, none⟩ = some (.int .i64 b) ∧ W.cell? ⟨h, 0, none⟩ = some (.int .u32 c) ∧ W.cell? ⟨h, 1, none⟩ = some (.int .i64 d) ∧ g < W.heap.size ∧ h < W.heap.size ∧ Below w.heap.size w W) :
    W.drew.cell? ⟨g, 0, none⟩ = some (.int .u32 a) ∧ W.drew.cell? ⟨g, 1, none⟩ = some (.int .i64 b) ∧ W.drew.cell? ⟨h, 0, none⟩ = some (.int .u32 c) ∧ W.drew.cell? ⟨h, 1, none⟩ = some (.int .i64 d) ∧ g < W.drew.heap.size ∧ h < W.drew.heap.size ∧ Below w.heap.size w W.drew :=
  ⟨H.1, H.2.1, H.2.2.1, H.2.2.2.1, H.2.2.2.2.1, H.2.2.2.2.2.1, H.2.2.2.2.2.2.drew⟩
theorem tK {w W W' : World} {g h : Nat} {a b c d : Int} (H : W.cell? ⟨g, 0, none⟩ = some (.int .u32 a) ∧ W.cell? ⟨g, 1, none⟩ = some (.int .i64 b) ∧ W.cell? ⟨h, 0, none⟩ = some (.int .u32 c) ∧ W.cell? ⟨h, 1, none⟩ = some (.int .i64 d) ∧ g < W.heap.size ∧ h < W.heap.size ∧ Below w.heap.size w W) (hb : Below W.heap.size W W') :
    W'.cell? ⟨g, 0, none⟩ = some (.int .u32 a) ∧ W'.cell? ⟨g, 1, none⟩ = some (.int .i64 b) ∧ W'.cell? ⟨h, 0, none⟩ = some (.int .u32 c) ∧ W'.cell? ⟨h, 1, none⟩ = some (.int .i64 d) ∧ g < W'.heap.size ∧ h < W'.heap.size ∧ Below w.heap.size w W' :=
  have k := Cell2.keep (⟨H.1, H.2.1, H.2.2.2.2.1⟩ : Cell2 g a b W) hb
  have l := Cell2.keep (⟨H.2.2.1, H.2.2.2.1, H.2.2.2.2.2.1⟩ : Cell2 h c d W) hb
  ⟨k.1, k.2.1, l.1, l.2.1, k.2.2, l.2.2, bel H.2.2.2.2.2.2 hb⟩
theorem tB {w W : World} {g h : Nat} {a b c d : Int} (H : W.cell? ⟨g, 0, none⟩ = some (.int .u32 a) ∧ W.cell? ⟨g, 1, none⟩ = some (.int .i64 b) ∧ W.cell? ⟨h, 0, none⟩ = some (.int .u32 c) ∧ W.cell? ⟨h, 1, none⟩ = some (.int .i64 d) ∧ g < W.heap.size ∧ h < W.heap.size ∧ Below w.heap.size w W) : Below w.heap.size w W := H.2.2.2.2.2.2
set_option linter.unusedSimpArgs false in
set_option maxRecDepth 4000 in
set_option maxHeartbeats 8000000 in
theorem lawSplit (a b c k : Int) (ha : 0 ≤ a) (ha' : a < 4294967296) (hb : -9223372036854775808 ≤ b) (hb' : b ≤ 9223372036854775807) (hc : -9223372036854775808 ≤ c) (hc' : c ≤ 9223372036854775807)
    (hk0 : -9223372036854775808 ≤ k) (hk1 : k ≤ 9223372036854775807) (w : World) (hE : Env w) :
    Calls Tryd.prog 12 #[.agg #[.int .u32 a, .int .i64 b], .int .i64 c, .int .i64 k] w fun e w' => e = .returned (.bool true) ∧ Below w.heap.size w w' := by
  have e0 : (countI a b c != countI a b c) = false := by simp
  have HO := Lib.hid (ours_any a b)
  have HR := Lib.hid (refCount_any a b c ha ha' hb hb')
  have HC := Lib.hid (count_any a b c ha ha')
  by_cases hin : 0 ≤ k ∧ k < countI a b c
  · obtain ⟨k0, k1⟩ := hin
    obtain ⟨f1, f2, f3, f4, f5, f6, f7, c0, c1⟩ := split_facts ha ha' k0 k1
    have d0 : decide (k < 0) = false := by simpa using k0
    have d1 : decide (countI a b c ≤ k) = false := by simpa using k1
    have HN0 := nth_yes a b c k ha ha' k0 k1
    have HL2 := Lib.hid (last_any a b ha ha')
    obtain ⟨g1, g2, g3, g4, g5, g6⟩ := nth_bd ha ha' k0 k1
    have hpb := hole_pos c
    have hpl := hole_le c c0
    have hbl := hole_le b (may_bits g1).1
    have g7 : k * hole c ≤ 4294967296 := by omega
    obtain ⟨x, hx⟩ : ∃ x, x = a + k * hole c := ⟨_, rfl⟩
    rw [← hx] at f2 f3 f6 f7
    have HN : Hid (∀ w, Calls Tryd.prog 49 #[.agg #[.int .u32 a, .int .i64 b], .int .i64 c, .int .i64 k] w fun e w' => e = .returned (.tuple #[.agg #[.int .u32 x, .int .i64 c], .int .i64 0]) ∧ Below w.heap.size w w') := Lib.hid (fun w => by rw [hx]; exact HN0 w)
    clear HN0
    have HV : Hid (∀ w, Calls Tryd.prog 44 #[.agg #[.int .u32 a, .int .i64 b], .agg #[.int .u32 x, .int .i64 c]] w fun e w' => e = .returned (.bool true) ∧ Below w.heap.size w w') := Lib.hid (fun w => by rw [← f2]; exact covers_any _ _ _ _ ha ha' f6 f7 w)
    have HL1 := Lib.hid (last_any x c f6 f7)
    have t1 : (x != a + k * hole c) = false := by rw [← hx]; simp
    have HF := Lib.hid (And.intro f3 (And.intro f4 (And.intro f5 hx)))
    have hl0 : 0 ≤ lastI x c ∧ lastI x c < 8589934592 := by have := hole_pos c; rw [f3]; constructor <;> omega
    have hcn : countI a b c ≤ 4294967296 := by
      have h1 := Int.mul_le_mul_of_nonneg_left (show (1 : Int) ≤ hole c from by have := hole_pos c; omega) (show 0 ≤ countI a b c from by omega)
      rw [f5] at h1; omega
    have s1 : IntKind.i64.wrap (countI a b c - 1) = countI a b c - 1 := IntWalk.i64_in _ (by omega)
    have s2 : IntKind.i64.wrap (k + 1) = k + 1 := IntWalk.i64_in _ (by omega)
    have s3 : IntKind.i64.wrap (lastI x c) = lastI x c := IntWalk.i64_in _ (by omega)
    have s4 : IntKind.i64.wrap (lastI x c + 1) = lastI x c + 1 := IntWalk.i64_in _ (by omega)
    clear f1 f2 f3 f4 f5 g1 g2 g3 g5 hbl hx hl0
    unfold hole at t1 hpb hpl g4 g6 g7
    have t2 : (c != c) = false := by simp
    go_enter Tryd.func12, Tryd.ntmps12
    go_wp2_with fail
    refine (HO.out _).mono ?_; rintro e w1 ⟨rfl, hb1⟩
    have hA1 := (Cell2.new w a b 44).keep hb1
    have hB1 := bel (belNew w _) hb1
    have hO1 := Cell2.new w1 a b 46
    have hA1' := hA1.alloc (.cells #[.int .u32 a, .int .i64 b] 46)
    have hB1' := belAlloc hB1 (.cells #[.int .u32 a, .int .i64 b] 46)
    obtain ⟨x0, x1, x2⟩ := id hA1
    go_wp2_with fail
    refine (HR.out _).mono ?_; rintro e w2 ⟨rfl, hb2⟩
    have hA2 := hA1'.keep hb2
    have hO2 := hO1.keep hb2
    have hB2 := bel hB1' hb2
    clear x0 x1 x2
    obtain ⟨x0, x1, x2⟩ := id hA2
    obtain ⟨y0, y1, y2⟩ := id hO2
    go_wp2_with fail
    refine (HN.out _).mono ?_; rintro e w3 ⟨rfl, hb3⟩
    have hA3 := (hA2.keep hb3).alloc (.cells #[.int .u32 x, .int .i64 c] 46)
    have hO3 := (hO2.keep hb3).alloc (.cells #[.int .u32 x, .int .i64 c] 46)
    have hN3 := Cell2.new w3 x c 46
    have hB3 := belAlloc (bel hB2 hb3) (.cells #[.int .u32 x, .int .i64 c] 46)
    have hO3' := hO2.keep hb3
    clear x0 x1 x2 y0 y1 y2
    obtain ⟨y0, y1, y2⟩ := id hO3'
    go_wp2_with fail
    refine (HC.out _).mono ?_; rintro e w4 ⟨rfl, hb4⟩
    have hA4 := hA3.keep hb4
    have hO4 := hO3.keep hb4
    have hN4 := hN3.keep hb4
    have hB4 := bel hB3 hb4
    clear y0 y1 y2
    obtain ⟨x0, x1, x2⟩ := id hA4
    obtain ⟨y0, y1, y2⟩ := id hO4
    obtain ⟨z0, z1, z2⟩ := id hN4
    go_wp2_with fail
    refine (HV.out _).mono ?_; rintro e w5 ⟨rfl, hb5⟩
    have hA5 := hA4.keep hb5
    have hO5 := hO4.keep hb5
    have hN5 := hN4.keep hb5
    have hB5 := bel hB4 hb5
    clear x0 x1 x2 y0 y1 y2 z0 z1 z2
    obtain ⟨y0, y1, y2⟩ := id hO5
    obtain ⟨z0, z1, z2⟩ := id hN5
    by_cases hl : k = countI a b c - 1
    · have hS : w5.cell? ⟨w1.heap.size, 0, none⟩ = some (.int .u32 a) ∧ w5.cell? ⟨w1.heap.size, 1, none⟩ = some (.int .i64 b) ∧ w5.cell? ⟨w3.heap.size, 0, none⟩ = some (.int .u32 x) ∧ w5.cell? ⟨w3.heap.size, 1, none⟩ = some (.int .i64 c) ∧ w1.heap.size < w5.heap.size ∧ w3.heap.size < w5.heap.size ∧ Below w.heap.size w w5 := ⟨y0, y1, z0, z1, y2, z2, hB5⟩
      have t3 : (lastI x c == lastI a b) = true := by
        obtain ⟨f3, f4, f5, hx⟩ := HF.out
        have e1 : k * hole c + hole c = hole b := by
          have : (k + 1) * hole c = hole b := by rw [show k + 1 = countI a b c from by omega]; exact f5
          rw [← this, Int.add_mul, Int.one_mul]
        rw [f3, f4, hx]
        simp; omega
      have t4 : (k == countI a b c - 1) = true := by rw [beq_iff_eq]; exact hl
      clear hl
      go_wp2_with fail
      refine wp_region_held_drew (S := (fun W => W.cell? ⟨w1.heap.size, 0, none⟩ = some (.int .u32 a) ∧ W.cell? ⟨w1.heap.size, 1, none⟩ = some (.int .i64 b) ∧ W.cell? ⟨w3.heap.size, 0, none⟩ = some (.int .u32 x) ∧ W.cell? ⟨w3.heap.size, 1, none⟩ = some (.int .i64 c) ∧ w1.heap.size < W.heap.size ∧ w3.heap.size < W.heap.size ∧ Below w.heap.size w W)) (by kernel_rfl) ?_ (fun hHeld0 => ?_)
      · exact tD hS
      refine wpAnyH_take (i := 0) (v := ?_) rfl (by kernel_rfl) (by kernel_rfl) (by kernel_rfl) (fun _ _ _ h => h) (Or.inl ⟨by rfl, ?_⟩) (by assumption) ?_
      rotate_left
      · intro w hSw
        (try dsimp only at hSw)
        go_simp
        first | done | with_reducible rfl
      try simp only [Act.put, List.getElem_toArray, List.getElem_cons_succ, List.getElem_cons_zero, List.setIfInBounds_toArray, List.set_cons_zero, List.set_cons_succ]
      refine wpAnyH_take (i := 2) (v := ?_) rfl (by kernel_rfl) (by kernel_rfl) (by kernel_rfl) (fun _ _ _ h => h) (Or.inl ⟨by rfl, ?_⟩) (by assumption) ?_
      rotate_left
      · intro w hSw
        (try dsimp only at hSw)
        go_simp
        first | done | with_reducible rfl
      try simp only [Act.put, List.getElem_toArray, List.getElem_cons_succ, List.getElem_cons_zero, List.setIfInBounds_toArray, List.set_cons_zero, List.set_cons_succ]
      refine wpAnyH_ready (rs := [1]) (by kernel_rfl) (by simp) ?_
      refine AllReadyH.cons rfl (fun K hK => ?_) AllReadyH.nil
      go_simp
      refine (HL1.out _).mono ?_; rintro e w6 ⟨rfl, hb6⟩
      refine hK.out _ _ ?_ (fun hHeld1 => ?_)
      · (first | (refine tD ?_; assumption) | (apply tK; rotate_left; assumption; first | assumption | (refine tD ?_; assumption)))
      try simp only [Act.put, List.getElem_toArray, List.getElem_cons_succ, List.getElem_cons_zero, List.setIfInBounds_toArray, List.set_cons_zero, List.set_cons_succ]
      refine wpAnyH_ready (rs := [3]) (by kernel_rfl) (by simp) ?_
      refine AllReadyH.cons rfl (fun K hK => ?_) AllReadyH.nil
      go_simp
      refine (HL2.out _).mono ?_; rintro e w6 ⟨rfl, hb6⟩
      refine hK.out _ _ ?_ (fun hHeld2 => ?_)
      · (first | (refine tD ?_; assumption) | (apply tK; rotate_left; assumption; first | assumption | (refine tD ?_; assumption)))
      try simp only [Act.put, List.getElem_toArray, List.getElem_cons_succ, List.getElem_cons_zero, List.setIfInBounds_toArray, List.set_cons_zero, List.set_cons_succ]
      refine wpAnyH_take (i := 4) (v := ?_) rfl (by kernel_rfl) (by kernel_rfl) (by kernel_rfl) (fun _ _ _ h => h) (Or.inl ⟨by rfl, ?_⟩) (by assumption) ?_
      rotate_left
      · intro w hSw
        (try dsimp only at hSw)
        go_simp
        first | done | with_reducible rfl
      try simp only [Act.put, List.getElem_toArray, List.getElem_cons_succ, List.getElem_cons_zero, List.setIfInBounds_toArray, List.set_cons_zero, List.set_cons_succ]
      refine wpAnyH_take (i := 5) (v := ?_) rfl (by kernel_rfl) (by kernel_rfl) (by kernel_rfl) (fun _ _ _ h => h) (Or.inl ⟨by rfl, ?_⟩) (by assumption) ?_
      rotate_left
      · intro w hSw
        (try dsimp only at hSw)
        go_simp
        first | done | with_reducible rfl
      try simp only [Act.put, List.getElem_toArray, List.getElem_cons_succ, List.getElem_cons_zero, List.setIfInBounds_toArray, List.set_cons_zero, List.set_cons_succ]
      refine wpAnyH_ready (rs := [6]) (by kernel_rfl) (by simp) ?_
      refine AllReadyH.cons rfl (fun K hK => ?_) AllReadyH.nil
      go_simp
      refine (awake2_any _ (hE.below (by first | assumption | (refine tB (g := w1.heap.size) (h := w3.heap.size) (a := a) (b := b) (c := x) (d := c) ?_; assumption) | (refine tB (g := w1.heap.size) (h := w3.heap.size) (a := a) (b := b) (c := x) (d := c) (tD ?_); assumption)))).mono ?_; rintro e w7 ⟨rfl, hb7⟩
      refine hK.out _ _ ?_ (fun hHeld3 => ?_)
      · (first | (refine tD ?_; assumption) | (apply tK; rotate_left; assumption; first | assumption | (refine tD ?_; assumption)))
      try simp only [Act.put, List.getElem_toArray, List.getElem_cons_succ, List.getElem_cons_zero, List.setIfInBounds_toArray, List.set_cons_zero, List.set_cons_succ]
      refine wpAnyH_take (i := 7) (v := ?_) rfl (by kernel_rfl) (by kernel_rfl) (by kernel_rfl) (fun _ _ _ h => h) (Or.inl ⟨by rfl, ?_⟩) (by assumption) ?_
      rotate_left
      · intro w hSw
        (try dsimp only at hSw)
        go_simp
        first | done | with_reducible rfl
      try simp only [Act.put, List.getElem_toArray, List.getElem_cons_succ, List.getElem_cons_zero, List.setIfInBounds_toArray, List.set_cons_zero, List.set_cons_succ]
      refine wpAnyH_take (i := 8) (v := ?_) rfl (by kernel_rfl) (by kernel_rfl) (by kernel_rfl) (fun _ _ _ h => h) (Or.inl ⟨by rfl, ?_⟩) (by assumption) ?_
      rotate_left
      · intro w hSw
        (try dsimp only at hSw)
        go_simp
        first | done | with_reducible rfl
      try simp only [Act.put, List.getElem_toArray, List.getElem_cons_succ, List.getElem_cons_zero, List.setIfInBounds_toArray, List.set_cons_zero, List.set_cons_succ]
      refine wpAnyH_done (by kernel_rfl) ?_ _
      go_wp2
      go_ret
      exact ⟨rfl, tB (by first | assumption)⟩
    · have hk2 : k + 1 < countI a b c := by omega
      have t4 : (k == countI a b c - 1) = false := by rw [beq_eq_false_iff_ne]; omega
      have HN1 := nth_yes a b c (k + 1) ha ha' (by omega) hk2
      obtain ⟨m1, m2, m3, m4, m5, m6⟩ := nth_bd ha ha' (show 0 ≤ k + 1 by omega) hk2
      obtain ⟨y, hy⟩ : ∃ y, y = a + (k + 1) * hole c := ⟨_, rfl⟩
      rw [← hy] at HN1 m6
      have HN2 := Lib.hid HN1
      have t5 : (lastI x c + 1 == y) = true := by
        obtain ⟨f3, f4, f5, hx⟩ := HF.out
        rw [beq_iff_eq, f3, hx, hy, Int.add_mul, Int.one_mul]; omega
      have y0' : 0 ≤ y := by omega
      have s5 : IntKind.i64.wrap y = y := IntWalk.i64_in _ (by omega)
      clear hl hk2 HN1 m1 m2 m3 m4 m5 hy
      have hx0 := hA5
      obtain ⟨x0, x1, x2⟩ := id hA5
      go_wp2_with fail
      refine (HN2.out _).mono ?_; rintro e w6 ⟨rfl, hb6⟩
      have hN6 := (hN5.keep hb6).alloc (.cells #[.int .u32 y, .int .i64 c] 46)
      have hM6 := Cell2.new w6 y c 46
      have hB6 := belAlloc (bel hB5 hb6) (.cells #[.int .u32 y, .int .i64 c] 46)
      clear y0 y1 y2 z0 z1 z2
      obtain ⟨y0, y1, y2⟩ := id hM6
      obtain ⟨z0, z1, z2⟩ := id hN6
      go_wp2_with fail
      have hS := And.intro z0 (And.intro z1 (And.intro y0 (And.intro y1 (And.intro z2 (And.intro y2 hB6)))))
      refine wp_region_held_drew (S := (fun W => W.cell? ⟨w3.heap.size, 0, none⟩ = some (.int .u32 x) ∧ W.cell? ⟨w3.heap.size, 1, none⟩ = some (.int .i64 c) ∧ W.cell? ⟨w6.heap.size, 0, none⟩ = some (.int .u32 y) ∧ W.cell? ⟨w6.heap.size, 1, none⟩ = some (.int .i64 c) ∧ w3.heap.size < W.heap.size ∧ w6.heap.size < W.heap.size ∧ Below w.heap.size w W)) (by kernel_rfl) ?_ (fun hHeld0 => ?_)
      · exact tD hS
      refine wpAnyH_take (i := 0) (v := ?_) rfl (by kernel_rfl) (by kernel_rfl) (by kernel_rfl) (fun _ _ _ h => h) (Or.inl ⟨by rfl, ?_⟩) (by assumption) ?_
      rotate_left
      · intro w hSw
        (try dsimp only at hSw)
        go_simp
        first | done | with_reducible rfl
      try simp only [Act.put, List.getElem_toArray, List.getElem_cons_succ, List.getElem_cons_zero, List.setIfInBounds_toArray, List.set_cons_zero, List.set_cons_succ]
      refine wpAnyH_take (i := 1) (v := ?_) rfl (by kernel_rfl) (by kernel_rfl) (by kernel_rfl) (fun _ _ _ h => h) (Or.inl ⟨by rfl, ?_⟩) (by assumption) ?_
      rotate_left
      · intro w hSw
        (try dsimp only at hSw)
        go_simp
        first | done | with_reducible rfl
      try simp only [Act.put, List.getElem_toArray, List.getElem_cons_succ, List.getElem_cons_zero, List.setIfInBounds_toArray, List.set_cons_zero, List.set_cons_succ]
      refine wpAnyH_take (i := 2) (v := ?_) rfl (by kernel_rfl) (by kernel_rfl) (by kernel_rfl) (fun _ _ _ h => h) (Or.inl ⟨by rfl, ?_⟩) (by assumption) ?_
      rotate_left
      · intro w hSw
        (try dsimp only at hSw)
        go_simp
        first | done | with_reducible rfl
      try simp only [Act.put, List.getElem_toArray, List.getElem_cons_succ, List.getElem_cons_zero, List.setIfInBounds_toArray, List.set_cons_zero, List.set_cons_succ]
      refine wpAnyH_take (i := 3) (v := ?_) rfl (by kernel_rfl) (by kernel_rfl) (by kernel_rfl) (fun _ _ _ h => h) (Or.inl ⟨by rfl, ?_⟩) (by assumption) ?_
      rotate_left
      · intro w hSw
        (try dsimp only at hSw)
        go_simp
        first | done | with_reducible rfl
      try simp only [Act.put, List.getElem_toArray, List.getElem_cons_succ, List.getElem_cons_zero, List.setIfInBounds_toArray, List.set_cons_zero, List.set_cons_succ]
      refine wpAnyH_take (i := 7) (v := ?_) rfl (by kernel_rfl) (by kernel_rfl) (by kernel_rfl) (fun _ _ _ h => h) (Or.inl ⟨by rfl, ?_⟩) (by assumption) ?_
      rotate_left
      · intro w hSw
        (try dsimp only at hSw)
        go_simp
        first | done | with_reducible rfl
      try simp only [Act.put, List.getElem_toArray, List.getElem_cons_succ, List.getElem_cons_zero, List.setIfInBounds_toArray, List.set_cons_zero, List.set_cons_succ]
      refine wpAnyH_take (i := 8) (v := ?_) rfl (by kernel_rfl) (by kernel_rfl) (by kernel_rfl) (fun _ _ _ h => h) (Or.inl ⟨by rfl, ?_⟩) (by assumption) ?_
      rotate_left
      · intro w hSw
        (try dsimp only at hSw)
        go_simp
        first | done | with_reducible rfl
      try simp only [Act.put, List.getElem_toArray, List.getElem_cons_succ, List.getElem_cons_zero, List.setIfInBounds_toArray, List.set_cons_zero, List.set_cons_succ]
      refine wpAnyH_take (i := 9) (v := ?_) rfl (by kernel_rfl) (by kernel_rfl) (by kernel_rfl) (fun _ _ _ h => h) (Or.inl ⟨by rfl, ?_⟩) (by assumption) ?_
      rotate_left
      · intro w hSw
        (try dsimp only at hSw)
        go_simp
        first | done | with_reducible rfl
      try simp only [Act.put, List.getElem_toArray, List.getElem_cons_succ, List.getElem_cons_zero, List.setIfInBounds_toArray, List.set_cons_zero, List.set_cons_succ]
      refine wpAnyH_ready (rs := [4]) (by kernel_rfl) (by simp) ?_
      refine AllReadyH.cons rfl (fun K hK => ?_) AllReadyH.nil
      go_simp
      refine (HL1.out _).mono ?_; rintro e w8 ⟨rfl, hb8⟩
      refine hK.out _ _ ?_ (fun hHeld1 => ?_)
      · (first | (refine tD ?_; assumption) | (apply tK; rotate_left; assumption; first | assumption | (refine tD ?_; assumption)))
      try simp only [Act.put, List.getElem_toArray, List.getElem_cons_succ, List.getElem_cons_zero, List.setIfInBounds_toArray, List.set_cons_zero, List.set_cons_succ]
      refine wpAnyH_take (i := 5) (v := ?_) rfl (by kernel_rfl) (by kernel_rfl) (by kernel_rfl) (fun _ _ _ h => h) (Or.inl ⟨by rfl, ?_⟩) (by assumption) ?_
      rotate_left
      · intro w hSw
        (try dsimp only at hSw)
        go_simp
        first | done | with_reducible rfl
      try simp only [Act.put, List.getElem_toArray, List.getElem_cons_succ, List.getElem_cons_zero, List.setIfInBounds_toArray, List.set_cons_zero, List.set_cons_succ]
      refine wpAnyH_take (i := 6) (v := ?_) rfl (by kernel_rfl) (by kernel_rfl) (by kernel_rfl) (fun _ _ _ h => h) (Or.inl ⟨by rfl, ?_⟩) (by assumption) ?_
      rotate_left
      · intro w hSw
        (try dsimp only at hSw)
        go_simp
        first | done | with_reducible rfl
      try simp only [Act.put, List.getElem_toArray, List.getElem_cons_succ, List.getElem_cons_zero, List.setIfInBounds_toArray, List.set_cons_zero, List.set_cons_succ]
      refine wpAnyH_take (i := 10) (v := ?_) rfl (by kernel_rfl) (by kernel_rfl) (by kernel_rfl) (fun _ _ _ h => h) (Or.inl ⟨by rfl, ?_⟩) (by assumption) ?_
      rotate_left
      · intro w hSw
        (try dsimp only at hSw)
        go_simp
        first | done | with_reducible rfl
      try simp only [Act.put, List.getElem_toArray, List.getElem_cons_succ, List.getElem_cons_zero, List.setIfInBounds_toArray, List.set_cons_zero, List.set_cons_succ]
      refine wpAnyH_take (i := 11) (v := ?_) rfl (by kernel_rfl) (by kernel_rfl) (by kernel_rfl) (fun _ _ _ h => h) (Or.inl ⟨by rfl, ?_⟩) (by assumption) ?_
      rotate_left
      · intro w hSw
        (try dsimp only at hSw)
        go_simp
        first | done | with_reducible rfl
      try simp only [Act.put, List.getElem_toArray, List.getElem_cons_succ, List.getElem_cons_zero, List.setIfInBounds_toArray, List.set_cons_zero, List.set_cons_succ]
      refine wpAnyH_take (i := 12) (v := ?_) rfl (by kernel_rfl) (by kernel_rfl) (by kernel_rfl) (fun _ _ _ h => h) (Or.inl ⟨by rfl, ?_⟩) (by assumption) ?_
      rotate_left
      · intro w hSw
        (try dsimp only at hSw)
        go_simp
        first | done | with_reducible rfl
      try simp only [Act.put, List.getElem_toArray, List.getElem_cons_succ, List.getElem_cons_zero, List.setIfInBounds_toArray, List.set_cons_zero, List.set_cons_succ]
      refine wpAnyH_ready (rs := [13]) (by kernel_rfl) (by simp) ?_
      refine AllReadyH.cons rfl (fun K hK => ?_) AllReadyH.nil
      go_simp
      refine (awake2_any _ (hE.below (by first | assumption | (refine tB (g := w3.heap.size) (h := w6.heap.size) (a := x) (b := c) (c := y) (d := c) ?_; assumption) | (refine tB (g := w3.heap.size) (h := w6.heap.size) (a := x) (b := c) (c := y) (d := c) (tD ?_); assumption)))).mono ?_; rintro e w7 ⟨rfl, hb7⟩
      refine hK.out _ _ ?_ (fun hHeld2 => ?_)
      · (first | (refine tD ?_; assumption) | (apply tK; rotate_left; assumption; first | assumption | (refine tD ?_; assumption)))
      try simp only [Act.put, List.getElem_toArray, List.getElem_cons_succ, List.getElem_cons_zero, List.setIfInBounds_toArray, List.set_cons_zero, List.set_cons_succ]
      refine wpAnyH_take (i := 14) (v := ?_) rfl (by kernel_rfl) (by kernel_rfl) (by kernel_rfl) (fun _ _ _ h => h) (Or.inl ⟨by rfl, ?_⟩) (by assumption) ?_
      rotate_left
      · intro w hSw
        (try dsimp only at hSw)
        go_simp
        first | done | with_reducible rfl
      try simp only [Act.put, List.getElem_toArray, List.getElem_cons_succ, List.getElem_cons_zero, List.setIfInBounds_toArray, List.set_cons_zero, List.set_cons_succ]
      refine wpAnyH_take (i := 15) (v := ?_) rfl (by kernel_rfl) (by kernel_rfl) (by kernel_rfl) (fun _ _ _ h => h) (Or.inl ⟨by rfl, ?_⟩) (by assumption) ?_
      rotate_left
      · intro w hSw
        (try dsimp only at hSw)
        go_simp
        first | done | with_reducible rfl
      try simp only [Act.put, List.getElem_toArray, List.getElem_cons_succ, List.getElem_cons_zero, List.setIfInBounds_toArray, List.set_cons_zero, List.set_cons_succ]
      refine wpAnyH_done (by kernel_rfl) ?_ _
      go_wp2
      go_ret
      exact ⟨rfl, tB (by first | assumption)⟩
  · have HN := Lib.hid (nth_no a b c k ha ha' hin)
    by_cases hk : k < 0
    · have d0 : decide (k < 0) = true := by simpa using hk
      clear hin hk
      go_enter Tryd.func12, Tryd.ntmps12
      go_wp2_with fail
      refine (HO.out _).mono ?_; rintro e w1 ⟨rfl, hb1⟩
      have hA1 := (Cell2.new w a b 44).keep hb1
      have hB1 := bel (belNew w _) hb1
      have hO1 := Cell2.new w1 a b 46
      have hA1' := hA1.alloc (.cells #[.int .u32 a, .int .i64 b] 46)
      have hB1' := belAlloc hB1 (.cells #[.int .u32 a, .int .i64 b] 46)
      obtain ⟨x0, x1, x2⟩ := id hA1
      go_wp2_with fail
      refine (HR.out _).mono ?_; rintro e w2 ⟨rfl, hb2⟩
      have hA2 := hA1'.keep hb2
      have hO2 := hO1.keep hb2
      have hB2 := bel hB1' hb2
      clear x0 x1 x2
      obtain ⟨x0, x1, x2⟩ := id hA2
      obtain ⟨y0, y1, y2⟩ := id hO2
      go_wp2_with fail
      refine (HN.out _).mono ?_; rintro e w3 ⟨rfl, hb3⟩
      have hA3 := (hA2.keep hb3).alloc (.cells #[.int .u32 0, .int .i64 0] 46)
      have hO3 := (hO2.keep hb3).alloc (.cells #[.int .u32 0, .int .i64 0] 46)
      have hN3 := Cell2.new w3 0 0 46
      have hB3 := belAlloc (bel hB2 hb3) (.cells #[.int .u32 0, .int .i64 0] 46)
      have hO3' := hO2.keep hb3
      clear x0 x1 x2 y0 y1 y2
      obtain ⟨y0, y1, y2⟩ := id hO3'
      go_wp2_with fail
      refine (HC.out _).mono ?_; rintro e w4 ⟨rfl, hb4⟩
      have hA4 := hA3.keep hb4
      have hO4 := hO3.keep hb4
      have hN4 := hN3.keep hb4
      have hB4 := bel hB3 hb4
      clear y0 y1 y2
      obtain ⟨x0, x1, x2⟩ := id hA4
      obtain ⟨y0, y1, y2⟩ := id hO4
      obtain ⟨z0, z1, z2⟩ := id hN4
      go_wp2_with fail
      refine (awake2_any _ (hE.below hB4)).mono ?_; rintro e w5 ⟨rfl, hb5⟩
      go_wp2_with fail
      go_ret
      exact ⟨rfl, bel hB4 hb5⟩
    · have d0 : decide (k < 0) = false := by simpa using hk
      have d1 : decide (countI a b c ≤ k) = true := by rw [decide_eq_true_eq]; omega
      clear hin hk
      go_enter Tryd.func12, Tryd.ntmps12
      go_wp2_with fail
      refine (HO.out _).mono ?_; rintro e w1 ⟨rfl, hb1⟩
      have hA1 := (Cell2.new w a b 44).keep hb1
      have hB1 := bel (belNew w _) hb1
      have hO1 := Cell2.new w1 a b 46
      have hA1' := hA1.alloc (.cells #[.int .u32 a, .int .i64 b] 46)
      have hB1' := belAlloc hB1 (.cells #[.int .u32 a, .int .i64 b] 46)
      obtain ⟨x0, x1, x2⟩ := id hA1
      go_wp2_with fail
      refine (HR.out _).mono ?_; rintro e w2 ⟨rfl, hb2⟩
      have hA2 := hA1'.keep hb2
      have hO2 := hO1.keep hb2
      have hB2 := bel hB1' hb2
      clear x0 x1 x2
      obtain ⟨x0, x1, x2⟩ := id hA2
      obtain ⟨y0, y1, y2⟩ := id hO2
      go_wp2_with fail
      refine (HN.out _).mono ?_; rintro e w3 ⟨rfl, hb3⟩
      have hA3 := (hA2.keep hb3).alloc (.cells #[.int .u32 0, .int .i64 0] 46)
      have hO3 := (hO2.keep hb3).alloc (.cells #[.int .u32 0, .int .i64 0] 46)
      have hN3 := Cell2.new w3 0 0 46
      have hB3 := belAlloc (bel hB2 hb3) (.cells #[.int .u32 0, .int .i64 0] 46)
      have hO3' := hO2.keep hb3
      clear x0 x1 x2 y0 y1 y2
      obtain ⟨y0, y1, y2⟩ := id hO3'
      go_wp2_with fail
      refine (HC.out _).mono ?_; rintro e w4 ⟨rfl, hb4⟩
      have hA4 := hA3.keep hb4
      have hO4 := hO3.keep hb4
      have hN4 := hN3.keep hb4
      have hB4 := bel hB3 hb4
      clear y0 y1 y2
      obtain ⟨x0, x1, x2⟩ := id hA4
      obtain ⟨y0, y1, y2⟩ := id hO4
      obtain ⟨z0, z1, z2⟩ := id hN4
      go_wp2_with fail
      refine (awake2_any _ (hE.below hB4)).mono ?_; rintro e w5 ⟨rfl, hb5⟩
      go_wp2_with fail
      go_ret
      exact ⟨rfl, bel hB4 hb5⟩
end Go.Proofs.YtdhkacejefkejaaDoor
