/- Package recs: a pool's blocks from a seed on. -/
import Derived.Test.YtcfmknocpjjklaaRcBlk
namespace Go.Proofs.Ytcfmknocpjjklaa
open Go.RowKit
set_option maxRecDepth 100000 in
set_option maxHeartbeats 4000000 in
theorem from_any (a b sd k : Int) (o : Bool) (ha : 0 ≤ a) (ha' : a < 4294967296) (hs : 0 ≤ sd) (hs' : sd ≤ 18446744073709551615) (w : World) :
    Calls Try.prog 21 #[.agg #[.int .u32 a, .int .i64 b, .bool o], .int .u64 sd, .int .i64 k] w fun e w' => e = .returned (if inB k (nB a b) = true then .tuple #[.int .u32 (a + (sd % nB a b + k) % nB a b * 64), .bool true] else .tuple #[.int .u32 0, .bool false]) ∧ Below w.heap.size w w' := by
  have HB := Lib.hid (fun w => blocks_any a b o ha ha' w)
  obtain ⟨w0, hw0⟩ : ∃ w0, w0 = w.alloc (poolO a b o 32) := ⟨_, rfl⟩
  have hc : Cell3 w.heap.size a b o w0 := by rw [hw0]; exact Cell3.new w a b o _
  have hb0 : Below w.heap.size w w0 := by rw [hw0]; exact belNew _ _
  have HW := Lib.hid hw0
  clear hw0
  obtain ⟨n0, n1, n2, _⟩ := nB_bd (b := b) ha ha'
  by_cases h0 : 0 ≤ k
  · have d0 : decide (k < 0) = false := decide_eq_false (by omega)
    by_cases h1 : k < nB a b
    · have hi : inB k (nB a b) = true := by unfold inB; rw [decide_eq_true h0, decide_eq_true h1]; rfl
      have d1 : decide (nB a b ≤ k) = false := decide_eq_false (by omega)
      have n3 : 1 ≤ nB a b := by omega
      have hsm : 0 ≤ sd % nB a b ∧ sd % nB a b < nB a b := ⟨Int.emod_nonneg _ (by omega), Int.emod_lt_of_pos _ (by omega)⟩
      have hkm : 0 ≤ (sd % nB a b + k) % nB a b ∧ (sd % nB a b + k) % nB a b < nB a b := ⟨Int.emod_nonneg _ (by omega), Int.emod_lt_of_pos _ (by omega)⟩
      have hj : inB ((sd % nB a b + k) % nB a b) (nB a b) = true := by unfold inB; rw [decide_eq_true hkm.1, decide_eq_true hkm.2]; rfl
      have HK : Hid (∀ w, Calls Try.prog 20 #[.agg #[.int .u32 a, .int .i64 b, .bool o], .int .i64 ((sd % nB a b + k) % nB a b)] w fun e w' => e = .returned (.tuple #[.int .u32 (a + (sd % nB a b + k) % nB a b * 64), .bool true]) ∧ Below w.heap.size w w') := Lib.hid (fun w => by
        have h := block_any a b ((sd % nB a b + k) % nB a b) o ha ha' w
        rw [hj, if_pos rfl] at h
        exact h)
      rw [hi, if_pos rfl]
      have e7 : sd % nB a b + k ≤ 2048 := by have := hsm.2; omega
      have e6 : 0 ≤ sd % nB a b + k := Int.add_nonneg hsm.1 h0
      clear hi hj hkm
      generalize a + (sd % nB a b + k) % nB a b * 64 = f at *
      generalize nB a b = n at *
      go_enter Try.func21, Try.ntmps21
      go_upto_region 1 with fail
      change Code.wp _ _ _ _ (w.alloc (poolO a b o 32))
      rw [← HW.out]
      obtain ⟨c0, c1, c2, c3⟩ := id hc
      go_wp2_with fail
      refine (HB.out _).mono ?_; rintro e w1 ⟨rfl, hb1⟩
      have hc1 := hc.keep hb1
      have hB1 := hb0.trans (hb1.mono hb0.size)
      clear c0 c1 c2 c3
      obtain ⟨c0, c1, c2, c3⟩ := id hc1
      clear n0
      go_upto_region 4 with fail
      clear HB
      go_upto_region 5 with fail
      generalize sd % n = s at *
      have a1 : IntKind.i64.wrap (s + k) = s + k := IntWalk.i64_in _ (by omega)
      have a4 : (n == 0) = false := by simpa using (by omega : ¬ n = 0)
      have a5 : ¬ n = 0 := by omega
      have a2 : (s + k).tmod n = (s + k) % n := Int.tmod_eq_emod_of_nonneg e6
      have a3 : IntKind.i64.wrap ((s + k) % n) = (s + k) % n := IntWalk.i64_in _ (by have := Int.emod_nonneg (s + k) a5; have := Int.emod_lt_of_pos (s + k) (show 0 < n by clear a2; omega); clear a2; omega)
      refine wp_region_held_drew (S := (fun W => Below w1.heap.size w1 W)) (by kernel_rfl) ?_ (fun r0 => ?_)
      · exact ⟨rfl, rfl, rfl, Nat.le_refl _, fun _ _ => rfl⟩
      refine wpAnyH_take (i := 0) (v := ?_) rfl (by kernel_rfl) (by kernel_rfl) (by kernel_rfl) (fun _ _ _ h => h) (Or.inl ⟨by rfl, ?_⟩) (by assumption) ?_
      rotate_left
      · intro wS hSw
        (try dsimp only at hSw)
        have c0 := bcell hSw c0
        have c1 := bcell hSw c1
        have c2 := bcell hSw c2
        go_simp
        first | done | with_reducible rfl
      try simp only [Act.put, List.getElem_toArray, List.getElem_cons_succ, List.getElem_cons_zero, List.setIfInBounds_toArray, List.set_cons_zero, List.set_cons_succ]
      refine wpAnyH_take (i := 1) (v := ?_) rfl (by kernel_rfl) (by kernel_rfl) (by kernel_rfl) (fun _ _ _ h => h) (Or.inl ⟨by rfl, ?_⟩) (by assumption) ?_
      rotate_left
      · intro wS hSw
        (try dsimp only at hSw)
        go_simp
        first | done | with_reducible rfl
      try simp only [Act.put, List.getElem_toArray, List.getElem_cons_succ, List.getElem_cons_zero, List.setIfInBounds_toArray, List.set_cons_zero, List.set_cons_succ]
      refine wpAnyH_take (i := 2) (v := ?_) rfl (by kernel_rfl) (by kernel_rfl) (by kernel_rfl) (fun _ _ _ h => h) (Or.inl ⟨by rfl, ?_⟩) (by assumption) ?_
      rotate_left
      · intro wS hSw
        (try dsimp only at hSw)
        go_simp
        first | done | with_reducible rfl
      try simp only [Act.put, List.getElem_toArray, List.getElem_cons_succ, List.getElem_cons_zero, List.setIfInBounds_toArray, List.set_cons_zero, List.set_cons_succ]
      refine wpAnyH_take (i := 3) (v := ?_) rfl (by kernel_rfl) (by kernel_rfl) (by kernel_rfl) (fun _ _ _ h => h) (Or.inl ⟨by rfl, ?_⟩) (by assumption) ?_
      rotate_left
      · intro wS hSw
        (try dsimp only at hSw)
        go_simp
        first | done | with_reducible rfl
      try simp only [Act.put, List.getElem_toArray, List.getElem_cons_succ, List.getElem_cons_zero, List.setIfInBounds_toArray, List.set_cons_zero, List.set_cons_succ]
      refine wpAnyH_take (i := 4) (v := ?_) rfl (by kernel_rfl) (by kernel_rfl) (by kernel_rfl) (fun _ _ _ h => h) (Or.inl ⟨by rfl, ?_⟩) (by assumption) ?_
      rotate_left
      · intro wS hSw
        (try dsimp only at hSw)
        go_simp
        first | done | with_reducible rfl
      try simp only [Act.put, List.getElem_toArray, List.getElem_cons_succ, List.getElem_cons_zero, List.setIfInBounds_toArray, List.set_cons_zero, List.set_cons_succ]
      refine wpAnyH_take (i := 5) (v := ?_) rfl (by kernel_rfl) (by kernel_rfl) (by kernel_rfl) (fun _ _ _ h => h) (Or.inl ⟨by rfl, ?_⟩) (by assumption) ?_
      rotate_left
      · intro wS hSw
        (try dsimp only at hSw)
        go_simp
        first | done | with_reducible rfl
      try simp only [Act.put, List.getElem_toArray, List.getElem_cons_succ, List.getElem_cons_zero, List.setIfInBounds_toArray, List.set_cons_zero, List.set_cons_succ]
      refine wpAnyH_ready (rs := [6]) (by kernel_rfl) (by simp) ?_
      refine AllReadyH.cons rfl (fun K hK => ?_) AllReadyH.nil
      go_simp
      refine (HK.out _).mono ?_; rintro x wx ⟨rfl, hbx⟩
      refine hK.out _ _ ?_ (fun r1 => ?_)
      · exact bel r0 hbx
      try simp only [Act.put, List.getElem_toArray, List.getElem_cons_succ, List.getElem_cons_zero, List.setIfInBounds_toArray, List.set_cons_zero, List.set_cons_succ]
      refine wpAnyH_take (i := 7) (v := ?_) rfl (by kernel_rfl) (by kernel_rfl) (by kernel_rfl) (fun _ _ _ h => h) (Or.inl ⟨by rfl, ?_⟩) (by assumption) ?_
      rotate_left
      · intro wS hSw
        (try dsimp only at hSw)
        go_simp
        first | done | with_reducible rfl
      try simp only [Act.put, List.getElem_toArray, List.getElem_cons_succ, List.getElem_cons_zero, List.setIfInBounds_toArray, List.set_cons_zero, List.set_cons_succ]
      refine wpAnyH_take (i := 8) (v := ?_) rfl (by kernel_rfl) (by kernel_rfl) (by kernel_rfl) (fun _ _ _ h => h) (Or.inl ⟨by rfl, ?_⟩) (by assumption) ?_
      rotate_left
      · intro wS hSw
        (try dsimp only at hSw)
        go_simp
        first | done | with_reducible rfl
      try simp only [Act.put, List.getElem_toArray, List.getElem_cons_succ, List.getElem_cons_zero, List.setIfInBounds_toArray, List.set_cons_zero, List.set_cons_succ]
      refine wpAnyH_take (i := 9) (v := ?_) rfl (by kernel_rfl) (by kernel_rfl) (by kernel_rfl) (fun _ _ _ h => h) (Or.inl ⟨by rfl, ?_⟩) (by assumption) ?_
      rotate_left
      · intro wS hSw
        (try dsimp only at hSw)
        go_simp
        first | done | with_reducible rfl
      try simp only [Act.put, List.getElem_toArray, List.getElem_cons_succ, List.getElem_cons_zero, List.setIfInBounds_toArray, List.set_cons_zero, List.set_cons_succ]
      refine wpAnyH_take (i := 10) (v := ?_) rfl (by kernel_rfl) (by kernel_rfl) (by kernel_rfl) (fun _ _ _ h => h) (Or.inl ⟨by rfl, ?_⟩) (by assumption) ?_
      rotate_left
      · intro wS hSw
        (try dsimp only at hSw)
        go_simp
        first | done | with_reducible rfl
      try simp only [Act.put, List.getElem_toArray, List.getElem_cons_succ, List.getElem_cons_zero, List.setIfInBounds_toArray, List.set_cons_zero, List.set_cons_succ]
      refine wpAnyH_done (by kernel_rfl) ?_ _
      go_wp2_with fail
      go_ret2
      exact ⟨rfl, hB1.trans (r1.mono hB1.size)⟩
    · have hi : inB k (nB a b) = false := by unfold inB; rw [decide_eq_false h1, Bool.and_false]
      have d1 : decide (nB a b ≤ k) = true := decide_eq_true (by omega)
      rw [hi]
      rw [if_neg (by simp)]
      clear hi
      generalize nB a b = n at *
      go_enter Try.func21, Try.ntmps21
      go_upto_region 1 with fail
      change Code.wp _ _ _ _ (w.alloc (poolO a b o 32))
      rw [← HW.out]
      obtain ⟨c0, c1, c2, c3⟩ := id hc
      go_wp2_with fail
      refine (HB.out _).mono ?_; rintro e w1 ⟨rfl, hb1⟩
      go_wp2_with fail
      go_ret2
      exact ⟨rfl, hb0.trans (hb1.mono hb0.size)⟩
  · have d0 : decide (k < 0) = true := decide_eq_true (by omega)
    have hi : inB k (nB a b) = false := by unfold inB; rw [decide_eq_false h0]; rfl
    rw [hi]
    rw [if_neg (by simp)]
    clear hi
    go_enter Try.func21, Try.ntmps21
    go_upto_region 1 with fail
    change Code.wp _ _ _ _ (w.alloc (poolO a b o 32))
    rw [← HW.out]
    obtain ⟨c0, c1, c2, c3⟩ := id hc
    go_wp2_with fail
    refine (HB.out _).mono ?_; rintro e w1 ⟨rfl, hb1⟩
    go_wp2_with fail
    go_ret2
    exact ⟨rfl, hb0.trans (hb1.mono hb0.size)⟩
end Go.Proofs.Ytcfmknocpjjklaa
