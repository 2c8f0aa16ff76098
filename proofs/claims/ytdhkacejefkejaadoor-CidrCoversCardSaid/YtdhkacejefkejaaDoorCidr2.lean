/- Nets, on: Has, Size, Place, Covers, Last (a contract each). -/
import Derived.Test.YtdhkacejefkejaaDoorCidr
import Derived.Test.YtdhkacejefkejaaDoorIpAddW
namespace Go.Proofs.YtdhkacejefkejaaDoor
open Go.RowKit
theorem has_mask {a b x : Int} (hm : mayB a b = true) (hx : 0 ≤ x) (hx' : x < 4294967296) : (bits .and .u32 x (maskI b) == a) = hasB a b x := by
  obtain ⟨b0, b1⟩ := may_bits hm
  have h0 := may_mod hm
  have hp := hole_pos b
  rw [and_mask x b hx hx' b0 b1]
  unfold hasB
  rw [hm, Bool.true_and, Bool.eq_iff_iff, beq_iff_eq, Bool.and_eq_true, decide_eq_true_eq, decide_eq_true_eq]
  have h1 := Int.emod_nonneg x (Int.ne_of_gt hp)
  have h2 := Int.emod_lt_of_pos x hp
  constructor
  · intro e; omega
  · rintro ⟨e1, e2⟩
    have e := Int.mul_ediv_add_emod a (hole b)
    have h3 : x % hole b = x - a := by
      have h4 : x = (x - a) + hole b * (a / hole b) := by omega
      have h5 := Int.add_mul_emod_self_left (x - a) (hole b) (a / hole b)
      rw [← h4] at h5
      rw [h5, Int.emod_eq_of_lt (by omega) e2]
    omega
set_option maxHeartbeats 8000000 in
theorem has_any (a b x : Int) (ha : 0 ≤ a) (ha' : a < 4294967296) (hx : 0 ≤ x) (hx' : x < 4294967296) (w : World) :
    Calls Tryd.prog 39 #[.agg #[.int .u32 a, .int .i64 b], .int .u32 x] w fun e w' => e = .returned (.bool (hasB a b x)) ∧ Below w.heap.size w w' := by
  have hC0 := Cell2.new w a b 46
  by_cases hm : mayB a b = true
  · have HY : Hid (∀ w, Calls Tryd.prog 30 #[.agg #[.int .u32 a, .int .i64 b]] w fun e w' => e = .returned (.bool true) ∧ Below w.heap.size w w') := Lib.hid (fun w => by rw [← hm]; exact may_any _ _ ha ha' w)
    have HV := Lib.hid (has_mask hm hx hx')
    clear hm
    go_enter Tryd.func39, Tryd.ntmps39
    go_wp2_with fail
    have hS : (w.alloc (.cells #[.int .u32 a, .int .i64 b] 46)).cell? ⟨w.heap.size, 0, none⟩ = some (.int .u32 a) ∧ (w.alloc (.cells #[.int .u32 a, .int .i64 b] 46)).cell? ⟨w.heap.size, 1, none⟩ = some (.int .i64 b) ∧ w.heap.size < (w.alloc (.cells #[.int .u32 a, .int .i64 b] 46)).heap.size ∧ Below w.heap.size w (w.alloc (.cells #[.int .u32 a, .int .i64 b] 46)) := ⟨hC0.1, hC0.2.1, hC0.2.2, belNew w _⟩
    generalize (w.alloc (.cells #[.int .u32 a, .int .i64 b] 46)) = W0 at hS ⊢
    clear hC0
    refine wp_region_held_drew (S := (fun W => W.cell? ⟨w.heap.size, 0, none⟩ = some (.int .u32 a) ∧ W.cell? ⟨w.heap.size, 1, none⟩ = some (.int .i64 b) ∧ w.heap.size < W.heap.size ∧ Below w.heap.size w W)) (by kernel_rfl) ?_ (fun hHeld0 => ?_)
    · exact sD hS
    refine wpAnyH_take (i := 0) (v := ?_) rfl (by kernel_rfl) (by kernel_rfl) (by kernel_rfl) (fun _ _ _ h => h) (Or.inl ⟨by rfl, ?_⟩) (by assumption) ?_
    rotate_left
    · intro w hSw
      (try dsimp only at hSw)
      go_simp
      first | done | with_reducible rfl
    try simp only [Act.put, List.getElem_toArray, List.getElem_cons_succ, List.getElem_cons_zero, List.setIfInBounds_toArray, List.set_cons_zero, List.set_cons_succ]
    refine wpAnyH_ready (rs := [1]) (by kernel_rfl) (by simp) ?_
    refine AllReadyH.cons rfl (fun K hK => ?_) AllReadyH.nil
    go_simp
    refine (HY.out _).mono ?_; rintro e w2 ⟨rfl, hb2⟩
    refine hK.out _ _ ?_ (fun hHeld1 => ?_)
    · (first | (refine sD ?_; assumption) | (apply sK; rotate_left; assumption; first | assumption | (refine sD ?_; assumption)))
    try simp only [Act.put, List.getElem_toArray, List.getElem_cons_succ, List.getElem_cons_zero, List.setIfInBounds_toArray, List.set_cons_zero, List.set_cons_succ]
    refine wpAnyH_take (i := 2) (v := ?_) rfl (by kernel_rfl) (by kernel_rfl) (by kernel_rfl) (fun _ _ _ h => h) (Or.inl ⟨by rfl, ?_⟩) (by assumption) ?_
    rotate_left
    · intro w hSw
      (try dsimp only at hSw)
      go_simp
      first | done | with_reducible rfl
    try simp only [Act.put, List.getElem_toArray, List.getElem_cons_succ, List.getElem_cons_zero, List.setIfInBounds_toArray, List.set_cons_zero, List.set_cons_succ]
    refine wpAnyH_take (i := 3) (v := ?_) rfl (by kernel_rfl) (by kernel_rfl) (by kernel_rfl) (fun _ _ _ h => h) (Or.inl ⟨by rfl, ?_⟩) (by assumption) ?_
    rotate_left
    · intro w hSw
      (try dsimp only at hSw)
      go_simp
      first | done | with_reducible rfl
    try simp only [Act.put, List.getElem_toArray, List.getElem_cons_succ, List.getElem_cons_zero, List.setIfInBounds_toArray, List.set_cons_zero, List.set_cons_succ]
    refine wpAnyH_take (i := 4) (v := ?_) rfl (by kernel_rfl) (by kernel_rfl) (by kernel_rfl) (fun _ _ _ h => h) (Or.inl ⟨by rfl, ?_⟩) (by assumption) ?_
    rotate_left
    · intro w hSw
      (try dsimp only at hSw)
      go_simp
      first | done | with_reducible rfl
    try simp only [Act.put, List.getElem_toArray, List.getElem_cons_succ, List.getElem_cons_zero, List.setIfInBounds_toArray, List.set_cons_zero, List.set_cons_succ]
    refine wpAnyH_take (i := 5) (v := ?_) rfl (by kernel_rfl) (by kernel_rfl) (by kernel_rfl) (fun _ _ _ h => h) (Or.inl ⟨by rfl, ?_⟩) (by assumption) ?_
    rotate_left
    · intro w hSw
      (try dsimp only at hSw)
      go_simp
      first | done | with_reducible rfl
    try simp only [Act.put, List.getElem_toArray, List.getElem_cons_succ, List.getElem_cons_zero, List.setIfInBounds_toArray, List.set_cons_zero, List.set_cons_succ]
    refine wpAnyH_take (i := 8) (v := ?_) rfl (by kernel_rfl) (by kernel_rfl) (by kernel_rfl) (fun _ _ _ h => h) (Or.inl ⟨by rfl, ?_⟩) (by assumption) ?_
    rotate_left
    · intro w hSw
      (try dsimp only at hSw)
      go_simp
      first | done | with_reducible rfl
    try simp only [Act.put, List.getElem_toArray, List.getElem_cons_succ, List.getElem_cons_zero, List.setIfInBounds_toArray, List.set_cons_zero, List.set_cons_succ]
    refine wpAnyH_take (i := 9) (v := ?_) rfl (by kernel_rfl) (by kernel_rfl) (by kernel_rfl) (fun _ _ _ h => h) (Or.inl ⟨by rfl, ?_⟩) (by assumption) ?_
    rotate_left
    · intro w hSw
      (try dsimp only at hSw)
      go_simp
      first | done | with_reducible rfl
    try simp only [Act.put, List.getElem_toArray, List.getElem_cons_succ, List.getElem_cons_zero, List.setIfInBounds_toArray, List.set_cons_zero, List.set_cons_succ]
    refine wpAnyH_ready (rs := [6]) (by kernel_rfl) (by simp) ?_
    refine AllReadyH.cons rfl (fun K hK => ?_) AllReadyH.nil
    go_simp
    refine (mask_any b _).mono ?_; rintro e w3 ⟨rfl, rfl⟩
    refine hK.out _ _ ?_ (fun hHeld2 => ?_)
    · (first | assumption | (refine sD ?_; assumption))
    try simp only [Act.put, List.getElem_toArray, List.getElem_cons_succ, List.getElem_cons_zero, List.setIfInBounds_toArray, List.set_cons_zero, List.set_cons_succ]
    refine wpAnyH_take (i := 7) (v := ?_) rfl (by kernel_rfl) (by kernel_rfl) (by kernel_rfl) (fun _ _ _ h => h) (Or.inl ⟨by rfl, ?_⟩) (by assumption) ?_
    rotate_left
    · intro w hSw
      (try dsimp only at hSw)
      go_simp
      first | done | with_reducible rfl
    try simp only [Act.put, List.getElem_toArray, List.getElem_cons_succ, List.getElem_cons_zero, List.setIfInBounds_toArray, List.set_cons_zero, List.set_cons_succ]
    refine wpAnyH_take (i := 10) (v := ?_) rfl (by kernel_rfl) (by kernel_rfl) (by kernel_rfl) (fun _ _ _ h => h) (Or.inl ⟨by rfl, ?_⟩) (by assumption) ?_
    rotate_left
    · intro w hSw
      (try dsimp only at hSw)
      go_simp
      first | done | with_reducible rfl
    try simp only [Act.put, List.getElem_toArray, List.getElem_cons_succ, List.getElem_cons_zero, List.setIfInBounds_toArray, List.set_cons_zero, List.set_cons_succ]
    refine wpAnyH_take (i := 11) (v := ?_) rfl (by kernel_rfl) (by kernel_rfl) (by kernel_rfl) (fun _ _ _ h => h) (Or.inl ⟨by rfl, ?_⟩) (by assumption) ?_
    rotate_left
    · intro w hSw
      (try dsimp only at hSw)
      go_simp
      first | done | with_reducible rfl
    try simp only [Act.put, List.getElem_toArray, List.getElem_cons_succ, List.getElem_cons_zero, List.setIfInBounds_toArray, List.set_cons_zero, List.set_cons_succ]
    refine wpAnyH_take (i := 12) (v := ?_) rfl (by kernel_rfl) (by kernel_rfl) (by kernel_rfl) (fun _ _ _ h => h) (Or.inl ⟨by rfl, ?_⟩) (by assumption) ?_
    rotate_left
    · intro w hSw
      (try dsimp only at hSw)
      go_simp
      first | done | with_reducible rfl
    try simp only [Act.put, List.getElem_toArray, List.getElem_cons_succ, List.getElem_cons_zero, List.setIfInBounds_toArray, List.set_cons_zero, List.set_cons_succ]
    refine wpAnyH_done (by kernel_rfl) ?_ _
    go_wp2
    go_ret
    exact ⟨congrArg (fun n => Ending.returned (.bool n)) HV.out, hHeld2.2.2.2⟩
  · have hmf : mayB a b = false := by simpa using hm
    have HY : Hid (∀ w, Calls Tryd.prog 30 #[.agg #[.int .u32 a, .int .i64 b]] w fun e w' => e = .returned (.bool false) ∧ Below w.heap.size w w') := Lib.hid (fun w => by rw [← hmf]; exact may_any _ _ ha ha' w)
    have HV : Hid (false = hasB a b x) := Lib.hid (by unfold hasB; rw [hmf]; rfl)
    clear hm hmf
    go_enter Tryd.func39, Tryd.ntmps39
    go_wp2_with fail
    have hS : (w.alloc (.cells #[.int .u32 a, .int .i64 b] 46)).cell? ⟨w.heap.size, 0, none⟩ = some (.int .u32 a) ∧ (w.alloc (.cells #[.int .u32 a, .int .i64 b] 46)).cell? ⟨w.heap.size, 1, none⟩ = some (.int .i64 b) ∧ w.heap.size < (w.alloc (.cells #[.int .u32 a, .int .i64 b] 46)).heap.size ∧ Below w.heap.size w (w.alloc (.cells #[.int .u32 a, .int .i64 b] 46)) := ⟨hC0.1, hC0.2.1, hC0.2.2, belNew w _⟩
    generalize (w.alloc (.cells #[.int .u32 a, .int .i64 b] 46)) = W0 at hS ⊢
    clear hC0
    refine wp_region_held_drew (S := (fun W => W.cell? ⟨w.heap.size, 0, none⟩ = some (.int .u32 a) ∧ W.cell? ⟨w.heap.size, 1, none⟩ = some (.int .i64 b) ∧ w.heap.size < W.heap.size ∧ Below w.heap.size w W)) (by kernel_rfl) ?_ (fun hHeld0 => ?_)
    · exact sD hS
    refine wpAnyH_take (i := 0) (v := ?_) rfl (by kernel_rfl) (by kernel_rfl) (by kernel_rfl) (fun _ _ _ h => h) (Or.inl ⟨by rfl, ?_⟩) (by assumption) ?_
    rotate_left
    · intro w hSw
      (try dsimp only at hSw)
      go_simp
      first | done | with_reducible rfl
    try simp only [Act.put, List.getElem_toArray, List.getElem_cons_succ, List.getElem_cons_zero, List.setIfInBounds_toArray, List.set_cons_zero, List.set_cons_succ]
    refine wpAnyH_ready (rs := [1]) (by kernel_rfl) (by simp) ?_
    refine AllReadyH.cons rfl (fun K hK => ?_) AllReadyH.nil
    go_simp
    refine (HY.out _).mono ?_; rintro e w2 ⟨rfl, hb2⟩
    refine hK.out _ _ ?_ (fun hHeld1 => ?_)
    · (first | (refine sD ?_; assumption) | (apply sK; rotate_left; assumption; first | assumption | (refine sD ?_; assumption)))
    try simp only [Act.put, List.getElem_toArray, List.getElem_cons_succ, List.getElem_cons_zero, List.setIfInBounds_toArray, List.set_cons_zero, List.set_cons_succ]
    refine wpAnyH_take (i := 2) (v := ?_) rfl (by kernel_rfl) (by kernel_rfl) (by kernel_rfl) (fun _ _ _ h => h) (Or.inl ⟨by rfl, ?_⟩) (by assumption) ?_
    rotate_left
    · intro w hSw
      (try dsimp only at hSw)
      go_simp
      first | done | with_reducible rfl
    try simp only [Act.put, List.getElem_toArray, List.getElem_cons_succ, List.getElem_cons_zero, List.setIfInBounds_toArray, List.set_cons_zero, List.set_cons_succ]
    refine wpAnyH_take (i := 3) (v := undef) rfl (by kernel_rfl) (by kernel_rfl) (by kernel_rfl) (fun _ _ _ h => h) (Or.inr ⟨by rfl, rfl⟩) (by assumption) ?_
    try simp only [Act.put, List.getElem_toArray, List.getElem_cons_succ, List.getElem_cons_zero, List.setIfInBounds_toArray, List.set_cons_zero, List.set_cons_succ]
    refine wpAnyH_take (i := 4) (v := undef) rfl (by kernel_rfl) (by kernel_rfl) (by kernel_rfl) (fun _ _ _ h => h) (Or.inr ⟨by rfl, rfl⟩) (by assumption) ?_
    try simp only [Act.put, List.getElem_toArray, List.getElem_cons_succ, List.getElem_cons_zero, List.setIfInBounds_toArray, List.set_cons_zero, List.set_cons_succ]
    refine wpAnyH_take (i := 5) (v := undef) rfl (by kernel_rfl) (by kernel_rfl) (by kernel_rfl) (fun _ _ _ h => h) (Or.inr ⟨by rfl, rfl⟩) (by assumption) ?_
    try simp only [Act.put, List.getElem_toArray, List.getElem_cons_succ, List.getElem_cons_zero, List.setIfInBounds_toArray, List.set_cons_zero, List.set_cons_succ]
    refine wpAnyH_take (i := 6) (v := undef) rfl (by kernel_rfl) (by kernel_rfl) (by kernel_rfl) (fun _ _ _ h => h) (Or.inr ⟨by rfl, rfl⟩) (by assumption) ?_
    try simp only [Act.put, List.getElem_toArray, List.getElem_cons_succ, List.getElem_cons_zero, List.setIfInBounds_toArray, List.set_cons_zero, List.set_cons_succ]
    refine wpAnyH_take (i := 7) (v := undef) rfl (by kernel_rfl) (by kernel_rfl) (by kernel_rfl) (fun _ _ _ h => h) (Or.inr ⟨by rfl, rfl⟩) (by assumption) ?_
    try simp only [Act.put, List.getElem_toArray, List.getElem_cons_succ, List.getElem_cons_zero, List.setIfInBounds_toArray, List.set_cons_zero, List.set_cons_succ]
    refine wpAnyH_take (i := 8) (v := undef) rfl (by kernel_rfl) (by kernel_rfl) (by kernel_rfl) (fun _ _ _ h => h) (Or.inr ⟨by rfl, rfl⟩) (by assumption) ?_
    try simp only [Act.put, List.getElem_toArray, List.getElem_cons_succ, List.getElem_cons_zero, List.setIfInBounds_toArray, List.set_cons_zero, List.set_cons_succ]
    refine wpAnyH_take (i := 9) (v := undef) rfl (by kernel_rfl) (by kernel_rfl) (by kernel_rfl) (fun _ _ _ h => h) (Or.inr ⟨by rfl, rfl⟩) (by assumption) ?_
    try simp only [Act.put, List.getElem_toArray, List.getElem_cons_succ, List.getElem_cons_zero, List.setIfInBounds_toArray, List.set_cons_zero, List.set_cons_succ]
    refine wpAnyH_take (i := 10) (v := undef) rfl (by kernel_rfl) (by kernel_rfl) (by kernel_rfl) (fun _ _ _ h => h) (Or.inr ⟨by rfl, rfl⟩) (by assumption) ?_
    try simp only [Act.put, List.getElem_toArray, List.getElem_cons_succ, List.getElem_cons_zero, List.setIfInBounds_toArray, List.set_cons_zero, List.set_cons_succ]
    refine wpAnyH_take (i := 11) (v := ?_) rfl (by kernel_rfl) (by kernel_rfl) (by kernel_rfl) (fun _ _ _ h => h) (Or.inl ⟨by rfl, ?_⟩) (by assumption) ?_
    rotate_left
    · intro w hSw
      (try dsimp only at hSw)
      go_simp
      first | done | with_reducible rfl
    try simp only [Act.put, List.getElem_toArray, List.getElem_cons_succ, List.getElem_cons_zero, List.setIfInBounds_toArray, List.set_cons_zero, List.set_cons_succ]
    refine wpAnyH_take (i := 12) (v := ?_) rfl (by kernel_rfl) (by kernel_rfl) (by kernel_rfl) (fun _ _ _ h => h) (Or.inl ⟨by rfl, ?_⟩) (by assumption) ?_
    rotate_left
    · intro w hSw
      (try dsimp only at hSw)
      go_simp
      first | done | with_reducible rfl
    try simp only [Act.put, List.getElem_toArray, List.getElem_cons_succ, List.getElem_cons_zero, List.setIfInBounds_toArray, List.set_cons_zero, List.set_cons_succ]
    refine wpAnyH_done (by kernel_rfl) ?_ _
    go_wp2
    go_ret
    exact ⟨congrArg (fun n => Ending.returned (.bool n)) HV.out, hHeld1.2.2.2⟩
set_option maxHeartbeats 4000000 in
theorem size_any (a b : Int) (ha : 0 ≤ a) (ha' : a < 4294967296) (w : World) :
    Calls Tryd.prog 37 #[.agg #[.int .u32 a, .int .i64 b]] w fun e w' => e = .returned (.int .i64 (sizeI a b)) ∧ Below w.heap.size w w' := by
  have HV : Hid (countI a b 32 = sizeI a b) := Lib.hid (by
    unfold countI sizeI
    by_cases hm : mayB a b = true
    · have := may_bits hm
      rw [if_pos hm, if_pos ⟨hm, rfl, this.2⟩]; rfl
    · rw [if_neg hm, if_neg (fun h => hm h.1)])
  have HC := Lib.hid (count_any a b 32 ha ha')
  go_enter Tryd.func37, Tryd.ntmps37
  go_wp2_with fail
  refine (HC.out _).mono ?_; rintro e w1 ⟨rfl, hb1⟩
  go_wp2_with fail
  go_ret
  exact ⟨congrArg (fun n => Ending.returned (.int .i64 n)) HV.out, bel (belNew _ _) hb1⟩
open Go.RowKit
set_option maxHeartbeats 4000000 in
theorem place_yes (a b x : Int) (ha : 0 ≤ a) (ha' : a < 4294967296) (hx : 0 ≤ x) (hx' : x < 4294967296) (h : hasB a b x = true) (w : World) :
    Calls Tryd.prog 36 #[.agg #[.int .u32 a, .int .i64 b], .int .u32 x] w fun e w' => e = .returned (.tuple #[.int .i64 (x - a), .bool true]) ∧ Below w.heap.size w w' := by
  have HH : Hid (∀ w, Calls Tryd.prog 39 #[.agg #[.int .u32 a, .int .i64 b], .int .u32 x] w fun e w' => e = .returned (.bool true) ∧ Below w.heap.size w w') := Lib.hid (fun w => by rw [← h]; exact has_any _ _ _ ha ha' hx hx' w)
  have hC := Cell2.new w a b 46
  clear h
  go_enter Tryd.func36, Tryd.ntmps36
  go_wp2_with fail
  refine (HH.out _).mono ?_; rintro e w1 ⟨rfl, hb1⟩
  obtain ⟨k0, k1, k2⟩ := hC.keep hb1
  have hB := bel (belNew _ _) hb1
  go_wp2_with fail
  refine (between_any a x ha ha' hx hx' _).mono ?_; rintro e w' ⟨rfl, rfl⟩
  go_wp2_with fail
  go_ret2
  exact ⟨rfl, hB⟩
set_option maxHeartbeats 4000000 in
theorem place_no (a b x : Int) (ha : 0 ≤ a) (ha' : a < 4294967296) (hx : 0 ≤ x) (hx' : x < 4294967296) (h : hasB a b x = false) (w : World) :
    Calls Tryd.prog 36 #[.agg #[.int .u32 a, .int .i64 b], .int .u32 x] w fun e w' => e = .returned (.tuple #[.int .i64 0, .bool false]) ∧ Below w.heap.size w w' := by
  have HH : Hid (∀ w, Calls Tryd.prog 39 #[.agg #[.int .u32 a, .int .i64 b], .int .u32 x] w fun e w' => e = .returned (.bool false) ∧ Below w.heap.size w w') := Lib.hid (fun w => by rw [← h]; exact has_any _ _ _ ha ha' hx hx' w)
  clear h
  go_enter Tryd.func36, Tryd.ntmps36
  go_wp2_with fail
  refine (HH.out _).mono ?_; rintro e w1 ⟨rfl, hb1⟩
  have hB := bel (belNew _ _) hb1
  go_wp2_with fail
  go_ret2
  exact ⟨rfl, hB⟩
/-- Does (a, b) cover (c, d)? -/
def covB (a b c d : Int) : Bool := mayB c d && (decide (b ≤ d) && hasB a b c)
set_option maxHeartbeats 4000000 in
theorem covers_any (a b c d : Int) (ha : 0 ≤ a) (ha' : a < 4294967296) (hc : 0 ≤ c) (hc' : c < 4294967296) (w : World) :
    Calls Tryd.prog 44 #[.agg #[.int .u32 a, .int .i64 b], .agg #[.int .u32 c, .int .i64 d]] w fun e w' => e = .returned (.bool (covB a b c d)) ∧ Below w.heap.size w w' := by
  have hC := (Cell2.new w a b 46).alloc (.cells #[.int .u32 c, .int .i64 d] 46)
  have hD := Cell2.new (w.alloc (.cells #[.int .u32 a, .int .i64 b] 46)) c d 46
  have hB0 := belAlloc (belNew w (.cells #[.int .u32 a, .int .i64 b] 46)) (.cells #[.int .u32 c, .int .i64 d] 46)
  by_cases hm : mayB c d = true
  · have HY : Hid (∀ w, Calls Tryd.prog 30 #[.agg #[.int .u32 c, .int .i64 d]] w fun e w' => e = .returned (.bool true) ∧ Below w.heap.size w w') := Lib.hid (fun w => by rw [← hm]; exact may_any _ _ hc hc' w)
    have HH := Lib.hid (has_any a b c ha ha' hc hc')
    by_cases hle : b ≤ d
    · have d0 : decide (b ≤ d) = true := by simpa using hle
      have HV : Hid (hasB a b c = covB a b c d) := Lib.hid (by unfold covB; rw [hm, d0]; rfl)
      clear hm
      go_enter Tryd.func44, Tryd.ntmps44
      go_wp2_with fail
      refine (HY.out _).mono ?_; rintro e w1 ⟨rfl, hb1⟩
      obtain ⟨k0, k1, k2⟩ := hC.keep hb1
      obtain ⟨j0, j1, j2⟩ := hD.keep hb1
      simp only [World.size_alloc] at j0 j1 j2
      have hB := bel hB0 hb1
      go_wp2_with fail
      refine (HH.out _).mono ?_; rintro e w2 ⟨rfl, hb2⟩
      go_wp2_with fail
      go_ret
      exact ⟨congrArg (fun n => Ending.returned (.bool n)) HV.out, bel hB hb2⟩
    · have d0 : decide (b ≤ d) = false := by simpa using hle
      have HV : Hid (false = covB a b c d) := Lib.hid (by unfold covB; rw [hm, d0]; rfl)
      clear hm
      go_enter Tryd.func44, Tryd.ntmps44
      go_wp2_with fail
      refine (HY.out _).mono ?_; rintro e w1 ⟨rfl, hb1⟩
      obtain ⟨k0, k1, k2⟩ := hC.keep hb1
      obtain ⟨j0, j1, j2⟩ := hD.keep hb1
      simp only [World.size_alloc] at j0 j1 j2
      have hB := bel hB0 hb1
      go_wp2_with fail
      go_ret
      exact ⟨congrArg (fun n => Ending.returned (.bool n)) HV.out, hB⟩
  · have hmf : mayB c d = false := by simpa using hm
    have HY : Hid (∀ w, Calls Tryd.prog 30 #[.agg #[.int .u32 c, .int .i64 d]] w fun e w' => e = .returned (.bool false) ∧ Below w.heap.size w w') := Lib.hid (fun w => by rw [← hmf]; exact may_any _ _ hc hc' w)
    have HV : Hid (false = covB a b c d) := Lib.hid (by unfold covB; rw [hmf]; rfl)
    clear hm hmf
    go_enter Tryd.func44, Tryd.ntmps44
    go_wp2_with fail
    refine (HY.out _).mono ?_; rintro e w1 ⟨rfl, hb1⟩
    have hB := bel hB0 hb1
    go_wp2_with fail
    go_ret
    exact ⟨congrArg (fun n => Ending.returned (.bool n)) HV.out, hB⟩
theorem not32 (x : Nat) (hx : x < 2 ^ 32) : (2 ^ 32 - 1) ^^^ x = 2 ^ 32 - (x + 1) := by
  apply Nat.eq_of_testBit_eq
  intro i
  rw [Nat.testBit_xor, Nat.testBit_two_pow_sub_one, Nat.testBit_two_pow_sub_succ hx]
  by_cases h : i < 32
  · simp [h]
  · have : x.testBit i = false := Nat.testBit_lt_two_pow (Nat.lt_of_lt_of_le hx (Nat.pow_le_pow_right (by omega) (by omega)))
    simp [h, this]
theorem not_mask (b : Int) (h0 : 0 ≤ b) (h1 : b ≤ 32) : bits .xor .u32 IntKind.u32.max (maskI b) = hole b - 1 := by
  obtain ⟨m0, m1⟩ := maskI_bd b
  have hp := hole_pos b
  have hl := hole_le b h0
  have hmax : IntKind.u32.max = 4294967295 := by kernel_rfl
  rw [hmax, u32_xor _ _ (by omega) (by omega) m0 m1]
  have e := not32 (maskI b).toNat (by omega)
  have e2 : (4294967295 : Int).toNat = 2 ^ 32 - 1 := rfl
  rw [e2, e]
  unfold maskI
  rw [clampB_in h0 h1]
  omega
theorem or_last {a b : Int} (ha : 0 ≤ a) (ha' : a < 4294967296) (hm : mayB a b = true) : bits .or .u32 a (hole b - 1) = a + hole b - 1 := by
  obtain ⟨b0, b1⟩ := may_bits hm
  have h0 := may_mod hm
  have hp := hole_pos b
  have hl := hole_le b b0
  rw [u32_or a _ ha ha' (by omega) (by omega)]
  have hh : (hole b - 1).toNat < 2 ^ (32 - b).toNat := by have := hole_nat b; omega
  have hz : a.toNat % 2 ^ (32 - b).toNat = 0 := by
    obtain ⟨n, rfl⟩ := Int.eq_ofNat_of_zero_le ha
    rw [hole_nat] at h0
    rw [Int.toNat_natCast]
    exact_mod_cast h0
  rw [nat_join _ _ _ hz hh]
  omega
def lastI (a b : Int) : Int := if mayB a b = true then a + hole b - 1 else 0
set_option maxHeartbeats 4000000 in
theorem last_any (a b : Int) (ha : 0 ≤ a) (ha' : a < 4294967296) (w : World) :
    Calls Tryd.prog 41 #[.agg #[.int .u32 a, .int .i64 b]] w fun e w' => e = .returned (.int .u32 (lastI a b)) ∧ Below w.heap.size w w' := by
  have hC := Cell2.new w a b 46
  by_cases hm : mayB a b = true
  · have HY : Hid (∀ w, Calls Tryd.prog 30 #[.agg #[.int .u32 a, .int .i64 b]] w fun e w' => e = .returned (.bool true) ∧ Below w.heap.size w w') := Lib.hid (fun w => by rw [← hm]; exact may_any _ _ ha ha' w)
    obtain ⟨m0, m1⟩ := maskI_bd b
    obtain ⟨b0, b1⟩ := may_bits hm
    have HV : Hid (bits .or .u32 a (bits .xor .u32 IntKind.u32.max (maskI b)) = lastI a b) := Lib.hid (by rw [not_mask b b0 b1, or_last ha ha' hm]; unfold lastI; rw [if_pos hm])
    clear hm
    go_enter Tryd.func41, Tryd.ntmps41
    go_wp2_with fail
    refine (HY.out _).mono ?_; rintro e w1 ⟨rfl, hb1⟩
    obtain ⟨k0, k1, k2⟩ := hC.keep hb1
    have hB := bel (belNew _ _) hb1
    go_wp2_with fail
    go_quiet ((go_at_call 42; exact quietN (mask_any b _)))
    go_wp2
    go_ret
    exact ⟨congrArg (fun n => Ending.returned (.int .u32 n)) HV.out, below_drewN hB _⟩
  · have hmf : mayB a b = false := by simpa using hm
    have HY : Hid (∀ w, Calls Tryd.prog 30 #[.agg #[.int .u32 a, .int .i64 b]] w fun e w' => e = .returned (.bool false) ∧ Below w.heap.size w w') := Lib.hid (fun w => by rw [← hmf]; exact may_any _ _ ha ha' w)
    have HV : Hid (0 = lastI a b) := Lib.hid (by unfold lastI; rw [if_neg hm])
    clear hm hmf
    go_enter Tryd.func41, Tryd.ntmps41
    go_wp2_with fail
    refine (HY.out _).mono ?_; rintro e w1 ⟨rfl, hb1⟩
    have hB := bel (belNew _ _) hb1
    go_wp2_with fail
    go_ret
    exact ⟨congrArg (fun n => Ending.returned (.int .u32 n)) HV.out, hB⟩
end Go.Proofs.YtdhkacejefkejaaDoor
