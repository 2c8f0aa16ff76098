/- The reference's reader, alone in its block, and what its calls come to. -/
import Derived.Test.YtiifbhiodegipaaGreatDoorSq
import Derived.Test.YtiifbhiodegipaaGreatDoorJPk
namespace Go.Proofs.YtiifbhiodegipaaGreatDoor
open Go.RowKit
/-- The reference's reader in block g: its bytes xs lie below block B; at: how many are read; when it is bad nothing is asked of where it stands. -/
def RdR (g B : Nat) (xs : List Int) (st : Option (List Int)) (w : World) : Prop :=
  ∃ (v : Value) (i : Nat), w.heap[g]? = some (.cells #[v, .int .i64 i, .bool st.isNone] 156 (0, 0)) ∧ Sees w v xs ∧ (xs = [] ∨ ∀ d, v.ownBlock = some d → d < B) ∧ okB xs ∧ xs.length ≤ 1000 ∧ B ≤ g ∧ i ≤ xs.length ∧ ∀ l, st = some l → l = xs.drop i
theorem sees_or {w w' : World} {v : Value} {xs : List Int} {B : Nat} (h : Sees w v xs) (hd : xs = [] ∨ ∀ d, v.ownBlock = some d → d < B) (hb : ∀ d, d < B → d < w.heap.size → w'.heap[d]? = w.heap[d]?) : Sees w' v xs := by
  rcases hd with rfl | hd
  · obtain ⟨ao, c, he, hl, _, _⟩ := h
    exact ⟨ao, c, he, hl, fun _ => rfl, fun a _ i hi => by cases hi⟩
  · exact sees_heap h fun d hd' hlt => hb d (hd d hd') hlt
theorem RdR.grown {g B h : Nat} {xs : List Int} {st : Option (List Int)} {w w' : World} (hr : RdR g B xs st w) (hg : w.grownBy w' (some h)) (h1 : h ≠ g) (h2 : B ≤ h) : RdR g B xs st w' := by
  obtain ⟨v, i, hb, hs, hd, ho, hl, hB, hi, hst⟩ := hr
  refine ⟨v, i, ?_, sees_or hs hd (fun d hdB hlt => hg.block d hlt (fun e => by cases e; omega)), hd, ho, hl, hB, hi, hst⟩
  rw [hg.block g (heap_lt hb) (fun e => h1 (Option.some.inj e).symm)]; exact hb
theorem RdR.below {g B : Nat} {xs : List Int} {st : Option (List Int)} {w w' : World} (hr : RdR g B xs st w) (hb : Below w.heap.size w w') : RdR g B xs st w' := by
  obtain ⟨v, i, h, hs, hd, ho, hl, hB, hi, hst⟩ := hr
  exact ⟨v, i, (hb.block g (heap_lt h)).trans h, hs.keep hb, hd, ho, hl, hB, hi, hst⟩
theorem cell3 {w : World} {g : Nat} {x y z : Value} {t : TypeId} (h : w.heap[g]? = some (.cells #[x, y, z] t (0, 0))) : w.cell? ⟨g, 0, none⟩ = some x ∧ w.cell? ⟨g, 1, none⟩ = some y ∧ w.cell? ⟨g, 2, none⟩ = some z := by simp [World.cell?, h]
theorem froz3 {w : World} {g : Nat} {x y z : Value} {t : TypeId} (h : w.heap[g]? = some (.cells #[x, y, z] t (0, 0))) (i : Nat) : w.frozen? ⟨g, i, none⟩ = false := by simp [World.frozen?, h]
theorem set3_1 {w : World} {g : Nat} {x y z : Value} {t : TypeId} (h : w.heap[g]? = some (.cells #[x, y, z] t (0, 0))) (a : Value) : (w.setCell ⟨g, 1, none⟩ a).heap[g]? = some (.cells #[x, a, z] t (0, 0)) := by simp [World.setCell, Array.getElem?_modify, h]
theorem set3_2 {w : World} {g : Nat} {x y z : Value} {t : TypeId} (h : w.heap[g]? = some (.cells #[x, y, z] t (0, 0))) (a : Value) : (w.setCell ⟨g, 2, none⟩ a).heap[g]? = some (.cells #[x, y, a] t (0, 0)) := by simp [World.setCell, Array.getElem?_modify, h]
theorem RdR.bad {g B : Nat} {xs : List Int} {st : Option (List Int)} {w : World} (h : RdR g B xs st w) : RdR g B xs none (w.setCell ⟨g, 2, none⟩ (.bool true)) := by
  obtain ⟨v, i, hb, hs, hd, ho, hl, hB, hi, hst⟩ := h
  exact ⟨v, i, set3_2 hb _, sees_or hs hd (fun d hdB _ => Below.heap_setCell _ _ _ _ (fun e => by simp only [] at e; omega)), hd, ho, hl, hB, hi, fun l h => by cases h⟩
/-- A piece of bytes. -/
theorem sees_piece {w : World} {ao : Option Addr} {c : Nat} {xs : List Int} (h : Sees w (.slice ao xs.length c) xs) {i n : Nat} (hin : i + n ≤ xs.length) (ao' : Option Addr) (h' : ao' = ao.map (fun x => x.add i) ∨ c = i ∧ ao' = ao) :
    Sees w (.slice ao' n (c - i)) ((xs.drop i).take n) ∧ ∀ d, (Value.slice ao' n (c - i)).ownBlock = some d → (Value.slice ao xs.length c).ownBlock = some d := by
  obtain ⟨ao0, c0, he, hlc, hnil, hc⟩ := h
  cases he
  have e : ((xs.drop i).take n).length = n := by rw [List.length_take, List.length_drop]; omega
  refine ⟨⟨ao', c - i, by rw [e], by omega, fun h => ?_, fun a ha j hj => ?_⟩, fun d hd => ?_⟩
  · rcases h' with h' | ⟨h1, h'⟩
    · rw [h] at h'
      cases ao with
      | none => rw [hnil rfl]; simp
      | some a => cases h'
    · exact List.eq_nil_of_length_eq_zero (by omega)
  · rw [e] at hj
    rcases h' with h' | ⟨h1, h'⟩
    · cases ao with
      | none => rw [h'] at ha; cases ha
      | some b =>
        rw [h'] at ha
        cases ha
        rw [Addr.add_add, hc b rfl (i + j) (by omega)]
        simp [List.getD, List.getElem?_drop, hj]
    · omega
  · rcases h' with h' | ⟨h1, h'⟩
    · cases ao with
      | none => rw [h'] at hd; cases hd
      | some b =>
        rw [h'] at hd
        simp only [Option.map_some, Value.ownBlock, add_block] at hd ⊢
        exact hd
    · rw [h'] at hd
      cases ao with
      | none => cases hd
      | some b => exact hd
set_option maxHeartbeats 1000000 in
theorem refLeft_any (g B : Nat) (xs : List Int) (st : Option (List Int)) (w : World) (h : RdR g B xs st w) :
    Calls Tryz.prog 82 #[.pointer (some ⟨g, 0, none⟩)] w fun e w' => e = .returned (.int .i64 (st.getD []).length) ∧ ∃ m, w' = w.drewN m := by
  obtain ⟨v, i, hb, ⟨ao, c, rfl, _⟩, hd, ho, hl, hB, hi, hst⟩ := h
  obtain ⟨c0, c1, c2⟩ := cell3 hb
  cases st with
  | none =>
    have c2' : w.cell? ⟨g, 2, none⟩ = some (.bool true) := c2
    clear c2 hb
    go_enter Tryz.func82, Tryz.ntmps82
    go_wp2
    go_ret
    exact ⟨rfl, 0, rfl⟩
  | some l =>
    have c2' : w.cell? ⟨g, 2, none⟩ = some (.bool false) := c2
    have HV : Hid ((xs.length : Int) - i = (((some l).getD []).length : Int)) := Lib.hid (by rw [Option.getD_some, hst l rfl, List.length_drop]; omega)
    have s1 : IntKind.i64.wrap ((xs.length : Int) - i) = xs.length - i := IntWalk.i64_in _ (by omega)
    clear c2 hb hst
    go_enter Tryz.func82, Tryz.ntmps82
    go_wp2_with fail
    go_quiet (fail)
    go_wp2
    go_ret
    exact ⟨congrArg (fun n => Ending.returned (.int .i64 n)) HV.out, _, rfl⟩
set_option linter.unusedSimpArgs false in
set_option maxRecDepth 4000 in
set_option maxHeartbeats 4000000 in
theorem refBytes_no (g B : Nat) (xs : List Int) (st : Option (List Int)) (n : Int) (w : World) (h : RdR g B xs st w) (hno : ¬ (st.isNone = false ∧ 0 ≤ n ∧ n ≤ (st.getD []).length)) :
    Calls Tryz.prog 81 #[.pointer (some ⟨g, 0, none⟩), .int .i64 n] w fun e w' => e = .returned (.slice none 0 0) ∧ RdR g B xs none w' ∧ w.grownBy w' (some g) := by
  have KK : Hid (RdR g B xs none (w.drew.setCell ⟨g, 2, none⟩ (.bool true)) ∧ w.grownBy (w.drew.setCell ⟨g, 2, none⟩ (.bool true)) (some g)) :=
    Lib.hid ⟨RdR.bad (w := w.drew) (st := st) h, grown_trans (b := w.drew) ⟨rfl, rfl, rfl, Nat.le_refl _, fun _ _ _ => rfl⟩ (grown_set _ g 2 _)⟩
  obtain ⟨v, i, hb, ⟨ao, c, rfl, _⟩, hd, ho, hl, hB, hi, hst⟩ := h
  obtain ⟨c0, c1, c2⟩ := cell3 hb
  have f2 := froz3 hb 2
  cases st with
  | none =>
    have c2' : w.cell? ⟨g, 2, none⟩ = some (.bool true) := c2
    clear c2 hb hno hst
    go_enter Tryz.func81, Tryz.ntmps81
    go_wp2_with fail
    refine wp_region_held_drew (S := (fun W => W.cell? ⟨g, 0, none⟩ = some (.slice ao xs.length c) ∧ W.cell? ⟨g, 1, none⟩ = some (.int .i64 (i)) ∧ W.cell? ⟨g, 2, none⟩ = some (.bool true))) (by kernel_rfl) ?_ (fun hHeld0 => ?_)
    · exact ⟨c0, c1, c2'⟩
    refine tq (v := ?_) 0 rfl ?_ ?_
    rotate_left
    · intro w hSw
      (try dsimp only at hSw)
      go_simp
      first | done | with_reducible rfl
    try simp only [Act.put, qA, qB, qC, qD, qE, qF]
    refine tq (v := ?_) 1 rfl ?_ ?_
    rotate_left
    · intro w hSw
      (try dsimp only at hSw)
      go_simp
      first | done | with_reducible rfl
    try simp only [Act.put, qA, qB, qC, qD, qE, qF]
    refine tq (v := ?_) 2 rfl ?_ ?_
    rotate_left
    · intro w hSw
      (try dsimp only at hSw)
      go_simp
      first | done | with_reducible rfl
    try simp only [Act.put, qA, qB, qC, qD, qE, qF]
    refine tq (v := ?_) 3 rfl ?_ ?_
    rotate_left
    · intro w hSw
      (try dsimp only at hSw)
      go_simp
      first | done | with_reducible rfl
    try simp only [Act.put, qA, qB, qC, qD, qE, qF]
    refine tq (v := ?_) 4 rfl ?_ ?_
    rotate_left
    · intro w hSw
      (try dsimp only at hSw)
      go_simp
      first | done | with_reducible rfl
    try simp only [Act.put, qA, qB, qC, qD, qE, qF]
    refine sk 5 rfl ?_
    try simp only [Act.put, qA, qB, qC, qD, qE, qF]
    refine sk 6 rfl ?_
    try simp only [Act.put, qA, qB, qC, qD, qE, qF]
    refine tq (v := ?_) 7 rfl ?_ ?_
    rotate_left
    · intro w hSw
      (try dsimp only at hSw)
      go_simp
      first | done | with_reducible rfl
    try simp only [Act.put, qA, qB, qC, qD, qE, qF]
    refine tq (v := ?_) 8 rfl ?_ ?_
    rotate_left
    · intro w hSw
      (try dsimp only at hSw)
      go_simp
      first | done | with_reducible rfl
    try simp only [Act.put, qA, qB, qC, qD, qE, qF]
    refine sk 9 rfl ?_
    try simp only [Act.put, qA, qB, qC, qD, qE, qF]
    refine sk 10 rfl ?_
    try simp only [Act.put, qA, qB, qC, qD, qE, qF]
    refine sk 11 rfl ?_
    try simp only [Act.put, qA, qB, qC, qD, qE, qF]
    refine sk 12 rfl ?_
    try simp only [Act.put, qA, qB, qC, qD, qE, qF]
    refine sk 13 rfl ?_
    try simp only [Act.put, qA, qB, qC, qD, qE, qF]
    refine sk 14 rfl ?_
    try simp only [Act.put, qA, qB, qC, qD, qE, qF]
    refine sk 15 rfl ?_
    try simp only [Act.put, qA, qB, qC, qD, qE, qF]
    refine sk 16 rfl ?_
    try simp only [Act.put, qA, qB, qC, qD, qE, qF]
    refine sk 17 rfl ?_
    try simp only [Act.put, qA, qB, qC, qD, qE, qF]
    refine sk 18 rfl ?_
    try simp only [Act.put, qA, qB, qC, qD, qE, qF]
    refine sk 19 rfl ?_
    try simp only [Act.put, qA, qB, qC, qD, qE, qF]
    refine sk 20 rfl ?_
    try simp only [Act.put, qA, qB, qC, qD, qE, qF]
    refine tq (v := ?_) 21 rfl ?_ ?_
    rotate_left
    · intro w hSw
      (try dsimp only at hSw)
      go_simp
      first | done | with_reducible rfl
    try simp only [Act.put, qA, qB, qC, qD, qE, qF]
    refine wpAnyH_done (by kernel_rfl) ?_ _
    clear hHeld0
    have c2'' : w.drew.cell? ⟨g, 2, none⟩ = some (.bool true) := c2'
    have f2' : w.drew.frozen? ⟨g, 2, none⟩ = false := f2
    go_wp2_with fail
    go_ret
    exact ⟨rfl, KK.out⟩
  | some l =>
    have c2' : w.cell? ⟨g, 2, none⟩ = some (.bool false) := c2
    have hll : l.length = xs.length - i := by rw [hst l rfl, List.length_drop]
    clear hst
    by_cases h0 : n < 0
    · have d0 : decide (n < 0) = true := by simpa using h0
      clear c2 hb hno hll
      go_enter Tryz.func81, Tryz.ntmps81
      go_wp2_with fail
      refine wp_region_held_drew (S := (fun W => W.cell? ⟨g, 0, none⟩ = some (.slice ao xs.length c) ∧ W.cell? ⟨g, 1, none⟩ = some (.int .i64 (i)) ∧ W.cell? ⟨g, 2, none⟩ = some (.bool false))) (by kernel_rfl) ?_ (fun hHeld0 => ?_)
      · exact ⟨c0, c1, c2'⟩
      refine tq (v := ?_) 0 rfl ?_ ?_
      rotate_left
      · intro w hSw
        (try dsimp only at hSw)
        go_simp
        first | done | with_reducible rfl
      try simp only [Act.put, qA, qB, qC, qD, qE, qF]
      refine tq (v := ?_) 1 rfl ?_ ?_
      rotate_left
      · intro w hSw
        (try dsimp only at hSw)
        go_simp
        first | done | with_reducible rfl
      try simp only [Act.put, qA, qB, qC, qD, qE, qF]
      refine tq (v := ?_) 2 rfl ?_ ?_
      rotate_left
      · intro w hSw
        (try dsimp only at hSw)
        go_simp
        first | done | with_reducible rfl
      try simp only [Act.put, qA, qB, qC, qD, qE, qF]
      refine tq (v := ?_) 3 rfl ?_ ?_
      rotate_left
      · intro w hSw
        (try dsimp only at hSw)
        go_simp
        first | done | with_reducible rfl
      try simp only [Act.put, qA, qB, qC, qD, qE, qF]
      refine tq (v := ?_) 4 rfl ?_ ?_
      rotate_left
      · intro w hSw
        (try dsimp only at hSw)
        go_simp
        first | done | with_reducible rfl
      try simp only [Act.put, qA, qB, qC, qD, qE, qF]
      refine tq (v := ?_) 5 rfl ?_ ?_
      rotate_left
      · intro w hSw
        (try dsimp only at hSw)
        go_simp
        first | done | with_reducible rfl
      try simp only [Act.put, qA, qB, qC, qD, qE, qF]
      refine tq (v := ?_) 6 rfl ?_ ?_
      rotate_left
      · intro w hSw
        (try dsimp only at hSw)
        go_simp
        first | done | with_reducible rfl
      try simp only [Act.put, qA, qB, qC, qD, qE, qF]
      refine tq (v := ?_) 7 rfl ?_ ?_
      rotate_left
      · intro w hSw
        (try dsimp only at hSw)
        go_simp
        first | done | with_reducible rfl
      try simp only [Act.put, qA, qB, qC, qD, qE, qF]
      refine tq (v := ?_) 8 rfl ?_ ?_
      rotate_left
      · intro w hSw
        (try dsimp only at hSw)
        go_simp
        first | done | with_reducible rfl
      try simp only [Act.put, qA, qB, qC, qD, qE, qF]
      refine sk 9 rfl ?_
      try simp only [Act.put, qA, qB, qC, qD, qE, qF]
      refine sk 10 rfl ?_
      try simp only [Act.put, qA, qB, qC, qD, qE, qF]
      refine sk 11 rfl ?_
      try simp only [Act.put, qA, qB, qC, qD, qE, qF]
      refine sk 12 rfl ?_
      try simp only [Act.put, qA, qB, qC, qD, qE, qF]
      refine sk 13 rfl ?_
      try simp only [Act.put, qA, qB, qC, qD, qE, qF]
      refine sk 14 rfl ?_
      try simp only [Act.put, qA, qB, qC, qD, qE, qF]
      refine sk 15 rfl ?_
      try simp only [Act.put, qA, qB, qC, qD, qE, qF]
      refine sk 16 rfl ?_
      try simp only [Act.put, qA, qB, qC, qD, qE, qF]
      refine sk 17 rfl ?_
      try simp only [Act.put, qA, qB, qC, qD, qE, qF]
      refine sk 18 rfl ?_
      try simp only [Act.put, qA, qB, qC, qD, qE, qF]
      refine sk 19 rfl ?_
      try simp only [Act.put, qA, qB, qC, qD, qE, qF]
      refine sk 20 rfl ?_
      try simp only [Act.put, qA, qB, qC, qD, qE, qF]
      refine tq (v := ?_) 21 rfl ?_ ?_
      rotate_left
      · intro w hSw
        (try dsimp only at hSw)
        go_simp
        first | done | with_reducible rfl
      try simp only [Act.put, qA, qB, qC, qD, qE, qF]
      refine wpAnyH_done (by kernel_rfl) ?_ _
      clear hHeld0
      have c2'' : w.drew.cell? ⟨g, 2, none⟩ = some (.bool false) := c2'
      have f2' : w.drew.frozen? ⟨g, 2, none⟩ = false := f2
      go_wp2_with fail
      go_ret
      exact ⟨rfl, KK.out⟩
    · have d0 : decide (n < 0) = false := by simpa using h0
      have h1 : (xs.length : Int) - i < n := by
        rcases Int.lt_or_le ((xs.length : Int) - i) n with hh | hh
        · exact hh
        · exact absurd ⟨rfl, by omega, by rw [Option.getD_some]; omega⟩ hno
      have d1 : decide ((xs.length : Int) - i < n) = true := by simpa using h1
      have s1 : IntKind.i64.wrap ((xs.length : Int) - i) = xs.length - i := IntWalk.i64_in _ (by omega)
      clear c2 hb hno hll
      go_enter Tryz.func81, Tryz.ntmps81
      go_wp2_with fail
      refine wp_region_held_drew (S := (fun W => W.cell? ⟨g, 0, none⟩ = some (.slice ao xs.length c) ∧ W.cell? ⟨g, 1, none⟩ = some (.int .i64 (i)) ∧ W.cell? ⟨g, 2, none⟩ = some (.bool false))) (by kernel_rfl) ?_ (fun hHeld0 => ?_)
      · exact ⟨c0, c1, c2'⟩
      refine tq (v := ?_) 0 rfl ?_ ?_
      rotate_left
      · intro w hSw
        (try dsimp only at hSw)
        go_simp
        first | done | with_reducible rfl
      try simp only [Act.put, qA, qB, qC, qD, qE, qF]
      refine tq (v := ?_) 1 rfl ?_ ?_
      rotate_left
      · intro w hSw
        (try dsimp only at hSw)
        go_simp
        first | done | with_reducible rfl
      try simp only [Act.put, qA, qB, qC, qD, qE, qF]
      refine tq (v := ?_) 2 rfl ?_ ?_
      rotate_left
      · intro w hSw
        (try dsimp only at hSw)
        go_simp
        first | done | with_reducible rfl
      try simp only [Act.put, qA, qB, qC, qD, qE, qF]
      refine tq (v := ?_) 3 rfl ?_ ?_
      rotate_left
      · intro w hSw
        (try dsimp only at hSw)
        go_simp
        first | done | with_reducible rfl
      try simp only [Act.put, qA, qB, qC, qD, qE, qF]
      refine tq (v := ?_) 4 rfl ?_ ?_
      rotate_left
      · intro w hSw
        (try dsimp only at hSw)
        go_simp
        first | done | with_reducible rfl
      try simp only [Act.put, qA, qB, qC, qD, qE, qF]
      refine tq (v := ?_) 5 rfl ?_ ?_
      rotate_left
      · intro w hSw
        (try dsimp only at hSw)
        go_simp
        first | done | with_reducible rfl
      try simp only [Act.put, qA, qB, qC, qD, qE, qF]
      refine tq (v := ?_) 6 rfl ?_ ?_
      rotate_left
      · intro w hSw
        (try dsimp only at hSw)
        go_simp
        first | done | with_reducible rfl
      try simp only [Act.put, qA, qB, qC, qD, qE, qF]
      refine tq (v := ?_) 7 rfl ?_ ?_
      rotate_left
      · intro w hSw
        (try dsimp only at hSw)
        go_simp
        first | done | with_reducible rfl
      try simp only [Act.put, qA, qB, qC, qD, qE, qF]
      refine tq (v := ?_) 8 rfl ?_ ?_
      rotate_left
      · intro w hSw
        (try dsimp only at hSw)
        go_simp
        first | done | with_reducible rfl
      try simp only [Act.put, qA, qB, qC, qD, qE, qF]
      refine tq (v := ?_) 9 rfl ?_ ?_
      rotate_left
      · intro w hSw
        (try dsimp only at hSw)
        go_simp
        first | done | with_reducible rfl
      try simp only [Act.put, qA, qB, qC, qD, qE, qF]
      refine tq (v := ?_) 10 rfl ?_ ?_
      rotate_left
      · intro w hSw
        (try dsimp only at hSw)
        go_simp
        first | done | with_reducible rfl
      try simp only [Act.put, qA, qB, qC, qD, qE, qF]
      refine tq (v := ?_) 11 rfl ?_ ?_
      rotate_left
      · intro w hSw
        (try dsimp only at hSw)
        go_simp
        first | done | with_reducible rfl
      try simp only [Act.put, qA, qB, qC, qD, qE, qF]
      refine tq (v := ?_) 12 rfl ?_ ?_
      rotate_left
      · intro w hSw
        (try dsimp only at hSw)
        go_simp
        first | done | with_reducible rfl
      try simp only [Act.put, qA, qB, qC, qD, qE, qF]
      refine tq (v := ?_) 13 rfl ?_ ?_
      rotate_left
      · intro w hSw
        (try dsimp only at hSw)
        go_simp
        first | done | with_reducible rfl
      try simp only [Act.put, qA, qB, qC, qD, qE, qF]
      refine tq (v := ?_) 14 rfl ?_ ?_
      rotate_left
      · intro w hSw
        (try dsimp only at hSw)
        go_simp
        first | done | with_reducible rfl
      try simp only [Act.put, qA, qB, qC, qD, qE, qF]
      refine tq (v := ?_) 15 rfl ?_ ?_
      rotate_left
      · intro w hSw
        (try dsimp only at hSw)
        go_simp
        first | done | with_reducible rfl
      try simp only [Act.put, qA, qB, qC, qD, qE, qF]
      refine tq (v := ?_) 16 rfl ?_ ?_
      rotate_left
      · intro w hSw
        (try dsimp only at hSw)
        go_simp
        first | done | with_reducible rfl
      try simp only [Act.put, qA, qB, qC, qD, qE, qF]
      refine tq (v := ?_) 17 rfl ?_ ?_
      rotate_left
      · intro w hSw
        (try dsimp only at hSw)
        go_simp
        first | done | with_reducible rfl
      try simp only [Act.put, qA, qB, qC, qD, qE, qF]
      refine tq (v := ?_) 18 rfl ?_ ?_
      rotate_left
      · intro w hSw
        (try dsimp only at hSw)
        go_simp
        first | done | with_reducible rfl
      try simp only [Act.put, qA, qB, qC, qD, qE, qF]
      refine tq (v := ?_) 19 rfl ?_ ?_
      rotate_left
      · intro w hSw
        (try dsimp only at hSw)
        go_simp
        first | done | with_reducible rfl
      try simp only [Act.put, qA, qB, qC, qD, qE, qF]
      refine tq (v := ?_) 20 rfl ?_ ?_
      rotate_left
      · intro w hSw
        (try dsimp only at hSw)
        go_simp
        first | done | with_reducible rfl
      try simp only [Act.put, qA, qB, qC, qD, qE, qF]
      refine tq (v := ?_) 21 rfl ?_ ?_
      rotate_left
      · intro w hSw
        (try dsimp only at hSw)
        go_simp
        first | done | with_reducible rfl
      try simp only [Act.put, qA, qB, qC, qD, qE, qF]
      refine wpAnyH_done (by kernel_rfl) ?_ _
      clear hHeld0
      have c2'' : w.drew.cell? ⟨g, 2, none⟩ = some (.bool false) := c2'
      have f2' : w.drew.frozen? ⟨g, 2, none⟩ = false := f2
      go_wp2_with fail
      go_ret
      exact ⟨rfl, KK.out⟩
set_option linter.unusedSimpArgs false in
set_option maxRecDepth 4000 in
set_option maxHeartbeats 4000000 in
theorem refBytes_yes2 (g B : Nat) (xs : List Int) (l : List Int) (n : Nat) (w : World) (h : RdR g B xs (some l) w) (hn : n ≤ l.length) :
    Calls Tryz.prog 81 #[.pointer (some ⟨g, 0, none⟩), .int .i64 n] w fun e w' => ∃ v, e = .returned v ∧ Sees w' v (l.take n) ∧ RdR g B xs (some (l.drop n)) w' ∧ w.grownBy w' (some g) ∧ (xs = [] ∨ ∀ d, v.ownBlock = some d → d < B) := by
  obtain ⟨v, i, hb, hsees, hd, ho, hl, hB, hi, hst⟩ := h
  have hl2 := hst l rfl
  obtain ⟨ao, c, hv, hlc, hnil, hc⟩ := hsees
  have hsees : Sees w v xs := ⟨ao, c, hv, hlc, hnil, hc⟩
  have hll : l.length = xs.length - i := by rw [hl2, List.length_drop]
  subst hv
  obtain ⟨c0, c1, c2⟩ := cell3 hb
  have f1 := froz3 hb 1
  have c2' : w.cell? ⟨g, 2, none⟩ = some (.bool false) := c2
  have W1 : ∃ W, W = (w.setCell ⟨g, 1, none⟩ (.int .i64 (i + n))).drew := ⟨_, rfl⟩
  obtain ⟨W, hW⟩ := W1
  have hb' : W.heap[g]? = some (.cells #[.slice ao xs.length c, .int .i64 ((i + n : Nat) : Int), .bool false] 156 (0, 0)) := by rw [hW]; exact set3_1 hb _
  have hs' : Sees W (.slice ao xs.length c) xs := by
    rw [hW]
    exact sees_or (w' := (w.setCell ⟨g, 1, none⟩ (.int .i64 (i + n))).drew) hsees hd (fun d hdB _ => Below.heap_setCell w _ _ _ (fun e => by simp only [] at e; omega))
  have hg' : w.grownBy W (some g) := by rw [hW]; exact grown_trans (grown_set w g 1 _) ⟨rfl, rfl, rfl, Nat.le_refl _, fun _ _ _ => rfl⟩
  obtain ⟨e0, e1, e2⟩ := cell3 hb'
  have HR : Hid (RdR g B xs (some (l.drop n)) W.drew) := Lib.hid ⟨.slice ao xs.length c, i + n, hb', hs', hd, ho, hl, hB, by omega, fun m hm => by cases hm; rw [hl2, List.drop_drop]⟩
  have HP : Hid (∀ ao', (ao' = ao.map (fun x => x.add i) ∨ c = i ∧ ao' = ao) → Sees W.drew (.slice ao' n (c - i)) (l.take n) ∧ (xs = [] ∨ ∀ d, (Value.slice ao' n (c - i)).ownBlock = some d → d < B)) := Lib.hid fun ao' h' => by
    have := sees_piece hs' (i := i) (n := n) (by omega) ao' h'
    rw [← hl2] at this
    exact ⟨this.1, hd.imp id (fun h d hd => h d (this.2 d hd))⟩
  have HG : Hid (w.grownBy W.drew (some g)) := Lib.hid (grown_trans hg' ⟨rfl, rfl, rfl, Nat.le_refl _, fun _ _ _ => rfl⟩)
  have d0 : decide ((n : Int) < 0) = false := by simp
  have d1 : decide ((xs.length : Int) - i < n) = false := by simp; omega
  have s1 : IntKind.i64.wrap ((xs.length : Int) - i) = xs.length - i := IntWalk.i64_in _ (by omega)
  have s2 : IntKind.i64.wrap ((i : Int) + n) = i + n := IntWalk.i64_in _ (by omega)
  have s3 : IntKind.i64.wrap ((i : Int) + n - n) = i := by rw [show (i : Int) + n - n = i from by omega]; exact IntWalk.i64_in _ (by omega)
  have b1 : i ≤ c := by omega
  have b2 : i + n ≤ c := by omega
  have b3 : (i : Int) ≤ (i : Int) + n := by omega
  have b4 : (i : Int) + n ≤ (c : Int) := by omega
  have b5 : i + n - i = n := by omega
  have b6 : 0 ≤ (i : Int) + n := by omega
  have b7 : max ((i : Int) + n) 0 = i + n := by omega
  have b8 : ((i : Int) + n).toNat = i + n := by omega
  have s4 : IntKind.i64.wrap (i : Int) = i := IntWalk.i64_in _ (by omega)
  clear c2 hb hb' hs' hg' hc hnil hll hst hl2 hsees
  go_enter Tryz.func81, Tryz.ntmps81
  go_wp2_with fail
  refine wp_region_held_drew (S := (fun W => W.cell? ⟨g, 0, none⟩ = some (.slice ao xs.length c) ∧ W.cell? ⟨g, 1, none⟩ = some (.int .i64 (i)) ∧ W.cell? ⟨g, 2, none⟩ = some (.bool false))) (by kernel_rfl) ?_ (fun hHeld0 => ?_)
  · exact ⟨c0, c1, c2'⟩
  refine tq (v := ?_) 0 rfl ?_ ?_
  rotate_left
  · intro w hSw
    (try dsimp only at hSw)
    go_simp
    first | done | with_reducible rfl
  try simp only [Act.put, qA, qB, qC, qD, qE, qF]
  refine tq (v := ?_) 1 rfl ?_ ?_
  rotate_left
  · intro w hSw
    (try dsimp only at hSw)
    go_simp
    first | done | with_reducible rfl
  try simp only [Act.put, qA, qB, qC, qD, qE, qF]
  refine tq (v := ?_) 2 rfl ?_ ?_
  rotate_left
  · intro w hSw
    (try dsimp only at hSw)
    go_simp
    first | done | with_reducible rfl
  try simp only [Act.put, qA, qB, qC, qD, qE, qF]
  refine tq (v := ?_) 3 rfl ?_ ?_
  rotate_left
  · intro w hSw
    (try dsimp only at hSw)
    go_simp
    first | done | with_reducible rfl
  try simp only [Act.put, qA, qB, qC, qD, qE, qF]
  refine tq (v := ?_) 4 rfl ?_ ?_
  rotate_left
  · intro w hSw
    (try dsimp only at hSw)
    go_simp
    first | done | with_reducible rfl
  try simp only [Act.put, qA, qB, qC, qD, qE, qF]
  refine tq (v := ?_) 5 rfl ?_ ?_
  rotate_left
  · intro w hSw
    (try dsimp only at hSw)
    go_simp
    first | done | with_reducible rfl
  try simp only [Act.put, qA, qB, qC, qD, qE, qF]
  refine tq (v := ?_) 6 rfl ?_ ?_
  rotate_left
  · intro w hSw
    (try dsimp only at hSw)
    go_simp
    first | done | with_reducible rfl
  try simp only [Act.put, qA, qB, qC, qD, qE, qF]
  refine tq (v := ?_) 7 rfl ?_ ?_
  rotate_left
  · intro w hSw
    (try dsimp only at hSw)
    go_simp
    first | done | with_reducible rfl
  try simp only [Act.put, qA, qB, qC, qD, qE, qF]
  refine tq (v := ?_) 8 rfl ?_ ?_
  rotate_left
  · intro w hSw
    (try dsimp only at hSw)
    go_simp
    first | done | with_reducible rfl
  try simp only [Act.put, qA, qB, qC, qD, qE, qF]
  refine tq (v := ?_) 9 rfl ?_ ?_
  rotate_left
  · intro w hSw
    (try dsimp only at hSw)
    go_simp
    first | done | with_reducible rfl
  try simp only [Act.put, qA, qB, qC, qD, qE, qF]
  refine tq (v := ?_) 10 rfl ?_ ?_
  rotate_left
  · intro w hSw
    (try dsimp only at hSw)
    go_simp
    first | done | with_reducible rfl
  try simp only [Act.put, qA, qB, qC, qD, qE, qF]
  refine tq (v := ?_) 11 rfl ?_ ?_
  rotate_left
  · intro w hSw
    (try dsimp only at hSw)
    go_simp
    first | done | with_reducible rfl
  try simp only [Act.put, qA, qB, qC, qD, qE, qF]
  refine tq (v := ?_) 12 rfl ?_ ?_
  rotate_left
  · intro w hSw
    (try dsimp only at hSw)
    go_simp
    first | done | with_reducible rfl
  try simp only [Act.put, qA, qB, qC, qD, qE, qF]
  refine tq (v := ?_) 13 rfl ?_ ?_
  rotate_left
  · intro w hSw
    (try dsimp only at hSw)
    go_simp
    first | done | with_reducible rfl
  try simp only [Act.put, qA, qB, qC, qD, qE, qF]
  refine tq (v := ?_) 14 rfl ?_ ?_
  rotate_left
  · intro w hSw
    (try dsimp only at hSw)
    go_simp
    first | done | with_reducible rfl
  try simp only [Act.put, qA, qB, qC, qD, qE, qF]
  refine tq (v := ?_) 15 rfl ?_ ?_
  rotate_left
  · intro w hSw
    (try dsimp only at hSw)
    go_simp
    first | done | with_reducible rfl
  try simp only [Act.put, qA, qB, qC, qD, qE, qF]
  refine tq (v := ?_) 16 rfl ?_ ?_
  rotate_left
  · intro w hSw
    (try dsimp only at hSw)
    go_simp
    first | done | with_reducible rfl
  try simp only [Act.put, qA, qB, qC, qD, qE, qF]
  refine tq (v := ?_) 17 rfl ?_ ?_
  rotate_left
  · intro w hSw
    (try dsimp only at hSw)
    go_simp
    first | done | with_reducible rfl
  try simp only [Act.put, qA, qB, qC, qD, qE, qF]
  refine tq (v := ?_) 18 rfl ?_ ?_
  rotate_left
  · intro w hSw
    (try dsimp only at hSw)
    go_simp
    first | done | with_reducible rfl
  try simp only [Act.put, qA, qB, qC, qD, qE, qF]
  refine tq (v := ?_) 19 rfl ?_ ?_
  rotate_left
  · intro w hSw
    (try dsimp only at hSw)
    go_simp
    first | done | with_reducible rfl
  try simp only [Act.put, qA, qB, qC, qD, qE, qF]
  refine tq (v := ?_) 20 rfl ?_ ?_
  rotate_left
  · intro w hSw
    (try dsimp only at hSw)
    go_simp
    first | done | with_reducible rfl
  try simp only [Act.put, qA, qB, qC, qD, qE, qF]
  refine tq (v := ?_) 21 rfl ?_ ?_
  rotate_left
  · intro w hSw
    (try dsimp only at hSw)
    go_simp
    first | done | with_reducible rfl
  try simp only [Act.put, qA, qB, qC, qD, qE, qF]
  refine wpAnyH_done (by kernel_rfl) ?_ _
  clear hHeld0
  have c1' : w.drew.cell? ⟨g, 1, none⟩ = some (.int .i64 i) := c1
  have f1' : w.drew.frozen? ⟨g, 1, none⟩ = false := f1
  go_wp2_with fail
  rw [← hW]
  have e1' : W.cell? ⟨g, 1, none⟩ = some (.int .i64 ((i : Int) + n)) := by rw [e1, Int.natCast_add]
  clear hW
  by_cases hci : c = i
  · have HP0 := HP.out ao (Or.inr ⟨hci, rfl⟩)
    subst hci
    rw [Nat.sub_self] at HP0
    clear b1
    refine wp_region_held_drew (S := (fun W => W.cell? ⟨g, 0, none⟩ = some (.slice ao xs.length c) ∧ W.cell? ⟨g, 1, none⟩ = some (.int .i64 ((c : Int) + n)) ∧ W.cell? ⟨g, 2, none⟩ = some (.bool false))) (by kernel_rfl) ?_ (fun hHeld0 => ?_)
    · exact ⟨e0, e1', e2⟩
    refine tq (v := ?_) 0 rfl ?_ ?_
    rotate_left
    · intro w hSw
      (try dsimp only at hSw)
      go_simp
      first | done | with_reducible rfl
    try simp only [Act.put, qA, qB, qC, qD, qE, qF]
    refine tq (v := ?_) 1 rfl ?_ ?_
    rotate_left
    · intro w hSw
      (try dsimp only at hSw)
      go_simp
      first | done | with_reducible rfl
    try simp only [Act.put, qA, qB, qC, qD, qE, qF]
    refine tq (v := ?_) 2 rfl ?_ ?_
    rotate_left
    · intro w hSw
      (try dsimp only at hSw)
      go_simp
      first | done | with_reducible rfl
    try simp only [Act.put, qA, qB, qC, qD, qE, qF]
    refine tq (v := ?_) 3 rfl ?_ ?_
    rotate_left
    · intro w hSw
      (try dsimp only at hSw)
      go_simp
      first | done | with_reducible rfl
    try simp only [Act.put, qA, qB, qC, qD, qE, qF]
    refine tq (v := ?_) 4 rfl ?_ ?_
    rotate_left
    · intro w hSw
      (try dsimp only at hSw)
      go_simp
      first | done | with_reducible rfl
    try simp only [Act.put, qA, qB, qC, qD, qE, qF]
    refine tq (v := ?_) 5 rfl ?_ ?_
    rotate_left
    · intro w hSw
      (try dsimp only at hSw)
      go_simp
      first | done | with_reducible rfl
    try simp only [Act.put, qA, qB, qC, qD, qE, qF]
    refine tq (v := ?_) 6 rfl ?_ ?_
    rotate_left
    · intro w hSw
      (try dsimp only at hSw)
      go_simp
      first | done | with_reducible rfl
    try simp only [Act.put, qA, qB, qC, qD, qE, qF]
    refine tq (v := ?_) 7 rfl ?_ ?_
    rotate_left
    · intro w hSw
      (try dsimp only at hSw)
      go_simp
      first | done | with_reducible rfl
    try simp only [Act.put, qA, qB, qC, qD, qE, qF]
    refine tq (v := ?_) 8 rfl ?_ ?_
    rotate_left
    · intro w hSw
      (try dsimp only at hSw)
      go_simp
      first | done | with_reducible rfl
    try simp only [Act.put, qA, qB, qC, qD, qE, qF]
    refine tq (v := ?_) 9 rfl ?_ ?_
    rotate_left
    · intro w hSw
      (try dsimp only at hSw)
      go_simp
      first | done | with_reducible rfl
    try simp only [Act.put, qA, qB, qC, qD, qE, qF]
    refine tq (v := ?_) 10 rfl ?_ ?_
    rotate_left
    · intro w hSw
      (try dsimp only at hSw)
      go_simp
      first | done | with_reducible rfl
    try simp only [Act.put, qA, qB, qC, qD, qE, qF]
    refine tq (v := ?_) 11 rfl ?_ ?_
    rotate_left
    · intro w hSw
      (try dsimp only at hSw)
      go_simp
      first | done | with_reducible rfl
    try simp only [Act.put, qA, qB, qC, qD, qE, qF]
    refine tq (v := ?_) 12 rfl ?_ ?_
    rotate_left
    · intro w hSw
      (try dsimp only at hSw)
      go_simp
      first | done | with_reducible rfl
    try simp only [Act.put, qA, qB, qC, qD, qE, qF]
    refine tq (v := ?_) 13 rfl ?_ ?_
    rotate_left
    · intro w hSw
      (try dsimp only at hSw)
      go_simp
      first | done | with_reducible rfl
    try simp only [Act.put, qA, qB, qC, qD, qE, qF]
    refine tq (v := ?_) 14 rfl ?_ ?_
    rotate_left
    · intro w hSw
      (try dsimp only at hSw)
      go_simp
      first | done | with_reducible rfl
    try simp only [Act.put, qA, qB, qC, qD, qE, qF]
    refine tq (v := ?_) 15 rfl ?_ ?_
    rotate_left
    · intro w hSw
      (try dsimp only at hSw)
      go_simp
      first | done | with_reducible rfl
    try simp only [Act.put, qA, qB, qC, qD, qE, qF]
    refine wpAnyH_done (by kernel_rfl) ?_ _
    clear hHeld0
    go_wp2
    go_ret
    exact ⟨_, rfl, HP0.1, HR.out, HG.out, HP0.2⟩
  · have HP0 := HP.out _ (Or.inl rfl)
    refine wp_region_held_drew (S := (fun W => W.cell? ⟨g, 0, none⟩ = some (.slice ao xs.length c) ∧ W.cell? ⟨g, 1, none⟩ = some (.int .i64 ((i : Int) + n)) ∧ W.cell? ⟨g, 2, none⟩ = some (.bool false))) (by kernel_rfl) ?_ (fun hHeld0 => ?_)
    · exact ⟨e0, e1', e2⟩
    refine tq (v := ?_) 0 rfl ?_ ?_
    rotate_left
    · intro w hSw
      (try dsimp only at hSw)
      go_simp
      first | done | with_reducible rfl
    try simp only [Act.put, qA, qB, qC, qD, qE, qF]
    refine tq (v := ?_) 1 rfl ?_ ?_
    rotate_left
    · intro w hSw
      (try dsimp only at hSw)
      go_simp
      first | done | with_reducible rfl
    try simp only [Act.put, qA, qB, qC, qD, qE, qF]
    refine tq (v := ?_) 2 rfl ?_ ?_
    rotate_left
    · intro w hSw
      (try dsimp only at hSw)
      go_simp
      first | done | with_reducible rfl
    try simp only [Act.put, qA, qB, qC, qD, qE, qF]
    refine tq (v := ?_) 3 rfl ?_ ?_
    rotate_left
    · intro w hSw
      (try dsimp only at hSw)
      go_simp
      first | done | with_reducible rfl
    try simp only [Act.put, qA, qB, qC, qD, qE, qF]
    refine tq (v := ?_) 4 rfl ?_ ?_
    rotate_left
    · intro w hSw
      (try dsimp only at hSw)
      go_simp
      first | done | with_reducible rfl
    try simp only [Act.put, qA, qB, qC, qD, qE, qF]
    refine tq (v := ?_) 5 rfl ?_ ?_
    rotate_left
    · intro w hSw
      (try dsimp only at hSw)
      go_simp
      first | done | with_reducible rfl
    try simp only [Act.put, qA, qB, qC, qD, qE, qF]
    refine tq (v := ?_) 6 rfl ?_ ?_
    rotate_left
    · intro w hSw
      (try dsimp only at hSw)
      go_simp
      first | done | with_reducible rfl
    try simp only [Act.put, qA, qB, qC, qD, qE, qF]
    refine tq (v := ?_) 7 rfl ?_ ?_
    rotate_left
    · intro w hSw
      (try dsimp only at hSw)
      go_simp
      first | done | with_reducible rfl
    try simp only [Act.put, qA, qB, qC, qD, qE, qF]
    refine tq (v := ?_) 8 rfl ?_ ?_
    rotate_left
    · intro w hSw
      (try dsimp only at hSw)
      go_simp
      first | done | with_reducible rfl
    try simp only [Act.put, qA, qB, qC, qD, qE, qF]
    refine tq (v := ?_) 9 rfl ?_ ?_
    rotate_left
    · intro w hSw
      (try dsimp only at hSw)
      go_simp
      first | done | with_reducible rfl
    try simp only [Act.put, qA, qB, qC, qD, qE, qF]
    refine tq (v := ?_) 10 rfl ?_ ?_
    rotate_left
    · intro w hSw
      (try dsimp only at hSw)
      go_simp
      first | done | with_reducible rfl
    try simp only [Act.put, qA, qB, qC, qD, qE, qF]
    refine tq (v := ?_) 11 rfl ?_ ?_
    rotate_left
    · intro w hSw
      (try dsimp only at hSw)
      go_simp
      first | done | with_reducible rfl
    try simp only [Act.put, qA, qB, qC, qD, qE, qF]
    refine tq (v := ?_) 12 rfl ?_ ?_
    rotate_left
    · intro w hSw
      (try dsimp only at hSw)
      go_simp
      first | done | with_reducible rfl
    try simp only [Act.put, qA, qB, qC, qD, qE, qF]
    refine tq (v := ?_) 13 rfl ?_ ?_
    rotate_left
    · intro w hSw
      (try dsimp only at hSw)
      go_simp
      first | done | with_reducible rfl
    try simp only [Act.put, qA, qB, qC, qD, qE, qF]
    refine tq (v := ?_) 14 rfl ?_ ?_
    rotate_left
    · intro w hSw
      (try dsimp only at hSw)
      go_simp
      first | done | with_reducible rfl
    try simp only [Act.put, qA, qB, qC, qD, qE, qF]
    refine tq (v := ?_) 15 rfl ?_ ?_
    rotate_left
    · intro w hSw
      (try dsimp only at hSw)
      go_simp
      first | done | with_reducible rfl
    try simp only [Act.put, qA, qB, qC, qD, qE, qF]
    refine wpAnyH_done (by kernel_rfl) ?_ _
    clear hHeld0
    go_wp2
    go_ret
    exact ⟨_, rfl, HP0.1, HR.out, HG.out, HP0.2⟩
theorem refBytes_any2 (g B : Nat) (xs : List Int) (st : Option (List Int)) (n : Int) (w : World) (h : RdR g B xs st w) :
    Calls Tryz.prog 81 #[.pointer (some ⟨g, 0, none⟩), .int .i64 n] w fun e w' => ∃ v, e = .returned v ∧ Sees w' v (rdB st n).1 ∧ RdR g B xs (rdB st n).2 w' ∧ w.grownBy w' (some g) ∧ (xs = [] ∨ ∀ d, v.ownBlock = some d → d < B) := by
  by_cases hy : st.isNone = false ∧ 0 ≤ n ∧ n ≤ (st.getD []).length
  · obtain ⟨h1, h2, h3⟩ := hy
    cases st with
    | none => cases h1
    | some l =>
      obtain ⟨k, rfl⟩ := Int.eq_ofNat_of_zero_le h2
      have hk : k ≤ l.length := by rw [Option.getD_some] at h3; omega
      rw [rdB_yes hk]
      exact refBytes_yes2 g B xs l k w h hk
  · rw [rdB_no hy]
    exact (refBytes_no g B xs st n w h hy).mono fun e w' ⟨he, hr, hg⟩ => ⟨_, he, Sees.nil _, hr, hg, Or.inr (fun d hd => by cases hd)⟩
theorem refBytes_any (g B : Nat) (xs : List Int) (st : Option (List Int)) (n : Int) (w : World) (h : RdR g B xs st w) :
    Calls Tryz.prog 81 #[.pointer (some ⟨g, 0, none⟩), .int .i64 n] w fun e w' => ∃ v, e = .returned v ∧ Sees w' v (rdB st n).1 ∧ RdR g B xs (rdB st n).2 w' ∧ w.grownBy w' (some g) :=
  (refBytes_any2 g B xs st n w h).mono fun _ _ ⟨v, a, b, c, d, _⟩ => ⟨v, a, b, c, d⟩
set_option maxHeartbeats 1000000 in
theorem refU_any (g B : Nat) (xs : List Int) (st : Option (List Int)) (k : Int) (w : World) (h : RdR g B xs st w) :
    Calls Tryz.prog 79 #[.pointer (some ⟨g, 0, none⟩), .int .i64 k] w fun e w' => e = .returned (.int .u64 (rdU st k).1) ∧ RdR g B xs (rdU st k).2 w' ∧ w.grownBy w' (some g) := by
  by_cases hk : wOk k = true
  · have hk2 := of_decide_eq_true hk
    have HP : Hid (rdU st k = (numBE (rdB st k).1, (rdB st k).2)) := Lib.hid (by unfold rdU; rw [if_pos hk])
    have d0 : decide (k < 1) = false := by simp; omega
    have d1 : decide (8 < k) = false := by simp; omega
    have HB := Lib.hid (refBytes_any g B xs st k w h)
    have hlen := rdB_len st k
    have hok : okB (rdB st k).1 := by
      obtain ⟨_, i, _, _, _, ho, _, _, _, hst⟩ := h
      refine rdB_ok ?_ k
      cases st with
      | none => intro x hx; cases hx
      | some l => rw [Option.getD_some, hst l rfl]; exact ho.drop i
    have HK := Lib.hid h
    obtain ⟨v, i, hb, -⟩ := h
    obtain ⟨c0, c1, c2⟩ := cell3 hb
    cases st with
    | none =>
      have c2' : w.cell? ⟨g, 2, none⟩ = some (.bool true) := c2
      clear c2 hb hk hlen hok HB
      go_enter Tryz.func79, Tryz.ntmps79
      go_wp2_with fail
      go_ret
      rw [HP.out]
      exact ⟨rfl, HK.out, World.grownBy.refl _ _⟩
    | some l =>
      have c2' : w.cell? ⟨g, 2, none⟩ = some (.bool false) := c2
      have HO := Lib.hid hok
      clear c2 hb hk hok
      go_enter Tryz.func79, Tryz.ntmps79
      go_wp2_with fail
      refine HB.out.mono ?_; rintro e w1 ⟨v1, rfl, hs, hR, hg⟩
      go_wp2_with fail
      refine (refNumB_any v1 _ w1 hs HO.out (by omega)).mono ?_; rintro e w2 ⟨rfl, rfl⟩
      go_wp2_with fail
      go_ret
      rw [HP.out]
      exact ⟨rfl, hR, hg⟩
  · have HP : Hid (rdU st k = (0, none)) := Lib.hid (by unfold rdU; rw [if_neg hk])
    have hk2 : ¬ (1 ≤ k ∧ k ≤ 8) := fun hh => hk (decide_eq_true hh)
    have KK : Hid (RdR g B xs none (w.setCell ⟨g, 2, none⟩ (.bool true)) ∧ w.grownBy (w.setCell ⟨g, 2, none⟩ (.bool true)) (some g)) := Lib.hid ⟨h.bad, grown_set w g 2 _⟩
    obtain ⟨v, i, hb, -⟩ := h
    obtain ⟨c0, c1, c2⟩ := cell3 hb
    have f2 := froz3 hb 2
    have e2 : (w.setCell ⟨g, 2, none⟩ (.bool true)).cell? ⟨g, 2, none⟩ = some (.bool true) := World.cell?_setCell_same _ _ _ c2
    by_cases h0 : k < 1
    · have d0 : decide (k < 1) = true := by simpa using h0
      clear hb hk hk2
      go_enter Tryz.func79, Tryz.ntmps79
      go_wp2_with fail
      go_ret
      rw [HP.out]
      exact ⟨rfl, KK.out⟩
    · have d0 : decide (k < 1) = false := by simpa using h0
      have d1 : decide (8 < k) = true := by simp; omega
      clear hb hk hk2
      go_enter Tryz.func79, Tryz.ntmps79
      go_wp2_with fail
      go_ret
      rw [HP.out]
      exact ⟨rfl, KK.out⟩
theorem refU_bd {g B : Nat} {xs : List Int} {st : Option (List Int)} {w : World} (h : RdR g B xs st w) (k : Int) : 0 ≤ (rdU st k).1 ∧ (rdU st k).1 < 256 ^ k.toNat := by
  have ho : okB (st.getD []) := by
    obtain ⟨_, i, _, _, _, ho, _, _, _, hst⟩ := h
    cases st with
    | none => intro x hx; cases hx
    | some l => rw [Option.getD_some, hst l rfl]; exact ho.drop i
  unfold rdU
  split
  · have h1 := numBE_bd _ (rdB_ok ho k)
    have h2 := rdB_len st k
    refine ⟨h1.1, Int.lt_of_lt_of_le h1.2 ?_⟩
    have h3 : (256 : Nat) ^ (rdB st k).1.length ≤ 256 ^ k.toNat := Nat.pow_le_pow_right (by omega) (by omega)
    have h4 : ((256 ^ (rdB st k).1.length : Nat) : Int) ≤ ((256 ^ k.toNat : Nat) : Int) := Int.ofNat_le.2 h3
    simpa using h4
  · exact ⟨Int.le_refl _, Int.pow_pos (by omega)⟩
set_option maxHeartbeats 1000000 in
theorem refTextR_any (g B : Nat) (xs : List Int) (st : Option (List Int)) (w : World) (h : RdR g B xs st w) :
    Calls Tryz.prog 80 #[.pointer (some ⟨g, 0, none⟩)] w fun e w' => e = .returned (.string (strOfNums (rdT st).1)) ∧ RdR g B xs (rdT st).2 w' ∧ w.grownBy w' (some g) := by
  have HU := Lib.hid (refU_any g B xs st 1 w h)
  obtain ⟨b0, b1⟩ := refU_bd h 1
  have b1' : (rdU st 1).1 < 256 := b1
  have s1 : IntKind.i64.wrap (rdU st 1).1 = (rdU st 1).1 := IntWalk.i64_in _ (by omega)
  clear b1 h
  by_cases hgt : 64 < (rdU st 1).1
  · have d0 : decide (64 < (rdU st 1).1) = true := by simpa using hgt
    have HP : Hid (rdT st = ([], none)) := Lib.hid (by unfold rdT; rw [if_neg (by omega)])
    go_enter Tryz.func80, Tryz.ntmps80
    go_wp2_with fail
    refine HU.out.mono ?_; rintro e w1 ⟨rfl, hR, hg⟩
    have HR1 := Lib.hid hR.bad
    obtain ⟨v, i, hb, -⟩ := hR
    obtain ⟨c0, c1, c2⟩ := cell3 hb
    have f2 := froz3 hb 2
    clear hb
    go_wp2_with fail
    refine (refBytes_no g B xs none _ _ HR1.out (fun hh => by cases hh.1)).mono ?_; rintro e w2 ⟨rfl, hR2, hg2⟩
    have hcv := conv_sees (Sees.nil w2)
    go_wp2_with fail
    go_ret
    rw [HP.out]
    exact ⟨rfl, hR2, grown_trans hg (grown_trans (grown_set _ g 2 _) hg2)⟩
  · have d0 : decide (64 < (rdU st 1).1) = false := by simpa using hgt
    have HP : Hid (rdT st = rdB (rdU st 1).2 (rdU st 1).1) := Lib.hid (by unfold rdT; rw [if_pos (by omega)])
    go_enter Tryz.func80, Tryz.ntmps80
    go_wp2_with fail
    refine HU.out.mono ?_; rintro e w1 ⟨rfl, hR, hg⟩
    go_wp2_with fail
    refine (refBytes_any g B xs _ _ _ hR).mono ?_; rintro e w2 ⟨v, rfl, hs, hR2, hg2⟩
    have hcv := conv_sees hs
    go_wp2_with fail
    go_ret
    rw [HP.out]
    exact ⟨rfl, hR2, grown_trans hg hg2⟩
end Go.Proofs.YtiifbhiodegipaaGreatDoor
