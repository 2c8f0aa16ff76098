/- Package view: Free of one open pool, without blocks. Made by g_vwfree.py. -/
import Derived.Test.YtlbgjmnihenmaaaGreatDoorVwIt
import Derived.Test.YtlbgjmnihenmaaaGreatDoorRcNet
import Derived.Test.YtlbgjmnihenmaaaGreatDoorVwPool
namespace Go.Proofs.YtlbgjmnihenmaaaGreatDoor
open Go.RowKit
set_option maxRecDepth 100000 in
set_option maxHeartbeats 4000000 in
theorem size_any2 (a b : Int) (ha : 0 ≤ a) (ha' : a < 4294967296) (w : World) :
    Calls Tryz.prog 44 #[.agg #[.int .u32 a, .int .i64 b]] w fun e w' => e = .returned (.int .i64 (sizeI a b)) ∧ Below w.heap.size w w' := by
  have HV : Hid (countI a b 32 = sizeI a b) := Lib.hid (by
    unfold countI sizeI
    by_cases hm : mayB a b = true
    · have := may_bits hm
      rw [if_pos hm, if_pos ⟨hm, rfl, this.2⟩]; rfl
    · rw [if_neg hm, if_neg (fun h => hm h.1)])
  have HC := Lib.hid (count_any a b 32 ha ha')
  go_enter Tryz.func44, Tryz.ntmps44
  go_wp2_with fail
  refine (HC.out _).mono ?_; rintro e w1 ⟨rfl, hb1⟩
  go_wp2_with fail
  go_ret
  exact ⟨congrArg (fun n => Ending.returned (.int .i64 n)) HV.out, bel (belNew _ _) hb1⟩
theorem cell_of1 {w : World} {g : Nat} {x : Value} {t : TypeId} (h : w.heap[g]? = some (.cells #[x] t (0, 0))) : w.cell? ⟨g, 0, none⟩ = some x := by simp [World.cell?, h]
theorem searchE (f : Value) (w : World) :
    Calls Tryz.prog 73 #[.int .i64 0, f] w fun e w' => e = .returned (.int .i64 0) ∧ Below w.heap.size w w' := by
  go_enter Tryz.func73, Tryz.ntmps73
  go_wp2_with fail
  refine wp_loop_rounds 1 ?_
  rw [rounds_succ]
  go_wp2_with fail
  go_ret
  exact ⟨rfl, Below.refl _ _⟩
set_option maxRecDepth 100000 in
set_option maxHeartbeats 4000000 in
theorem withinE (a b : Int) (ha : 0 ≤ a) (ha' : a < 4294967296) (w : World) :
    Calls Tryz.prog 45 #[.slice none 0 0, .agg #[.int .u32 a, .int .i64 b]] w fun e w' => e = .returned (.int .i64 0) ∧ Below w.heap.size w w' := by
  have HM := Lib.hid (fun w => may_any a b ha ha' w)
  have HS := Lib.hid (fun f w => searchE f w)
  obtain ⟨W, hW⟩ : ∃ W, W = (w.alloc (.cells #[.slice none 0 0] 67)).alloc (netO a b) := ⟨_, rfl⟩
  have hb0 : Below w.heap.size w W := by rw [hW]; exact belAlloc (belNew w _) _
  have h0 : W.heap[w.heap.size]? = some (.cells #[.slice none 0 0] 67 (0, 0)) := by rw [hW]; exact (Below.heap_alloc _ _ _ (by simp)).trans (heap_alloc_new w _)
  have h1 : W.heap[w.heap.size + 1]? = some (.cells #[.int .u32 a, .int .i64 b] 62 (0, 0)) := by
    rw [hW]
    have := heap_alloc_new (w.alloc (.cells #[.slice none 0 0] 67)) (netO a b)
    simpa using this
  have HW := Lib.hid hW
  clear hW
  generalize mayB a b = m at *
  go_enter Tryz.func45, Tryz.ntmps45
  go_upto_region 1 with fail
  change Code.wp _ _ _ _ ((w.alloc (.cells #[.slice none 0 0] 67)).alloc (netO a b))
  rw [← HW.out]
  obtain ⟨n0, n1⟩ := cells2 h1
  have c0 := cell_of1 h0
  cases m with
  | false =>
    go_wp2_with fail
    refine (HM.out _).mono ?_; rintro e w1 ⟨rfl, hb1⟩
    go_wp2_with fail
    go_ret
    exact ⟨rfl, bel hb0 hb1⟩
  | true =>
    go_wp2_with fail
    refine (HM.out _).mono ?_; rintro e w1 ⟨rfl, hb1⟩
    have c1 := bcell hb1 c0
    clear n0 n1 c0
    go_wp2_with fail
    refine (HS.out _ _).mono ?_; rintro e w2 ⟨rfl, hb2⟩
    have c2 := bcell hb2 c1
    clear c1
    go_wp2_with fail
    refine (HS.out _ _).mono ?_; rintro e w3 ⟨rfl, hb3⟩
    go_wp2_with fail
    go_ret
    exact ⟨rfl, bel (bel (bel hb0 hb1) hb2) hb3⟩
set_option maxRecDepth 100000 in
set_option maxHeartbeats 4000000 in
theorem givenE (x0 : Value) (bo : Option Addr) (bc : Nat) (x2 x3 x4 : Option Nat) (po : Option Addr) (pn pc : Nat) (hx : x0 = .slice po pn pc) (w : World) :
    Calls Tryz.prog 20 #[.agg #[x0, .slice bo 0 bc, .map x2, .map x3, .map x4]] w fun e w' => ∃ m, e = .returned (.map (some m)) ∧ w'.heap[m]? = some (.map #[] 0) ∧ Below w.heap.size w w' := by
  subst hx
  have hm : ∀ w : World, (Instr.makeMap TGm none).run Tryz.prog w = .ok (.map (some w.heap.size)) (w.alloc (.map #[] 0)) := fun w => by
    have u := Tryz.underlying78
    simp [Instr.makeMap]
  obtain ⟨W, hW⟩ : ∃ W, W = (w.alloc (.cells #[.slice po pn pc, .slice bo 0 bc, .map x2, .map x3, .map x4] 30)).alloc (.map #[] 0) := ⟨_, rfl⟩
  have hb0 : Below w.heap.size w W := by rw [hW]; exact belAlloc (belNew w _) _
  have h0 : W.heap[w.heap.size]? = some (.cells #[.slice po pn pc, .slice bo 0 bc, .map x2, .map x3, .map x4] 30 (0, 0)) := by rw [hW]; exact (Below.heap_alloc _ _ _ (by simp)).trans (heap_alloc_new w _)
  have h1 : W.heap[w.heap.size + 1]? = some (.map #[] 0) := by
    rw [hW]
    have := heap_alloc_new (w.alloc (.cells #[.slice po pn pc, .slice bo 0 bc, .map x2, .map x3, .map x4] 30)) (.map #[] 0)
    simpa using this
  have HW := Lib.hid hW
  have H1 := Lib.hid (And.intro h1 hb0)
  clear hW h1 hb0
  go_enter Tryz.func20, Tryz.ntmps20
  go_upto_region 2 with fail
  change Code.wp _ _ _ _ ((w.alloc (.cells #[.slice po pn pc, .slice bo 0 bc, .map x2, .map x3, .map x4] 30)).alloc (.map #[] 0))
  rw [← HW.out]
  obtain ⟨-, y1, -⟩ := vcells5 h0
  go_wp2_with fail
  refine wp_loop_rounds 1 ?_
  rw [rounds_succ]
  go_wp2_with fail
  go_ret
  exact ⟨_, rfl, H1.out.1, H1.out.2⟩
set_option maxRecDepth 100000 in
set_option maxHeartbeats 8000000 in
theorem freeE (q : P3) (a : Addr) (pc : Nat) (bo : Option Addr) (bc : Nat) (x2 x3 x4 : Option Nat) (w : World) (h0 : 0 ≤ q.1) (h1 : q.1 < 4294967296) (hm : mayB q.1 q.2.1 = true) (ho : q.2.2 = true) (hz : hole q.2.1 = 64)
    (hc : ∀ j u, (encP q)[j]? = some u → w.cell? (a.add j) = some u) :
    Calls Tryz.prog 24 #[.agg #[.slice (some a) 1 pc, .slice bo 0 bc, .map x2, .map x3, .map x4]] w fun e w' => e = .returned (.int .i64 64) ∧ Below w.heap.size w w' := by
  obtain ⟨qa, qb, qo⟩ := q
  simp only [] at h0 h1 hm ho hz
  subst ho
  obtain ⟨W, hW⟩ : ∃ W, W = w.alloc (.cells #[.slice (some a) 1 pc, .slice bo 0 bc, .map x2, .map x3, .map x4] 30) := ⟨_, rfl⟩
  have hb0 : Below w.heap.size w W := by rw [hW]; exact belNew w _
  have hv : W.heap[w.heap.size]? = some (.cells #[.slice (some a) 1 pc, .slice bo 0 bc, .map x2, .map x3, .map x4] 30 (0, 0)) := by rw [hW]; exact heap_alloc_new w _
  have HG := Lib.hid (fun w => givenE (.slice (some a) 1 pc) bo bc x2 x3 x4 _ _ _ rfl w)
  have HK := Lib.hid (fun b w => keysOf_any b w)
  have HS := Lib.hid (fun Bm b clk w hm hb => sortedE Bm b clk w hm hb)
  have HN := Lib.hid (fun w => withinE qa qb h0 h1 w)
  have HZ : Hid (∀ w, Calls Tryz.prog 44 #[.agg #[.int .u32 qa, .int .i64 qb]] w fun e w' => e = .returned (.int .i64 64) ∧ Below w.heap.size w w') := Lib.hid (fun w => by
    have h := size_any2 qa qb h0 h1 w
    have e : sizeI qa qb = 64 := by unfold sizeI; rw [if_pos hm, hz]
    rw [e] at h
    exact h)
  have HC := Lib.hid hc
  have HW := Lib.hid hW
  clear hW hc h0 h1 hm hz
  go_enter Tryz.func24, Tryz.ntmps24
  go_upto_region 1 with fail
  change Code.wp _ _ _ _ (w.alloc (.cells #[.slice (some a) 1 pc, .slice bo 0 bc, .map x2, .map x3, .map x4] 30))
  rw [← HW.out]
  obtain ⟨y0, y1, y2, y3, y4⟩ := vcells5 hv
  go_wp2_with fail
  refine (HG.out _).mono ?_; rintro e w1 ⟨m, rfl, hm1, hb1⟩
  go_wp2_with fail
  refine (HK.out _ _).mono ?_; rintro e w2 ⟨rfl, hk2, hb2⟩
  have hm2 := (hb2.block _ (heap_lt hm1)).trans hm1
  go_wp2_with fail
  refine (HS.out _ _ _ _ hk2 hm2).mono ?_; rintro e w3 ⟨rfl, hb3⟩
  have hB3 := bel (bel hb1 hb2) hb3
  have hv3 := (hB3.block _ (heap_lt hv)).trans hv
  have hB : Below w.heap.size w w3 := bel hb0 hB3
  clear y0 y1 y2 y3 y4 hk2 hm2 hm1
  obtain ⟨y0, -⟩ := vcells5 hv3
  have q0 : w3.cell? a = some (.int .u32 qa) := bcell hB (HC.out 0 _ rfl)
  have q1 : w3.cell? { block := a.block, off := a.off + 1 } = some (.int .i64 qb) := bcell hB (HC.out 1 _ rfl)
  have q2 : w3.cell? { block := a.block, off := a.off + 2 } = some (.bool true) := bcell hB (HC.out 2 _ rfl)
  have HB := Lib.hid hB
  clear hB hb0 hb1 hb2 hb3 hB3
  go_wp2_with fail
  refine wp_loop_rounds 2 ?_
  rw [rounds_succ]
  obtain ⟨w4, hw4⟩ : ∃ w4, w4 = w3.alloc (polO (qa, qb, true)) := ⟨_, rfl⟩
  have hb4 := belNew w3 (polO (qa, qb, true))
  have hp4 := heap_alloc_new w3 (polO (qa, qb, true))
  go_upto_region 7 with fail
  rw [← hw4]
  rw [← hw4] at hb4 hp4
  obtain ⟨n0, n1, -⟩ := cells3 hp4
  have H4 := Lib.hid (bel HB.out hb4)
  clear hw4 q0 q1 q2 y0 hv3 hb4 hp4
  refine wp_region_held_drew (S := (fun W => Below w4.heap.size w4 W)) (by kernel_rfl) ?_ (fun r0 => ?_)
  · exact ⟨rfl, rfl, rfl, Nat.le_refl _, fun _ _ => rfl⟩
  refine wpAnyH_take (i := 0) (v := ?_) rfl (by kernel_rfl) (by kernel_rfl) (by kernel_rfl) (fun _ _ _ h => h) (Or.inl ⟨by rfl, ?_⟩) (by assumption) ?_
  rotate_left
  · intro wS hSw
    (try dsimp only at hSw)
    go_simp
    first | done | with_reducible rfl
  try simp only [Act.put, List.getElem_toArray, List.getElem_cons_zero, List.setIfInBounds_toArray, List.set_cons_zero, List.set_cons_succ]
  refine wpAnyH_take (i := 1) (v := ?_) rfl (by kernel_rfl) (by kernel_rfl) (by kernel_rfl) (fun _ _ _ h => h) (Or.inl ⟨by rfl, ?_⟩) (by assumption) ?_
  rotate_left
  · intro wS hSw
    (try dsimp only at hSw)
    go_simp
    first | done | with_reducible rfl
  try simp only [Act.put, List.getElem_toArray, List.getElem_cons_succ, List.getElem_cons_zero, List.setIfInBounds_toArray, List.set_cons_zero, List.set_cons_succ]
  refine wpAnyH_take (i := 2) (v := ?_) rfl (by kernel_rfl) (by kernel_rfl) (by kernel_rfl) (fun _ _ _ h => h) (Or.inl ⟨by rfl, ?_⟩) (by assumption) ?_
  rotate_left
  · intro wS hSw
    (try dsimp only at hSw)
    have n0 := bcell hSw n0
    have n1 := bcell hSw n1
    go_simp
    first | done | with_reducible rfl
  try simp only [Act.put, List.getElem_toArray, List.getElem_cons_succ, List.getElem_cons_zero, List.setIfInBounds_toArray, List.set_cons_zero, List.set_cons_succ]
  refine wpAnyH_take (i := 4) (v := ?_) rfl (by kernel_rfl) (by kernel_rfl) (by kernel_rfl) (fun _ _ _ h => h) (Or.inl ⟨by rfl, ?_⟩) (by assumption) ?_
  rotate_left
  · intro wS hSw
    (try dsimp only at hSw)
    go_simp
    first | done | with_reducible rfl
  try simp only [Act.put, List.getElem_toArray, List.getElem_cons_succ, List.getElem_cons_zero, List.setIfInBounds_toArray, List.set_cons_zero, List.set_cons_succ]
  refine wpAnyH_take (i := 5) (v := ?_) rfl (by kernel_rfl) (by kernel_rfl) (by kernel_rfl) (fun _ _ _ h => h) (Or.inl ⟨by rfl, ?_⟩) (by assumption) ?_
  rotate_left
  · intro wS hSw
    (try dsimp only at hSw)
    go_simp
    first | done | with_reducible rfl
  try simp only [Act.put, List.getElem_toArray, List.getElem_cons_succ, List.getElem_cons_zero, List.setIfInBounds_toArray, List.set_cons_zero, List.set_cons_succ]
  refine wpAnyH_take (i := 6) (v := ?_) rfl (by kernel_rfl) (by kernel_rfl) (by kernel_rfl) (fun _ _ _ h => h) (Or.inl ⟨by rfl, ?_⟩) (by assumption) ?_
  rotate_left
  · intro wS hSw
    (try dsimp only at hSw)
    have n0 := bcell hSw n0
    have n1 := bcell hSw n1
    go_simp
    first | done | with_reducible rfl
  try simp only [Act.put, List.getElem_toArray, List.getElem_cons_succ, List.getElem_cons_zero, List.setIfInBounds_toArray, List.set_cons_zero, List.set_cons_succ]
  refine wpAnyH_ready (rs := [3]) (by kernel_rfl) (by simp) ?_
  refine AllReadyH.cons rfl (fun K hK => ?_) AllReadyH.nil
  go_simp
  refine (HZ.out _).mono ?_; rintro x w5 ⟨rfl, hb5⟩
  refine hK.out _ _ ?_ (fun r1 => ?_)
  · exact bel r0 hb5
  try simp only [Act.put, List.getElem_toArray, List.getElem_cons_succ, List.getElem_cons_zero, List.setIfInBounds_toArray, List.set_cons_zero, List.set_cons_succ]
  refine wpAnyH_ready (rs := [7]) (by kernel_rfl) (by simp) ?_
  refine AllReadyH.cons rfl (fun K hK => ?_) AllReadyH.nil
  go_simp
  refine (HN.out _).mono ?_; rintro x w6 ⟨rfl, hb6⟩
  refine hK.out _ _ ?_ (fun r2 => ?_)
  · exact bel r1 hb6
  try simp only [Act.put, List.getElem_toArray, List.getElem_cons_succ, List.getElem_cons_zero, List.setIfInBounds_toArray, List.set_cons_zero, List.set_cons_succ]
  refine wpAnyH_take (i := 8) (v := ?_) rfl (by kernel_rfl) (by kernel_rfl) (by kernel_rfl) (fun _ _ _ h => h) (Or.inl ⟨by rfl, ?_⟩) (by assumption) ?_
  rotate_left
  · intro wS hSw
    (try dsimp only at hSw)
    go_simp
    first | done | with_reducible rfl
  try simp only [Act.put, List.getElem_toArray, List.getElem_cons_succ, List.getElem_cons_zero, List.setIfInBounds_toArray, List.set_cons_zero, List.set_cons_succ]
  refine wpAnyH_take (i := 9) (v := ?_) rfl (by kernel_rfl) (by kernel_rfl) (by kernel_rfl) (fun _ _ _ h => h) (Or.inl ⟨by rfl, ?_⟩) (by assumption) ?_
  rotate_left
  · intro wS hSw
    (try dsimp only at hSw)
    go_simp
    first | done | with_reducible rfl
  try simp only [Act.put, List.getElem_toArray, List.getElem_cons_succ, List.getElem_cons_zero, List.setIfInBounds_toArray, List.set_cons_zero, List.set_cons_succ]
  refine wpAnyH_take (i := 10) (v := ?_) rfl (by kernel_rfl) (by kernel_rfl) (by kernel_rfl) (fun _ _ _ h => h) (Or.inl ⟨by rfl, ?_⟩) (by assumption) ?_
  rotate_left
  · intro wS hSw
    (try dsimp only at hSw)
    go_simp
    first | done | with_reducible rfl
  try simp only [Act.put, List.getElem_toArray, List.getElem_cons_succ, List.getElem_cons_zero, List.setIfInBounds_toArray, List.set_cons_zero, List.set_cons_succ]
  refine wpAnyH_done (by kernel_rfl) ?_ _
  have HR := Lib.hid r2
  go_wp2_with fail
  rw [rounds_succ]
  go_wp2_with fail
  go_ret
  exact ⟨rfl, bel H4.out HR.out⟩
end Go.Proofs.YtlbgjmnihenmaaaGreatDoor
