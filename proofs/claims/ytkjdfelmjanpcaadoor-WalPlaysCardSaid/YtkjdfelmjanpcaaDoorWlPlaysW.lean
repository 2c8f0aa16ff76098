/- The walk of WalPlays. Conditions: the world facts of Env. -/
import Derived.Test.YtkjdfelmjanpcaaDoorWlOpen
namespace Go.Proofs.YtkjdfelmjanpcaaDoor
open Go.RowKit Go.Maps
theorem bcells {w : World} {bb : Nat} {a b c d : Value} {t : TypeId} (h : w.heap[bb]? = some (.cells #[a, b, c, d] t (0, 0))) : w.cell? ⟨bb, 0, none⟩ = some a ∧ w.cell? ⟨bb, 1, none⟩ = some b ∧ w.cell? ⟨bb, 2, none⟩ = some c ∧ w.cell? ⟨bb, 3, none⟩ = some d := lcells h
set_option linter.unusedVariables false in
set_option linter.unusedSimpArgs false in
set_option maxRecDepth 100000 in
set_option maxHeartbeats 16000000 in
theorem lawPlays7 (w : World) (b : Value) (os : List Op7) (h : ArgOps7 w b os) (hE : Env w) :
    Calls Tryd.prog 3 #[b] w fun e w' => e = .returned (.bool true) ∧ Below w.heap.size w w' := by
  obtain ⟨⟨ao, c, rfl, hlc, hnil, hc⟩, hok, hm⟩ := h
  unfold maxLen at hm
  have HC0 := Lib.hid (And.intro hnil hc)
  have HO := Lib.hid hok
  clear hnil hc hok
  have qn2 := fun l W => neqNilP 28 l W (Or.inr rfl)
  go_enter Tryd.func3, Tryd.ntmps3
  go_wp2_with fail
  refine (new_disk w).mono ?_; rintro e w1 ⟨g, rfl, hD1, hg, hb1⟩
  go_wp2_with fail
  refine (New_r w1).mono ?_; rintro e w2 ⟨r, rfl, hR2, hr, hb2⟩
  have hz1 := hb1.size
  have hP2 : Pair w.heap.size w2 g (· = g) ⟨[], false, false, 0⟩ r (· = r) ⟨[], false, false, 0⟩ :=
    ⟨hD1.below hb2, hR2, (fun i hp hq => by have := hD1.lt hp; omega), (fun i e => by rw [e]; exact hg), fun i e => by rw [e]; omega⟩
  have hB2 := bel hb1 hb2
  have hbA := belNew w2 (.cells #[ptr g, .pointer none, ptr r, .pointer none] 30)
  have hcA := heap_alloc_new w2 (.cells #[ptr g, .pointer none, ptr r, .pointer none] 30)
  have hBA := belAlloc hB2 (.cells #[ptr g, .pointer none, ptr r, .pointer none] 30)
  obtain ⟨bb, hbb⟩ : ∃ bb, bb = w2.heap.size := ⟨_, rfl⟩
  have hbs : Base w.heap.size (w2.alloc (.cells #[ptr g, .pointer none, ptr r, .pointer none] 30)) bb g (· = g) r (· = r) ⟨[], false, false, 0⟩ (.pointer none) (.pointer none) :=
    ⟨hP2.below hbA, by rw [hbb]; exact hcA, (fun e => by have h1 := hP2.1.lt rfl; have h2 : bb = g := e; omega), (fun e => by have h1 := hP2.2.1.lt rfl; have h2 : bb = r := e; omega), by rw [hbb]; exact hB2.size⟩
  have HOP := bopen_first w.heap.size bb g (· = g) r (· = r) w _ hbs rfl hE hBA
  rw [hbb] at HOP
  have HOP := Lib.hid HOP
  have HBB := Lib.hid hbb
  have HBA := Lib.hid hBA
  clear hD1 hR2 hb1 hb2 hP2 hB2 hbA hcA hBA hbb hbs
  go_wp2_with fail
  refine HOP.out.mono ?_; rintro e w3 ⟨P3, Q3, D3, l3, m3, k3, rfl, hs3, hb3, hbs3, hl3, hm3, n1, n2, n3, n4, n5, n6, n7, n8, n9, n10⟩
  rw [← HBB.out] at hbs3 n6 n7
  have hB3 := HBA.out.trans hb3
  have hX3 : WX w.heap.size w3 bb g P3 r Q3 l3 m3 (⟨D3, k3, false⟩ : WSt).D (⟨D3, k3, false⟩ : WSt).D (⟨D3, k3, false⟩ : WSt).size (⟨D3, k3, false⟩ : WSt).dead (⟨D3, k3, false⟩ : WSt).size (⟨D3, k3, false⟩ : WSt).dead := ⟨hbs3.1, hbs3.2.1, hbs3.2.2.1, hbs3.2.2.2.1, hbs3.2.2.2.2, hl3, hm3, n1, n2, n3, n4, n5, n6, n7, n8, n9⟩
  obtain ⟨x0, x1, x2, x3⟩ := bcells hX3.2.1
  rw [HBB.out] at x0 x1 x2 x3
  have HX3 := Lib.hid hX3
  have HN := Lib.hid (And.intro hs3 n10)
  clear hX3 hbs3 hl3 hm3 n1 n2 n3 n4 n5 n6 n7 n8 n9 n10 hs3
  go_wp2_with fail
  (try rw [← HBB.out])
  go_loopw [22] (fun j wr => ∃ i : Nat, j = .int .i64 i ∧ i ≤ os.length ∧ i ≤ 30 ∧ ∃ (P Q : Nat → Prop) (l m : Nat) (S : WSt), WX w.heap.size wr bb g P r Q l m S.D S.D S.size S.dead S.size S.dead ∧ SmallF (3 * i + 3) S.D.fs ∧ S.size ≤ 50 * (3 * i + 3) ∧ Below w.heap.size w wr) (fun j _ => os.length - (intOf j).toNat)
  case atStart => exact ⟨0, rfl, Nat.zero_le _, Nat.zero_le _, P3, Q3, l3, m3, ⟨D3, k3, false⟩, HX3.out, HN.out.1.mono (by omega), (by have := HN.out.2; show k3 ≤ _; omega), hB3⟩
  case round =>
    obtain ⟨i, rfl, hi, hi30, P, Q, l, m, S, hX, hS, hSz, hB⟩ := hrel
    by_cases hlt : i < os.length
    · by_cases h30 : i < 30
      · have d0 : decide (30 ≤ (i : Int)) = false := by simp; omega
        obtain ⟨a, rfl⟩ : ∃ a, ao = some a := by
          cases ao with
          | none => rw [HC0.out.1 rfl] at hlt; simp at hlt
          | some a => exact ⟨a, rfl⟩
        have hse := HC0.out.2 a rfl i hlt
        have hok1 := HO.out (os.getD i default) (by simp [List.getD, hlt])
        generalize os.getD i default = o at hse hok1
        obtain ⟨k, pv, ps, n, kv, ks⟩ := o
        obtain ⟨k0, k1, k2, k3, hps, hks⟩ := hse
        simp only [] at k0 k1 k2 k3 hps hks
        obtain ⟨ko, kc, hkv, -⟩ := id hks
        obtain ⟨po, pc, hpv, -⟩ := id hps
        subst hkv
        subst hpv
        have e0 := (hB.cell (cell_lt8 k0)).trans k0
        have e1 : wr.cell? { block := (a.add (i * 4)).block, off := (a.add (i * 4)).off + 1 } = some (.slice po ps.length pc) := (hB.cell (cell_lt8 k1)).trans k1
        have e2 : wr.cell? { block := (a.add (i * 4)).block, off := (a.add (i * 4)).off + 2 } = some (.int .i64 n) := (hB.cell (cell_lt8 k2)).trans k2
        have e3 : wr.cell? { block := (a.add (i * 4)).block, off := (a.add (i * 4)).off + 3 } = some (.slice ko ks.length kc) := (hB.cell (cell_lt8 k3)).trans k3
        have hbA := belNew wr (.cells #[.int .i64 k, .slice po ps.length pc, .int .i64 n, .slice ko ks.length kc] 35)
        have hBA := belAlloc hB (.cells #[.int .i64 k, .slice po ps.length pc, .int .i64 n, .slice ko ks.length kc] 35)
        have b0 : (0 : Int) ≤ (i : Int) := by omega
        have b1 : (i : Int) < (os.length : Int) := by omega
        have HST := Lib.hid (wstep_any bb g P r Q l m S (3 * i + 3) k (.slice po ps.length pc) ps n (.slice ko ks.length kc) ks w _ ((hX.below hbA).below (belDrew _)) hS hSz (by omega) hok1.2.1 hps hok1.1 hks hok1.2.2 hE (bel hBA (belDrew _)))
        have HBA2 := Lib.hid (bel hBA (belDrew _))
        obtain ⟨wq, hwq⟩ : ∃ wq, wq = wr.alloc (.cells #[.int .i64 k, .slice po ps.length pc, .int .i64 n, .slice ko ks.length kc] 35) := ⟨_, rfl⟩
        rw [← hwq] at HST HBA2
        have hcq : wq.heap[wr.heap.size]? = some (.cells #[.int .i64 k, .slice po ps.length pc, .int .i64 n, .slice ko ks.length kc] 35 (0, 0)) := by rw [hwq]; exact heap_alloc_new wr _
        obtain ⟨y0, y1, y2, y3⟩ := lcells hcq
        have HWQ := Lib.hid hwq
        clear hX hS hSz k0 k1 k2 k3 hps hks hok1 hbA hBA hB hwq hcq
        go_wp2_with fail
        rw [← HWQ.out]
        refine wp_region_held_drew (S := fun _ => True) (by kernel_rfl) ?_ (fun r0 => ?_)
        · trivial
        refine wpAnyH_ready (rs := [0]) (by kernel_rfl) (by simp) ?_
        refine AllReadyH.cons rfl (fun K hK => ?_) AllReadyH.nil
        have u0 : wq.drew.cell? ⟨wr.heap.size, 0, none⟩ = some (.int .i64 k) := y0
        have u1 : wq.drew.cell? ⟨wr.heap.size, 1, none⟩ = some (.slice po ps.length pc) := y1
        have u2' : wq.drew.cell? ⟨wr.heap.size, 2, none⟩ = some (.int .i64 n) := y2
        have u3' : wq.drew.cell? ⟨wr.heap.size, 3, none⟩ = some (.slice ko ks.length kc) := y3
        go_simp
        refine hK.out _ _ trivial (fun r1 => ?_)
        try simp only [Act.put, List.getElem_toArray, List.getElem_cons_succ, List.getElem_cons_zero, List.setIfInBounds_toArray, List.set_cons_zero, List.set_cons_succ]
        refine wpAnyH_ready (rs := [1]) (by kernel_rfl) (by simp) ?_
        refine AllReadyH.cons rfl (fun K hK => ?_) AllReadyH.nil
        go_simp
        refine (HST.out).mono ?_; rintro e w4 ⟨P4, Q4, l4, m4, S4, rfl, hX4, hS4, hz4, hb4⟩
        refine hK.out _ _ trivial (fun r2 => ?_)
        try simp only [Act.put, List.getElem_toArray, List.getElem_cons_succ, List.getElem_cons_zero, List.setIfInBounds_toArray, List.set_cons_zero, List.set_cons_succ]
        have hB4 := HBA2.out.trans hb4
        obtain ⟨v0, v1, v2, v3⟩ := bcells hX4.2.1
        obtain ⟨-, -, o2, o3⟩ := lcells hX4.2.2.2.2.2.2.1
        obtain ⟨z1, hz5, -⟩ := hX4.1.2.1
        obtain ⟨-, p1, -⟩ := rcells hz5
        refine wpAnyH_mono (S' := (fun W => W.cell? ⟨bb, 0, none⟩ = some (ptr g) ∧ W.cell? ⟨bb, 1, none⟩ = some (ptr l4) ∧ W.cell? ⟨bb, 2, none⟩ = some (ptr r) ∧ W.cell? ⟨bb, 3, none⟩ = some (ptr m4) ∧ W.cell? ⟨m4, 2, none⟩ = some (.int .i64 (S4.size : Nat)) ∧ W.cell? ⟨m4, 3, none⟩ = some (.bool S4.dead) ∧ W.cell? ⟨r, 1, none⟩ = some (.bool S4.D.lost))) (fun _ _ => trivial) _ _ _ _ ?_
        have r3 : (fun W => W.cell? ⟨bb, 0, none⟩ = some (ptr g) ∧ W.cell? ⟨bb, 1, none⟩ = some (ptr l4) ∧ W.cell? ⟨bb, 2, none⟩ = some (ptr r) ∧ W.cell? ⟨bb, 3, none⟩ = some (ptr m4) ∧ W.cell? ⟨m4, 2, none⟩ = some (.int .i64 (S4.size : Nat)) ∧ W.cell? ⟨m4, 3, none⟩ = some (.bool S4.dead) ∧ W.cell? ⟨r, 1, none⟩ = some (.bool S4.D.lost)) w4 := ⟨v0, v1, v2, v3, o2, o3, p1⟩
        refine wpAnyH_take (i := 2) (v := ?_) rfl (by kernel_rfl) (by kernel_rfl) (by kernel_rfl) (fun _ _ _ h => h) (Or.inl ⟨by rfl, ?_⟩) (by assumption) ?_
        rotate_left
        · intro w hSw
          (try dsimp only at hSw)
          go_simp
          first | done | with_reducible rfl
        try simp only [Act.put, List.getElem_toArray, List.getElem_cons_succ, List.getElem_cons_zero, List.setIfInBounds_toArray, List.set_cons_zero, List.set_cons_succ]
        refine wpAnyH_take (i := 3) (v := ?_) rfl (by kernel_rfl) (by kernel_rfl) (by kernel_rfl) (fun _ _ _ h => h) (Or.inl ⟨by rfl, ?_⟩) (by assumption) ?_
        rotate_left
        · intro w hSw
          (try dsimp only at hSw)
          go_simp
          first | done | with_reducible rfl
        try simp only [Act.put, List.getElem_toArray, List.getElem_cons_succ, List.getElem_cons_zero, List.setIfInBounds_toArray, List.set_cons_zero, List.set_cons_succ]
        refine wpAnyH_take (i := 4) (v := ?_) rfl (by kernel_rfl) (by kernel_rfl) (by kernel_rfl) (fun _ _ _ h => h) (Or.inl ⟨by rfl, ?_⟩) (by assumption) ?_
        rotate_left
        · intro w hSw
          (try dsimp only at hSw)
          go_simp
          first | done | with_reducible rfl
        try simp only [Act.put, List.getElem_toArray, List.getElem_cons_succ, List.getElem_cons_zero, List.setIfInBounds_toArray, List.set_cons_zero, List.set_cons_succ]
        refine wpAnyH_take (i := 5) (v := ?_) rfl (by kernel_rfl) (by kernel_rfl) (by kernel_rfl) (fun _ _ _ h => h) (Or.inl ⟨by rfl, ?_⟩) (by assumption) ?_
        rotate_left
        · intro w hSw
          (try dsimp only at hSw)
          go_simp
          first | done | with_reducible rfl
        try simp only [Act.put, List.getElem_toArray, List.getElem_cons_succ, List.getElem_cons_zero, List.setIfInBounds_toArray, List.set_cons_zero, List.set_cons_succ]
        refine wpAnyH_take (i := 7) (v := ?_) rfl (by kernel_rfl) (by kernel_rfl) (by kernel_rfl) (fun _ _ _ h => h) (Or.inl ⟨by rfl, ?_⟩) (by assumption) ?_
        rotate_left
        · intro w hSw
          (try dsimp only at hSw)
          go_simp
          first | done | with_reducible rfl
        try simp only [Act.put, List.getElem_toArray, List.getElem_cons_succ, List.getElem_cons_zero, List.setIfInBounds_toArray, List.set_cons_zero, List.set_cons_succ]
        refine wpAnyH_take (i := 8) (v := ?_) rfl (by kernel_rfl) (by kernel_rfl) (by kernel_rfl) (fun _ _ _ h => h) (Or.inl ⟨by rfl, ?_⟩) (by assumption) ?_
        rotate_left
        · intro w hSw
          (try dsimp only at hSw)
          go_simp
          first | done | with_reducible rfl
        try simp only [Act.put, List.getElem_toArray, List.getElem_cons_succ, List.getElem_cons_zero, List.setIfInBounds_toArray, List.set_cons_zero, List.set_cons_succ]
        refine wpAnyH_take (i := 9) (v := ?_) rfl (by kernel_rfl) (by kernel_rfl) (by kernel_rfl) (fun _ _ _ h => h) (Or.inl ⟨by rfl, ?_⟩) (by assumption) ?_
        rotate_left
        · intro w hSw
          (try dsimp only at hSw)
          go_simp
          first | done | with_reducible rfl
        try simp only [Act.put, List.getElem_toArray, List.getElem_cons_succ, List.getElem_cons_zero, List.setIfInBounds_toArray, List.set_cons_zero, List.set_cons_succ]
        refine wpAnyH_take (i := 10) (v := ?_) rfl (by kernel_rfl) (by kernel_rfl) (by kernel_rfl) (fun _ _ _ h => h) (Or.inl ⟨by rfl, ?_⟩) (by assumption) ?_
        rotate_left
        · intro w hSw
          (try dsimp only at hSw)
          go_simp
          first | done | with_reducible rfl
        try simp only [Act.put, List.getElem_toArray, List.getElem_cons_succ, List.getElem_cons_zero, List.setIfInBounds_toArray, List.set_cons_zero, List.set_cons_succ]
        refine wpAnyH_take (i := 11) (v := ?_) rfl (by kernel_rfl) (by kernel_rfl) (by kernel_rfl) (fun _ _ _ h => h) (Or.inl ⟨by rfl, ?_⟩) (by assumption) ?_
        rotate_left
        · intro w hSw
          (try dsimp only at hSw)
          go_simp
          first | done | with_reducible rfl
        try simp only [Act.put, List.getElem_toArray, List.getElem_cons_succ, List.getElem_cons_zero, List.setIfInBounds_toArray, List.set_cons_zero, List.set_cons_succ]
        refine wpAnyH_ready (rs := [6]) (by kernel_rfl) (by simp) ?_
        refine AllReadyH.cons rfl (fun K hK => ?_) AllReadyH.nil
        go_simp
        refine (lsize_any l4 g nW S4.size S4.dead w4 hX4.2.2.2.2.2.1).mono ?_; rintro e w' ⟨rfl, rfl⟩
        refine hK.out _ _ r3 (fun r4 => ?_)
        try simp only [Act.put, List.getElem_toArray, List.getElem_cons_succ, List.getElem_cons_zero, List.setIfInBounds_toArray, List.set_cons_zero, List.set_cons_succ]
        refine wpAnyH_take (i := 12) (v := ?_) rfl (by kernel_rfl) (by kernel_rfl) (by kernel_rfl) (fun _ _ _ h => h) (Or.inl ⟨by rfl, ?_⟩) (by assumption) ?_
        rotate_left
        · intro w hSw
          (try dsimp only at hSw)
          go_simp
          first | done | with_reducible rfl
        try simp only [Act.put, List.getElem_toArray, List.getElem_cons_succ, List.getElem_cons_zero, List.setIfInBounds_toArray, List.set_cons_zero, List.set_cons_succ]
        refine wpAnyH_take (i := 13) (v := ?_) rfl (by kernel_rfl) (by kernel_rfl) (by kernel_rfl) (fun _ _ _ h => h) (Or.inl ⟨by rfl, ?_⟩) (by assumption) ?_
        rotate_left
        · intro w hSw
          (try dsimp only at hSw)
          go_simp
          first | done | with_reducible rfl
        try simp only [Act.put, List.getElem_toArray, List.getElem_cons_succ, List.getElem_cons_zero, List.setIfInBounds_toArray, List.set_cons_zero, List.set_cons_succ]
        refine wpAnyH_take (i := 14) (v := ?_) rfl (by kernel_rfl) (by kernel_rfl) (by kernel_rfl) (fun _ _ _ h => h) (Or.inl ⟨by rfl, ?_⟩) (by assumption) ?_
        rotate_left
        · intro w hSw
          (try dsimp only at hSw)
          go_simp
          first | done | with_reducible rfl
        try simp only [Act.put, List.getElem_toArray, List.getElem_cons_succ, List.getElem_cons_zero, List.setIfInBounds_toArray, List.set_cons_zero, List.set_cons_succ]
        refine wpAnyH_take (i := 15) (v := ?_) rfl (by kernel_rfl) (by kernel_rfl) (by kernel_rfl) (fun _ _ _ h => h) (Or.inl ⟨by rfl, ?_⟩) (by assumption) ?_
        rotate_left
        · intro w hSw
          (try dsimp only at hSw)
          go_simp
          first | done | with_reducible rfl
        try simp only [Act.put, List.getElem_toArray, List.getElem_cons_succ, List.getElem_cons_zero, List.setIfInBounds_toArray, List.set_cons_zero, List.set_cons_succ]
        refine wpAnyH_take (i := 16) (v := ?_) rfl (by kernel_rfl) (by kernel_rfl) (by kernel_rfl) (fun _ _ _ h => h) (Or.inl ⟨by rfl, ?_⟩) (by assumption) ?_
        rotate_left
        · intro w hSw
          (try dsimp only at hSw)
          go_simp
          first | done | with_reducible rfl
        try simp only [Act.put, List.getElem_toArray, List.getElem_cons_succ, List.getElem_cons_zero, List.setIfInBounds_toArray, List.set_cons_zero, List.set_cons_succ]
        refine wpAnyH_take (i := 18) (v := ?_) rfl (by kernel_rfl) (by kernel_rfl) (by kernel_rfl) (fun _ _ _ h => h) (Or.inl ⟨by rfl, ?_⟩) (by assumption) ?_
        rotate_left
        · intro w hSw
          (try dsimp only at hSw)
          go_simp
          first | done | with_reducible rfl
        try simp only [Act.put, List.getElem_toArray, List.getElem_cons_succ, List.getElem_cons_zero, List.setIfInBounds_toArray, List.set_cons_zero, List.set_cons_succ]
        refine wpAnyH_take (i := 19) (v := ?_) rfl (by kernel_rfl) (by kernel_rfl) (by kernel_rfl) (fun _ _ _ h => h) (Or.inl ⟨by rfl, ?_⟩) (by assumption) ?_
        rotate_left
        · intro w hSw
          (try dsimp only at hSw)
          go_simp
          first | done | with_reducible rfl
        try simp only [Act.put, List.getElem_toArray, List.getElem_cons_succ, List.getElem_cons_zero, List.setIfInBounds_toArray, List.set_cons_zero, List.set_cons_succ]
        refine wpAnyH_take (i := 20) (v := ?_) rfl (by kernel_rfl) (by kernel_rfl) (by kernel_rfl) (fun _ _ _ h => h) (Or.inl ⟨by rfl, ?_⟩) (by assumption) ?_
        rotate_left
        · intro w hSw
          (try dsimp only at hSw)
          go_simp
          first | done | with_reducible rfl
        try simp only [Act.put, List.getElem_toArray, List.getElem_cons_succ, List.getElem_cons_zero, List.setIfInBounds_toArray, List.set_cons_zero, List.set_cons_succ]
        refine wpAnyH_take (i := 21) (v := ?_) rfl (by kernel_rfl) (by kernel_rfl) (by kernel_rfl) (fun _ _ _ h => h) (Or.inl ⟨by rfl, ?_⟩) (by assumption) ?_
        rotate_left
        · intro w hSw
          (try dsimp only at hSw)
          go_simp
          first | done | with_reducible rfl
        try simp only [Act.put, List.getElem_toArray, List.getElem_cons_succ, List.getElem_cons_zero, List.setIfInBounds_toArray, List.set_cons_zero, List.set_cons_succ]
        refine wpAnyH_take (i := 22) (v := ?_) rfl (by kernel_rfl) (by kernel_rfl) (by kernel_rfl) (fun _ _ _ h => h) (Or.inl ⟨by rfl, ?_⟩) (by assumption) ?_
        rotate_left
        · intro w hSw
          (try dsimp only at hSw)
          go_simp
          first | done | with_reducible rfl
        try simp only [Act.put, List.getElem_toArray, List.getElem_cons_succ, List.getElem_cons_zero, List.setIfInBounds_toArray, List.set_cons_zero, List.set_cons_succ]
        refine wpAnyH_ready (rs := [17]) (by kernel_rfl) (by simp) ?_
        refine AllReadyH.cons rfl (fun K hK => ?_) AllReadyH.nil
        go_simp
        refine (ldead_any l4 g nW S4.size S4.dead w4 hX4.2.2.2.2.2.1).mono ?_; rintro e w' ⟨rfl, rfl⟩
        refine hK.out _ _ r3 (fun r5 => ?_)
        try simp only [Act.put, List.getElem_toArray, List.getElem_cons_succ, List.getElem_cons_zero, List.setIfInBounds_toArray, List.set_cons_zero, List.set_cons_succ]
        refine wpAnyH_take (i := 23) (v := ?_) rfl (by kernel_rfl) (by kernel_rfl) (by kernel_rfl) (fun _ _ _ h => h) (Or.inl ⟨by rfl, ?_⟩) (by assumption) ?_
        rotate_left
        · intro w hSw
          (try dsimp only at hSw)
          go_simp
          first | done | with_reducible rfl
        try simp only [Act.put, List.getElem_toArray, List.getElem_cons_succ, List.getElem_cons_zero, List.setIfInBounds_toArray, List.set_cons_zero, List.set_cons_succ]
        refine wpAnyH_take (i := 24) (v := ?_) rfl (by kernel_rfl) (by kernel_rfl) (by kernel_rfl) (fun _ _ _ h => h) (Or.inl ⟨by rfl, ?_⟩) (by assumption) ?_
        rotate_left
        · intro w hSw
          (try dsimp only at hSw)
          go_simp
          first | done | with_reducible rfl
        try simp only [Act.put, List.getElem_toArray, List.getElem_cons_succ, List.getElem_cons_zero, List.setIfInBounds_toArray, List.set_cons_zero, List.set_cons_succ]
        refine wpAnyH_take (i := 25) (v := ?_) rfl (by kernel_rfl) (by kernel_rfl) (by kernel_rfl) (fun _ _ _ h => h) (Or.inl ⟨by rfl, ?_⟩) (by assumption) ?_
        rotate_left
        · intro w hSw
          (try dsimp only at hSw)
          go_simp
          first | done | with_reducible rfl
        try simp only [Act.put, List.getElem_toArray, List.getElem_cons_succ, List.getElem_cons_zero, List.setIfInBounds_toArray, List.set_cons_zero, List.set_cons_succ]
        refine wpAnyH_take (i := 26) (v := ?_) rfl (by kernel_rfl) (by kernel_rfl) (by kernel_rfl) (fun _ _ _ h => h) (Or.inl ⟨by rfl, ?_⟩) (by assumption) ?_
        rotate_left
        · intro w hSw
          (try dsimp only at hSw)
          go_simp
          first | done | with_reducible rfl
        try simp only [Act.put, List.getElem_toArray, List.getElem_cons_succ, List.getElem_cons_zero, List.setIfInBounds_toArray, List.set_cons_zero, List.set_cons_succ]
        refine wpAnyH_take (i := 27) (v := ?_) rfl (by kernel_rfl) (by kernel_rfl) (by kernel_rfl) (fun _ _ _ h => h) (Or.inl ⟨by rfl, ?_⟩) (by assumption) ?_
        rotate_left
        · intro w hSw
          (try dsimp only at hSw)
          go_simp
          first | done | with_reducible rfl
        try simp only [Act.put, List.getElem_toArray, List.getElem_cons_succ, List.getElem_cons_zero, List.setIfInBounds_toArray, List.set_cons_zero, List.set_cons_succ]
        refine wpAnyH_take (i := 29) (v := ?_) rfl (by kernel_rfl) (by kernel_rfl) (by kernel_rfl) (fun _ _ _ h => h) (Or.inl ⟨by rfl, ?_⟩) (by assumption) ?_
        rotate_left
        · intro w hSw
          (try dsimp only at hSw)
          go_simp
          first | done | with_reducible rfl
        try simp only [Act.put, List.getElem_toArray, List.getElem_cons_succ, List.getElem_cons_zero, List.setIfInBounds_toArray, List.set_cons_zero, List.set_cons_succ]
        refine wpAnyH_take (i := 30) (v := ?_) rfl (by kernel_rfl) (by kernel_rfl) (by kernel_rfl) (fun _ _ _ h => h) (Or.inl ⟨by rfl, ?_⟩) (by assumption) ?_
        rotate_left
        · intro w hSw
          (try dsimp only at hSw)
          go_simp
          first | done | with_reducible rfl
        try simp only [Act.put, List.getElem_toArray, List.getElem_cons_succ, List.getElem_cons_zero, List.setIfInBounds_toArray, List.set_cons_zero, List.set_cons_succ]
        refine wpAnyH_take (i := 31) (v := ?_) rfl (by kernel_rfl) (by kernel_rfl) (by kernel_rfl) (fun _ _ _ h => h) (Or.inl ⟨by rfl, ?_⟩) (by assumption) ?_
        rotate_left
        · intro w hSw
          (try dsimp only at hSw)
          go_simp
          first | done | with_reducible rfl
        try simp only [Act.put, List.getElem_toArray, List.getElem_cons_succ, List.getElem_cons_zero, List.setIfInBounds_toArray, List.set_cons_zero, List.set_cons_succ]
        refine wpAnyH_take (i := 32) (v := ?_) rfl (by kernel_rfl) (by kernel_rfl) (by kernel_rfl) (fun _ _ _ h => h) (Or.inl ⟨by rfl, ?_⟩) (by assumption) ?_
        rotate_left
        · intro w hSw
          (try dsimp only at hSw)
          go_simp
          first | done | with_reducible rfl
        try simp only [Act.put, List.getElem_toArray, List.getElem_cons_succ, List.getElem_cons_zero, List.setIfInBounds_toArray, List.set_cons_zero, List.set_cons_succ]
        refine wpAnyH_take (i := 33) (v := ?_) rfl (by kernel_rfl) (by kernel_rfl) (by kernel_rfl) (fun _ _ _ h => h) (Or.inl ⟨by rfl, ?_⟩) (by assumption) ?_
        rotate_left
        · intro w hSw
          (try dsimp only at hSw)
          go_simp
          first | done | with_reducible rfl
        try simp only [Act.put, List.getElem_toArray, List.getElem_cons_succ, List.getElem_cons_zero, List.setIfInBounds_toArray, List.set_cons_zero, List.set_cons_succ]
        refine wpAnyH_ready (rs := [28]) (by kernel_rfl) (by simp) ?_
        refine AllReadyH.cons rfl (fun K hK => ?_) AllReadyH.nil
        go_simp
        refine (lost_any g P4 S4.D w4 hX4.1.1).mono ?_; rintro e w' ⟨rfl, rfl⟩
        refine hK.out _ _ r3 (fun r6 => ?_)
        try simp only [Act.put, List.getElem_toArray, List.getElem_cons_succ, List.getElem_cons_zero, List.setIfInBounds_toArray, List.set_cons_zero, List.set_cons_succ]
        refine wpAnyH_take (i := 34) (v := ?_) rfl (by kernel_rfl) (by kernel_rfl) (by kernel_rfl) (fun _ _ _ h => h) (Or.inl ⟨by rfl, ?_⟩) (by assumption) ?_
        rotate_left
        · intro w hSw
          (try dsimp only at hSw)
          go_simp
          first | done | with_reducible rfl
        try simp only [Act.put, List.getElem_toArray, List.getElem_cons_succ, List.getElem_cons_zero, List.setIfInBounds_toArray, List.set_cons_zero, List.set_cons_succ]
        refine wpAnyH_take (i := 35) (v := ?_) rfl (by kernel_rfl) (by kernel_rfl) (by kernel_rfl) (fun _ _ _ h => h) (Or.inl ⟨by rfl, ?_⟩) (by assumption) ?_
        rotate_left
        · intro w hSw
          (try dsimp only at hSw)
          go_simp
          first | done | with_reducible rfl
        try simp only [Act.put, List.getElem_toArray, List.getElem_cons_succ, List.getElem_cons_zero, List.setIfInBounds_toArray, List.set_cons_zero, List.set_cons_succ]
        refine wpAnyH_done (by kernel_rfl) ?_ _
        have HRD := Lib.hid (read_any g P4 S4.D nW w4 hX4.1.1 (by decide) (by have := (hS4.getD nW.data.toList).1; omega))
        have HRR := Lib.hid (fun W hW => Read_r r Q4 S4.D nW W hW (by have := hS4.1; omega))
        obtain ⟨xs, hxs⟩ : ∃ xs, xs = (readD S4.D nW.data.toList).1 := ⟨_, rfl⟩
        obtain ⟨er, her⟩ : ∃ er, er = (readD S4.D nW.data.toList).2 := ⟨_, rfl⟩
        have HRD : Hid (Calls Tryd.prog 17 #[ptr g, .string nW] w4 fun e w' => ∃ v, e = .returned (.tuple #[v, .int .i64 er]) ∧ Owns w' w4.heap.size v xs ∧ Below w4.heap.size w4 w') := by rw [hxs, her]; exact HRD
        have HRR : Hid (∀ W, RefAt W r Q4 S4.D → Calls Tryd.prog 18 #[ptr r, .string nW] W fun e w' => e = .returned (.tuple #[.string (strOfNums xs), .int .i64 er]) ∧ Below W.heap.size W w') := by rw [hxs, her]; exact HRR
        have HX4 := Lib.hid hX4
        have HS4 := Lib.hid (And.intro hS4 (And.intro hz4 hB4))
        clear hxs her r0 r1 r2 r3 r4 r5 r6 hX4 hS4 hz4 hB4 hb4 o2 o3 p1 hz5
        go_wp2_with fail
        refine HRD.out.mono ?_; rintro e w5 ⟨v5, rfl, ho5, hb5⟩
        have hX5 := HX4.out.below hb5
        obtain ⟨a0, a1, a2, a3⟩ := bcells hX5.2.1
        have HX5 := Lib.hid (And.intro hX5 (And.intro ho5 hb5))
        clear hX5 ho5 hb5
        go_wp2_with fail
        refine (HRR.out w5 HX5.out.1.1.2.1).mono ?_; rintro e w6 ⟨rfl, hb6⟩
        have q1 := conv_sees (HX5.out.2.1.sees.keep hb6)
        have HX6 := Lib.hid (HX5.out.1.below hb6)
        have HB6 := Lib.hid (bel (bel HS4.out.2.2 HX5.out.2.2) hb6)
        clear hb6
        go_wp2_with fail
        go_roundw
        case rel => exact ⟨i + 1, by go_num, by omega, by omega, P4, Q4, l4, m4, S4, HX6.out, by rw [show 3 * (i + 1) + 3 = 3 * i + 3 + 3 from by omega]; exact HS4.out.1, by rw [show 3 * (i + 1) + 3 = 3 * i + 3 + 3 from by omega]; exact HS4.out.2.1, HB6.out⟩
        case measure => simp [intOf]; omega
      · have d0 : decide (30 ≤ (i : Int)) = true := by simp; omega
        obtain ⟨a, rfl⟩ : ∃ a, ao = some a := by
          cases ao with
          | none => rw [HC0.out.1 rfl] at hlt; simp at hlt
          | some a => exact ⟨a, rfl⟩
        have hse := HC0.out.2 a rfl i hlt
        have hok1 := HO.out (os.getD i default) (by simp [List.getD, hlt])
        generalize os.getD i default = o at hse hok1
        obtain ⟨k, pv, ps, n, kv, ks⟩ := o
        obtain ⟨k0, k1, k2, k3, hps, hks⟩ := hse
        simp only [] at k0 k1 k2 k3 hps hks
        obtain ⟨ko, kc, hkv, -⟩ := id hks
        obtain ⟨po, pc, hpv, -⟩ := id hps
        subst hkv
        subst hpv
        have e0 := (hB.cell (cell_lt8 k0)).trans k0
        have e1 : wr.cell? { block := (a.add (i * 4)).block, off := (a.add (i * 4)).off + 1 } = some (.slice po ps.length pc) := (hB.cell (cell_lt8 k1)).trans k1
        have e2 : wr.cell? { block := (a.add (i * 4)).block, off := (a.add (i * 4)).off + 2 } = some (.int .i64 n) := (hB.cell (cell_lt8 k2)).trans k2
        have e3 : wr.cell? { block := (a.add (i * 4)).block, off := (a.add (i * 4)).off + 3 } = some (.slice ko ks.length kc) := (hB.cell (cell_lt8 k3)).trans k3
        have hbA := belNew wr (.cells #[.int .i64 k, .slice po ps.length pc, .int .i64 n, .slice ko ks.length kc] 35)
        have hBA := belAlloc hB (.cells #[.int .i64 k, .slice po ps.length pc, .int .i64 n, .slice ko ks.length kc] 35)
        have b0 : (0 : Int) ≤ (i : Int) := by omega
        have b1 : (i : Int) < (os.length : Int) := by omega
        have HAW := Lib.hid (awake7_any _ (hE.below hBA))
        have HBA2 := Lib.hid hBA
        clear hX hS hSz k0 k1 k2 k3 hps hks hok1 hbA hBA hB
        go_wp2_with fail
        refine HAW.out.mono ?_; rintro e w5 ⟨rfl, hb5⟩
        go_wp2_with fail
        go_ret
        exact ⟨rfl, bel HBA2.out hb5⟩
    · obtain rfl : i = os.length := by omega
      have HAW := Lib.hid (awake7_any _ (hE.below hB))
      have HBA2 := Lib.hid hB
      clear hX hS hSz hB
      go_wp2_with fail
      refine HAW.out.mono ?_; rintro e w5 ⟨rfl, hb5⟩
      go_wp2_with fail
      go_ret
      exact ⟨rfl, bel HBA2.out hb5⟩
end Go.Proofs.YtkjdfelmjanpcaaDoor
