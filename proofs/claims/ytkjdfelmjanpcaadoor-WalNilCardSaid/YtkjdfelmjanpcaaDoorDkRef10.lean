/- The document's own disk: Crash. -/
import Derived.Test.YtkjdfelmjanpcaaDoorDkRef9
namespace Go.Proofs.YtkjdfelmjanpcaaDoor
open Go.RowKit Go.Maps
theorem wp_pushF {w0 : World} {o : Oper} {a : Act} {K : Act → World → Prop} {Q : Exit → Act → World → Prop} (s x : Operand)
    (ho : o.op = .call { callee := .builtin .append, args := #[s, x], argTypes := #[40, 40] }) (B : Nat) (v : Value) (L : List FEnt) (nm : ByteArray) (u : List Int × Nat)
    (k : Nat) (hk : k = w0.heap.size) (hs : a.eval s = v) (hx : a.eval x = .slice (some ⟨k, 0, none⟩) 1 1) (hrow : RowF w0 B v L) (hlen : L.length ≤ 1000001) (hB : B ≤ w0.heap.size)
    (h : ∀ v' w', RowF w' B v' (L ++ [(nm.data.toList, u)]) → Below B w0 w' → w0.grownBy w' v.ownBlock → K (a.put o.dst v') w') :
    o.wp Tryd.prog a (w0.alloc (.cells #[.string nm, .string (strOfNums u.1), .int .i64 (u.2 : Nat)] 89)) K Q := by
  subst hk
  obtain ⟨i0, hi, hz0, hz1, hz2⟩ := info_parts info62
  have hbk := heap_alloc_new w0 (.cells #[.string nm, .string (strOfNums u.1), .int .i64 (u.2 : Nat)] 89)
  refine wp_append_own _ s x 40 ho B 89 i0 zeroR 3 40 Tryd.underlying40 hi hz0 hz1 hz2 rfl (by decide) v _ _ hs (hrow.alloc _) ⟨w0.heap.size, 0, none⟩ 1 1 [.string nm, .string (strOfNums u.1), .int .i64 (u.2 : Nat)] hx rfl (fun j y hj => ?_) ?_ (by unfold maxLen; omega) (by omega) (by simp; omega) ?_
  · rw [add0]
    rcases j with _ | _ | _ | j
    · obtain rfl : Value.string nm = y := by simpa using hj
      exact (rcells hbk).1
    · obtain rfl : Value.string (strOfNums u.1) = y := by simpa using hj
      exact (rcells hbk).2.1
    · obtain rfl : Value.int .i64 (u.2 : Nat) = y := by simpa using hj
      exact (rcells hbk).2.2
    · simp at hj
  · intro y hy
    simp only [List.mem_cons, List.not_mem_nil, or_false] at hy
    rcases hy with rfl | rfl | rfl <;> rfl
  · intro v' w' hown' hgrow _
    have hg0 : w0.grownBy w' v.ownBlock := World.grownBy.trans (b := w0.alloc (.cells #[.string nm, .string (strOfNums u.1), .int .i64 (u.2 : Nat)] 89)) ⟨rfl, rfl, rfl, by simp, fun k hk _ => Below.heap_alloc w0 _ k hk⟩ hgrow
    refine h v' w' ?_ ((Below.refl B w0).grown hg0 hB (fun k hk => (hrow.lt k hk).1)) hg0
    have e1 : (L ++ [(nm.data.toList, u)]).length = L.length + 1 := by simp
    have e2 : (L ++ [(nm.data.toList, u)]).flatMap encF = L.flatMap encF ++ [.string nm, .string (strOfNums u.1), .int .i64 (u.2 : Nat)] := by simp [List.flatMap_append, encF]
    show w'.ownsRow _ _ _ _ _ _
    rw [e1, e2]
    exact hown'
set_option maxRecDepth 100000 in
set_option maxHeartbeats 4000000 in
theorem Crash_r (r : Nat) (Q : Nat → Prop) (D : DSt) (kv : Value) (ks : List Int) (w : World) (h : RefAt w r Q D) (hn : D.fs.length ≤ 1000000) (hall : ∀ f ∈ D.fs, f.2.2 ≤ f.2.1.length ∧ f.2.1.length ≤ 100000000000)
    (hk : SeesU w kv ks) (hkb : ∀ x ∈ ks, 0 ≤ x ∧ x < 65536) :
    Calls Tryd.prog 34 #[ptr r, kv] w fun e w' => ∃ Q', e = .returned (.tuple #[]) ∧ RefAt w' r Q' (crashD D ks) ∧ Step Q Q' w w' := by
  obtain ⟨v, h1, h2, h3, h4, h5, h6, h7⟩ := h
  obtain ⟨ko, kc, rfl, hkc, hkn, hkcell⟩ := hk
  have HK := Lib.hid (show SeesU w (.slice ko ks.length kc) ks from ⟨ko, kc, rfl, hkc, hkn, hkcell⟩)
  have HKB := Lib.hid hkb
  have HA := Lib.hid hall
  have HH := Lib.hid (And.intro h1 h2)
  have hrl := heap_lt h1
  obtain ⟨c0, -⟩ := rcells h1
  obtain ⟨ao, c, rfl, hlc, hnil, hc⟩ := h2.sees
  have HC := Lib.hid (And.intro hnil hc)
  clear hkcell hkb hall hkn hnil hc h1 h2
  go_enter Tryd.func34, Tryd.ntmps34
  go_wp2_with fail
  go_loopw [4, 13] (fun x j wr => ∃ i : Nat, i ≤ D.fs.length ∧ j = .int .i64 i ∧ Below w.heap.size w wr ∧ RowF wr w.heap.size x (crashF ks 0 (D.fs.take i))) (fun _ j _ => D.fs.length - (intOf j).toNat)
  case atStart => exact ⟨0, Nat.zero_le _, rfl, Below.refl _ _, World.ownsRow_nil _ _ _ _⟩
  case round =>
    obtain ⟨i, hi, rfl, hB, hrow⟩ := hrel
    by_cases hlt : i < D.fs.length
    · obtain ⟨a, rfl⟩ : ∃ a, ao = some a := by
        cases ao with
        | none => rw [HC.out.1 rfl] at hlt; simp at hlt
        | some a => exact ⟨a, rfl⟩
      obtain ⟨g, rfl, hg, hcs⟩ := HC.out.2 a rfl
      obtain ⟨q0, q1, q2⟩ := hcs i D.fs[i] (List.getElem?_eq_getElem hlt)
      have q0 := (hB.cell (cell_lt8 q0)).trans q0
      have q1 := (hB.cell (cell_lt8 q1)).trans q1
      have q2 := (hB.cell (cell_lt8 q2)).trans q2
      have hA2 := HA.out _ (List.getElem_mem hlt)
      have hKr := HK.out.keep (w' := wr) (fun d hd hlt => hB.block d hlt)
      obtain ⟨k, hk⟩ : ∃ k, k = D.fs[i].1 := ⟨_, rfl⟩
      obtain ⟨u, hu⟩ : ∃ u, u = D.fs[i].2 := ⟨_, rfl⟩
      rw [← hk] at q0
      rw [← hu] at q1 q2 hA2
      obtain ⟨hsu, ul⟩ := hA2
      obtain ⟨N, hN⟩ : ∃ N, N = crashN ks i u := ⟨_, rfl⟩
      have hNle := crashN_le ks i hsu
      rw [← hN] at hNle
      have HNN := Lib.hid hN
      have HKU := Lib.hid (And.intro hk hu)
      have b0 : (0 : Int) ≤ (i : Int) := by omega
      have b1 : (i : Int) < (D.fs.length : Int) := by omega
      have e5 : ((strOfNums u.1).size : Int) = (u.1.length : Nat) := by rw [strOfNums_size]
      have d3 : (N : Int) ≤ (u.1.length : Int) := by omega
      have d4 : N ≤ (strOfNums u.1).size := by rw [strOfNums_size]; exact hNle.2
      have d5 : (0 : Int) ≤ (N : Int) := by omega
      have qx : (strOfNums u.1).extract 0 N = strOfNums (u.1.take N) := str_take u.1 N
      have hbA := belAlloc hB (.cells #[.string ⟨k.toArray⟩, .string (strOfNums u.1), .int .i64 (u.2 : Nat)] 89)
      have hrA := hrow.alloc (.cells #[.string ⟨k.toArray⟩, .string (strOfNums u.1), .int .i64 (u.2 : Nat)] 89)
      obtain ⟨W, hW⟩ : ∃ W, W = wr.alloc (.cells #[.string ⟨k.toArray⟩, .string (strOfNums u.1), .int .i64 (u.2 : Nat)] 89) := ⟨_, rfl⟩
      rw [← hW] at hbA hrA
      have hWL : W.heap[wr.heap.size]? = some (.cells #[.string ⟨k.toArray⟩, .string (strOfNums u.1), .int .i64 (u.2 : Nat)] 89 (0, 0)) := by rw [hW]; exact heap_alloc_new wr _
      have HWL := Lib.hid (rcells hWL)
      have HWW := Lib.hid hW
      have HBA := Lib.hid hbA
      have HRA := Lib.hid hrA
      have HNB : Hid (u4.ownBlock ≠ some wr.heap.size) := Lib.hid (fun e => by have := (hrow.lt _ e).2; omega)
      clear hcs hk hu hN hW hbA hrA hWL hrow
      by_cases hki : i < ks.length
      · have d0 : decide ((i : Int) < (ks.length : Int)) = true := by simp; omega
        obtain ⟨X, hX⟩ : ∃ X, X = ks.getD i 0 := ⟨_, rfl⟩
        have hXb := HKB.out X (by rw [hX]; simp [List.getD, hki])
        obtain ⟨M, hM⟩ : ∃ M : Nat, M = X.toNat % (u.1.length - u.2 + 1) := ⟨_, rfl⟩
        have hNM : N = u.2 + M := by rw [HNN.out]; unfold crashN; rw [if_pos hki, ← hX, hM]
        have s1 : IntKind.i64.wrap X = X := IntWalk.i64_in _ (by omega)
        have s2 : IntKind.i64.wrap ((u.1.length : Int) - (u.2 : Nat)) = u.1.length - (u.2 : Nat) := IntWalk.i64_in _ (by omega)
        have s3 : IntKind.i64.wrap ((u.1.length : Int) - (u.2 : Nat) + 1) = u.1.length - (u.2 : Nat) + 1 := IntWalk.i64_in _ (by omega)
        have s4 : X % ((u.1.length : Int) - (u.2 : Nat) + 1) = (M : Nat) := by
          have e1 : X = (X.toNat : Int) := by omega
          have e2 : (u.1.length : Int) - (u.2 : Nat) + 1 = ((u.1.length - u.2 + 1 : Nat) : Int) := by omega
          rw [hM, Int.natCast_emod, ← e2, ← e1]
        have s5 : Int.tmod X ((u.1.length : Int) - (u.2 : Nat) + 1) = (M : Nat) := by rw [Int.tmod_eq_emod_of_nonneg hXb.1]; exact s4
        have s6 : ¬ ((u.1.length : Int) - (u.2 : Nat) + 1 = 0) := by omega
        have s7 : IntKind.i64.wrap ((u.2 : Nat) + (M : Nat) : Int) = (N : Nat) := by rw [hNM]; exact IntWalk.i64_in _ (by have := hNle.2; omega)
        obtain ⟨ka, rfl⟩ : ∃ ka, ko = some ka := by
          obtain ⟨_, _, e1, _, e2, _⟩ := hKr
          cases e1
          cases ko with
          | none => rw [e2 rfl] at hki; simp at hki
          | some ka => exact ⟨ka, rfl⟩
        have hkc0 : wr.cell? (ka.add i) = some (.int .u16 X) := by
          obtain ⟨_, _, e1, _, _, e2⟩ := hKr
          cases e1
          rw [e2 ka rfl i hki, hX]
        have hkW : W.cell? (ka.add i) = some (.int .u16 X) := by rw [HWW.out, (belNew wr _).cell (cell_lt8 hkc0)]; exact hkc0
        have b2 : (i : Int) < (ks.length : Int) := by omega
        clear hX hM hNM hKr hkc0
        go_upto_region 4 with fail
        rw [← HWW.out]
        obtain ⟨p0, p1, p2⟩ := HWL.out
        clear q0 q1 q2 c0
        go_wp2_with fail
        go_quiet (fail)
        go_wp2_with fail
        obtain ⟨V, hV⟩ : ∃ V, V = W.drewN nq := ⟨_, rfl⟩
        rw [← hV]
        have HV : Hid (Below w.heap.size w V.drew ∧ RowF V.drew w.heap.size u4 (crashF ks 0 (D.fs.take i))) := Lib.hid (by rw [hV]; exact ⟨below_drewN HBA.out (nq + 1), HRA.out⟩)
        have p0' : V.cell? ⟨wr.heap.size, 0, none⟩ = some (.string ⟨k.toArray⟩) := by rw [hV]; exact p0
        have p1' : V.cell? ⟨wr.heap.size, 1, none⟩ = some (.string (strOfNums u.1)) := by rw [hV]; exact p1
        have p2' : V.cell? ⟨wr.heap.size, 2, none⟩ = some (.int .i64 (u.2 : Nat)) := by rw [hV]; exact p2
        clear p0 p1 p2 hV hkW
        refine wp_region_held_drew (S := (fun W => W.cell? ⟨wr.heap.size, 0, none⟩ = some (.string ⟨k.toArray⟩) ∧ W.cell? ⟨wr.heap.size, 1, none⟩ = some (.string (strOfNums u.1)) ∧ W.cell? ⟨wr.heap.size, 2, none⟩ = some (.int .i64 (u.2 : Nat)))) (by kernel_rfl) ?_ (fun r0 => ?_)
        · exact ⟨p0', p1', p2'⟩
        refine wpAnyH_take (i := 0) (v := ?_) rfl (by kernel_rfl) (by kernel_rfl) (by kernel_rfl) (fun _ _ _ h => h) (Or.inl ⟨by rfl, ?_⟩) (by assumption) ?_
        rotate_left
        · intro w hSw
          (try dsimp only at hSw)
          go_simp
          first | done | with_reducible rfl
        try simp only [Act.put, List.getElem_toArray, List.getElem_cons_zero, List.setIfInBounds_toArray, List.set_cons_zero, List.set_cons_succ]
        refine wpAnyH_take (i := 1) (v := ?_) rfl (by kernel_rfl) (by kernel_rfl) (by kernel_rfl) (fun _ _ _ h => h) (Or.inl ⟨by rfl, ?_⟩) (by assumption) ?_
        rotate_left
        · intro w hSw
          (try dsimp only at hSw)
          go_simp
          first | done | with_reducible rfl
        try simp only [Act.put, List.getElem_toArray, List.getElem_cons_succ, List.getElem_cons_zero, List.setIfInBounds_toArray, List.set_cons_zero, List.set_cons_succ]
        refine wpAnyH_take (i := 2) (v := ?_) rfl (by kernel_rfl) (by kernel_rfl) (by kernel_rfl) (fun _ _ _ h => h) (Or.inl ⟨by rfl, ?_⟩) (by assumption) ?_
        rotate_left
        · intro w hSw
          (try dsimp only at hSw)
          go_simp
          first | done | with_reducible rfl
        try simp only [Act.put, List.getElem_toArray, List.getElem_cons_succ, List.getElem_cons_zero, List.setIfInBounds_toArray, List.set_cons_zero, List.set_cons_succ]
        refine wpAnyH_take (i := 3) (v := ?_) rfl (by kernel_rfl) (by kernel_rfl) (by kernel_rfl) (fun _ _ _ h => h) (Or.inl ⟨by rfl, ?_⟩) (by assumption) ?_
        rotate_left
        · intro w hSw
          (try dsimp only at hSw)
          go_simp
          first | done | with_reducible rfl
        try simp only [Act.put, List.getElem_toArray, List.getElem_cons_succ, List.getElem_cons_zero, List.setIfInBounds_toArray, List.set_cons_zero, List.set_cons_succ]
        refine wpAnyH_take (i := 4) (v := ?_) rfl (by kernel_rfl) (by kernel_rfl) (by kernel_rfl) (fun _ _ _ h => h) (Or.inl ⟨by rfl, ?_⟩) (by assumption) ?_
        rotate_left
        · intro w hSw
          (try dsimp only at hSw)
          go_simp
          first | done | with_reducible rfl
        try simp only [Act.put, List.getElem_toArray, List.getElem_cons_succ, List.getElem_cons_zero, List.setIfInBounds_toArray, List.set_cons_zero, List.set_cons_succ]
        refine wpAnyH_take (i := 5) (v := ?_) rfl (by kernel_rfl) (by kernel_rfl) (by kernel_rfl) (fun _ _ _ h => h) (Or.inl ⟨by rfl, ?_⟩) (by assumption) ?_
        rotate_left
        · intro w hSw
          (try dsimp only at hSw)
          go_simp
          first | done | with_reducible rfl
        try simp only [Act.put, List.getElem_toArray, List.getElem_cons_succ, List.getElem_cons_zero, List.setIfInBounds_toArray, List.set_cons_zero, List.set_cons_succ]
        refine wpAnyH_take (i := 6) (v := ?_) rfl (by kernel_rfl) (by kernel_rfl) (by kernel_rfl) (fun _ _ _ h => h) (Or.inl ⟨by rfl, ?_⟩) (by assumption) ?_
        rotate_left
        · intro w hSw
          (try dsimp only at hSw)
          go_simp
          first | done | with_reducible rfl
        try simp only [Act.put, List.getElem_toArray, List.getElem_cons_succ, List.getElem_cons_zero, List.setIfInBounds_toArray, List.set_cons_zero, List.set_cons_succ]
        refine wpAnyH_take (i := 7) (v := ?_) rfl (by kernel_rfl) (by kernel_rfl) (by kernel_rfl) (fun _ _ _ h => h) (Or.inl ⟨by rfl, ?_⟩) (by assumption) ?_
        rotate_left
        · intro w hSw
          (try dsimp only at hSw)
          go_simp
          first | done | with_reducible rfl
        try simp only [Act.put, List.getElem_toArray, List.getElem_cons_succ, List.getElem_cons_zero, List.setIfInBounds_toArray, List.set_cons_zero, List.set_cons_succ]
        refine wpAnyH_take (i := 8) (v := ?_) rfl (by kernel_rfl) (by kernel_rfl) (by kernel_rfl) (fun _ _ _ h => h) (Or.inl ⟨by rfl, ?_⟩) (by assumption) ?_
        rotate_left
        · intro w hSw
          (try dsimp only at hSw)
          go_simp
          first | done | with_reducible rfl
        try simp only [Act.put, List.getElem_toArray, List.getElem_cons_succ, List.getElem_cons_zero, List.setIfInBounds_toArray, List.set_cons_zero, List.set_cons_succ]
        refine wpAnyH_ready (rs := [9]) (by kernel_rfl) (by simp) ?_
        refine AllReadyH.cons rfl (fun K hK => ?_) AllReadyH.nil
        go_simp
        refine hK.out _ _ ?_ (fun r1 => ?_)
        · exact ⟨((belNew V.drew _).cell (World.block_lt_of_cell? _ _ r0.1)).trans r0.1, ((belNew V.drew _).cell (World.block_lt_of_cell? _ _ r0.2.1)).trans r0.2.1, ((belNew V.drew _).cell (World.block_lt_of_cell? _ _ r0.2.2)).trans r0.2.2⟩
        try simp only [Act.put, List.getElem_toArray, List.getElem_cons_succ, List.getElem_cons_zero, List.setIfInBounds_toArray, List.set_cons_zero, List.set_cons_succ]
        refine wpAnyH_ready (rs := [10]) (by kernel_rfl) (by simp) ?_
        refine AllReadyH.cons rfl (fun K hK => ?_) AllReadyH.nil
        rw [if_pos (by kernel_rfl)]
        refine wp_pushF (w0 := V.drew) (.tmp 39) (.tmp 48) rfl w.heap.size u4 _ ⟨k.toArray⟩ (u.1.take N, N) V.drew.heap.size rfl rfl rfl HV.out.2 (by rw [crashF_len, List.length_take]; omega) HV.out.1.size (fun v2 w2 hrow2 hb2 hg2 => ?_)
        refine hK.out _ _ ?_ (fun r2 => ?_)
        · have hkq : ∀ (q : Addr) (x : Value), q.block = wr.heap.size → V.drew.cell? q = some x → w2.cell? q = some x := fun q x hn hq => (World.cell?_of_block (hg2.block q.block (World.block_lt_of_cell? _ _ hq) (fun e => HNB.out (by rw [← e, hn])))).trans hq
          exact ⟨hkq _ _ rfl r0.1, hkq _ _ rfl r0.2.1, hkq _ _ rfl r0.2.2⟩
        try simp only [Act.put, List.getElem_toArray, List.getElem_cons_succ, List.getElem_cons_zero, List.setIfInBounds_toArray, List.set_cons_zero, List.set_cons_succ]
        refine wpAnyH_take (i := 11) (v := ?_) rfl (by kernel_rfl) (by kernel_rfl) (by kernel_rfl) (fun _ _ _ h => h) (Or.inl ⟨by rfl, ?_⟩) (by assumption) ?_
        rotate_left
        · intro w hSw
          (try dsimp only at hSw)
          go_simp
          first | done | with_reducible rfl
        try simp only [Act.put, List.getElem_toArray, List.getElem_cons_succ, List.getElem_cons_zero, List.setIfInBounds_toArray, List.set_cons_zero, List.set_cons_succ]
        refine wpAnyH_done (by kernel_rfl) ?_ _
        go_wp2_with fail
        go_roundw
        case rel =>
          refine ⟨i + 1, by omega, by go_num, HV.out.1.trans hb2, ?_⟩
          rw [take_snoc hlt, crashF_snoc, show 0 + (D.fs.take i).length = i from by rw [List.length_take]; omega]
          have e6 : (D.fs[i].1, crashU ks i D.fs[i].2) = (k, (u.1.take N, N)) := by unfold crashU; rw [← HKU.out.1, ← HKU.out.2, ← HNN.out]
          rw [e6]
          exact hrow2
        case measure => simp [intOf]; omega
      · have d0 : decide ((i : Int) < (ks.length : Int)) = false := by simp; omega
        obtain rfl : N = u.2 := by rw [HNN.out]; unfold crashN; rw [if_neg hki, Nat.add_zero]
        clear hKr
        go_upto_region 4 with fail
        rw [← HWW.out]
        obtain ⟨p0, p1, p2⟩ := HWL.out
        clear q0 q1 q2 c0
        go_wp2_with fail
        obtain ⟨V, hV⟩ : ∃ V, V = W := ⟨_, rfl⟩
        rw [← hV]
        have HV : Hid (Below w.heap.size w V.drew ∧ RowF V.drew w.heap.size u4 (crashF ks 0 (D.fs.take i))) := Lib.hid (by rw [hV]; exact ⟨below_drewN HBA.out 1, HRA.out⟩)
        rw [← hV] at p0 p1 p2
        clear hV
        refine wp_region_held_drew (S := (fun W => W.cell? ⟨wr.heap.size, 0, none⟩ = some (.string ⟨k.toArray⟩) ∧ W.cell? ⟨wr.heap.size, 1, none⟩ = some (.string (strOfNums u.1)) ∧ W.cell? ⟨wr.heap.size, 2, none⟩ = some (.int .i64 (u.2 : Nat)))) (by kernel_rfl) ?_ (fun r0 => ?_)
        · exact ⟨p0, p1, p2⟩
        refine wpAnyH_take (i := 0) (v := ?_) rfl (by kernel_rfl) (by kernel_rfl) (by kernel_rfl) (fun _ _ _ h => h) (Or.inl ⟨by rfl, ?_⟩) (by assumption) ?_
        rotate_left
        · intro w hSw
          (try dsimp only at hSw)
          go_simp
          first | done | with_reducible rfl
        try simp only [Act.put, List.getElem_toArray, List.getElem_cons_zero, List.setIfInBounds_toArray, List.set_cons_zero, List.set_cons_succ]
        refine wpAnyH_take (i := 1) (v := ?_) rfl (by kernel_rfl) (by kernel_rfl) (by kernel_rfl) (fun _ _ _ h => h) (Or.inl ⟨by rfl, ?_⟩) (by assumption) ?_
        rotate_left
        · intro w hSw
          (try dsimp only at hSw)
          go_simp
          first | done | with_reducible rfl
        try simp only [Act.put, List.getElem_toArray, List.getElem_cons_succ, List.getElem_cons_zero, List.setIfInBounds_toArray, List.set_cons_zero, List.set_cons_succ]
        refine wpAnyH_take (i := 2) (v := ?_) rfl (by kernel_rfl) (by kernel_rfl) (by kernel_rfl) (fun _ _ _ h => h) (Or.inl ⟨by rfl, ?_⟩) (by assumption) ?_
        rotate_left
        · intro w hSw
          (try dsimp only at hSw)
          go_simp
          first | done | with_reducible rfl
        try simp only [Act.put, List.getElem_toArray, List.getElem_cons_succ, List.getElem_cons_zero, List.setIfInBounds_toArray, List.set_cons_zero, List.set_cons_succ]
        refine wpAnyH_take (i := 3) (v := ?_) rfl (by kernel_rfl) (by kernel_rfl) (by kernel_rfl) (fun _ _ _ h => h) (Or.inl ⟨by rfl, ?_⟩) (by assumption) ?_
        rotate_left
        · intro w hSw
          (try dsimp only at hSw)
          go_simp
          first | done | with_reducible rfl
        try simp only [Act.put, List.getElem_toArray, List.getElem_cons_succ, List.getElem_cons_zero, List.setIfInBounds_toArray, List.set_cons_zero, List.set_cons_succ]
        refine wpAnyH_take (i := 4) (v := ?_) rfl (by kernel_rfl) (by kernel_rfl) (by kernel_rfl) (fun _ _ _ h => h) (Or.inl ⟨by rfl, ?_⟩) (by assumption) ?_
        rotate_left
        · intro w hSw
          (try dsimp only at hSw)
          go_simp
          first | done | with_reducible rfl
        try simp only [Act.put, List.getElem_toArray, List.getElem_cons_succ, List.getElem_cons_zero, List.setIfInBounds_toArray, List.set_cons_zero, List.set_cons_succ]
        refine wpAnyH_take (i := 5) (v := ?_) rfl (by kernel_rfl) (by kernel_rfl) (by kernel_rfl) (fun _ _ _ h => h) (Or.inl ⟨by rfl, ?_⟩) (by assumption) ?_
        rotate_left
        · intro w hSw
          (try dsimp only at hSw)
          go_simp
          first | done | with_reducible rfl
        try simp only [Act.put, List.getElem_toArray, List.getElem_cons_succ, List.getElem_cons_zero, List.setIfInBounds_toArray, List.set_cons_zero, List.set_cons_succ]
        refine wpAnyH_take (i := 6) (v := ?_) rfl (by kernel_rfl) (by kernel_rfl) (by kernel_rfl) (fun _ _ _ h => h) (Or.inl ⟨by rfl, ?_⟩) (by assumption) ?_
        rotate_left
        · intro w hSw
          (try dsimp only at hSw)
          go_simp
          first | done | with_reducible rfl
        try simp only [Act.put, List.getElem_toArray, List.getElem_cons_succ, List.getElem_cons_zero, List.setIfInBounds_toArray, List.set_cons_zero, List.set_cons_succ]
        refine wpAnyH_take (i := 7) (v := ?_) rfl (by kernel_rfl) (by kernel_rfl) (by kernel_rfl) (fun _ _ _ h => h) (Or.inl ⟨by rfl, ?_⟩) (by assumption) ?_
        rotate_left
        · intro w hSw
          (try dsimp only at hSw)
          go_simp
          first | done | with_reducible rfl
        try simp only [Act.put, List.getElem_toArray, List.getElem_cons_succ, List.getElem_cons_zero, List.setIfInBounds_toArray, List.set_cons_zero, List.set_cons_succ]
        refine wpAnyH_take (i := 8) (v := ?_) rfl (by kernel_rfl) (by kernel_rfl) (by kernel_rfl) (fun _ _ _ h => h) (Or.inl ⟨by rfl, ?_⟩) (by assumption) ?_
        rotate_left
        · intro w hSw
          (try dsimp only at hSw)
          go_simp
          first | done | with_reducible rfl
        try simp only [Act.put, List.getElem_toArray, List.getElem_cons_succ, List.getElem_cons_zero, List.setIfInBounds_toArray, List.set_cons_zero, List.set_cons_succ]
        refine wpAnyH_ready (rs := [9]) (by kernel_rfl) (by simp) ?_
        refine AllReadyH.cons rfl (fun K hK => ?_) AllReadyH.nil
        go_simp
        refine hK.out _ _ ?_ (fun r1 => ?_)
        · exact ⟨((belNew V.drew _).cell (World.block_lt_of_cell? _ _ r0.1)).trans r0.1, ((belNew V.drew _).cell (World.block_lt_of_cell? _ _ r0.2.1)).trans r0.2.1, ((belNew V.drew _).cell (World.block_lt_of_cell? _ _ r0.2.2)).trans r0.2.2⟩
        try simp only [Act.put, List.getElem_toArray, List.getElem_cons_succ, List.getElem_cons_zero, List.setIfInBounds_toArray, List.set_cons_zero, List.set_cons_succ]
        refine wpAnyH_ready (rs := [10]) (by kernel_rfl) (by simp) ?_
        refine AllReadyH.cons rfl (fun K hK => ?_) AllReadyH.nil
        rw [if_pos (by kernel_rfl)]
        refine wp_pushF (w0 := V.drew) (.tmp 39) (.tmp 48) rfl w.heap.size u4 _ ⟨k.toArray⟩ (u.1.take u.2, u.2) V.drew.heap.size rfl rfl rfl HV.out.2 (by rw [crashF_len, List.length_take]; omega) HV.out.1.size (fun v2 w2 hrow2 hb2 hg2 => ?_)
        refine hK.out _ _ ?_ (fun r2 => ?_)
        · have hkq : ∀ (q : Addr) (x : Value), q.block = wr.heap.size → V.drew.cell? q = some x → w2.cell? q = some x := fun q x hn hq => (World.cell?_of_block (hg2.block q.block (World.block_lt_of_cell? _ _ hq) (fun e => HNB.out (by rw [← e, hn])))).trans hq
          exact ⟨hkq _ _ rfl r0.1, hkq _ _ rfl r0.2.1, hkq _ _ rfl r0.2.2⟩
        try simp only [Act.put, List.getElem_toArray, List.getElem_cons_succ, List.getElem_cons_zero, List.setIfInBounds_toArray, List.set_cons_zero, List.set_cons_succ]
        refine wpAnyH_take (i := 11) (v := ?_) rfl (by kernel_rfl) (by kernel_rfl) (by kernel_rfl) (fun _ _ _ h => h) (Or.inl ⟨by rfl, ?_⟩) (by assumption) ?_
        rotate_left
        · intro w hSw
          (try dsimp only at hSw)
          go_simp
          first | done | with_reducible rfl
        try simp only [Act.put, List.getElem_toArray, List.getElem_cons_succ, List.getElem_cons_zero, List.setIfInBounds_toArray, List.set_cons_zero, List.set_cons_succ]
        refine wpAnyH_done (by kernel_rfl) ?_ _
        go_wp2_with fail
        go_roundw
        case rel =>
          refine ⟨i + 1, by omega, by go_num, HV.out.1.trans hb2, ?_⟩
          rw [take_snoc hlt, crashF_snoc, show 0 + (D.fs.take i).length = i from by rw [List.length_take]; omega]
          have e6 : (D.fs[i].1, crashU ks i D.fs[i].2) = (k, (u.1.take u.2, u.2)) := by unfold crashU; rw [← HKU.out.1, ← HKU.out.2, ← HNN.out]
          rw [e6]
          exact hrow2
        case measure => simp [intOf]; omega
    · obtain rfl : i = D.fs.length := by omega
      rw [List.take_length] at hrow
      have hrw := (hB.block r hrl).trans HH.out.1
      obtain ⟨k0, k1, k2⟩ := rcells hrw
      obtain ⟨a4, c4, hv4, -⟩ := RowF.sees hrow
      subst hv4
      have f0 := rfroz hrw 0
      have f1 := rfroz hrw 1
      have f2 := rfroz hrw 2
      obtain ⟨Z, hZ⟩ : ∃ Z, Z = Value.slice a4 (crashF ks 0 D.fs).length c4 := ⟨_, rfl⟩
      rw [← hZ] at hrow
      have hs1 := dset hrw 0 Z
      have hs2 := dset hs1 1 (.bool false)
      have hs3 := dset hs2 2 (.int .i64 (-1))
      have hn1 := row_ne hrow hrl
      have hR := ref_put (w := w) (l := false) (a := false) (n := 0) h3 h5 hs3 (World.ownsRow.kept (World.ownsRow.kept (World.ownsRow.kept hrow (grown_set wr r 0 Z) hn1) (grown_set _ r 1 _) hn1) (grown_set _ r 2 _) hn1) ((((Touch.of_below (· = r) hB).trans (touch_set wr r 0 Z) (fun _ _ e => e)).trans (touch_set _ r 1 _) (fun _ _ e => e)).trans (touch_set _ r 2 _) (fun _ _ e => e)) (by omega) (by omega)
      rw [hZ] at hR
      have HR := Lib.hid hR
      clear hs1 hs2 hs3 hR hrow hrw hZ
      go_wp2_with fail
      go_end0
      exact ⟨_, rfl, HR.out.1, HR.out.2⟩
end Go.Proofs.YtkjdfelmjanpcaaDoor
