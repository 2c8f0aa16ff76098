/- virgatelaw09.Ours: what is asked, its texts cut. Made by g_kvours.py. -/
import Derived.Test.YtholgmcfgnifdaaKvAwake
import Derived.Test.YtholgmcfgnifdaaKvOpen
namespace Go.Proofs.Ytholgmcfgnifdaa
open Go.RowKit Go.Maps
def cutB (s : ByteArray) (n : Nat) : ByteArray := if n < s.size then s.extract 0 n else s
def ours (o : KOp) : KOp := { o with key := cutB o.key 140, val := cutB o.val 100 }
theorem cutB_le (s : ByteArray) (n : Nat) : (cutB s n).size ≤ n := by
  unfold cutB
  split
  · rw [ByteArray.size_extract]; omega
  · omega
abbrev opR (o : KOp) : Obj := .cells #[.int .i64 o.kind, .string o.key, .string o.val, .int .i64 o.rev, .string o.iff, .int .i64 o.ifRev] 40
abbrev op0 : KOp := ⟨0, emp, emp, 0, emp, 0⟩
theorem six {w : World} {g : Nat} {a b c d e f : Value} {t : TypeId} (h : w.heap[g]? = some (.cells #[a, b, c, d, e, f] t (0, 0))) : w.cell? ⟨g, 0, none⟩ = some a ∧ w.cell? ⟨g, 1, none⟩ = some b ∧ w.cell? ⟨g, 2, none⟩ = some c ∧ w.cell? ⟨g, 3, none⟩ = some d ∧ w.cell? ⟨g, 4, none⟩ = some e ∧ w.cell? ⟨g, 5, none⟩ = some f ∧
    w.frozen? ⟨g, 0, none⟩ = false ∧ w.frozen? ⟨g, 1, none⟩ = false ∧ w.frozen? ⟨g, 2, none⟩ = false ∧ w.frozen? ⟨g, 3, none⟩ = false ∧ w.frozen? ⟨g, 4, none⟩ = false ∧ w.frozen? ⟨g, 5, none⟩ = false := by simp [World.cell?, World.frozen?, h]
def put6 (W : World) (g : Nat) (x y z u p q : Value) : World := (((((W.setCell ⟨g, 0, none⟩ x).setCell ⟨g, 1, none⟩ y).setCell ⟨g, 2, none⟩ z).setCell ⟨g, 3, none⟩ u).setCell ⟨g, 4, none⟩ p).setCell ⟨g, 5, none⟩ q
theorem put6_at {W : World} {g : Nat} {a b c d e f : Value} {t : TypeId} (h : W.heap[g]? = some (.cells #[a, b, c, d, e, f] t (0, 0))) (x y z u p q : Value) : (put6 W g x y z u p q).heap[g]? = some (.cells #[x, y, z, u, p, q] t (0, 0)) := by
  have h1 := dset h 0 x
  have h2 := dset h1 1 y
  have h3 := dset h2 2 z
  have h4 := dset h3 3 u
  have h5 := dset h4 4 p
  have h6 := dset h5 5 q
  unfold put6
  simpa using h6
theorem put6_ne {W : World} {g k : Nat} (h : k ≠ g) (x y z u p q : Value) : (put6 W g x y z u p q).heap[k]? = W.heap[k]? := by
  unfold put6
  rw [Below.heap_setCell _ _ _ _ h, Below.heap_setCell _ _ _ _ h, Below.heap_setCell _ _ _ _ h, Below.heap_setCell _ _ _ _ h, Below.heap_setCell _ _ _ _ h, Below.heap_setCell _ _ _ _ h]
theorem put6_below {n : Nat} {w W : World} (hb : Below n w W) {g : Nat} (hg : n ≤ g) (x y z u p q : Value) : Below n w (put6 W g x y z u p q) :=
  (((((hb.setCell (p := ⟨g, 0, none⟩) hg x).setCell (p := ⟨g, 1, none⟩) hg y).setCell (p := ⟨g, 2, none⟩) hg z).setCell (p := ⟨g, 3, none⟩) hg u).setCell (p := ⟨g, 4, none⟩) hg p).setCell (p := ⟨g, 5, none⟩) hg q
set_option maxRecDepth 100000 in
set_option maxHeartbeats 4000000 in
theorem ours_any (o : KOp) (w : World) : Calls Try.prog 11 #[opV o] w fun e w' => e = .returned (.tuple #[opV (ours o), opV (ours o)]) ∧ Below w.heap.size w w' := by
  obtain ⟨k, key, val, rv, ifk, ir⟩ := o
  by_cases hk : 140 < key.size
  · by_cases hv : 100 < val.size
    · have HO : Hid (ours ⟨k, key, val, rv, ifk, ir⟩ = ⟨k, (key.extract 0 140), (val.extract 0 100), rv, ifk, ir⟩) := Lib.hid (by unfold ours cutB; simp only []; rw [if_pos hk, if_pos hv])
      have d1 : decide ((140 : Int) < (key.size : Int)) = true := by simp; omega
      have b1 : (140 : Int) ≤ (key.size : Int) := by omega
      have d2 : decide ((100 : Int) < (val.size : Int)) = true := by simp; omega
      have b2 : (100 : Int) ≤ (val.size : Int) := by omega
      obtain ⟨W, hW, hb, hz, hA, hB, hC⟩ := alloc3 w (opR ⟨k, (key.extract 0 140), (val.extract 0 100), rv, ifk, ir⟩) (opO op0) (opR op0)
      have HW := Lib.hid hW
      clear hW hk hv
      go_enter Try.func11, Try.ntmps11
      go_upto_region 5 with fail
      change Code.wp _ _ _ _ (((w.alloc (opR ⟨k, (key.extract 0 140), (val.extract 0 100), rv, ifk, ir⟩)).alloc (opO op0)).alloc (opR op0))
      rw [← HW.out]
      clear HW d1 d2
      refine wp_region_held_drew (S := (fun W => Below w.heap.size w W ∧ W.heap[w.heap.size]? = some (opR ⟨k, (key.extract 0 140), (val.extract 0 100), rv, ifk, ir⟩))) (by kernel_rfl) ?_ (fun r0 => ?_)
      · exact ⟨bdrew hb, hA⟩
      obtain ⟨wd, hwd⟩ : ∃ wd, wd = W.drew := ⟨_, rfl⟩
      rw [← hwd] at r0 ⊢
      have hB2 : wd.heap[w.heap.size + 1]? = some (opO op0) := by rw [hwd]; exact hB
      have hC2 : wd.heap[w.heap.size + 1 + 1]? = some (opR op0) := by rw [hwd]; exact hC
      clear hwd hB hC hA hb hz
      refine wpAnyH_take (i := 0) (v := ?_) rfl (by kernel_rfl) (by kernel_rfl) (by kernel_rfl) (fun _ _ _ h => h) (Or.inl ⟨by rfl, ?_⟩) (by assumption) ?_
      rotate_left
      · intro wS hSw
        (try dsimp only at hSw)
        obtain ⟨sb, sh⟩ := hSw
        obtain ⟨k0, k1, k2, k3, k4, k5, -⟩ := six sh
        go_simp
        first | done | with_reducible rfl
      try simp only [Act.put, List.getElem_toArray, List.getElem_cons_zero, List.setIfInBounds_toArray, List.set_cons_zero, List.set_cons_succ]
      refine wpAnyH_take (i := 1) (v := ?_) rfl (by kernel_rfl) (by kernel_rfl) (by kernel_rfl) (fun _ _ _ h => h) (Or.inl ⟨by rfl, ?_⟩) (by assumption) ?_
      rotate_left
      · intro wS hSw
        (try dsimp only at hSw)
        obtain ⟨sb, sh⟩ := hSw
        obtain ⟨k0, k1, k2, k3, k4, k5, -⟩ := six sh
        go_simp
        first | done | with_reducible rfl
      try simp only [Act.put, List.getElem_toArray, List.getElem_cons_succ, List.getElem_cons_zero, List.setIfInBounds_toArray, List.set_cons_zero, List.set_cons_succ]
      refine wpAnyH_take (i := 2) (v := ?_) rfl (by kernel_rfl) (by kernel_rfl) (by kernel_rfl) (fun _ _ _ h => h) (Or.inl ⟨by rfl, ?_⟩) (by assumption) ?_
      rotate_left
      · intro wS hSw
        (try dsimp only at hSw)
        obtain ⟨sb, sh⟩ := hSw
        obtain ⟨k0, k1, k2, k3, k4, k5, -⟩ := six sh
        go_simp
        first | done | with_reducible rfl
      try simp only [Act.put, List.getElem_toArray, List.getElem_cons_succ, List.getElem_cons_zero, List.setIfInBounds_toArray, List.set_cons_zero, List.set_cons_succ]
      refine wpAnyH_take (i := 3) (v := ?_) rfl (by kernel_rfl) (by kernel_rfl) (by kernel_rfl) (fun _ _ _ h => h) (Or.inl ⟨by rfl, ?_⟩) (by assumption) ?_
      rotate_left
      · intro wS hSw
        (try dsimp only at hSw)
        obtain ⟨sb, sh⟩ := hSw
        obtain ⟨k0, k1, k2, k3, k4, k5, -⟩ := six sh
        go_simp
        first | done | with_reducible rfl
      try simp only [Act.put, List.getElem_toArray, List.getElem_cons_succ, List.getElem_cons_zero, List.setIfInBounds_toArray, List.set_cons_zero, List.set_cons_succ]
      refine wpAnyH_take (i := 4) (v := ?_) rfl (by kernel_rfl) (by kernel_rfl) (by kernel_rfl) (fun _ _ _ h => h) (Or.inl ⟨by rfl, ?_⟩) (by assumption) ?_
      rotate_left
      · intro wS hSw
        (try dsimp only at hSw)
        obtain ⟨sb, sh⟩ := hSw
        obtain ⟨k0, k1, k2, k3, k4, k5, -⟩ := six sh
        go_simp
        first | done | with_reducible rfl
      try simp only [Act.put, List.getElem_toArray, List.getElem_cons_succ, List.getElem_cons_zero, List.setIfInBounds_toArray, List.set_cons_zero, List.set_cons_succ]
      refine wpAnyH_take (i := 5) (v := ?_) rfl (by kernel_rfl) (by kernel_rfl) (by kernel_rfl) (fun _ _ _ h => h) (Or.inl ⟨by rfl, ?_⟩) (by assumption) ?_
      rotate_left
      · intro wS hSw
        (try dsimp only at hSw)
        obtain ⟨sb, sh⟩ := hSw
        obtain ⟨k0, k1, k2, k3, k4, k5, -⟩ := six sh
        go_simp
        first | done | with_reducible rfl
      try simp only [Act.put, List.getElem_toArray, List.getElem_cons_succ, List.getElem_cons_zero, List.setIfInBounds_toArray, List.set_cons_zero, List.set_cons_succ]
      refine wpAnyH_take (i := 6) (v := ?_) rfl (by kernel_rfl) (by kernel_rfl) (by kernel_rfl) (fun _ _ _ h => h) (Or.inl ⟨by rfl, ?_⟩) (by assumption) ?_
      rotate_left
      · intro wS hSw
        (try dsimp only at hSw)
        obtain ⟨sb, sh⟩ := hSw
        obtain ⟨k0, k1, k2, k3, k4, k5, -⟩ := six sh
        go_simp
        first | done | with_reducible rfl
      try simp only [Act.put, List.getElem_toArray, List.getElem_cons_succ, List.getElem_cons_zero, List.setIfInBounds_toArray, List.set_cons_zero, List.set_cons_succ]
      refine wpAnyH_take (i := 7) (v := ?_) rfl (by kernel_rfl) (by kernel_rfl) (by kernel_rfl) (fun _ _ _ h => h) (Or.inl ⟨by rfl, ?_⟩) (by assumption) ?_
      rotate_left
      · intro wS hSw
        (try dsimp only at hSw)
        obtain ⟨sb, sh⟩ := hSw
        obtain ⟨k0, k1, k2, k3, k4, k5, -⟩ := six sh
        go_simp
        first | done | with_reducible rfl
      try simp only [Act.put, List.getElem_toArray, List.getElem_cons_succ, List.getElem_cons_zero, List.setIfInBounds_toArray, List.set_cons_zero, List.set_cons_succ]
      refine wpAnyH_take (i := 8) (v := ?_) rfl (by kernel_rfl) (by kernel_rfl) (by kernel_rfl) (fun _ _ _ h => h) (Or.inl ⟨by rfl, ?_⟩) (by assumption) ?_
      rotate_left
      · intro wS hSw
        (try dsimp only at hSw)
        obtain ⟨sb, sh⟩ := hSw
        obtain ⟨k0, k1, k2, k3, k4, k5, -⟩ := six sh
        go_simp
        first | done | with_reducible rfl
      try simp only [Act.put, List.getElem_toArray, List.getElem_cons_succ, List.getElem_cons_zero, List.setIfInBounds_toArray, List.set_cons_zero, List.set_cons_succ]
      refine wpAnyH_take (i := 9) (v := ?_) rfl (by kernel_rfl) (by kernel_rfl) (by kernel_rfl) (fun _ _ _ h => h) (Or.inl ⟨by rfl, ?_⟩) (by assumption) ?_
      rotate_left
      · intro wS hSw
        (try dsimp only at hSw)
        obtain ⟨sb, sh⟩ := hSw
        obtain ⟨k0, k1, k2, k3, k4, k5, -⟩ := six sh
        go_simp
        first | done | with_reducible rfl
      try simp only [Act.put, List.getElem_toArray, List.getElem_cons_succ, List.getElem_cons_zero, List.setIfInBounds_toArray, List.set_cons_zero, List.set_cons_succ]
      refine wpAnyH_take (i := 10) (v := ?_) rfl (by kernel_rfl) (by kernel_rfl) (by kernel_rfl) (fun _ _ _ h => h) (Or.inl ⟨by rfl, ?_⟩) (by assumption) ?_
      rotate_left
      · intro wS hSw
        (try dsimp only at hSw)
        obtain ⟨sb, sh⟩ := hSw
        obtain ⟨k0, k1, k2, k3, k4, k5, -⟩ := six sh
        go_simp
        first | done | with_reducible rfl
      try simp only [Act.put, List.getElem_toArray, List.getElem_cons_succ, List.getElem_cons_zero, List.setIfInBounds_toArray, List.set_cons_zero, List.set_cons_succ]
      refine wpAnyH_take (i := 11) (v := ?_) rfl (by kernel_rfl) (by kernel_rfl) (by kernel_rfl) (fun _ _ _ h => h) (Or.inl ⟨by rfl, ?_⟩) (by assumption) ?_
      rotate_left
      · intro wS hSw
        (try dsimp only at hSw)
        obtain ⟨sb, sh⟩ := hSw
        obtain ⟨k0, k1, k2, k3, k4, k5, -⟩ := six sh
        go_simp
        first | done | with_reducible rfl
      try simp only [Act.put, List.getElem_toArray, List.getElem_cons_succ, List.getElem_cons_zero, List.setIfInBounds_toArray, List.set_cons_zero, List.set_cons_succ]
      refine wpAnyH_take (i := 12) (v := ?_) rfl (by kernel_rfl) (by kernel_rfl) (by kernel_rfl) (fun _ _ _ h => h) (Or.inl ⟨by rfl, ?_⟩) (by assumption) ?_
      rotate_left
      · intro wS hSw
        (try dsimp only at hSw)
        obtain ⟨sb, sh⟩ := hSw
        obtain ⟨k0, k1, k2, k3, k4, k5, -⟩ := six sh
        go_simp
        first | done | with_reducible rfl
      try simp only [Act.put, List.getElem_toArray, List.getElem_cons_succ, List.getElem_cons_zero, List.setIfInBounds_toArray, List.set_cons_zero, List.set_cons_succ]
      refine wpAnyH_take (i := 13) (v := ?_) rfl (by kernel_rfl) (by kernel_rfl) (by kernel_rfl) (fun _ _ _ h => h) (Or.inl ⟨by rfl, ?_⟩) (by assumption) ?_
      rotate_left
      · intro wS hSw
        (try dsimp only at hSw)
        obtain ⟨sb, sh⟩ := hSw
        obtain ⟨k0, k1, k2, k3, k4, k5, -⟩ := six sh
        go_simp
        first | done | with_reducible rfl
      try simp only [Act.put, List.getElem_toArray, List.getElem_cons_succ, List.getElem_cons_zero, List.setIfInBounds_toArray, List.set_cons_zero, List.set_cons_succ]
      have hC3 := (put6_ne (W := wd) (g := w.heap.size + 1) (k := w.heap.size + 1 + 1) (by omega) (.int .i64 k) (.string (key.extract 0 140)) (.string (val.extract 0 100)) (.int .i64 rv) (.string ifk) (.int .i64 ir)).trans hC2
      have hB3 := put6_at hB2 (.int .i64 k) (.string (key.extract 0 140)) (.string (val.extract 0 100)) (.int .i64 rv) (.string ifk) (.int .i64 ir)
      unfold put6 at hC3 hB3
      obtain ⟨a0, a1, a2, a3, a4, a5, b0, b1, b2, b3, b4, b5⟩ := six hB2
      obtain ⟨e0, e1, e2, e3, e4, e5, f0, f1, f2, f3, f4, f5⟩ := six hC3
      refine wpAnyH_ready (rs := [14]) (by kernel_rfl) (by simp) ?_
      refine AllReadyH.cons rfl (fun K hK => ?_) AllReadyH.nil
      go_simp
      refine hK.out _ _ ?_ (fun r8 => ?_)
      · exact ⟨put6_below r0.1 (by omega) _ _ _ _ _ _, (put6_ne (by omega) _ _ _ _ _ _).trans r0.2⟩
      try simp only [Act.put, List.getElem_toArray, List.getElem_cons_succ, List.getElem_cons_zero, List.setIfInBounds_toArray, List.set_cons_zero, List.set_cons_succ]
      refine wpAnyH_ready (rs := [15]) (by kernel_rfl) (by simp) ?_
      refine AllReadyH.cons rfl (fun K hK => ?_) AllReadyH.nil
      go_simp
      refine hK.out _ _ ?_ (fun r9 => ?_)
      · exact ⟨put6_below (put6_below r0.1 (by omega) _ _ _ _ _ _) (by omega) _ _ _ _ _ _, ((put6_ne (by omega) _ _ _ _ _ _).trans (put6_ne (by omega) _ _ _ _ _ _)).trans r0.2⟩
      try simp only [Act.put, List.getElem_toArray, List.getElem_cons_succ, List.getElem_cons_zero, List.setIfInBounds_toArray, List.set_cons_zero, List.set_cons_succ]
      refine wpAnyH_done (by kernel_rfl) ?_ _
      go_wp2_with fail
      have hE1 := (put6_ne (W := put6 wd (w.heap.size + 1) (.int .i64 k) (.string (key.extract 0 140)) (.string (val.extract 0 100)) (.int .i64 rv) (.string ifk) (.int .i64 ir)) (g := w.heap.size + 1 + 1) (k := w.heap.size + 1) (by omega) (.int .i64 k) (.string (key.extract 0 140)) (.string (val.extract 0 100)) (.int .i64 rv) (.string ifk) (.int .i64 ir)).trans (put6_at hB2 (.int .i64 k) (.string (key.extract 0 140)) (.string (val.extract 0 100)) (.int .i64 rv) (.string ifk) (.int .i64 ir))
      have hE2 := put6_at ((put6_ne (W := wd) (g := w.heap.size + 1) (k := w.heap.size + 1 + 1) (by omega) (.int .i64 k) (.string (key.extract 0 140)) (.string (val.extract 0 100)) (.int .i64 rv) (.string ifk) (.int .i64 ir)).trans hC2) (.int .i64 k) (.string (key.extract 0 140)) (.string (val.extract 0 100)) (.int .i64 rv) (.string ifk) (.int .i64 ir)
      have hE3 := put6_below (put6_below r0.1 (g := w.heap.size + 1) (by omega) (.int .i64 k) (.string (key.extract 0 140)) (.string (val.extract 0 100)) (.int .i64 rv) (.string ifk) (.int .i64 ir)) (g := w.heap.size + 1 + 1) (by omega) (.int .i64 k) (.string (key.extract 0 140)) (.string (val.extract 0 100)) (.int .i64 rv) (.string ifk) (.int .i64 ir)
      unfold put6 at hE1 hE2 hE3
      rw [HO.out]
      refine bodyPost_ret (v := .tuple #[opV ⟨k, (key.extract 0 140), (val.extract 0 100), rv, ifk, ir⟩, opV ⟨k, (key.extract 0 140), (val.extract 0 100), rv, ifk, ir⟩]) (by simp [results, Try.results11, go_sem, World.cell?, hE1, hE2]) rfl ⟨rfl, hE3⟩
    · have HO : Hid (ours ⟨k, key, val, rv, ifk, ir⟩ = ⟨k, (key.extract 0 140), val, rv, ifk, ir⟩) := Lib.hid (by unfold ours cutB; simp only []; rw [if_pos hk, if_neg hv])
      have d1 : decide ((140 : Int) < (key.size : Int)) = true := by simp; omega
      have b1 : (140 : Int) ≤ (key.size : Int) := by omega
      have d2 : decide ((100 : Int) < (val.size : Int)) = false := by simp; omega
      obtain ⟨W, hW, hb, hz, hA, hB, hC⟩ := alloc3 w (opR ⟨k, (key.extract 0 140), val, rv, ifk, ir⟩) (opO op0) (opR op0)
      have HW := Lib.hid hW
      clear hW hk hv
      go_enter Try.func11, Try.ntmps11
      go_upto_region 5 with fail
      change Code.wp _ _ _ _ (((w.alloc (opR ⟨k, (key.extract 0 140), val, rv, ifk, ir⟩)).alloc (opO op0)).alloc (opR op0))
      rw [← HW.out]
      clear HW d1 d2
      refine wp_region_held_drew (S := (fun W => Below w.heap.size w W ∧ W.heap[w.heap.size]? = some (opR ⟨k, (key.extract 0 140), val, rv, ifk, ir⟩))) (by kernel_rfl) ?_ (fun r0 => ?_)
      · exact ⟨bdrew hb, hA⟩
      obtain ⟨wd, hwd⟩ : ∃ wd, wd = W.drew := ⟨_, rfl⟩
      rw [← hwd] at r0 ⊢
      have hB2 : wd.heap[w.heap.size + 1]? = some (opO op0) := by rw [hwd]; exact hB
      have hC2 : wd.heap[w.heap.size + 1 + 1]? = some (opR op0) := by rw [hwd]; exact hC
      clear hwd hB hC hA hb hz
      refine wpAnyH_take (i := 0) (v := ?_) rfl (by kernel_rfl) (by kernel_rfl) (by kernel_rfl) (fun _ _ _ h => h) (Or.inl ⟨by rfl, ?_⟩) (by assumption) ?_
      rotate_left
      · intro wS hSw
        (try dsimp only at hSw)
        obtain ⟨sb, sh⟩ := hSw
        obtain ⟨k0, k1, k2, k3, k4, k5, -⟩ := six sh
        go_simp
        first | done | with_reducible rfl
      try simp only [Act.put, List.getElem_toArray, List.getElem_cons_zero, List.setIfInBounds_toArray, List.set_cons_zero, List.set_cons_succ]
      refine wpAnyH_take (i := 1) (v := ?_) rfl (by kernel_rfl) (by kernel_rfl) (by kernel_rfl) (fun _ _ _ h => h) (Or.inl ⟨by rfl, ?_⟩) (by assumption) ?_
      rotate_left
      · intro wS hSw
        (try dsimp only at hSw)
        obtain ⟨sb, sh⟩ := hSw
        obtain ⟨k0, k1, k2, k3, k4, k5, -⟩ := six sh
        go_simp
        first | done | with_reducible rfl
      try simp only [Act.put, List.getElem_toArray, List.getElem_cons_succ, List.getElem_cons_zero, List.setIfInBounds_toArray, List.set_cons_zero, List.set_cons_succ]
      refine wpAnyH_take (i := 2) (v := ?_) rfl (by kernel_rfl) (by kernel_rfl) (by kernel_rfl) (fun _ _ _ h => h) (Or.inl ⟨by rfl, ?_⟩) (by assumption) ?_
      rotate_left
      · intro wS hSw
        (try dsimp only at hSw)
        obtain ⟨sb, sh⟩ := hSw
        obtain ⟨k0, k1, k2, k3, k4, k5, -⟩ := six sh
        go_simp
        first | done | with_reducible rfl
      try simp only [Act.put, List.getElem_toArray, List.getElem_cons_succ, List.getElem_cons_zero, List.setIfInBounds_toArray, List.set_cons_zero, List.set_cons_succ]
      refine wpAnyH_take (i := 3) (v := ?_) rfl (by kernel_rfl) (by kernel_rfl) (by kernel_rfl) (fun _ _ _ h => h) (Or.inl ⟨by rfl, ?_⟩) (by assumption) ?_
      rotate_left
      · intro wS hSw
        (try dsimp only at hSw)
        obtain ⟨sb, sh⟩ := hSw
        obtain ⟨k0, k1, k2, k3, k4, k5, -⟩ := six sh
        go_simp
        first | done | with_reducible rfl
      try simp only [Act.put, List.getElem_toArray, List.getElem_cons_succ, List.getElem_cons_zero, List.setIfInBounds_toArray, List.set_cons_zero, List.set_cons_succ]
      refine wpAnyH_take (i := 4) (v := ?_) rfl (by kernel_rfl) (by kernel_rfl) (by kernel_rfl) (fun _ _ _ h => h) (Or.inl ⟨by rfl, ?_⟩) (by assumption) ?_
      rotate_left
      · intro wS hSw
        (try dsimp only at hSw)
        obtain ⟨sb, sh⟩ := hSw
        obtain ⟨k0, k1, k2, k3, k4, k5, -⟩ := six sh
        go_simp
        first | done | with_reducible rfl
      try simp only [Act.put, List.getElem_toArray, List.getElem_cons_succ, List.getElem_cons_zero, List.setIfInBounds_toArray, List.set_cons_zero, List.set_cons_succ]
      refine wpAnyH_take (i := 5) (v := ?_) rfl (by kernel_rfl) (by kernel_rfl) (by kernel_rfl) (fun _ _ _ h => h) (Or.inl ⟨by rfl, ?_⟩) (by assumption) ?_
      rotate_left
      · intro wS hSw
        (try dsimp only at hSw)
        obtain ⟨sb, sh⟩ := hSw
        obtain ⟨k0, k1, k2, k3, k4, k5, -⟩ := six sh
        go_simp
        first | done | with_reducible rfl
      try simp only [Act.put, List.getElem_toArray, List.getElem_cons_succ, List.getElem_cons_zero, List.setIfInBounds_toArray, List.set_cons_zero, List.set_cons_succ]
      refine wpAnyH_take (i := 6) (v := ?_) rfl (by kernel_rfl) (by kernel_rfl) (by kernel_rfl) (fun _ _ _ h => h) (Or.inl ⟨by rfl, ?_⟩) (by assumption) ?_
      rotate_left
      · intro wS hSw
        (try dsimp only at hSw)
        obtain ⟨sb, sh⟩ := hSw
        obtain ⟨k0, k1, k2, k3, k4, k5, -⟩ := six sh
        go_simp
        first | done | with_reducible rfl
      try simp only [Act.put, List.getElem_toArray, List.getElem_cons_succ, List.getElem_cons_zero, List.setIfInBounds_toArray, List.set_cons_zero, List.set_cons_succ]
      refine wpAnyH_take (i := 7) (v := ?_) rfl (by kernel_rfl) (by kernel_rfl) (by kernel_rfl) (fun _ _ _ h => h) (Or.inl ⟨by rfl, ?_⟩) (by assumption) ?_
      rotate_left
      · intro wS hSw
        (try dsimp only at hSw)
        obtain ⟨sb, sh⟩ := hSw
        obtain ⟨k0, k1, k2, k3, k4, k5, -⟩ := six sh
        go_simp
        first | done | with_reducible rfl
      try simp only [Act.put, List.getElem_toArray, List.getElem_cons_succ, List.getElem_cons_zero, List.setIfInBounds_toArray, List.set_cons_zero, List.set_cons_succ]
      refine wpAnyH_take (i := 8) (v := ?_) rfl (by kernel_rfl) (by kernel_rfl) (by kernel_rfl) (fun _ _ _ h => h) (Or.inl ⟨by rfl, ?_⟩) (by assumption) ?_
      rotate_left
      · intro wS hSw
        (try dsimp only at hSw)
        obtain ⟨sb, sh⟩ := hSw
        obtain ⟨k0, k1, k2, k3, k4, k5, -⟩ := six sh
        go_simp
        first | done | with_reducible rfl
      try simp only [Act.put, List.getElem_toArray, List.getElem_cons_succ, List.getElem_cons_zero, List.setIfInBounds_toArray, List.set_cons_zero, List.set_cons_succ]
      refine wpAnyH_take (i := 9) (v := ?_) rfl (by kernel_rfl) (by kernel_rfl) (by kernel_rfl) (fun _ _ _ h => h) (Or.inl ⟨by rfl, ?_⟩) (by assumption) ?_
      rotate_left
      · intro wS hSw
        (try dsimp only at hSw)
        obtain ⟨sb, sh⟩ := hSw
        obtain ⟨k0, k1, k2, k3, k4, k5, -⟩ := six sh
        go_simp
        first | done | with_reducible rfl
      try simp only [Act.put, List.getElem_toArray, List.getElem_cons_succ, List.getElem_cons_zero, List.setIfInBounds_toArray, List.set_cons_zero, List.set_cons_succ]
      refine wpAnyH_take (i := 10) (v := ?_) rfl (by kernel_rfl) (by kernel_rfl) (by kernel_rfl) (fun _ _ _ h => h) (Or.inl ⟨by rfl, ?_⟩) (by assumption) ?_
      rotate_left
      · intro wS hSw
        (try dsimp only at hSw)
        obtain ⟨sb, sh⟩ := hSw
        obtain ⟨k0, k1, k2, k3, k4, k5, -⟩ := six sh
        go_simp
        first | done | with_reducible rfl
      try simp only [Act.put, List.getElem_toArray, List.getElem_cons_succ, List.getElem_cons_zero, List.setIfInBounds_toArray, List.set_cons_zero, List.set_cons_succ]
      refine wpAnyH_take (i := 11) (v := ?_) rfl (by kernel_rfl) (by kernel_rfl) (by kernel_rfl) (fun _ _ _ h => h) (Or.inl ⟨by rfl, ?_⟩) (by assumption) ?_
      rotate_left
      · intro wS hSw
        (try dsimp only at hSw)
        obtain ⟨sb, sh⟩ := hSw
        obtain ⟨k0, k1, k2, k3, k4, k5, -⟩ := six sh
        go_simp
        first | done | with_reducible rfl
      try simp only [Act.put, List.getElem_toArray, List.getElem_cons_succ, List.getElem_cons_zero, List.setIfInBounds_toArray, List.set_cons_zero, List.set_cons_succ]
      refine wpAnyH_take (i := 12) (v := ?_) rfl (by kernel_rfl) (by kernel_rfl) (by kernel_rfl) (fun _ _ _ h => h) (Or.inl ⟨by rfl, ?_⟩) (by assumption) ?_
      rotate_left
      · intro wS hSw
        (try dsimp only at hSw)
        obtain ⟨sb, sh⟩ := hSw
        obtain ⟨k0, k1, k2, k3, k4, k5, -⟩ := six sh
        go_simp
        first | done | with_reducible rfl
      try simp only [Act.put, List.getElem_toArray, List.getElem_cons_succ, List.getElem_cons_zero, List.setIfInBounds_toArray, List.set_cons_zero, List.set_cons_succ]
      refine wpAnyH_take (i := 13) (v := ?_) rfl (by kernel_rfl) (by kernel_rfl) (by kernel_rfl) (fun _ _ _ h => h) (Or.inl ⟨by rfl, ?_⟩) (by assumption) ?_
      rotate_left
      · intro wS hSw
        (try dsimp only at hSw)
        obtain ⟨sb, sh⟩ := hSw
        obtain ⟨k0, k1, k2, k3, k4, k5, -⟩ := six sh
        go_simp
        first | done | with_reducible rfl
      try simp only [Act.put, List.getElem_toArray, List.getElem_cons_succ, List.getElem_cons_zero, List.setIfInBounds_toArray, List.set_cons_zero, List.set_cons_succ]
      have hC3 := (put6_ne (W := wd) (g := w.heap.size + 1) (k := w.heap.size + 1 + 1) (by omega) (.int .i64 k) (.string (key.extract 0 140)) (.string val) (.int .i64 rv) (.string ifk) (.int .i64 ir)).trans hC2
      have hB3 := put6_at hB2 (.int .i64 k) (.string (key.extract 0 140)) (.string val) (.int .i64 rv) (.string ifk) (.int .i64 ir)
      unfold put6 at hC3 hB3
      obtain ⟨a0, a1, a2, a3, a4, a5, b0, b1, b2, b3, b4, b5⟩ := six hB2
      obtain ⟨e0, e1, e2, e3, e4, e5, f0, f1, f2, f3, f4, f5⟩ := six hC3
      refine wpAnyH_ready (rs := [14]) (by kernel_rfl) (by simp) ?_
      refine AllReadyH.cons rfl (fun K hK => ?_) AllReadyH.nil
      go_simp
      refine hK.out _ _ ?_ (fun r8 => ?_)
      · exact ⟨put6_below r0.1 (by omega) _ _ _ _ _ _, (put6_ne (by omega) _ _ _ _ _ _).trans r0.2⟩
      try simp only [Act.put, List.getElem_toArray, List.getElem_cons_succ, List.getElem_cons_zero, List.setIfInBounds_toArray, List.set_cons_zero, List.set_cons_succ]
      refine wpAnyH_ready (rs := [15]) (by kernel_rfl) (by simp) ?_
      refine AllReadyH.cons rfl (fun K hK => ?_) AllReadyH.nil
      go_simp
      refine hK.out _ _ ?_ (fun r9 => ?_)
      · exact ⟨put6_below (put6_below r0.1 (by omega) _ _ _ _ _ _) (by omega) _ _ _ _ _ _, ((put6_ne (by omega) _ _ _ _ _ _).trans (put6_ne (by omega) _ _ _ _ _ _)).trans r0.2⟩
      try simp only [Act.put, List.getElem_toArray, List.getElem_cons_succ, List.getElem_cons_zero, List.setIfInBounds_toArray, List.set_cons_zero, List.set_cons_succ]
      refine wpAnyH_done (by kernel_rfl) ?_ _
      go_wp2_with fail
      have hE1 := (put6_ne (W := put6 wd (w.heap.size + 1) (.int .i64 k) (.string (key.extract 0 140)) (.string val) (.int .i64 rv) (.string ifk) (.int .i64 ir)) (g := w.heap.size + 1 + 1) (k := w.heap.size + 1) (by omega) (.int .i64 k) (.string (key.extract 0 140)) (.string val) (.int .i64 rv) (.string ifk) (.int .i64 ir)).trans (put6_at hB2 (.int .i64 k) (.string (key.extract 0 140)) (.string val) (.int .i64 rv) (.string ifk) (.int .i64 ir))
      have hE2 := put6_at ((put6_ne (W := wd) (g := w.heap.size + 1) (k := w.heap.size + 1 + 1) (by omega) (.int .i64 k) (.string (key.extract 0 140)) (.string val) (.int .i64 rv) (.string ifk) (.int .i64 ir)).trans hC2) (.int .i64 k) (.string (key.extract 0 140)) (.string val) (.int .i64 rv) (.string ifk) (.int .i64 ir)
      have hE3 := put6_below (put6_below r0.1 (g := w.heap.size + 1) (by omega) (.int .i64 k) (.string (key.extract 0 140)) (.string val) (.int .i64 rv) (.string ifk) (.int .i64 ir)) (g := w.heap.size + 1 + 1) (by omega) (.int .i64 k) (.string (key.extract 0 140)) (.string val) (.int .i64 rv) (.string ifk) (.int .i64 ir)
      unfold put6 at hE1 hE2 hE3
      rw [HO.out]
      refine bodyPost_ret (v := .tuple #[opV ⟨k, (key.extract 0 140), val, rv, ifk, ir⟩, opV ⟨k, (key.extract 0 140), val, rv, ifk, ir⟩]) (by simp [results, Try.results11, go_sem, World.cell?, hE1, hE2]) rfl ⟨rfl, hE3⟩
  · by_cases hv : 100 < val.size
    · have HO : Hid (ours ⟨k, key, val, rv, ifk, ir⟩ = ⟨k, key, (val.extract 0 100), rv, ifk, ir⟩) := Lib.hid (by unfold ours cutB; simp only []; rw [if_neg hk, if_pos hv])
      have d1 : decide ((140 : Int) < (key.size : Int)) = false := by simp; omega
      have d2 : decide ((100 : Int) < (val.size : Int)) = true := by simp; omega
      have b2 : (100 : Int) ≤ (val.size : Int) := by omega
      obtain ⟨W, hW, hb, hz, hA, hB, hC⟩ := alloc3 w (opR ⟨k, key, (val.extract 0 100), rv, ifk, ir⟩) (opO op0) (opR op0)
      have HW := Lib.hid hW
      clear hW hk hv
      go_enter Try.func11, Try.ntmps11
      go_upto_region 5 with fail
      change Code.wp _ _ _ _ (((w.alloc (opR ⟨k, key, (val.extract 0 100), rv, ifk, ir⟩)).alloc (opO op0)).alloc (opR op0))
      rw [← HW.out]
      clear HW d1 d2
      refine wp_region_held_drew (S := (fun W => Below w.heap.size w W ∧ W.heap[w.heap.size]? = some (opR ⟨k, key, (val.extract 0 100), rv, ifk, ir⟩))) (by kernel_rfl) ?_ (fun r0 => ?_)
      · exact ⟨bdrew hb, hA⟩
      obtain ⟨wd, hwd⟩ : ∃ wd, wd = W.drew := ⟨_, rfl⟩
      rw [← hwd] at r0 ⊢
      have hB2 : wd.heap[w.heap.size + 1]? = some (opO op0) := by rw [hwd]; exact hB
      have hC2 : wd.heap[w.heap.size + 1 + 1]? = some (opR op0) := by rw [hwd]; exact hC
      clear hwd hB hC hA hb hz
      refine wpAnyH_take (i := 0) (v := ?_) rfl (by kernel_rfl) (by kernel_rfl) (by kernel_rfl) (fun _ _ _ h => h) (Or.inl ⟨by rfl, ?_⟩) (by assumption) ?_
      rotate_left
      · intro wS hSw
        (try dsimp only at hSw)
        obtain ⟨sb, sh⟩ := hSw
        obtain ⟨k0, k1, k2, k3, k4, k5, -⟩ := six sh
        go_simp
        first | done | with_reducible rfl
      try simp only [Act.put, List.getElem_toArray, List.getElem_cons_zero, List.setIfInBounds_toArray, List.set_cons_zero, List.set_cons_succ]
      refine wpAnyH_take (i := 1) (v := ?_) rfl (by kernel_rfl) (by kernel_rfl) (by kernel_rfl) (fun _ _ _ h => h) (Or.inl ⟨by rfl, ?_⟩) (by assumption) ?_
      rotate_left
      · intro wS hSw
        (try dsimp only at hSw)
        obtain ⟨sb, sh⟩ := hSw
        obtain ⟨k0, k1, k2, k3, k4, k5, -⟩ := six sh
        go_simp
        first | done | with_reducible rfl
      try simp only [Act.put, List.getElem_toArray, List.getElem_cons_succ, List.getElem_cons_zero, List.setIfInBounds_toArray, List.set_cons_zero, List.set_cons_succ]
      refine wpAnyH_take (i := 2) (v := ?_) rfl (by kernel_rfl) (by kernel_rfl) (by kernel_rfl) (fun _ _ _ h => h) (Or.inl ⟨by rfl, ?_⟩) (by assumption) ?_
      rotate_left
      · intro wS hSw
        (try dsimp only at hSw)
        obtain ⟨sb, sh⟩ := hSw
        obtain ⟨k0, k1, k2, k3, k4, k5, -⟩ := six sh
        go_simp
        first | done | with_reducible rfl
      try simp only [Act.put, List.getElem_toArray, List.getElem_cons_succ, List.getElem_cons_zero, List.setIfInBounds_toArray, List.set_cons_zero, List.set_cons_succ]
      refine wpAnyH_take (i := 3) (v := ?_) rfl (by kernel_rfl) (by kernel_rfl) (by kernel_rfl) (fun _ _ _ h => h) (Or.inl ⟨by rfl, ?_⟩) (by assumption) ?_
      rotate_left
      · intro wS hSw
        (try dsimp only at hSw)
        obtain ⟨sb, sh⟩ := hSw
        obtain ⟨k0, k1, k2, k3, k4, k5, -⟩ := six sh
        go_simp
        first | done | with_reducible rfl
      try simp only [Act.put, List.getElem_toArray, List.getElem_cons_succ, List.getElem_cons_zero, List.setIfInBounds_toArray, List.set_cons_zero, List.set_cons_succ]
      refine wpAnyH_take (i := 4) (v := ?_) rfl (by kernel_rfl) (by kernel_rfl) (by kernel_rfl) (fun _ _ _ h => h) (Or.inl ⟨by rfl, ?_⟩) (by assumption) ?_
      rotate_left
      · intro wS hSw
        (try dsimp only at hSw)
        obtain ⟨sb, sh⟩ := hSw
        obtain ⟨k0, k1, k2, k3, k4, k5, -⟩ := six sh
        go_simp
        first | done | with_reducible rfl
      try simp only [Act.put, List.getElem_toArray, List.getElem_cons_succ, List.getElem_cons_zero, List.setIfInBounds_toArray, List.set_cons_zero, List.set_cons_succ]
      refine wpAnyH_take (i := 5) (v := ?_) rfl (by kernel_rfl) (by kernel_rfl) (by kernel_rfl) (fun _ _ _ h => h) (Or.inl ⟨by rfl, ?_⟩) (by assumption) ?_
      rotate_left
      · intro wS hSw
        (try dsimp only at hSw)
        obtain ⟨sb, sh⟩ := hSw
        obtain ⟨k0, k1, k2, k3, k4, k5, -⟩ := six sh
        go_simp
        first | done | with_reducible rfl
      try simp only [Act.put, List.getElem_toArray, List.getElem_cons_succ, List.getElem_cons_zero, List.setIfInBounds_toArray, List.set_cons_zero, List.set_cons_succ]
      refine wpAnyH_take (i := 6) (v := ?_) rfl (by kernel_rfl) (by kernel_rfl) (by kernel_rfl) (fun _ _ _ h => h) (Or.inl ⟨by rfl, ?_⟩) (by assumption) ?_
      rotate_left
      · intro wS hSw
        (try dsimp only at hSw)
        obtain ⟨sb, sh⟩ := hSw
        obtain ⟨k0, k1, k2, k3, k4, k5, -⟩ := six sh
        go_simp
        first | done | with_reducible rfl
      try simp only [Act.put, List.getElem_toArray, List.getElem_cons_succ, List.getElem_cons_zero, List.setIfInBounds_toArray, List.set_cons_zero, List.set_cons_succ]
      refine wpAnyH_take (i := 7) (v := ?_) rfl (by kernel_rfl) (by kernel_rfl) (by kernel_rfl) (fun _ _ _ h => h) (Or.inl ⟨by rfl, ?_⟩) (by assumption) ?_
      rotate_left
      · intro wS hSw
        (try dsimp only at hSw)
        obtain ⟨sb, sh⟩ := hSw
        obtain ⟨k0, k1, k2, k3, k4, k5, -⟩ := six sh
        go_simp
        first | done | with_reducible rfl
      try simp only [Act.put, List.getElem_toArray, List.getElem_cons_succ, List.getElem_cons_zero, List.setIfInBounds_toArray, List.set_cons_zero, List.set_cons_succ]
      refine wpAnyH_take (i := 8) (v := ?_) rfl (by kernel_rfl) (by kernel_rfl) (by kernel_rfl) (fun _ _ _ h => h) (Or.inl ⟨by rfl, ?_⟩) (by assumption) ?_
      rotate_left
      · intro wS hSw
        (try dsimp only at hSw)
        obtain ⟨sb, sh⟩ := hSw
        obtain ⟨k0, k1, k2, k3, k4, k5, -⟩ := six sh
        go_simp
        first | done | with_reducible rfl
      try simp only [Act.put, List.getElem_toArray, List.getElem_cons_succ, List.getElem_cons_zero, List.setIfInBounds_toArray, List.set_cons_zero, List.set_cons_succ]
      refine wpAnyH_take (i := 9) (v := ?_) rfl (by kernel_rfl) (by kernel_rfl) (by kernel_rfl) (fun _ _ _ h => h) (Or.inl ⟨by rfl, ?_⟩) (by assumption) ?_
      rotate_left
      · intro wS hSw
        (try dsimp only at hSw)
        obtain ⟨sb, sh⟩ := hSw
        obtain ⟨k0, k1, k2, k3, k4, k5, -⟩ := six sh
        go_simp
        first | done | with_reducible rfl
      try simp only [Act.put, List.getElem_toArray, List.getElem_cons_succ, List.getElem_cons_zero, List.setIfInBounds_toArray, List.set_cons_zero, List.set_cons_succ]
      refine wpAnyH_take (i := 10) (v := ?_) rfl (by kernel_rfl) (by kernel_rfl) (by kernel_rfl) (fun _ _ _ h => h) (Or.inl ⟨by rfl, ?_⟩) (by assumption) ?_
      rotate_left
      · intro wS hSw
        (try dsimp only at hSw)
        obtain ⟨sb, sh⟩ := hSw
        obtain ⟨k0, k1, k2, k3, k4, k5, -⟩ := six sh
        go_simp
        first | done | with_reducible rfl
      try simp only [Act.put, List.getElem_toArray, List.getElem_cons_succ, List.getElem_cons_zero, List.setIfInBounds_toArray, List.set_cons_zero, List.set_cons_succ]
      refine wpAnyH_take (i := 11) (v := ?_) rfl (by kernel_rfl) (by kernel_rfl) (by kernel_rfl) (fun _ _ _ h => h) (Or.inl ⟨by rfl, ?_⟩) (by assumption) ?_
      rotate_left
      · intro wS hSw
        (try dsimp only at hSw)
        obtain ⟨sb, sh⟩ := hSw
        obtain ⟨k0, k1, k2, k3, k4, k5, -⟩ := six sh
        go_simp
        first | done | with_reducible rfl
      try simp only [Act.put, List.getElem_toArray, List.getElem_cons_succ, List.getElem_cons_zero, List.setIfInBounds_toArray, List.set_cons_zero, List.set_cons_succ]
      refine wpAnyH_take (i := 12) (v := ?_) rfl (by kernel_rfl) (by kernel_rfl) (by kernel_rfl) (fun _ _ _ h => h) (Or.inl ⟨by rfl, ?_⟩) (by assumption) ?_
      rotate_left
      · intro wS hSw
        (try dsimp only at hSw)
        obtain ⟨sb, sh⟩ := hSw
        obtain ⟨k0, k1, k2, k3, k4, k5, -⟩ := six sh
        go_simp
        first | done | with_reducible rfl
      try simp only [Act.put, List.getElem_toArray, List.getElem_cons_succ, List.getElem_cons_zero, List.setIfInBounds_toArray, List.set_cons_zero, List.set_cons_succ]
      refine wpAnyH_take (i := 13) (v := ?_) rfl (by kernel_rfl) (by kernel_rfl) (by kernel_rfl) (fun _ _ _ h => h) (Or.inl ⟨by rfl, ?_⟩) (by assumption) ?_
      rotate_left
      · intro wS hSw
        (try dsimp only at hSw)
        obtain ⟨sb, sh⟩ := hSw
        obtain ⟨k0, k1, k2, k3, k4, k5, -⟩ := six sh
        go_simp
        first | done | with_reducible rfl
      try simp only [Act.put, List.getElem_toArray, List.getElem_cons_succ, List.getElem_cons_zero, List.setIfInBounds_toArray, List.set_cons_zero, List.set_cons_succ]
      have hC3 := (put6_ne (W := wd) (g := w.heap.size + 1) (k := w.heap.size + 1 + 1) (by omega) (.int .i64 k) (.string key) (.string (val.extract 0 100)) (.int .i64 rv) (.string ifk) (.int .i64 ir)).trans hC2
      have hB3 := put6_at hB2 (.int .i64 k) (.string key) (.string (val.extract 0 100)) (.int .i64 rv) (.string ifk) (.int .i64 ir)
      unfold put6 at hC3 hB3
      obtain ⟨a0, a1, a2, a3, a4, a5, b0, b1, b2, b3, b4, b5⟩ := six hB2
      obtain ⟨e0, e1, e2, e3, e4, e5, f0, f1, f2, f3, f4, f5⟩ := six hC3
      refine wpAnyH_ready (rs := [14]) (by kernel_rfl) (by simp) ?_
      refine AllReadyH.cons rfl (fun K hK => ?_) AllReadyH.nil
      go_simp
      refine hK.out _ _ ?_ (fun r8 => ?_)
      · exact ⟨put6_below r0.1 (by omega) _ _ _ _ _ _, (put6_ne (by omega) _ _ _ _ _ _).trans r0.2⟩
      try simp only [Act.put, List.getElem_toArray, List.getElem_cons_succ, List.getElem_cons_zero, List.setIfInBounds_toArray, List.set_cons_zero, List.set_cons_succ]
      refine wpAnyH_ready (rs := [15]) (by kernel_rfl) (by simp) ?_
      refine AllReadyH.cons rfl (fun K hK => ?_) AllReadyH.nil
      go_simp
      refine hK.out _ _ ?_ (fun r9 => ?_)
      · exact ⟨put6_below (put6_below r0.1 (by omega) _ _ _ _ _ _) (by omega) _ _ _ _ _ _, ((put6_ne (by omega) _ _ _ _ _ _).trans (put6_ne (by omega) _ _ _ _ _ _)).trans r0.2⟩
      try simp only [Act.put, List.getElem_toArray, List.getElem_cons_succ, List.getElem_cons_zero, List.setIfInBounds_toArray, List.set_cons_zero, List.set_cons_succ]
      refine wpAnyH_done (by kernel_rfl) ?_ _
      go_wp2_with fail
      have hE1 := (put6_ne (W := put6 wd (w.heap.size + 1) (.int .i64 k) (.string key) (.string (val.extract 0 100)) (.int .i64 rv) (.string ifk) (.int .i64 ir)) (g := w.heap.size + 1 + 1) (k := w.heap.size + 1) (by omega) (.int .i64 k) (.string key) (.string (val.extract 0 100)) (.int .i64 rv) (.string ifk) (.int .i64 ir)).trans (put6_at hB2 (.int .i64 k) (.string key) (.string (val.extract 0 100)) (.int .i64 rv) (.string ifk) (.int .i64 ir))
      have hE2 := put6_at ((put6_ne (W := wd) (g := w.heap.size + 1) (k := w.heap.size + 1 + 1) (by omega) (.int .i64 k) (.string key) (.string (val.extract 0 100)) (.int .i64 rv) (.string ifk) (.int .i64 ir)).trans hC2) (.int .i64 k) (.string key) (.string (val.extract 0 100)) (.int .i64 rv) (.string ifk) (.int .i64 ir)
      have hE3 := put6_below (put6_below r0.1 (g := w.heap.size + 1) (by omega) (.int .i64 k) (.string key) (.string (val.extract 0 100)) (.int .i64 rv) (.string ifk) (.int .i64 ir)) (g := w.heap.size + 1 + 1) (by omega) (.int .i64 k) (.string key) (.string (val.extract 0 100)) (.int .i64 rv) (.string ifk) (.int .i64 ir)
      unfold put6 at hE1 hE2 hE3
      rw [HO.out]
      refine bodyPost_ret (v := .tuple #[opV ⟨k, key, (val.extract 0 100), rv, ifk, ir⟩, opV ⟨k, key, (val.extract 0 100), rv, ifk, ir⟩]) (by simp [results, Try.results11, go_sem, World.cell?, hE1, hE2]) rfl ⟨rfl, hE3⟩
    · have HO : Hid (ours ⟨k, key, val, rv, ifk, ir⟩ = ⟨k, key, val, rv, ifk, ir⟩) := Lib.hid (by unfold ours cutB; simp only []; rw [if_neg hk, if_neg hv])
      have d1 : decide ((140 : Int) < (key.size : Int)) = false := by simp; omega
      have d2 : decide ((100 : Int) < (val.size : Int)) = false := by simp; omega
      obtain ⟨W, hW, hb, hz, hA, hB, hC⟩ := alloc3 w (opR ⟨k, key, val, rv, ifk, ir⟩) (opO op0) (opR op0)
      have HW := Lib.hid hW
      clear hW hk hv
      go_enter Try.func11, Try.ntmps11
      go_upto_region 5 with fail
      change Code.wp _ _ _ _ (((w.alloc (opR ⟨k, key, val, rv, ifk, ir⟩)).alloc (opO op0)).alloc (opR op0))
      rw [← HW.out]
      clear HW d1 d2
      refine wp_region_held_drew (S := (fun W => Below w.heap.size w W ∧ W.heap[w.heap.size]? = some (opR ⟨k, key, val, rv, ifk, ir⟩))) (by kernel_rfl) ?_ (fun r0 => ?_)
      · exact ⟨bdrew hb, hA⟩
      obtain ⟨wd, hwd⟩ : ∃ wd, wd = W.drew := ⟨_, rfl⟩
      rw [← hwd] at r0 ⊢
      have hB2 : wd.heap[w.heap.size + 1]? = some (opO op0) := by rw [hwd]; exact hB
      have hC2 : wd.heap[w.heap.size + 1 + 1]? = some (opR op0) := by rw [hwd]; exact hC
      clear hwd hB hC hA hb hz
      refine wpAnyH_take (i := 0) (v := ?_) rfl (by kernel_rfl) (by kernel_rfl) (by kernel_rfl) (fun _ _ _ h => h) (Or.inl ⟨by rfl, ?_⟩) (by assumption) ?_
      rotate_left
      · intro wS hSw
        (try dsimp only at hSw)
        obtain ⟨sb, sh⟩ := hSw
        obtain ⟨k0, k1, k2, k3, k4, k5, -⟩ := six sh
        go_simp
        first | done | with_reducible rfl
      try simp only [Act.put, List.getElem_toArray, List.getElem_cons_zero, List.setIfInBounds_toArray, List.set_cons_zero, List.set_cons_succ]
      refine wpAnyH_take (i := 1) (v := ?_) rfl (by kernel_rfl) (by kernel_rfl) (by kernel_rfl) (fun _ _ _ h => h) (Or.inl ⟨by rfl, ?_⟩) (by assumption) ?_
      rotate_left
      · intro wS hSw
        (try dsimp only at hSw)
        obtain ⟨sb, sh⟩ := hSw
        obtain ⟨k0, k1, k2, k3, k4, k5, -⟩ := six sh
        go_simp
        first | done | with_reducible rfl
      try simp only [Act.put, List.getElem_toArray, List.getElem_cons_succ, List.getElem_cons_zero, List.setIfInBounds_toArray, List.set_cons_zero, List.set_cons_succ]
      refine wpAnyH_take (i := 2) (v := ?_) rfl (by kernel_rfl) (by kernel_rfl) (by kernel_rfl) (fun _ _ _ h => h) (Or.inl ⟨by rfl, ?_⟩) (by assumption) ?_
      rotate_left
      · intro wS hSw
        (try dsimp only at hSw)
        obtain ⟨sb, sh⟩ := hSw
        obtain ⟨k0, k1, k2, k3, k4, k5, -⟩ := six sh
        go_simp
        first | done | with_reducible rfl
      try simp only [Act.put, List.getElem_toArray, List.getElem_cons_succ, List.getElem_cons_zero, List.setIfInBounds_toArray, List.set_cons_zero, List.set_cons_succ]
      refine wpAnyH_take (i := 3) (v := ?_) rfl (by kernel_rfl) (by kernel_rfl) (by kernel_rfl) (fun _ _ _ h => h) (Or.inl ⟨by rfl, ?_⟩) (by assumption) ?_
      rotate_left
      · intro wS hSw
        (try dsimp only at hSw)
        obtain ⟨sb, sh⟩ := hSw
        obtain ⟨k0, k1, k2, k3, k4, k5, -⟩ := six sh
        go_simp
        first | done | with_reducible rfl
      try simp only [Act.put, List.getElem_toArray, List.getElem_cons_succ, List.getElem_cons_zero, List.setIfInBounds_toArray, List.set_cons_zero, List.set_cons_succ]
      refine wpAnyH_take (i := 4) (v := ?_) rfl (by kernel_rfl) (by kernel_rfl) (by kernel_rfl) (fun _ _ _ h => h) (Or.inl ⟨by rfl, ?_⟩) (by assumption) ?_
      rotate_left
      · intro wS hSw
        (try dsimp only at hSw)
        obtain ⟨sb, sh⟩ := hSw
        obtain ⟨k0, k1, k2, k3, k4, k5, -⟩ := six sh
        go_simp
        first | done | with_reducible rfl
      try simp only [Act.put, List.getElem_toArray, List.getElem_cons_succ, List.getElem_cons_zero, List.setIfInBounds_toArray, List.set_cons_zero, List.set_cons_succ]
      refine wpAnyH_take (i := 5) (v := ?_) rfl (by kernel_rfl) (by kernel_rfl) (by kernel_rfl) (fun _ _ _ h => h) (Or.inl ⟨by rfl, ?_⟩) (by assumption) ?_
      rotate_left
      · intro wS hSw
        (try dsimp only at hSw)
        obtain ⟨sb, sh⟩ := hSw
        obtain ⟨k0, k1, k2, k3, k4, k5, -⟩ := six sh
        go_simp
        first | done | with_reducible rfl
      try simp only [Act.put, List.getElem_toArray, List.getElem_cons_succ, List.getElem_cons_zero, List.setIfInBounds_toArray, List.set_cons_zero, List.set_cons_succ]
      refine wpAnyH_take (i := 6) (v := ?_) rfl (by kernel_rfl) (by kernel_rfl) (by kernel_rfl) (fun _ _ _ h => h) (Or.inl ⟨by rfl, ?_⟩) (by assumption) ?_
      rotate_left
      · intro wS hSw
        (try dsimp only at hSw)
        obtain ⟨sb, sh⟩ := hSw
        obtain ⟨k0, k1, k2, k3, k4, k5, -⟩ := six sh
        go_simp
        first | done | with_reducible rfl
      try simp only [Act.put, List.getElem_toArray, List.getElem_cons_succ, List.getElem_cons_zero, List.setIfInBounds_toArray, List.set_cons_zero, List.set_cons_succ]
      refine wpAnyH_take (i := 7) (v := ?_) rfl (by kernel_rfl) (by kernel_rfl) (by kernel_rfl) (fun _ _ _ h => h) (Or.inl ⟨by rfl, ?_⟩) (by assumption) ?_
      rotate_left
      · intro wS hSw
        (try dsimp only at hSw)
        obtain ⟨sb, sh⟩ := hSw
        obtain ⟨k0, k1, k2, k3, k4, k5, -⟩ := six sh
        go_simp
        first | done | with_reducible rfl
      try simp only [Act.put, List.getElem_toArray, List.getElem_cons_succ, List.getElem_cons_zero, List.setIfInBounds_toArray, List.set_cons_zero, List.set_cons_succ]
      refine wpAnyH_take (i := 8) (v := ?_) rfl (by kernel_rfl) (by kernel_rfl) (by kernel_rfl) (fun _ _ _ h => h) (Or.inl ⟨by rfl, ?_⟩) (by assumption) ?_
      rotate_left
      · intro wS hSw
        (try dsimp only at hSw)
        obtain ⟨sb, sh⟩ := hSw
        obtain ⟨k0, k1, k2, k3, k4, k5, -⟩ := six sh
        go_simp
        first | done | with_reducible rfl
      try simp only [Act.put, List.getElem_toArray, List.getElem_cons_succ, List.getElem_cons_zero, List.setIfInBounds_toArray, List.set_cons_zero, List.set_cons_succ]
      refine wpAnyH_take (i := 9) (v := ?_) rfl (by kernel_rfl) (by kernel_rfl) (by kernel_rfl) (fun _ _ _ h => h) (Or.inl ⟨by rfl, ?_⟩) (by assumption) ?_
      rotate_left
      · intro wS hSw
        (try dsimp only at hSw)
        obtain ⟨sb, sh⟩ := hSw
        obtain ⟨k0, k1, k2, k3, k4, k5, -⟩ := six sh
        go_simp
        first | done | with_reducible rfl
      try simp only [Act.put, List.getElem_toArray, List.getElem_cons_succ, List.getElem_cons_zero, List.setIfInBounds_toArray, List.set_cons_zero, List.set_cons_succ]
      refine wpAnyH_take (i := 10) (v := ?_) rfl (by kernel_rfl) (by kernel_rfl) (by kernel_rfl) (fun _ _ _ h => h) (Or.inl ⟨by rfl, ?_⟩) (by assumption) ?_
      rotate_left
      · intro wS hSw
        (try dsimp only at hSw)
        obtain ⟨sb, sh⟩ := hSw
        obtain ⟨k0, k1, k2, k3, k4, k5, -⟩ := six sh
        go_simp
        first | done | with_reducible rfl
      try simp only [Act.put, List.getElem_toArray, List.getElem_cons_succ, List.getElem_cons_zero, List.setIfInBounds_toArray, List.set_cons_zero, List.set_cons_succ]
      refine wpAnyH_take (i := 11) (v := ?_) rfl (by kernel_rfl) (by kernel_rfl) (by kernel_rfl) (fun _ _ _ h => h) (Or.inl ⟨by rfl, ?_⟩) (by assumption) ?_
      rotate_left
      · intro wS hSw
        (try dsimp only at hSw)
        obtain ⟨sb, sh⟩ := hSw
        obtain ⟨k0, k1, k2, k3, k4, k5, -⟩ := six sh
        go_simp
        first | done | with_reducible rfl
      try simp only [Act.put, List.getElem_toArray, List.getElem_cons_succ, List.getElem_cons_zero, List.setIfInBounds_toArray, List.set_cons_zero, List.set_cons_succ]
      refine wpAnyH_take (i := 12) (v := ?_) rfl (by kernel_rfl) (by kernel_rfl) (by kernel_rfl) (fun _ _ _ h => h) (Or.inl ⟨by rfl, ?_⟩) (by assumption) ?_
      rotate_left
      · intro wS hSw
        (try dsimp only at hSw)
        obtain ⟨sb, sh⟩ := hSw
        obtain ⟨k0, k1, k2, k3, k4, k5, -⟩ := six sh
        go_simp
        first | done | with_reducible rfl
      try simp only [Act.put, List.getElem_toArray, List.getElem_cons_succ, List.getElem_cons_zero, List.setIfInBounds_toArray, List.set_cons_zero, List.set_cons_succ]
      refine wpAnyH_take (i := 13) (v := ?_) rfl (by kernel_rfl) (by kernel_rfl) (by kernel_rfl) (fun _ _ _ h => h) (Or.inl ⟨by rfl, ?_⟩) (by assumption) ?_
      rotate_left
      · intro wS hSw
        (try dsimp only at hSw)
        obtain ⟨sb, sh⟩ := hSw
        obtain ⟨k0, k1, k2, k3, k4, k5, -⟩ := six sh
        go_simp
        first | done | with_reducible rfl
      try simp only [Act.put, List.getElem_toArray, List.getElem_cons_succ, List.getElem_cons_zero, List.setIfInBounds_toArray, List.set_cons_zero, List.set_cons_succ]
      have hC3 := (put6_ne (W := wd) (g := w.heap.size + 1) (k := w.heap.size + 1 + 1) (by omega) (.int .i64 k) (.string key) (.string val) (.int .i64 rv) (.string ifk) (.int .i64 ir)).trans hC2
      have hB3 := put6_at hB2 (.int .i64 k) (.string key) (.string val) (.int .i64 rv) (.string ifk) (.int .i64 ir)
      unfold put6 at hC3 hB3
      obtain ⟨a0, a1, a2, a3, a4, a5, b0, b1, b2, b3, b4, b5⟩ := six hB2
      obtain ⟨e0, e1, e2, e3, e4, e5, f0, f1, f2, f3, f4, f5⟩ := six hC3
      refine wpAnyH_ready (rs := [14]) (by kernel_rfl) (by simp) ?_
      refine AllReadyH.cons rfl (fun K hK => ?_) AllReadyH.nil
      go_simp
      refine hK.out _ _ ?_ (fun r8 => ?_)
      · exact ⟨put6_below r0.1 (by omega) _ _ _ _ _ _, (put6_ne (by omega) _ _ _ _ _ _).trans r0.2⟩
      try simp only [Act.put, List.getElem_toArray, List.getElem_cons_succ, List.getElem_cons_zero, List.setIfInBounds_toArray, List.set_cons_zero, List.set_cons_succ]
      refine wpAnyH_ready (rs := [15]) (by kernel_rfl) (by simp) ?_
      refine AllReadyH.cons rfl (fun K hK => ?_) AllReadyH.nil
      go_simp
      refine hK.out _ _ ?_ (fun r9 => ?_)
      · exact ⟨put6_below (put6_below r0.1 (by omega) _ _ _ _ _ _) (by omega) _ _ _ _ _ _, ((put6_ne (by omega) _ _ _ _ _ _).trans (put6_ne (by omega) _ _ _ _ _ _)).trans r0.2⟩
      try simp only [Act.put, List.getElem_toArray, List.getElem_cons_succ, List.getElem_cons_zero, List.setIfInBounds_toArray, List.set_cons_zero, List.set_cons_succ]
      refine wpAnyH_done (by kernel_rfl) ?_ _
      go_wp2_with fail
      have hE1 := (put6_ne (W := put6 wd (w.heap.size + 1) (.int .i64 k) (.string key) (.string val) (.int .i64 rv) (.string ifk) (.int .i64 ir)) (g := w.heap.size + 1 + 1) (k := w.heap.size + 1) (by omega) (.int .i64 k) (.string key) (.string val) (.int .i64 rv) (.string ifk) (.int .i64 ir)).trans (put6_at hB2 (.int .i64 k) (.string key) (.string val) (.int .i64 rv) (.string ifk) (.int .i64 ir))
      have hE2 := put6_at ((put6_ne (W := wd) (g := w.heap.size + 1) (k := w.heap.size + 1 + 1) (by omega) (.int .i64 k) (.string key) (.string val) (.int .i64 rv) (.string ifk) (.int .i64 ir)).trans hC2) (.int .i64 k) (.string key) (.string val) (.int .i64 rv) (.string ifk) (.int .i64 ir)
      have hE3 := put6_below (put6_below r0.1 (g := w.heap.size + 1) (by omega) (.int .i64 k) (.string key) (.string val) (.int .i64 rv) (.string ifk) (.int .i64 ir)) (g := w.heap.size + 1 + 1) (by omega) (.int .i64 k) (.string key) (.string val) (.int .i64 rv) (.string ifk) (.int .i64 ir)
      unfold put6 at hE1 hE2 hE3
      rw [HO.out]
      refine bodyPost_ret (v := .tuple #[opV ⟨k, key, val, rv, ifk, ir⟩, opV ⟨k, key, val, rv, ifk, ir⟩]) (by simp [results, Try.results11, go_sem, World.cell?, hE1, hE2]) rfl ⟨rfl, hE3⟩
end Go.Proofs.Ytholgmcfgnifdaa
