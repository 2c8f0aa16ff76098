/- The document's state: Plan. Made by g_refplan.py. -/
import Derived.Test.YtholgmcfgnifdaaKvRef5
namespace Go.Proofs.Ytholgmcfgnifdaa
open Go.RowKit Go.Maps
abbrev resR (c r : Int) (v : ByteArray) (its : Value) : Obj := .cells #[.int .i64 c, .int .i64 r, .string v, its] 61
theorem alloc4 (w : World) (A B C D : Obj) : ∃ W, W = (((w.alloc A).alloc B).alloc C).alloc D ∧ Below w.heap.size w W ∧ W.heap[w.heap.size]? = some A ∧ W.heap[w.heap.size + 1]? = some B ∧ W.heap[w.heap.size + 1 + 1]? = some C ∧ W.heap[w.heap.size + 1 + 1 + 1]? = some D := by
  refine ⟨_, rfl, belAlloc (belAlloc (belAlloc (belNew w A) B) C) D, ?_, ?_, ?_, ?_⟩
  · rw [Below.heap_alloc _ _ _ (by simp; omega), Below.heap_alloc _ _ _ (by simp; omega), Below.heap_alloc _ _ _ (by simp)]; exact heap_alloc_new w A
  · rw [Below.heap_alloc _ _ _ (by simp), Below.heap_alloc _ _ _ (by simp)]; simpa using heap_alloc_new (w.alloc A) B
  · rw [Below.heap_alloc _ _ _ (by simp)]; simpa using heap_alloc_new ((w.alloc A).alloc B) C
  · simpa using heap_alloc_new (((w.alloc A).alloc B).alloc C) D
theorem plan_endR {w W : World} {n1 n2 : Nat} {v : Value} {L : List KEnt} (hb : Below w.heap.size w W) (h1 : w.heap.size ≤ n1) (h12 : n1 ≠ n2) (h2 : w.heap.size ≤ n2) {a b c d a' b' c' d' : Value} (hB : W.heap[n1]? = some (.cells #[a, b, c, d] 61 (0, 0))) (hC : W.heap[n2]? = some (.cells #[a', b', c', d'] 85 (0, 0)))
    (hrow : RowR W w.heap.size v L) (x y z u x' y' z' u' : Value) :
    (put4 (put4 W n1 x y z u) n2 x' y' z' u').heap[n1]? = some (.cells #[x, y, z, u] 61 (0, 0)) ∧ (put4 (put4 W n1 x y z u) n2 x' y' z' u').heap[n2]? = some (.cells #[x', y', z', u'] 85 (0, 0)) ∧
    RowR (put4 (put4 W n1 x y z u) n2 x' y' z' u') w.heap.size v L ∧ Below w.heap.size w (put4 (put4 W n1 x y z u) n2 x' y' z' u') := by
  have hC1 := (put4_ne (W := W) (g := n1) (fun e => h12 e.symm) x y z u).trans hC
  exact ⟨(put4_ne h12 _ _ _ _).trans (put4_at hB x y z u), put4_at hC1 _ _ _ _, put4_row (put4_row hrow hB (by decide) _ _ _ _) hC1 (by decide) _ _ _ _, put4_below (put4_below hb h1 _ _ _ _) h2 _ _ _ _⟩
set_option maxRecDepth 100000 in
set_option maxHeartbeats 16000000 in
theorem refPlan_get (v : Value) (L : List KEnt) (R : Int) (o : KOp) (w : World) (h : SeesI w v L) (hl : L.length ≤ 1000000) (ho : Op9Ok o) (hR : 0 ≤ R ∧ R < 9223372036854775807) (hk : o.kind = 1) :
    Calls Try.prog 28 #[stV R v, opV o] w fun e w' => ∃ v', e = .returned (.tuple #[kres (planK ⟨R, L⟩ o).1 v', effV (planK ⟨R, L⟩ o).2.1, .bool (planK ⟨R, L⟩ o).2.2]) ∧ RowR w' w.heap.size v' (planK ⟨R, L⟩ o).1.its ∧ Below w.heap.size w w' := by
  obtain ⟨W, hW, hb, hA, hB, hC, hD⟩ := alloc4 w (stO R v) (opR o) (resR 0 0 emp (.slice none 0 0)) (effR9 eff0)
  have hlm : L.length ≤ maxLen := by unfold maxLen; omega
  have HF := Lib.hid (refFind_any v L R o.key W (h.below hb) hlm)
  obtain ⟨r0, r1⟩ := hR
  have hp : planK ⟨R, L⟩ o = (⟨(getR L o.key).1, (getR L o.key).2.1, (getR L o.key).2.2, []⟩, eff0, false) := by unfold planK; rw [if_pos hk]
  have HP := Lib.hid hp
  unfold getR revOf valOf at HP
  unfold gotV at HF
  generalize there L o.key = th at HF HP
  generalize gotU L o.key = u at HF HP
  obtain ⟨u1, u2, u3⟩ := u
  have HK := Lib.hid hk
  clear hp hk
  have HW := Lib.hid hW
  have HB := Lib.hid (And.intro hb (And.intro hA (And.intro hB (And.intro hC hD))))
  have HS := Lib.hid (And.intro h (And.intro hl ho))
  have s0 := cell0 hA
  have s1 := cell1 hA
  obtain ⟨k0, k1, k2, k3, k4, k5⟩ := opcells hB
  clear hW hb hA hB hC hD h hl ho hlm
  go_enter Try.func28, Try.ntmps28
  go_upto_region 1 with fail
  change Code.wp _ _ _ _ ((((w.alloc (stO R v)).alloc (opR o)).alloc (resR 0 0 emp (.slice none 0 0))).alloc (effR9 eff0))
  rw [← HW.out]
  go_upto_region 2 with (first
    | (go_at_call 35; refine HF.out.mono ?_; rintro x w1 ⟨rfl, hb1⟩)
    | go_in)
  obtain ⟨W2, hW2⟩ : ∃ W2, W2 = w1.alloc (itRO u1 u2 u3) := ⟨_, rfl⟩
  change Code.wp _ _ _ _ (w1.alloc (itRO u1 u2 u3))
  rw [← hW2]
  have hbb : Below W.heap.size W W2 := by rw [hW2]; exact belAlloc hb1 _
  have hx : W2.heap[w1.heap.size]? = some (itRO u1 u2 u3) := by rw [hW2]; exact heap_alloc_new w1 _
  obtain ⟨x0, x1, x2⟩ := rcells hx
  have hS2 := (hbb.block _ (heap_lt HB.out.2.1)).trans HB.out.2.1
  have hO2 := (hbb.block _ (heap_lt HB.out.2.2.1)).trans HB.out.2.2.1
  have hR2 := (hbb.block _ (heap_lt HB.out.2.2.2.1)).trans HB.out.2.2.2.1
  have hF2 := (hbb.block _ (heap_lt HB.out.2.2.2.2)).trans HB.out.2.2.2.2
  have hbw := HB.out.1.trans (hbb.mono HB.out.1.size)
  have H2 := Lib.hid (And.intro hbw (And.intro hS2 (And.intro hO2 (And.intro hR2 hF2))))
  clear s0 s1 k0 k1 k2 k3 k4 k5 hW2 hb1 hbb hx HW HB HF hbw
  have s0 := cell0 hS2
  have s1 := cell1 hS2
  obtain ⟨k0, k1, k2, k3, k4, k5⟩ := opcells hO2
  rw [HK.out] at k0
  clear hS2 hO2
  obtain ⟨a0, a1, a2, a3, b0, b1, b2, b3⟩ := four hR2
  obtain ⟨e0, e1, e2, e3, f0, f1, f2, f3⟩ := four hF2
  cases th with
  | true =>
    rw [if_pos rfl] at HP
    go_wp2_with fail
    have hE := plan_endR (v := .slice none 0 0) (L := []) H2.out.1 (n1 := w.heap.size + 1 + 1) (n2 := w.heap.size + 1 + 1 + 1) (by omega) (by omega) (by omega) hR2 hF2 (World.ownsRow_nil _ _ _ _) (.int .i64 0) (.int .i64 u3) (.string u2) (.slice none 0 0) (.string emp) (.string emp) (.int .i64 0) (.bool false)
    unfold put4 at hE
    refine bodyPost_ret (v := .tuple #[kres ⟨0, u3, u2, []⟩ (.slice none 0 0), effV eff0, .bool false]) (by simp [results, Try.results28, go_sem, World.cell?, hE.1, hE.2.1]) rfl ⟨.slice none 0 0, ?_, ?_, hE.2.2.2⟩
    · rw [HP.out]
    · rw [HP.out]
      exact hE.2.2.1
  | false =>
    rw [if_neg (by simp)] at HP
    go_wp2_with fail
    have hE := plan_endR (v := .slice none 0 0) (L := []) H2.out.1 (n1 := w.heap.size + 1 + 1) (n2 := w.heap.size + 1 + 1 + 1) (by omega) (by omega) (by omega) hR2 hF2 (World.ownsRow_nil _ _ _ _) (.int .i64 6) (.int .i64 0) (.string emp) (.slice none 0 0) (.string emp) (.string emp) (.int .i64 0) (.bool false)
    unfold put4 at hE
    refine bodyPost_ret (v := .tuple #[kres ⟨6, 0, emp, []⟩ (.slice none 0 0), effV eff0, .bool false]) (by simp [results, Try.results28, go_sem, World.cell?, hE.1, hE.2.1]) rfl ⟨.slice none 0 0, ?_, ?_, hE.2.2.2⟩
    · rw [HP.out]
    · rw [HP.out]
      exact hE.2.2.1
set_option maxRecDepth 100000 in
set_option maxHeartbeats 16000000 in
theorem refPlan_list (v : Value) (L : List KEnt) (R : Int) (o : KOp) (w : World) (h : SeesI w v L) (hl : L.length ≤ 1000000) (ho : Op9Ok o) (hR : 0 ≤ R ∧ R < 9223372036854775807) (hk : o.kind = 2) :
    Calls Try.prog 28 #[stV R v, opV o] w fun e w' => ∃ v', e = .returned (.tuple #[kres (planK ⟨R, L⟩ o).1 v', effV (planK ⟨R, L⟩ o).2.1, .bool (planK ⟨R, L⟩ o).2.2]) ∧ RowR w' w.heap.size v' (planK ⟨R, L⟩ o).1.its ∧ Below w.heap.size w w' := by
  obtain ⟨W, hW, hb, hA, hB, hC, hD⟩ := alloc4 w (stO R v) (opR o) (resR 0 0 emp (.slice none 0 0)) (effR9 eff0)
  have hlm : L.length ≤ maxLen := by unfold maxLen; omega
  have HF := Lib.hid (refFind_any v L R o.key W (h.below hb) hlm)
  obtain ⟨r0, r1⟩ := hR
  have hp : planK ⟨R, L⟩ o = (⟨0, R, emp, beginL L o.key⟩, eff0, false) := by unfold planK; rw [if_neg (by omega), if_pos hk]
  have HP := Lib.hid hp
  unfold gotV at HF
  generalize there L o.key = th at HF
  generalize gotU L o.key = u at HF
  obtain ⟨u1, u2, u3⟩ := u
  have HK := Lib.hid hk
  clear hp hk
  have HW := Lib.hid hW
  have HB := Lib.hid (And.intro hb (And.intro hA (And.intro hB (And.intro hC hD))))
  have HS := Lib.hid (And.intro h (And.intro hl ho))
  have s0 := cell0 hA
  have s1 := cell1 hA
  obtain ⟨k0, k1, k2, k3, k4, k5⟩ := opcells hB
  clear hW hb hA hB hC hD h hl ho hlm
  go_enter Try.func28, Try.ntmps28
  go_upto_region 1 with fail
  change Code.wp _ _ _ _ ((((w.alloc (stO R v)).alloc (opR o)).alloc (resR 0 0 emp (.slice none 0 0))).alloc (effR9 eff0))
  rw [← HW.out]
  go_upto_region 2 with (first
    | (go_at_call 35; refine HF.out.mono ?_; rintro x w1 ⟨rfl, hb1⟩)
    | go_in)
  obtain ⟨W2, hW2⟩ : ∃ W2, W2 = w1.alloc (itRO u1 u2 u3) := ⟨_, rfl⟩
  change Code.wp _ _ _ _ (w1.alloc (itRO u1 u2 u3))
  rw [← hW2]
  have hbb : Below W.heap.size W W2 := by rw [hW2]; exact belAlloc hb1 _
  have hx : W2.heap[w1.heap.size]? = some (itRO u1 u2 u3) := by rw [hW2]; exact heap_alloc_new w1 _
  obtain ⟨x0, x1, x2⟩ := rcells hx
  have hS2 := (hbb.block _ (heap_lt HB.out.2.1)).trans HB.out.2.1
  have hO2 := (hbb.block _ (heap_lt HB.out.2.2.1)).trans HB.out.2.2.1
  have hR2 := (hbb.block _ (heap_lt HB.out.2.2.2.1)).trans HB.out.2.2.2.1
  have hF2 := (hbb.block _ (heap_lt HB.out.2.2.2.2)).trans HB.out.2.2.2.2
  have hbw := HB.out.1.trans (hbb.mono HB.out.1.size)
  have H2 := Lib.hid (And.intro hbw (And.intro hS2 (And.intro hO2 (And.intro hR2 hF2))))
  clear s0 s1 k0 k1 k2 k3 k4 k5 hW2 hb1 hbb hx HW HB HF hbw
  have s0 := cell0 hS2
  have s1 := cell1 hS2
  obtain ⟨k0, k1, k2, k3, k4, k5⟩ := opcells hO2
  rw [HK.out] at k0
  go_upto_region 7 with fail
  clear k0 k1 k2 k3 k4 k5 s0 s1 x0 x1 x2
  refine wp_region_held_drew (S := (fun X => Below w.heap.size w X ∧ X.heap[w.heap.size]? = some (stO R v) ∧ X.heap[w.heap.size + 1]? = some (opR o))) (by kernel_rfl) ?_ (fun r0 => ?_)
  · exact ⟨bdrew H2.out.1, H2.out.2.1, H2.out.2.2.1⟩
  obtain ⟨wd, hwd⟩ : ∃ wd, wd = W2.drew := ⟨_, rfl⟩
  rw [← hwd] at r0 ⊢
  have hR2 : wd.heap[w.heap.size + 1 + 1]? = some (resR 0 0 emp (.slice none 0 0)) := by rw [hwd]; exact H2.out.2.2.2.1
  have hF2 : wd.heap[w.heap.size + 1 + 1 + 1]? = some (effR9 eff0) := by rw [hwd]; exact H2.out.2.2.2.2
  clear hwd
  refine wpAnyH_take (i := 0) (v := ?_) rfl (by kernel_rfl) (by kernel_rfl) (by kernel_rfl) (fun _ _ _ h => h) (Or.inl ⟨by rfl, ?_⟩) (by assumption) ?_
  rotate_left
  · intro wS hSw
    (try dsimp only at hSw)
    go_simp
    first | done | with_reducible rfl
  try simp only [Act.put, List.getElem_toArray, List.getElem_cons_zero, List.setIfInBounds_toArray, List.set_cons_zero, List.set_cons_succ]
  refine wpAnyH_take (i := 1) (v := ?_) rfl (by kernel_rfl) (by kernel_rfl) (by kernel_rfl) (fun _ _ _ h => h) (Or.inl ⟨by rfl, ?_⟩) (by assumption) ?_
  rotate_left
  · intro wS hSw
    (try dsimp only at hSw)
    obtain ⟨sb, sh, so⟩ := hSw
    have s0 := cell0 sh
    have s1 := cell1 sh
    obtain ⟨k0, k1, k2, k3, k4, k5⟩ := opcells so
    go_simp
    first | done | with_reducible rfl
  try simp only [Act.put, List.getElem_toArray, List.getElem_cons_succ, List.getElem_cons_zero, List.setIfInBounds_toArray, List.set_cons_zero, List.set_cons_succ]
  refine wpAnyH_take (i := 2) (v := ?_) rfl (by kernel_rfl) (by kernel_rfl) (by kernel_rfl) (fun _ _ _ h => h) (Or.inl ⟨by rfl, ?_⟩) (by assumption) ?_
  rotate_left
  · intro wS hSw
    (try dsimp only at hSw)
    obtain ⟨sb, sh, so⟩ := hSw
    have s0 := cell0 sh
    have s1 := cell1 sh
    obtain ⟨k0, k1, k2, k3, k4, k5⟩ := opcells so
    go_simp
    first | done | with_reducible rfl
  try simp only [Act.put, List.getElem_toArray, List.getElem_cons_succ, List.getElem_cons_zero, List.setIfInBounds_toArray, List.set_cons_zero, List.set_cons_succ]
  refine wpAnyH_take (i := 3) (v := ?_) rfl (by kernel_rfl) (by kernel_rfl) (by kernel_rfl) (fun _ _ _ h => h) (Or.inl ⟨by rfl, ?_⟩) (by assumption) ?_
  rotate_left
  · intro wS hSw
    (try dsimp only at hSw)
    go_simp
    first | done | with_reducible rfl
  try simp only [Act.put, List.getElem_toArray, List.getElem_cons_succ, List.getElem_cons_zero, List.setIfInBounds_toArray, List.set_cons_zero, List.set_cons_succ]
  refine wpAnyH_take (i := 4) (v := ?_) rfl (by kernel_rfl) (by kernel_rfl) (by kernel_rfl) (fun _ _ _ h => h) (Or.inl ⟨by rfl, ?_⟩) (by assumption) ?_
  rotate_left
  · intro wS hSw
    (try dsimp only at hSw)
    obtain ⟨sb, sh, so⟩ := hSw
    have s0 := cell0 sh
    have s1 := cell1 sh
    obtain ⟨k0, k1, k2, k3, k4, k5⟩ := opcells so
    go_simp
    first | done | with_reducible rfl
  try simp only [Act.put, List.getElem_toArray, List.getElem_cons_succ, List.getElem_cons_zero, List.setIfInBounds_toArray, List.set_cons_zero, List.set_cons_succ]
  refine wpAnyH_take (i := 7) (v := ?_) rfl (by kernel_rfl) (by kernel_rfl) (by kernel_rfl) (fun _ _ _ h => h) (Or.inl ⟨by rfl, ?_⟩) (by assumption) ?_
  rotate_left
  · intro wS hSw
    (try dsimp only at hSw)
    go_simp
    first | done | with_reducible rfl
  try simp only [Act.put, List.getElem_toArray, List.getElem_cons_succ, List.getElem_cons_zero, List.setIfInBounds_toArray, List.set_cons_zero, List.set_cons_succ]
  refine wpAnyH_ready (rs := [5]) (by kernel_rfl) (by simp) ?_
  refine AllReadyH.cons rfl (fun K hK => ?_) AllReadyH.nil
  go_simp
  refine (refBegin_any v L R o.key _ (HS.out.1.below r0.1) HS.out.2.1 HS.out.2.2.1).mono ?_; rintro x w5 ⟨vb, rfl, hrow5, hb5⟩
  obtain ⟨ao5, n5, c5, rfl⟩ := row_slice hrow5
  have S5 : Below w.heap.size w w5 ∧ w5.heap[w.heap.size]? = some (stO R v) ∧ w5.heap[w.heap.size + 1]? = some (opR o) := ⟨r0.1.trans (hb5.mono r0.1.size), (hb5.block _ (heap_lt r0.2.1)).trans r0.2.1, (hb5.block _ (heap_lt r0.2.2)).trans r0.2.2⟩
  have hR5 := (hb5.block _ (heap_lt hR2)).trans hR2
  have hF5 := (hb5.block _ (heap_lt hF2)).trans hF2
  have hrow6 : RowR w5 w.heap.size (.slice ao5 n5 c5) (beginL L o.key) := row_leE hrow5 r0.1.size
  have hC3 := (put4_ne (W := w5) (g := w.heap.size + 1 + 1) (k := w.heap.size + 1 + 1 + 1) (by omega) (.int .i64 0) (.int .i64 R) (.string emp) (.slice ao5 n5 c5)).trans hF5
  unfold put4 at hC3
  obtain ⟨a0, a1, a2, a3, b0, b1, b2, b3⟩ := four hR5
  obtain ⟨e0, e1, e2, e3, f0, f1, f2, f3⟩ := four hC3
  clear hrow5
  refine hK.out _ _ ?_ (fun r1 => ?_)
  · exact S5
  try simp only [Act.put, List.getElem_toArray, List.getElem_cons_succ, List.getElem_cons_zero, List.setIfInBounds_toArray, List.set_cons_zero, List.set_cons_succ]
  refine wpAnyH_take (i := 6) (v := ?_) rfl (by kernel_rfl) (by kernel_rfl) (by kernel_rfl) (fun _ _ _ h => h) (Or.inl ⟨by rfl, ?_⟩) (by assumption) ?_
  rotate_left
  · intro wS hSw
    (try dsimp only at hSw)
    go_simp
    first | done | with_reducible rfl
  try simp only [Act.put, List.getElem_toArray, List.getElem_cons_succ, List.getElem_cons_zero, List.setIfInBounds_toArray, List.set_cons_zero, List.set_cons_succ]
  refine wpAnyH_ready (rs := [8]) (by kernel_rfl) (by simp) ?_
  refine AllReadyH.cons rfl (fun K hK => ?_) AllReadyH.nil
  go_simp
  refine hK.out _ _ ?_ (fun r2 => ?_)
  · exact ⟨put4_below S5.1 (by omega) _ _ _ _, (put4_ne (by omega) _ _ _ _).trans S5.2.1, (put4_ne (by omega) _ _ _ _).trans S5.2.2⟩
  try simp only [Act.put, List.getElem_toArray, List.getElem_cons_succ, List.getElem_cons_zero, List.setIfInBounds_toArray, List.set_cons_zero, List.set_cons_succ]
  refine wpAnyH_ready (rs := [9]) (by kernel_rfl) (by simp) ?_
  refine AllReadyH.cons rfl (fun K hK => ?_) AllReadyH.nil
  go_simp
  refine hK.out _ _ ?_ (fun r3 => ?_)
  · exact ⟨put4_below (put4_below S5.1 (by omega) _ _ _ _) (by omega) _ _ _ _, ((put4_ne (by omega) _ _ _ _).trans (put4_ne (by omega) _ _ _ _)).trans S5.2.1, ((put4_ne (by omega) _ _ _ _).trans (put4_ne (by omega) _ _ _ _)).trans S5.2.2⟩
  try simp only [Act.put, List.getElem_toArray, List.getElem_cons_succ, List.getElem_cons_zero, List.setIfInBounds_toArray, List.set_cons_zero, List.set_cons_succ]
  refine wpAnyH_take (i := 10) (v := ?_) rfl (by kernel_rfl) (by kernel_rfl) (by kernel_rfl) (fun _ _ _ h => h) (Or.inl ⟨by rfl, ?_⟩) (by assumption) ?_
  rotate_left
  · intro wS hSw
    (try dsimp only at hSw)
    go_simp
    first | done | with_reducible rfl
  try simp only [Act.put, List.getElem_toArray, List.getElem_cons_succ, List.getElem_cons_zero, List.setIfInBounds_toArray, List.set_cons_zero, List.set_cons_succ]
  refine wpAnyH_done (by kernel_rfl) ?_ _
  go_wp2_with fail
  have hE := plan_endR (v := .slice ao5 n5 c5) (L := beginL L o.key) S5.1 (n1 := w.heap.size + 1 + 1) (n2 := w.heap.size + 1 + 1 + 1) (by omega) (by omega) (by omega) hR5 hF5 hrow6 (.int .i64 0) (.int .i64 R) (.string emp) (.slice ao5 n5 c5) (.string emp) (.string emp) (.int .i64 0) (.bool false)
  unfold put4 at hE
  refine bodyPost_ret (v := .tuple #[kres ⟨0, R, emp, beginL L o.key⟩ (.slice ao5 n5 c5), effV eff0, .bool false]) (by simp [results, Try.results28, go_sem, World.cell?, hE.1, hE.2.1]) rfl ⟨.slice ao5 n5 c5, ?_, ?_, hE.2.2.2⟩
  · rw [HP.out]
  · rw [HP.out]
    exact hE.2.2.1
end Go.Proofs.Ytholgmcfgnifdaa
