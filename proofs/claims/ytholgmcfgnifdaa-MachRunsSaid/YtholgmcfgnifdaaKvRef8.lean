/- The document's state: Do; the laws' Same. Made by g_refdo.py. -/
import Derived.Test.YtholgmcfgnifdaaKvRef7
namespace Go.Proofs.Ytholgmcfgnifdaa
open Go.RowKit Go.Maps
def put2 (W : World) (g : Nat) (x y : Value) : World := (W.setCell ⟨g, 0, none⟩ x).setCell ⟨g, 1, none⟩ y
theorem put2_at {W : World} {g : Nat} {a b : Value} {t : TypeId} (h : W.heap[g]? = some (.cells #[a, b] t (0, 0))) (x y : Value) : (put2 W g x y).heap[g]? = some (.cells #[x, y] t (0, 0)) := fill2 h x y
theorem put2_ne {W : World} {g k : Nat} (h : k ≠ g) (x y : Value) : (put2 W g x y).heap[k]? = W.heap[k]? := by
  unfold put2
  rw [Below.heap_setCell _ _ _ _ h, Below.heap_setCell _ _ _ _ h]
theorem put2_below {n : Nat} {w W : World} (hb : Below n w W) {g : Nat} (hg : n ≤ g) (x y : Value) : Below n w (put2 W g x y) := (hb.setCell (p := ⟨g, 0, none⟩) hg x).setCell (p := ⟨g, 1, none⟩) hg y
theorem put2_row {W : World} {g B : Nat} {E : TypeId} {v : Value} {L : List KEnt} {a b : Value} {t : TypeId} (h : RowE E W B v L) (hg : W.heap[g]? = some (.cells #[a, b] t (0, 0))) (ht : t ≠ E) (x y : Value) : RowE E (put2 W g x y) B v L :=
  ⟨h.1, h.2.imp id fun ⟨k, cap, cur, e, b', hk, r⟩ => ⟨k, cap, cur, e, b', (put2_ne (fun e2 => by
    subst e2
    rw [hg] at hk
    injection hk with h1
    injection h1 with _ h2
    exact ht h2) x y).trans hk, r⟩⟩
theorem do_endR {w W : World} {n1 n2 : Nat} (hb : Below w.heap.size w W) (h1 : w.heap.size ≤ n1) (h12 : n1 ≠ n2) (h2 : w.heap.size ≤ n2) {a b a' b' c' d' : Value} (hB : W.heap[n1]? = some (.cells #[a, b] 57 (0, 0))) (hC : W.heap[n2]? = some (.cells #[a', b', c', d'] 61 (0, 0)))
    (x y x' y' z' u' : Value) :
    (put4 (put2 W n1 x y) n2 x' y' z' u').heap[n1]? = some (.cells #[x, y] 57 (0, 0)) ∧ (put4 (put2 W n1 x y) n2 x' y' z' u').heap[n2]? = some (.cells #[x', y', z', u'] 61 (0, 0)) ∧
    (∀ v L, RowR W w.heap.size v L → RowR (put4 (put2 W n1 x y) n2 x' y' z' u') w.heap.size v L) ∧ Below w.heap.size w (put4 (put2 W n1 x y) n2 x' y' z' u') := by
  have hC1 := (put2_ne (W := W) (g := n1) (fun e => h12 e.symm) x y).trans hC
  exact ⟨(put4_ne h12 _ _ _ _).trans (put2_at hB x y), put4_at hC1 _ _ _ _, fun v L hr => put4_row (put2_row hr hB (by decide) _ _) hC1 (by decide) _ _ _ _, put4_below (put2_below hb h1 _ _) h2 _ _ _ _⟩
set_option maxRecDepth 100000 in
set_option maxHeartbeats 16000000 in
theorem refDo_any (v : Value) (L : List KEnt) (R : Int) (o : KOp) (w : World) (h : SeesI w v L) (hr : Rising L) (hl : L.length ≤ 100000) (ho : Op9Ok o) (hR : 0 ≤ R ∧ R < 9223372036854775807) :
    Calls Try.prog 18 #[stV R v, opV o] w fun e w' => ∃ vs vi, e = .returned (.tuple #[stV (doK ⟨R, L⟩ o).2.rev vs, kres (doK ⟨R, L⟩ o).1 vi]) ∧ SeesI w' vs (doK ⟨R, L⟩ o).2.L ∧ (∀ d, vs.ownBlock = some d → v.ownBlock = some d ∨ w.heap.size ≤ d ∧ d < w'.heap.size) ∧ RowR w' w.heap.size vi (doK ⟨R, L⟩ o).1.its ∧ Below w.heap.size w w' := by
  obtain ⟨W, hW, hb, hA, hB, hC, hD⟩ := alloc4 w (stO R v) (opR o) (stO 0 (.slice none 0 0)) (resR 0 0 emp (.slice none 0 0))
  have HP := Lib.hid (refPlan_any v L R o W (h.below hb) (by omega) ho hR)
  obtain ⟨ao, c, hv⟩ : ∃ ao c, v = .slice ao L.length c := by obtain ⟨ao, c, e, _⟩ := h; exact ⟨ao, c, e⟩
  generalize L.length = nL at hv
  subst hv
  have HS := Lib.hid (And.intro h (And.intro hr hl))
  have HW := Lib.hid hW
  have HB := Lib.hid (And.intro hb (And.intro hA (And.intro hC hD)))
  have HDo : Hid ((doK ⟨R, L⟩ o).1 = (planK ⟨R, L⟩ o).1 ∧ ((planK ⟨R, L⟩ o).2.2 = true → (doK ⟨R, L⟩ o).2 = applyK ⟨R, L⟩ (planK ⟨R, L⟩ o).2.1) ∧ ((planK ⟨R, L⟩ o).2.2 = false → (doK ⟨R, L⟩ o).2 = ⟨R, L⟩)) := Lib.hid ⟨rfl, fun h => by unfold doK; rw [if_pos h], fun h => by unfold doK; rw [if_neg (by rw [h]; simp)]⟩
  have s0 := cell0 hA
  have s1 := cell1 hA
  obtain ⟨k0, k1, k2, k3, k4, k5⟩ := opcells hB
  clear hW hb hA hB hC hD h hl ho hr hR
  generalize planK ⟨R, L⟩ o = pl at HP HDo
  obtain ⟨⟨rc, rr, rv, ri⟩, ef, wr⟩ := pl
  simp only [] at HP HDo
  go_enter Try.func18, Try.ntmps18
  go_upto_region 1 with fail
  change Code.wp _ _ _ _ ((((w.alloc (stO R (.slice ao nL c))).alloc (opR o)).alloc (stO 0 (.slice none 0 0))).alloc (resR 0 0 emp (.slice none 0 0)))
  rw [← HW.out]
  go_upto_region 2 with (first
    | (go_at_call 28; refine HP.out.mono ?_; rintro x w1 ⟨vi, rfl, hrow1, hb1⟩; obtain ⟨ao2, n2, c2, rfl⟩ := row_slice hrow1)
    | go_in)
  obtain ⟨W2, hW2, hb2, hz2, hP2, hE2⟩ := two_new w1 (resR rc rr rv (.slice ao2 n2 c2)) (effR9 ef)
  change Code.wp _ _ _ _ ((w1.alloc (resR rc rr rv (.slice ao2 n2 c2))).alloc (effR9 ef))
  rw [← hW2]
  have hbb : Below W.heap.size W W2 := bel hb1 hb2
  have hS2 := (hbb.block _ (heap_lt HB.out.2.1)).trans HB.out.2.1
  have hT2 := (hbb.block _ (heap_lt HB.out.2.2.1)).trans HB.out.2.2.1
  have hU2 := (hbb.block _ (heap_lt HB.out.2.2.2)).trans HB.out.2.2.2
  have hbw := HB.out.1.trans (hbb.mono HB.out.1.size)
  have hsz : w.heap.size + 1 + 1 + 1 < w1.heap.size := by have := heap_lt HB.out.2.2.2; have := hb1.size; omega
  have H2 := Lib.hid (And.intro hbw (And.intro hS2 (And.intro hT2 (And.intro hU2 (And.intro hP2 (And.intro hE2 (And.intro hsz (row_leE (row_keep hrow1 hb2) HB.out.1.size))))))))
  clear s0 s1 k0 k1 k2 k3 k4 k5 hW2 hb1 hb2 hz2 hbb hS2 hT2 hU2 hP2 hE2 hbw hsz hrow1 HW HB HP
  cases wr with
  | true =>
    go_upto_region 3 with fail
    refine wp_region_held_drew (S := (fun X => Below w.heap.size w X ∧ X.heap[w.heap.size]? = some (stO R (.slice ao nL c)) ∧ X.heap[w1.heap.size]? = some (resR rc rr rv (.slice ao2 n2 c2)) ∧ X.heap[w1.heap.size + 1]? = some (effR9 ef))) (by kernel_rfl) ?_ (fun r0 => ?_)
    · exact ⟨bdrew H2.out.1, H2.out.2.1, H2.out.2.2.2.2.1, H2.out.2.2.2.2.2.1⟩
    obtain ⟨wd, hwd⟩ : ∃ wd, wd = W2.drew := ⟨_, rfl⟩
    rw [← hwd] at r0 ⊢
    have hT2 : wd.heap[w.heap.size + 1 + 1]? = some (stO 0 (.slice none 0 0)) := by rw [hwd]; exact H2.out.2.2.1
    have hU2 : wd.heap[w.heap.size + 1 + 1 + 1]? = some (resR 0 0 emp (.slice none 0 0)) := by rw [hwd]; exact H2.out.2.2.2.1
    have hRw : RowR wd w.heap.size (.slice ao2 n2 c2) ri := by rw [hwd]; exact H2.out.2.2.2.2.2.2.2
    clear hwd
    refine wpAnyH_take (i := 0) (v := ?_) rfl (by kernel_rfl) (by kernel_rfl) (by kernel_rfl) (fun _ _ _ h => h) (Or.inl ⟨by rfl, ?_⟩) (by assumption) ?_
    rotate_left
    · intro wS hSw
      (try dsimp only at hSw)
      obtain ⟨sb, sh, sp, se⟩ := hSw
      have s0 := cell0 sh
      have s1 := cell1 sh
      obtain ⟨p0, p1, p2, p3, -⟩ := four sp
      obtain ⟨e0, e1, e2, e3⟩ := eff_cells se
      go_simp
      first | done | with_reducible rfl
    try simp only [Act.put, List.getElem_toArray, List.getElem_cons_zero, List.setIfInBounds_toArray, List.set_cons_zero, List.set_cons_succ]
    refine wpAnyH_take (i := 1) (v := ?_) rfl (by kernel_rfl) (by kernel_rfl) (by kernel_rfl) (fun _ _ _ h => h) (Or.inl ⟨by rfl, ?_⟩) (by assumption) ?_
    rotate_left
    · intro wS hSw
      (try dsimp only at hSw)
      obtain ⟨sb, sh, sp, se⟩ := hSw
      have s0 := cell0 sh
      have s1 := cell1 sh
      obtain ⟨p0, p1, p2, p3, -⟩ := four sp
      obtain ⟨e0, e1, e2, e3⟩ := eff_cells se
      go_simp
      first | done | with_reducible rfl
    try simp only [Act.put, List.getElem_toArray, List.getElem_cons_succ, List.getElem_cons_zero, List.setIfInBounds_toArray, List.set_cons_zero, List.set_cons_succ]
    refine wpAnyH_take (i := 3) (v := ?_) rfl (by kernel_rfl) (by kernel_rfl) (by kernel_rfl) (fun _ _ _ h => h) (Or.inl ⟨by rfl, ?_⟩) (by assumption) ?_
    rotate_left
    · intro wS hSw
      (try dsimp only at hSw)
      obtain ⟨sb, sh, sp, se⟩ := hSw
      have s0 := cell0 sh
      have s1 := cell1 sh
      obtain ⟨p0, p1, p2, p3, -⟩ := four sp
      obtain ⟨e0, e1, e2, e3⟩ := eff_cells se
      go_simp
      first | done | with_reducible rfl
    try simp only [Act.put, List.getElem_toArray, List.getElem_cons_succ, List.getElem_cons_zero, List.setIfInBounds_toArray, List.set_cons_zero, List.set_cons_succ]
    refine wpAnyH_ready (rs := [2]) (by kernel_rfl) (by simp) ?_
    refine AllReadyH.cons rfl (fun K hK => ?_) AllReadyH.nil
    go_simp
    refine (refApply_any (.slice ao nL c) L R ef _ (HS.out.1.below r0.1) HS.out.2.1 HS.out.2.2).mono ?_; rintro x w5 ⟨v5, rfl, hrow5, hb5⟩
    obtain ⟨ao5, n5, c5, rfl⟩ := row_slice hrow5
    have S5 : Below w.heap.size w w5 ∧ w5.heap[w.heap.size]? = some (stO R (.slice ao nL c)) ∧ w5.heap[w1.heap.size]? = some (resR rc rr rv (.slice ao2 n2 c2)) ∧ w5.heap[w1.heap.size + 1]? = some (effR9 ef) := ⟨r0.1.trans (hb5.mono r0.1.size), (hb5.block _ (heap_lt r0.2.1)).trans r0.2.1, (hb5.block _ (heap_lt r0.2.2.1)).trans r0.2.2.1, (hb5.block _ (heap_lt r0.2.2.2)).trans r0.2.2.2⟩
    have hT2 := (hb5.block _ (heap_lt hT2)).trans hT2
    have hU2 := (hb5.block _ (heap_lt hU2)).trans hU2
    have hRw := row_keep hRw hb5
    have hrow6 : RowR w5 w.heap.size (.slice ao5 n5 c5) (applyK ⟨R, L⟩ ef).L := row_leE hrow5 r0.1.size
    clear hrow5
    have hC3 := (put2_ne (W := w5) (g := w.heap.size + 1 + 1) (k := w.heap.size + 1 + 1 + 1) (by omega) (.int .i64 ef.rev) (.slice ao5 n5 c5)).trans hU2
    unfold put2 at hC3
    have t0 := cell0 hT2
    have t1 := cell1 hT2
    have g0 := froz hT2 0
    have g1 := froz hT2 1
    obtain ⟨a0, a1, a2, a3, b0, b1, b2, b3⟩ := four hC3
    refine hK.out _ _ ?_ (fun r1 => ?_)
    · exact S5
    try simp only [Act.put, List.getElem_toArray, List.getElem_cons_succ, List.getElem_cons_zero, List.setIfInBounds_toArray, List.set_cons_zero, List.set_cons_succ]
    refine wpAnyH_ready (rs := [4]) (by kernel_rfl) (by simp) ?_
    refine AllReadyH.cons rfl (fun K hK => ?_) AllReadyH.nil
    go_simp
    refine hK.out _ _ ?_ (fun r2 => ?_)
    · exact ⟨put2_below S5.1 (by omega) _ _, (put2_ne (by omega) _ _).trans S5.2.1, (put2_ne (by have := H2.out.2.2.2.2.2.2.1; omega) _ _).trans S5.2.2.1, (put2_ne (by have := H2.out.2.2.2.2.2.2.1; omega) _ _).trans S5.2.2.2⟩
    try simp only [Act.put, List.getElem_toArray, List.getElem_cons_succ, List.getElem_cons_zero, List.setIfInBounds_toArray, List.set_cons_zero, List.set_cons_succ]
    refine wpAnyH_ready (rs := [5]) (by kernel_rfl) (by simp) ?_
    refine AllReadyH.cons rfl (fun K hK => ?_) AllReadyH.nil
    go_simp
    refine hK.out _ _ ?_ (fun r3 => ?_)
    · exact ⟨put4_below (put2_below S5.1 (by omega) _ _) (by omega) _ _ _ _, ((put4_ne (by omega) _ _ _ _).trans (put2_ne (by omega) _ _)).trans S5.2.1, ((put4_ne (by have := H2.out.2.2.2.2.2.2.1; omega) _ _ _ _).trans (put2_ne (by have := H2.out.2.2.2.2.2.2.1; omega) _ _)).trans S5.2.2.1, ((put4_ne (by have := H2.out.2.2.2.2.2.2.1; omega) _ _ _ _).trans (put2_ne (by have := H2.out.2.2.2.2.2.2.1; omega) _ _)).trans S5.2.2.2⟩
    try simp only [Act.put, List.getElem_toArray, List.getElem_cons_succ, List.getElem_cons_zero, List.setIfInBounds_toArray, List.set_cons_zero, List.set_cons_succ]
    refine wpAnyH_done (by kernel_rfl) ?_ _
    go_wp2_with fail
    have hE := do_endR S5.1 (n1 := w.heap.size + 1 + 1) (n2 := w.heap.size + 1 + 1 + 1) (by omega) (by omega) (by omega) hT2 hU2 (.int .i64 ef.rev) (.slice ao5 n5 c5) (.int .i64 rc) (.int .i64 rr) (.string rv) (.slice ao2 n2 c2)
    unfold put4 put2 at hE
    refine bodyPost_ret (v := .tuple #[stV ef.rev (.slice ao5 n5 c5), kres ⟨rc, rr, rv, ri⟩ (.slice ao2 n2 c2)]) (by simp [results, Try.results18, go_sem, World.cell?, hE.1, hE.2.1]) rfl ⟨.slice ao5 n5 c5, .slice ao2 n2 c2, ?_, ?_, fun d hd => Or.inr (World.ownsRow.lt (hE.2.2.1 _ _ hrow6) d hd), ?_, hE.2.2.2⟩
    · rw [HDo.out.1, HDo.out.2.1 trivial]; try rfl
    · rw [HDo.out.2.1 trivial]
      exact RowE.sees (hE.2.2.1 _ _ hrow6)
    · rw [HDo.out.1]
      exact hE.2.2.1 _ _ hRw
  | false =>
    go_upto_region 4 with fail
    refine wp_region_held_drew (S := (fun X => Below w.heap.size w X ∧ X.heap[w.heap.size]? = some (stO R (.slice ao nL c)) ∧ X.heap[w1.heap.size]? = some (resR rc rr rv (.slice ao2 n2 c2)) ∧ X.heap[w1.heap.size + 1]? = some (effR9 ef))) (by kernel_rfl) ?_ (fun r0 => ?_)
    · exact ⟨bdrew H2.out.1, H2.out.2.1, H2.out.2.2.2.2.1, H2.out.2.2.2.2.2.1⟩
    obtain ⟨wd, hwd⟩ : ∃ wd, wd = W2.drew := ⟨_, rfl⟩
    rw [← hwd] at r0 ⊢
    have hT2 : wd.heap[w.heap.size + 1 + 1]? = some (stO 0 (.slice none 0 0)) := by rw [hwd]; exact H2.out.2.2.1
    have hU2 : wd.heap[w.heap.size + 1 + 1 + 1]? = some (resR 0 0 emp (.slice none 0 0)) := by rw [hwd]; exact H2.out.2.2.2.1
    have hRw : RowR wd w.heap.size (.slice ao2 n2 c2) ri := by rw [hwd]; exact H2.out.2.2.2.2.2.2.2
    clear hwd
    have hC3 := (put2_ne (W := wd) (g := w.heap.size + 1 + 1) (k := w.heap.size + 1 + 1 + 1) (by omega) (.int .i64 R) (.slice ao nL c)).trans hU2
    unfold put2 at hC3
    have t0 := cell0 hT2
    have t1 := cell1 hT2
    have g0 := froz hT2 0
    have g1 := froz hT2 1
    obtain ⟨a0, a1, a2, a3, b0, b1, b2, b3⟩ := four hC3
    refine wpAnyH_take (i := 0) (v := ?_) rfl (by kernel_rfl) (by kernel_rfl) (by kernel_rfl) (fun _ _ _ h => h) (Or.inl ⟨by rfl, ?_⟩) (by assumption) ?_
    rotate_left
    · intro wS hSw
      (try dsimp only at hSw)
      obtain ⟨sb, sh, sp, se⟩ := hSw
      have s0 := cell0 sh
      have s1 := cell1 sh
      obtain ⟨p0, p1, p2, p3, -⟩ := four sp
      obtain ⟨e0, e1, e2, e3⟩ := eff_cells se
      go_simp
      first | done | with_reducible rfl
    try simp only [Act.put, List.getElem_toArray, List.getElem_cons_zero, List.setIfInBounds_toArray, List.set_cons_zero, List.set_cons_succ]
    refine wpAnyH_take (i := 1) (v := ?_) rfl (by kernel_rfl) (by kernel_rfl) (by kernel_rfl) (fun _ _ _ h => h) (Or.inl ⟨by rfl, ?_⟩) (by assumption) ?_
    rotate_left
    · intro wS hSw
      (try dsimp only at hSw)
      obtain ⟨sb, sh, sp, se⟩ := hSw
      have s0 := cell0 sh
      have s1 := cell1 sh
      obtain ⟨p0, p1, p2, p3, -⟩ := four sp
      obtain ⟨e0, e1, e2, e3⟩ := eff_cells se
      go_simp
      first | done | with_reducible rfl
    try simp only [Act.put, List.getElem_toArray, List.getElem_cons_succ, List.getElem_cons_zero, List.setIfInBounds_toArray, List.set_cons_zero, List.set_cons_succ]
    refine wpAnyH_ready (rs := [2]) (by kernel_rfl) (by simp) ?_
    refine AllReadyH.cons rfl (fun K hK => ?_) AllReadyH.nil
    go_simp
    refine hK.out _ _ ?_ (fun r1 => ?_)
    · exact ⟨put2_below r0.1 (by omega) _ _, (put2_ne (by omega) _ _).trans r0.2.1, (put2_ne (by have := H2.out.2.2.2.2.2.2.1; omega) _ _).trans r0.2.2.1, (put2_ne (by have := H2.out.2.2.2.2.2.2.1; omega) _ _).trans r0.2.2.2⟩
    try simp only [Act.put, List.getElem_toArray, List.getElem_cons_succ, List.getElem_cons_zero, List.setIfInBounds_toArray, List.set_cons_zero, List.set_cons_succ]
    refine wpAnyH_ready (rs := [3]) (by kernel_rfl) (by simp) ?_
    refine AllReadyH.cons rfl (fun K hK => ?_) AllReadyH.nil
    go_simp
    refine hK.out _ _ ?_ (fun r2 => ?_)
    · exact ⟨put4_below (put2_below r0.1 (by omega) _ _) (by omega) _ _ _ _, ((put4_ne (by omega) _ _ _ _).trans (put2_ne (by omega) _ _)).trans r0.2.1, ((put4_ne (by have := H2.out.2.2.2.2.2.2.1; omega) _ _ _ _).trans (put2_ne (by have := H2.out.2.2.2.2.2.2.1; omega) _ _)).trans r0.2.2.1, ((put4_ne (by have := H2.out.2.2.2.2.2.2.1; omega) _ _ _ _).trans (put2_ne (by have := H2.out.2.2.2.2.2.2.1; omega) _ _)).trans r0.2.2.2⟩
    try simp only [Act.put, List.getElem_toArray, List.getElem_cons_succ, List.getElem_cons_zero, List.setIfInBounds_toArray, List.set_cons_zero, List.set_cons_succ]
    refine wpAnyH_done (by kernel_rfl) ?_ _
    go_wp2_with fail
    have hE := do_endR r0.1 (n1 := w.heap.size + 1 + 1) (n2 := w.heap.size + 1 + 1 + 1) (by omega) (by omega) (by omega) hT2 hU2 (.int .i64 R) (.slice ao nL c) (.int .i64 rc) (.int .i64 rr) (.string rv) (.slice ao2 n2 c2)
    unfold put4 put2 at hE
    refine bodyPost_ret (v := .tuple #[stV R (.slice ao nL c), kres ⟨rc, rr, rv, ri⟩ (.slice ao2 n2 c2)]) (by simp [results, Try.results18, go_sem, World.cell?, hE.1, hE.2.1]) rfl ⟨.slice ao nL c, .slice ao2 n2 c2, ?_, ?_, fun d hd => Or.inl hd, ?_, hE.2.2.2⟩
    · rw [HDo.out.1, HDo.out.2.2 trivial]; try rfl
    · rw [HDo.out.2.2 trivial]
      exact HS.out.1.below hE.2.2.2
    · rw [HDo.out.1]
      exact hE.2.2.1 _ _ hRw
theorem same_yes (v v' : Value) (L : List KEnt) (w : World) (hv : SeesI w v L) (hv' : SeesI w v' L) (hl : L.length ≤ maxLen) : Calls Try.prog 21 #[v, v'] w fun e w' => e = .returned (.bool true) ∧ Below w.heap.size w w' := by
  have h := sameItems_any v v' L L w hv hv' hl hl
  rw [decide_eq_true rfl] at h
  exact h
theorem resA {w : World} {g : Nat} {c r : Int} {x : ByteArray} {y : Value} {t : TypeId} (h : w.heap[g]? = some (.cells #[.int .i64 c, .int .i64 r, .string x, y] t (0, 0))) : w.cell? ⟨g, 0, none⟩ = some (.int .i64 c) ∧ w.cell? ⟨g, 1, none⟩ = some (.int .i64 r) ∧ w.cell? ⟨g, 2, none⟩ = some (.string x) ∧ w.cell? ⟨g, 3, none⟩ = some y := by simp [World.cell?, h]
set_option maxRecDepth 100000 in
set_option maxHeartbeats 4000000 in
/-- Two results that are told the same. -/
theorem same9_yes (r : KRes) (va vb : Value) (w : World) (ha : SeesI w va r.its) (hb : SeesI w vb r.its) (hl : r.its.length ≤ maxLen) :
    Calls Try.prog 19 #[kres r va, kres r vb] w fun e w' => e = .returned (.bool true) ∧ Below w.heap.size w w' := by
  obtain ⟨rc, rr, rv, ri⟩ := r
  obtain ⟨W, hW, hbw, hz, hA, hB⟩ := two_new w (resO rc rr rv va) (resR rc rr rv vb)
  have HSm : Hid (∀ w', Below W.heap.size W w' → Calls Try.prog 21 #[va, vb] w' fun e w'' => e = .returned (.bool true) ∧ Below w'.heap.size w' w'') := Lib.hid (fun w' h => same_yes va vb ri w' ((ha.below hbw).below h) ((hb.below hbw).below h) hl)
  obtain ⟨a0, a1, a2, a3⟩ := resA hA
  obtain ⟨b0, b1, b2, b3⟩ := resA hB
  have HW := Lib.hid hW
  have HB := Lib.hid hbw
  clear hW hbw hz hA hB ha hb hl
  go_enter Try.func19, Try.ntmps19
  go_upto_region 1 with fail
  change Code.wp _ _ _ _ ((w.alloc (resO rc rr rv va)).alloc (resR rc rr rv vb))
  rw [← HW.out]
  go_wp2_with (first
    | (go_at_call 21; refine (HSm.out W (Below.refl _ _)).mono ?_; rintro x w5 ⟨rfl, hb5⟩)
    | go_in)
  go_ret
  exact ⟨rfl, HB.out.trans (hb5.mono HB.out.size)⟩
end Go.Proofs.Ytholgmcfgnifdaa
