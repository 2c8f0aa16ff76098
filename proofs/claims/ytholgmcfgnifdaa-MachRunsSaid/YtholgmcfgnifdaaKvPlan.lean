/- Package kv: Plan. -/
import Derived.Test.YtholgmcfgnifdaaKvUnder2
namespace Go.Proofs.Ytholgmcfgnifdaa
open Go.RowKit Go.Maps
structure KRes where
  code : Int
  rev : Int
  val : ByteArray
  its : List KEnt
def planK (S : KSt) (o : KOp) : KRes × KEff × Bool :=
  if o.kind = 1 then (⟨(getR S.L o.key).1, (getR S.L o.key).2.1, (getR S.L o.key).2.2, []⟩, eff0, false)
  else if o.kind = 2 then (⟨0, S.rev, emp, beginL S.L o.key⟩, eff0, false)
  else if refuse S o = 0 then (⟨0, S.rev + 1, emp, []⟩, effOf o (S.rev + 1), true)
  else (⟨refuse S o, 0, emp, []⟩, eff0, false)
abbrev kres (r : KRes) (its : Value) : Value := resV r.code r.rev r.val its
abbrev opO (o : KOp) : Obj := .cells #[.int .i64 o.kind, .string o.key, .string o.val, .int .i64 o.rev, .string o.iff, .int .i64 o.ifRev] 37
abbrev resO (c r : Int) (v : ByteArray) (its : Value) : Obj := .cells #[.int .i64 c, .int .i64 r, .string v, its] 49
abbrev effO (e : KEff) : Obj := .cells #[.string e.key, .string e.val, .int .i64 e.rev, .bool e.gone] 81
theorem alloc3 (w : World) (A B C : Obj) : ∃ W, W = ((w.alloc A).alloc B).alloc C ∧ Below w.heap.size w W ∧ W.heap.size = w.heap.size + 3 ∧ W.heap[w.heap.size]? = some A ∧ W.heap[w.heap.size + 1]? = some B ∧ W.heap[w.heap.size + 1 + 1]? = some C := by
  refine ⟨_, rfl, belAlloc (belAlloc (belNew w A) B) C, by simp, ?_, ?_, ?_⟩
  · rw [Below.heap_alloc _ _ _ (by simp; omega), Below.heap_alloc _ _ _ (by simp)]; exact heap_alloc_new w A
  · rw [Below.heap_alloc _ _ _ (by simp)]; simpa using heap_alloc_new (w.alloc A) B
  · simpa using heap_alloc_new ((w.alloc A).alloc B) C
theorem four {w : World} {g : Nat} {a b c d : Value} {t : TypeId} (h : w.heap[g]? = some (.cells #[a, b, c, d] t (0, 0))) : w.cell? ⟨g, 0, none⟩ = some a ∧ w.cell? ⟨g, 1, none⟩ = some b ∧ w.cell? ⟨g, 2, none⟩ = some c ∧ w.cell? ⟨g, 3, none⟩ = some d ∧
    w.frozen? ⟨g, 0, none⟩ = false ∧ w.frozen? ⟨g, 1, none⟩ = false ∧ w.frozen? ⟨g, 2, none⟩ = false ∧ w.frozen? ⟨g, 3, none⟩ = false := by simp [World.cell?, World.frozen?, h]
def put4 (W : World) (g : Nat) (x y z u : Value) : World := (((W.setCell ⟨g, 0, none⟩ x).setCell ⟨g, 1, none⟩ y).setCell ⟨g, 2, none⟩ z).setCell ⟨g, 3, none⟩ u
theorem put4_at {W : World} {g : Nat} {a b c d : Value} {t : TypeId} (h : W.heap[g]? = some (.cells #[a, b, c, d] t (0, 0))) (x y z u : Value) : (put4 W g x y z u).heap[g]? = some (.cells #[x, y, z, u] t (0, 0)) := by
  have h1 := dset h 0 x
  have h2 := dset h1 1 y
  have h3 := dset h2 2 z
  have h4 := dset h3 3 u
  unfold put4
  simpa using h4
theorem put4_ne {W : World} {g k : Nat} (h : k ≠ g) (x y z u : Value) : (put4 W g x y z u).heap[k]? = W.heap[k]? := by
  unfold put4
  rw [Below.heap_setCell _ _ _ _ h, Below.heap_setCell _ _ _ _ h, Below.heap_setCell _ _ _ _ h, Below.heap_setCell _ _ _ _ h]
theorem put4_size (W : World) (g : Nat) (x y z u : Value) : (put4 W g x y z u).heap.size = W.heap.size := by simp [put4, World.setCell]
theorem put4_below {n : Nat} {w W : World} (hb : Below n w W) {g : Nat} (hg : n ≤ g) (x y z u : Value) : Below n w (put4 W g x y z u) :=
  (((hb.setCell (p := ⟨g, 0, none⟩) hg x).setCell (p := ⟨g, 1, none⟩) hg y).setCell (p := ⟨g, 2, none⟩) hg z).setCell (p := ⟨g, 3, none⟩) hg u
theorem put4_row {W : World} {g B : Nat} {E : TypeId} {v : Value} {L : List KEnt} {a b c d : Value} {t : TypeId} (h : RowE E W B v L) (hg : W.heap[g]? = some (.cells #[a, b, c, d] t (0, 0))) (ht : t ≠ E) (x y z u : Value) : RowE E (put4 W g x y z u) B v L :=
  ⟨h.1, h.2.imp id fun ⟨k, cap, cur, e, b', hk, r⟩ => ⟨k, cap, cur, e, b', (put4_ne (fun e2 => by
    subst e2
    rw [hg] at hk
    injection hk with h1
    injection h1 with _ h2
    exact ht h2) x y z u).trans hk, r⟩⟩
/-- The two answers of Plan, laid: what the frame's end comes to. -/
theorem plan_end {w W : World} {n1 n2 : Nat} {v : Value} {L : List KEnt} (hb : Below w.heap.size w W) (h1 : w.heap.size ≤ n1) (h12 : n1 ≠ n2) (h2 : w.heap.size ≤ n2) {a b c d a' b' c' d' : Value} (hB : W.heap[n1]? = some (.cells #[a, b, c, d] 49 (0, 0))) (hC : W.heap[n2]? = some (.cells #[a', b', c', d'] 81 (0, 0)))
    (hrow : RowI W w.heap.size v L) (x y z u x' y' z' u' : Value) :
    (put4 (put4 W n1 x y z u) n2 x' y' z' u').heap[n1]? = some (.cells #[x, y, z, u] 49 (0, 0)) ∧ (put4 (put4 W n1 x y z u) n2 x' y' z' u').heap[n2]? = some (.cells #[x', y', z', u'] 81 (0, 0)) ∧
    RowI (put4 (put4 W n1 x y z u) n2 x' y' z' u') w.heap.size v L ∧ Below w.heap.size w (put4 (put4 W n1 x y z u) n2 x' y' z' u') := by
  have hC1 := (put4_ne (W := W) (g := n1) (fun e => h12 e.symm) x y z u).trans hC
  exact ⟨(put4_ne h12 _ _ _ _).trans (put4_at hB x y z u), put4_at hC1 _ _ _ _, put4_row (put4_row hrow hB (by decide) _ _ _ _) hC1 (by decide) _ _ _ _, put4_below (put4_below hb h1 _ _ _ _) h2 _ _ _ _⟩
set_option maxRecDepth 100000 in
set_option maxHeartbeats 4000000 in
theorem plan_get (g : Nat) (P : Nat → Prop) (S : KSt) (o : KOp) (w : World) (h : KvAt w g P S) (hs : o.key.size ≤ maxLen) (hk : o.kind = 1) :
    Calls Try.prog 26 #[ptr g, opV o] w fun e w' => ∃ v, e = .returned (.tuple #[kres (planK S o).1 v, effV (planK S o).2.1, .bool (planK S o).2.2]) ∧ RowI w' w.heap.size v (planK S o).1.its ∧ Below w.heap.size w w' := by
  have hp : planK S o = (⟨(getR S.L o.key).1, (getR S.L o.key).2.1, (getR S.L o.key).2.2, []⟩, eff0, false) := by unfold planK; rw [if_pos hk]
  rw [hp]
  obtain ⟨W, hW, hb, hz, hA, hB, hC⟩ := alloc3 w (opO o) (resO 0 0 emp (.slice none 0 0)) (effO eff0)
  have HG := Lib.hid (get_any g P S o.key W (h.below hb) hs)
  obtain ⟨k0, k1, -⟩ := opcells hA
  rw [hk] at k0
  have q := eqNilK
  generalize getR S.L o.key = r at HG
  obtain ⟨r1, r2, r3⟩ := r
  have HW := Lib.hid hW
  have HB := Lib.hid (And.intro hb (And.intro hz (And.intro hB hC)))
  clear hW hb hz hA hB hC h hp hk
  go_enter Try.func26, Try.ntmps26
  go_upto_region 1 with fail
  change Code.wp _ _ _ _ (((w.alloc (opO o)).alloc (resO 0 0 emp (.slice none 0 0))).alloc (effO eff0))
  rw [← HW.out]
  clear HW
  go_wp2_with (first
    | (go_at_call 31; refine HG.out.mono ?_; rintro e w2 ⟨rfl, hb2⟩
       have hB2 := (hb2.block _ (heap_lt HB.out.2.2.1)).trans HB.out.2.2.1
       have hC2 := (hb2.block _ (heap_lt HB.out.2.2.2)).trans HB.out.2.2.2
       obtain ⟨a0, a1, a2, a3, b0, b1, b2, b3⟩ := four hB2
       obtain ⟨e0, e1, e2, e3, f0, f1, f2, f3⟩ := four hC2)
    | go_in)
  have hE := plan_end (v := .slice none 0 0) (L := []) (HB.out.1.trans (hb2.mono HB.out.1.size)) (n1 := w.heap.size + 1) (n2 := w.heap.size + 1 + 1) (by omega) (by omega) (by omega) hB2 hC2 (World.ownsRow_nil _ _ _ _) (.int .i64 r1) (.int .i64 r2) (.string r3) (.slice none 0 0) (.string emp) (.string emp) (.int .i64 0) (.bool false)
  unfold put4 at hE
  refine bodyPost_ret (v := .tuple #[kres ⟨r1, r2, r3, []⟩ (.slice none 0 0), effV eff0, .bool false]) (by simp [results, Try.results26, go_sem, World.cell?, hE.1, hE.2.1]) rfl ⟨_, rfl, hE.2.2.1, hE.2.2.2⟩
/-! Made by g_kvplan.py. -/
set_option maxRecDepth 100000 in
set_option maxHeartbeats 4000000 in
theorem plan_list (g : Nat) (P : Nat → Prop) (S : KSt) (o : KOp) (w : World) (h : KvAt w g P S) (hs : o.key.size ≤ maxLen) (hr : Rising S.L) (hn : S.L.length ≤ 1000000) (hk : o.kind = 2) : Calls Try.prog 26 #[ptr g, opV o] w fun e w' => ∃ v, e = .returned (.tuple #[kres (planK S o).1 v, effV (planK S o).2.1, .bool (planK S o).2.2]) ∧ RowI w' w.heap.size v (planK S o).1.its ∧ Below w.heap.size w w' := by
  obtain ⟨W, hW, hb, hz, hA, hB, hC⟩ := alloc3 w (opO o) (resO 0 0 emp (.slice none 0 0)) (effO eff0)
  obtain ⟨k0, k1, -⟩ := opcells hA
  have q := eqNilK
  rw [hk] at k0
  have hp : planK S o = (⟨0, S.rev, emp, beginL S.L o.key⟩, eff0, false) := by unfold planK; rw [if_neg (by omega), if_pos hk]
  rw [hp]
  have HF := Lib.hid (h.facts o.key hs)
  have HU : Hid (∀ w', Below w.heap.size w w' → Calls Try.prog 30 #[ptr g, .string o.key] w' fun e w'' => ∃ v, e = .returned v ∧ RowI w'' w'.heap.size v (beginL S.L o.key) ∧ Below w'.heap.size w' w'') := Lib.hid (fun w' hb' => under_any g P S o.key w' (h.below hb') hr hn)
  have HW := Lib.hid hW
  have HB := Lib.hid (And.intro hb (And.intro hz (And.intro hA (And.intro hB hC))))
  clear hW hb hz hA hB hC h hp hk hr
  go_enter Try.func26, Try.ntmps26
  go_upto_region 1 with fail
  change Code.wp _ _ _ _ (((w.alloc (opO o)).alloc (resO 0 0 emp (.slice none 0 0))).alloc (effO eff0))
  rw [← HW.out]
  clear HW
  go_upto_region 7 with fail
  refine wp_region_held_drew (S := (fun W => Below w.heap.size w W ∧ W.heap[w.heap.size]? = some (opO o))) (by kernel_rfl) ?_ (fun r0 => ?_)
  · exact ⟨bdrew HB.out.1, HB.out.2.2.1⟩
  obtain ⟨wd, hwd⟩ : ∃ wd, wd = W.drew := ⟨_, rfl⟩
  rw [← hwd] at r0 ⊢
  have HBd := Lib.hid (show Below W.heap.size W wd from by rw [hwd]; exact bdrew (Below.refl _ _))
  have HZd : wd.heap.size = w.heap.size + 3 := by rw [hwd]; exact HB.out.2.1
  clear hwd
  refine wpAnyH_take (i := 0) (v := ?_) rfl (by kernel_rfl) (by kernel_rfl) (by kernel_rfl) (fun _ _ _ h => h) (Or.inl ⟨by rfl, ?_⟩) (by assumption) ?_
  rotate_left
  · intro wS hSw
    (try dsimp only at hSw)
    obtain ⟨sb, sh⟩ := hSw
    obtain ⟨k0, k1, k2, k3, k4, k5⟩ := opcells sh
    go_simp
    first | done | with_reducible rfl
  try simp only [Act.put, List.getElem_toArray, List.getElem_cons_zero, List.setIfInBounds_toArray, List.set_cons_zero, List.set_cons_succ]
  refine wpAnyH_take (i := 1) (v := ?_) rfl (by kernel_rfl) (by kernel_rfl) (by kernel_rfl) (fun _ _ _ h => h) (Or.inl ⟨by rfl, ?_⟩) (by assumption) ?_
  rotate_left
  · intro wS hSw
    (try dsimp only at hSw)
    obtain ⟨sb, sh⟩ := hSw
    obtain ⟨k0, k1, k2, k3, k4, k5⟩ := opcells sh
    go_simp
    first | done | with_reducible rfl
  try simp only [Act.put, List.getElem_toArray, List.getElem_cons_succ, List.getElem_cons_zero, List.setIfInBounds_toArray, List.set_cons_zero, List.set_cons_succ]
  refine wpAnyH_take (i := 2) (v := ?_) rfl (by kernel_rfl) (by kernel_rfl) (by kernel_rfl) (fun _ _ _ h => h) (Or.inl ⟨by rfl, ?_⟩) (by assumption) ?_
  rotate_left
  · intro wS hSw
    (try dsimp only at hSw)
    obtain ⟨sb, sh⟩ := hSw
    obtain ⟨k0, k1, k2, k3, k4, k5⟩ := opcells sh
    go_simp
    first | done | with_reducible rfl
  try simp only [Act.put, List.getElem_toArray, List.getElem_cons_succ, List.getElem_cons_zero, List.setIfInBounds_toArray, List.set_cons_zero, List.set_cons_succ]
  refine wpAnyH_take (i := 3) (v := ?_) rfl (by kernel_rfl) (by kernel_rfl) (by kernel_rfl) (fun _ _ _ h => h) (Or.inl ⟨by rfl, ?_⟩) (by assumption) ?_
  rotate_left
  · intro wS hSw
    (try dsimp only at hSw)
    obtain ⟨sb, sh⟩ := hSw
    obtain ⟨k0, k1, k2, k3, k4, k5⟩ := opcells sh
    obtain ⟨mb, c0, c1, -⟩ := HF.out _ sb
    go_simp
    first | done | with_reducible rfl
  try simp only [Act.put, List.getElem_toArray, List.getElem_cons_succ, List.getElem_cons_zero, List.setIfInBounds_toArray, List.set_cons_zero, List.set_cons_succ]
  refine wpAnyH_take (i := 4) (v := ?_) rfl (by kernel_rfl) (by kernel_rfl) (by kernel_rfl) (fun _ _ _ h => h) (Or.inl ⟨by rfl, ?_⟩) (by assumption) ?_
  rotate_left
  · intro wS hSw
    (try dsimp only at hSw)
    obtain ⟨sb, sh⟩ := hSw
    obtain ⟨k0, k1, k2, k3, k4, k5⟩ := opcells sh
    go_simp
    first | done | with_reducible rfl
  try simp only [Act.put, List.getElem_toArray, List.getElem_cons_succ, List.getElem_cons_zero, List.setIfInBounds_toArray, List.set_cons_zero, List.set_cons_succ]
  refine wpAnyH_take (i := 5) (v := ?_) rfl (by kernel_rfl) (by kernel_rfl) (by kernel_rfl) (fun _ _ _ h => h) (Or.inl ⟨by rfl, ?_⟩) (by assumption) ?_
  rotate_left
  · intro wS hSw
    (try dsimp only at hSw)
    obtain ⟨sb, sh⟩ := hSw
    obtain ⟨k0, k1, k2, k3, k4, k5⟩ := opcells sh
    go_simp
    first | done | with_reducible rfl
  try simp only [Act.put, List.getElem_toArray, List.getElem_cons_succ, List.getElem_cons_zero, List.setIfInBounds_toArray, List.set_cons_zero, List.set_cons_succ]
  refine wpAnyH_take (i := 6) (v := ?_) rfl (by kernel_rfl) (by kernel_rfl) (by kernel_rfl) (fun _ _ _ h => h) (Or.inl ⟨by rfl, ?_⟩) (by assumption) ?_
  rotate_left
  · intro wS hSw
    (try dsimp only at hSw)
    obtain ⟨sb, sh⟩ := hSw
    obtain ⟨k0, k1, k2, k3, k4, k5⟩ := opcells sh
    go_simp
    first | done | with_reducible rfl
  try simp only [Act.put, List.getElem_toArray, List.getElem_cons_succ, List.getElem_cons_zero, List.setIfInBounds_toArray, List.set_cons_zero, List.set_cons_succ]
  refine wpAnyH_take (i := 9) (v := ?_) rfl (by kernel_rfl) (by kernel_rfl) (by kernel_rfl) (fun _ _ _ h => h) (Or.inl ⟨by rfl, ?_⟩) (by assumption) ?_
  rotate_left
  · intro wS hSw
    (try dsimp only at hSw)
    go_simp
    first | done | with_reducible rfl
  try simp only [Act.put, List.getElem_toArray, List.getElem_cons_succ, List.getElem_cons_zero, List.setIfInBounds_toArray, List.set_cons_zero, List.set_cons_succ]
  refine wpAnyH_ready (rs := [7]) (by kernel_rfl) (by simp) ?_
  refine AllReadyH.cons rfl (fun K hK => ?_) AllReadyH.nil
  go_simp
  refine (HU.out wd r0.1).mono ?_; rintro e w2 ⟨v, rfl, hrow2, hb2⟩
  obtain ⟨vo, vc, rfl, -⟩ := RowE.sees hrow2
  have hB2 := (hb2.block _ (by omega)).trans ((HBd.out.block _ (heap_lt HB.out.2.2.2.1)).trans HB.out.2.2.2.1)
  have hC2 := (hb2.block _ (by omega)).trans ((HBd.out.block _ (heap_lt HB.out.2.2.2.2)).trans HB.out.2.2.2.2)
  have hA2 := (hb2.block _ (by omega)).trans r0.2
  have hb2w := r0.1.trans (hb2.mono r0.1.size)
  refine hK.out _ _ ?_ (fun r1 => ?_)
  · exact ⟨hb2w, hA2⟩
  try simp only [Act.put, List.getElem_toArray, List.getElem_cons_succ, List.getElem_cons_zero, List.setIfInBounds_toArray, List.set_cons_zero, List.set_cons_succ]
  refine wpAnyH_take (i := 8) (v := ?_) rfl (by kernel_rfl) (by kernel_rfl) (by kernel_rfl) (fun _ _ _ h => h) (Or.inl ⟨by rfl, ?_⟩) (by assumption) ?_
  rotate_left
  · intro wS hSw
    (try dsimp only at hSw)
    go_simp
    first | done | with_reducible rfl
  try simp only [Act.put, List.getElem_toArray, List.getElem_cons_succ, List.getElem_cons_zero, List.setIfInBounds_toArray, List.set_cons_zero, List.set_cons_succ]
  have hC3 := (put4_ne (W := w2) (g := w.heap.size + 1) (k := w.heap.size + 1 + 1) (by omega) (.int .i64 0) (.int .i64 S.rev) (.string emp) (.slice vo (beginL S.L o.key).length vc)).trans hC2
  unfold put4 at hC3
  obtain ⟨a0, a1, a2, a3, b0, b1, b2, b3⟩ := four hB2
  obtain ⟨e0, e1, e2, e3, f0, f1, f2, f3⟩ := four hC3
  refine wpAnyH_ready (rs := [10]) (by kernel_rfl) (by simp) ?_
  refine AllReadyH.cons rfl (fun K hK => ?_) AllReadyH.nil
  go_simp
  refine hK.out _ _ ?_ (fun r8 => ?_)
  · exact ⟨put4_below hb2w (by omega) _ _ _ _, (put4_ne (by omega) _ _ _ _).trans hA2⟩
  try simp only [Act.put, List.getElem_toArray, List.getElem_cons_succ, List.getElem_cons_zero, List.setIfInBounds_toArray, List.set_cons_zero, List.set_cons_succ]
  refine wpAnyH_ready (rs := [11]) (by kernel_rfl) (by simp) ?_
  refine AllReadyH.cons rfl (fun K hK => ?_) AllReadyH.nil
  go_simp
  refine hK.out _ _ ?_ (fun r9 => ?_)
  · exact ⟨put4_below (put4_below hb2w (by omega) _ _ _ _) (by omega) _ _ _ _, ((put4_ne (by omega) _ _ _ _).trans (put4_ne (by omega) _ _ _ _)).trans hA2⟩
  try simp only [Act.put, List.getElem_toArray, List.getElem_cons_succ, List.getElem_cons_zero, List.setIfInBounds_toArray, List.set_cons_zero, List.set_cons_succ]
  refine wpAnyH_take (i := 12) (v := ?_) rfl (by kernel_rfl) (by kernel_rfl) (by kernel_rfl) (fun _ _ _ h => h) (Or.inl ⟨by rfl, ?_⟩) (by assumption) ?_
  rotate_left
  · intro wS hSw
    (try dsimp only at hSw)
    go_simp
    first | done | with_reducible rfl
  try simp only [Act.put, List.getElem_toArray, List.getElem_cons_succ, List.getElem_cons_zero, List.setIfInBounds_toArray, List.set_cons_zero, List.set_cons_succ]
  refine wpAnyH_done (by kernel_rfl) ?_ _
  go_wp2_with fail
  have hE := plan_end (v := (.slice vo (beginL S.L o.key).length vc)) (L := beginL S.L o.key) hb2w (n1 := w.heap.size + 1) (n2 := w.heap.size + 1 + 1) (by omega) (by omega) (by omega) hB2 hC2 (row_leE hrow2 (by omega)) (.int .i64 0) (.int .i64 S.rev) (.string emp) (.slice vo (beginL S.L o.key).length vc) (.string emp) (.string emp) (.int .i64 0) (.bool false)
  unfold put4 at hE
  refine bodyPost_ret (v := .tuple #[kres ⟨0, S.rev, emp, beginL S.L o.key⟩ (.slice vo (beginL S.L o.key).length vc), effV eff0, .bool false]) (by simp [results, Try.results26, go_sem, World.cell?, hE.1, hE.2.1]) rfl ⟨_, rfl, hE.2.2.1, hE.2.2.2⟩
set_option maxRecDepth 100000 in
set_option maxHeartbeats 4000000 in
theorem plan_no (g : Nat) (P : Nat → Prop) (S : KSt) (o : KOp) (w : World) (h : KvAt w g P S) (hs : o.key.size ≤ maxLen) (hs2 : o.iff.size ≤ maxLen) (hk1 : ¬ o.kind = 1) (hk2 : ¬ o.kind = 2) (hk3 : ¬ refuse S o = 0) : Calls Try.prog 26 #[ptr g, opV o] w fun e w' => ∃ v, e = .returned (.tuple #[kres (planK S o).1 v, effV (planK S o).2.1, .bool (planK S o).2.2]) ∧ RowI w' w.heap.size v (planK S o).1.its ∧ Below w.heap.size w w' := by
  obtain ⟨W, hW, hb, hz, hA, hB, hC⟩ := alloc3 w (opO o) (resO 0 0 emp (.slice none 0 0)) (effO eff0)
  obtain ⟨k0, k1, -⟩ := opcells hA
  have q := eqNilK
  have hp : planK S o = (⟨refuse S o, 0, emp, []⟩, eff0, false) := by unfold planK; rw [if_neg hk1, if_neg hk2, if_neg hk3]
  rw [hp]
  have d1 : (o.kind == 1) = false := by simpa using hk1
  have d2 : (o.kind == 2) = false := by simpa using hk2
  have d3 : (refuse S o != 0) = true := by simpa using hk3
  have HU := Lib.hid (refusal_any g P S o W (h.below hb) hs hs2)
  generalize refuse S o = R at HU d3
  have HW := Lib.hid hW
  have HB := Lib.hid (And.intro hb (And.intro hz (And.intro hA (And.intro hB hC))))
  clear hW hb hz hB hC h hp hk1 hk2 hk3
  obtain ⟨k0, k1, k2, k3, k4, k5⟩ := opcells hA
  clear hA
  go_enter Try.func26, Try.ntmps26
  go_upto_region 1 with fail
  change Code.wp _ _ _ _ (((w.alloc (opO o)).alloc (resO 0 0 emp (.slice none 0 0))).alloc (effO eff0))
  rw [← HW.out]
  clear HW
  go_wp2_with (first
    | (go_at_call 32; refine HU.out.mono ?_; rintro e w2 ⟨rfl, hb2⟩
       have hB2 := (hb2.block _ (heap_lt HB.out.2.2.2.1)).trans HB.out.2.2.2.1
       have hC2 := (hb2.block _ (heap_lt HB.out.2.2.2.2)).trans HB.out.2.2.2.2
       obtain ⟨a0, a1, a2, a3, b0, b1, b2, b3⟩ := four hB2
       obtain ⟨e0, e1, e2, e3, f0, f1, f2, f3⟩ := four hC2)
    | go_in)
  have hE := plan_end (v := (.slice none 0 0)) (L := []) (HB.out.1.trans (hb2.mono HB.out.1.size)) (n1 := w.heap.size + 1) (n2 := w.heap.size + 1 + 1) (by omega) (by omega) (by omega) hB2 hC2 (World.ownsRow_nil _ _ _ _) (.int .i64 R) (.int .i64 0) (.string emp) (.slice none 0 0) (.string emp) (.string emp) (.int .i64 0) (.bool false)
  unfold put4 at hE
  refine bodyPost_ret (v := .tuple #[kres ⟨R, 0, emp, []⟩ (.slice none 0 0), effV eff0, .bool false]) (by simp [results, Try.results26, go_sem, World.cell?, hE.1, hE.2.1]) rfl ⟨_, rfl, hE.2.2.1, hE.2.2.2⟩
set_option maxRecDepth 100000 in
set_option maxHeartbeats 4000000 in
theorem plan_yes (g : Nat) (P : Nat → Prop) (S : KSt) (o : KOp) (w : World) (h : KvAt w g P S) (hs : o.key.size ≤ maxLen) (hs2 : o.iff.size ≤ maxLen) (hrv : 0 ≤ S.rev ∧ S.rev < 9223372036854775807) (hk1 : ¬ o.kind = 1) (hk2 : ¬ o.kind = 2) (hk3 : refuse S o = 0) : Calls Try.prog 26 #[ptr g, opV o] w fun e w' => ∃ v, e = .returned (.tuple #[kres (planK S o).1 v, effV (planK S o).2.1, .bool (planK S o).2.2]) ∧ RowI w' w.heap.size v (planK S o).1.its ∧ Below w.heap.size w w' := by
  obtain ⟨W, hW, hb, hz, hA, hB, hC⟩ := alloc3 w (opO o) (resO 0 0 emp (.slice none 0 0)) (effO eff0)
  obtain ⟨k0, k1, -⟩ := opcells hA
  have q := eqNilK
  have hp : planK S o = (⟨0, S.rev + 1, emp, []⟩, effOf o (S.rev + 1), true) := by unfold planK; rw [if_neg hk1, if_neg hk2, if_pos hk3]
  rw [hp]
  have d1 : (o.kind == 1) = false := by simpa using hk1
  have d2 : (o.kind == 2) = false := by simpa using hk2
  have HU := Lib.hid (refusal_any g P S o W (h.below hb) hs hs2)
  rw [hk3] at HU
  have s1 : IntKind.i64.wrap (S.rev + 1) = S.rev + 1 := IntWalk.i64_in _ (by omega)
  have HE : Hid (∀ w', Calls Try.prog 33 #[opV o, .int .i64 (S.rev + 1)] w' fun e w'' => e = .returned (effV (effOf o (S.rev + 1))) ∧ Below w'.heap.size w' w'') := Lib.hid (effectOf_any o (S.rev + 1))
  have HER : Hid ((effOf o (S.rev + 1)).rev = S.rev + 1) := Lib.hid (by unfold effOf; split <;> rfl)
  generalize effOf o (S.rev + 1) = ef at HE HER
  have HK := Lib.hid h
  have HRV := Lib.hid hrv
  have HW := Lib.hid hW
  have HB := Lib.hid (And.intro hb (And.intro hz (And.intro hA (And.intro hB hC))))
  clear hW hb hz hB hC h hp hk1 hk2 hk3 hrv
  obtain ⟨k0, k1, k2, k3, k4, k5⟩ := opcells hA
  clear hA
  go_enter Try.func26, Try.ntmps26
  go_upto_region 1 with fail
  change Code.wp _ _ _ _ (((w.alloc (opO o)).alloc (resO 0 0 emp (.slice none 0 0))).alloc (effO eff0))
  rw [← HW.out]
  clear HW
  go_upto_region 11 with (first
    | (go_at_call 32; refine HU.out.mono ?_; rintro e w2 ⟨rfl, hb2⟩)
    | go_in)
  have hb2w := HB.out.1.trans (hb2.mono HB.out.1.size)
  have hz2 := hb2.size
  have hz3 := HB.out.2.1
  have hA2 := (hb2.block _ (heap_lt HB.out.2.2.1)).trans HB.out.2.2.1
  have hB2 := (hb2.block _ (heap_lt HB.out.2.2.2.1)).trans HB.out.2.2.2.1
  have hC2 := (hb2.block _ (heap_lt HB.out.2.2.2.2)).trans HB.out.2.2.2.2
  obtain ⟨k0, k1, k2, k3, k4, k5⟩ := opcells hA2
  have c0 := kv_cell (HK.out.below hb2w)
  have H2 := Lib.hid (And.intro hb2w (And.intro hA2 (And.intro hB2 hC2)))
  clear hb2 hb2w hA2 hB2 hC2
  refine wp_region_held_drew (S := (fun W => Below w2.heap.size w2 W)) (by kernel_rfl) ?_ (fun r0 => ?_)
  · exact ⟨rfl, rfl, rfl, Nat.le_refl _, fun _ _ => rfl⟩
  obtain ⟨wd, hwd⟩ : ∃ wd, wd = w2.drew := ⟨_, rfl⟩
  rw [← hwd] at r0 ⊢
  have hwz : wd.heap.size = w2.heap.size := by rw [hwd]; rfl
  clear hwd
  refine wpAnyH_take (i := 0) (v := ?_) rfl (by kernel_rfl) (by kernel_rfl) (by kernel_rfl) (fun _ _ _ h => h) (Or.inl ⟨by rfl, ?_⟩) (by assumption) ?_
  rotate_left
  · intro wS hSw
    (try dsimp only at hSw)
    have k0 := bcell hSw k0
    have k1 := bcell hSw k1
    have k2 := bcell hSw k2
    have k3 := bcell hSw k3
    have k4 := bcell hSw k4
    have k5 := bcell hSw k5
    go_simp
    first | done | with_reducible rfl
  try simp only [Act.put, List.getElem_toArray, List.getElem_cons_zero, List.setIfInBounds_toArray, List.set_cons_zero, List.set_cons_succ]
  refine wpAnyH_take (i := 1) (v := ?_) rfl (by kernel_rfl) (by kernel_rfl) (by kernel_rfl) (fun _ _ _ h => h) (Or.inl ⟨by rfl, ?_⟩) (by assumption) ?_
  rotate_left
  · intro wS hSw
    (try dsimp only at hSw)
    go_simp
    first | done | with_reducible rfl
  try simp only [Act.put, List.getElem_toArray, List.getElem_cons_succ, List.getElem_cons_zero, List.setIfInBounds_toArray, List.set_cons_zero, List.set_cons_succ]
  refine wpAnyH_take (i := 2) (v := ?_) rfl (by kernel_rfl) (by kernel_rfl) (by kernel_rfl) (fun _ _ _ h => h) (Or.inl ⟨by rfl, ?_⟩) (by assumption) ?_
  rotate_left
  · intro wS hSw
    (try dsimp only at hSw)
    go_simp
    first | done | with_reducible rfl
  try simp only [Act.put, List.getElem_toArray, List.getElem_cons_succ, List.getElem_cons_zero, List.setIfInBounds_toArray, List.set_cons_zero, List.set_cons_succ]
  refine wpAnyH_take (i := 3) (v := ?_) rfl (by kernel_rfl) (by kernel_rfl) (by kernel_rfl) (fun _ _ _ h => h) (Or.inl ⟨by rfl, ?_⟩) (by assumption) ?_
  rotate_left
  · intro wS hSw
    (try dsimp only at hSw)
    go_simp
    first | done | with_reducible rfl
  try simp only [Act.put, List.getElem_toArray, List.getElem_cons_succ, List.getElem_cons_zero, List.setIfInBounds_toArray, List.set_cons_zero, List.set_cons_succ]
  refine wpAnyH_take (i := 4) (v := ?_) rfl (by kernel_rfl) (by kernel_rfl) (by kernel_rfl) (fun _ _ _ h => h) (Or.inl ⟨by rfl, ?_⟩) (by assumption) ?_
  rotate_left
  · intro wS hSw
    (try dsimp only at hSw)
    have c0 := bcell hSw c0
    go_simp
    first | done | with_reducible rfl
  try simp only [Act.put, List.getElem_toArray, List.getElem_cons_succ, List.getElem_cons_zero, List.setIfInBounds_toArray, List.set_cons_zero, List.set_cons_succ]
  refine wpAnyH_take (i := 5) (v := ?_) rfl (by kernel_rfl) (by kernel_rfl) (by kernel_rfl) (fun _ _ _ h => h) (Or.inl ⟨by rfl, ?_⟩) (by assumption) ?_
  rotate_left
  · intro wS hSw
    (try dsimp only at hSw)
    go_simp
    first | done | with_reducible rfl
  try simp only [Act.put, List.getElem_toArray, List.getElem_cons_succ, List.getElem_cons_zero, List.setIfInBounds_toArray, List.set_cons_zero, List.set_cons_succ]
  refine wpAnyH_ready (rs := [6, 7]) (by kernel_rfl) (by simp) ?_
  refine AllReadyH.cons rfl (fun K hK => ?_) (AllReadyH.cons rfl (fun K hK => ?_) AllReadyH.nil)
  · go_simp
    refine (HE.out wd).mono ?_; rintro e w3 ⟨rfl, hb3⟩
    have r1b := bel r0 hb3
    refine hK.out _ _ ?_ (fun r1 => ?_)
    · exact r1b
    try simp only [Act.put, List.getElem_toArray, List.getElem_cons_succ, List.getElem_cons_zero, List.setIfInBounds_toArray, List.set_cons_zero, List.set_cons_succ]
    refine wpAnyH_ready (rs := [7]) (by kernel_rfl) (by simp) ?_
    refine AllReadyH.cons rfl (fun K hK => ?_) AllReadyH.nil
    go_simp
    refine hK.out _ _ ?_ (fun r2 => ?_)
    · show Below _ _ _
      repeat (first | exact r1 | exact r1b | exact Below.refl _ _ | refine bdrew ?_ | refine belAlloc ?_ _ | refine Below.setCell ?_ (by simp) _ | refine Below.alloc ?_ (by simp) _)
    try simp only [Act.put, List.getElem_toArray, List.getElem_cons_succ, List.getElem_cons_zero, List.setIfInBounds_toArray, List.set_cons_zero, List.set_cons_succ]
    refine wpAnyH_ready (rs := [8]) (by kernel_rfl) (by simp) ?_
    refine AllReadyH.cons rfl (fun K hK => ?_) AllReadyH.nil
    go_simp
    refine hK.out _ _ ?_ (fun r3 => ?_)
    · show Below _ _ _
      repeat (first | exact r2 | exact r1b | exact Below.refl _ _ | refine bdrew ?_ | refine belAlloc ?_ _ | refine Below.setCell ?_ (by simp) _ | refine Below.alloc ?_ (by simp) _)
    try simp only [Act.put, List.getElem_toArray, List.getElem_cons_succ, List.getElem_cons_zero, List.setIfInBounds_toArray, List.set_cons_zero, List.set_cons_succ]
    refine wpAnyH_done (by kernel_rfl) ?_ _
    obtain ⟨w4, hw4⟩ : ∃ w4, w4 = w3.alloc (effO ef) := ⟨_, rfl⟩
    rw [← hw4]
    have hb4 : Below w3.heap.size w3 w4 := by rw [hw4]; exact belNew _ _
    have hn4 : w4.heap[w3.heap.size]? = some (effO ef) := by rw [hw4]; exact heap_alloc_new w3 _
    have hz4 : w4.heap.size = w3.heap.size + 1 := by rw [hw4]; simp
    have hbx : Below w2.heap.size w2 w4 := bel r1 hb4
    have hz13 := r1.size
    clear hw4 r0 r1 r1b r2 r3 hb3 hb4
    have hb24 : Below w2.heap.size w2 w4 := hbx
    have hA4 := (hb24.block _ (heap_lt H2.out.2.1)).trans H2.out.2.1
    have hB4 := (hb24.block _ (heap_lt H2.out.2.2.1)).trans H2.out.2.2.1
    have hC4 := (hb24.block _ (heap_lt H2.out.2.2.2)).trans H2.out.2.2.2
    have hbw4 := H2.out.1.trans (hb24.mono H2.out.1.size)
    have H4 := Lib.hid (And.intro hbw4 (And.intro hA4 (And.intro hB4 (And.intro hC4 hn4))))
    clear hb24 hA4 hB4 hC4 hbw4 hn4 k0 k1 k2 k3 k4 k5 c0
    go_upto_region 12 with fail
    refine wp_region_held_drew (S := (fun W => Below w.heap.size w W ∧ W.heap[w3.heap.size]? = some (effO ef))) (by kernel_rfl) ?_ (fun r0 => ?_)
    · exact ⟨bdrew H4.out.1, H4.out.2.2.2.2⟩
    obtain ⟨wd5, hwd5⟩ : ∃ wd5, wd5 = w4.drew := ⟨_, rfl⟩
    rw [← hwd5] at r0 ⊢
    have hB2 : wd5.heap[w.heap.size + 1]? = some (resO 0 0 emp (.slice none 0 0)) := by rw [hwd5]; exact H4.out.2.2.1
    have hC2 : wd5.heap[w.heap.size + 1 + 1]? = some (effO eff0) := by rw [hwd5]; exact H4.out.2.2.2.1
    clear hwd5
    refine wpAnyH_take (i := 0) (v := ?_) rfl (by kernel_rfl) (by kernel_rfl) (by kernel_rfl) (fun _ _ _ h => h) (Or.inl ⟨by rfl, ?_⟩) (by assumption) ?_
    rotate_left
    · intro wS hSw
      (try dsimp only at hSw)
      go_simp
      first | done | with_reducible rfl
    try simp only [Act.put, List.getElem_toArray, List.getElem_cons_zero, List.setIfInBounds_toArray, List.set_cons_zero, List.set_cons_succ]
    refine wpAnyH_take (i := 1) (v := ?_) rfl (by kernel_rfl) (by kernel_rfl) (by kernel_rfl) (fun _ _ _ h => h) (Or.inl ⟨by rfl, ?_⟩) (by assumption) ?_
    rotate_left
    · intro wS hSw
      (try dsimp only at hSw)
      obtain ⟨sb, sh⟩ := hSw
      obtain ⟨e0, e1, e2, e3, f0, f1, f2, f3⟩ := four sh
      go_simp
      first | done | with_reducible rfl
    try simp only [Act.put, List.getElem_toArray, List.getElem_cons_succ, List.getElem_cons_zero, List.setIfInBounds_toArray, List.set_cons_zero, List.set_cons_succ]
    refine wpAnyH_take (i := 2) (v := ?_) rfl (by kernel_rfl) (by kernel_rfl) (by kernel_rfl) (fun _ _ _ h => h) (Or.inl ⟨by rfl, ?_⟩) (by assumption) ?_
    rotate_left
    · intro wS hSw
      (try dsimp only at hSw)
      go_simp
      first | done | with_reducible rfl
    try simp only [Act.put, List.getElem_toArray, List.getElem_cons_succ, List.getElem_cons_zero, List.setIfInBounds_toArray, List.set_cons_zero, List.set_cons_succ]
    refine wpAnyH_take (i := 3) (v := ?_) rfl (by kernel_rfl) (by kernel_rfl) (by kernel_rfl) (fun _ _ _ h => h) (Or.inl ⟨by rfl, ?_⟩) (by assumption) ?_
    rotate_left
    · intro wS hSw
      (try dsimp only at hSw)
      obtain ⟨sb, sh⟩ := hSw
      obtain ⟨e0, e1, e2, e3, f0, f1, f2, f3⟩ := four sh
      go_simp
      first | done | with_reducible rfl
    try simp only [Act.put, List.getElem_toArray, List.getElem_cons_succ, List.getElem_cons_zero, List.setIfInBounds_toArray, List.set_cons_zero, List.set_cons_succ]
    have hC3 := (put4_ne (W := wd5) (g := w.heap.size + 1) (k := w.heap.size + 1 + 1) (by omega) (.int .i64 0) (.int .i64 ef.rev) (.string emp) (.slice none 0 0)).trans hC2
    unfold put4 at hC3
    obtain ⟨a0, a1, a2, a3, b0, b1, b2, b3⟩ := four hB2
    obtain ⟨e0, e1, e2, e3, f0, f1, f2, f3⟩ := four hC3
    refine wpAnyH_ready (rs := [4]) (by kernel_rfl) (by simp) ?_
    refine AllReadyH.cons rfl (fun K hK => ?_) AllReadyH.nil
    go_simp
    refine hK.out _ _ ?_ (fun r8 => ?_)
    · exact ⟨put4_below r0.1 (by omega) _ _ _ _, (put4_ne (by omega) _ _ _ _).trans r0.2⟩
    try simp only [Act.put, List.getElem_toArray, List.getElem_cons_succ, List.getElem_cons_zero, List.setIfInBounds_toArray, List.set_cons_zero, List.set_cons_succ]
    refine wpAnyH_ready (rs := [5]) (by kernel_rfl) (by simp) ?_
    refine AllReadyH.cons rfl (fun K hK => ?_) AllReadyH.nil
    go_simp
    refine hK.out _ _ ?_ (fun r9 => ?_)
    · exact ⟨put4_below (put4_below r0.1 (by omega) _ _ _ _) (by omega) _ _ _ _, ((put4_ne (by omega) _ _ _ _).trans (put4_ne (by omega) _ _ _ _)).trans r0.2⟩
    try simp only [Act.put, List.getElem_toArray, List.getElem_cons_succ, List.getElem_cons_zero, List.setIfInBounds_toArray, List.set_cons_zero, List.set_cons_succ]
    refine wpAnyH_take (i := 6) (v := ?_) rfl (by kernel_rfl) (by kernel_rfl) (by kernel_rfl) (fun _ _ _ h => h) (Or.inl ⟨by rfl, ?_⟩) (by assumption) ?_
    rotate_left
    · intro wS hSw
      (try dsimp only at hSw)
      go_simp
      first | done | with_reducible rfl
    try simp only [Act.put, List.getElem_toArray, List.getElem_cons_succ, List.getElem_cons_zero, List.setIfInBounds_toArray, List.set_cons_zero, List.set_cons_succ]
    refine wpAnyH_done (by kernel_rfl) ?_ _
    go_wp2_with fail
    have hE := plan_end (v := (.slice none 0 0)) (L := []) r0.1 (n1 := w.heap.size + 1) (n2 := w.heap.size + 1 + 1) (by omega) (by omega) (by omega) hB2 hC2 (World.ownsRow_nil _ _ _ _) (.int .i64 0) (.int .i64 ef.rev) (.string emp) (.slice none 0 0) (.string ef.key) (.string ef.val) (.int .i64 ef.rev) (.bool ef.gone)
    unfold put4 at hE
    refine bodyPost_ret (v := .tuple #[kres ⟨0, ef.rev, emp, []⟩ (.slice none 0 0), effV ef, .bool true]) (by simp [results, Try.results26, go_sem, World.cell?, hE.1, hE.2.1]) rfl ⟨.slice none 0 0, congrArg (fun r : Int => Ending.returned (.tuple #[kres ⟨0, r, emp, []⟩ (.slice none 0 0), effV ef, .bool true])) HER.out, hE.2.2.1, hE.2.2.2⟩
  · go_simp
    refine hK.out _ _ ?_ (fun r1 => ?_)
    · exact belAlloc r0 _
    try simp only [Act.put, List.getElem_toArray, List.getElem_cons_succ, List.getElem_cons_zero, List.setIfInBounds_toArray, List.set_cons_zero, List.set_cons_succ]
    obtain ⟨wa, hwa⟩ : ∃ wa, wa = wd.alloc (effO eff0) := ⟨_, rfl⟩
    rw [← hwa] at r1 ⊢
    have hna : wa.heap[wd.heap.size]? = some (effO eff0) := by rw [hwa]; exact heap_alloc_new wd _
    have hza : wa.heap.size = wd.heap.size + 1 := by rw [hwa]; simp
    rw [hwz] at hna hza
    clear hwa
    refine wpAnyH_ready (rs := [6]) (by kernel_rfl) (by simp) ?_
    refine AllReadyH.cons rfl (fun K hK => ?_) AllReadyH.nil
    go_simp
    refine (HE.out wa).mono ?_; rintro e w3 ⟨rfl, hb3⟩
    have r1b := bel r1 hb3
    have hn3 := (hb3.block _ (by omega)).trans hna
    obtain ⟨e0, e1, e2, e3, f0, f1, f2, f3⟩ := four hn3
    refine hK.out _ _ ?_ (fun r2 => ?_)
    · exact r1b
    try simp only [Act.put, List.getElem_toArray, List.getElem_cons_succ, List.getElem_cons_zero, List.setIfInBounds_toArray, List.set_cons_zero, List.set_cons_succ]
    refine wpAnyH_ready (rs := [8]) (by kernel_rfl) (by simp) ?_
    refine AllReadyH.cons rfl (fun K hK => ?_) AllReadyH.nil
    go_simp
    refine hK.out _ _ ?_ (fun r3 => ?_)
    · exact put4_below r1b (by omega) _ _ _ _
    try simp only [Act.put, List.getElem_toArray, List.getElem_cons_succ, List.getElem_cons_zero, List.setIfInBounds_toArray, List.set_cons_zero, List.set_cons_succ]
    refine wpAnyH_done (by kernel_rfl) ?_ _
    have hn4 := put4_at hn3 (.string ef.key) (.string ef.val) (.int .i64 ef.rev) (.bool ef.gone)
    have hbx := put4_below r1b (show w2.heap.size ≤ w2.heap.size by omega) (.string ef.key) (.string ef.val) (.int .i64 ef.rev) (.bool ef.gone)
    have hz4 := put4_size w3 w2.heap.size (.string ef.key) (.string ef.val) (.int .i64 ef.rev) (.bool ef.gone)
    have hz3a := hb3.size
    have hz13 : w2.heap.size ≤ w2.heap.size := by omega
    obtain ⟨w4, hw4⟩ : ∃ w4, w4 = put4 w3 w2.heap.size (.string ef.key) (.string ef.val) (.int .i64 ef.rev) (.bool ef.gone) := ⟨_, rfl⟩
    rw [← hw4] at hn4 hbx hz4
    unfold put4 at hw4
    rw [← hw4]
    clear hw4 r0 r1 r1b r2 r3 hb3 hna hn3 e0 e1 e2 e3 f0 f1 f2 f3
    have hb24 : Below w2.heap.size w2 w4 := hbx
    have hA4 := (hb24.block _ (heap_lt H2.out.2.1)).trans H2.out.2.1
    have hB4 := (hb24.block _ (heap_lt H2.out.2.2.1)).trans H2.out.2.2.1
    have hC4 := (hb24.block _ (heap_lt H2.out.2.2.2)).trans H2.out.2.2.2
    have hbw4 := H2.out.1.trans (hb24.mono H2.out.1.size)
    have H4 := Lib.hid (And.intro hbw4 (And.intro hA4 (And.intro hB4 (And.intro hC4 hn4))))
    clear hb24 hA4 hB4 hC4 hbw4 hn4 k0 k1 k2 k3 k4 k5 c0
    go_upto_region 12 with fail
    refine wp_region_held_drew (S := (fun W => Below w.heap.size w W ∧ W.heap[w2.heap.size]? = some (effO ef))) (by kernel_rfl) ?_ (fun r0 => ?_)
    · exact ⟨bdrew H4.out.1, H4.out.2.2.2.2⟩
    obtain ⟨wd5, hwd5⟩ : ∃ wd5, wd5 = w4.drew := ⟨_, rfl⟩
    rw [← hwd5] at r0 ⊢
    have hB2 : wd5.heap[w.heap.size + 1]? = some (resO 0 0 emp (.slice none 0 0)) := by rw [hwd5]; exact H4.out.2.2.1
    have hC2 : wd5.heap[w.heap.size + 1 + 1]? = some (effO eff0) := by rw [hwd5]; exact H4.out.2.2.2.1
    clear hwd5
    refine wpAnyH_take (i := 0) (v := ?_) rfl (by kernel_rfl) (by kernel_rfl) (by kernel_rfl) (fun _ _ _ h => h) (Or.inl ⟨by rfl, ?_⟩) (by assumption) ?_
    rotate_left
    · intro wS hSw
      (try dsimp only at hSw)
      go_simp
      first | done | with_reducible rfl
    try simp only [Act.put, List.getElem_toArray, List.getElem_cons_zero, List.setIfInBounds_toArray, List.set_cons_zero, List.set_cons_succ]
    refine wpAnyH_take (i := 1) (v := ?_) rfl (by kernel_rfl) (by kernel_rfl) (by kernel_rfl) (fun _ _ _ h => h) (Or.inl ⟨by rfl, ?_⟩) (by assumption) ?_
    rotate_left
    · intro wS hSw
      (try dsimp only at hSw)
      obtain ⟨sb, sh⟩ := hSw
      obtain ⟨e0, e1, e2, e3, f0, f1, f2, f3⟩ := four sh
      go_simp
      first | done | with_reducible rfl
    try simp only [Act.put, List.getElem_toArray, List.getElem_cons_succ, List.getElem_cons_zero, List.setIfInBounds_toArray, List.set_cons_zero, List.set_cons_succ]
    refine wpAnyH_take (i := 2) (v := ?_) rfl (by kernel_rfl) (by kernel_rfl) (by kernel_rfl) (fun _ _ _ h => h) (Or.inl ⟨by rfl, ?_⟩) (by assumption) ?_
    rotate_left
    · intro wS hSw
      (try dsimp only at hSw)
      go_simp
      first | done | with_reducible rfl
    try simp only [Act.put, List.getElem_toArray, List.getElem_cons_succ, List.getElem_cons_zero, List.setIfInBounds_toArray, List.set_cons_zero, List.set_cons_succ]
    refine wpAnyH_take (i := 3) (v := ?_) rfl (by kernel_rfl) (by kernel_rfl) (by kernel_rfl) (fun _ _ _ h => h) (Or.inl ⟨by rfl, ?_⟩) (by assumption) ?_
    rotate_left
    · intro wS hSw
      (try dsimp only at hSw)
      obtain ⟨sb, sh⟩ := hSw
      obtain ⟨e0, e1, e2, e3, f0, f1, f2, f3⟩ := four sh
      go_simp
      first | done | with_reducible rfl
    try simp only [Act.put, List.getElem_toArray, List.getElem_cons_succ, List.getElem_cons_zero, List.setIfInBounds_toArray, List.set_cons_zero, List.set_cons_succ]
    have hC3 := (put4_ne (W := wd5) (g := w.heap.size + 1) (k := w.heap.size + 1 + 1) (by omega) (.int .i64 0) (.int .i64 ef.rev) (.string emp) (.slice none 0 0)).trans hC2
    unfold put4 at hC3
    obtain ⟨a0, a1, a2, a3, b0, b1, b2, b3⟩ := four hB2
    obtain ⟨e0, e1, e2, e3, f0, f1, f2, f3⟩ := four hC3
    refine wpAnyH_ready (rs := [4]) (by kernel_rfl) (by simp) ?_
    refine AllReadyH.cons rfl (fun K hK => ?_) AllReadyH.nil
    go_simp
    refine hK.out _ _ ?_ (fun r8 => ?_)
    · exact ⟨put4_below r0.1 (by omega) _ _ _ _, (put4_ne (by omega) _ _ _ _).trans r0.2⟩
    try simp only [Act.put, List.getElem_toArray, List.getElem_cons_succ, List.getElem_cons_zero, List.setIfInBounds_toArray, List.set_cons_zero, List.set_cons_succ]
    refine wpAnyH_ready (rs := [5]) (by kernel_rfl) (by simp) ?_
    refine AllReadyH.cons rfl (fun K hK => ?_) AllReadyH.nil
    go_simp
    refine hK.out _ _ ?_ (fun r9 => ?_)
    · exact ⟨put4_below (put4_below r0.1 (by omega) _ _ _ _) (by omega) _ _ _ _, ((put4_ne (by omega) _ _ _ _).trans (put4_ne (by omega) _ _ _ _)).trans r0.2⟩
    try simp only [Act.put, List.getElem_toArray, List.getElem_cons_succ, List.getElem_cons_zero, List.setIfInBounds_toArray, List.set_cons_zero, List.set_cons_succ]
    refine wpAnyH_take (i := 6) (v := ?_) rfl (by kernel_rfl) (by kernel_rfl) (by kernel_rfl) (fun _ _ _ h => h) (Or.inl ⟨by rfl, ?_⟩) (by assumption) ?_
    rotate_left
    · intro wS hSw
      (try dsimp only at hSw)
      go_simp
      first | done | with_reducible rfl
    try simp only [Act.put, List.getElem_toArray, List.getElem_cons_succ, List.getElem_cons_zero, List.setIfInBounds_toArray, List.set_cons_zero, List.set_cons_succ]
    refine wpAnyH_done (by kernel_rfl) ?_ _
    go_wp2_with fail
    have hE := plan_end (v := (.slice none 0 0)) (L := []) r0.1 (n1 := w.heap.size + 1) (n2 := w.heap.size + 1 + 1) (by omega) (by omega) (by omega) hB2 hC2 (World.ownsRow_nil _ _ _ _) (.int .i64 0) (.int .i64 ef.rev) (.string emp) (.slice none 0 0) (.string ef.key) (.string ef.val) (.int .i64 ef.rev) (.bool ef.gone)
    unfold put4 at hE
    refine bodyPost_ret (v := .tuple #[kres ⟨0, ef.rev, emp, []⟩ (.slice none 0 0), effV ef, .bool true]) (by simp [results, Try.results26, go_sem, World.cell?, hE.1, hE.2.1]) rfl ⟨.slice none 0 0, congrArg (fun r : Int => Ending.returned (.tuple #[kres ⟨0, r, emp, []⟩ (.slice none 0 0), effV ef, .bool true])) HER.out, hE.2.2.1, hE.2.2.2⟩
theorem plan_any (g : Nat) (P : Nat → Prop) (S : KSt) (o : KOp) (w : World) (h : KvAt w g P S) (hs : o.key.size ≤ maxLen) (hs2 : o.iff.size ≤ maxLen) (hr : Rising S.L) (hn : S.L.length ≤ 1000000) (hrv : 0 ≤ S.rev ∧ S.rev < 9223372036854775807) :
    Calls Try.prog 26 #[ptr g, opV o] w fun e w' => ∃ v, e = .returned (.tuple #[kres (planK S o).1 v, effV (planK S o).2.1, .bool (planK S o).2.2]) ∧ RowI w' w.heap.size v (planK S o).1.its ∧ Below w.heap.size w w' := by
  by_cases hk1 : o.kind = 1
  · exact plan_get g P S o w h hs hk1
  · by_cases hk2 : o.kind = 2
    · exact plan_list g P S o w h hs hr hn hk2
    · by_cases hk3 : refuse S o = 0
      · exact plan_yes g P S o w h hs hs2 hrv hk1 hk2 hk3
      · exact plan_no g P S o w h hs hs2 hk1 hk2 hk3
end Go.Proofs.Ytholgmcfgnifdaa
