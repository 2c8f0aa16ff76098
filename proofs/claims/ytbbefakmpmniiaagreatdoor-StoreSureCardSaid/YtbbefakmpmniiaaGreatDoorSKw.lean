/- Joined: KvPlan KvMay KvApply KvDo KvAwake KvOpen KvOurs KvNilW KvOf KvInv. -/
import Derived.Test.YtbbefakmpmniiaaGreatDoorSKv
import Derived.Test.YtbbefakmpmniiaaGreatDoorSPk
import Derived.Deep.SlicePairs
import Derived.SizedLaws
import Derived.Laws.StructEq
namespace Go.Proofs.YtbbefakmpmniiaaGreatDoor.KV
section
open Go.RowKit Go.Maps
structure KRes where
  code : Int
  rev : Int
  val : ByteArray
  its : List KEnt
def planK (S : KSt) (o : KOp) : KRes × KEff × Bool :=
  if o.kind = 1 then (⟨(getR S.L o.key).1, (getR S.L o.key).2.1, (getR S.L o.key).2.2, []⟩, eff0, false)
  else if o.kind = 2 then (⟨0, S.rev, emp, beginL S.L o.key⟩, eff0, false)
  else if refuse S o = 0 then (⟨0, S.rev + 1, emp, []⟩, effOf o (S.rev + 1), true)
  else (⟨refuse S o, 0, emp, []⟩, eff0, false)
abbrev kres (r : KRes) (its : Value) : Value := resV r.code r.rev r.val its
abbrev opO (o : KOp) : Obj := .cells #[.int .i64 o.kind, .string o.key, .string o.val, .int .i64 o.rev, .string o.iff, .int .i64 o.ifRev] 38
abbrev resO (c r : Int) (v : ByteArray) (its : Value) : Obj := .cells #[.int .i64 c, .int .i64 r, .string v, its] 49
abbrev effO (e : KEff) : Obj := .cells #[.string e.key, .string e.val, .int .i64 e.rev, .bool e.gone] 112
theorem alloc3 (w : World) (A B C : Obj) : ∃ W, W = ((w.alloc A).alloc B).alloc C ∧ Below w.heap.size w W ∧ W.heap.size = w.heap.size + 3 ∧ W.heap[w.heap.size]? = some A ∧ W.heap[w.heap.size + 1]? = some B ∧ W.heap[w.heap.size + 1 + 1]? = some C := by
  refine ⟨_, rfl, belAlloc (belAlloc (belNew w A) B) C, by simp, ?_, ?_, ?_⟩
  · rw [Below.heap_alloc _ _ _ (by simp; omega), Below.heap_alloc _ _ _ (by simp)]; exact heap_alloc_new w A
  · rw [Below.heap_alloc _ _ _ (by simp)]; simpa using heap_alloc_new (w.alloc A) B
  · simpa using heap_alloc_new ((w.alloc A).alloc B) C
theorem four {w : World} {g : Nat} {a b c d : Value} {t : TypeId} (h : w.heap[g]? = some (.cells #[a, b, c, d] t (0, 0))) : w.cell? ⟨g, 0, none⟩ = some a ∧ w.cell? ⟨g, 1, none⟩ = some b ∧ w.cell? ⟨g, 2, none⟩ = some c ∧ w.cell? ⟨g, 3, none⟩ = some d ∧
    w.frozen? ⟨g, 0, none⟩ = false ∧ w.frozen? ⟨g, 1, none⟩ = false ∧ w.frozen? ⟨g, 2, none⟩ = false ∧ w.frozen? ⟨g, 3, none⟩ = false := by simp [World.cell?, World.frozen?, h]
def put4 (W : World) (g : Nat) (x y z u : Value) : World := (((W.setCell ⟨g, 0, none⟩ x).setCell ⟨g, 1, none⟩ y).setCell ⟨g, 2, none⟩ z).setCell ⟨g, 3, none⟩ u
theorem put4_at {W : World} {g : Nat} {a b c d : Value} {t : TypeId} (h : W.heap[g]? = some (.cells #[a, b, c, d] t (0, 0))) (x y z u : Value) : (put4 W g x y z u).heap[g]? = some (.cells #[x, y, z, u] t (0, 0)) := by
  have h1 := dset h 0 x
  have h2 := dset h1 1 y
  have h3 := dset h2 2 z
  have h4 := dset h3 3 u
  unfold put4
  simpa using h4
theorem put4_ne {W : World} {g k : Nat} (h : k ≠ g) (x y z u : Value) : (put4 W g x y z u).heap[k]? = W.heap[k]? := by
  unfold put4
  rw [Below.heap_setCell _ _ _ _ h, Below.heap_setCell _ _ _ _ h, Below.heap_setCell _ _ _ _ h, Below.heap_setCell _ _ _ _ h]
theorem put4_size (W : World) (g : Nat) (x y z u : Value) : (put4 W g x y z u).heap.size = W.heap.size := by simp [put4, World.setCell]
theorem put4_below {n : Nat} {w W : World} (hb : Below n w W) {g : Nat} (hg : n ≤ g) (x y z u : Value) : Below n w (put4 W g x y z u) :=
  (((hb.setCell (p := ⟨g, 0, none⟩) hg x).setCell (p := ⟨g, 1, none⟩) hg y).setCell (p := ⟨g, 2, none⟩) hg z).setCell (p := ⟨g, 3, none⟩) hg u
theorem put4_row {W : World} {g B : Nat} {E : TypeId} {v : Value} {L : List KEnt} {a b c d : Value} {t : TypeId} (h : RowE E W B v L) (hg : W.heap[g]? = some (.cells #[a, b, c, d] t (0, 0))) (ht : t ≠ E) (x y z u : Value) : RowE E (put4 W g x y z u) B v L :=
  ⟨h.1, h.2.imp id fun ⟨k, cap, cur, e, b', hk, r⟩ => ⟨k, cap, cur, e, b', (put4_ne (fun e2 => by
    subst e2
    rw [hg] at hk
    injection hk with h1
    injection h1 with _ h2
    exact ht h2) x y z u).trans hk, r⟩⟩
/-- The two answers of Plan, laid: what the frame's end comes to. -/
theorem plan_end {w W : World} {n1 n2 : Nat} {v : Value} {L : List KEnt} (hb : Below w.heap.size w W) (h1 : w.heap.size ≤ n1) (h12 : n1 ≠ n2) (h2 : w.heap.size ≤ n2) {a b c d a' b' c' d' : Value} (hB : W.heap[n1]? = some (.cells #[a, b, c, d] 49 (0, 0))) (hC : W.heap[n2]? = some (.cells #[a', b', c', d'] 112 (0, 0)))
    (hrow : RowI W w.heap.size v L) (x y z u x' y' z' u' : Value) :
    (put4 (put4 W n1 x y z u) n2 x' y' z' u').heap[n1]? = some (.cells #[x, y, z, u] 49 (0, 0)) ∧ (put4 (put4 W n1 x y z u) n2 x' y' z' u').heap[n2]? = some (.cells #[x', y', z', u'] 112 (0, 0)) ∧
    RowI (put4 (put4 W n1 x y z u) n2 x' y' z' u') w.heap.size v L ∧ Below w.heap.size w (put4 (put4 W n1 x y z u) n2 x' y' z' u') := by
  have hC1 := (put4_ne (W := W) (g := n1) (fun e => h12 e.symm) x y z u).trans hC
  exact ⟨(put4_ne h12 _ _ _ _).trans (put4_at hB x y z u), put4_at hC1 _ _ _ _, put4_row (put4_row hrow hB (by decide) _ _ _ _) hC1 (by decide) _ _ _ _, put4_below (put4_below hb h1 _ _ _ _) h2 _ _ _ _⟩
set_option maxRecDepth 100000 in
set_option maxHeartbeats 4000000 in
theorem plan_get (g : Nat) (P : Nat → Prop) (S : KSt) (o : KOp) (w : World) (h : KvAt w g P S) (hs : o.key.size ≤ maxLen) (hk : o.kind = 1) :
    Calls Tryz.prog 43 #[ptr g, opV o] w fun e w' => ∃ v, e = .returned (.tuple #[kres (planK S o).1 v, effV (planK S o).2.1, .bool (planK S o).2.2]) ∧ RowI w' w.heap.size v (planK S o).1.its ∧ Below w.heap.size w w' := by
  have hp : planK S o = (⟨(getR S.L o.key).1, (getR S.L o.key).2.1, (getR S.L o.key).2.2, []⟩, eff0, false) := by unfold planK; rw [if_pos hk]
  rw [hp]
  obtain ⟨W, hW, hb, hz, hA, hB, hC⟩ := alloc3 w (opO o) (resO 0 0 emp (.slice none 0 0)) (effO eff0)
  have HG := Lib.hid (get_any g P S o.key W (h.below hb) hs)
  obtain ⟨k0, k1, -⟩ := opcells hA
  rw [hk] at k0
  have q := eqNilK
  generalize getR S.L o.key = r at HG
  obtain ⟨r1, r2, r3⟩ := r
  have HW := Lib.hid hW
  have HB := Lib.hid (And.intro hb (And.intro hz (And.intro hB hC)))
  clear hW hb hz hA hB hC h hp hk
  go_enter Tryz.func43, Tryz.ntmps43
  go_upto_region 1 with fail
  change Code.wp _ _ _ _ (((w.alloc (opO o)).alloc (resO 0 0 emp (.slice none 0 0))).alloc (effO eff0))
  rw [← HW.out]
  clear HW
  go_wp2_with (first
    | (go_at_call 81; refine HG.out.mono ?_; rintro e w2 ⟨rfl, hb2⟩
       have hB2 := (hb2.block _ (heap_lt HB.out.2.2.1)).trans HB.out.2.2.1
       have hC2 := (hb2.block _ (heap_lt HB.out.2.2.2)).trans HB.out.2.2.2
       obtain ⟨a0, a1, a2, a3, b0, b1, b2, b3⟩ := four hB2
       obtain ⟨e0, e1, e2, e3, f0, f1, f2, f3⟩ := four hC2)
    | go_in)
  have hE := plan_end (v := .slice none 0 0) (L := []) (HB.out.1.trans (hb2.mono HB.out.1.size)) (n1 := w.heap.size + 1) (n2 := w.heap.size + 1 + 1) (by omega) (by omega) (by omega) hB2 hC2 (World.ownsRow_nil _ _ _ _) (.int .i64 r1) (.int .i64 r2) (.string r3) (.slice none 0 0) (.string emp) (.string emp) (.int .i64 0) (.bool false)
  unfold put4 at hE
  refine bodyPost_ret (v := .tuple #[kres ⟨r1, r2, r3, []⟩ (.slice none 0 0), effV eff0, .bool false]) (by simp [results, Tryz.results43, go_sem, World.cell?, hE.1, hE.2.1]) rfl ⟨_, rfl, hE.2.2.1, hE.2.2.2⟩
/-! Made by g_kvplan.py. -/
set_option maxRecDepth 100000 in
set_option maxHeartbeats 4000000 in
theorem plan_list (g : Nat) (P : Nat → Prop) (S : KSt) (o : KOp) (w : World) (h : KvAt w g P S) (hs : o.key.size ≤ maxLen) (hr : Rising S.L) (hn : S.L.length ≤ 1000000) (hk : o.kind = 2) : Calls Tryz.prog 43 #[ptr g, opV o] w fun e w' => ∃ v, e = .returned (.tuple #[kres (planK S o).1 v, effV (planK S o).2.1, .bool (planK S o).2.2]) ∧ RowI w' w.heap.size v (planK S o).1.its ∧ Below w.heap.size w w' := by
  obtain ⟨W, hW, hb, hz, hA, hB, hC⟩ := alloc3 w (opO o) (resO 0 0 emp (.slice none 0 0)) (effO eff0)
  obtain ⟨k0, k1, -⟩ := opcells hA
  have q := eqNilK
  rw [hk] at k0
  have hp : planK S o = (⟨0, S.rev, emp, beginL S.L o.key⟩, eff0, false) := by unfold planK; rw [if_neg (by omega), if_pos hk]
  rw [hp]
  have HF := Lib.hid (h.facts o.key hs)
  have HU : Hid (∀ w', Below w.heap.size w w' → Calls Tryz.prog 82 #[ptr g, .string o.key] w' fun e w'' => ∃ v, e = .returned v ∧ RowI w'' w'.heap.size v (beginL S.L o.key) ∧ Below w'.heap.size w' w'') := Lib.hid (fun w' hb' => under_any g P S o.key w' (h.below hb') hr hn)
  have HW := Lib.hid hW
  have HB := Lib.hid (And.intro hb (And.intro hz (And.intro hA (And.intro hB hC))))
  clear hW hb hz hA hB hC h hp hk hr
  go_enter Tryz.func43, Tryz.ntmps43
  go_upto_region 1 with fail
  change Code.wp _ _ _ _ (((w.alloc (opO o)).alloc (resO 0 0 emp (.slice none 0 0))).alloc (effO eff0))
  rw [← HW.out]
  clear HW
  go_upto_region 7 with fail
  refine wp_region_held_drew (S := (fun W => Below w.heap.size w W ∧ W.heap[w.heap.size]? = some (opO o))) (by kernel_rfl) ?_ (fun r0 => ?_)
  · exact ⟨bdrew HB.out.1, HB.out.2.2.1⟩
  obtain ⟨wd, hwd⟩ : ∃ wd, wd = W.drew := ⟨_, rfl⟩
  rw [← hwd] at r0 ⊢
  have HBd := Lib.hid (show Below W.heap.size W wd from by rw [hwd]; exact bdrew (Below.refl _ _))
  have HZd : wd.heap.size = w.heap.size + 3 := by rw [hwd]; exact HB.out.2.1
  clear hwd
  refine wpAnyH_take (i := 0) (v := ?_) rfl (by kernel_rfl) (by kernel_rfl) (by kernel_rfl) (fun _ _ _ h => h) (Or.inl ⟨by rfl, ?_⟩) (by assumption) ?_
  rotate_left
  · intro wS hSw
    (try dsimp only at hSw)
    obtain ⟨sb, sh⟩ := hSw
    obtain ⟨k0, k1, k2, k3, k4, k5⟩ := opcells sh
    go_simp
    first | done | with_reducible rfl
  try simp only [Act.put, List.getElem_toArray, List.getElem_cons_zero, List.setIfInBounds_toArray, List.set_cons_zero, List.set_cons_succ]
  refine wpAnyH_take (i := 1) (v := ?_) rfl (by kernel_rfl) (by kernel_rfl) (by kernel_rfl) (fun _ _ _ h => h) (Or.inl ⟨by rfl, ?_⟩) (by assumption) ?_
  rotate_left
  · intro wS hSw
    (try dsimp only at hSw)
    obtain ⟨sb, sh⟩ := hSw
    obtain ⟨k0, k1, k2, k3, k4, k5⟩ := opcells sh
    go_simp
    first | done | with_reducible rfl
  try simp only [Act.put, List.getElem_toArray, List.getElem_cons_succ, List.getElem_cons_zero, List.setIfInBounds_toArray, List.set_cons_zero, List.set_cons_succ]
  refine wpAnyH_take (i := 2) (v := ?_) rfl (by kernel_rfl) (by kernel_rfl) (by kernel_rfl) (fun _ _ _ h => h) (Or.inl ⟨by rfl, ?_⟩) (by assumption) ?_
  rotate_left
  · intro wS hSw
    (try dsimp only at hSw)
    obtain ⟨sb, sh⟩ := hSw
    obtain ⟨k0, k1, k2, k3, k4, k5⟩ := opcells sh
    go_simp
    first | done | with_reducible rfl
  try simp only [Act.put, List.getElem_toArray, List.getElem_cons_succ, List.getElem_cons_zero, List.setIfInBounds_toArray, List.set_cons_zero, List.set_cons_succ]
  refine wpAnyH_take (i := 3) (v := ?_) rfl (by kernel_rfl) (by kernel_rfl) (by kernel_rfl) (fun _ _ _ h => h) (Or.inl ⟨by rfl, ?_⟩) (by assumption) ?_
  rotate_left
  · intro wS hSw
    (try dsimp only at hSw)
    obtain ⟨sb, sh⟩ := hSw
    obtain ⟨k0, k1, k2, k3, k4, k5⟩ := opcells sh
    obtain ⟨mb, c0, c1, -⟩ := HF.out _ sb
    go_simp
    first | done | with_reducible rfl
  try simp only [Act.put, List.getElem_toArray, List.getElem_cons_succ, List.getElem_cons_zero, List.setIfInBounds_toArray, List.set_cons_zero, List.set_cons_succ]
  refine wpAnyH_take (i := 4) (v := ?_) rfl (by kernel_rfl) (by kernel_rfl) (by kernel_rfl) (fun _ _ _ h => h) (Or.inl ⟨by rfl, ?_⟩) (by assumption) ?_
  rotate_left
  · intro wS hSw
    (try dsimp only at hSw)
    obtain ⟨sb, sh⟩ := hSw
    obtain ⟨k0, k1, k2, k3, k4, k5⟩ := opcells sh
    go_simp
    first | done | with_reducible rfl
  try simp only [Act.put, List.getElem_toArray, List.getElem_cons_succ, List.getElem_cons_zero, List.setIfInBounds_toArray, List.set_cons_zero, List.set_cons_succ]
  refine wpAnyH_take (i := 5) (v := ?_) rfl (by kernel_rfl) (by kernel_rfl) (by kernel_rfl) (fun _ _ _ h => h) (Or.inl ⟨by rfl, ?_⟩) (by assumption) ?_
  rotate_left
  · intro wS hSw
    (try dsimp only at hSw)
    obtain ⟨sb, sh⟩ := hSw
    obtain ⟨k0, k1, k2, k3, k4, k5⟩ := opcells sh
    go_simp
    first | done | with_reducible rfl
  try simp only [Act.put, List.getElem_toArray, List.getElem_cons_succ, List.getElem_cons_zero, List.setIfInBounds_toArray, List.set_cons_zero, List.set_cons_succ]
  refine wpAnyH_take (i := 6) (v := ?_) rfl (by kernel_rfl) (by kernel_rfl) (by kernel_rfl) (fun _ _ _ h => h) (Or.inl ⟨by rfl, ?_⟩) (by assumption) ?_
  rotate_left
  · intro wS hSw
    (try dsimp only at hSw)
    obtain ⟨sb, sh⟩ := hSw
    obtain ⟨k0, k1, k2, k3, k4, k5⟩ := opcells sh
    go_simp
    first | done | with_reducible rfl
  try simp only [Act.put, List.getElem_toArray, List.getElem_cons_succ, List.getElem_cons_zero, List.setIfInBounds_toArray, List.set_cons_zero, List.set_cons_succ]
  refine wpAnyH_take (i := 9) (v := ?_) rfl (by kernel_rfl) (by kernel_rfl) (by kernel_rfl) (fun _ _ _ h => h) (Or.inl ⟨by rfl, ?_⟩) (by assumption) ?_
  rotate_left
  · intro wS hSw
    (try dsimp only at hSw)
    go_simp
    first | done | with_reducible rfl
  try simp only [Act.put, List.getElem_toArray, List.getElem_cons_succ, List.getElem_cons_zero, List.setIfInBounds_toArray, List.set_cons_zero, List.set_cons_succ]
  refine wpAnyH_ready (rs := [7]) (by kernel_rfl) (by simp) ?_
  refine AllReadyH.cons rfl (fun K hK => ?_) AllReadyH.nil
  go_simp
  refine (HU.out wd r0.1).mono ?_; rintro e w2 ⟨v, rfl, hrow2, hb2⟩
  obtain ⟨vo, vc, rfl, -⟩ := RowE.sees hrow2
  have hB2 := (hb2.block _ (by omega)).trans ((HBd.out.block _ (heap_lt HB.out.2.2.2.1)).trans HB.out.2.2.2.1)
  have hC2 := (hb2.block _ (by omega)).trans ((HBd.out.block _ (heap_lt HB.out.2.2.2.2)).trans HB.out.2.2.2.2)
  have hA2 := (hb2.block _ (by omega)).trans r0.2
  have hb2w := r0.1.trans (hb2.mono r0.1.size)
  refine hK.out _ _ ?_ (fun r1 => ?_)
  · exact ⟨hb2w, hA2⟩
  try simp only [Act.put, List.getElem_toArray, List.getElem_cons_succ, List.getElem_cons_zero, List.setIfInBounds_toArray, List.set_cons_zero, List.set_cons_succ]
  refine wpAnyH_take (i := 8) (v := ?_) rfl (by kernel_rfl) (by kernel_rfl) (by kernel_rfl) (fun _ _ _ h => h) (Or.inl ⟨by rfl, ?_⟩) (by assumption) ?_
  rotate_left
  · intro wS hSw
    (try dsimp only at hSw)
    go_simp
    first | done | with_reducible rfl
  try simp only [Act.put, List.getElem_toArray, List.getElem_cons_succ, List.getElem_cons_zero, List.setIfInBounds_toArray, List.set_cons_zero, List.set_cons_succ]
  have hC3 := (put4_ne (W := w2) (g := w.heap.size + 1) (k := w.heap.size + 1 + 1) (by omega) (.int .i64 0) (.int .i64 S.rev) (.string emp) (.slice vo (beginL S.L o.key).length vc)).trans hC2
  unfold put4 at hC3
  obtain ⟨a0, a1, a2, a3, b0, b1, b2, b3⟩ := four hB2
  obtain ⟨e0, e1, e2, e3, f0, f1, f2, f3⟩ := four hC3
  refine wpAnyH_ready (rs := [10]) (by kernel_rfl) (by simp) ?_
  refine AllReadyH.cons rfl (fun K hK => ?_) AllReadyH.nil
  go_simp
  refine hK.out _ _ ?_ (fun r8 => ?_)
  · exact ⟨put4_below hb2w (by omega) _ _ _ _, (put4_ne (by omega) _ _ _ _).trans hA2⟩
  try simp only [Act.put, List.getElem_toArray, List.getElem_cons_succ, List.getElem_cons_zero, List.setIfInBounds_toArray, List.set_cons_zero, List.set_cons_succ]
  refine wpAnyH_ready (rs := [11]) (by kernel_rfl) (by simp) ?_
  refine AllReadyH.cons rfl (fun K hK => ?_) AllReadyH.nil
  go_simp
  refine hK.out _ _ ?_ (fun r9 => ?_)
  · exact ⟨put4_below (put4_below hb2w (by omega) _ _ _ _) (by omega) _ _ _ _, ((put4_ne (by omega) _ _ _ _).trans (put4_ne (by omega) _ _ _ _)).trans hA2⟩
  try simp only [Act.put, List.getElem_toArray, List.getElem_cons_succ, List.getElem_cons_zero, List.setIfInBounds_toArray, List.set_cons_zero, List.set_cons_succ]
  refine wpAnyH_take (i := 12) (v := ?_) rfl (by kernel_rfl) (by kernel_rfl) (by kernel_rfl) (fun _ _ _ h => h) (Or.inl ⟨by rfl, ?_⟩) (by assumption) ?_
  rotate_left
  · intro wS hSw
    (try dsimp only at hSw)
    go_simp
    first | done | with_reducible rfl
  try simp only [Act.put, List.getElem_toArray, List.getElem_cons_succ, List.getElem_cons_zero, List.setIfInBounds_toArray, List.set_cons_zero, List.set_cons_succ]
  refine wpAnyH_done (by kernel_rfl) ?_ _
  go_wp2_with fail
  have hE := plan_end (v := (.slice vo (beginL S.L o.key).length vc)) (L := beginL S.L o.key) hb2w (n1 := w.heap.size + 1) (n2 := w.heap.size + 1 + 1) (by omega) (by omega) (by omega) hB2 hC2 (row_leE hrow2 (by omega)) (.int .i64 0) (.int .i64 S.rev) (.string emp) (.slice vo (beginL S.L o.key).length vc) (.string emp) (.string emp) (.int .i64 0) (.bool false)
  unfold put4 at hE
  refine bodyPost_ret (v := .tuple #[kres ⟨0, S.rev, emp, beginL S.L o.key⟩ (.slice vo (beginL S.L o.key).length vc), effV eff0, .bool false]) (by simp [results, Tryz.results43, go_sem, World.cell?, hE.1, hE.2.1]) rfl ⟨_, rfl, hE.2.2.1, hE.2.2.2⟩
set_option maxRecDepth 100000 in
set_option maxHeartbeats 4000000 in
theorem plan_no (g : Nat) (P : Nat → Prop) (S : KSt) (o : KOp) (w : World) (h : KvAt w g P S) (hs : o.key.size ≤ maxLen) (hs2 : o.iff.size ≤ maxLen) (hk1 : ¬ o.kind = 1) (hk2 : ¬ o.kind = 2) (hk3 : ¬ refuse S o = 0) : Calls Tryz.prog 43 #[ptr g, opV o] w fun e w' => ∃ v, e = .returned (.tuple #[kres (planK S o).1 v, effV (planK S o).2.1, .bool (planK S o).2.2]) ∧ RowI w' w.heap.size v (planK S o).1.its ∧ Below w.heap.size w w' := by
  obtain ⟨W, hW, hb, hz, hA, hB, hC⟩ := alloc3 w (opO o) (resO 0 0 emp (.slice none 0 0)) (effO eff0)
  obtain ⟨k0, k1, -⟩ := opcells hA
  have q := eqNilK
  have hp : planK S o = (⟨refuse S o, 0, emp, []⟩, eff0, false) := by unfold planK; rw [if_neg hk1, if_neg hk2, if_neg hk3]
  rw [hp]
  have d1 : (o.kind == 1) = false := by simpa using hk1
  have d2 : (o.kind == 2) = false := by simpa using hk2
  have d3 : (refuse S o != 0) = true := by simpa using hk3
  have HU := Lib.hid (refusal_any g P S o W (h.below hb) hs hs2)
  generalize refuse S o = R at HU d3
  have HW := Lib.hid hW
  have HB := Lib.hid (And.intro hb (And.intro hz (And.intro hA (And.intro hB hC))))
  clear hW hb hz hB hC h hp hk1 hk2 hk3
  obtain ⟨k0, k1, k2, k3, k4, k5⟩ := opcells hA
  clear hA
  go_enter Tryz.func43, Tryz.ntmps43
  go_upto_region 1 with fail
  change Code.wp _ _ _ _ (((w.alloc (opO o)).alloc (resO 0 0 emp (.slice none 0 0))).alloc (effO eff0))
  rw [← HW.out]
  clear HW
  go_wp2_with (first
    | (go_at_call 83; refine HU.out.mono ?_; rintro e w2 ⟨rfl, hb2⟩
       have hB2 := (hb2.block _ (heap_lt HB.out.2.2.2.1)).trans HB.out.2.2.2.1
       have hC2 := (hb2.block _ (heap_lt HB.out.2.2.2.2)).trans HB.out.2.2.2.2
       obtain ⟨a0, a1, a2, a3, b0, b1, b2, b3⟩ := four hB2
       obtain ⟨e0, e1, e2, e3, f0, f1, f2, f3⟩ := four hC2)
    | go_in)
  have hE := plan_end (v := (.slice none 0 0)) (L := []) (HB.out.1.trans (hb2.mono HB.out.1.size)) (n1 := w.heap.size + 1) (n2 := w.heap.size + 1 + 1) (by omega) (by omega) (by omega) hB2 hC2 (World.ownsRow_nil _ _ _ _) (.int .i64 R) (.int .i64 0) (.string emp) (.slice none 0 0) (.string emp) (.string emp) (.int .i64 0) (.bool false)
  unfold put4 at hE
  refine bodyPost_ret (v := .tuple #[kres ⟨R, 0, emp, []⟩ (.slice none 0 0), effV eff0, .bool false]) (by simp [results, Tryz.results43, go_sem, World.cell?, hE.1, hE.2.1]) rfl ⟨_, rfl, hE.2.2.1, hE.2.2.2⟩
set_option maxRecDepth 100000 in
set_option maxHeartbeats 4000000 in
theorem plan_yes (g : Nat) (P : Nat → Prop) (S : KSt) (o : KOp) (w : World) (h : KvAt w g P S) (hs : o.key.size ≤ maxLen) (hs2 : o.iff.size ≤ maxLen) (hrv : 0 ≤ S.rev ∧ S.rev < 9223372036854775807) (hk1 : ¬ o.kind = 1) (hk2 : ¬ o.kind = 2) (hk3 : refuse S o = 0) : Calls Tryz.prog 43 #[ptr g, opV o] w fun e w' => ∃ v, e = .returned (.tuple #[kres (planK S o).1 v, effV (planK S o).2.1, .bool (planK S o).2.2]) ∧ RowI w' w.heap.size v (planK S o).1.its ∧ Below w.heap.size w w' := by
  obtain ⟨W, hW, hb, hz, hA, hB, hC⟩ := alloc3 w (opO o) (resO 0 0 emp (.slice none 0 0)) (effO eff0)
  obtain ⟨k0, k1, -⟩ := opcells hA
  have q := eqNilK
  have hp : planK S o = (⟨0, S.rev + 1, emp, []⟩, effOf o (S.rev + 1), true) := by unfold planK; rw [if_neg hk1, if_neg hk2, if_pos hk3]
  rw [hp]
  have d1 : (o.kind == 1) = false := by simpa using hk1
  have d2 : (o.kind == 2) = false := by simpa using hk2
  have HU := Lib.hid (refusal_any g P S o W (h.below hb) hs hs2)
  rw [hk3] at HU
  have s1 : IntKind.i64.wrap (S.rev + 1) = S.rev + 1 := IntWalk.i64_in _ (by omega)
  have HE : Hid (∀ w', Calls Tryz.prog 84 #[opV o, .int .i64 (S.rev + 1)] w' fun e w'' => e = .returned (effV (effOf o (S.rev + 1))) ∧ Below w'.heap.size w' w'') := Lib.hid (effectOf_any o (S.rev + 1))
  have HER : Hid ((effOf o (S.rev + 1)).rev = S.rev + 1) := Lib.hid (by unfold effOf; split <;> rfl)
  generalize effOf o (S.rev + 1) = ef at HE HER
  have HK := Lib.hid h
  have HRV := Lib.hid hrv
  have HW := Lib.hid hW
  have HB := Lib.hid (And.intro hb (And.intro hz (And.intro hA (And.intro hB hC))))
  clear hW hb hz hB hC h hp hk1 hk2 hk3 hrv
  obtain ⟨k0, k1, k2, k3, k4, k5⟩ := opcells hA
  clear hA
  go_enter Tryz.func43, Tryz.ntmps43
  go_upto_region 1 with fail
  change Code.wp _ _ _ _ (((w.alloc (opO o)).alloc (resO 0 0 emp (.slice none 0 0))).alloc (effO eff0))
  rw [← HW.out]
  clear HW
  go_upto_region 11 with (first
    | (go_at_call 83; refine HU.out.mono ?_; rintro e w2 ⟨rfl, hb2⟩)
    | go_in)
  have hb2w := HB.out.1.trans (hb2.mono HB.out.1.size)
  have hz2 := hb2.size
  have hz3 := HB.out.2.1
  have hA2 := (hb2.block _ (heap_lt HB.out.2.2.1)).trans HB.out.2.2.1
  have hB2 := (hb2.block _ (heap_lt HB.out.2.2.2.1)).trans HB.out.2.2.2.1
  have hC2 := (hb2.block _ (heap_lt HB.out.2.2.2.2)).trans HB.out.2.2.2.2
  obtain ⟨k0, k1, k2, k3, k4, k5⟩ := opcells hA2
  have c0 := kv_cell (HK.out.below hb2w)
  have H2 := Lib.hid (And.intro hb2w (And.intro hA2 (And.intro hB2 hC2)))
  clear hb2 hb2w hA2 hB2 hC2
  refine wp_region_held_drew (S := (fun W => Below w2.heap.size w2 W)) (by kernel_rfl) ?_ (fun r0 => ?_)
  · exact ⟨rfl, rfl, rfl, Nat.le_refl _, fun _ _ => rfl⟩
  obtain ⟨wd, hwd⟩ : ∃ wd, wd = w2.drew := ⟨_, rfl⟩
  rw [← hwd] at r0 ⊢
  have hwz : wd.heap.size = w2.heap.size := by rw [hwd]; rfl
  clear hwd
  refine wpAnyH_take (i := 0) (v := ?_) rfl (by kernel_rfl) (by kernel_rfl) (by kernel_rfl) (fun _ _ _ h => h) (Or.inl ⟨by rfl, ?_⟩) (by assumption) ?_
  rotate_left
  · intro wS hSw
    (try dsimp only at hSw)
    have k0 := bcell hSw k0
    have k1 := bcell hSw k1
    have k2 := bcell hSw k2
    have k3 := bcell hSw k3
    have k4 := bcell hSw k4
    have k5 := bcell hSw k5
    go_simp
    first | done | with_reducible rfl
  try simp only [Act.put, List.getElem_toArray, List.getElem_cons_zero, List.setIfInBounds_toArray, List.set_cons_zero, List.set_cons_succ]
  refine wpAnyH_take (i := 1) (v := ?_) rfl (by kernel_rfl) (by kernel_rfl) (by kernel_rfl) (fun _ _ _ h => h) (Or.inl ⟨by rfl, ?_⟩) (by assumption) ?_
  rotate_left
  · intro wS hSw
    (try dsimp only at hSw)
    go_simp
    first | done | with_reducible rfl
  try simp only [Act.put, List.getElem_toArray, List.getElem_cons_succ, List.getElem_cons_zero, List.setIfInBounds_toArray, List.set_cons_zero, List.set_cons_succ]
  refine wpAnyH_take (i := 2) (v := ?_) rfl (by kernel_rfl) (by kernel_rfl) (by kernel_rfl) (fun _ _ _ h => h) (Or.inl ⟨by rfl, ?_⟩) (by assumption) ?_
  rotate_left
  · intro wS hSw
    (try dsimp only at hSw)
    go_simp
    first | done | with_reducible rfl
  try simp only [Act.put, List.getElem_toArray, List.getElem_cons_succ, List.getElem_cons_zero, List.setIfInBounds_toArray, List.set_cons_zero, List.set_cons_succ]
  refine wpAnyH_take (i := 3) (v := ?_) rfl (by kernel_rfl) (by kernel_rfl) (by kernel_rfl) (fun _ _ _ h => h) (Or.inl ⟨by rfl, ?_⟩) (by assumption) ?_
  rotate_left
  · intro wS hSw
    (try dsimp only at hSw)
    go_simp
    first | done | with_reducible rfl
  try simp only [Act.put, List.getElem_toArray, List.getElem_cons_succ, List.getElem_cons_zero, List.setIfInBounds_toArray, List.set_cons_zero, List.set_cons_succ]
  refine wpAnyH_take (i := 4) (v := ?_) rfl (by kernel_rfl) (by kernel_rfl) (by kernel_rfl) (fun _ _ _ h => h) (Or.inl ⟨by rfl, ?_⟩) (by assumption) ?_
  rotate_left
  · intro wS hSw
    (try dsimp only at hSw)
    have c0 := bcell hSw c0
    go_simp
    first | done | with_reducible rfl
  try simp only [Act.put, List.getElem_toArray, List.getElem_cons_succ, List.getElem_cons_zero, List.setIfInBounds_toArray, List.set_cons_zero, List.set_cons_succ]
  refine wpAnyH_take (i := 5) (v := ?_) rfl (by kernel_rfl) (by kernel_rfl) (by kernel_rfl) (fun _ _ _ h => h) (Or.inl ⟨by rfl, ?_⟩) (by assumption) ?_
  rotate_left
  · intro wS hSw
    (try dsimp only at hSw)
    go_simp
    first | done | with_reducible rfl
  try simp only [Act.put, List.getElem_toArray, List.getElem_cons_succ, List.getElem_cons_zero, List.setIfInBounds_toArray, List.set_cons_zero, List.set_cons_succ]
  refine wpAnyH_ready (rs := [6, 7]) (by kernel_rfl) (by simp) ?_
  refine AllReadyH.cons rfl (fun K hK => ?_) (AllReadyH.cons rfl (fun K hK => ?_) AllReadyH.nil)
  · go_simp
    refine (HE.out wd).mono ?_; rintro e w3 ⟨rfl, hb3⟩
    have r1b := bel r0 hb3
    refine hK.out _ _ ?_ (fun r1 => ?_)
    · exact r1b
    try simp only [Act.put, List.getElem_toArray, List.getElem_cons_succ, List.getElem_cons_zero, List.setIfInBounds_toArray, List.set_cons_zero, List.set_cons_succ]
    refine wpAnyH_ready (rs := [7]) (by kernel_rfl) (by simp) ?_
    refine AllReadyH.cons rfl (fun K hK => ?_) AllReadyH.nil
    go_simp
    refine hK.out _ _ ?_ (fun r2 => ?_)
    · show Below _ _ _
      repeat (first | exact r1 | exact r1b | exact Below.refl _ _ | refine bdrew ?_ | refine belAlloc ?_ _ | refine Below.setCell ?_ (by simp) _ | refine Below.alloc ?_ (by simp) _)
    try simp only [Act.put, List.getElem_toArray, List.getElem_cons_succ, List.getElem_cons_zero, List.setIfInBounds_toArray, List.set_cons_zero, List.set_cons_succ]
    refine wpAnyH_ready (rs := [8]) (by kernel_rfl) (by simp) ?_
    refine AllReadyH.cons rfl (fun K hK => ?_) AllReadyH.nil
    go_simp
    refine hK.out _ _ ?_ (fun r3 => ?_)
    · show Below _ _ _
      repeat (first | exact r2 | exact r1b | exact Below.refl _ _ | refine bdrew ?_ | refine belAlloc ?_ _ | refine Below.setCell ?_ (by simp) _ | refine Below.alloc ?_ (by simp) _)
    try simp only [Act.put, List.getElem_toArray, List.getElem_cons_succ, List.getElem_cons_zero, List.setIfInBounds_toArray, List.set_cons_zero, List.set_cons_succ]
    refine wpAnyH_done (by kernel_rfl) ?_ _
    obtain ⟨w4, hw4⟩ : ∃ w4, w4 = w3.alloc (effO ef) := ⟨_, rfl⟩
    rw [← hw4]
    have hb4 : Below w3.heap.size w3 w4 := by rw [hw4]; exact belNew _ _
    have hn4 : w4.heap[w3.heap.size]? = some (effO ef) := by rw [hw4]; exact heap_alloc_new w3 _
    have hz4 : w4.heap.size = w3.heap.size + 1 := by rw [hw4]; simp
    have hbx : Below w2.heap.size w2 w4 := bel r1 hb4
    have hz13 := r1.size
    clear hw4 r0 r1 r1b r2 r3 hb3 hb4
    have hb24 : Below w2.heap.size w2 w4 := hbx
    have hA4 := (hb24.block _ (heap_lt H2.out.2.1)).trans H2.out.2.1
    have hB4 := (hb24.block _ (heap_lt H2.out.2.2.1)).trans H2.out.2.2.1
    have hC4 := (hb24.block _ (heap_lt H2.out.2.2.2)).trans H2.out.2.2.2
    have hbw4 := H2.out.1.trans (hb24.mono H2.out.1.size)
    have H4 := Lib.hid (And.intro hbw4 (And.intro hA4 (And.intro hB4 (And.intro hC4 hn4))))
    clear hb24 hA4 hB4 hC4 hbw4 hn4 k0 k1 k2 k3 k4 k5 c0
    go_upto_region 12 with fail
    refine wp_region_held_drew (S := (fun W => Below w.heap.size w W ∧ W.heap[w3.heap.size]? = some (effO ef))) (by kernel_rfl) ?_ (fun r0 => ?_)
    · exact ⟨bdrew H4.out.1, H4.out.2.2.2.2⟩
    obtain ⟨wd5, hwd5⟩ : ∃ wd5, wd5 = w4.drew := ⟨_, rfl⟩
    rw [← hwd5] at r0 ⊢
    have hB2 : wd5.heap[w.heap.size + 1]? = some (resO 0 0 emp (.slice none 0 0)) := by rw [hwd5]; exact H4.out.2.2.1
    have hC2 : wd5.heap[w.heap.size + 1 + 1]? = some (effO eff0) := by rw [hwd5]; exact H4.out.2.2.2.1
    clear hwd5
    refine wpAnyH_take (i := 0) (v := ?_) rfl (by kernel_rfl) (by kernel_rfl) (by kernel_rfl) (fun _ _ _ h => h) (Or.inl ⟨by rfl, ?_⟩) (by assumption) ?_
    rotate_left
    · intro wS hSw
      (try dsimp only at hSw)
      go_simp
      first | done | with_reducible rfl
    try simp only [Act.put, List.getElem_toArray, List.getElem_cons_zero, List.setIfInBounds_toArray, List.set_cons_zero, List.set_cons_succ]
    refine wpAnyH_take (i := 1) (v := ?_) rfl (by kernel_rfl) (by kernel_rfl) (by kernel_rfl) (fun _ _ _ h => h) (Or.inl ⟨by rfl, ?_⟩) (by assumption) ?_
    rotate_left
    · intro wS hSw
      (try dsimp only at hSw)
      obtain ⟨sb, sh⟩ := hSw
      obtain ⟨e0, e1, e2, e3, f0, f1, f2, f3⟩ := four sh
      go_simp
      first | done | with_reducible rfl
    try simp only [Act.put, List.getElem_toArray, List.getElem_cons_succ, List.getElem_cons_zero, List.setIfInBounds_toArray, List.set_cons_zero, List.set_cons_succ]
    refine wpAnyH_take (i := 2) (v := ?_) rfl (by kernel_rfl) (by kernel_rfl) (by kernel_rfl) (fun _ _ _ h => h) (Or.inl ⟨by rfl, ?_⟩) (by assumption) ?_
    rotate_left
    · intro wS hSw
      (try dsimp only at hSw)
      go_simp
      first | done | with_reducible rfl
    try simp only [Act.put, List.getElem_toArray, List.getElem_cons_succ, List.getElem_cons_zero, List.setIfInBounds_toArray, List.set_cons_zero, List.set_cons_succ]
    refine wpAnyH_take (i := 3) (v := ?_) rfl (by kernel_rfl) (by kernel_rfl) (by kernel_rfl) (fun _ _ _ h => h) (Or.inl ⟨by rfl, ?_⟩) (by assumption) ?_
    rotate_left
    · intro wS hSw
      (try dsimp only at hSw)
      obtain ⟨sb, sh⟩ := hSw
      obtain ⟨e0, e1, e2, e3, f0, f1, f2, f3⟩ := four sh
      go_simp
      first | done | with_reducible rfl
    try simp only [Act.put, List.getElem_toArray, List.getElem_cons_succ, List.getElem_cons_zero, List.setIfInBounds_toArray, List.set_cons_zero, List.set_cons_succ]
    have hC3 := (put4_ne (W := wd5) (g := w.heap.size + 1) (k := w.heap.size + 1 + 1) (by omega) (.int .i64 0) (.int .i64 ef.rev) (.string emp) (.slice none 0 0)).trans hC2
    unfold put4 at hC3
    obtain ⟨a0, a1, a2, a3, b0, b1, b2, b3⟩ := four hB2
    obtain ⟨e0, e1, e2, e3, f0, f1, f2, f3⟩ := four hC3
    refine wpAnyH_ready (rs := [4]) (by kernel_rfl) (by simp) ?_
    refine AllReadyH.cons rfl (fun K hK => ?_) AllReadyH.nil
    go_simp
    refine hK.out _ _ ?_ (fun r8 => ?_)
    · exact ⟨put4_below r0.1 (by omega) _ _ _ _, (put4_ne (by omega) _ _ _ _).trans r0.2⟩
    try simp only [Act.put, List.getElem_toArray, List.getElem_cons_succ, List.getElem_cons_zero, List.setIfInBounds_toArray, List.set_cons_zero, List.set_cons_succ]
    refine wpAnyH_ready (rs := [5]) (by kernel_rfl) (by simp) ?_
    refine AllReadyH.cons rfl (fun K hK => ?_) AllReadyH.nil
    go_simp
    refine hK.out _ _ ?_ (fun r9 => ?_)
    · exact ⟨put4_below (put4_below r0.1 (by omega) _ _ _ _) (by omega) _ _ _ _, ((put4_ne (by omega) _ _ _ _).trans (put4_ne (by omega) _ _ _ _)).trans r0.2⟩
    try simp only [Act.put, List.getElem_toArray, List.getElem_cons_succ, List.getElem_cons_zero, List.setIfInBounds_toArray, List.set_cons_zero, List.set_cons_succ]
    refine wpAnyH_take (i := 6) (v := ?_) rfl (by kernel_rfl) (by kernel_rfl) (by kernel_rfl) (fun _ _ _ h => h) (Or.inl ⟨by rfl, ?_⟩) (by assumption) ?_
    rotate_left
    · intro wS hSw
      (try dsimp only at hSw)
      go_simp
      first | done | with_reducible rfl
    try simp only [Act.put, List.getElem_toArray, List.getElem_cons_succ, List.getElem_cons_zero, List.setIfInBounds_toArray, List.set_cons_zero, List.set_cons_succ]
    refine wpAnyH_done (by kernel_rfl) ?_ _
    go_wp2_with fail
    have hE := plan_end (v := (.slice none 0 0)) (L := []) r0.1 (n1 := w.heap.size + 1) (n2 := w.heap.size + 1 + 1) (by omega) (by omega) (by omega) hB2 hC2 (World.ownsRow_nil _ _ _ _) (.int .i64 0) (.int .i64 ef.rev) (.string emp) (.slice none 0 0) (.string ef.key) (.string ef.val) (.int .i64 ef.rev) (.bool ef.gone)
    unfold put4 at hE
    refine bodyPost_ret (v := .tuple #[kres ⟨0, ef.rev, emp, []⟩ (.slice none 0 0), effV ef, .bool true]) (by simp [results, Tryz.results43, go_sem, World.cell?, hE.1, hE.2.1]) rfl ⟨.slice none 0 0, congrArg (fun r : Int => Ending.returned (.tuple #[kres ⟨0, r, emp, []⟩ (.slice none 0 0), effV ef, .bool true])) HER.out, hE.2.2.1, hE.2.2.2⟩
  · go_simp
    refine hK.out _ _ ?_ (fun r1 => ?_)
    · exact belAlloc r0 _
    try simp only [Act.put, List.getElem_toArray, List.getElem_cons_succ, List.getElem_cons_zero, List.setIfInBounds_toArray, List.set_cons_zero, List.set_cons_succ]
    obtain ⟨wa, hwa⟩ : ∃ wa, wa = wd.alloc (effO eff0) := ⟨_, rfl⟩
    rw [← hwa] at r1 ⊢
    have hna : wa.heap[wd.heap.size]? = some (effO eff0) := by rw [hwa]; exact heap_alloc_new wd _
    have hza : wa.heap.size = wd.heap.size + 1 := by rw [hwa]; simp
    rw [hwz] at hna hza
    clear hwa
    refine wpAnyH_ready (rs := [6]) (by kernel_rfl) (by simp) ?_
    refine AllReadyH.cons rfl (fun K hK => ?_) AllReadyH.nil
    go_simp
    refine (HE.out wa).mono ?_; rintro e w3 ⟨rfl, hb3⟩
    have r1b := bel r1 hb3
    have hn3 := (hb3.block _ (by omega)).trans hna
    obtain ⟨e0, e1, e2, e3, f0, f1, f2, f3⟩ := four hn3
    refine hK.out _ _ ?_ (fun r2 => ?_)
    · exact r1b
    try simp only [Act.put, List.getElem_toArray, List.getElem_cons_succ, List.getElem_cons_zero, List.setIfInBounds_toArray, List.set_cons_zero, List.set_cons_succ]
    refine wpAnyH_ready (rs := [8]) (by kernel_rfl) (by simp) ?_
    refine AllReadyH.cons rfl (fun K hK => ?_) AllReadyH.nil
    go_simp
    refine hK.out _ _ ?_ (fun r3 => ?_)
    · exact put4_below r1b (by omega) _ _ _ _
    try simp only [Act.put, List.getElem_toArray, List.getElem_cons_succ, List.getElem_cons_zero, List.setIfInBounds_toArray, List.set_cons_zero, List.set_cons_succ]
    refine wpAnyH_done (by kernel_rfl) ?_ _
    have hn4 := put4_at hn3 (.string ef.key) (.string ef.val) (.int .i64 ef.rev) (.bool ef.gone)
    have hbx := put4_below r1b (show w2.heap.size ≤ w2.heap.size by omega) (.string ef.key) (.string ef.val) (.int .i64 ef.rev) (.bool ef.gone)
    have hz4 := put4_size w3 w2.heap.size (.string ef.key) (.string ef.val) (.int .i64 ef.rev) (.bool ef.gone)
    have hz3a := hb3.size
    have hz13 : w2.heap.size ≤ w2.heap.size := by omega
    obtain ⟨w4, hw4⟩ : ∃ w4, w4 = put4 w3 w2.heap.size (.string ef.key) (.string ef.val) (.int .i64 ef.rev) (.bool ef.gone) := ⟨_, rfl⟩
    rw [← hw4] at hn4 hbx hz4
    unfold put4 at hw4
    rw [← hw4]
    clear hw4 r0 r1 r1b r2 r3 hb3 hna hn3 e0 e1 e2 e3 f0 f1 f2 f3
    have hb24 : Below w2.heap.size w2 w4 := hbx
    have hA4 := (hb24.block _ (heap_lt H2.out.2.1)).trans H2.out.2.1
    have hB4 := (hb24.block _ (heap_lt H2.out.2.2.1)).trans H2.out.2.2.1
    have hC4 := (hb24.block _ (heap_lt H2.out.2.2.2)).trans H2.out.2.2.2
    have hbw4 := H2.out.1.trans (hb24.mono H2.out.1.size)
    have H4 := Lib.hid (And.intro hbw4 (And.intro hA4 (And.intro hB4 (And.intro hC4 hn4))))
    clear hb24 hA4 hB4 hC4 hbw4 hn4 k0 k1 k2 k3 k4 k5 c0
    go_upto_region 12 with fail
    refine wp_region_held_drew (S := (fun W => Below w.heap.size w W ∧ W.heap[w2.heap.size]? = some (effO ef))) (by kernel_rfl) ?_ (fun r0 => ?_)
    · exact ⟨bdrew H4.out.1, H4.out.2.2.2.2⟩
    obtain ⟨wd5, hwd5⟩ : ∃ wd5, wd5 = w4.drew := ⟨_, rfl⟩
    rw [← hwd5] at r0 ⊢
    have hB2 : wd5.heap[w.heap.size + 1]? = some (resO 0 0 emp (.slice none 0 0)) := by rw [hwd5]; exact H4.out.2.2.1
    have hC2 : wd5.heap[w.heap.size + 1 + 1]? = some (effO eff0) := by rw [hwd5]; exact H4.out.2.2.2.1
    clear hwd5
    refine wpAnyH_take (i := 0) (v := ?_) rfl (by kernel_rfl) (by kernel_rfl) (by kernel_rfl) (fun _ _ _ h => h) (Or.inl ⟨by rfl, ?_⟩) (by assumption) ?_
    rotate_left
    · intro wS hSw
      (try dsimp only at hSw)
      go_simp
      first | done | with_reducible rfl
    try simp only [Act.put, List.getElem_toArray, List.getElem_cons_zero, List.setIfInBounds_toArray, List.set_cons_zero, List.set_cons_succ]
    refine wpAnyH_take (i := 1) (v := ?_) rfl (by kernel_rfl) (by kernel_rfl) (by kernel_rfl) (fun _ _ _ h => h) (Or.inl ⟨by rfl, ?_⟩) (by assumption) ?_
    rotate_left
    · intro wS hSw
      (try dsimp only at hSw)
      obtain ⟨sb, sh⟩ := hSw
      obtain ⟨e0, e1, e2, e3, f0, f1, f2, f3⟩ := four sh
      go_simp
      first | done | with_reducible rfl
    try simp only [Act.put, List.getElem_toArray, List.getElem_cons_succ, List.getElem_cons_zero, List.setIfInBounds_toArray, List.set_cons_zero, List.set_cons_succ]
    refine wpAnyH_take (i := 2) (v := ?_) rfl (by kernel_rfl) (by kernel_rfl) (by kernel_rfl) (fun _ _ _ h => h) (Or.inl ⟨by rfl, ?_⟩) (by assumption) ?_
    rotate_left
    · intro wS hSw
      (try dsimp only at hSw)
      go_simp
      first | done | with_reducible rfl
    try simp only [Act.put, List.getElem_toArray, List.getElem_cons_succ, List.getElem_cons_zero, List.setIfInBounds_toArray, List.set_cons_zero, List.set_cons_succ]
    refine wpAnyH_take (i := 3) (v := ?_) rfl (by kernel_rfl) (by kernel_rfl) (by kernel_rfl) (fun _ _ _ h => h) (Or.inl ⟨by rfl, ?_⟩) (by assumption) ?_
    rotate_left
    · intro wS hSw
      (try dsimp only at hSw)
      obtain ⟨sb, sh⟩ := hSw
      obtain ⟨e0, e1, e2, e3, f0, f1, f2, f3⟩ := four sh
      go_simp
      first | done | with_reducible rfl
    try simp only [Act.put, List.getElem_toArray, List.getElem_cons_succ, List.getElem_cons_zero, List.setIfInBounds_toArray, List.set_cons_zero, List.set_cons_succ]
    have hC3 := (put4_ne (W := wd5) (g := w.heap.size + 1) (k := w.heap.size + 1 + 1) (by omega) (.int .i64 0) (.int .i64 ef.rev) (.string emp) (.slice none 0 0)).trans hC2
    unfold put4 at hC3
    obtain ⟨a0, a1, a2, a3, b0, b1, b2, b3⟩ := four hB2
    obtain ⟨e0, e1, e2, e3, f0, f1, f2, f3⟩ := four hC3
    refine wpAnyH_ready (rs := [4]) (by kernel_rfl) (by simp) ?_
    refine AllReadyH.cons rfl (fun K hK => ?_) AllReadyH.nil
    go_simp
    refine hK.out _ _ ?_ (fun r8 => ?_)
    · exact ⟨put4_below r0.1 (by omega) _ _ _ _, (put4_ne (by omega) _ _ _ _).trans r0.2⟩
    try simp only [Act.put, List.getElem_toArray, List.getElem_cons_succ, List.getElem_cons_zero, List.setIfInBounds_toArray, List.set_cons_zero, List.set_cons_succ]
    refine wpAnyH_ready (rs := [5]) (by kernel_rfl) (by simp) ?_
    refine AllReadyH.cons rfl (fun K hK => ?_) AllReadyH.nil
    go_simp
    refine hK.out _ _ ?_ (fun r9 => ?_)
    · exact ⟨put4_below (put4_below r0.1 (by omega) _ _ _ _) (by omega) _ _ _ _, ((put4_ne (by omega) _ _ _ _).trans (put4_ne (by omega) _ _ _ _)).trans r0.2⟩
    try simp only [Act.put, List.getElem_toArray, List.getElem_cons_succ, List.getElem_cons_zero, List.setIfInBounds_toArray, List.set_cons_zero, List.set_cons_succ]
    refine wpAnyH_take (i := 6) (v := ?_) rfl (by kernel_rfl) (by kernel_rfl) (by kernel_rfl) (fun _ _ _ h => h) (Or.inl ⟨by rfl, ?_⟩) (by assumption) ?_
    rotate_left
    · intro wS hSw
      (try dsimp only at hSw)
      go_simp
      first | done | with_reducible rfl
    try simp only [Act.put, List.getElem_toArray, List.getElem_cons_succ, List.getElem_cons_zero, List.setIfInBounds_toArray, List.set_cons_zero, List.set_cons_succ]
    refine wpAnyH_done (by kernel_rfl) ?_ _
    go_wp2_with fail
    have hE := plan_end (v := (.slice none 0 0)) (L := []) r0.1 (n1 := w.heap.size + 1) (n2 := w.heap.size + 1 + 1) (by omega) (by omega) (by omega) hB2 hC2 (World.ownsRow_nil _ _ _ _) (.int .i64 0) (.int .i64 ef.rev) (.string emp) (.slice none 0 0) (.string ef.key) (.string ef.val) (.int .i64 ef.rev) (.bool ef.gone)
    unfold put4 at hE
    refine bodyPost_ret (v := .tuple #[kres ⟨0, ef.rev, emp, []⟩ (.slice none 0 0), effV ef, .bool true]) (by simp [results, Tryz.results43, go_sem, World.cell?, hE.1, hE.2.1]) rfl ⟨.slice none 0 0, congrArg (fun r : Int => Ending.returned (.tuple #[kres ⟨0, r, emp, []⟩ (.slice none 0 0), effV ef, .bool true])) HER.out, hE.2.2.1, hE.2.2.2⟩
theorem plan_any (g : Nat) (P : Nat → Prop) (S : KSt) (o : KOp) (w : World) (h : KvAt w g P S) (hs : o.key.size ≤ maxLen) (hs2 : o.iff.size ≤ maxLen) (hr : Rising S.L) (hn : S.L.length ≤ 1000000) (hrv : 0 ≤ S.rev ∧ S.rev < 9223372036854775807) :
    Calls Tryz.prog 43 #[ptr g, opV o] w fun e w' => ∃ v, e = .returned (.tuple #[kres (planK S o).1 v, effV (planK S o).2.1, .bool (planK S o).2.2]) ∧ RowI w' w.heap.size v (planK S o).1.its ∧ Below w.heap.size w w' := by
  by_cases hk1 : o.kind = 1
  · exact plan_get g P S o w h hs hk1
  · by_cases hk2 : o.kind = 2
    · exact plan_list g P S o w h hs hr hn hk2
    · by_cases hk3 : refuse S o = 0
      · exact plan_yes g P S o w h hs hs2 hrv hk1 hk2 hk3
      · exact plan_no g P S o w h hs hs2 hk1 hk2 hk3
end
section
open Go.RowKit Go.Maps
def mayA (S : KSt) (e : KEff) : Bool := mayK e.key && (mayV e.val && (!(S.rev == 9223372036854775807) && (e.rev == S.rev + 1 && (!e.gone || (e.val.toList == ([] : List UInt8)) && there S.L e.key))))
set_option maxRecDepth 100000 in
set_option maxHeartbeats 4000000 in
theorem mayApply_any (g : Nat) (P : Nat → Prop) (S : KSt) (e : KEff) (w : World) (h : KvAt w g P S) (hs : e.key.size ≤ maxLen) (hrv : 0 ≤ S.rev ∧ S.rev ≤ 9223372036854775807) :
    Calls Tryz.prog 106 #[ptr g, effV e] w fun x w' => x = .returned (.bool (mayA S e)) ∧ Below w.heap.size w w' := by
  obtain ⟨w1, hw1⟩ : ∃ w1, w1 = w.alloc (effO e) := ⟨_, rfl⟩
  have hb1 : Below w.heap.size w w1 := by rw [hw1]; exact belNew _ _
  have hn1 : w1.heap[w.heap.size]? = some (effO e) := by rw [hw1]; exact heap_alloc_new w _
  have HW := Lib.hid hw1
  have HK : Hid (∀ w, Calls Tryz.prog 148 #[.string e.key] w fun x w' => x = .returned (.bool (mayK e.key)) ∧ w = w') := Lib.hid (mayKey_any e.key)
  have HV : Hid (∀ w, Calls Tryz.prog 149 #[.string e.val] w fun x w' => x = .returned (.bool (mayV e.val)) ∧ w = w') := Lib.hid (mayVal_any e.val)
  obtain ⟨mb, c0, c1, hL1⟩ := h.facts e.key hs w1 hb1
  unfold mayA
  generalize mayK e.key = b1 at HK
  generalize mayV e.val = b2 at HV
  generalize there S.L e.key = th at hL1
  generalize gotU S.L e.key = u at hL1
  obtain ⟨u1, u2, u3⟩ := u
  generalize hR : (b1 && (b2 && (!(S.rev == 9223372036854775807) && (e.rev == S.rev + 1 && (!e.gone || (e.val.toList == ([] : List UInt8)) && th))))) = R
  have HR := Lib.hid hR
  have HB1 := Lib.hid (And.intro hb1 hn1)
  obtain ⟨e0, e1, e2, e3, -⟩ := four hn1
  clear h hR hw1 hb1 hn1
  go_enter Tryz.func106, Tryz.ntmps106
  go_upto_region 1 with fail
  change Code.wp _ _ _ _ (w.alloc (effO e))
  rw [← HW.out]
  clear HW
  cases b1
  · refine wp_region_held_drew (S := (fun W => Below w1.heap.size w1 W)) (by kernel_rfl) ?_ (fun r0 => ?_)
    · exact ⟨rfl, rfl, rfl, Nat.le_refl _, fun _ _ => rfl⟩
    refine wpAnyH_take (i := 0) (v := ?_) rfl (by kernel_rfl) (by kernel_rfl) (by kernel_rfl) (fun _ _ _ h => h) (Or.inl ⟨by rfl, ?_⟩) (by assumption) ?_
    rotate_left
    · intro wS hSw
      (try dsimp only at hSw)
      have c0 := bcell hSw c0
      have c1 := bcell hSw c1
      have e0 := bcell hSw e0
      have e1 := bcell hSw e1
      have e2 := bcell hSw e2
      have e3 := bcell hSw e3
      go_simp
      first | done | with_reducible rfl
    try simp only [Act.put, List.getElem_toArray, List.getElem_cons_zero, List.setIfInBounds_toArray, List.set_cons_zero, List.set_cons_succ]
    refine wpAnyH_take (i := 1) (v := ?_) rfl (by kernel_rfl) (by kernel_rfl) (by kernel_rfl) (fun _ _ _ h => h) (Or.inl ⟨by rfl, ?_⟩) (by assumption) ?_
    rotate_left
    · intro wS hSw
      (try dsimp only at hSw)
      have c0 := bcell hSw c0
      have c1 := bcell hSw c1
      have e0 := bcell hSw e0
      have e1 := bcell hSw e1
      have e2 := bcell hSw e2
      have e3 := bcell hSw e3
      go_simp
      first | done | with_reducible rfl
    try simp only [Act.put, List.getElem_toArray, List.getElem_cons_succ, List.getElem_cons_zero, List.setIfInBounds_toArray, List.set_cons_zero, List.set_cons_succ]
    refine wpAnyH_ready (rs := [2]) (by kernel_rfl) (by simp) ?_
    refine AllReadyH.cons rfl (fun K hK => ?_) AllReadyH.nil
    go_simp
    refine (HK.out _).mono ?_; rintro x wx ⟨rfl, rfl⟩
    refine hK.out _ _ ?_ (fun r1 => ?_)
    · exact r0
    try simp only [Act.put, List.getElem_toArray, List.getElem_cons_succ, List.getElem_cons_zero, List.setIfInBounds_toArray, List.set_cons_zero, List.set_cons_succ]
    refine wpAnyH_take (i := 3) (v := ?_) rfl (by kernel_rfl) (by kernel_rfl) (by kernel_rfl) (fun _ _ _ h => h) (Or.inl ⟨by rfl, ?_⟩) (by assumption) ?_
    rotate_left
    · intro wS hSw
      (try dsimp only at hSw)
      go_simp
      first | done | with_reducible rfl
    try simp only [Act.put, List.getElem_toArray, List.getElem_cons_succ, List.getElem_cons_zero, List.setIfInBounds_toArray, List.set_cons_zero, List.set_cons_succ]
    refine wpAnyH_take (i := 4) (v := ?_) rfl (by kernel_rfl) (by kernel_rfl) (by kernel_rfl) (fun _ _ _ h => h) (Or.inl ⟨by rfl, ?_⟩) (by assumption) ?_
    rotate_left
    · intro wS hSw
      (try dsimp only at hSw)
      go_simp
      first | done | with_reducible rfl
    try simp only [Act.put, List.getElem_toArray, List.getElem_cons_succ, List.getElem_cons_zero, List.setIfInBounds_toArray, List.set_cons_zero, List.set_cons_succ]
    refine wpAnyH_take (i := 5) (v := undef) rfl (by kernel_rfl) (by kernel_rfl) (by kernel_rfl) (fun _ _ _ h => h) (Or.inr ⟨by rfl, rfl⟩) (by assumption) ?_
    try simp only [Act.put, List.getElem_toArray, List.getElem_cons_succ, List.getElem_cons_zero, List.setIfInBounds_toArray, List.set_cons_zero, List.set_cons_succ]
    refine wpAnyH_take (i := 6) (v := undef) rfl (by kernel_rfl) (by kernel_rfl) (by kernel_rfl) (fun _ _ _ h => h) (Or.inr ⟨by rfl, rfl⟩) (by assumption) ?_
    try simp only [Act.put, List.getElem_toArray, List.getElem_cons_succ, List.getElem_cons_zero, List.setIfInBounds_toArray, List.set_cons_zero, List.set_cons_succ]
    refine wpAnyH_take (i := 7) (v := undef) rfl (by kernel_rfl) (by kernel_rfl) (by kernel_rfl) (fun _ _ _ h => h) (Or.inr ⟨by rfl, rfl⟩) (by assumption) ?_
    try simp only [Act.put, List.getElem_toArray, List.getElem_cons_succ, List.getElem_cons_zero, List.setIfInBounds_toArray, List.set_cons_zero, List.set_cons_succ]
    refine wpAnyH_take (i := 8) (v := undef) rfl (by kernel_rfl) (by kernel_rfl) (by kernel_rfl) (fun _ _ _ h => h) (Or.inr ⟨by rfl, rfl⟩) (by assumption) ?_
    try simp only [Act.put, List.getElem_toArray, List.getElem_cons_succ, List.getElem_cons_zero, List.setIfInBounds_toArray, List.set_cons_zero, List.set_cons_succ]
    refine wpAnyH_take (i := 9) (v := ?_) rfl (by kernel_rfl) (by kernel_rfl) (by kernel_rfl) (fun _ _ _ h => h) (Or.inl ⟨by rfl, ?_⟩) (by assumption) ?_
    rotate_left
    · intro wS hSw
      (try dsimp only at hSw)
      go_simp
      first | done | with_reducible rfl
    try simp only [Act.put, List.getElem_toArray, List.getElem_cons_succ, List.getElem_cons_zero, List.setIfInBounds_toArray, List.set_cons_zero, List.set_cons_succ]
    refine wpAnyH_take (i := 10) (v := ?_) rfl (by kernel_rfl) (by kernel_rfl) (by kernel_rfl) (fun _ _ _ h => h) (Or.inl ⟨by rfl, ?_⟩) (by assumption) ?_
    rotate_left
    · intro wS hSw
      (try dsimp only at hSw)
      go_simp
      first | done | with_reducible rfl
    try simp only [Act.put, List.getElem_toArray, List.getElem_cons_succ, List.getElem_cons_zero, List.setIfInBounds_toArray, List.set_cons_zero, List.set_cons_succ]
    refine wpAnyH_take (i := 11) (v := undef) rfl (by kernel_rfl) (by kernel_rfl) (by kernel_rfl) (fun _ _ _ h => h) (Or.inr ⟨by rfl, rfl⟩) (by assumption) ?_
    try simp only [Act.put, List.getElem_toArray, List.getElem_cons_succ, List.getElem_cons_zero, List.setIfInBounds_toArray, List.set_cons_zero, List.set_cons_succ]
    refine wpAnyH_take (i := 12) (v := undef) rfl (by kernel_rfl) (by kernel_rfl) (by kernel_rfl) (fun _ _ _ h => h) (Or.inr ⟨by rfl, rfl⟩) (by assumption) ?_
    try simp only [Act.put, List.getElem_toArray, List.getElem_cons_succ, List.getElem_cons_zero, List.setIfInBounds_toArray, List.set_cons_zero, List.set_cons_succ]
    refine wpAnyH_take (i := 13) (v := undef) rfl (by kernel_rfl) (by kernel_rfl) (by kernel_rfl) (fun _ _ _ h => h) (Or.inr ⟨by rfl, rfl⟩) (by assumption) ?_
    try simp only [Act.put, List.getElem_toArray, List.getElem_cons_succ, List.getElem_cons_zero, List.setIfInBounds_toArray, List.set_cons_zero, List.set_cons_succ]
    refine wpAnyH_take (i := 14) (v := undef) rfl (by kernel_rfl) (by kernel_rfl) (by kernel_rfl) (fun _ _ _ h => h) (Or.inr ⟨by rfl, rfl⟩) (by assumption) ?_
    try simp only [Act.put, List.getElem_toArray, List.getElem_cons_succ, List.getElem_cons_zero, List.setIfInBounds_toArray, List.set_cons_zero, List.set_cons_succ]
    refine wpAnyH_take (i := 15) (v := undef) rfl (by kernel_rfl) (by kernel_rfl) (by kernel_rfl) (fun _ _ _ h => h) (Or.inr ⟨by rfl, rfl⟩) (by assumption) ?_
    try simp only [Act.put, List.getElem_toArray, List.getElem_cons_succ, List.getElem_cons_zero, List.setIfInBounds_toArray, List.set_cons_zero, List.set_cons_succ]
    refine wpAnyH_take (i := 16) (v := ?_) rfl (by kernel_rfl) (by kernel_rfl) (by kernel_rfl) (fun _ _ _ h => h) (Or.inl ⟨by rfl, ?_⟩) (by assumption) ?_
    rotate_left
    · intro wS hSw
      (try dsimp only at hSw)
      go_simp
      first | done | with_reducible rfl
    try simp only [Act.put, List.getElem_toArray, List.getElem_cons_succ, List.getElem_cons_zero, List.setIfInBounds_toArray, List.set_cons_zero, List.set_cons_succ]
    refine wpAnyH_take (i := 17) (v := ?_) rfl (by kernel_rfl) (by kernel_rfl) (by kernel_rfl) (fun _ _ _ h => h) (Or.inl ⟨by rfl, ?_⟩) (by assumption) ?_
    rotate_left
    · intro wS hSw
      (try dsimp only at hSw)
      go_simp
      first | done | with_reducible rfl
    try simp only [Act.put, List.getElem_toArray, List.getElem_cons_succ, List.getElem_cons_zero, List.setIfInBounds_toArray, List.set_cons_zero, List.set_cons_succ]
    refine wpAnyH_take (i := 18) (v := undef) rfl (by kernel_rfl) (by kernel_rfl) (by kernel_rfl) (fun _ _ _ h => h) (Or.inr ⟨by rfl, rfl⟩) (by assumption) ?_
    try simp only [Act.put, List.getElem_toArray, List.getElem_cons_succ, List.getElem_cons_zero, List.setIfInBounds_toArray, List.set_cons_zero, List.set_cons_succ]
    refine wpAnyH_take (i := 19) (v := undef) rfl (by kernel_rfl) (by kernel_rfl) (by kernel_rfl) (fun _ _ _ h => h) (Or.inr ⟨by rfl, rfl⟩) (by assumption) ?_
    try simp only [Act.put, List.getElem_toArray, List.getElem_cons_succ, List.getElem_cons_zero, List.setIfInBounds_toArray, List.set_cons_zero, List.set_cons_succ]
    refine wpAnyH_take (i := 20) (v := undef) rfl (by kernel_rfl) (by kernel_rfl) (by kernel_rfl) (fun _ _ _ h => h) (Or.inr ⟨by rfl, rfl⟩) (by assumption) ?_
    try simp only [Act.put, List.getElem_toArray, List.getElem_cons_succ, List.getElem_cons_zero, List.setIfInBounds_toArray, List.set_cons_zero, List.set_cons_succ]
    refine wpAnyH_take (i := 21) (v := undef) rfl (by kernel_rfl) (by kernel_rfl) (by kernel_rfl) (fun _ _ _ h => h) (Or.inr ⟨by rfl, rfl⟩) (by assumption) ?_
    try simp only [Act.put, List.getElem_toArray, List.getElem_cons_succ, List.getElem_cons_zero, List.setIfInBounds_toArray, List.set_cons_zero, List.set_cons_succ]
    refine wpAnyH_take (i := 22) (v := undef) rfl (by kernel_rfl) (by kernel_rfl) (by kernel_rfl) (fun _ _ _ h => h) (Or.inr ⟨by rfl, rfl⟩) (by assumption) ?_
    try simp only [Act.put, List.getElem_toArray, List.getElem_cons_succ, List.getElem_cons_zero, List.setIfInBounds_toArray, List.set_cons_zero, List.set_cons_succ]
    refine wpAnyH_take (i := 23) (v := undef) rfl (by kernel_rfl) (by kernel_rfl) (by kernel_rfl) (fun _ _ _ h => h) (Or.inr ⟨by rfl, rfl⟩) (by assumption) ?_
    try simp only [Act.put, List.getElem_toArray, List.getElem_cons_succ, List.getElem_cons_zero, List.setIfInBounds_toArray, List.set_cons_zero, List.set_cons_succ]
    refine wpAnyH_take (i := 24) (v := undef) rfl (by kernel_rfl) (by kernel_rfl) (by kernel_rfl) (fun _ _ _ h => h) (Or.inr ⟨by rfl, rfl⟩) (by assumption) ?_
    try simp only [Act.put, List.getElem_toArray, List.getElem_cons_succ, List.getElem_cons_zero, List.setIfInBounds_toArray, List.set_cons_zero, List.set_cons_succ]
    refine wpAnyH_take (i := 25) (v := undef) rfl (by kernel_rfl) (by kernel_rfl) (by kernel_rfl) (fun _ _ _ h => h) (Or.inr ⟨by rfl, rfl⟩) (by assumption) ?_
    try simp only [Act.put, List.getElem_toArray, List.getElem_cons_succ, List.getElem_cons_zero, List.setIfInBounds_toArray, List.set_cons_zero, List.set_cons_succ]
    refine wpAnyH_take (i := 26) (v := ?_) rfl (by kernel_rfl) (by kernel_rfl) (by kernel_rfl) (fun _ _ _ h => h) (Or.inl ⟨by rfl, ?_⟩) (by assumption) ?_
    rotate_left
    · intro wS hSw
      (try dsimp only at hSw)
      go_simp
      first | done | with_reducible rfl
    try simp only [Act.put, List.getElem_toArray, List.getElem_cons_succ, List.getElem_cons_zero, List.setIfInBounds_toArray, List.set_cons_zero, List.set_cons_succ]
    refine wpAnyH_done (by kernel_rfl) ?_ _
    go_wp2_with fail
    go_ret
    exact ⟨congrArg (fun b : Bool => Ending.returned (.bool b)) HR.out, bdrew HB1.out.1⟩
  · cases b2
    · refine wp_region_held_drew (S := (fun W => Below w1.heap.size w1 W)) (by kernel_rfl) ?_ (fun r0 => ?_)
      · exact ⟨rfl, rfl, rfl, Nat.le_refl _, fun _ _ => rfl⟩
      refine wpAnyH_take (i := 0) (v := ?_) rfl (by kernel_rfl) (by kernel_rfl) (by kernel_rfl) (fun _ _ _ h => h) (Or.inl ⟨by rfl, ?_⟩) (by assumption) ?_
      rotate_left
      · intro wS hSw
        (try dsimp only at hSw)
        have c0 := bcell hSw c0
        have c1 := bcell hSw c1
        have e0 := bcell hSw e0
        have e1 := bcell hSw e1
        have e2 := bcell hSw e2
        have e3 := bcell hSw e3
        go_simp
        first | done | with_reducible rfl
      try simp only [Act.put, List.getElem_toArray, List.getElem_cons_zero, List.setIfInBounds_toArray, List.set_cons_zero, List.set_cons_succ]
      refine wpAnyH_take (i := 1) (v := ?_) rfl (by kernel_rfl) (by kernel_rfl) (by kernel_rfl) (fun _ _ _ h => h) (Or.inl ⟨by rfl, ?_⟩) (by assumption) ?_
      rotate_left
      · intro wS hSw
        (try dsimp only at hSw)
        have c0 := bcell hSw c0
        have c1 := bcell hSw c1
        have e0 := bcell hSw e0
        have e1 := bcell hSw e1
        have e2 := bcell hSw e2
        have e3 := bcell hSw e3
        go_simp
        first | done | with_reducible rfl
      try simp only [Act.put, List.getElem_toArray, List.getElem_cons_succ, List.getElem_cons_zero, List.setIfInBounds_toArray, List.set_cons_zero, List.set_cons_succ]
      refine wpAnyH_ready (rs := [2]) (by kernel_rfl) (by simp) ?_
      refine AllReadyH.cons rfl (fun K hK => ?_) AllReadyH.nil
      go_simp
      refine (HK.out _).mono ?_; rintro x wx ⟨rfl, rfl⟩
      refine hK.out _ _ ?_ (fun r1 => ?_)
      · exact r0
      try simp only [Act.put, List.getElem_toArray, List.getElem_cons_succ, List.getElem_cons_zero, List.setIfInBounds_toArray, List.set_cons_zero, List.set_cons_succ]
      refine wpAnyH_take (i := 3) (v := ?_) rfl (by kernel_rfl) (by kernel_rfl) (by kernel_rfl) (fun _ _ _ h => h) (Or.inl ⟨by rfl, ?_⟩) (by assumption) ?_
      rotate_left
      · intro wS hSw
        (try dsimp only at hSw)
        go_simp
        first | done | with_reducible rfl
      try simp only [Act.put, List.getElem_toArray, List.getElem_cons_succ, List.getElem_cons_zero, List.setIfInBounds_toArray, List.set_cons_zero, List.set_cons_succ]
      refine wpAnyH_take (i := 4) (v := ?_) rfl (by kernel_rfl) (by kernel_rfl) (by kernel_rfl) (fun _ _ _ h => h) (Or.inl ⟨by rfl, ?_⟩) (by assumption) ?_
      rotate_left
      · intro wS hSw
        (try dsimp only at hSw)
        go_simp
        first | done | with_reducible rfl
      try simp only [Act.put, List.getElem_toArray, List.getElem_cons_succ, List.getElem_cons_zero, List.setIfInBounds_toArray, List.set_cons_zero, List.set_cons_succ]
      refine wpAnyH_take (i := 5) (v := ?_) rfl (by kernel_rfl) (by kernel_rfl) (by kernel_rfl) (fun _ _ _ h => h) (Or.inl ⟨by rfl, ?_⟩) (by assumption) ?_
      rotate_left
      · intro wS hSw
        (try dsimp only at hSw)
        have c0 := bcell hSw c0
        have c1 := bcell hSw c1
        have e0 := bcell hSw e0
        have e1 := bcell hSw e1
        have e2 := bcell hSw e2
        have e3 := bcell hSw e3
        go_simp
        first | done | with_reducible rfl
      try simp only [Act.put, List.getElem_toArray, List.getElem_cons_succ, List.getElem_cons_zero, List.setIfInBounds_toArray, List.set_cons_zero, List.set_cons_succ]
      refine wpAnyH_take (i := 6) (v := ?_) rfl (by kernel_rfl) (by kernel_rfl) (by kernel_rfl) (fun _ _ _ h => h) (Or.inl ⟨by rfl, ?_⟩) (by assumption) ?_
      rotate_left
      · intro wS hSw
        (try dsimp only at hSw)
        have c0 := bcell hSw c0
        have c1 := bcell hSw c1
        have e0 := bcell hSw e0
        have e1 := bcell hSw e1
        have e2 := bcell hSw e2
        have e3 := bcell hSw e3
        go_simp
        first | done | with_reducible rfl
      try simp only [Act.put, List.getElem_toArray, List.getElem_cons_succ, List.getElem_cons_zero, List.setIfInBounds_toArray, List.set_cons_zero, List.set_cons_succ]
      refine wpAnyH_ready (rs := [7]) (by kernel_rfl) (by simp) ?_
      refine AllReadyH.cons rfl (fun K hK => ?_) AllReadyH.nil
      go_simp
      refine (HV.out _).mono ?_; rintro x wx ⟨rfl, rfl⟩
      refine hK.out _ _ ?_ (fun r2 => ?_)
      · exact r1
      try simp only [Act.put, List.getElem_toArray, List.getElem_cons_succ, List.getElem_cons_zero, List.setIfInBounds_toArray, List.set_cons_zero, List.set_cons_succ]
      refine wpAnyH_take (i := 8) (v := ?_) rfl (by kernel_rfl) (by kernel_rfl) (by kernel_rfl) (fun _ _ _ h => h) (Or.inl ⟨by rfl, ?_⟩) (by assumption) ?_
      rotate_left
      · intro wS hSw
        (try dsimp only at hSw)
        go_simp
        first | done | with_reducible rfl
      try simp only [Act.put, List.getElem_toArray, List.getElem_cons_succ, List.getElem_cons_zero, List.setIfInBounds_toArray, List.set_cons_zero, List.set_cons_succ]
      refine wpAnyH_take (i := 9) (v := ?_) rfl (by kernel_rfl) (by kernel_rfl) (by kernel_rfl) (fun _ _ _ h => h) (Or.inl ⟨by rfl, ?_⟩) (by assumption) ?_
      rotate_left
      · intro wS hSw
        (try dsimp only at hSw)
        go_simp
        first | done | with_reducible rfl
      try simp only [Act.put, List.getElem_toArray, List.getElem_cons_succ, List.getElem_cons_zero, List.setIfInBounds_toArray, List.set_cons_zero, List.set_cons_succ]
      refine wpAnyH_take (i := 10) (v := ?_) rfl (by kernel_rfl) (by kernel_rfl) (by kernel_rfl) (fun _ _ _ h => h) (Or.inl ⟨by rfl, ?_⟩) (by assumption) ?_
      rotate_left
      · intro wS hSw
        (try dsimp only at hSw)
        go_simp
        first | done | with_reducible rfl
      try simp only [Act.put, List.getElem_toArray, List.getElem_cons_succ, List.getElem_cons_zero, List.setIfInBounds_toArray, List.set_cons_zero, List.set_cons_succ]
      refine wpAnyH_take (i := 11) (v := undef) rfl (by kernel_rfl) (by kernel_rfl) (by kernel_rfl) (fun _ _ _ h => h) (Or.inr ⟨by rfl, rfl⟩) (by assumption) ?_
      try simp only [Act.put, List.getElem_toArray, List.getElem_cons_succ, List.getElem_cons_zero, List.setIfInBounds_toArray, List.set_cons_zero, List.set_cons_succ]
      refine wpAnyH_take (i := 12) (v := undef) rfl (by kernel_rfl) (by kernel_rfl) (by kernel_rfl) (fun _ _ _ h => h) (Or.inr ⟨by rfl, rfl⟩) (by assumption) ?_
      try simp only [Act.put, List.getElem_toArray, List.getElem_cons_succ, List.getElem_cons_zero, List.setIfInBounds_toArray, List.set_cons_zero, List.set_cons_succ]
      refine wpAnyH_take (i := 13) (v := undef) rfl (by kernel_rfl) (by kernel_rfl) (by kernel_rfl) (fun _ _ _ h => h) (Or.inr ⟨by rfl, rfl⟩) (by assumption) ?_
      try simp only [Act.put, List.getElem_toArray, List.getElem_cons_succ, List.getElem_cons_zero, List.setIfInBounds_toArray, List.set_cons_zero, List.set_cons_succ]
      refine wpAnyH_take (i := 14) (v := undef) rfl (by kernel_rfl) (by kernel_rfl) (by kernel_rfl) (fun _ _ _ h => h) (Or.inr ⟨by rfl, rfl⟩) (by assumption) ?_
      try simp only [Act.put, List.getElem_toArray, List.getElem_cons_succ, List.getElem_cons_zero, List.setIfInBounds_toArray, List.set_cons_zero, List.set_cons_succ]
      refine wpAnyH_take (i := 15) (v := undef) rfl (by kernel_rfl) (by kernel_rfl) (by kernel_rfl) (fun _ _ _ h => h) (Or.inr ⟨by rfl, rfl⟩) (by assumption) ?_
      try simp only [Act.put, List.getElem_toArray, List.getElem_cons_succ, List.getElem_cons_zero, List.setIfInBounds_toArray, List.set_cons_zero, List.set_cons_succ]
      refine wpAnyH_take (i := 16) (v := ?_) rfl (by kernel_rfl) (by kernel_rfl) (by kernel_rfl) (fun _ _ _ h => h) (Or.inl ⟨by rfl, ?_⟩) (by assumption) ?_
      rotate_left
      · intro wS hSw
        (try dsimp only at hSw)
        go_simp
        first | done | with_reducible rfl
      try simp only [Act.put, List.getElem_toArray, List.getElem_cons_succ, List.getElem_cons_zero, List.setIfInBounds_toArray, List.set_cons_zero, List.set_cons_succ]
      refine wpAnyH_take (i := 17) (v := ?_) rfl (by kernel_rfl) (by kernel_rfl) (by kernel_rfl) (fun _ _ _ h => h) (Or.inl ⟨by rfl, ?_⟩) (by assumption) ?_
      rotate_left
      · intro wS hSw
        (try dsimp only at hSw)
        go_simp
        first | done | with_reducible rfl
      try simp only [Act.put, List.getElem_toArray, List.getElem_cons_succ, List.getElem_cons_zero, List.setIfInBounds_toArray, List.set_cons_zero, List.set_cons_succ]
      refine wpAnyH_take (i := 18) (v := undef) rfl (by kernel_rfl) (by kernel_rfl) (by kernel_rfl) (fun _ _ _ h => h) (Or.inr ⟨by rfl, rfl⟩) (by assumption) ?_
      try simp only [Act.put, List.getElem_toArray, List.getElem_cons_succ, List.getElem_cons_zero, List.setIfInBounds_toArray, List.set_cons_zero, List.set_cons_succ]
      refine wpAnyH_take (i := 19) (v := undef) rfl (by kernel_rfl) (by kernel_rfl) (by kernel_rfl) (fun _ _ _ h => h) (Or.inr ⟨by rfl, rfl⟩) (by assumption) ?_
      try simp only [Act.put, List.getElem_toArray, List.getElem_cons_succ, List.getElem_cons_zero, List.setIfInBounds_toArray, List.set_cons_zero, List.set_cons_succ]
      refine wpAnyH_take (i := 20) (v := undef) rfl (by kernel_rfl) (by kernel_rfl) (by kernel_rfl) (fun _ _ _ h => h) (Or.inr ⟨by rfl, rfl⟩) (by assumption) ?_
      try simp only [Act.put, List.getElem_toArray, List.getElem_cons_succ, List.getElem_cons_zero, List.setIfInBounds_toArray, List.set_cons_zero, List.set_cons_succ]
      refine wpAnyH_take (i := 21) (v := undef) rfl (by kernel_rfl) (by kernel_rfl) (by kernel_rfl) (fun _ _ _ h => h) (Or.inr ⟨by rfl, rfl⟩) (by assumption) ?_
      try simp only [Act.put, List.getElem_toArray, List.getElem_cons_succ, List.getElem_cons_zero, List.setIfInBounds_toArray, List.set_cons_zero, List.set_cons_succ]
      refine wpAnyH_take (i := 22) (v := undef) rfl (by kernel_rfl) (by kernel_rfl) (by kernel_rfl) (fun _ _ _ h => h) (Or.inr ⟨by rfl, rfl⟩) (by assumption) ?_
      try simp only [Act.put, List.getElem_toArray, List.getElem_cons_succ, List.getElem_cons_zero, List.setIfInBounds_toArray, List.set_cons_zero, List.set_cons_succ]
      refine wpAnyH_take (i := 23) (v := undef) rfl (by kernel_rfl) (by kernel_rfl) (by kernel_rfl) (fun _ _ _ h => h) (Or.inr ⟨by rfl, rfl⟩) (by assumption) ?_
      try simp only [Act.put, List.getElem_toArray, List.getElem_cons_succ, List.getElem_cons_zero, List.setIfInBounds_toArray, List.set_cons_zero, List.set_cons_succ]
      refine wpAnyH_take (i := 24) (v := undef) rfl (by kernel_rfl) (by kernel_rfl) (by kernel_rfl) (fun _ _ _ h => h) (Or.inr ⟨by rfl, rfl⟩) (by assumption) ?_
      try simp only [Act.put, List.getElem_toArray, List.getElem_cons_succ, List.getElem_cons_zero, List.setIfInBounds_toArray, List.set_cons_zero, List.set_cons_succ]
      refine wpAnyH_take (i := 25) (v := undef) rfl (by kernel_rfl) (by kernel_rfl) (by kernel_rfl) (fun _ _ _ h => h) (Or.inr ⟨by rfl, rfl⟩) (by assumption) ?_
      try simp only [Act.put, List.getElem_toArray, List.getElem_cons_succ, List.getElem_cons_zero, List.setIfInBounds_toArray, List.set_cons_zero, List.set_cons_succ]
      refine wpAnyH_take (i := 26) (v := ?_) rfl (by kernel_rfl) (by kernel_rfl) (by kernel_rfl) (fun _ _ _ h => h) (Or.inl ⟨by rfl, ?_⟩) (by assumption) ?_
      rotate_left
      · intro wS hSw
        (try dsimp only at hSw)
        go_simp
        first | done | with_reducible rfl
      try simp only [Act.put, List.getElem_toArray, List.getElem_cons_succ, List.getElem_cons_zero, List.setIfInBounds_toArray, List.set_cons_zero, List.set_cons_succ]
      refine wpAnyH_done (by kernel_rfl) ?_ _
      go_wp2_with fail
      go_ret
      exact ⟨congrArg (fun b : Bool => Ending.returned (.bool b)) HR.out, bdrew HB1.out.1⟩
    · cases hx : (S.rev == 9223372036854775807) <;> rw [hx] at HR
      · have hmx : S.rev < 9223372036854775807 := by
          have : ¬ S.rev = 9223372036854775807 := by simpa using hx
          omega
        have s1 : IntKind.i64.wrap (S.rev + 1) = S.rev + 1 := IntWalk.i64_in _ (by omega)
        clear hmx
        cases he : (e.rev == S.rev + 1) <;> rw [he] at HR <;> have he2 := bne_of he
        · refine wp_region_held_drew (S := (fun W => Below w1.heap.size w1 W)) (by kernel_rfl) ?_ (fun r0 => ?_)
          · exact ⟨rfl, rfl, rfl, Nat.le_refl _, fun _ _ => rfl⟩
          refine wpAnyH_take (i := 0) (v := ?_) rfl (by kernel_rfl) (by kernel_rfl) (by kernel_rfl) (fun _ _ _ h => h) (Or.inl ⟨by rfl, ?_⟩) (by assumption) ?_
          rotate_left
          · intro wS hSw
            (try dsimp only at hSw)
            have c0 := bcell hSw c0
            have c1 := bcell hSw c1
            have e0 := bcell hSw e0
            have e1 := bcell hSw e1
            have e2 := bcell hSw e2
            have e3 := bcell hSw e3
            go_simp
            first | done | with_reducible rfl
          try simp only [Act.put, List.getElem_toArray, List.getElem_cons_zero, List.setIfInBounds_toArray, List.set_cons_zero, List.set_cons_succ]
          refine wpAnyH_take (i := 1) (v := ?_) rfl (by kernel_rfl) (by kernel_rfl) (by kernel_rfl) (fun _ _ _ h => h) (Or.inl ⟨by rfl, ?_⟩) (by assumption) ?_
          rotate_left
          · intro wS hSw
            (try dsimp only at hSw)
            have c0 := bcell hSw c0
            have c1 := bcell hSw c1
            have e0 := bcell hSw e0
            have e1 := bcell hSw e1
            have e2 := bcell hSw e2
            have e3 := bcell hSw e3
            go_simp
            first | done | with_reducible rfl
          try simp only [Act.put, List.getElem_toArray, List.getElem_cons_succ, List.getElem_cons_zero, List.setIfInBounds_toArray, List.set_cons_zero, List.set_cons_succ]
          refine wpAnyH_ready (rs := [2]) (by kernel_rfl) (by simp) ?_
          refine AllReadyH.cons rfl (fun K hK => ?_) AllReadyH.nil
          go_simp
          refine (HK.out _).mono ?_; rintro x wx ⟨rfl, rfl⟩
          refine hK.out _ _ ?_ (fun r1 => ?_)
          · exact r0
          try simp only [Act.put, List.getElem_toArray, List.getElem_cons_succ, List.getElem_cons_zero, List.setIfInBounds_toArray, List.set_cons_zero, List.set_cons_succ]
          refine wpAnyH_take (i := 3) (v := ?_) rfl (by kernel_rfl) (by kernel_rfl) (by kernel_rfl) (fun _ _ _ h => h) (Or.inl ⟨by rfl, ?_⟩) (by assumption) ?_
          rotate_left
          · intro wS hSw
            (try dsimp only at hSw)
            go_simp
            first | done | with_reducible rfl
          try simp only [Act.put, List.getElem_toArray, List.getElem_cons_succ, List.getElem_cons_zero, List.setIfInBounds_toArray, List.set_cons_zero, List.set_cons_succ]
          refine wpAnyH_take (i := 4) (v := ?_) rfl (by kernel_rfl) (by kernel_rfl) (by kernel_rfl) (fun _ _ _ h => h) (Or.inl ⟨by rfl, ?_⟩) (by assumption) ?_
          rotate_left
          · intro wS hSw
            (try dsimp only at hSw)
            go_simp
            first | done | with_reducible rfl
          try simp only [Act.put, List.getElem_toArray, List.getElem_cons_succ, List.getElem_cons_zero, List.setIfInBounds_toArray, List.set_cons_zero, List.set_cons_succ]
          refine wpAnyH_take (i := 5) (v := ?_) rfl (by kernel_rfl) (by kernel_rfl) (by kernel_rfl) (fun _ _ _ h => h) (Or.inl ⟨by rfl, ?_⟩) (by assumption) ?_
          rotate_left
          · intro wS hSw
            (try dsimp only at hSw)
            have c0 := bcell hSw c0
            have c1 := bcell hSw c1
            have e0 := bcell hSw e0
            have e1 := bcell hSw e1
            have e2 := bcell hSw e2
            have e3 := bcell hSw e3
            go_simp
            first | done | with_reducible rfl
          try simp only [Act.put, List.getElem_toArray, List.getElem_cons_succ, List.getElem_cons_zero, List.setIfInBounds_toArray, List.set_cons_zero, List.set_cons_succ]
          refine wpAnyH_take (i := 6) (v := ?_) rfl (by kernel_rfl) (by kernel_rfl) (by kernel_rfl) (fun _ _ _ h => h) (Or.inl ⟨by rfl, ?_⟩) (by assumption) ?_
          rotate_left
          · intro wS hSw
            (try dsimp only at hSw)
            have c0 := bcell hSw c0
            have c1 := bcell hSw c1
            have e0 := bcell hSw e0
            have e1 := bcell hSw e1
            have e2 := bcell hSw e2
            have e3 := bcell hSw e3
            go_simp
            first | done | with_reducible rfl
          try simp only [Act.put, List.getElem_toArray, List.getElem_cons_succ, List.getElem_cons_zero, List.setIfInBounds_toArray, List.set_cons_zero, List.set_cons_succ]
          refine wpAnyH_ready (rs := [7]) (by kernel_rfl) (by simp) ?_
          refine AllReadyH.cons rfl (fun K hK => ?_) AllReadyH.nil
          go_simp
          refine (HV.out _).mono ?_; rintro x wx ⟨rfl, rfl⟩
          refine hK.out _ _ ?_ (fun r2 => ?_)
          · exact r1
          try simp only [Act.put, List.getElem_toArray, List.getElem_cons_succ, List.getElem_cons_zero, List.setIfInBounds_toArray, List.set_cons_zero, List.set_cons_succ]
          refine wpAnyH_take (i := 8) (v := ?_) rfl (by kernel_rfl) (by kernel_rfl) (by kernel_rfl) (fun _ _ _ h => h) (Or.inl ⟨by rfl, ?_⟩) (by assumption) ?_
          rotate_left
          · intro wS hSw
            (try dsimp only at hSw)
            go_simp
            first | done | with_reducible rfl
          try simp only [Act.put, List.getElem_toArray, List.getElem_cons_succ, List.getElem_cons_zero, List.setIfInBounds_toArray, List.set_cons_zero, List.set_cons_succ]
          refine wpAnyH_take (i := 9) (v := ?_) rfl (by kernel_rfl) (by kernel_rfl) (by kernel_rfl) (fun _ _ _ h => h) (Or.inl ⟨by rfl, ?_⟩) (by assumption) ?_
          rotate_left
          · intro wS hSw
            (try dsimp only at hSw)
            go_simp
            first | done | with_reducible rfl
          try simp only [Act.put, List.getElem_toArray, List.getElem_cons_succ, List.getElem_cons_zero, List.setIfInBounds_toArray, List.set_cons_zero, List.set_cons_succ]
          refine wpAnyH_take (i := 10) (v := ?_) rfl (by kernel_rfl) (by kernel_rfl) (by kernel_rfl) (fun _ _ _ h => h) (Or.inl ⟨by rfl, ?_⟩) (by assumption) ?_
          rotate_left
          · intro wS hSw
            (try dsimp only at hSw)
            go_simp
            first | done | with_reducible rfl
          try simp only [Act.put, List.getElem_toArray, List.getElem_cons_succ, List.getElem_cons_zero, List.setIfInBounds_toArray, List.set_cons_zero, List.set_cons_succ]
          refine wpAnyH_take (i := 11) (v := ?_) rfl (by kernel_rfl) (by kernel_rfl) (by kernel_rfl) (fun _ _ _ h => h) (Or.inl ⟨by rfl, ?_⟩) (by assumption) ?_
          rotate_left
          · intro wS hSw
            (try dsimp only at hSw)
            have c0 := bcell hSw c0
            have c1 := bcell hSw c1
            have e0 := bcell hSw e0
            have e1 := bcell hSw e1
            have e2 := bcell hSw e2
            have e3 := bcell hSw e3
            go_simp
            first | done | with_reducible rfl
          try simp only [Act.put, List.getElem_toArray, List.getElem_cons_succ, List.getElem_cons_zero, List.setIfInBounds_toArray, List.set_cons_zero, List.set_cons_succ]
          refine wpAnyH_take (i := 12) (v := ?_) rfl (by kernel_rfl) (by kernel_rfl) (by kernel_rfl) (fun _ _ _ h => h) (Or.inl ⟨by rfl, ?_⟩) (by assumption) ?_
          rotate_left
          · intro wS hSw
            (try dsimp only at hSw)
            have c0 := bcell hSw c0
            have c1 := bcell hSw c1
            have e0 := bcell hSw e0
            have e1 := bcell hSw e1
            have e2 := bcell hSw e2
            have e3 := bcell hSw e3
            go_simp
            first | done | with_reducible rfl
          try simp only [Act.put, List.getElem_toArray, List.getElem_cons_succ, List.getElem_cons_zero, List.setIfInBounds_toArray, List.set_cons_zero, List.set_cons_succ]
          refine wpAnyH_take (i := 13) (v := ?_) rfl (by kernel_rfl) (by kernel_rfl) (by kernel_rfl) (fun _ _ _ h => h) (Or.inl ⟨by rfl, ?_⟩) (by assumption) ?_
          rotate_left
          · intro wS hSw
            (try dsimp only at hSw)
            have c0 := bcell hSw c0
            have c1 := bcell hSw c1
            have e0 := bcell hSw e0
            have e1 := bcell hSw e1
            have e2 := bcell hSw e2
            have e3 := bcell hSw e3
            go_simp
            first | done | with_reducible rfl
          try simp only [Act.put, List.getElem_toArray, List.getElem_cons_succ, List.getElem_cons_zero, List.setIfInBounds_toArray, List.set_cons_zero, List.set_cons_succ]
          refine wpAnyH_take (i := 14) (v := ?_) rfl (by kernel_rfl) (by kernel_rfl) (by kernel_rfl) (fun _ _ _ h => h) (Or.inl ⟨by rfl, ?_⟩) (by assumption) ?_
          rotate_left
          · intro wS hSw
            (try dsimp only at hSw)
            have c0 := bcell hSw c0
            have c1 := bcell hSw c1
            have e0 := bcell hSw e0
            have e1 := bcell hSw e1
            have e2 := bcell hSw e2
            have e3 := bcell hSw e3
            go_simp
            first | done | with_reducible rfl
          try simp only [Act.put, List.getElem_toArray, List.getElem_cons_succ, List.getElem_cons_zero, List.setIfInBounds_toArray, List.set_cons_zero, List.set_cons_succ]
          refine wpAnyH_take (i := 15) (v := ?_) rfl (by kernel_rfl) (by kernel_rfl) (by kernel_rfl) (fun _ _ _ h => h) (Or.inl ⟨by rfl, ?_⟩) (by assumption) ?_
          rotate_left
          · intro wS hSw
            (try dsimp only at hSw)
            have c0 := bcell hSw c0
            have c1 := bcell hSw c1
            have e0 := bcell hSw e0
            have e1 := bcell hSw e1
            have e2 := bcell hSw e2
            have e3 := bcell hSw e3
            go_simp
            first | done | with_reducible rfl
          try simp only [Act.put, List.getElem_toArray, List.getElem_cons_succ, List.getElem_cons_zero, List.setIfInBounds_toArray, List.set_cons_zero, List.set_cons_succ]
          refine wpAnyH_take (i := 16) (v := ?_) rfl (by kernel_rfl) (by kernel_rfl) (by kernel_rfl) (fun _ _ _ h => h) (Or.inl ⟨by rfl, ?_⟩) (by assumption) ?_
          rotate_left
          · intro wS hSw
            (try dsimp only at hSw)
            have c0 := bcell hSw c0
            have c1 := bcell hSw c1
            have e0 := bcell hSw e0
            have e1 := bcell hSw e1
            have e2 := bcell hSw e2
            have e3 := bcell hSw e3
            go_simp
            first | done | with_reducible rfl
          try simp only [Act.put, List.getElem_toArray, List.getElem_cons_succ, List.getElem_cons_zero, List.setIfInBounds_toArray, List.set_cons_zero, List.set_cons_succ]
          refine wpAnyH_take (i := 17) (v := ?_) rfl (by kernel_rfl) (by kernel_rfl) (by kernel_rfl) (fun _ _ _ h => h) (Or.inl ⟨by rfl, ?_⟩) (by assumption) ?_
          rotate_left
          · intro wS hSw
            (try dsimp only at hSw)
            have c0 := bcell hSw c0
            have c1 := bcell hSw c1
            have e0 := bcell hSw e0
            have e1 := bcell hSw e1
            have e2 := bcell hSw e2
            have e3 := bcell hSw e3
            go_simp
            first | done | with_reducible rfl
          try simp only [Act.put, List.getElem_toArray, List.getElem_cons_succ, List.getElem_cons_zero, List.setIfInBounds_toArray, List.set_cons_zero, List.set_cons_succ]
          refine wpAnyH_take (i := 18) (v := ?_) rfl (by kernel_rfl) (by kernel_rfl) (by kernel_rfl) (fun _ _ _ h => h) (Or.inl ⟨by rfl, ?_⟩) (by assumption) ?_
          rotate_left
          · intro wS hSw
            (try dsimp only at hSw)
            have c0 := bcell hSw c0
            have c1 := bcell hSw c1
            have e0 := bcell hSw e0
            have e1 := bcell hSw e1
            have e2 := bcell hSw e2
            have e3 := bcell hSw e3
            go_simp
            first | done | with_reducible rfl
          try simp only [Act.put, List.getElem_toArray, List.getElem_cons_succ, List.getElem_cons_zero, List.setIfInBounds_toArray, List.set_cons_zero, List.set_cons_succ]
          refine wpAnyH_take (i := 19) (v := ?_) rfl (by kernel_rfl) (by kernel_rfl) (by kernel_rfl) (fun _ _ _ h => h) (Or.inl ⟨by rfl, ?_⟩) (by assumption) ?_
          rotate_left
          · intro wS hSw
            (try dsimp only at hSw)
            have c0 := bcell hSw c0
            have c1 := bcell hSw c1
            have e0 := bcell hSw e0
            have e1 := bcell hSw e1
            have e2 := bcell hSw e2
            have e3 := bcell hSw e3
            go_simp
            first | done | with_reducible rfl
          try simp only [Act.put, List.getElem_toArray, List.getElem_cons_succ, List.getElem_cons_zero, List.setIfInBounds_toArray, List.set_cons_zero, List.set_cons_succ]
          refine wpAnyH_take (i := 20) (v := ?_) rfl (by kernel_rfl) (by kernel_rfl) (by kernel_rfl) (fun _ _ _ h => h) (Or.inl ⟨by rfl, ?_⟩) (by assumption) ?_
          rotate_left
          · intro wS hSw
            (try dsimp only at hSw)
            have c0 := bcell hSw c0
            have c1 := bcell hSw c1
            have e0 := bcell hSw e0
            have e1 := bcell hSw e1
            have e2 := bcell hSw e2
            have e3 := bcell hSw e3
            go_simp
            first | done | with_reducible rfl
          try simp only [Act.put, List.getElem_toArray, List.getElem_cons_succ, List.getElem_cons_zero, List.setIfInBounds_toArray, List.set_cons_zero, List.set_cons_succ]
          refine wpAnyH_take (i := 21) (v := ?_) rfl (by kernel_rfl) (by kernel_rfl) (by kernel_rfl) (fun _ _ _ h => h) (Or.inl ⟨by rfl, ?_⟩) (by assumption) ?_
          rotate_left
          · intro wS hSw
            (try dsimp only at hSw)
            have c0 := bcell hSw c0
            have c1 := bcell hSw c1
            have e0 := bcell hSw e0
            have e1 := bcell hSw e1
            have e2 := bcell hSw e2
            have e3 := bcell hSw e3
            go_simp
            first | done | with_reducible rfl
          try simp only [Act.put, List.getElem_toArray, List.getElem_cons_succ, List.getElem_cons_zero, List.setIfInBounds_toArray, List.set_cons_zero, List.set_cons_succ]
          refine wpAnyH_take (i := 22) (v := ?_) rfl (by kernel_rfl) (by kernel_rfl) (by kernel_rfl) (fun _ _ _ h => h) (Or.inl ⟨by rfl, ?_⟩) (by assumption) ?_
          rotate_left
          · intro wS hSw
            (try dsimp only at hSw)
            have c0 := bcell hSw c0
            have c1 := bcell hSw c1
            have e0 := bcell hSw e0
            have e1 := bcell hSw e1
            have e2 := bcell hSw e2
            have e3 := bcell hSw e3
            go_simp
            first | done | with_reducible rfl
          try simp only [Act.put, List.getElem_toArray, List.getElem_cons_succ, List.getElem_cons_zero, List.setIfInBounds_toArray, List.set_cons_zero, List.set_cons_succ]
          refine wpAnyH_take (i := 23) (v := ?_) rfl (by kernel_rfl) (by kernel_rfl) (by kernel_rfl) (fun _ _ _ h => h) (Or.inl ⟨by rfl, ?_⟩) (by assumption) ?_
          rotate_left
          · intro wS hSw
            (try dsimp only at hSw)
            have c0 := bcell hSw c0
            have c1 := bcell hSw c1
            have e0 := bcell hSw e0
            have e1 := bcell hSw e1
            have e2 := bcell hSw e2
            have e3 := bcell hSw e3
            go_simp
            first | done | with_reducible rfl
          try simp only [Act.put, List.getElem_toArray, List.getElem_cons_succ, List.getElem_cons_zero, List.setIfInBounds_toArray, List.set_cons_zero, List.set_cons_succ]
          refine wpAnyH_take (i := 24) (v := ?_) rfl (by kernel_rfl) (by kernel_rfl) (by kernel_rfl) (fun _ _ _ h => h) (Or.inl ⟨by rfl, ?_⟩) (by assumption) ?_
          rotate_left
          · intro wS hSw
            (try dsimp only at hSw)
            have c0 := bcell hSw c0
            have c1 := bcell hSw c1
            have e0 := bcell hSw e0
            have e1 := bcell hSw e1
            have e2 := bcell hSw e2
            have e3 := bcell hSw e3
            go_simp
            first | done | with_reducible rfl
          try simp only [Act.put, List.getElem_toArray, List.getElem_cons_succ, List.getElem_cons_zero, List.setIfInBounds_toArray, List.set_cons_zero, List.set_cons_succ]
          refine wpAnyH_take (i := 25) (v := ?_) rfl (by kernel_rfl) (by kernel_rfl) (by kernel_rfl) (fun _ _ _ h => h) (Or.inl ⟨by rfl, ?_⟩) (by assumption) ?_
          rotate_left
          · intro wS hSw
            (try dsimp only at hSw)
            have c0 := bcell hSw c0
            have c1 := bcell hSw c1
            have e0 := bcell hSw e0
            have e1 := bcell hSw e1
            have e2 := bcell hSw e2
            have e3 := bcell hSw e3
            go_simp
            first | done | with_reducible rfl
          try simp only [Act.put, List.getElem_toArray, List.getElem_cons_succ, List.getElem_cons_zero, List.setIfInBounds_toArray, List.set_cons_zero, List.set_cons_succ]
          refine wpAnyH_take (i := 26) (v := ?_) rfl (by kernel_rfl) (by kernel_rfl) (by kernel_rfl) (fun _ _ _ h => h) (Or.inl ⟨by rfl, ?_⟩) (by assumption) ?_
          rotate_left
          · intro wS hSw
            (try dsimp only at hSw)
            have c0 := bcell hSw c0
            have c1 := bcell hSw c1
            have e0 := bcell hSw e0
            have e1 := bcell hSw e1
            have e2 := bcell hSw e2
            have e3 := bcell hSw e3
            go_simp
            first | done | with_reducible rfl
          try simp only [Act.put, List.getElem_toArray, List.getElem_cons_succ, List.getElem_cons_zero, List.setIfInBounds_toArray, List.set_cons_zero, List.set_cons_succ]
          refine wpAnyH_done (by kernel_rfl) ?_ _
          go_wp2_with fail
          go_ret
          exact ⟨congrArg (fun b : Bool => Ending.returned (.bool b)) HR.out, bdrew HB1.out.1⟩
        · refine wp_region_held_drew (S := (fun W => Below w1.heap.size w1 W)) (by kernel_rfl) ?_ (fun r0 => ?_)
          · exact ⟨rfl, rfl, rfl, Nat.le_refl _, fun _ _ => rfl⟩
          refine wpAnyH_take (i := 0) (v := ?_) rfl (by kernel_rfl) (by kernel_rfl) (by kernel_rfl) (fun _ _ _ h => h) (Or.inl ⟨by rfl, ?_⟩) (by assumption) ?_
          rotate_left
          · intro wS hSw
            (try dsimp only at hSw)
            have c0 := bcell hSw c0
            have c1 := bcell hSw c1
            have e0 := bcell hSw e0
            have e1 := bcell hSw e1
            have e2 := bcell hSw e2
            have e3 := bcell hSw e3
            go_simp
            first | done | with_reducible rfl
          try simp only [Act.put, List.getElem_toArray, List.getElem_cons_zero, List.setIfInBounds_toArray, List.set_cons_zero, List.set_cons_succ]
          refine wpAnyH_take (i := 1) (v := ?_) rfl (by kernel_rfl) (by kernel_rfl) (by kernel_rfl) (fun _ _ _ h => h) (Or.inl ⟨by rfl, ?_⟩) (by assumption) ?_
          rotate_left
          · intro wS hSw
            (try dsimp only at hSw)
            have c0 := bcell hSw c0
            have c1 := bcell hSw c1
            have e0 := bcell hSw e0
            have e1 := bcell hSw e1
            have e2 := bcell hSw e2
            have e3 := bcell hSw e3
            go_simp
            first | done | with_reducible rfl
          try simp only [Act.put, List.getElem_toArray, List.getElem_cons_succ, List.getElem_cons_zero, List.setIfInBounds_toArray, List.set_cons_zero, List.set_cons_succ]
          refine wpAnyH_ready (rs := [2]) (by kernel_rfl) (by simp) ?_
          refine AllReadyH.cons rfl (fun K hK => ?_) AllReadyH.nil
          go_simp
          refine (HK.out _).mono ?_; rintro x wx ⟨rfl, rfl⟩
          refine hK.out _ _ ?_ (fun r1 => ?_)
          · exact r0
          try simp only [Act.put, List.getElem_toArray, List.getElem_cons_succ, List.getElem_cons_zero, List.setIfInBounds_toArray, List.set_cons_zero, List.set_cons_succ]
          refine wpAnyH_take (i := 3) (v := ?_) rfl (by kernel_rfl) (by kernel_rfl) (by kernel_rfl) (fun _ _ _ h => h) (Or.inl ⟨by rfl, ?_⟩) (by assumption) ?_
          rotate_left
          · intro wS hSw
            (try dsimp only at hSw)
            go_simp
            first | done | with_reducible rfl
          try simp only [Act.put, List.getElem_toArray, List.getElem_cons_succ, List.getElem_cons_zero, List.setIfInBounds_toArray, List.set_cons_zero, List.set_cons_succ]
          refine wpAnyH_take (i := 4) (v := ?_) rfl (by kernel_rfl) (by kernel_rfl) (by kernel_rfl) (fun _ _ _ h => h) (Or.inl ⟨by rfl, ?_⟩) (by assumption) ?_
          rotate_left
          · intro wS hSw
            (try dsimp only at hSw)
            go_simp
            first | done | with_reducible rfl
          try simp only [Act.put, List.getElem_toArray, List.getElem_cons_succ, List.getElem_cons_zero, List.setIfInBounds_toArray, List.set_cons_zero, List.set_cons_succ]
          refine wpAnyH_take (i := 5) (v := ?_) rfl (by kernel_rfl) (by kernel_rfl) (by kernel_rfl) (fun _ _ _ h => h) (Or.inl ⟨by rfl, ?_⟩) (by assumption) ?_
          rotate_left
          · intro wS hSw
            (try dsimp only at hSw)
            have c0 := bcell hSw c0
            have c1 := bcell hSw c1
            have e0 := bcell hSw e0
            have e1 := bcell hSw e1
            have e2 := bcell hSw e2
            have e3 := bcell hSw e3
            go_simp
            first | done | with_reducible rfl
          try simp only [Act.put, List.getElem_toArray, List.getElem_cons_succ, List.getElem_cons_zero, List.setIfInBounds_toArray, List.set_cons_zero, List.set_cons_succ]
          refine wpAnyH_take (i := 6) (v := ?_) rfl (by kernel_rfl) (by kernel_rfl) (by kernel_rfl) (fun _ _ _ h => h) (Or.inl ⟨by rfl, ?_⟩) (by assumption) ?_
          rotate_left
          · intro wS hSw
            (try dsimp only at hSw)
            have c0 := bcell hSw c0
            have c1 := bcell hSw c1
            have e0 := bcell hSw e0
            have e1 := bcell hSw e1
            have e2 := bcell hSw e2
            have e3 := bcell hSw e3
            go_simp
            first | done | with_reducible rfl
          try simp only [Act.put, List.getElem_toArray, List.getElem_cons_succ, List.getElem_cons_zero, List.setIfInBounds_toArray, List.set_cons_zero, List.set_cons_succ]
          refine wpAnyH_ready (rs := [7]) (by kernel_rfl) (by simp) ?_
          refine AllReadyH.cons rfl (fun K hK => ?_) AllReadyH.nil
          go_simp
          refine (HV.out _).mono ?_; rintro x wx ⟨rfl, rfl⟩
          refine hK.out _ _ ?_ (fun r2 => ?_)
          · exact r1
          try simp only [Act.put, List.getElem_toArray, List.getElem_cons_succ, List.getElem_cons_zero, List.setIfInBounds_toArray, List.set_cons_zero, List.set_cons_succ]
          refine wpAnyH_take (i := 8) (v := ?_) rfl (by kernel_rfl) (by kernel_rfl) (by kernel_rfl) (fun _ _ _ h => h) (Or.inl ⟨by rfl, ?_⟩) (by assumption) ?_
          rotate_left
          · intro wS hSw
            (try dsimp only at hSw)
            go_simp
            first | done | with_reducible rfl
          try simp only [Act.put, List.getElem_toArray, List.getElem_cons_succ, List.getElem_cons_zero, List.setIfInBounds_toArray, List.set_cons_zero, List.set_cons_succ]
          refine wpAnyH_take (i := 9) (v := ?_) rfl (by kernel_rfl) (by kernel_rfl) (by kernel_rfl) (fun _ _ _ h => h) (Or.inl ⟨by rfl, ?_⟩) (by assumption) ?_
          rotate_left
          · intro wS hSw
            (try dsimp only at hSw)
            go_simp
            first | done | with_reducible rfl
          try simp only [Act.put, List.getElem_toArray, List.getElem_cons_succ, List.getElem_cons_zero, List.setIfInBounds_toArray, List.set_cons_zero, List.set_cons_succ]
          refine wpAnyH_take (i := 10) (v := ?_) rfl (by kernel_rfl) (by kernel_rfl) (by kernel_rfl) (fun _ _ _ h => h) (Or.inl ⟨by rfl, ?_⟩) (by assumption) ?_
          rotate_left
          · intro wS hSw
            (try dsimp only at hSw)
            go_simp
            first | done | with_reducible rfl
          try simp only [Act.put, List.getElem_toArray, List.getElem_cons_succ, List.getElem_cons_zero, List.setIfInBounds_toArray, List.set_cons_zero, List.set_cons_succ]
          refine wpAnyH_take (i := 11) (v := ?_) rfl (by kernel_rfl) (by kernel_rfl) (by kernel_rfl) (fun _ _ _ h => h) (Or.inl ⟨by rfl, ?_⟩) (by assumption) ?_
          rotate_left
          · intro wS hSw
            (try dsimp only at hSw)
            have c0 := bcell hSw c0
            have c1 := bcell hSw c1
            have e0 := bcell hSw e0
            have e1 := bcell hSw e1
            have e2 := bcell hSw e2
            have e3 := bcell hSw e3
            go_simp
            first | done | with_reducible rfl
          try simp only [Act.put, List.getElem_toArray, List.getElem_cons_succ, List.getElem_cons_zero, List.setIfInBounds_toArray, List.set_cons_zero, List.set_cons_succ]
          refine wpAnyH_take (i := 12) (v := ?_) rfl (by kernel_rfl) (by kernel_rfl) (by kernel_rfl) (fun _ _ _ h => h) (Or.inl ⟨by rfl, ?_⟩) (by assumption) ?_
          rotate_left
          · intro wS hSw
            (try dsimp only at hSw)
            have c0 := bcell hSw c0
            have c1 := bcell hSw c1
            have e0 := bcell hSw e0
            have e1 := bcell hSw e1
            have e2 := bcell hSw e2
            have e3 := bcell hSw e3
            go_simp
            first | done | with_reducible rfl
          try simp only [Act.put, List.getElem_toArray, List.getElem_cons_succ, List.getElem_cons_zero, List.setIfInBounds_toArray, List.set_cons_zero, List.set_cons_succ]
          refine wpAnyH_take (i := 13) (v := ?_) rfl (by kernel_rfl) (by kernel_rfl) (by kernel_rfl) (fun _ _ _ h => h) (Or.inl ⟨by rfl, ?_⟩) (by assumption) ?_
          rotate_left
          · intro wS hSw
            (try dsimp only at hSw)
            have c0 := bcell hSw c0
            have c1 := bcell hSw c1
            have e0 := bcell hSw e0
            have e1 := bcell hSw e1
            have e2 := bcell hSw e2
            have e3 := bcell hSw e3
            go_simp
            first | done | with_reducible rfl
          try simp only [Act.put, List.getElem_toArray, List.getElem_cons_succ, List.getElem_cons_zero, List.setIfInBounds_toArray, List.set_cons_zero, List.set_cons_succ]
          refine wpAnyH_take (i := 14) (v := ?_) rfl (by kernel_rfl) (by kernel_rfl) (by kernel_rfl) (fun _ _ _ h => h) (Or.inl ⟨by rfl, ?_⟩) (by assumption) ?_
          rotate_left
          · intro wS hSw
            (try dsimp only at hSw)
            have c0 := bcell hSw c0
            have c1 := bcell hSw c1
            have e0 := bcell hSw e0
            have e1 := bcell hSw e1
            have e2 := bcell hSw e2
            have e3 := bcell hSw e3
            go_simp
            first | done | with_reducible rfl
          try simp only [Act.put, List.getElem_toArray, List.getElem_cons_succ, List.getElem_cons_zero, List.setIfInBounds_toArray, List.set_cons_zero, List.set_cons_succ]
          refine wpAnyH_take (i := 15) (v := ?_) rfl (by kernel_rfl) (by kernel_rfl) (by kernel_rfl) (fun _ _ _ h => h) (Or.inl ⟨by rfl, ?_⟩) (by assumption) ?_
          rotate_left
          · intro wS hSw
            (try dsimp only at hSw)
            have c0 := bcell hSw c0
            have c1 := bcell hSw c1
            have e0 := bcell hSw e0
            have e1 := bcell hSw e1
            have e2 := bcell hSw e2
            have e3 := bcell hSw e3
            go_simp
            first | done | with_reducible rfl
          try simp only [Act.put, List.getElem_toArray, List.getElem_cons_succ, List.getElem_cons_zero, List.setIfInBounds_toArray, List.set_cons_zero, List.set_cons_succ]
          refine wpAnyH_take (i := 16) (v := ?_) rfl (by kernel_rfl) (by kernel_rfl) (by kernel_rfl) (fun _ _ _ h => h) (Or.inl ⟨by rfl, ?_⟩) (by assumption) ?_
          rotate_left
          · intro wS hSw
            (try dsimp only at hSw)
            have c0 := bcell hSw c0
            have c1 := bcell hSw c1
            have e0 := bcell hSw e0
            have e1 := bcell hSw e1
            have e2 := bcell hSw e2
            have e3 := bcell hSw e3
            go_simp
            first | done | with_reducible rfl
          try simp only [Act.put, List.getElem_toArray, List.getElem_cons_succ, List.getElem_cons_zero, List.setIfInBounds_toArray, List.set_cons_zero, List.set_cons_succ]
          refine wpAnyH_take (i := 17) (v := ?_) rfl (by kernel_rfl) (by kernel_rfl) (by kernel_rfl) (fun _ _ _ h => h) (Or.inl ⟨by rfl, ?_⟩) (by assumption) ?_
          rotate_left
          · intro wS hSw
            (try dsimp only at hSw)
            have c0 := bcell hSw c0
            have c1 := bcell hSw c1
            have e0 := bcell hSw e0
            have e1 := bcell hSw e1
            have e2 := bcell hSw e2
            have e3 := bcell hSw e3
            go_simp
            first | done | with_reducible rfl
          try simp only [Act.put, List.getElem_toArray, List.getElem_cons_succ, List.getElem_cons_zero, List.setIfInBounds_toArray, List.set_cons_zero, List.set_cons_succ]
          refine wpAnyH_take (i := 18) (v := ?_) rfl (by kernel_rfl) (by kernel_rfl) (by kernel_rfl) (fun _ _ _ h => h) (Or.inl ⟨by rfl, ?_⟩) (by assumption) ?_
          rotate_left
          · intro wS hSw
            (try dsimp only at hSw)
            have c0 := bcell hSw c0
            have c1 := bcell hSw c1
            have e0 := bcell hSw e0
            have e1 := bcell hSw e1
            have e2 := bcell hSw e2
            have e3 := bcell hSw e3
            go_simp
            first | done | with_reducible rfl
          try simp only [Act.put, List.getElem_toArray, List.getElem_cons_succ, List.getElem_cons_zero, List.setIfInBounds_toArray, List.set_cons_zero, List.set_cons_succ]
          refine wpAnyH_take (i := 19) (v := ?_) rfl (by kernel_rfl) (by kernel_rfl) (by kernel_rfl) (fun _ _ _ h => h) (Or.inl ⟨by rfl, ?_⟩) (by assumption) ?_
          rotate_left
          · intro wS hSw
            (try dsimp only at hSw)
            have c0 := bcell hSw c0
            have c1 := bcell hSw c1
            have e0 := bcell hSw e0
            have e1 := bcell hSw e1
            have e2 := bcell hSw e2
            have e3 := bcell hSw e3
            go_simp
            first | done | with_reducible rfl
          try simp only [Act.put, List.getElem_toArray, List.getElem_cons_succ, List.getElem_cons_zero, List.setIfInBounds_toArray, List.set_cons_zero, List.set_cons_succ]
          refine wpAnyH_take (i := 20) (v := ?_) rfl (by kernel_rfl) (by kernel_rfl) (by kernel_rfl) (fun _ _ _ h => h) (Or.inl ⟨by rfl, ?_⟩) (by assumption) ?_
          rotate_left
          · intro wS hSw
            (try dsimp only at hSw)
            have c0 := bcell hSw c0
            have c1 := bcell hSw c1
            have e0 := bcell hSw e0
            have e1 := bcell hSw e1
            have e2 := bcell hSw e2
            have e3 := bcell hSw e3
            go_simp
            first | done | with_reducible rfl
          try simp only [Act.put, List.getElem_toArray, List.getElem_cons_succ, List.getElem_cons_zero, List.setIfInBounds_toArray, List.set_cons_zero, List.set_cons_succ]
          refine wpAnyH_take (i := 21) (v := ?_) rfl (by kernel_rfl) (by kernel_rfl) (by kernel_rfl) (fun _ _ _ h => h) (Or.inl ⟨by rfl, ?_⟩) (by assumption) ?_
          rotate_left
          · intro wS hSw
            (try dsimp only at hSw)
            have c0 := bcell hSw c0
            have c1 := bcell hSw c1
            have e0 := bcell hSw e0
            have e1 := bcell hSw e1
            have e2 := bcell hSw e2
            have e3 := bcell hSw e3
            go_simp
            first | done | with_reducible rfl
          try simp only [Act.put, List.getElem_toArray, List.getElem_cons_succ, List.getElem_cons_zero, List.setIfInBounds_toArray, List.set_cons_zero, List.set_cons_succ]
          refine wpAnyH_take (i := 22) (v := ?_) rfl (by kernel_rfl) (by kernel_rfl) (by kernel_rfl) (fun _ _ _ h => h) (Or.inl ⟨by rfl, ?_⟩) (by assumption) ?_
          rotate_left
          · intro wS hSw
            (try dsimp only at hSw)
            have c0 := bcell hSw c0
            have c1 := bcell hSw c1
            have e0 := bcell hSw e0
            have e1 := bcell hSw e1
            have e2 := bcell hSw e2
            have e3 := bcell hSw e3
            go_simp
            first | done | with_reducible rfl
          try simp only [Act.put, List.getElem_toArray, List.getElem_cons_succ, List.getElem_cons_zero, List.setIfInBounds_toArray, List.set_cons_zero, List.set_cons_succ]
          refine wpAnyH_take (i := 23) (v := ?_) rfl (by kernel_rfl) (by kernel_rfl) (by kernel_rfl) (fun _ _ _ h => h) (Or.inl ⟨by rfl, ?_⟩) (by assumption) ?_
          rotate_left
          · intro wS hSw
            (try dsimp only at hSw)
            have c0 := bcell hSw c0
            have c1 := bcell hSw c1
            have e0 := bcell hSw e0
            have e1 := bcell hSw e1
            have e2 := bcell hSw e2
            have e3 := bcell hSw e3
            go_simp
            first | done | with_reducible rfl
          try simp only [Act.put, List.getElem_toArray, List.getElem_cons_succ, List.getElem_cons_zero, List.setIfInBounds_toArray, List.set_cons_zero, List.set_cons_succ]
          refine wpAnyH_take (i := 24) (v := ?_) rfl (by kernel_rfl) (by kernel_rfl) (by kernel_rfl) (fun _ _ _ h => h) (Or.inl ⟨by rfl, ?_⟩) (by assumption) ?_
          rotate_left
          · intro wS hSw
            (try dsimp only at hSw)
            have c0 := bcell hSw c0
            have c1 := bcell hSw c1
            have e0 := bcell hSw e0
            have e1 := bcell hSw e1
            have e2 := bcell hSw e2
            have e3 := bcell hSw e3
            go_simp
            first | done | with_reducible rfl
          try simp only [Act.put, List.getElem_toArray, List.getElem_cons_succ, List.getElem_cons_zero, List.setIfInBounds_toArray, List.set_cons_zero, List.set_cons_succ]
          refine wpAnyH_take (i := 25) (v := ?_) rfl (by kernel_rfl) (by kernel_rfl) (by kernel_rfl) (fun _ _ _ h => h) (Or.inl ⟨by rfl, ?_⟩) (by assumption) ?_
          rotate_left
          · intro wS hSw
            (try dsimp only at hSw)
            have c0 := bcell hSw c0
            have c1 := bcell hSw c1
            have e0 := bcell hSw e0
            have e1 := bcell hSw e1
            have e2 := bcell hSw e2
            have e3 := bcell hSw e3
            go_simp
            first | done | with_reducible rfl
          try simp only [Act.put, List.getElem_toArray, List.getElem_cons_succ, List.getElem_cons_zero, List.setIfInBounds_toArray, List.set_cons_zero, List.set_cons_succ]
          refine wpAnyH_take (i := 26) (v := ?_) rfl (by kernel_rfl) (by kernel_rfl) (by kernel_rfl) (fun _ _ _ h => h) (Or.inl ⟨by rfl, ?_⟩) (by assumption) ?_
          rotate_left
          · intro wS hSw
            (try dsimp only at hSw)
            have c0 := bcell hSw c0
            have c1 := bcell hSw c1
            have e0 := bcell hSw e0
            have e1 := bcell hSw e1
            have e2 := bcell hSw e2
            have e3 := bcell hSw e3
            go_simp
            first | done | with_reducible rfl
          try simp only [Act.put, List.getElem_toArray, List.getElem_cons_succ, List.getElem_cons_zero, List.setIfInBounds_toArray, List.set_cons_zero, List.set_cons_succ]
          refine wpAnyH_done (by kernel_rfl) ?_ _
          go_upto_region 3 with fail
          obtain ⟨wq, hwq⟩ : ∃ wq, wq = w1.drew := ⟨_, rfl⟩
          rw [← hwq]
          have hbq : Below w1.heap.size w1 wq := by rw [hwq]; exact bdrew (Below.refl _ _)
          have hzq : wq.heap.size = w1.heap.size := by rw [hwq]; rfl
          have c0 := bcell hbq c0
          have c1 := bcell hbq c1
          have e0 := bcell hbq e0
          have e1 := bcell hbq e1
          have e2 := bcell hbq e2
          have e3 := bcell hbq e3
          have hL2 := fun w'' (hb : Below wq.heap.size wq w'') => hL1 w'' (bel hbq hb)
          have HBq := Lib.hid (HB1.out.1.trans (hbq.mono HB1.out.1.size))
          clear hwq hbq hzq hL1 r0 r1 r2 s1
          refine wp_region_held_drew (S := (fun W => Below wq.heap.size wq W)) (by kernel_rfl) ?_ (fun r0 => ?_)
          · exact ⟨rfl, rfl, rfl, Nat.le_refl _, fun _ _ => rfl⟩
          refine wpAnyH_take (i := 0) (v := ?_) rfl (by kernel_rfl) (by kernel_rfl) (by kernel_rfl) (fun _ _ _ h => h) (Or.inl ⟨by rfl, ?_⟩) (by assumption) ?_
          rotate_left
          · intro wS hSw
            (try dsimp only at hSw)
            have c1 := bcell hSw c1
            have e0 := bcell hSw e0
            go_simp
            first | done | with_reducible rfl
          try simp only [Act.put, List.getElem_toArray, List.getElem_cons_zero, List.setIfInBounds_toArray, List.set_cons_zero, List.set_cons_succ]
          refine wpAnyH_take (i := 1) (v := ?_) rfl (by kernel_rfl) (by kernel_rfl) (by kernel_rfl) (fun _ _ _ h => h) (Or.inl ⟨by rfl, ?_⟩) (by assumption) ?_
          rotate_left
          · intro wS hSw
            (try dsimp only at hSw)
            have c1 := bcell hSw c1
            have e0 := bcell hSw e0
            go_simp
            first | done | with_reducible rfl
          try simp only [Act.put, List.getElem_toArray, List.getElem_cons_succ, List.getElem_cons_zero, List.setIfInBounds_toArray, List.set_cons_zero, List.set_cons_succ]
          refine wpAnyH_take (i := 2) (v := ?_) rfl (by kernel_rfl) (by kernel_rfl) (by kernel_rfl) (fun _ _ _ h => h) (Or.inl ⟨by rfl, ?_⟩) (by assumption) ?_
          rotate_left
          · intro wS hSw
            (try dsimp only at hSw)
            have c1 := bcell hSw c1
            have e0 := bcell hSw e0
            go_simp
            first | done | with_reducible rfl
          try simp only [Act.put, List.getElem_toArray, List.getElem_cons_succ, List.getElem_cons_zero, List.setIfInBounds_toArray, List.set_cons_zero, List.set_cons_succ]
          refine wpAnyH_take (i := 3) (v := ?_) rfl (by kernel_rfl) (by kernel_rfl) (by kernel_rfl) (fun _ _ _ h => h) (Or.inl ⟨by rfl, ?_⟩) (by assumption) ?_
          rotate_left
          · intro wS hSw
            (try dsimp only at hSw)
            have c1 := bcell hSw c1
            have e0 := bcell hSw e0
            go_simp
            first | done | with_reducible rfl
          try simp only [Act.put, List.getElem_toArray, List.getElem_cons_succ, List.getElem_cons_zero, List.setIfInBounds_toArray, List.set_cons_zero, List.set_cons_succ]
          refine wpAnyH_take (i := 4) (v := ?_) rfl (by kernel_rfl) (by kernel_rfl) (by kernel_rfl) (fun _ _ _ h => h) (Or.inl ⟨by rfl, ?_⟩) (by assumption) ?_
          rotate_left
          · intro wS hSw
            (try dsimp only at hSw)
            have c1 := bcell hSw c1
            have e0 := bcell hSw e0
            go_simp
            first | done | with_reducible rfl
          try simp only [Act.put, List.getElem_toArray, List.getElem_cons_succ, List.getElem_cons_zero, List.setIfInBounds_toArray, List.set_cons_zero, List.set_cons_succ]
          refine wpAnyH_take (i := 5) (v := ?_) rfl (by kernel_rfl) (by kernel_rfl) (by kernel_rfl) (fun _ _ _ h => h) (Or.inl ⟨by rfl, ?_⟩) (by assumption) ?_
          rotate_left
          · intro wS hSw
            (try dsimp only at hSw)
            have c1 := bcell hSw c1
            have e0 := bcell hSw e0
            go_simp
            first | done | with_reducible rfl
          try simp only [Act.put, List.getElem_toArray, List.getElem_cons_succ, List.getElem_cons_zero, List.setIfInBounds_toArray, List.set_cons_zero, List.set_cons_succ]
          refine wpAnyH_take (i := 6) (v := ?_) rfl (by kernel_rfl) (by kernel_rfl) (by kernel_rfl) (fun _ _ _ h => h) (Or.inl ⟨by rfl, ?_⟩) (by assumption) ?_
          rotate_left
          · intro wS hSw
            (try dsimp only at hSw)
            have c1 := bcell hSw c1
            have e0 := bcell hSw e0
            have hL0 := hL2 _ hSw
            go_simp
            first | done | with_reducible rfl
          try simp only [Act.put, List.getElem_toArray, List.getElem_cons_succ, List.getElem_cons_zero, List.setIfInBounds_toArray, List.set_cons_zero, List.set_cons_succ]
          refine wpAnyH_take (i := 7) (v := ?_) rfl (by kernel_rfl) (by kernel_rfl) (by kernel_rfl) (fun _ _ _ h => h) (Or.inl ⟨by rfl, ?_⟩) (by assumption) ?_
          rotate_left
          · intro wS hSw
            (try dsimp only at hSw)
            have c1 := bcell hSw c1
            have e0 := bcell hSw e0
            go_simp
            first | done | with_reducible rfl
          try simp only [Act.put, List.getElem_toArray, List.getElem_cons_succ, List.getElem_cons_zero, List.setIfInBounds_toArray, List.set_cons_zero, List.set_cons_succ]
          refine wpAnyH_take (i := 8) (v := ?_) rfl (by kernel_rfl) (by kernel_rfl) (by kernel_rfl) (fun _ _ _ h => h) (Or.inl ⟨by rfl, ?_⟩) (by assumption) ?_
          rotate_left
          · intro wS hSw
            (try dsimp only at hSw)
            have c1 := bcell hSw c1
            have e0 := bcell hSw e0
            go_simp
            first | done | with_reducible rfl
          try simp only [Act.put, List.getElem_toArray, List.getElem_cons_succ, List.getElem_cons_zero, List.setIfInBounds_toArray, List.set_cons_zero, List.set_cons_succ]
          refine wpAnyH_take (i := 9) (v := ?_) rfl (by kernel_rfl) (by kernel_rfl) (by kernel_rfl) (fun _ _ _ h => h) (Or.inl ⟨by rfl, ?_⟩) (by assumption) ?_
          rotate_left
          · intro wS hSw
            (try dsimp only at hSw)
            have c1 := bcell hSw c1
            have e0 := bcell hSw e0
            go_simp
            first | done | with_reducible rfl
          try simp only [Act.put, List.getElem_toArray, List.getElem_cons_succ, List.getElem_cons_zero, List.setIfInBounds_toArray, List.set_cons_zero, List.set_cons_succ]
          refine wpAnyH_ready (rs := [10]) (by kernel_rfl) (by simp) ?_
          refine AllReadyH.cons rfl (fun K hK => ?_) AllReadyH.nil
          go_simp
          refine hK.out _ _ ?_ (fun r1 => ?_)
          · show Below _ _ _
            repeat (first | exact r0 | exact Below.refl _ _ | refine bdrew ?_ | refine belAlloc ?_ _ | refine Below.setCell ?_ (by simp) _ | refine Below.alloc ?_ (by simp) _)
          try simp only [Act.put, List.getElem_toArray, List.getElem_cons_succ, List.getElem_cons_zero, List.setIfInBounds_toArray, List.set_cons_zero, List.set_cons_succ]
          refine wpAnyH_ready (rs := [11]) (by kernel_rfl) (by simp) ?_
          refine AllReadyH.cons rfl (fun K hK => ?_) AllReadyH.nil
          go_simp
          refine hK.out _ _ ?_ (fun r2 => ?_)
          · show Below _ _ _
            repeat (first | exact r1 | exact r0 | exact Below.refl _ _ | refine bdrew ?_ | refine belAlloc ?_ _ | refine Below.setCell ?_ (by simp) _ | refine Below.alloc ?_ (by simp) _)
          try simp only [Act.put, List.getElem_toArray, List.getElem_cons_succ, List.getElem_cons_zero, List.setIfInBounds_toArray, List.set_cons_zero, List.set_cons_succ]
          refine wpAnyH_take (i := 12) (v := ?_) rfl (by kernel_rfl) (by kernel_rfl) (by kernel_rfl) (fun _ _ _ h => h) (Or.inl ⟨by rfl, ?_⟩) (by assumption) ?_
          rotate_left
          · intro wS hSw
            (try dsimp only at hSw)
            go_simp
            first | done | with_reducible rfl
          try simp only [Act.put, List.getElem_toArray, List.getElem_cons_succ, List.getElem_cons_zero, List.setIfInBounds_toArray, List.set_cons_zero, List.set_cons_succ]
          refine wpAnyH_done (by kernel_rfl) ?_ _
          obtain ⟨w2, hw2⟩ : ∃ w2, w2 = (wq.alloc (.cells #[.string u1, .string u2, .int .i64 u3] 86)).drew := ⟨_, rfl⟩
          rw [← hw2]
          have hb2 : Below wq.heap.size wq w2 := by rw [hw2]; exact bdrew (belNew _ _)
          have e1 := bcell hb2 e1
          have e3 := bcell hb2 e3
          have HB2 := Lib.hid (HBq.out.trans (hb2.mono HBq.out.size))
          clear hw2 hb2 hL2 r0 r1 r2 c0 c1 e0 e2
          cases hi : (e.val.toList == ([] : List UInt8)) <;> rw [hi] at HR <;> cases hg : e.gone <;> rw [hg] at HR e3 <;> cases th
          · go_wp2_with fail
            go_ret
            exact ⟨congrArg (fun b : Bool => Ending.returned (.bool b)) HR.out, HB2.out⟩
          · go_wp2_with fail
            go_ret
            exact ⟨congrArg (fun b : Bool => Ending.returned (.bool b)) HR.out, HB2.out⟩
          · go_wp2_with fail
            go_ret
            exact ⟨congrArg (fun b : Bool => Ending.returned (.bool b)) HR.out, HB2.out⟩
          · go_wp2_with fail
            go_ret
            exact ⟨congrArg (fun b : Bool => Ending.returned (.bool b)) HR.out, HB2.out⟩
          · go_wp2_with fail
            go_ret
            exact ⟨congrArg (fun b : Bool => Ending.returned (.bool b)) HR.out, HB2.out⟩
          · go_wp2_with fail
            go_ret
            exact ⟨congrArg (fun b : Bool => Ending.returned (.bool b)) HR.out, HB2.out⟩
          · go_wp2_with fail
            go_ret
            exact ⟨congrArg (fun b : Bool => Ending.returned (.bool b)) HR.out, HB2.out⟩
          · go_wp2_with fail
            go_ret
            exact ⟨congrArg (fun b : Bool => Ending.returned (.bool b)) HR.out, HB2.out⟩
      · refine wp_region_held_drew (S := (fun W => Below w1.heap.size w1 W)) (by kernel_rfl) ?_ (fun r0 => ?_)
        · exact ⟨rfl, rfl, rfl, Nat.le_refl _, fun _ _ => rfl⟩
        refine wpAnyH_take (i := 0) (v := ?_) rfl (by kernel_rfl) (by kernel_rfl) (by kernel_rfl) (fun _ _ _ h => h) (Or.inl ⟨by rfl, ?_⟩) (by assumption) ?_
        rotate_left
        · intro wS hSw
          (try dsimp only at hSw)
          have c0 := bcell hSw c0
          have c1 := bcell hSw c1
          have e0 := bcell hSw e0
          have e1 := bcell hSw e1
          have e2 := bcell hSw e2
          have e3 := bcell hSw e3
          go_simp
          first | done | with_reducible rfl
        try simp only [Act.put, List.getElem_toArray, List.getElem_cons_zero, List.setIfInBounds_toArray, List.set_cons_zero, List.set_cons_succ]
        refine wpAnyH_take (i := 1) (v := ?_) rfl (by kernel_rfl) (by kernel_rfl) (by kernel_rfl) (fun _ _ _ h => h) (Or.inl ⟨by rfl, ?_⟩) (by assumption) ?_
        rotate_left
        · intro wS hSw
          (try dsimp only at hSw)
          have c0 := bcell hSw c0
          have c1 := bcell hSw c1
          have e0 := bcell hSw e0
          have e1 := bcell hSw e1
          have e2 := bcell hSw e2
          have e3 := bcell hSw e3
          go_simp
          first | done | with_reducible rfl
        try simp only [Act.put, List.getElem_toArray, List.getElem_cons_succ, List.getElem_cons_zero, List.setIfInBounds_toArray, List.set_cons_zero, List.set_cons_succ]
        refine wpAnyH_ready (rs := [2]) (by kernel_rfl) (by simp) ?_
        refine AllReadyH.cons rfl (fun K hK => ?_) AllReadyH.nil
        go_simp
        refine (HK.out _).mono ?_; rintro x wx ⟨rfl, rfl⟩
        refine hK.out _ _ ?_ (fun r1 => ?_)
        · exact r0
        try simp only [Act.put, List.getElem_toArray, List.getElem_cons_succ, List.getElem_cons_zero, List.setIfInBounds_toArray, List.set_cons_zero, List.set_cons_succ]
        refine wpAnyH_take (i := 3) (v := ?_) rfl (by kernel_rfl) (by kernel_rfl) (by kernel_rfl) (fun _ _ _ h => h) (Or.inl ⟨by rfl, ?_⟩) (by assumption) ?_
        rotate_left
        · intro wS hSw
          (try dsimp only at hSw)
          go_simp
          first | done | with_reducible rfl
        try simp only [Act.put, List.getElem_toArray, List.getElem_cons_succ, List.getElem_cons_zero, List.setIfInBounds_toArray, List.set_cons_zero, List.set_cons_succ]
        refine wpAnyH_take (i := 4) (v := ?_) rfl (by kernel_rfl) (by kernel_rfl) (by kernel_rfl) (fun _ _ _ h => h) (Or.inl ⟨by rfl, ?_⟩) (by assumption) ?_
        rotate_left
        · intro wS hSw
          (try dsimp only at hSw)
          go_simp
          first | done | with_reducible rfl
        try simp only [Act.put, List.getElem_toArray, List.getElem_cons_succ, List.getElem_cons_zero, List.setIfInBounds_toArray, List.set_cons_zero, List.set_cons_succ]
        refine wpAnyH_take (i := 5) (v := ?_) rfl (by kernel_rfl) (by kernel_rfl) (by kernel_rfl) (fun _ _ _ h => h) (Or.inl ⟨by rfl, ?_⟩) (by assumption) ?_
        rotate_left
        · intro wS hSw
          (try dsimp only at hSw)
          have c0 := bcell hSw c0
          have c1 := bcell hSw c1
          have e0 := bcell hSw e0
          have e1 := bcell hSw e1
          have e2 := bcell hSw e2
          have e3 := bcell hSw e3
          go_simp
          first | done | with_reducible rfl
        try simp only [Act.put, List.getElem_toArray, List.getElem_cons_succ, List.getElem_cons_zero, List.setIfInBounds_toArray, List.set_cons_zero, List.set_cons_succ]
        refine wpAnyH_take (i := 6) (v := ?_) rfl (by kernel_rfl) (by kernel_rfl) (by kernel_rfl) (fun _ _ _ h => h) (Or.inl ⟨by rfl, ?_⟩) (by assumption) ?_
        rotate_left
        · intro wS hSw
          (try dsimp only at hSw)
          have c0 := bcell hSw c0
          have c1 := bcell hSw c1
          have e0 := bcell hSw e0
          have e1 := bcell hSw e1
          have e2 := bcell hSw e2
          have e3 := bcell hSw e3
          go_simp
          first | done | with_reducible rfl
        try simp only [Act.put, List.getElem_toArray, List.getElem_cons_succ, List.getElem_cons_zero, List.setIfInBounds_toArray, List.set_cons_zero, List.set_cons_succ]
        refine wpAnyH_ready (rs := [7]) (by kernel_rfl) (by simp) ?_
        refine AllReadyH.cons rfl (fun K hK => ?_) AllReadyH.nil
        go_simp
        refine (HV.out _).mono ?_; rintro x wx ⟨rfl, rfl⟩
        refine hK.out _ _ ?_ (fun r2 => ?_)
        · exact r1
        try simp only [Act.put, List.getElem_toArray, List.getElem_cons_succ, List.getElem_cons_zero, List.setIfInBounds_toArray, List.set_cons_zero, List.set_cons_succ]
        refine wpAnyH_take (i := 8) (v := ?_) rfl (by kernel_rfl) (by kernel_rfl) (by kernel_rfl) (fun _ _ _ h => h) (Or.inl ⟨by rfl, ?_⟩) (by assumption) ?_
        rotate_left
        · intro wS hSw
          (try dsimp only at hSw)
          go_simp
          first | done | with_reducible rfl
        try simp only [Act.put, List.getElem_toArray, List.getElem_cons_succ, List.getElem_cons_zero, List.setIfInBounds_toArray, List.set_cons_zero, List.set_cons_succ]
        refine wpAnyH_take (i := 9) (v := ?_) rfl (by kernel_rfl) (by kernel_rfl) (by kernel_rfl) (fun _ _ _ h => h) (Or.inl ⟨by rfl, ?_⟩) (by assumption) ?_
        rotate_left
        · intro wS hSw
          (try dsimp only at hSw)
          go_simp
          first | done | with_reducible rfl
        try simp only [Act.put, List.getElem_toArray, List.getElem_cons_succ, List.getElem_cons_zero, List.setIfInBounds_toArray, List.set_cons_zero, List.set_cons_succ]
        refine wpAnyH_take (i := 10) (v := ?_) rfl (by kernel_rfl) (by kernel_rfl) (by kernel_rfl) (fun _ _ _ h => h) (Or.inl ⟨by rfl, ?_⟩) (by assumption) ?_
        rotate_left
        · intro wS hSw
          (try dsimp only at hSw)
          go_simp
          first | done | with_reducible rfl
        try simp only [Act.put, List.getElem_toArray, List.getElem_cons_succ, List.getElem_cons_zero, List.setIfInBounds_toArray, List.set_cons_zero, List.set_cons_succ]
        refine wpAnyH_take (i := 11) (v := ?_) rfl (by kernel_rfl) (by kernel_rfl) (by kernel_rfl) (fun _ _ _ h => h) (Or.inl ⟨by rfl, ?_⟩) (by assumption) ?_
        rotate_left
        · intro wS hSw
          (try dsimp only at hSw)
          have c0 := bcell hSw c0
          have c1 := bcell hSw c1
          have e0 := bcell hSw e0
          have e1 := bcell hSw e1
          have e2 := bcell hSw e2
          have e3 := bcell hSw e3
          go_simp
          first | done | with_reducible rfl
        try simp only [Act.put, List.getElem_toArray, List.getElem_cons_succ, List.getElem_cons_zero, List.setIfInBounds_toArray, List.set_cons_zero, List.set_cons_succ]
        refine wpAnyH_take (i := 12) (v := ?_) rfl (by kernel_rfl) (by kernel_rfl) (by kernel_rfl) (fun _ _ _ h => h) (Or.inl ⟨by rfl, ?_⟩) (by assumption) ?_
        rotate_left
        · intro wS hSw
          (try dsimp only at hSw)
          have c0 := bcell hSw c0
          have c1 := bcell hSw c1
          have e0 := bcell hSw e0
          have e1 := bcell hSw e1
          have e2 := bcell hSw e2
          have e3 := bcell hSw e3
          go_simp
          first | done | with_reducible rfl
        try simp only [Act.put, List.getElem_toArray, List.getElem_cons_succ, List.getElem_cons_zero, List.setIfInBounds_toArray, List.set_cons_zero, List.set_cons_succ]
        refine wpAnyH_take (i := 13) (v := ?_) rfl (by kernel_rfl) (by kernel_rfl) (by kernel_rfl) (fun _ _ _ h => h) (Or.inl ⟨by rfl, ?_⟩) (by assumption) ?_
        rotate_left
        · intro wS hSw
          (try dsimp only at hSw)
          have c0 := bcell hSw c0
          have c1 := bcell hSw c1
          have e0 := bcell hSw e0
          have e1 := bcell hSw e1
          have e2 := bcell hSw e2
          have e3 := bcell hSw e3
          go_simp
          first | done | with_reducible rfl
        try simp only [Act.put, List.getElem_toArray, List.getElem_cons_succ, List.getElem_cons_zero, List.setIfInBounds_toArray, List.set_cons_zero, List.set_cons_succ]
        refine wpAnyH_take (i := 14) (v := ?_) rfl (by kernel_rfl) (by kernel_rfl) (by kernel_rfl) (fun _ _ _ h => h) (Or.inl ⟨by rfl, ?_⟩) (by assumption) ?_
        rotate_left
        · intro wS hSw
          (try dsimp only at hSw)
          have c0 := bcell hSw c0
          have c1 := bcell hSw c1
          have e0 := bcell hSw e0
          have e1 := bcell hSw e1
          have e2 := bcell hSw e2
          have e3 := bcell hSw e3
          go_simp
          first | done | with_reducible rfl
        try simp only [Act.put, List.getElem_toArray, List.getElem_cons_succ, List.getElem_cons_zero, List.setIfInBounds_toArray, List.set_cons_zero, List.set_cons_succ]
        refine wpAnyH_take (i := 15) (v := ?_) rfl (by kernel_rfl) (by kernel_rfl) (by kernel_rfl) (fun _ _ _ h => h) (Or.inl ⟨by rfl, ?_⟩) (by assumption) ?_
        rotate_left
        · intro wS hSw
          (try dsimp only at hSw)
          have c0 := bcell hSw c0
          have c1 := bcell hSw c1
          have e0 := bcell hSw e0
          have e1 := bcell hSw e1
          have e2 := bcell hSw e2
          have e3 := bcell hSw e3
          go_simp
          first | done | with_reducible rfl
        try simp only [Act.put, List.getElem_toArray, List.getElem_cons_succ, List.getElem_cons_zero, List.setIfInBounds_toArray, List.set_cons_zero, List.set_cons_succ]
        refine wpAnyH_take (i := 16) (v := ?_) rfl (by kernel_rfl) (by kernel_rfl) (by kernel_rfl) (fun _ _ _ h => h) (Or.inl ⟨by rfl, ?_⟩) (by assumption) ?_
        rotate_left
        · intro wS hSw
          (try dsimp only at hSw)
          have c0 := bcell hSw c0
          have c1 := bcell hSw c1
          have e0 := bcell hSw e0
          have e1 := bcell hSw e1
          have e2 := bcell hSw e2
          have e3 := bcell hSw e3
          go_simp
          first | done | with_reducible rfl
        try simp only [Act.put, List.getElem_toArray, List.getElem_cons_succ, List.getElem_cons_zero, List.setIfInBounds_toArray, List.set_cons_zero, List.set_cons_succ]
        refine wpAnyH_take (i := 17) (v := ?_) rfl (by kernel_rfl) (by kernel_rfl) (by kernel_rfl) (fun _ _ _ h => h) (Or.inl ⟨by rfl, ?_⟩) (by assumption) ?_
        rotate_left
        · intro wS hSw
          (try dsimp only at hSw)
          have c0 := bcell hSw c0
          have c1 := bcell hSw c1
          have e0 := bcell hSw e0
          have e1 := bcell hSw e1
          have e2 := bcell hSw e2
          have e3 := bcell hSw e3
          go_simp
          first | done | with_reducible rfl
        try simp only [Act.put, List.getElem_toArray, List.getElem_cons_succ, List.getElem_cons_zero, List.setIfInBounds_toArray, List.set_cons_zero, List.set_cons_succ]
        refine wpAnyH_take (i := 18) (v := undef) rfl (by kernel_rfl) (by kernel_rfl) (by kernel_rfl) (fun _ _ _ h => h) (Or.inr ⟨by rfl, rfl⟩) (by assumption) ?_
        try simp only [Act.put, List.getElem_toArray, List.getElem_cons_succ, List.getElem_cons_zero, List.setIfInBounds_toArray, List.set_cons_zero, List.set_cons_succ]
        refine wpAnyH_take (i := 19) (v := undef) rfl (by kernel_rfl) (by kernel_rfl) (by kernel_rfl) (fun _ _ _ h => h) (Or.inr ⟨by rfl, rfl⟩) (by assumption) ?_
        try simp only [Act.put, List.getElem_toArray, List.getElem_cons_succ, List.getElem_cons_zero, List.setIfInBounds_toArray, List.set_cons_zero, List.set_cons_succ]
        refine wpAnyH_take (i := 20) (v := undef) rfl (by kernel_rfl) (by kernel_rfl) (by kernel_rfl) (fun _ _ _ h => h) (Or.inr ⟨by rfl, rfl⟩) (by assumption) ?_
        try simp only [Act.put, List.getElem_toArray, List.getElem_cons_succ, List.getElem_cons_zero, List.setIfInBounds_toArray, List.set_cons_zero, List.set_cons_succ]
        refine wpAnyH_take (i := 21) (v := undef) rfl (by kernel_rfl) (by kernel_rfl) (by kernel_rfl) (fun _ _ _ h => h) (Or.inr ⟨by rfl, rfl⟩) (by assumption) ?_
        try simp only [Act.put, List.getElem_toArray, List.getElem_cons_succ, List.getElem_cons_zero, List.setIfInBounds_toArray, List.set_cons_zero, List.set_cons_succ]
        refine wpAnyH_take (i := 22) (v := undef) rfl (by kernel_rfl) (by kernel_rfl) (by kernel_rfl) (fun _ _ _ h => h) (Or.inr ⟨by rfl, rfl⟩) (by assumption) ?_
        try simp only [Act.put, List.getElem_toArray, List.getElem_cons_succ, List.getElem_cons_zero, List.setIfInBounds_toArray, List.set_cons_zero, List.set_cons_succ]
        refine wpAnyH_take (i := 23) (v := undef) rfl (by kernel_rfl) (by kernel_rfl) (by kernel_rfl) (fun _ _ _ h => h) (Or.inr ⟨by rfl, rfl⟩) (by assumption) ?_
        try simp only [Act.put, List.getElem_toArray, List.getElem_cons_succ, List.getElem_cons_zero, List.setIfInBounds_toArray, List.set_cons_zero, List.set_cons_succ]
        refine wpAnyH_take (i := 24) (v := undef) rfl (by kernel_rfl) (by kernel_rfl) (by kernel_rfl) (fun _ _ _ h => h) (Or.inr ⟨by rfl, rfl⟩) (by assumption) ?_
        try simp only [Act.put, List.getElem_toArray, List.getElem_cons_succ, List.getElem_cons_zero, List.setIfInBounds_toArray, List.set_cons_zero, List.set_cons_succ]
        refine wpAnyH_take (i := 25) (v := undef) rfl (by kernel_rfl) (by kernel_rfl) (by kernel_rfl) (fun _ _ _ h => h) (Or.inr ⟨by rfl, rfl⟩) (by assumption) ?_
        try simp only [Act.put, List.getElem_toArray, List.getElem_cons_succ, List.getElem_cons_zero, List.setIfInBounds_toArray, List.set_cons_zero, List.set_cons_succ]
        refine wpAnyH_take (i := 26) (v := ?_) rfl (by kernel_rfl) (by kernel_rfl) (by kernel_rfl) (fun _ _ _ h => h) (Or.inl ⟨by rfl, ?_⟩) (by assumption) ?_
        rotate_left
        · intro wS hSw
          (try dsimp only at hSw)
          go_simp
          first | done | with_reducible rfl
        try simp only [Act.put, List.getElem_toArray, List.getElem_cons_succ, List.getElem_cons_zero, List.setIfInBounds_toArray, List.set_cons_zero, List.set_cons_succ]
        refine wpAnyH_done (by kernel_rfl) ?_ _
        go_wp2_with fail
        go_ret
        exact ⟨congrArg (fun b : Bool => Ending.returned (.bool b)) HR.out, bdrew HB1.out.1⟩
end
section
open Go.RowKit Go.Maps
def applyK (S : KSt) (e : KEff) : KSt := ⟨e.rev, if e.gone = true then delE (kl e.key) S.L else putE (kl e.key) (e.val, e.rev) S.L⟩
theorem wpList_delE {w : World} {ops : Array Oper} {rest : List Oper} {o : Oper} {a : Act} {Q : Exit → Act → World → Prop} (hgd : o.guard = none) (m x : Operand)
    (hop : o.op = Op.call { callee := Callee.builtin Builtin.delete, args := #[m, x], argTypes := #[162, 9] }) (b n : Nat) (fs : List Ent) (hm : a.eval m = .map (some b)) (h : MapIs w b n fs) (s : ByteArray) (hs : s.size ≤ maxLen) (hx : a.eval x = .string s)
    (hK : ∀ w', MapIs w' b n (delE s.data.toList fs) → w.grownBy w' (some b) → wpList Tryz.prog ops Q rest (a.put o.dst (.tuple #[])) w') : wpList Tryz.prog ops Q (o :: rest) a w := by
  refine wpList_plain hgd fun K' hK' => ?_
  obtain ⟨w', hrun, r1, r2⟩ := h.del hs o.type
  unfold Oper.wp
  simp [execOp, hop, resolve, invoke, builtin, hm, hx, hrun, Result.andThen]
  exact hK' _ _ (hK w' r1 r2)
theorem wpList_putE {w : World} {ops : Array Oper} {rest : List Oper} {o : Oper} {a : Act} {Q : Exit → Act → World → Prop} (hgd : o.guard = none) (m x v : Operand)
    (ho : o.op = Op.mapUpdate 162 m x v) (b n : Nat) (fs : List Ent) (hm : a.eval m = .map (some b)) (h : MapIs w b n fs) (hn : n < maxLen) (s : ByteArray) (hs : s.size ≤ maxLen) (val : Value) (hx : a.eval x = .string s) (hv : a.eval v = val)
    (hK : ∀ w', MapIs w' b (n + 1) (putE s.data.toList val fs) → w.grownBy w' (some b) → wpList Tryz.prog ops Q rest (a.put o.dst undef) w') : wpList Tryz.prog ops Q (o :: rest) a w :=
  wpList_mapUpdate_own w hgd m x v 162 ho 9 86 keyedS Tryz.underlying162 Rv b n (datum fs) hm h hn _ val _ hx hv (keyS hs) (.held val) [] rfl
    (fun w' h1 h2 => hK w' (by rw [datum_put] at h1; exact h1) h2)
theorem ents_del (L : List KEnt) (k : List UInt8) : entsV (delE k L) = delE k (entsV L) := by
  unfold entsV delE
  rw [List.filter_map]
  rfl
theorem ents_ins (x : KEnt) : ∀ L : List KEnt, entsV (insE x L) = insE (x.1, itV x.1 x.2) (entsV L)
  | [] => rfl
  | y :: r => by
    rw [insE]
    unfold entsV
    rw [List.map_cons, insE]
    split
    · rfl
    · rw [List.map_cons]
      have := ents_ins x r
      unfold entsV at this
      rw [this]
theorem ents_put (L : List KEnt) (k : List UInt8) (u : ByteArray × Int) : entsV (putE k u L) = putE k (itV k u) (entsV L) := by
  unfold putE
  rw [ents_ins, ents_del]
theorem insE_length {β : Type} (x : List UInt8 × β) : ∀ fs : List (List UInt8 × β), (insE x fs).length = fs.length + 1
  | [] => rfl
  | y :: r => by
    rw [insE]
    split
    · rfl
    · rw [List.length_cons, insE_length x r, List.length_cons]
theorem delE_le {β : Type} (k : List UInt8) (fs : List (List UInt8 × β)) : (delE k fs).length ≤ fs.length := List.length_filter_le _ _
theorem putE_len {β : Type} (k : List UInt8) (v : β) (fs : List (List UInt8 × β)) : (putE k v fs).length ≤ fs.length + 1 := by
  unfold putE
  rw [insE_length]
  exact Nat.succ_le_succ (delE_le _ _)
theorem itV_key (s : ByteArray) (u : ByteArray × Int) : itV (kl s) u = .agg #[.string s, .string u.1, .int .i64 u.2] := by unfold itV; rw [kl_str]
theorem mayA_there {S : KSt} {e : KEff} (h : mayA S e = true) (hg : e.gone = true) : S.L ≠ [] := by
  unfold mayA at h
  rw [hg] at h
  simp only [Bool.and_eq_true, Bool.not_true, Bool.false_or] at h
  have h1 := h.2.2.2.2.2
  unfold there at h1
  intro e0
  rw [e0] at h1
  cases h1
theorem eqNilM (w : World) (a : Option Nat) : (binOp .eql 162 (.map a) (.map none)).run Tryz.prog w = .ok (.bool a.isNone) w := by cases a <;> kernel_rfl
theorem apply_nil (e : KEff) (w : World) : Calls Tryz.prog 63 #[.pointer none, effV e] w fun x w' => x = .returned (.int .i64 2) ∧ Below w.heap.size w w' := by
  have q := eqNilK
  have HB := Lib.hid (belNew w (effO e))
  go_enter Tryz.func63, Tryz.ntmps63
  go_wp2
  go_ret
  exact ⟨rfl, HB.out⟩
set_option maxRecDepth 100000 in
set_option maxHeartbeats 4000000 in
theorem apply_any (g : Nat) (P : Nat → Prop) (S : KSt) (e : KEff) (w : World) (h : KvAt w g P S) (hs : e.key.size ≤ maxLen) (hrv : 0 ≤ S.rev ∧ S.rev ≤ 9223372036854775807) (hn : S.L.length ≤ 1000000) :
    Calls Tryz.prog 63 #[ptr g, effV e] w fun x w' => x = .returned (.int .i64 (if mayA S e = true then 0 else 1)) ∧ ∃ P', KvAt w' g P' (if mayA S e = true then applyK S e else S) ∧ (∀ i, P' i → P i ∨ w.heap.size ≤ i) ∧ Touch P w w' := by
  have q := eqNilK
  obtain ⟨w1, hw1⟩ : ∃ w1, w1 = w.alloc (effO e) := ⟨_, rfl⟩
  have hb1 : Below w.heap.size w w1 := by rw [hw1]; exact belNew _ _
  have hn1 : w1.heap[w.heap.size]? = some (effO e) := by rw [hw1]; exact heap_alloc_new w _
  have hk1 := h.below hb1
  have HM := Lib.hid (mayApply_any g P S e w1 hk1 hs hrv)
  have HG := Lib.hid (fun (hm : mayA S e = true) => mayA_there hm)
  have HW := Lib.hid hw1
  have HB1 := Lib.hid (And.intro hb1 (And.intro hn1 hk1))
  have HH := Lib.hid h
  obtain ⟨e0, e1, e2, e3, -⟩ := four hn1
  clear hw1 hb1 hn1 hk1 h
  cases hm : mayA S e with
  | false =>
    rw [hm] at HM
    rw [if_neg (by simp), if_neg (by simp)]
    clear hm
    go_enter Tryz.func63, Tryz.ntmps63
    go_upto_region 1 with fail
    change Code.wp _ _ _ _ (w.alloc (effO e))
    rw [← HW.out]
    clear HW
    go_wp2_with (first
      | (go_at_call 106; refine HM.out.mono ?_; rintro x w2 ⟨rfl, hb2⟩)
      | go_in)
    go_ret
    have hb := HB1.out.1.trans (hb2.mono HB1.out.1.size)
    exact ⟨rfl, P, HH.out.below hb, fun i hi => Or.inl hi, Touch.of_below P hb⟩
  | true =>
    rw [hm] at HM
    have HG2 := HG.out hm
    rw [if_pos rfl, if_pos rfl]
    clear hm HG
    cases hg : e.gone with
    | true =>
      have hne := HG2 hg
      have hA : applyK S e = ⟨e.rev, delE (kl e.key) S.L⟩ := by unfold applyK; rw [if_pos hg]
      rw [hA]
      have HGN := Lib.hid hg
      clear hA HG2 hg
      go_enter Tryz.func63, Tryz.ntmps63
      go_upto_region 1 with fail
      change Code.wp _ _ _ _ (w.alloc (effO e))
      rw [← HW.out]
      clear HW
      go_upto_region 5 with (first
        | (go_at_call 106; refine HM.out.mono ?_; rintro x w2 ⟨rfl, hb2⟩)
        | go_in)
      obtain ⟨mb, h1, h2, h3, h4, h5⟩ := HB1.out.2.2.below hb2
      obtain ⟨b, rfl⟩ : ∃ b, mb = some b := by
        cases mb with
        | none => exact absurd (h3 rfl) hne
        | some b => exact ⟨b, rfl⟩
      obtain ⟨hM, hPb⟩ := h2 b rfl
      have hn2 := (hb2.block _ (heap_lt HB1.out.2.1)).trans HB1.out.2.1
      have hgn : w.heap.size ≠ g := fun e => by have := HH.out.lt; omega
      have hbn : b ≠ w.heap.size := fun e => by rw [← e] at hn2; exact hM.ne hn2 rfl
      have hbg : b ≠ g := hM.ne h1
      obtain ⟨e0, e1, e2, e3, -⟩ := four hn2
      have c0 := cell0 h1
      have f0 := froz h1 0
      have hg := HGN.out
      have hbT := HB1.out.1.trans (hb2.mono HB1.out.1.size)
      obtain ⟨w3, hw3⟩ : ∃ w3, w3 = w2.setCell ⟨g, 0, none⟩ (.int .i64 e.rev) := ⟨_, rfl⟩
      have h13 : w3.heap[g]? = some (.cells #[.int .i64 e.rev, .map (some b)] 164 (0, 0)) := by rw [hw3]; exact one_set h1 _
      have hM3 : MapIs w3 b S.L.length (entsV S.L) := hM.heap (by rw [hw3]; exact Below.heap_setCell _ _ _ _ hbg)
      have hn3 : w3.heap[w.heap.size]? = some (effO e) := by rw [hw3]; exact (Below.heap_setCell _ _ _ _ hgn).trans hn2
      have hT3 : Touch P w w3 := by
        rw [hw3]
        exact (Touch.of_below P hbT).trans (touch_set w2 g 0 _) (fun i _ e => by rw [e]; exact h4)
      have HX := Lib.hid (And.intro h13 (And.intro hM3 (And.intro hT3 (And.intro h4 (And.intro hPb (And.intro hbg h5))))))
      have HW3 := Lib.hid hw3
      have HC3 := Lib.hid (And.intro (cell1 h13) (four hn3))
      clear h1 h2 h3 h4 h5 hM hPb hn2 hgn hbn hbg hbT hw3 h13 hM3 hn3 hT3 hb2
      go_upto_region 7 with fail
      rw [← HW3.out]
      clear HW3 c0 f0 e0 e1 e2 e3
      obtain ⟨c1, e0, e1, e2, e3, -⟩ := HC3.out
      go_still_tail 6, (by kernel_rfl)
      change wpList _ _ _ _ _ w3.drew
      have hM4 : MapIs w3.drew b S.L.length (entsV S.L) := HX.out.2.1
      go_wp2_with (first
        | (refine wpList_delE rfl (.tmp 21) (.tmp 23) rfl b S.L.length (entsV S.L) rfl hM4 e.key hs rfl ?_; intro w5 hm5 hg5)
        | go_in)
      go_ret
      obtain ⟨h13, hM3, hT3, h4, hPb, hbg, h5⟩ := HX.out
      have hT5 : Touch P w3 w5 := Touch.of_grown (P := P) (w := w3) ⟨hg5.os, hg5.tape, hg5.output, hg5.size, hg5.block⟩ (fun k hk => by cases hk; exact hPb)
      rw [← ents_del] at hm5
      have hm6 := hm5.tight
      refine ⟨rfl, P, ⟨some b, (hg5.block g (heap_lt h13) (fun e => hbg (Option.some.inj e).symm)).trans h13, fun b' e => ?_, (fun e => by cases e), h4, fun i hi => ?_⟩, fun i hi => Or.inl hi, hT3.trans hT5 (fun _ _ h => h)⟩
      · cases e
        refine ⟨?_, hPb⟩
        unfold entsV at hm6 ⊢
        rw [List.length_map] at hm6
        exact hm6
      · have h6 := HH.out
        obtain ⟨_, _, _, _, _, h7⟩ := h6
        exact Nat.lt_of_lt_of_le (h7 i hi) (hT3.trans hT5 (fun _ _ h => h)).2.2.2.1
    | false =>
      have hA : applyK S e = ⟨e.rev, putE (kl e.key) (e.val, e.rev) S.L⟩ := by unfold applyK; rw [if_neg (by rw [hg]; simp)]
      rw [hA]
      have HGN := Lib.hid hg
      have hmm := @run_makeMap Tryz.prog
      have qm := eqNilM
      clear hA HG2 hg
      go_enter Tryz.func63, Tryz.ntmps63
      go_upto_region 1 with fail
      change Code.wp _ _ _ _ (w.alloc (effO e))
      rw [← HW.out]
      clear HW
      go_upto_region 5 with (first
        | (go_at_call 106; refine HM.out.mono ?_; rintro x w2 ⟨rfl, hb2⟩)
        | go_in)
      obtain ⟨mb, h1, h2, h3, h4, h5⟩ := HB1.out.2.2.below hb2
      have hn2 := (hb2.block _ (heap_lt HB1.out.2.1)).trans HB1.out.2.1
      have hgn : w.heap.size ≠ g := fun e => by have := HH.out.lt; omega
      obtain ⟨e0, e1, e2, e3, -⟩ := four hn2
      have c0 := cell0 h1
      have c1 := cell1 h1
      have f0 := froz h1 0
      have f1 := froz h1 1
      have hg := HGN.out
      have hbT := HB1.out.1.trans (hb2.mono HB1.out.1.size)
      obtain ⟨w3, hw3⟩ : ∃ w3, w3 = w2.setCell ⟨g, 0, none⟩ (.int .i64 e.rev) := ⟨_, rfl⟩
      have h13 : w3.heap[g]? = some (.cells #[.int .i64 e.rev, .map mb] 164 (0, 0)) := by rw [hw3]; exact one_set h1 _
      have hn3 : w3.heap[w.heap.size]? = some (effO e) := by rw [hw3]; exact (Below.heap_setCell _ _ _ _ hgn).trans hn2
      have hT3 : Touch P w w3 := by
        rw [hw3]
        exact (Touch.of_below P hbT).trans (touch_set w2 g 0 _) (fun i _ e => by rw [e]; exact h4)
      have HW3 := Lib.hid hw3
      have hFin : ∀ (b n : Nat) (P' : Nat → Prop) (W V : World), W.heap[g]? = some (.cells #[.int .i64 e.rev, .map (some b)] 164 (0, 0)) → b ≠ g → Touch P w W → P' g → P' b → (∀ i, P' i → P i ∨ w.heap.size ≤ i) → (∀ i, P' i → i < W.heap.size) → (P b ∨ w.heap.size ≤ b) → MapIs V b n (putE e.key.data.toList (.agg #[.string e.key, .string e.val, .int .i64 e.rev]) (entsV S.L)) → W.grownBy V (some b) →
          ∃ P', KvAt V g P' ⟨e.rev, putE (kl e.key) (e.val, e.rev) S.L⟩ ∧ (∀ i, P' i → P i ∨ w.heap.size ≤ i) ∧ Touch P w V := by
        intro b n P' W V q1 q2 q3 q4 q5 q6 q7 q8 q9 q10
        rw [← itV_key e.key (e.val, e.rev), ← ents_put] at q9
        have hm6 := q9.tight
        refine ⟨P', ⟨some b, (q10.block g (heap_lt q1) (fun e => q2 (Option.some.inj e).symm)).trans q1, fun b' e => ?_, (fun e => by cases e), q4, fun i hi => Nat.lt_of_lt_of_le (q7 i hi) q10.size⟩, q6, ?_⟩
        · cases e
          refine ⟨?_, q5⟩
          unfold entsV at hm6 ⊢
          rw [List.length_map] at hm6
          exact hm6
        · refine ⟨q10.os.trans q3.1, q10.tape.trans q3.2.1, q10.output.trans q3.2.2.1, Nat.le_trans q3.2.2.2.1 q10.size, fun k hk hnk => ?_⟩
          have hkb : k ≠ b := fun e => by
            subst e
            rcases q8 with q8 | q8
            · exact hnk q8
            · omega
          exact (q10.block k (Nat.lt_of_lt_of_le hk q3.2.2.2.1) (fun e => hkb (Option.some.inj e))).trans (q3.2.2.2.2 k hk hnk)
      have HF := Lib.hid hFin
      clear hFin
      have h7 : ∀ i, P i → i < w.heap.size := by
        obtain ⟨_, _, _, _, _, h7⟩ := HH.out
        exact h7
      cases mb with
      | some b =>
        obtain ⟨hM, hPb⟩ := h2 b rfl
        have hbg : b ≠ g := hM.ne h1
        have hM3 : MapIs w3 b S.L.length (entsV S.L) := hM.heap (by rw [hw3]; exact Below.heap_setCell _ _ _ _ hbg)
        have HX := Lib.hid (And.intro h13 (And.intro hM3 (And.intro hT3 (And.intro h4 (And.intro hPb (And.intro hbg h7))))))
        have HC3 := Lib.hid (And.intro (cell1 h13) (four hn3))
        clear h1 h2 h3 h4 h5 hM hPb hn2 hgn hbg hbT hw3 h13 hM3 hn3 hT3 hb2 h7
        go_upto_region 11 with fail
        rw [← HW3.out]
        clear HW3 c0 c1 f0 f1 e0 e1 e2 e3
        obtain ⟨c1, e0, e1, e2, e3, -⟩ := HC3.out
        go_still_tail 13, (by kernel_rfl)
        change wpList _ _ _ _ _ w3.drew
        have hM4 : MapIs w3.drew b S.L.length (entsV S.L) := HX.out.2.1
        go_wp2_with (first
          | (at_mapUpdate; refine wpList_putE rfl (.tmp 36) (.tmp 38) (.tmp 45) rfl b S.L.length (entsV S.L) rfl hM4 (by unfold maxLen; omega) e.key hs (.agg #[.string e.key, .string e.val, .int .i64 e.rev]) rfl rfl ?_; intro w5 hm5 hg5)
          | go_in)
        go_ret
        obtain ⟨h13, hM3, hT3, h4, hPb, hbg, h7⟩ := HX.out
        exact ⟨rfl, HF.out b _ P w3.drew w5 h13 hbg hT3 h4 hPb (fun i hi => Or.inl hi) (fun i hi => Nat.lt_of_lt_of_le (h7 i hi) hT3.2.2.2.1) (Or.inl hPb) hm5 hg5⟩
      | none =>
        have hL : S.L = [] := h3 rfl
        have hz3 : w3.heap.size = w2.heap.size := by rw [hw3]; simp [World.setCell]
        obtain ⟨w4, hw4⟩ : ∃ w4, w4 = (w3.alloc (.map #[] 0)).setCell ⟨g, 1, none⟩ (.map (some w2.heap.size)) := ⟨_, rfl⟩
        have hz4 : w4.heap.size = w2.heap.size + 1 := by rw [hw4]; simp [World.setCell, hz3]
        have hzw : w.heap.size < w2.heap.size := heap_lt hn2
        have hgl : g < w2.heap.size := heap_lt h1
        have hgl3 : g < w3.heap.size := heap_lt h13
        have h14 : w4.heap[g]? = some (.cells #[.int .i64 e.rev, .map (some w2.heap.size)] 164 (0, 0)) := by
          rw [hw4]
          have := dset ((Below.heap_alloc w3 (.map #[] 0) g hgl3).trans h13) 1 (.map (some w2.heap.size))
          simpa using this
        have hM3 : MapIs w4 w2.heap.size 0 [] := by
          rw [hw4, ← hz3]
          exact (MapIs.made w3).heap (Below.heap_setCell _ _ _ _ (by simp only []; omega))
        have hn4 : w4.heap[w.heap.size]? = some (effO e) := by
          rw [hw4]
          exact ((Below.heap_setCell _ _ _ _ hgn).trans (Below.heap_alloc w3 _ _ (by omega))).trans hn3
        have hT4 : Touch P w w4 := by
          rw [hw4]
          exact (hT3.trans (Touch.of_below P (belNew w3 _)) (fun _ _ h => h)).trans (touch_set _ g 1 _) (fun i _ e => by rw [e]; exact h4)
        clear hgl3
        have HX := Lib.hid (And.intro h14 (And.intro hM3 (And.intro hT4 (And.intro h4 (And.intro (show w2.heap.size ≠ g by omega) (And.intro h7 (And.intro hz4 hzw)))))))
        have HC3 := Lib.hid (And.intro (cell1 h14) (four hn4))
        have HW4 := Lib.hid hw4
        have HL := Lib.hid hL
        have HZ3 := Lib.hid hz3
        have hA3 : (w3.alloc (.map #[] 0)).heap[g]? = some (.cells #[.int .i64 e.rev, .map none] 164 (0, 0)) := (Below.heap_alloc w3 _ g (heap_lt h13)).trans h13
        have HC1 := Lib.hid (And.intro (cell1 h13) (And.intro (froz h13 1) (And.intro (cell1 hA3) (And.intro (froz hA3 1) (four hn3)))))
        clear hA3
        clear h1 h2 h3 h4 h5 hn2 hgn hbT hw3 h13 hM3 hn3 hT3 hb2 h7 h14 hn4 hT4 hw4 hL hz3 hz4 hzw hgl
        go_upto_region 9 with fail
        rw [← HW3.out]
        clear c0 c1 f0 f1 e0 e1 e2 e3
        obtain ⟨c1, f1, c1a, f1a, e0, e1, e2, e3, -⟩ := HC1.out
        go_upto_region 11 with fail
        rw [HZ3.out, ← HW4.out]
        clear HC1
        clear HW3 HW4 c1 f1 c1a f1a e0 e1 e2 e3
        obtain ⟨c1, e0, e1, e2, e3, -⟩ := HC3.out
        clear hmm
        go_still_tail 13, (by kernel_rfl)
        change wpList _ _ _ _ _ w4.drew
        have hM4 : MapIs w4.drew w2.heap.size 0 (entsV S.L) := by rw [HL.out]; exact HX.out.2.1
        go_wp2_with (first
          | (at_mapUpdate; refine wpList_putE rfl (.tmp 36) (.tmp 38) (.tmp 45) rfl w2.heap.size 0 (entsV S.L) rfl hM4 (by unfold maxLen; omega) e.key hs (.agg #[.string e.key, .string e.val, .int .i64 e.rev]) rfl rfl ?_; intro w5 hm5 hg5)
          | go_in)
        go_ret
        obtain ⟨h14, hM3, hT4, h4, hbg, h7, hz4, hzw⟩ := HX.out
        refine ⟨rfl, HF.out w2.heap.size _ (fun i => P i ∨ i = w2.heap.size) w4.drew w5 h14 hbg hT4 (Or.inl h4) (Or.inr rfl) (fun i hi => ?_) (fun i hi => ?_) (Or.inr (by omega)) hm5 hg5⟩
        · rcases hi with hi | hi
          · exact Or.inl hi
          · exact Or.inr (by omega)
        · show i < w4.heap.size
          rcases hi with hi | hi
          · have := h7 i hi; omega
          · omega
end
section
open Go.RowKit Go.Maps
/-- What may be a state: keys rise, all items may be, and none is newer than the state. -/
def KOk (S : KSt) : Prop := Rising S.L ∧ 0 ≤ S.rev
def doK (S : KSt) (o : KOp) : KRes × KSt := ((planK S o).1, if (planK S o).2.2 = true then applyK S (planK S o).2.1 else S)
theorem refB_zero : ∀ mw k3 th re ie st mx : Bool, refB mw k3 th re ie st mx = 0 → mw = true ∧ (k3 = false → th = true) ∧ (k3 = true → th = false) ∧ mx = false := by decide
theorem refuse_zero {S : KSt} {o : KOp} (h : refuse S o = 0) : mayW o = true ∧ ((o.kind == 3) = false → there S.L o.key = true) ∧ ((o.kind == 3) = true → there S.L o.key = false) ∧ (S.rev == 9223372036854775807) = false := refB_zero _ _ _ _ _ _ _ h
theorem mayV_emp : mayV emp = true := rfl
theorem plan_may {S : KSt} {o : KOp} (h : (planK S o).2.2 = true) : (planK S o).2.1.key = o.key ∧ mayA S (planK S o).2.1 = true := by
  unfold planK at h ⊢
  by_cases h1 : o.kind = 1
  · rw [if_pos h1] at h; cases h
  · rw [if_neg h1] at h ⊢
    by_cases h2 : o.kind = 2
    · rw [if_pos h2] at h; cases h
    · rw [if_neg h2] at h ⊢
      by_cases h3 : refuse S o = 0
      · rw [if_pos h3] at h ⊢
        obtain ⟨hw, ht, -, hx⟩ := refuse_zero h3
        unfold mayW at hw
        unfold effOf
        by_cases h5 : o.kind = 5
        · rw [if_neg (by omega), if_pos h5] at hw
          have ht' := ht (by simp; omega)
          have hx' : ¬ S.rev = 9223372036854775807 := by simpa using hx
          rw [if_pos h5]
          refine ⟨rfl, ?_⟩
          unfold mayA
          simp [hw, mayV_emp, ht', hx']
        · rw [if_neg h5]
          have hx' : ¬ S.rev = 9223372036854775807 := by simpa using hx
          by_cases h34 : o.kind = 3 ∨ o.kind = 4
          · rw [if_pos h34, Bool.and_eq_true] at hw
            refine ⟨rfl, ?_⟩
            unfold mayA
            simp [hw.1, hw.2, hx']
          · rw [if_neg h34, if_neg h5] at hw; cases hw
      · rw [if_neg h3] at h; cases h
end
section
open Go.RowKit Go.Maps
/-- A state that the law has made since world w0. -/
def KvW (w0 w : World) (g : Nat) (P : Nat → Prop) (S : KSt) : Prop := KvAt w g P S ∧ (∀ i, P i → w0.heap.size ≤ i) ∧ Below w0.heap.size w0 w
theorem KvW.below {w0 w w' : World} {g : Nat} {P : Nat → Prop} {S : KSt} (h : KvW w0 w g P S) (hb : Below w.heap.size w w') : KvW w0 w' g P S := ⟨h.1.below hb, h.2.1, h.2.2.trans (hb.mono h.2.2.size)⟩
theorem KvAt.own {w : World} {g : Nat} {P : Nat → Prop} {S : KSt} (h : KvAt w g P S) : ∀ i, P i → i < w.heap.size := by
  obtain ⟨_, _, _, _, _, h7⟩ := h
  exact h7
theorem new_step (w0 w : World) (hb : Below w0.heap.size w0 w) : Calls Tryz.prog 58 #[] w fun e w' => ∃ g, e = .returned (ptr g) ∧ KvW w0 w' g (· = g) ⟨0, []⟩ ∧ Below w.heap.size w w' :=
  (new_kv w).mono fun e w' ⟨g, he, hk, hg, hb2⟩ => ⟨g, he, ⟨hk, fun i e => by rw [e]; exact Nat.le_trans hb.size hg, hb.trans (hb2.mono hb.size)⟩, hb2⟩
abbrev strA : ByteArray := ⟨#[97]⟩
abbrev stA1 : KSt := ⟨1, [([97], (emp, 1))]⟩
abbrev stA2 : KSt := ⟨2, [([97], (emp, 2))]⟩
theorem do1 : doK ⟨0, []⟩ ⟨3, strA, emp, 0, emp, 0⟩ = (⟨0, 1, emp, []⟩, ⟨1, [([97], (emp, 1))]⟩) := by
  simp only [doK, planK, refuse, eq_empty]
  rfl
theorem do2 : doK ⟨1, [([97], (emp, 1))]⟩ ⟨4, strA, emp, 1, emp, 0⟩ = (⟨0, 2, emp, []⟩, ⟨2, [([97], (emp, 2))]⟩) := by
  simp only [doK, planK, refuse, eq_empty]
  rfl
theorem do3 : doK ⟨2, [([97], (emp, 2))]⟩ ⟨4, strA, emp, 1, emp, 0⟩ = (⟨8, 0, emp, []⟩, ⟨2, [([97], (emp, 2))]⟩) := by
  simp only [doK, planK, refuse, eq_empty]
  rfl
end
section
open Go.RowKit Go.Maps
instance : Inhabited KOp := ⟨⟨0, emp, emp, 0, emp, 0⟩⟩
def SeesOp9 (w : World) (a : Addr) (o : KOp) : Prop :=
  w.cell? a = some (.int .i64 o.kind) ∧ w.cell? (a.add 1) = some (.string o.key) ∧ w.cell? (a.add 2) = some (.string o.val) ∧ w.cell? (a.add 3) = some (.int .i64 o.rev) ∧ w.cell? (a.add 4) = some (.string o.iff) ∧ w.cell? (a.add 5) = some (.int .i64 o.ifRev)
def Op9Ok (o : KOp) : Prop := o.key.size ≤ maxLen ∧ o.val.size ≤ maxLen ∧ o.iff.size ≤ maxLen
def ArgOps9 (w : World) (v : Value) (os : List KOp) : Prop :=
  (∃ (ao : Option Addr) (c : Nat), v = .slice ao os.length c ∧ os.length ≤ c ∧ (ao = none → os = []) ∧ ∀ a, ao = some a → ∀ i, i < os.length → SeesOp9 w (a.add (i * 6)) (os.getD i default)) ∧ (∀ o ∈ os, Op9Ok o) ∧ os.length ≤ maxLen
section
open Go.ChangeShapes Go.WideShapes Go.ChangeAt
variable {H : Type} {enc : TypeId × Value → H} {P : Program} {w : World} {base : Nat} {held : Bool}
/-- A slice of structs: each element's cells, each field's own reading, and each element's datum. -/
theorem open_structsD {t e : TypeId} {fs : Array Field} {fuel : Nat} {cs : List Value} {x : DataW H × List MemPlace} (ht : P.underlying t = some (.slice e)) (he : P.underlying e = some (.struct fs))
    (h : DataW.trod enc P w base (fun _ => true) held fuel t cs = some x) :
    cs = [.slice none 0 0] ∨ ∃ (a : Addr) (len cap n : Nat) (D : Nat → DataW H) (rest : List (DataW H)), cs = [.slice (some a) len cap] ∧ len ≤ cap ∧ cap ≤ maxLen ∧ x.1 = .slice ((List.range len).map D) rest ∧ ∀ i, i < cap → ∃ (vs : List Value) (xs : List (DataW H × List MemPlace)), vs.length = P.cellsOf e ∧ (∀ j, j < P.cellsOf e → w.cell? (a.add (i * P.cellsOf e + j)) = vs[j]?) ∧ D i = .agg (xs.map (·.1)) ∧
      ∀ (j : Nat) (f : Field), fs[j]? = some f → ∃ y, xs[j]? = some y ∧ DataW.trod enc P w base (fun _ => true) held n f.type ((vs.drop f.offset).take (P.cellsOf f.type)) = some y := by
  rcases Go.Deep.open_slice ht h with h0 | ⟨a, len, cap, m, n, D, Pl, rfl, hb, hl, hm, hmm, rfl, hx⟩
  · exact Or.inl h0.1
  right
  simp only [if_true] at hmm
  have hmm' := hmm.symm
  subst hmm'
  refine ⟨a, len, cap, n - 1, D, _, rfl, hl, hm, rfl, fun i hi => ?_⟩
  obtain ⟨cs', h1, h2⟩ := hx i hi
  obtain ⟨_, hlen, hcell⟩ := World.cells?_some h1
  obtain ⟨xs, k, hk, hxe, _, hxl, hf⟩ := DataW.trod_struct he h2
  have hk' : k = n - 1 := by omega
  subst hk'
  refine ⟨cs', xs, hlen, fun j hj => ?_, (Prod.mk.inj hxe).1, fun j f hjf => ?_⟩
  · have := hcell j hj
    rwa [Go.Deep.add_add] at this
  · have hj : j < fs.size := by
      rcases Nat.lt_or_ge j fs.size with h | h
      · exact h
      · rw [Array.getElem?_eq_none h] at hjf; cases hjf
    have hx : xs[j]? = some (xs[j]'(by omega)) := List.getElem?_eq_getElem (by omega)
    exact ⟨xs[j]'(by omega), hx, by rw [hf j f hjf, hx]⟩
end
section
open Go.ChangeShapes Go.WideShapes Go.ChangeAt
variable {H : Type} {enc : TypeId × Value → H} {W : World} {base : Nat} {v : Value} {d : DataW H} {p : List MemPlace}
theorem cellsOp9 : Tryz.prog.cellsOf 35 = 6 := by kernel_rfl
theorem cellsIt9 : Tryz.prog.cellsOf 118 = 3 := by kernel_rfl
set_option maxRecDepth 100000 in
theorem open_ops9 (hval : Value.okWide Tryz.prog W .any base 74 v) (h : DataW.Trod enc Tryz.prog W 0 (fun _ => true) true 74 v d p) : ∃ os, ArgOps9 W v os := by
  obtain ⟨a0, len, cap, rfl⟩ := okWide_slice Tryz.underlying74 hval
  obtain ⟨fuel, hf⟩ := h
  rcases open_structsD Tryz.underlying74 Tryz.underlying35 hf with hcs | ⟨a, len', cap', n, D, rest, hcs, hl, hm, hxd, hall⟩
  · simp [Value.cells] at hcs
    obtain ⟨rfl, rfl, rfl⟩ := hcs
    exact ⟨[], ⟨none, 0, rfl, Nat.le_refl _, fun _ => rfl, fun a h => by cases h⟩, (fun p hp => by cases hp), Nat.zero_le _⟩
  · simp [Value.cells] at hcs
    obtain ⟨rfl, rfl, rfl⟩ := hcs
    rw [cellsOp9] at hall
    have each : ∀ i, i < cap → ∃ o : KOp, SeesOp9 W (a.add (i * 6)) o ∧ Op9Ok o := by
      intro i hi
      obtain ⟨vs, xs, hlen, hc, hDi, hfl⟩ := hall i hi
      match vs, hlen with
      | [v0, v1, v2, v3, v4, v5], _ =>
        obtain ⟨y0, z0, g0⟩ := hfl 0 _ rfl
        obtain ⟨y1, z1, g1⟩ := hfl 1 _ rfl
        obtain ⟨y2, z2, g2⟩ := hfl 2 _ rfl
        obtain ⟨y3, z3, g3⟩ := hfl 3 _ rfl
        obtain ⟨y4, z4, g4⟩ := hfl 4 _ rfl
        obtain ⟨y5, z5, g5⟩ := hfl 5 _ rfl
        rw [show Tryz.prog.cellsOf _ = 1 from by kernel_rfl] at g0 g1 g2 g3 g4 g5
        obtain ⟨x0, e0, _, w0⟩ := DataW.trod_int Tryz.underlying3 g0
        obtain ⟨x1, e1, _, w1⟩ := DataW.trod_string Tryz.underlying9 g1
        obtain ⟨x2, e2, _, w2⟩ := DataW.trod_string Tryz.underlying9 g2
        obtain ⟨x3, e3, _, w3⟩ := DataW.trod_int Tryz.underlying2 g3
        obtain ⟨x4, e4, _, w4⟩ := DataW.trod_string Tryz.underlying9 g4
        obtain ⟨x5, e5, _, w5⟩ := DataW.trod_int Tryz.underlying2 g5
        simp at e0 e1 e2 e3 e4 e5
        subst e0 e1 e2 e3 e4 e5
        have c0 := hc 0 (by omega)
        have c1 := hc 1 (by omega)
        have c2 := hc 2 (by omega)
        have c3 := hc 3 (by omega)
        have c4 := hc 4 (by omega)
        have c5 := hc 5 (by omega)
        rw [← Go.Deep.add_add] at c1 c2 c3 c4 c5
        rw [Nat.add_zero] at c0
        exact ⟨⟨x0, x1, x2, x3, x4, x5⟩, ⟨c0, c1, c2, c3, c4, c5⟩, ⟨w1, w2, w4⟩⟩
    obtain ⟨q, hq⟩ := Go.Deep.choose_lt each
    refine ⟨(List.range len).map q, ⟨some a, cap, by simp, by simp; omega, (fun h => by cases h), fun b hb i hi => ?_⟩, fun o ho => ?_, by simp; omega⟩
    · cases hb
      simp only [List.length_map, List.length_range] at hi
      have eg : ((List.range len).map q).getD i default = q i := by simp [List.getD, hi]
      rw [eg]
      exact (hq i (by omega)).1
    · obtain ⟨i, hi, rfl⟩ := List.mem_map.1 ho
      have hi' := List.mem_range.1 hi
      exact (hq i (by omega)).2
set_option maxRecDepth 100000 in
/-- One operation that came in. -/
theorem open_op9 (hval : Value.okWide Tryz.prog W .any base 35 v) (h : DataW.Trod enc Tryz.prog W 0 (fun _ => true) true 35 v d p) : ∃ o : KOp, v = opV o ∧ Op9Ok o := by
  obtain ⟨cs, rfl, hsz⟩ := okWide_struct Tryz.underlying35 hval
  rw [cellsOp9] at hsz
  obtain ⟨fuel, hf⟩ := h
  obtain ⟨xs, k, hk, hxe, hlen, hxl, hfl⟩ := DataW.trod_struct Tryz.underlying35 hf
  obtain ⟨vs⟩ := cs
  match vs, hsz with
  | [v0, v1, v2, v3, v4, v5], _ =>
    match xs, hxl with
    | [y0, y1, y2, y3, y4, y5], _ =>
      have g0 := hfl 0 _ rfl
      have g1 := hfl 1 _ rfl
      have g2 := hfl 2 _ rfl
      have g3 := hfl 3 _ rfl
      have g4 := hfl 4 _ rfl
      have g5 := hfl 5 _ rfl
      rw [show Tryz.prog.cellsOf _ = 1 from by kernel_rfl] at g0 g1 g2 g3 g4 g5
      simp only [Value.cells, List.getElem?_cons_zero, List.getElem?_cons_succ] at g0 g1 g2 g3 g4 g5
      obtain ⟨x0, e0, _, w0⟩ := DataW.trod_int Tryz.underlying3 g0
      obtain ⟨x1, e1, _, w1⟩ := DataW.trod_string Tryz.underlying9 g1
      obtain ⟨x2, e2, _, w2⟩ := DataW.trod_string Tryz.underlying9 g2
      obtain ⟨x3, e3, _, w3⟩ := DataW.trod_int Tryz.underlying2 g3
      obtain ⟨x4, e4, _, w4⟩ := DataW.trod_string Tryz.underlying9 g4
      obtain ⟨x5, e5, _, w5⟩ := DataW.trod_int Tryz.underlying2 g5
      simp at e0 e1 e2 e3 e4 e5
      subst e0 e1 e2 e3 e4 e5
      exact ⟨⟨x0, x1, x2, x3, x4, x5⟩, rfl, ⟨w1, w2, w4⟩⟩
end
end
section
open Go.RowKit Go.Maps
def cutB (s : ByteArray) (n : Nat) : ByteArray := if n < s.size then s.extract 0 n else s
def ours (o : KOp) : KOp := { o with key := cutB o.key 140, val := cutB o.val 100 }
theorem cutB_le (s : ByteArray) (n : Nat) : (cutB s n).size ≤ n := by
  unfold cutB
  split
  · rw [ByteArray.size_extract]; omega
  · omega
abbrev opR (o : KOp) : Obj := .cells #[.int .i64 o.kind, .string o.key, .string o.val, .int .i64 o.rev, .string o.iff, .int .i64 o.ifRev] 35
abbrev op0 : KOp := ⟨0, emp, emp, 0, emp, 0⟩
theorem six {w : World} {g : Nat} {a b c d e f : Value} {t : TypeId} (h : w.heap[g]? = some (.cells #[a, b, c, d, e, f] t (0, 0))) : w.cell? ⟨g, 0, none⟩ = some a ∧ w.cell? ⟨g, 1, none⟩ = some b ∧ w.cell? ⟨g, 2, none⟩ = some c ∧ w.cell? ⟨g, 3, none⟩ = some d ∧ w.cell? ⟨g, 4, none⟩ = some e ∧ w.cell? ⟨g, 5, none⟩ = some f ∧
    w.frozen? ⟨g, 0, none⟩ = false ∧ w.frozen? ⟨g, 1, none⟩ = false ∧ w.frozen? ⟨g, 2, none⟩ = false ∧ w.frozen? ⟨g, 3, none⟩ = false ∧ w.frozen? ⟨g, 4, none⟩ = false ∧ w.frozen? ⟨g, 5, none⟩ = false := by simp [World.cell?, World.frozen?, h]
def put6 (W : World) (g : Nat) (x y z u p q : Value) : World := (((((W.setCell ⟨g, 0, none⟩ x).setCell ⟨g, 1, none⟩ y).setCell ⟨g, 2, none⟩ z).setCell ⟨g, 3, none⟩ u).setCell ⟨g, 4, none⟩ p).setCell ⟨g, 5, none⟩ q
theorem put6_at {W : World} {g : Nat} {a b c d e f : Value} {t : TypeId} (h : W.heap[g]? = some (.cells #[a, b, c, d, e, f] t (0, 0))) (x y z u p q : Value) : (put6 W g x y z u p q).heap[g]? = some (.cells #[x, y, z, u, p, q] t (0, 0)) := by
  have h1 := dset h 0 x
  have h2 := dset h1 1 y
  have h3 := dset h2 2 z
  have h4 := dset h3 3 u
  have h5 := dset h4 4 p
  have h6 := dset h5 5 q
  unfold put6
  simpa using h6
theorem put6_ne {W : World} {g k : Nat} (h : k ≠ g) (x y z u p q : Value) : (put6 W g x y z u p q).heap[k]? = W.heap[k]? := by
  unfold put6
  rw [Below.heap_setCell _ _ _ _ h, Below.heap_setCell _ _ _ _ h, Below.heap_setCell _ _ _ _ h, Below.heap_setCell _ _ _ _ h, Below.heap_setCell _ _ _ _ h, Below.heap_setCell _ _ _ _ h]
theorem put6_below {n : Nat} {w W : World} (hb : Below n w W) {g : Nat} (hg : n ≤ g) (x y z u p q : Value) : Below n w (put6 W g x y z u p q) :=
  (((((hb.setCell (p := ⟨g, 0, none⟩) hg x).setCell (p := ⟨g, 1, none⟩) hg y).setCell (p := ⟨g, 2, none⟩) hg z).setCell (p := ⟨g, 3, none⟩) hg u).setCell (p := ⟨g, 4, none⟩) hg p).setCell (p := ⟨g, 5, none⟩) hg q
set_option maxRecDepth 100000 in
set_option maxHeartbeats 4000000 in
theorem ours_any (o : KOp) (w : World) : Calls Tryz.prog 13 #[opV o] w fun e w' => e = .returned (.tuple #[opV (ours o), opV (ours o)]) ∧ Below w.heap.size w w' := by
  obtain ⟨k, key, val, rv, ifk, ir⟩ := o
  by_cases hk : 140 < key.size
  · by_cases hv : 100 < val.size
    · have HO : Hid (ours ⟨k, key, val, rv, ifk, ir⟩ = ⟨k, (key.extract 0 140), (val.extract 0 100), rv, ifk, ir⟩) := Lib.hid (by unfold ours cutB; simp only []; rw [if_pos hk, if_pos hv])
      have d1 : decide ((140 : Int) < (key.size : Int)) = true := by simp; omega
      have b1 : (140 : Int) ≤ (key.size : Int) := by omega
      have d2 : decide ((100 : Int) < (val.size : Int)) = true := by simp; omega
      have b2 : (100 : Int) ≤ (val.size : Int) := by omega
      obtain ⟨W, hW, hb, hz, hA, hB, hC⟩ := alloc3 w (opR ⟨k, (key.extract 0 140), (val.extract 0 100), rv, ifk, ir⟩) (opO op0) (opR op0)
      have HW := Lib.hid hW
      clear hW hk hv
      go_enter Tryz.func13, Tryz.ntmps13
      go_upto_region 5 with fail
      change Code.wp _ _ _ _ (((w.alloc (opR ⟨k, (key.extract 0 140), (val.extract 0 100), rv, ifk, ir⟩)).alloc (opO op0)).alloc (opR op0))
      rw [← HW.out]
      clear HW d1 d2
      refine wp_region_held_drew (S := (fun W => Below w.heap.size w W ∧ W.heap[w.heap.size]? = some (opR ⟨k, (key.extract 0 140), (val.extract 0 100), rv, ifk, ir⟩))) (by kernel_rfl) ?_ (fun r0 => ?_)
      · exact ⟨bdrew hb, hA⟩
      obtain ⟨wd, hwd⟩ : ∃ wd, wd = W.drew := ⟨_, rfl⟩
      rw [← hwd] at r0 ⊢
      have hB2 : wd.heap[w.heap.size + 1]? = some (opO op0) := by rw [hwd]; exact hB
      have hC2 : wd.heap[w.heap.size + 1 + 1]? = some (opR op0) := by rw [hwd]; exact hC
      clear hwd hB hC hA hb hz
      refine wpAnyH_take (i := 0) (v := ?_) rfl (by kernel_rfl) (by kernel_rfl) (by kernel_rfl) (fun _ _ _ h => h) (Or.inl ⟨by rfl, ?_⟩) (by assumption) ?_
      rotate_left
      · intro wS hSw
        (try dsimp only at hSw)
        obtain ⟨sb, sh⟩ := hSw
        obtain ⟨k0, k1, k2, k3, k4, k5, -⟩ := six sh
        go_simp
        first | done | with_reducible rfl
      try simp only [Act.put, List.getElem_toArray, List.getElem_cons_zero, List.setIfInBounds_toArray, List.set_cons_zero, List.set_cons_succ]
      refine wpAnyH_take (i := 1) (v := ?_) rfl (by kernel_rfl) (by kernel_rfl) (by kernel_rfl) (fun _ _ _ h => h) (Or.inl ⟨by rfl, ?_⟩) (by assumption) ?_
      rotate_left
      · intro wS hSw
        (try dsimp only at hSw)
        obtain ⟨sb, sh⟩ := hSw
        obtain ⟨k0, k1, k2, k3, k4, k5, -⟩ := six sh
        go_simp
        first | done | with_reducible rfl
      try simp only [Act.put, List.getElem_toArray, List.getElem_cons_succ, List.getElem_cons_zero, List.setIfInBounds_toArray, List.set_cons_zero, List.set_cons_succ]
      refine wpAnyH_take (i := 2) (v := ?_) rfl (by kernel_rfl) (by kernel_rfl) (by kernel_rfl) (fun _ _ _ h => h) (Or.inl ⟨by rfl, ?_⟩) (by assumption) ?_
      rotate_left
      · intro wS hSw
        (try dsimp only at hSw)
        obtain ⟨sb, sh⟩ := hSw
        obtain ⟨k0, k1, k2, k3, k4, k5, -⟩ := six sh
        go_simp
        first | done | with_reducible rfl
      try simp only [Act.put, List.getElem_toArray, List.getElem_cons_succ, List.getElem_cons_zero, List.setIfInBounds_toArray, List.set_cons_zero, List.set_cons_succ]
      refine wpAnyH_take (i := 3) (v := ?_) rfl (by kernel_rfl) (by kernel_rfl) (by kernel_rfl) (fun _ _ _ h => h) (Or.inl ⟨by rfl, ?_⟩) (by assumption) ?_
      rotate_left
      · intro wS hSw
        (try dsimp only at hSw)
        obtain ⟨sb, sh⟩ := hSw
        obtain ⟨k0, k1, k2, k3, k4, k5, -⟩ := six sh
        go_simp
        first | done | with_reducible rfl
      try simp only [Act.put, List.getElem_toArray, List.getElem_cons_succ, List.getElem_cons_zero, List.setIfInBounds_toArray, List.set_cons_zero, List.set_cons_succ]
      refine wpAnyH_take (i := 4) (v := ?_) rfl (by kernel_rfl) (by kernel_rfl) (by kernel_rfl) (fun _ _ _ h => h) (Or.inl ⟨by rfl, ?_⟩) (by assumption) ?_
      rotate_left
      · intro wS hSw
        (try dsimp only at hSw)
        obtain ⟨sb, sh⟩ := hSw
        obtain ⟨k0, k1, k2, k3, k4, k5, -⟩ := six sh
        go_simp
        first | done | with_reducible rfl
      try simp only [Act.put, List.getElem_toArray, List.getElem_cons_succ, List.getElem_cons_zero, List.setIfInBounds_toArray, List.set_cons_zero, List.set_cons_succ]
      refine wpAnyH_take (i := 5) (v := ?_) rfl (by kernel_rfl) (by kernel_rfl) (by kernel_rfl) (fun _ _ _ h => h) (Or.inl ⟨by rfl, ?_⟩) (by assumption) ?_
      rotate_left
      · intro wS hSw
        (try dsimp only at hSw)
        obtain ⟨sb, sh⟩ := hSw
        obtain ⟨k0, k1, k2, k3, k4, k5, -⟩ := six sh
        go_simp
        first | done | with_reducible rfl
      try simp only [Act.put, List.getElem_toArray, List.getElem_cons_succ, List.getElem_cons_zero, List.setIfInBounds_toArray, List.set_cons_zero, List.set_cons_succ]
      refine wpAnyH_take (i := 6) (v := ?_) rfl (by kernel_rfl) (by kernel_rfl) (by kernel_rfl) (fun _ _ _ h => h) (Or.inl ⟨by rfl, ?_⟩) (by assumption) ?_
      rotate_left
      · intro wS hSw
        (try dsimp only at hSw)
        obtain ⟨sb, sh⟩ := hSw
        obtain ⟨k0, k1, k2, k3, k4, k5, -⟩ := six sh
        go_simp
        first | done | with_reducible rfl
      try simp only [Act.put, List.getElem_toArray, List.getElem_cons_succ, List.getElem_cons_zero, List.setIfInBounds_toArray, List.set_cons_zero, List.set_cons_succ]
      refine wpAnyH_take (i := 7) (v := ?_) rfl (by kernel_rfl) (by kernel_rfl) (by kernel_rfl) (fun _ _ _ h => h) (Or.inl ⟨by rfl, ?_⟩) (by assumption) ?_
      rotate_left
      · intro wS hSw
        (try dsimp only at hSw)
        obtain ⟨sb, sh⟩ := hSw
        obtain ⟨k0, k1, k2, k3, k4, k5, -⟩ := six sh
        go_simp
        first | done | with_reducible rfl
      try simp only [Act.put, List.getElem_toArray, List.getElem_cons_succ, List.getElem_cons_zero, List.setIfInBounds_toArray, List.set_cons_zero, List.set_cons_succ]
      refine wpAnyH_take (i := 8) (v := ?_) rfl (by kernel_rfl) (by kernel_rfl) (by kernel_rfl) (fun _ _ _ h => h) (Or.inl ⟨by rfl, ?_⟩) (by assumption) ?_
      rotate_left
      · intro wS hSw
        (try dsimp only at hSw)
        obtain ⟨sb, sh⟩ := hSw
        obtain ⟨k0, k1, k2, k3, k4, k5, -⟩ := six sh
        go_simp
        first | done | with_reducible rfl
      try simp only [Act.put, List.getElem_toArray, List.getElem_cons_succ, List.getElem_cons_zero, List.setIfInBounds_toArray, List.set_cons_zero, List.set_cons_succ]
      refine wpAnyH_take (i := 9) (v := ?_) rfl (by kernel_rfl) (by kernel_rfl) (by kernel_rfl) (fun _ _ _ h => h) (Or.inl ⟨by rfl, ?_⟩) (by assumption) ?_
      rotate_left
      · intro wS hSw
        (try dsimp only at hSw)
        obtain ⟨sb, sh⟩ := hSw
        obtain ⟨k0, k1, k2, k3, k4, k5, -⟩ := six sh
        go_simp
        first | done | with_reducible rfl
      try simp only [Act.put, List.getElem_toArray, List.getElem_cons_succ, List.getElem_cons_zero, List.setIfInBounds_toArray, List.set_cons_zero, List.set_cons_succ]
      refine wpAnyH_take (i := 10) (v := ?_) rfl (by kernel_rfl) (by kernel_rfl) (by kernel_rfl) (fun _ _ _ h => h) (Or.inl ⟨by rfl, ?_⟩) (by assumption) ?_
      rotate_left
      · intro wS hSw
        (try dsimp only at hSw)
        obtain ⟨sb, sh⟩ := hSw
        obtain ⟨k0, k1, k2, k3, k4, k5, -⟩ := six sh
        go_simp
        first | done | with_reducible rfl
      try simp only [Act.put, List.getElem_toArray, List.getElem_cons_succ, List.getElem_cons_zero, List.setIfInBounds_toArray, List.set_cons_zero, List.set_cons_succ]
      refine wpAnyH_take (i := 11) (v := ?_) rfl (by kernel_rfl) (by kernel_rfl) (by kernel_rfl) (fun _ _ _ h => h) (Or.inl ⟨by rfl, ?_⟩) (by assumption) ?_
      rotate_left
      · intro wS hSw
        (try dsimp only at hSw)
        obtain ⟨sb, sh⟩ := hSw
        obtain ⟨k0, k1, k2, k3, k4, k5, -⟩ := six sh
        go_simp
        first | done | with_reducible rfl
      try simp only [Act.put, List.getElem_toArray, List.getElem_cons_succ, List.getElem_cons_zero, List.setIfInBounds_toArray, List.set_cons_zero, List.set_cons_succ]
      refine wpAnyH_take (i := 12) (v := ?_) rfl (by kernel_rfl) (by kernel_rfl) (by kernel_rfl) (fun _ _ _ h => h) (Or.inl ⟨by rfl, ?_⟩) (by assumption) ?_
      rotate_left
      · intro wS hSw
        (try dsimp only at hSw)
        obtain ⟨sb, sh⟩ := hSw
        obtain ⟨k0, k1, k2, k3, k4, k5, -⟩ := six sh
        go_simp
        first | done | with_reducible rfl
      try simp only [Act.put, List.getElem_toArray, List.getElem_cons_succ, List.getElem_cons_zero, List.setIfInBounds_toArray, List.set_cons_zero, List.set_cons_succ]
      refine wpAnyH_take (i := 13) (v := ?_) rfl (by kernel_rfl) (by kernel_rfl) (by kernel_rfl) (fun _ _ _ h => h) (Or.inl ⟨by rfl, ?_⟩) (by assumption) ?_
      rotate_left
      · intro wS hSw
        (try dsimp only at hSw)
        obtain ⟨sb, sh⟩ := hSw
        obtain ⟨k0, k1, k2, k3, k4, k5, -⟩ := six sh
        go_simp
        first | done | with_reducible rfl
      try simp only [Act.put, List.getElem_toArray, List.getElem_cons_succ, List.getElem_cons_zero, List.setIfInBounds_toArray, List.set_cons_zero, List.set_cons_succ]
      have hC3 := (put6_ne (W := wd) (g := w.heap.size + 1) (k := w.heap.size + 1 + 1) (by omega) (.int .i64 k) (.string (key.extract 0 140)) (.string (val.extract 0 100)) (.int .i64 rv) (.string ifk) (.int .i64 ir)).trans hC2
      have hB3 := put6_at hB2 (.int .i64 k) (.string (key.extract 0 140)) (.string (val.extract 0 100)) (.int .i64 rv) (.string ifk) (.int .i64 ir)
      unfold put6 at hC3 hB3
      obtain ⟨a0, a1, a2, a3, a4, a5, b0, b1, b2, b3, b4, b5⟩ := six hB2
      obtain ⟨e0, e1, e2, e3, e4, e5, f0, f1, f2, f3, f4, f5⟩ := six hC3
      refine wpAnyH_ready (rs := [14]) (by kernel_rfl) (by simp) ?_
      refine AllReadyH.cons rfl (fun K hK => ?_) AllReadyH.nil
      go_simp
      refine hK.out _ _ ?_ (fun r8 => ?_)
      · exact ⟨put6_below r0.1 (by omega) _ _ _ _ _ _, (put6_ne (by omega) _ _ _ _ _ _).trans r0.2⟩
      try simp only [Act.put, List.getElem_toArray, List.getElem_cons_succ, List.getElem_cons_zero, List.setIfInBounds_toArray, List.set_cons_zero, List.set_cons_succ]
      refine wpAnyH_ready (rs := [15]) (by kernel_rfl) (by simp) ?_
      refine AllReadyH.cons rfl (fun K hK => ?_) AllReadyH.nil
      go_simp
      refine hK.out _ _ ?_ (fun r9 => ?_)
      · exact ⟨put6_below (put6_below r0.1 (by omega) _ _ _ _ _ _) (by omega) _ _ _ _ _ _, ((put6_ne (by omega) _ _ _ _ _ _).trans (put6_ne (by omega) _ _ _ _ _ _)).trans r0.2⟩
      try simp only [Act.put, List.getElem_toArray, List.getElem_cons_succ, List.getElem_cons_zero, List.setIfInBounds_toArray, List.set_cons_zero, List.set_cons_succ]
      refine wpAnyH_done (by kernel_rfl) ?_ _
      go_wp2_with fail
      have hE1 := (put6_ne (W := put6 wd (w.heap.size + 1) (.int .i64 k) (.string (key.extract 0 140)) (.string (val.extract 0 100)) (.int .i64 rv) (.string ifk) (.int .i64 ir)) (g := w.heap.size + 1 + 1) (k := w.heap.size + 1) (by omega) (.int .i64 k) (.string (key.extract 0 140)) (.string (val.extract 0 100)) (.int .i64 rv) (.string ifk) (.int .i64 ir)).trans (put6_at hB2 (.int .i64 k) (.string (key.extract 0 140)) (.string (val.extract 0 100)) (.int .i64 rv) (.string ifk) (.int .i64 ir))
      have hE2 := put6_at ((put6_ne (W := wd) (g := w.heap.size + 1) (k := w.heap.size + 1 + 1) (by omega) (.int .i64 k) (.string (key.extract 0 140)) (.string (val.extract 0 100)) (.int .i64 rv) (.string ifk) (.int .i64 ir)).trans hC2) (.int .i64 k) (.string (key.extract 0 140)) (.string (val.extract 0 100)) (.int .i64 rv) (.string ifk) (.int .i64 ir)
      have hE3 := put6_below (put6_below r0.1 (g := w.heap.size + 1) (by omega) (.int .i64 k) (.string (key.extract 0 140)) (.string (val.extract 0 100)) (.int .i64 rv) (.string ifk) (.int .i64 ir)) (g := w.heap.size + 1 + 1) (by omega) (.int .i64 k) (.string (key.extract 0 140)) (.string (val.extract 0 100)) (.int .i64 rv) (.string ifk) (.int .i64 ir)
      unfold put6 at hE1 hE2 hE3
      rw [HO.out]
      refine bodyPost_ret (v := .tuple #[opV ⟨k, (key.extract 0 140), (val.extract 0 100), rv, ifk, ir⟩, opV ⟨k, (key.extract 0 140), (val.extract 0 100), rv, ifk, ir⟩]) (by simp [results, Tryz.results13, go_sem, World.cell?, hE1, hE2]) rfl ⟨rfl, hE3⟩
    · have HO : Hid (ours ⟨k, key, val, rv, ifk, ir⟩ = ⟨k, (key.extract 0 140), val, rv, ifk, ir⟩) := Lib.hid (by unfold ours cutB; simp only []; rw [if_pos hk, if_neg hv])
      have d1 : decide ((140 : Int) < (key.size : Int)) = true := by simp; omega
      have b1 : (140 : Int) ≤ (key.size : Int) := by omega
      have d2 : decide ((100 : Int) < (val.size : Int)) = false := by simp; omega
      obtain ⟨W, hW, hb, hz, hA, hB, hC⟩ := alloc3 w (opR ⟨k, (key.extract 0 140), val, rv, ifk, ir⟩) (opO op0) (opR op0)
      have HW := Lib.hid hW
      clear hW hk hv
      go_enter Tryz.func13, Tryz.ntmps13
      go_upto_region 5 with fail
      change Code.wp _ _ _ _ (((w.alloc (opR ⟨k, (key.extract 0 140), val, rv, ifk, ir⟩)).alloc (opO op0)).alloc (opR op0))
      rw [← HW.out]
      clear HW d1 d2
      refine wp_region_held_drew (S := (fun W => Below w.heap.size w W ∧ W.heap[w.heap.size]? = some (opR ⟨k, (key.extract 0 140), val, rv, ifk, ir⟩))) (by kernel_rfl) ?_ (fun r0 => ?_)
      · exact ⟨bdrew hb, hA⟩
      obtain ⟨wd, hwd⟩ : ∃ wd, wd = W.drew := ⟨_, rfl⟩
      rw [← hwd] at r0 ⊢
      have hB2 : wd.heap[w.heap.size + 1]? = some (opO op0) := by rw [hwd]; exact hB
      have hC2 : wd.heap[w.heap.size + 1 + 1]? = some (opR op0) := by rw [hwd]; exact hC
      clear hwd hB hC hA hb hz
      refine wpAnyH_take (i := 0) (v := ?_) rfl (by kernel_rfl) (by kernel_rfl) (by kernel_rfl) (fun _ _ _ h => h) (Or.inl ⟨by rfl, ?_⟩) (by assumption) ?_
      rotate_left
      · intro wS hSw
        (try dsimp only at hSw)
        obtain ⟨sb, sh⟩ := hSw
        obtain ⟨k0, k1, k2, k3, k4, k5, -⟩ := six sh
        go_simp
        first | done | with_reducible rfl
      try simp only [Act.put, List.getElem_toArray, List.getElem_cons_zero, List.setIfInBounds_toArray, List.set_cons_zero, List.set_cons_succ]
      refine wpAnyH_take (i := 1) (v := ?_) rfl (by kernel_rfl) (by kernel_rfl) (by kernel_rfl) (fun _ _ _ h => h) (Or.inl ⟨by rfl, ?_⟩) (by assumption) ?_
      rotate_left
      · intro wS hSw
        (try dsimp only at hSw)
        obtain ⟨sb, sh⟩ := hSw
        obtain ⟨k0, k1, k2, k3, k4, k5, -⟩ := six sh
        go_simp
        first | done | with_reducible rfl
      try simp only [Act.put, List.getElem_toArray, List.getElem_cons_succ, List.getElem_cons_zero, List.setIfInBounds_toArray, List.set_cons_zero, List.set_cons_succ]
      refine wpAnyH_take (i := 2) (v := ?_) rfl (by kernel_rfl) (by kernel_rfl) (by kernel_rfl) (fun _ _ _ h => h) (Or.inl ⟨by rfl, ?_⟩) (by assumption) ?_
      rotate_left
      · intro wS hSw
        (try dsimp only at hSw)
        obtain ⟨sb, sh⟩ := hSw
        obtain ⟨k0, k1, k2, k3, k4, k5, -⟩ := six sh
        go_simp
        first | done | with_reducible rfl
      try simp only [Act.put, List.getElem_toArray, List.getElem_cons_succ, List.getElem_cons_zero, List.setIfInBounds_toArray, List.set_cons_zero, List.set_cons_succ]
      refine wpAnyH_take (i := 3) (v := ?_) rfl (by kernel_rfl) (by kernel_rfl) (by kernel_rfl) (fun _ _ _ h => h) (Or.inl ⟨by rfl, ?_⟩) (by assumption) ?_
      rotate_left
      · intro wS hSw
        (try dsimp only at hSw)
        obtain ⟨sb, sh⟩ := hSw
        obtain ⟨k0, k1, k2, k3, k4, k5, -⟩ := six sh
        go_simp
        first | done | with_reducible rfl
      try simp only [Act.put, List.getElem_toArray, List.getElem_cons_succ, List.getElem_cons_zero, List.setIfInBounds_toArray, List.set_cons_zero, List.set_cons_succ]
      refine wpAnyH_take (i := 4) (v := ?_) rfl (by kernel_rfl) (by kernel_rfl) (by kernel_rfl) (fun _ _ _ h => h) (Or.inl ⟨by rfl, ?_⟩) (by assumption) ?_
      rotate_left
      · intro wS hSw
        (try dsimp only at hSw)
        obtain ⟨sb, sh⟩ := hSw
        obtain ⟨k0, k1, k2, k3, k4, k5, -⟩ := six sh
        go_simp
        first | done | with_reducible rfl
      try simp only [Act.put, List.getElem_toArray, List.getElem_cons_succ, List.getElem_cons_zero, List.setIfInBounds_toArray, List.set_cons_zero, List.set_cons_succ]
      refine wpAnyH_take (i := 5) (v := ?_) rfl (by kernel_rfl) (by kernel_rfl) (by kernel_rfl) (fun _ _ _ h => h) (Or.inl ⟨by rfl, ?_⟩) (by assumption) ?_
      rotate_left
      · intro wS hSw
        (try dsimp only at hSw)
        obtain ⟨sb, sh⟩ := hSw
        obtain ⟨k0, k1, k2, k3, k4, k5, -⟩ := six sh
        go_simp
        first | done | with_reducible rfl
      try simp only [Act.put, List.getElem_toArray, List.getElem_cons_succ, List.getElem_cons_zero, List.setIfInBounds_toArray, List.set_cons_zero, List.set_cons_succ]
      refine wpAnyH_take (i := 6) (v := ?_) rfl (by kernel_rfl) (by kernel_rfl) (by kernel_rfl) (fun _ _ _ h => h) (Or.inl ⟨by rfl, ?_⟩) (by assumption) ?_
      rotate_left
      · intro wS hSw
        (try dsimp only at hSw)
        obtain ⟨sb, sh⟩ := hSw
        obtain ⟨k0, k1, k2, k3, k4, k5, -⟩ := six sh
        go_simp
        first | done | with_reducible rfl
      try simp only [Act.put, List.getElem_toArray, List.getElem_cons_succ, List.getElem_cons_zero, List.setIfInBounds_toArray, List.set_cons_zero, List.set_cons_succ]
      refine wpAnyH_take (i := 7) (v := ?_) rfl (by kernel_rfl) (by kernel_rfl) (by kernel_rfl) (fun _ _ _ h => h) (Or.inl ⟨by rfl, ?_⟩) (by assumption) ?_
      rotate_left
      · intro wS hSw
        (try dsimp only at hSw)
        obtain ⟨sb, sh⟩ := hSw
        obtain ⟨k0, k1, k2, k3, k4, k5, -⟩ := six sh
        go_simp
        first | done | with_reducible rfl
      try simp only [Act.put, List.getElem_toArray, List.getElem_cons_succ, List.getElem_cons_zero, List.setIfInBounds_toArray, List.set_cons_zero, List.set_cons_succ]
      refine wpAnyH_take (i := 8) (v := ?_) rfl (by kernel_rfl) (by kernel_rfl) (by kernel_rfl) (fun _ _ _ h => h) (Or.inl ⟨by rfl, ?_⟩) (by assumption) ?_
      rotate_left
      · intro wS hSw
        (try dsimp only at hSw)
        obtain ⟨sb, sh⟩ := hSw
        obtain ⟨k0, k1, k2, k3, k4, k5, -⟩ := six sh
        go_simp
        first | done | with_reducible rfl
      try simp only [Act.put, List.getElem_toArray, List.getElem_cons_succ, List.getElem_cons_zero, List.setIfInBounds_toArray, List.set_cons_zero, List.set_cons_succ]
      refine wpAnyH_take (i := 9) (v := ?_) rfl (by kernel_rfl) (by kernel_rfl) (by kernel_rfl) (fun _ _ _ h => h) (Or.inl ⟨by rfl, ?_⟩) (by assumption) ?_
      rotate_left
      · intro wS hSw
        (try dsimp only at hSw)
        obtain ⟨sb, sh⟩ := hSw
        obtain ⟨k0, k1, k2, k3, k4, k5, -⟩ := six sh
        go_simp
        first | done | with_reducible rfl
      try simp only [Act.put, List.getElem_toArray, List.getElem_cons_succ, List.getElem_cons_zero, List.setIfInBounds_toArray, List.set_cons_zero, List.set_cons_succ]
      refine wpAnyH_take (i := 10) (v := ?_) rfl (by kernel_rfl) (by kernel_rfl) (by kernel_rfl) (fun _ _ _ h => h) (Or.inl ⟨by rfl, ?_⟩) (by assumption) ?_
      rotate_left
      · intro wS hSw
        (try dsimp only at hSw)
        obtain ⟨sb, sh⟩ := hSw
        obtain ⟨k0, k1, k2, k3, k4, k5, -⟩ := six sh
        go_simp
        first | done | with_reducible rfl
      try simp only [Act.put, List.getElem_toArray, List.getElem_cons_succ, List.getElem_cons_zero, List.setIfInBounds_toArray, List.set_cons_zero, List.set_cons_succ]
      refine wpAnyH_take (i := 11) (v := ?_) rfl (by kernel_rfl) (by kernel_rfl) (by kernel_rfl) (fun _ _ _ h => h) (Or.inl ⟨by rfl, ?_⟩) (by assumption) ?_
      rotate_left
      · intro wS hSw
        (try dsimp only at hSw)
        obtain ⟨sb, sh⟩ := hSw
        obtain ⟨k0, k1, k2, k3, k4, k5, -⟩ := six sh
        go_simp
        first | done | with_reducible rfl
      try simp only [Act.put, List.getElem_toArray, List.getElem_cons_succ, List.getElem_cons_zero, List.setIfInBounds_toArray, List.set_cons_zero, List.set_cons_succ]
      refine wpAnyH_take (i := 12) (v := ?_) rfl (by kernel_rfl) (by kernel_rfl) (by kernel_rfl) (fun _ _ _ h => h) (Or.inl ⟨by rfl, ?_⟩) (by assumption) ?_
      rotate_left
      · intro wS hSw
        (try dsimp only at hSw)
        obtain ⟨sb, sh⟩ := hSw
        obtain ⟨k0, k1, k2, k3, k4, k5, -⟩ := six sh
        go_simp
        first | done | with_reducible rfl
      try simp only [Act.put, List.getElem_toArray, List.getElem_cons_succ, List.getElem_cons_zero, List.setIfInBounds_toArray, List.set_cons_zero, List.set_cons_succ]
      refine wpAnyH_take (i := 13) (v := ?_) rfl (by kernel_rfl) (by kernel_rfl) (by kernel_rfl) (fun _ _ _ h => h) (Or.inl ⟨by rfl, ?_⟩) (by assumption) ?_
      rotate_left
      · intro wS hSw
        (try dsimp only at hSw)
        obtain ⟨sb, sh⟩ := hSw
        obtain ⟨k0, k1, k2, k3, k4, k5, -⟩ := six sh
        go_simp
        first | done | with_reducible rfl
      try simp only [Act.put, List.getElem_toArray, List.getElem_cons_succ, List.getElem_cons_zero, List.setIfInBounds_toArray, List.set_cons_zero, List.set_cons_succ]
      have hC3 := (put6_ne (W := wd) (g := w.heap.size + 1) (k := w.heap.size + 1 + 1) (by omega) (.int .i64 k) (.string (key.extract 0 140)) (.string val) (.int .i64 rv) (.string ifk) (.int .i64 ir)).trans hC2
      have hB3 := put6_at hB2 (.int .i64 k) (.string (key.extract 0 140)) (.string val) (.int .i64 rv) (.string ifk) (.int .i64 ir)
      unfold put6 at hC3 hB3
      obtain ⟨a0, a1, a2, a3, a4, a5, b0, b1, b2, b3, b4, b5⟩ := six hB2
      obtain ⟨e0, e1, e2, e3, e4, e5, f0, f1, f2, f3, f4, f5⟩ := six hC3
      refine wpAnyH_ready (rs := [14]) (by kernel_rfl) (by simp) ?_
      refine AllReadyH.cons rfl (fun K hK => ?_) AllReadyH.nil
      go_simp
      refine hK.out _ _ ?_ (fun r8 => ?_)
      · exact ⟨put6_below r0.1 (by omega) _ _ _ _ _ _, (put6_ne (by omega) _ _ _ _ _ _).trans r0.2⟩
      try simp only [Act.put, List.getElem_toArray, List.getElem_cons_succ, List.getElem_cons_zero, List.setIfInBounds_toArray, List.set_cons_zero, List.set_cons_succ]
      refine wpAnyH_ready (rs := [15]) (by kernel_rfl) (by simp) ?_
      refine AllReadyH.cons rfl (fun K hK => ?_) AllReadyH.nil
      go_simp
      refine hK.out _ _ ?_ (fun r9 => ?_)
      · exact ⟨put6_below (put6_below r0.1 (by omega) _ _ _ _ _ _) (by omega) _ _ _ _ _ _, ((put6_ne (by omega) _ _ _ _ _ _).trans (put6_ne (by omega) _ _ _ _ _ _)).trans r0.2⟩
      try simp only [Act.put, List.getElem_toArray, List.getElem_cons_succ, List.getElem_cons_zero, List.setIfInBounds_toArray, List.set_cons_zero, List.set_cons_succ]
      refine wpAnyH_done (by kernel_rfl) ?_ _
      go_wp2_with fail
      have hE1 := (put6_ne (W := put6 wd (w.heap.size + 1) (.int .i64 k) (.string (key.extract 0 140)) (.string val) (.int .i64 rv) (.string ifk) (.int .i64 ir)) (g := w.heap.size + 1 + 1) (k := w.heap.size + 1) (by omega) (.int .i64 k) (.string (key.extract 0 140)) (.string val) (.int .i64 rv) (.string ifk) (.int .i64 ir)).trans (put6_at hB2 (.int .i64 k) (.string (key.extract 0 140)) (.string val) (.int .i64 rv) (.string ifk) (.int .i64 ir))
      have hE2 := put6_at ((put6_ne (W := wd) (g := w.heap.size + 1) (k := w.heap.size + 1 + 1) (by omega) (.int .i64 k) (.string (key.extract 0 140)) (.string val) (.int .i64 rv) (.string ifk) (.int .i64 ir)).trans hC2) (.int .i64 k) (.string (key.extract 0 140)) (.string val) (.int .i64 rv) (.string ifk) (.int .i64 ir)
      have hE3 := put6_below (put6_below r0.1 (g := w.heap.size + 1) (by omega) (.int .i64 k) (.string (key.extract 0 140)) (.string val) (.int .i64 rv) (.string ifk) (.int .i64 ir)) (g := w.heap.size + 1 + 1) (by omega) (.int .i64 k) (.string (key.extract 0 140)) (.string val) (.int .i64 rv) (.string ifk) (.int .i64 ir)
      unfold put6 at hE1 hE2 hE3
      rw [HO.out]
      refine bodyPost_ret (v := .tuple #[opV ⟨k, (key.extract 0 140), val, rv, ifk, ir⟩, opV ⟨k, (key.extract 0 140), val, rv, ifk, ir⟩]) (by simp [results, Tryz.results13, go_sem, World.cell?, hE1, hE2]) rfl ⟨rfl, hE3⟩
  · by_cases hv : 100 < val.size
    · have HO : Hid (ours ⟨k, key, val, rv, ifk, ir⟩ = ⟨k, key, (val.extract 0 100), rv, ifk, ir⟩) := Lib.hid (by unfold ours cutB; simp only []; rw [if_neg hk, if_pos hv])
      have d1 : decide ((140 : Int) < (key.size : Int)) = false := by simp; omega
      have d2 : decide ((100 : Int) < (val.size : Int)) = true := by simp; omega
      have b2 : (100 : Int) ≤ (val.size : Int) := by omega
      obtain ⟨W, hW, hb, hz, hA, hB, hC⟩ := alloc3 w (opR ⟨k, key, (val.extract 0 100), rv, ifk, ir⟩) (opO op0) (opR op0)
      have HW := Lib.hid hW
      clear hW hk hv
      go_enter Tryz.func13, Tryz.ntmps13
      go_upto_region 5 with fail
      change Code.wp _ _ _ _ (((w.alloc (opR ⟨k, key, (val.extract 0 100), rv, ifk, ir⟩)).alloc (opO op0)).alloc (opR op0))
      rw [← HW.out]
      clear HW d1 d2
      refine wp_region_held_drew (S := (fun W => Below w.heap.size w W ∧ W.heap[w.heap.size]? = some (opR ⟨k, key, (val.extract 0 100), rv, ifk, ir⟩))) (by kernel_rfl) ?_ (fun r0 => ?_)
      · exact ⟨bdrew hb, hA⟩
      obtain ⟨wd, hwd⟩ : ∃ wd, wd = W.drew := ⟨_, rfl⟩
      rw [← hwd] at r0 ⊢
      have hB2 : wd.heap[w.heap.size + 1]? = some (opO op0) := by rw [hwd]; exact hB
      have hC2 : wd.heap[w.heap.size + 1 + 1]? = some (opR op0) := by rw [hwd]; exact hC
      clear hwd hB hC hA hb hz
      refine wpAnyH_take (i := 0) (v := ?_) rfl (by kernel_rfl) (by kernel_rfl) (by kernel_rfl) (fun _ _ _ h => h) (Or.inl ⟨by rfl, ?_⟩) (by assumption) ?_
      rotate_left
      · intro wS hSw
        (try dsimp only at hSw)
        obtain ⟨sb, sh⟩ := hSw
        obtain ⟨k0, k1, k2, k3, k4, k5, -⟩ := six sh
        go_simp
        first | done | with_reducible rfl
      try simp only [Act.put, List.getElem_toArray, List.getElem_cons_zero, List.setIfInBounds_toArray, List.set_cons_zero, List.set_cons_succ]
      refine wpAnyH_take (i := 1) (v := ?_) rfl (by kernel_rfl) (by kernel_rfl) (by kernel_rfl) (fun _ _ _ h => h) (Or.inl ⟨by rfl, ?_⟩) (by assumption) ?_
      rotate_left
      · intro wS hSw
        (try dsimp only at hSw)
        obtain ⟨sb, sh⟩ := hSw
        obtain ⟨k0, k1, k2, k3, k4, k5, -⟩ := six sh
        go_simp
        first | done | with_reducible rfl
      try simp only [Act.put, List.getElem_toArray, List.getElem_cons_succ, List.getElem_cons_zero, List.setIfInBounds_toArray, List.set_cons_zero, List.set_cons_succ]
      refine wpAnyH_take (i := 2) (v := ?_) rfl (by kernel_rfl) (by kernel_rfl) (by kernel_rfl) (fun _ _ _ h => h) (Or.inl ⟨by rfl, ?_⟩) (by assumption) ?_
      rotate_left
      · intro wS hSw
        (try dsimp only at hSw)
        obtain ⟨sb, sh⟩ := hSw
        obtain ⟨k0, k1, k2, k3, k4, k5, -⟩ := six sh
        go_simp
        first | done | with_reducible rfl
      try simp only [Act.put, List.getElem_toArray, List.getElem_cons_succ, List.getElem_cons_zero, List.setIfInBounds_toArray, List.set_cons_zero, List.set_cons_succ]
      refine wpAnyH_take (i := 3) (v := ?_) rfl (by kernel_rfl) (by kernel_rfl) (by kernel_rfl) (fun _ _ _ h => h) (Or.inl ⟨by rfl, ?_⟩) (by assumption) ?_
      rotate_left
      · intro wS hSw
        (try dsimp only at hSw)
        obtain ⟨sb, sh⟩ := hSw
        obtain ⟨k0, k1, k2, k3, k4, k5, -⟩ := six sh
        go_simp
        first | done | with_reducible rfl
      try simp only [Act.put, List.getElem_toArray, List.getElem_cons_succ, List.getElem_cons_zero, List.setIfInBounds_toArray, List.set_cons_zero, List.set_cons_succ]
      refine wpAnyH_take (i := 4) (v := ?_) rfl (by kernel_rfl) (by kernel_rfl) (by kernel_rfl) (fun _ _ _ h => h) (Or.inl ⟨by rfl, ?_⟩) (by assumption) ?_
      rotate_left
      · intro wS hSw
        (try dsimp only at hSw)
        obtain ⟨sb, sh⟩ := hSw
        obtain ⟨k0, k1, k2, k3, k4, k5, -⟩ := six sh
        go_simp
        first | done | with_reducible rfl
      try simp only [Act.put, List.getElem_toArray, List.getElem_cons_succ, List.getElem_cons_zero, List.setIfInBounds_toArray, List.set_cons_zero, List.set_cons_succ]
      refine wpAnyH_take (i := 5) (v := ?_) rfl (by kernel_rfl) (by kernel_rfl) (by kernel_rfl) (fun _ _ _ h => h) (Or.inl ⟨by rfl, ?_⟩) (by assumption) ?_
      rotate_left
      · intro wS hSw
        (try dsimp only at hSw)
        obtain ⟨sb, sh⟩ := hSw
        obtain ⟨k0, k1, k2, k3, k4, k5, -⟩ := six sh
        go_simp
        first | done | with_reducible rfl
      try simp only [Act.put, List.getElem_toArray, List.getElem_cons_succ, List.getElem_cons_zero, List.setIfInBounds_toArray, List.set_cons_zero, List.set_cons_succ]
      refine wpAnyH_take (i := 6) (v := ?_) rfl (by kernel_rfl) (by kernel_rfl) (by kernel_rfl) (fun _ _ _ h => h) (Or.inl ⟨by rfl, ?_⟩) (by assumption) ?_
      rotate_left
      · intro wS hSw
        (try dsimp only at hSw)
        obtain ⟨sb, sh⟩ := hSw
        obtain ⟨k0, k1, k2, k3, k4, k5, -⟩ := six sh
        go_simp
        first | done | with_reducible rfl
      try simp only [Act.put, List.getElem_toArray, List.getElem_cons_succ, List.getElem_cons_zero, List.setIfInBounds_toArray, List.set_cons_zero, List.set_cons_succ]
      refine wpAnyH_take (i := 7) (v := ?_) rfl (by kernel_rfl) (by kernel_rfl) (by kernel_rfl) (fun _ _ _ h => h) (Or.inl ⟨by rfl, ?_⟩) (by assumption) ?_
      rotate_left
      · intro wS hSw
        (try dsimp only at hSw)
        obtain ⟨sb, sh⟩ := hSw
        obtain ⟨k0, k1, k2, k3, k4, k5, -⟩ := six sh
        go_simp
        first | done | with_reducible rfl
      try simp only [Act.put, List.getElem_toArray, List.getElem_cons_succ, List.getElem_cons_zero, List.setIfInBounds_toArray, List.set_cons_zero, List.set_cons_succ]
      refine wpAnyH_take (i := 8) (v := ?_) rfl (by kernel_rfl) (by kernel_rfl) (by kernel_rfl) (fun _ _ _ h => h) (Or.inl ⟨by rfl, ?_⟩) (by assumption) ?_
      rotate_left
      · intro wS hSw
        (try dsimp only at hSw)
        obtain ⟨sb, sh⟩ := hSw
        obtain ⟨k0, k1, k2, k3, k4, k5, -⟩ := six sh
        go_simp
        first | done | with_reducible rfl
      try simp only [Act.put, List.getElem_toArray, List.getElem_cons_succ, List.getElem_cons_zero, List.setIfInBounds_toArray, List.set_cons_zero, List.set_cons_succ]
      refine wpAnyH_take (i := 9) (v := ?_) rfl (by kernel_rfl) (by kernel_rfl) (by kernel_rfl) (fun _ _ _ h => h) (Or.inl ⟨by rfl, ?_⟩) (by assumption) ?_
      rotate_left
      · intro wS hSw
        (try dsimp only at hSw)
        obtain ⟨sb, sh⟩ := hSw
        obtain ⟨k0, k1, k2, k3, k4, k5, -⟩ := six sh
        go_simp
        first | done | with_reducible rfl
      try simp only [Act.put, List.getElem_toArray, List.getElem_cons_succ, List.getElem_cons_zero, List.setIfInBounds_toArray, List.set_cons_zero, List.set_cons_succ]
      refine wpAnyH_take (i := 10) (v := ?_) rfl (by kernel_rfl) (by kernel_rfl) (by kernel_rfl) (fun _ _ _ h => h) (Or.inl ⟨by rfl, ?_⟩) (by assumption) ?_
      rotate_left
      · intro wS hSw
        (try dsimp only at hSw)
        obtain ⟨sb, sh⟩ := hSw
        obtain ⟨k0, k1, k2, k3, k4, k5, -⟩ := six sh
        go_simp
        first | done | with_reducible rfl
      try simp only [Act.put, List.getElem_toArray, List.getElem_cons_succ, List.getElem_cons_zero, List.setIfInBounds_toArray, List.set_cons_zero, List.set_cons_succ]
      refine wpAnyH_take (i := 11) (v := ?_) rfl (by kernel_rfl) (by kernel_rfl) (by kernel_rfl) (fun _ _ _ h => h) (Or.inl ⟨by rfl, ?_⟩) (by assumption) ?_
      rotate_left
      · intro wS hSw
        (try dsimp only at hSw)
        obtain ⟨sb, sh⟩ := hSw
        obtain ⟨k0, k1, k2, k3, k4, k5, -⟩ := six sh
        go_simp
        first | done | with_reducible rfl
      try simp only [Act.put, List.getElem_toArray, List.getElem_cons_succ, List.getElem_cons_zero, List.setIfInBounds_toArray, List.set_cons_zero, List.set_cons_succ]
      refine wpAnyH_take (i := 12) (v := ?_) rfl (by kernel_rfl) (by kernel_rfl) (by kernel_rfl) (fun _ _ _ h => h) (Or.inl ⟨by rfl, ?_⟩) (by assumption) ?_
      rotate_left
      · intro wS hSw
        (try dsimp only at hSw)
        obtain ⟨sb, sh⟩ := hSw
        obtain ⟨k0, k1, k2, k3, k4, k5, -⟩ := six sh
        go_simp
        first | done | with_reducible rfl
      try simp only [Act.put, List.getElem_toArray, List.getElem_cons_succ, List.getElem_cons_zero, List.setIfInBounds_toArray, List.set_cons_zero, List.set_cons_succ]
      refine wpAnyH_take (i := 13) (v := ?_) rfl (by kernel_rfl) (by kernel_rfl) (by kernel_rfl) (fun _ _ _ h => h) (Or.inl ⟨by rfl, ?_⟩) (by assumption) ?_
      rotate_left
      · intro wS hSw
        (try dsimp only at hSw)
        obtain ⟨sb, sh⟩ := hSw
        obtain ⟨k0, k1, k2, k3, k4, k5, -⟩ := six sh
        go_simp
        first | done | with_reducible rfl
      try simp only [Act.put, List.getElem_toArray, List.getElem_cons_succ, List.getElem_cons_zero, List.setIfInBounds_toArray, List.set_cons_zero, List.set_cons_succ]
      have hC3 := (put6_ne (W := wd) (g := w.heap.size + 1) (k := w.heap.size + 1 + 1) (by omega) (.int .i64 k) (.string key) (.string (val.extract 0 100)) (.int .i64 rv) (.string ifk) (.int .i64 ir)).trans hC2
      have hB3 := put6_at hB2 (.int .i64 k) (.string key) (.string (val.extract 0 100)) (.int .i64 rv) (.string ifk) (.int .i64 ir)
      unfold put6 at hC3 hB3
      obtain ⟨a0, a1, a2, a3, a4, a5, b0, b1, b2, b3, b4, b5⟩ := six hB2
      obtain ⟨e0, e1, e2, e3, e4, e5, f0, f1, f2, f3, f4, f5⟩ := six hC3
      refine wpAnyH_ready (rs := [14]) (by kernel_rfl) (by simp) ?_
      refine AllReadyH.cons rfl (fun K hK => ?_) AllReadyH.nil
      go_simp
      refine hK.out _ _ ?_ (fun r8 => ?_)
      · exact ⟨put6_below r0.1 (by omega) _ _ _ _ _ _, (put6_ne (by omega) _ _ _ _ _ _).trans r0.2⟩
      try simp only [Act.put, List.getElem_toArray, List.getElem_cons_succ, List.getElem_cons_zero, List.setIfInBounds_toArray, List.set_cons_zero, List.set_cons_succ]
      refine wpAnyH_ready (rs := [15]) (by kernel_rfl) (by simp) ?_
      refine AllReadyH.cons rfl (fun K hK => ?_) AllReadyH.nil
      go_simp
      refine hK.out _ _ ?_ (fun r9 => ?_)
      · exact ⟨put6_below (put6_below r0.1 (by omega) _ _ _ _ _ _) (by omega) _ _ _ _ _ _, ((put6_ne (by omega) _ _ _ _ _ _).trans (put6_ne (by omega) _ _ _ _ _ _)).trans r0.2⟩
      try simp only [Act.put, List.getElem_toArray, List.getElem_cons_succ, List.getElem_cons_zero, List.setIfInBounds_toArray, List.set_cons_zero, List.set_cons_succ]
      refine wpAnyH_done (by kernel_rfl) ?_ _
      go_wp2_with fail
      have hE1 := (put6_ne (W := put6 wd (w.heap.size + 1) (.int .i64 k) (.string key) (.string (val.extract 0 100)) (.int .i64 rv) (.string ifk) (.int .i64 ir)) (g := w.heap.size + 1 + 1) (k := w.heap.size + 1) (by omega) (.int .i64 k) (.string key) (.string (val.extract 0 100)) (.int .i64 rv) (.string ifk) (.int .i64 ir)).trans (put6_at hB2 (.int .i64 k) (.string key) (.string (val.extract 0 100)) (.int .i64 rv) (.string ifk) (.int .i64 ir))
      have hE2 := put6_at ((put6_ne (W := wd) (g := w.heap.size + 1) (k := w.heap.size + 1 + 1) (by omega) (.int .i64 k) (.string key) (.string (val.extract 0 100)) (.int .i64 rv) (.string ifk) (.int .i64 ir)).trans hC2) (.int .i64 k) (.string key) (.string (val.extract 0 100)) (.int .i64 rv) (.string ifk) (.int .i64 ir)
      have hE3 := put6_below (put6_below r0.1 (g := w.heap.size + 1) (by omega) (.int .i64 k) (.string key) (.string (val.extract 0 100)) (.int .i64 rv) (.string ifk) (.int .i64 ir)) (g := w.heap.size + 1 + 1) (by omega) (.int .i64 k) (.string key) (.string (val.extract 0 100)) (.int .i64 rv) (.string ifk) (.int .i64 ir)
      unfold put6 at hE1 hE2 hE3
      rw [HO.out]
      refine bodyPost_ret (v := .tuple #[opV ⟨k, key, (val.extract 0 100), rv, ifk, ir⟩, opV ⟨k, key, (val.extract 0 100), rv, ifk, ir⟩]) (by simp [results, Tryz.results13, go_sem, World.cell?, hE1, hE2]) rfl ⟨rfl, hE3⟩
    · have HO : Hid (ours ⟨k, key, val, rv, ifk, ir⟩ = ⟨k, key, val, rv, ifk, ir⟩) := Lib.hid (by unfold ours cutB; simp only []; rw [if_neg hk, if_neg hv])
      have d1 : decide ((140 : Int) < (key.size : Int)) = false := by simp; omega
      have d2 : decide ((100 : Int) < (val.size : Int)) = false := by simp; omega
      obtain ⟨W, hW, hb, hz, hA, hB, hC⟩ := alloc3 w (opR ⟨k, key, val, rv, ifk, ir⟩) (opO op0) (opR op0)
      have HW := Lib.hid hW
      clear hW hk hv
      go_enter Tryz.func13, Tryz.ntmps13
      go_upto_region 5 with fail
      change Code.wp _ _ _ _ (((w.alloc (opR ⟨k, key, val, rv, ifk, ir⟩)).alloc (opO op0)).alloc (opR op0))
      rw [← HW.out]
      clear HW d1 d2
      refine wp_region_held_drew (S := (fun W => Below w.heap.size w W ∧ W.heap[w.heap.size]? = some (opR ⟨k, key, val, rv, ifk, ir⟩))) (by kernel_rfl) ?_ (fun r0 => ?_)
      · exact ⟨bdrew hb, hA⟩
      obtain ⟨wd, hwd⟩ : ∃ wd, wd = W.drew := ⟨_, rfl⟩
      rw [← hwd] at r0 ⊢
      have hB2 : wd.heap[w.heap.size + 1]? = some (opO op0) := by rw [hwd]; exact hB
      have hC2 : wd.heap[w.heap.size + 1 + 1]? = some (opR op0) := by rw [hwd]; exact hC
      clear hwd hB hC hA hb hz
      refine wpAnyH_take (i := 0) (v := ?_) rfl (by kernel_rfl) (by kernel_rfl) (by kernel_rfl) (fun _ _ _ h => h) (Or.inl ⟨by rfl, ?_⟩) (by assumption) ?_
      rotate_left
      · intro wS hSw
        (try dsimp only at hSw)
        obtain ⟨sb, sh⟩ := hSw
        obtain ⟨k0, k1, k2, k3, k4, k5, -⟩ := six sh
        go_simp
        first | done | with_reducible rfl
      try simp only [Act.put, List.getElem_toArray, List.getElem_cons_zero, List.setIfInBounds_toArray, List.set_cons_zero, List.set_cons_succ]
      refine wpAnyH_take (i := 1) (v := ?_) rfl (by kernel_rfl) (by kernel_rfl) (by kernel_rfl) (fun _ _ _ h => h) (Or.inl ⟨by rfl, ?_⟩) (by assumption) ?_
      rotate_left
      · intro wS hSw
        (try dsimp only at hSw)
        obtain ⟨sb, sh⟩ := hSw
        obtain ⟨k0, k1, k2, k3, k4, k5, -⟩ := six sh
        go_simp
        first | done | with_reducible rfl
      try simp only [Act.put, List.getElem_toArray, List.getElem_cons_succ, List.getElem_cons_zero, List.setIfInBounds_toArray, List.set_cons_zero, List.set_cons_succ]
      refine wpAnyH_take (i := 2) (v := ?_) rfl (by kernel_rfl) (by kernel_rfl) (by kernel_rfl) (fun _ _ _ h => h) (Or.inl ⟨by rfl, ?_⟩) (by assumption) ?_
      rotate_left
      · intro wS hSw
        (try dsimp only at hSw)
        obtain ⟨sb, sh⟩ := hSw
        obtain ⟨k0, k1, k2, k3, k4, k5, -⟩ := six sh
        go_simp
        first | done | with_reducible rfl
      try simp only [Act.put, List.getElem_toArray, List.getElem_cons_succ, List.getElem_cons_zero, List.setIfInBounds_toArray, List.set_cons_zero, List.set_cons_succ]
      refine wpAnyH_take (i := 3) (v := ?_) rfl (by kernel_rfl) (by kernel_rfl) (by kernel_rfl) (fun _ _ _ h => h) (Or.inl ⟨by rfl, ?_⟩) (by assumption) ?_
      rotate_left
      · intro wS hSw
        (try dsimp only at hSw)
        obtain ⟨sb, sh⟩ := hSw
        obtain ⟨k0, k1, k2, k3, k4, k5, -⟩ := six sh
        go_simp
        first | done | with_reducible rfl
      try simp only [Act.put, List.getElem_toArray, List.getElem_cons_succ, List.getElem_cons_zero, List.setIfInBounds_toArray, List.set_cons_zero, List.set_cons_succ]
      refine wpAnyH_take (i := 4) (v := ?_) rfl (by kernel_rfl) (by kernel_rfl) (by kernel_rfl) (fun _ _ _ h => h) (Or.inl ⟨by rfl, ?_⟩) (by assumption) ?_
      rotate_left
      · intro wS hSw
        (try dsimp only at hSw)
        obtain ⟨sb, sh⟩ := hSw
        obtain ⟨k0, k1, k2, k3, k4, k5, -⟩ := six sh
        go_simp
        first | done | with_reducible rfl
      try simp only [Act.put, List.getElem_toArray, List.getElem_cons_succ, List.getElem_cons_zero, List.setIfInBounds_toArray, List.set_cons_zero, List.set_cons_succ]
      refine wpAnyH_take (i := 5) (v := ?_) rfl (by kernel_rfl) (by kernel_rfl) (by kernel_rfl) (fun _ _ _ h => h) (Or.inl ⟨by rfl, ?_⟩) (by assumption) ?_
      rotate_left
      · intro wS hSw
        (try dsimp only at hSw)
        obtain ⟨sb, sh⟩ := hSw
        obtain ⟨k0, k1, k2, k3, k4, k5, -⟩ := six sh
        go_simp
        first | done | with_reducible rfl
      try simp only [Act.put, List.getElem_toArray, List.getElem_cons_succ, List.getElem_cons_zero, List.setIfInBounds_toArray, List.set_cons_zero, List.set_cons_succ]
      refine wpAnyH_take (i := 6) (v := ?_) rfl (by kernel_rfl) (by kernel_rfl) (by kernel_rfl) (fun _ _ _ h => h) (Or.inl ⟨by rfl, ?_⟩) (by assumption) ?_
      rotate_left
      · intro wS hSw
        (try dsimp only at hSw)
        obtain ⟨sb, sh⟩ := hSw
        obtain ⟨k0, k1, k2, k3, k4, k5, -⟩ := six sh
        go_simp
        first | done | with_reducible rfl
      try simp only [Act.put, List.getElem_toArray, List.getElem_cons_succ, List.getElem_cons_zero, List.setIfInBounds_toArray, List.set_cons_zero, List.set_cons_succ]
      refine wpAnyH_take (i := 7) (v := ?_) rfl (by kernel_rfl) (by kernel_rfl) (by kernel_rfl) (fun _ _ _ h => h) (Or.inl ⟨by rfl, ?_⟩) (by assumption) ?_
      rotate_left
      · intro wS hSw
        (try dsimp only at hSw)
        obtain ⟨sb, sh⟩ := hSw
        obtain ⟨k0, k1, k2, k3, k4, k5, -⟩ := six sh
        go_simp
        first | done | with_reducible rfl
      try simp only [Act.put, List.getElem_toArray, List.getElem_cons_succ, List.getElem_cons_zero, List.setIfInBounds_toArray, List.set_cons_zero, List.set_cons_succ]
      refine wpAnyH_take (i := 8) (v := ?_) rfl (by kernel_rfl) (by kernel_rfl) (by kernel_rfl) (fun _ _ _ h => h) (Or.inl ⟨by rfl, ?_⟩) (by assumption) ?_
      rotate_left
      · intro wS hSw
        (try dsimp only at hSw)
        obtain ⟨sb, sh⟩ := hSw
        obtain ⟨k0, k1, k2, k3, k4, k5, -⟩ := six sh
        go_simp
        first | done | with_reducible rfl
      try simp only [Act.put, List.getElem_toArray, List.getElem_cons_succ, List.getElem_cons_zero, List.setIfInBounds_toArray, List.set_cons_zero, List.set_cons_succ]
      refine wpAnyH_take (i := 9) (v := ?_) rfl (by kernel_rfl) (by kernel_rfl) (by kernel_rfl) (fun _ _ _ h => h) (Or.inl ⟨by rfl, ?_⟩) (by assumption) ?_
      rotate_left
      · intro wS hSw
        (try dsimp only at hSw)
        obtain ⟨sb, sh⟩ := hSw
        obtain ⟨k0, k1, k2, k3, k4, k5, -⟩ := six sh
        go_simp
        first | done | with_reducible rfl
      try simp only [Act.put, List.getElem_toArray, List.getElem_cons_succ, List.getElem_cons_zero, List.setIfInBounds_toArray, List.set_cons_zero, List.set_cons_succ]
      refine wpAnyH_take (i := 10) (v := ?_) rfl (by kernel_rfl) (by kernel_rfl) (by kernel_rfl) (fun _ _ _ h => h) (Or.inl ⟨by rfl, ?_⟩) (by assumption) ?_
      rotate_left
      · intro wS hSw
        (try dsimp only at hSw)
        obtain ⟨sb, sh⟩ := hSw
        obtain ⟨k0, k1, k2, k3, k4, k5, -⟩ := six sh
        go_simp
        first | done | with_reducible rfl
      try simp only [Act.put, List.getElem_toArray, List.getElem_cons_succ, List.getElem_cons_zero, List.setIfInBounds_toArray, List.set_cons_zero, List.set_cons_succ]
      refine wpAnyH_take (i := 11) (v := ?_) rfl (by kernel_rfl) (by kernel_rfl) (by kernel_rfl) (fun _ _ _ h => h) (Or.inl ⟨by rfl, ?_⟩) (by assumption) ?_
      rotate_left
      · intro wS hSw
        (try dsimp only at hSw)
        obtain ⟨sb, sh⟩ := hSw
        obtain ⟨k0, k1, k2, k3, k4, k5, -⟩ := six sh
        go_simp
        first | done | with_reducible rfl
      try simp only [Act.put, List.getElem_toArray, List.getElem_cons_succ, List.getElem_cons_zero, List.setIfInBounds_toArray, List.set_cons_zero, List.set_cons_succ]
      refine wpAnyH_take (i := 12) (v := ?_) rfl (by kernel_rfl) (by kernel_rfl) (by kernel_rfl) (fun _ _ _ h => h) (Or.inl ⟨by rfl, ?_⟩) (by assumption) ?_
      rotate_left
      · intro wS hSw
        (try dsimp only at hSw)
        obtain ⟨sb, sh⟩ := hSw
        obtain ⟨k0, k1, k2, k3, k4, k5, -⟩ := six sh
        go_simp
        first | done | with_reducible rfl
      try simp only [Act.put, List.getElem_toArray, List.getElem_cons_succ, List.getElem_cons_zero, List.setIfInBounds_toArray, List.set_cons_zero, List.set_cons_succ]
      refine wpAnyH_take (i := 13) (v := ?_) rfl (by kernel_rfl) (by kernel_rfl) (by kernel_rfl) (fun _ _ _ h => h) (Or.inl ⟨by rfl, ?_⟩) (by assumption) ?_
      rotate_left
      · intro wS hSw
        (try dsimp only at hSw)
        obtain ⟨sb, sh⟩ := hSw
        obtain ⟨k0, k1, k2, k3, k4, k5, -⟩ := six sh
        go_simp
        first | done | with_reducible rfl
      try simp only [Act.put, List.getElem_toArray, List.getElem_cons_succ, List.getElem_cons_zero, List.setIfInBounds_toArray, List.set_cons_zero, List.set_cons_succ]
      have hC3 := (put6_ne (W := wd) (g := w.heap.size + 1) (k := w.heap.size + 1 + 1) (by omega) (.int .i64 k) (.string key) (.string val) (.int .i64 rv) (.string ifk) (.int .i64 ir)).trans hC2
      have hB3 := put6_at hB2 (.int .i64 k) (.string key) (.string val) (.int .i64 rv) (.string ifk) (.int .i64 ir)
      unfold put6 at hC3 hB3
      obtain ⟨a0, a1, a2, a3, a4, a5, b0, b1, b2, b3, b4, b5⟩ := six hB2
      obtain ⟨e0, e1, e2, e3, e4, e5, f0, f1, f2, f3, f4, f5⟩ := six hC3
      refine wpAnyH_ready (rs := [14]) (by kernel_rfl) (by simp) ?_
      refine AllReadyH.cons rfl (fun K hK => ?_) AllReadyH.nil
      go_simp
      refine hK.out _ _ ?_ (fun r8 => ?_)
      · exact ⟨put6_below r0.1 (by omega) _ _ _ _ _ _, (put6_ne (by omega) _ _ _ _ _ _).trans r0.2⟩
      try simp only [Act.put, List.getElem_toArray, List.getElem_cons_succ, List.getElem_cons_zero, List.setIfInBounds_toArray, List.set_cons_zero, List.set_cons_succ]
      refine wpAnyH_ready (rs := [15]) (by kernel_rfl) (by simp) ?_
      refine AllReadyH.cons rfl (fun K hK => ?_) AllReadyH.nil
      go_simp
      refine hK.out _ _ ?_ (fun r9 => ?_)
      · exact ⟨put6_below (put6_below r0.1 (by omega) _ _ _ _ _ _) (by omega) _ _ _ _ _ _, ((put6_ne (by omega) _ _ _ _ _ _).trans (put6_ne (by omega) _ _ _ _ _ _)).trans r0.2⟩
      try simp only [Act.put, List.getElem_toArray, List.getElem_cons_succ, List.getElem_cons_zero, List.setIfInBounds_toArray, List.set_cons_zero, List.set_cons_succ]
      refine wpAnyH_done (by kernel_rfl) ?_ _
      go_wp2_with fail
      have hE1 := (put6_ne (W := put6 wd (w.heap.size + 1) (.int .i64 k) (.string key) (.string val) (.int .i64 rv) (.string ifk) (.int .i64 ir)) (g := w.heap.size + 1 + 1) (k := w.heap.size + 1) (by omega) (.int .i64 k) (.string key) (.string val) (.int .i64 rv) (.string ifk) (.int .i64 ir)).trans (put6_at hB2 (.int .i64 k) (.string key) (.string val) (.int .i64 rv) (.string ifk) (.int .i64 ir))
      have hE2 := put6_at ((put6_ne (W := wd) (g := w.heap.size + 1) (k := w.heap.size + 1 + 1) (by omega) (.int .i64 k) (.string key) (.string val) (.int .i64 rv) (.string ifk) (.int .i64 ir)).trans hC2) (.int .i64 k) (.string key) (.string val) (.int .i64 rv) (.string ifk) (.int .i64 ir)
      have hE3 := put6_below (put6_below r0.1 (g := w.heap.size + 1) (by omega) (.int .i64 k) (.string key) (.string val) (.int .i64 rv) (.string ifk) (.int .i64 ir)) (g := w.heap.size + 1 + 1) (by omega) (.int .i64 k) (.string key) (.string val) (.int .i64 rv) (.string ifk) (.int .i64 ir)
      unfold put6 at hE1 hE2 hE3
      rw [HO.out]
      refine bodyPost_ret (v := .tuple #[opV ⟨k, key, val, rv, ifk, ir⟩, opV ⟨k, key, val, rv, ifk, ir⟩]) (by simp [results, Tryz.results13, go_sem, World.cell?, hE1, hE2]) rfl ⟨rfl, hE3⟩
end
section
open Go.RowKit Go.Maps
theorem field_code (a b c d : Value) (w : World) : (Instr.field 49 (.agg #[a, b, c, d]) 0).run Tryz.prog w = .ok a w := by kernel_rfl
theorem field_its (a b c d : Value) (w : World) : (Instr.field 49 (.agg #[a, b, c, d]) 3).run Tryz.prog w = .ok d w := by kernel_rfl
set_option maxRecDepth 100000 in
set_option maxHeartbeats 4000000 in
theorem plan_nil (o : KOp) (w : World) : Calls Tryz.prog 43 #[.pointer none, opV o] w fun e w' => e = .returned (.tuple #[resV 2 0 emp (.slice none 0 0), effV eff0, .bool false]) ∧ Below w.heap.size w w' := by
  obtain ⟨W, hW, hb, hz, hA, hB, hC⟩ := alloc3 w (opO o) (resO 0 0 emp (.slice none 0 0)) (effO eff0)
  have q := eqNilK
  have HW := Lib.hid hW
  have HB := Lib.hid hb
  have hE := plan_end (v := .slice none 0 0) (L := []) hb (n1 := w.heap.size + 1) (n2 := w.heap.size + 1 + 1) (by omega) (by omega) (by omega) hB hC (World.ownsRow_nil _ _ _ _) (.int .i64 2) (.int .i64 0) (.string emp) (.slice none 0 0) (.string emp) (.string emp) (.int .i64 0) (.bool false)
  unfold put4 at hE
  obtain ⟨a0, a1, a2, a3, b0, b1, b2, b3⟩ := four hB
  obtain ⟨e0, e1, e2, e3, f0, f1, f2, f3⟩ := four hC
  have HE := Lib.hid hE
  clear hW hA hB hC hb hz hE
  go_enter Tryz.func43, Tryz.ntmps43
  go_upto_region 1 with fail
  change Code.wp _ _ _ _ (((w.alloc (opO o)).alloc (resO 0 0 emp (.slice none 0 0))).alloc (effO eff0))
  rw [← HW.out]
  clear HW
  go_wp2_with fail
  have hE := HE.out
  refine bodyPost_ret (v := .tuple #[resV 2 0 emp (.slice none 0 0), effV eff0, .bool false]) (by simp [results, Tryz.results43, go_sem, World.cell?, hE.1, hE.2.1]) rfl ⟨rfl, hE.2.2.2⟩
end
section
open Go.RowKit Go.Maps
/-- May an item stand behind that key, in a state of that revision? -/
def itOkB (R : Int) (ahead : List UInt8) (p : KEnt) : Bool := mayK ⟨p.1.toArray⟩ && (mayV p.2.1 && (bytesBefore ahead p.1 && (decide (1 ≤ p.2.2) && decide (p.2.2 ≤ R))))
def standB (R : Int) : List UInt8 → List KEnt → Bool
  | _, [] => true
  | a, p :: r => itOkB R a p && standB R p.1 r
def ofB (R : Int) (L : List KEnt) : Bool := decide (0 ≤ R) && standB R [] L
theorem standB_append (R : Int) : ∀ (a : List UInt8) (T : List KEnt) (p : KEnt), standB R a (T ++ [p]) = (standB R a T && itOkB R ((T.getLast?.map (·.1)).getD a) p)
  | a, [], p => by simp [standB]
  | a, q :: T, p => by
    rw [List.cons_append, standB, standB_append R q.1 T p, standB, Bool.and_assoc]
    congr 2
    cases T with
    | nil => rfl
    | cons r T =>
      rw [List.getLast?_cons_cons]
      cases hx : (r :: T).getLast? with
      | none => simp at hx
      | some x => rfl
theorem standB_take {R : Int} : ∀ {a : List UInt8} {L : List KEnt} (_ : standB R a L = true) (i : Nat), standB R a (L.take i) = true
  | _, [], _, i => by simp [standB]
  | _, _ :: _, _, 0 => rfl
  | a, p :: L, h, i + 1 => by
    rw [standB, Bool.and_eq_true] at h
    rw [List.take_succ_cons, standB, Bool.and_eq_true]
    exact ⟨h.1, standB_take h.2 i⟩
theorem less_before : ∀ a b : List UInt8, Op.bytesLess a b = bytesBefore a b
  | [], [] => rfl
  | [], _ :: _ => rfl
  | _ :: _, [] => rfl
  | a :: r, b :: s => by unfold Op.bytesLess bytesBefore; rw [less_before r s]
theorem leq_not (a b : List UInt8) : (Op.bytesLess a b || (a == b)) = !(bytesBefore b a) := by
  rw [less_before]
  by_cases e : a = b
  · subst e
    simp [WideAt.bytes_irrefl]
  · have e2 : (a == b) = false := by simpa using e
    rw [e2, Bool.or_false]
    cases h1 : bytesBefore a b with
    | true =>
      cases h2 : bytesBefore b a with
      | true =>
        have h3 := WideShapes.bytes_trans a b a h1 h2
        rw [WideAt.bytes_irrefl] at h3
        cases h3
      | false => rfl
    | false =>
      rcases WideAt.bytes_total a b e with h2 | h2
      · rw [h1] at h2; cases h2
      · rw [h2]; rfl
theorem leqS (a b : ByteArray) (w : World) : (binOp .leq 9 (.string a) (.string b)).run Tryz.prog w = .ok (.bool (!bytesBefore (kl b) (kl a))) w := by
  have h := leq_not a.toList b.toList
  rw [ByteArray.toList_eq, ByteArray.toList_eq] at h
  have e1 : a.toList = kl a := by rw [ByteArray.toList_eq]
  have e2 : b.toList = kl b := by rw [ByteArray.toList_eq]
  have h' : (Op.bytesLess a.toList b.toList || (a.toList == b.toList)) = !(bytesBefore (kl b) (kl a)) := by rw [e1, e2]; exact h
  rw [← h']
  simp [binOp, Op.stringOp]
theorem ofs1 {W : World} {a : Addr} {v : Value} (h : W.cell? (a.add 1) = some v) : W.cell? { block := a.block, off := a.off + 1 } = some v := h
theorem ofs2 {W : World} {a : Addr} {v : Value} (h : W.cell? (a.add 2) = some v) : W.cell? { block := a.block, off := a.off + 2 } = some v := h
def lastK (T : List KEnt) : List UInt8 := (T.getLast?.map (·.1)).getD []
theorem take_snocK {L : List KEnt} {i : Nat} (h : i < L.length) : L.take (i + 1) = L.take i ++ [L[i]] := by rw [List.take_add_one, List.getElem?_eq_getElem h]; rfl
theorem lastK_snoc (T : List KEnt) (p : KEnt) : lastK (T ++ [p]) = p.1 := by unfold lastK; simp
set_option maxRecDepth 100000 in
set_option maxHeartbeats 8000000 in
theorem mayStand_any (v : Value) (L : List KEnt) (R : Int) (w : World) (hv : SeesI w v L) (hl : L.length ≤ maxLen) :
    Calls Tryz.prog 146 #[v, .int .i64 R] w fun e w' => e = .returned (.bool (standB R [] L)) ∧ Below w.heap.size w w' := by
  obtain ⟨ao, c, rfl, hlc, hnil, hc⟩ := hv
  have HC := Lib.hid (And.intro hnil hc)
  have hl2 : L.length ≤ 9223372036854775807 := by unfold maxLen at hl; omega
  have ql := leqS
  generalize hB : standB R [] L = B
  have HBB := Lib.hid hB
  clear hnil hc hB
  go_enter Tryz.func146, Tryz.ntmps146
  go_wp2_with fail
  go_loopw [5, 10] (fun a j wr => ∃ i : Nat, i ≤ L.length ∧ j = .int .i64 i ∧ a = .string ⟨(lastK (L.take i)).toArray⟩ ∧ Aside (standB R [] (L.take i) = true) ∧ Below w.heap.size w wr) (fun _ j _ => L.length - (intOf j).toNat)
  case atStart => exact ⟨0, Nat.zero_le _, rfl, rfl, rfl, Below.refl _ _⟩
  case round =>
    obtain ⟨i, hi, rfl, rfl, hst, hBw⟩ := hrel
    by_cases hlt : i < L.length
    · obtain ⟨a, rfl⟩ : ∃ a, ao = some a := by
        cases ao with
        | none => rw [HC.out.1 rfl] at hlt; simp at hlt
        | some a => exact ⟨a, rfl⟩
      obtain ⟨q0, q1, q2⟩ := HC.out.2 a rfl i L[i] (List.getElem?_eq_getElem hlt)
      have q0 := bcell hBw q0
      have q1 := ofs1 (bcell hBw q1)
      have q2 := ofs2 (bcell hBw q2)
      have b0 : (0 : Int) ≤ (i : Int) := by omega
      have b1 : (i : Int) < (L.length : Int) := by omega
      have hsn : standB R [] (L.take (i + 1)) = itOkB R (lastK (L.take i)) L[i] := by
        have h := standB_append R [] (L.take i) L[i]
        rw [← take_snocK hlt, hst.out, Bool.true_and] at h
        exact h
      have hwhole : itOkB R (lastK (L.take i)) L[i] = false → B = false := fun h => by
        cases hb : B with
        | false => rfl
        | true =>
          have := standB_take (HBB.out.trans hb) (i + 1)
          rw [hsn] at this
          exact absurd (this.symm.trans h) (by simp)
      have HS := Lib.hid hsn
      have HWh := Lib.hid hwhole
      have hKy := mayKey_any ⟨L[i].1.toArray⟩
      have hVl := mayVal_any L[i].2.1
      have hE : itOkB R (lastK (L.take i)) L[i] = (mayK ⟨L[i].1.toArray⟩ && (mayV L[i].2.1 && (bytesBefore (lastK (L.take i)) L[i].1 && (decide (1 ≤ L[i].2.2) && decide (L[i].2.2 ≤ R))))) := rfl
      have hlast : lastK (L.take (i + 1)) = L[i].1 := by rw [take_snocK hlt, lastK_snoc]
      rw [hE] at HS HWh
      have hql := fun w => ql ⟨L[i].1.toArray⟩ ⟨(lastK (L.take i)).toArray⟩ w
      simp only [kl] at hql
      have HL := Lib.hid hlast
      generalize mayK ⟨L[i].1.toArray⟩ = t1 at hKy HS HWh
      generalize mayV L[i].2.1 = t2 at hVl HS HWh
      generalize bytesBefore (lastK (L.take i)) L[i].1 = t3 at hql HS HWh
      have HKy := Lib.hid hKy
      have HVl := Lib.hid hVl
      clear hsn hwhole hKy hVl hE hst ql hlast
      cases t1 with
      | false =>
        go_wp2_with (first
          | (go_at_call 148; refine (HKy.out _).mono ?_; rintro e wz ⟨rfl, rfl⟩)
          | go_in)
        go_ret
        exact ⟨congrArg (fun b : Bool => Ending.returned (.bool b)) (HWh.out rfl).symm, belAlloc hBw _⟩
      | true =>
        cases t2 with
        | false =>
          go_wp2_with (first
            | (go_at_call 148; refine (HKy.out _).mono ?_; rintro e wz ⟨rfl, rfl⟩)
            | (go_at_call 149; refine (HVl.out _).mono ?_; rintro e wz ⟨rfl, rfl⟩)
            | go_in)
          go_ret
          exact ⟨congrArg (fun b : Bool => Ending.returned (.bool b)) (HWh.out rfl).symm, belAlloc hBw _⟩
        | true =>
          cases t3 with
          | false =>
            go_wp2_with (first
              | (go_at_call 148; refine (HKy.out _).mono ?_; rintro e wz ⟨rfl, rfl⟩)
              | (go_at_call 149; refine (HVl.out _).mono ?_; rintro e wz ⟨rfl, rfl⟩)
              | go_in)
            go_ret
            exact ⟨congrArg (fun b : Bool => Ending.returned (.bool b)) (HWh.out rfl).symm, belAlloc hBw _⟩
          | true =>
            by_cases h1 : L[i].2.2 < 1
            · have d1 : decide (L[i].2.2 < 1) = true := by simpa using h1
              have hf := HWh.out (by simp; omega)
              have HF := Lib.hid hf
              clear hf h1
              go_wp2_with (first
                | (go_at_call 148; refine (HKy.out _).mono ?_; rintro e wz ⟨rfl, rfl⟩)
                | (go_at_call 149; refine (HVl.out _).mono ?_; rintro e wz ⟨rfl, rfl⟩)
                | go_in)
              go_ret
              exact ⟨congrArg (fun b : Bool => Ending.returned (.bool b)) HF.out.symm, belAlloc hBw _⟩
            · have d1 : decide (L[i].2.2 < 1) = false := by simpa using h1
              by_cases h2 : R < L[i].2.2
              · have d2 : decide (R < L[i].2.2) = true := by simpa using h2
                have hf := HWh.out (by simp; omega)
                have HF := Lib.hid hf
                clear hf h1 h2
                go_wp2_with (first
                  | (go_at_call 148; refine (HKy.out _).mono ?_; rintro e wz ⟨rfl, rfl⟩)
                  | (go_at_call 149; refine (HVl.out _).mono ?_; rintro e wz ⟨rfl, rfl⟩)
                  | go_in)
                go_ret
                exact ⟨congrArg (fun b : Bool => Ending.returned (.bool b)) HF.out.symm, belAlloc hBw _⟩
              · have d2 : decide (R < L[i].2.2) = false := by simpa using h2
                have hgood : standB R [] (L.take (i + 1)) = true := HS.out.trans (by simp; omega)
                have HGd := Lib.hid hgood
                clear hgood h1 h2
                go_wp2_with (first
                  | (go_at_call 148; refine (HKy.out _).mono ?_; rintro e wz ⟨rfl, rfl⟩)
                  | (go_at_call 149; refine (HVl.out _).mono ?_; rintro e wz ⟨rfl, rfl⟩)
                  | go_in)
                go_roundw
                case rel => exact ⟨i + 1, by omega, by go_num, by rw [HL.out], HGd.out, belAlloc hBw _⟩
                case measure => simp [intOf]; omega
    · obtain rfl : i = L.length := by omega
      have hst := hst.out
      rw [List.take_length] at hst
      have HBt := Lib.hid (HBB.out.symm.trans hst)
      go_wp2_with fail
      go_ret
      exact ⟨congrArg (fun b : Bool => Ending.returned (.bool b)) HBt.out.symm, hBw⟩
theorem standB_all {R : Int} : ∀ {a : List UInt8} {L : List KEnt}, standB R a L = true → Rising L ∧ (∀ p ∈ L, bytesBefore a p.1 = true) ∧ ∀ p ∈ L, mayK ⟨p.1.toArray⟩ = true ∧ mayV p.2.1 = true ∧ 1 ≤ p.2.2 ∧ p.2.2 ≤ R
  | _, [], _ => ⟨List.Pairwise.nil, (fun p hp => by cases hp), (fun p hp => by cases hp)⟩
  | a, p :: L, h => by
    rw [standB, Bool.and_eq_true] at h
    obtain ⟨h1, h2⟩ := h
    obtain ⟨r1, r2, r3⟩ := standB_all h2
    unfold itOkB at h1
    simp only [Bool.and_eq_true, decide_eq_true_eq] at h1
    refine ⟨List.pairwise_cons.2 ⟨r2, r1⟩, fun q hq => ?_, fun q hq => ?_⟩
    · rcases List.mem_cons.1 hq with rfl | hq
      · exact h1.2.2.1
      · exact WideShapes.bytes_trans _ _ _ h1.2.2.1 (r2 q hq)
    · rcases List.mem_cons.1 hq with rfl | hq
      · exact ⟨h1.1, h1.2.1, h1.2.2.2.1, h1.2.2.2.2⟩
      · exact r3 q hq
theorem insE_last {β : Type} (x : List UInt8 × β) : ∀ T : List (List UInt8 × β), (∀ q ∈ T, bytesBefore q.1 x.1 = true) → insE x T = T ++ [x]
  | [], _ => rfl
  | a :: T, h => by
    have ha := h a List.mem_cons_self
    have hn : ¬ bytesBefore x.1 a.1 = true := fun e => by
      have := WideShapes.bytes_trans _ _ _ ha e
      rw [WideAt.bytes_irrefl] at this; cases this
    rw [insE, if_neg hn, insE_last x T (fun q hq => h q (List.mem_cons_of_mem _ hq))]
    rfl
theorem putE_last {β : Type} (k : List UInt8) (u : β) (T : List (List UInt8 × β)) (h : ∀ q ∈ T, bytesBefore q.1 k = true) : putE k u T = T ++ [(k, u)] := by
  have hd : delE k T = T := by
    unfold delE
    rw [List.filter_eq_self]
    intro q hq
    have hb := h q hq
    have : q.1 ≠ k := fun e => by rw [e, WideAt.bytes_irrefl] at hb; cases hb
    simp [this]
  unfold putE
  rw [hd]
  exact insE_last (k, u) T h
theorem mkMapN (w : World) (n : Int) : (Instr.makeMap 162 (some (.int .i64 n))).run Tryz.prog w = .ok (.map (some w.heap.size)) (w.alloc (.map #[] 0)) := by
  have u := Tryz.underlying162
  simp [Instr.makeMap, run_underlying u]
  rfl
set_option maxRecDepth 100000 in
set_option maxHeartbeats 8000000 in
theorem of_no (R : Int) (v : Value) (L : List KEnt) (w : World) (hv : SeesI w v L) (hl : L.length ≤ maxLen) (hB : ofB R L = false) :
    Calls Tryz.prog 99 #[.int .i64 R, v] w fun e w' => e = .returned (.tuple #[.pointer none, .int .i64 1]) ∧ Below w.heap.size w w' := by
  have HM := Lib.hid (mayStand_any v L R w hv hl)
  by_cases h0 : R < 0
  · have d0 : decide (R < 0) = true := by simpa using h0
    clear hB h0
    go_enter Tryz.func99, Tryz.ntmps99
    go_wp2_with fail
    go_ret2
    exact ⟨rfl, Below.refl _ _⟩
  · have d0 : decide (R < 0) = false := by simpa using h0
    have hs : standB R [] L = false := by
      unfold ofB at hB
      rw [decide_eq_true (by omega : 0 ≤ R), Bool.true_and] at hB
      exact hB
    rw [hs] at HM
    clear hB h0 hs
    go_enter Tryz.func99, Tryz.ntmps99
    go_wp2_with (first
      | (go_at_call 146; refine HM.out.mono ?_; rintro e w2 ⟨rfl, hb2⟩)
      | go_in)
    go_ret2
    exact ⟨rfl, hb2⟩
set_option maxRecDepth 100000 in
set_option maxHeartbeats 8000000 in
theorem of_yes (R : Int) (v : Value) (L : List KEnt) (w : World) (hv : SeesI w v L) (hl : L.length ≤ 1000000) (hB : ofB R L = true) :
    Calls Tryz.prog 99 #[.int .i64 R, v] w fun e w' => ∃ g P, e = .returned (.tuple #[ptr g, .int .i64 0]) ∧ KvAt w' g P ⟨R, L⟩ ∧ (∀ i, P i → w.heap.size ≤ i) ∧ Below w.heap.size w w' := by
  have HM := Lib.hid (mayStand_any v L R w hv (by unfold maxLen; omega))
  unfold ofB at hB
  rw [Bool.and_eq_true, decide_eq_true_eq] at hB
  obtain ⟨h0, hs⟩ := hB
  have d0 : decide (R < 0) = false := by simp; omega
  obtain ⟨hris, -, hall⟩ := standB_all hs
  rw [hs] at HM
  obtain ⟨ao, c, rfl, hlc, hnil, hc⟩ := hv
  have HC := Lib.hid (And.intro hnil (And.intro hc (And.intro hris hall)))
  have hmm := mkMapN
  clear hnil hc hris hall hs h0
  go_enter Tryz.func99, Tryz.ntmps99
  go_upto_region 4 with (first
    | (go_at_call 146; refine HM.out.mono ?_; rintro e w1 ⟨rfl, hb1⟩)
    | go_in)
  obtain ⟨w2, hw2⟩ : ∃ w2, w2 = (w1.alloc (.map #[] 0)).alloc (.cells #[.int .i64 R, .map (some w1.heap.size)] 164) := ⟨_, rfl⟩
  have hb2 : Below w1.heap.size w1 w2 := by rw [hw2]; exact belAlloc (belNew w1 _) _
  have hz2 : w2.heap.size = w1.heap.size + 2 := by rw [hw2]; simp
  have hg2 : w2.heap[w1.heap.size + 1]? = some (.cells #[.int .i64 R, .map (some w1.heap.size)] 164 (0, 0)) := by rw [hw2]; simpa using heap_alloc_new (w1.alloc (.map #[] 0)) (.cells #[.int .i64 R, .map (some w1.heap.size)] 164)
  have hM2 : MapIs w2 w1.heap.size 0 (entsV ([] : List KEnt)) := by
    rw [hw2]
    exact (MapIs.made w1).heap (Below.heap_alloc _ _ _ (by simp))
  rw [← hw2]
  have H2 := Lib.hid (And.intro (hb1.trans (hb2.mono hb1.size)) (And.intro hz2 hb1.size))
  clear hw2 hb2 hb1 hmm
  go_wp2_with fail
  go_loopw [25] (fun j wr => ∃ i : Nat, i ≤ L.length ∧ j = .int .i64 i ∧ MapIs wr w1.heap.size i (entsV (L.take i)) ∧ wr.heap[w1.heap.size + 1]? = some (.cells #[.int .i64 R, .map (some w1.heap.size)] 164 (0, 0)) ∧ Below w1.heap.size w2 wr) (fun j _ => L.length - (intOf j).toNat)
  case atStart => exact ⟨0, Nat.zero_le _, rfl, hM2, hg2, ⟨rfl, rfl, rfl, Nat.le_refl _, fun _ _ => rfl⟩⟩
  case round =>
    obtain ⟨i, hi, rfl, hM, hg, hB⟩ := hrel
    by_cases hlt : i < L.length
    · obtain ⟨a, rfl⟩ : ∃ a, ao = some a := by
        cases ao with
        | none => rw [HC.out.1 rfl] at hlt; simp at hlt
        | some a => exact ⟨a, rfl⟩
      obtain ⟨p, hget⟩ : ∃ p, L[i]? = some p := ⟨_, List.getElem?_eq_getElem hlt⟩
      obtain ⟨q0, q1, q2⟩ := HC.out.2.1 a rfl i p hget
      have hbw : Below w.heap.size w wr := H2.out.1.trans (hB.mono H2.out.2.2)
      have q0 := bcell hbw q0
      have q1 := ofs1 (bcell hbw q1)
      have q2 := ofs2 (bcell hbw q2)
      have b0 : (0 : Int) ≤ (i : Int) := by omega
      have b1 : (i : Int) < (L.length : Int) := by omega
      have hk := (HC.out.2.2.2 p (List.mem_of_getElem? hget)).1
      have hks : (⟨p.1.toArray⟩ : ByteArray).size ≤ maxLen := by
        unfold mayK at hk
        rw [decide_eq_true_eq] at hk
        unfold maxLen; omega
      have htk : L.take (i + 1) = L.take i ++ [p] := by rw [List.take_add_one, hget]; rfl
      have hput : putE p.1 (itV p.1 p.2) (entsV (L.take i)) = entsV (L.take (i + 1)) := by
        have hr := HC.out.2.2.1
        have hr2 : Rising (L.take (i + 1)) := List.Pairwise.sublist (List.take_sublist _ _) hr
        rw [htk] at hr2 ⊢
        rw [← ents_put, putE_last p.1 p.2 (L.take i) (fun q hq => (List.pairwise_append.1 hr2).2.2 q hq p (by simp))]
      have HP := Lib.hid hput
      have hbx := belNew wr (.cells #[.string ⟨p.1.toArray⟩, .string p.2.1, .int .i64 p.2.2] 86)
      have hx := heap_alloc_new wr (.cells #[.string ⟨p.1.toArray⟩, .string p.2.1, .int .i64 p.2.2] 86)
      have HLT := Lib.hid hlt
      clear hk htk hput hget hlt
      go_upto_region 7 with fail
      obtain ⟨wx, hwx⟩ : ∃ wx, wx = wr.alloc (.cells #[.string ⟨p.1.toArray⟩, .string p.2.1, .int .i64 p.2.2] 86) := ⟨_, rfl⟩
      rw [← hwx] at hbx hx ⊢
      obtain ⟨x0, x1, x2⟩ := rcells hx
      have hgx := (hbx.block _ (heap_lt hg)).trans hg
      have hMx : MapIs wx w1.heap.size i (entsV (L.take i)) := hM.heap (hbx.block _ hM.lt)
      have c1 := cell1 hgx
      have HX := Lib.hid (And.intro hgx (And.intro hMx (Below.trans hB (hbx.mono (by have := hB.size; have := H2.out.2.1; omega)))))
      clear hwx hbx hx q0 q1 q2 hgx hMx hM hg hB
      go_still_tail 7, (by kernel_rfl)
      change wpList _ _ _ _ _ wx.drew
      have hM4 : MapIs wx.drew w1.heap.size i (entsV (L.take i)) := HX.out.2.1
      go_wp2_with (first
        | (at_mapUpdate; refine wpList_putE rfl (.tmp 32) (.tmp 34) (.tmp 35) rfl w1.heap.size i (entsV (L.take i)) rfl hM4 (by unfold maxLen; omega) ⟨p.1.toArray⟩ hks (.agg #[.string ⟨p.1.toArray⟩, .string p.2.1, .int .i64 p.2.2]) rfl rfl ?_; intro w5 hm5 hg5)
        | go_in)
      have hm6 : MapIs w5 w1.heap.size (i + 1) (entsV (L.take (i + 1))) := by rw [← HP.out]; exact hm5
      go_roundw
      case rel => exact ⟨i + 1, HLT.out, by go_num, hm6, (hg5.block _ (heap_lt HX.out.1) (fun e => by have := Option.some.inj e; omega)).trans HX.out.1, HX.out.2.2.grown (w' := w5) (row := some w1.heap.size) ⟨hg5.os, hg5.tape, hg5.output, hg5.size, hg5.block⟩ (by have := HX.out.2.2.size; have := H2.out.2.1; omega) (fun g hg => by cases hg; exact Nat.le_refl _)⟩
      case measure => have := HLT.out; simp [intOf]; omega
    · obtain rfl : i = L.length := by omega
      rw [List.take_length] at hM
      have hbw : Below w.heap.size w wr := H2.out.1.trans (hB.mono H2.out.2.2)
      have HF := Lib.hid (And.intro hM (And.intro hg hbw))
      have hz := hB.size
      have HZ := Lib.hid (And.intro hz H2.out)
      clear hM hg hB hbw hz
      go_wp2_with fail
      go_ret2
      refine ⟨w1.heap.size + 1, fun i => i = w1.heap.size + 1 ∨ i = w1.heap.size, rfl, ⟨some w1.heap.size, HF.out.2.1, fun b e => by cases e; exact ⟨HF.out.1, Or.inr rfl⟩, (fun e => by cases e), Or.inl rfl, fun i hi => ?_⟩, fun i hi => ?_, HF.out.2.2⟩
      · have := HZ.out.1; have := HZ.out.2.2.1
        rcases hi with rfl | rfl <;> omega
      · have := HZ.out.2.2.2
        rcases hi with rfl | rfl <;> omega
end
section
open Go.RowKit Go.Maps
theorem off1 {W : World} {a : Addr} {v : Value} (h : W.cell? (a.add 1) = some v) : W.cell? { block := a.block, off := a.off + 1 } = some v := h
theorem off2 {W : World} {a : Addr} {v : Value} (h : W.cell? (a.add 2) = some v) : W.cell? { block := a.block, off := a.off + 2 } = some v := h
theorem off3 {W : World} {a : Addr} {v : Value} (h : W.cell? (a.add 3) = some v) : W.cell? { block := a.block, off := a.off + 3 } = some v := h
theorem off4 {W : World} {a : Addr} {v : Value} (h : W.cell? (a.add 4) = some v) : W.cell? { block := a.block, off := a.off + 4 } = some v := h
theorem off5 {W : World} {a : Addr} {v : Value} (h : W.cell? (a.add 5) = some v) : W.cell? { block := a.block, off := a.off + 5 } = some v := h
/-- A state that some n writes at the most have made. -/
def KInv (S : KSt) (n : Nat) : Prop := Rising S.L ∧ 0 ≤ S.rev ∧ S.rev ≤ n ∧ S.L.length ≤ n ∧ ∀ p ∈ S.L, p.2.2 ≤ S.rev
theorem KInv.zero : KInv ⟨0, []⟩ 0 := ⟨List.Pairwise.nil, by decide, by decide, Nat.le_refl _, fun p hp => by cases hp⟩
theorem effOf_rev (o : KOp) (r : Int) : (effOf o r).rev = r := by unfold effOf; split <;> rfl
theorem plan_write {S : KSt} {o : KOp} (h : (planK S o).2.2 = true) : (planK S o).2.1 = effOf o (S.rev + 1) ∧ refuse S o = 0 ∧ o.kind ≠ 1 ∧ o.kind ≠ 2 := by
  unfold planK at h ⊢
  by_cases h1 : o.kind = 1
  · rw [if_pos h1] at h; cases h
  · rw [if_neg h1] at h ⊢
    by_cases h2 : o.kind = 2
    · rw [if_pos h2] at h; cases h
    · rw [if_neg h2] at h ⊢
      by_cases h3 : refuse S o = 0
      · rw [if_pos h3]; exact ⟨rfl, h3, h1, h2⟩
      · rw [if_neg h3] at h; cases h
theorem doK_inv {S : KSt} {n : Nat} (h : KInv S n) (o : KOp) : KInv (doK S o).2 (n + 1) := by
  obtain ⟨h1, h2, h3, h4, h5⟩ := h
  unfold doK
  by_cases hw : (planK S o).2.2 = true
  · simp only [if_pos hw]
    rw [(plan_write hw).1]
    have hrev : (applyK S (effOf o (S.rev + 1))).rev = S.rev + 1 := effOf_rev _ _
    have hlist : Rising (applyK S (effOf o (S.rev + 1))).L ∧ (applyK S (effOf o (S.rev + 1))).L.length ≤ n + 1 ∧ ∀ p ∈ (applyK S (effOf o (S.rev + 1))).L, p.2.2 ≤ S.rev + 1 := by
      unfold applyK
      simp only []
      split
      · exact ⟨h1.del _, Nat.le_succ_of_le (Nat.le_trans (delE_le _ _) h4), fun p hp => by have := h5 p (List.mem_filter.1 hp).1; omega⟩
      · refine ⟨h1.put _ _, Nat.le_trans (putE_len _ _ _) (Nat.succ_le_succ h4), fun p hp => ?_⟩
        unfold putE at hp
        rcases mem_insE.1 hp with rfl | hp
        · show (effOf o (S.rev + 1)).rev ≤ _
          rw [effOf_rev]; exact Int.le_refl _
        · have := h5 p (List.mem_filter.1 hp).1; omega
    refine ⟨hlist.1, by rw [hrev]; omega, by rw [hrev]; omega, hlist.2.1, fun p hp => by rw [hrev]; exact hlist.2.2 p hp⟩
  · simp only [if_neg hw]
    exact ⟨h1, h2, by omega, by omega, h5⟩
theorem doK_inv' {S : KSt} {n m : Nat} (h : KInv S n) (hm : n + 1 ≤ m) (o : KOp) : KInv (doK S o).2 m := by
  obtain ⟨h1, h2, h3, h4, h5⟩ := doK_inv h o
  exact ⟨h1, h2, by omega, by omega, h5⟩
theorem doK_list (S : KSt) (o : KOp) (h : o.kind = 2) : doK S o = (⟨0, S.rev, emp, beginL S.L o.key⟩, S) := by
  unfold doK planK
  rw [if_neg (by omega), if_pos h]
  rfl
theorem eqB (a b : ByteArray) : (a.toList == b.toList) = decide (a = b) := by
  by_cases h : a = b
  · subst h; simp
  · have h2 : ¬ a.toList = b.toList := fun e => h (kl_inj (by rw [ByteArray.toList_eq, ByteArray.toList_eq] at e; exact e))
    simp [h, h2]
/-- Items held against each other. -/
theorem neItem (k1 v1 k2 v2 : ByteArray) (r1 r2 : Int) (w : World) : (binOp .neq 86 (.agg #[.string k1, .string v1, .int .i64 r1]) (.agg #[.string k2, .string v2, .int .i64 r2])).run Tryz.prog w = .ok (.bool (!(k1.toList == k2.toList && (v1.toList == v2.toList && r1 == r2)))) w := by
  have hS : Tryz.prog.underlying 86 = some (.struct (Tryz.prog.fieldsOf 86)) := by kernel_rfl
  have hp : Tryz.prog.stoodInHeld 86 = false := by kernel_rfl
  have u3 := Tryz.underlying9
  have a3 := Tryz.isAgg9
  have z3 := Tryz.sizeOf9
  have u4 := Tryz.underlying2
  have a4 := Tryz.isAgg2
  have z4 := Tryz.sizeOf2
  rw [run_neq_struct, show (10000 : Nat) = 9999 + 1 from rfl, run_equalIn_agg w 9999 86 _ _ hS hp]
  simp only [Program.fieldsOf, Tryz.underlying86]
  go_simp
  by_cases h1 : k1.toList = k2.toList <;> by_cases h2 : v1.toList = v2.toList <;> by_cases h3 : r1 = r2 <;> simp [h1, h2, h3]
theorem item_eq {p q : KEnt} : ((⟨p.1.toArray⟩ : ByteArray).toList == (⟨q.1.toArray⟩ : ByteArray).toList && (p.2.1.toList == q.2.1.toList && p.2.2 == q.2.2)) = decide (p = q) := by
  rw [ByteArray.toList_eq, ByteArray.toList_eq, eqB]
  obtain ⟨a, b, c⟩ := p
  obtain ⟨a', b', c'⟩ := q
  simp only []
  by_cases h1 : a = a' <;> by_cases h2 : b = b' <;> by_cases h3 : c = c' <;> simp [h1, h2, h3]
/-- Of those that are let through, the one at its place. -/
theorem filter_at {α : Type} (f : α → Bool) : ∀ (L : List α) (i : Nat) (x : α), L[i]? = some x → f x = true → (L.filter f)[((L.take i).filter f).length]? = some x
  | [], i, x, h, _ => by simp at h
  | a :: L, 0, x, h, hf => by
    obtain rfl : a = x := by simpa using h
    rw [List.filter_cons_of_pos hf]; simp
  | a :: L, i + 1, x, h, hf => by
    have ih := filter_at f L i x (by simpa using h) hf
    rw [List.take_succ_cons]
    by_cases ha : f a = true
    · rw [List.filter_cons_of_pos ha, List.filter_cons_of_pos ha, List.length_cons, List.getElem?_cons_succ]
      exact ih
    · rw [List.filter_cons_of_neg ha, List.filter_cons_of_neg ha]
      exact ih
end
end Go.Proofs.YtbbefakmpmniiaaGreatDoor.KV
