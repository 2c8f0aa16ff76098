/- The document's list: what is asked now. -/
import Derived.Test.YtholgmcfgnifdaaMi
namespace Go.Proofs.Ytholgmcfgnifdaa
open Go.RowKit Go.Maps
abbrev listO (wv : Value) (t : Nat) : Obj := .cells #[wv, .int .i64 t] 35 (0, 0)
/-- An operation of the document's in a variable, stored whole. -/
theorem wpStR {g : Nat} {o0 o1 : KOp} {w : World} {ops : Array Oper} {rest : List Oper} {o : Oper} {a : Act} {Q : Exit → Act → World → Prop}
    (hgd : o.guard = none) (x y : Operand) (ho : o.op = .store 40 x y) (hx : a.eval x = .pointer (some ⟨g, 0, none⟩)) (hy : a.eval y = opV o1) (h : w.heap[g]? = some (opR o0))
    (hK : ∀ w', w'.heap[g]? = some (opR o1) → w.grownBy w' (some g) → wpList Try.prog ops Q rest (a.put o.dst undef) w') : wpList Try.prog ops Q (o :: rest) a w := by
  refine wpList_store_mid hgd 40 x y ho g 0 #[.int .i64 o1.kind, .string o1.key, .string o1.val, .int .i64 o1.rev, .string o1.iff, .int .i64 o1.ifRev] hx hy ?_ (by kernel_rfl) (by simp [Value.oneCell']) ?_
  · intro j hj
    have hj' : j < 6 := hj
    rw [Nat.zero_add]
    constructor
    · simp only [World.cell?, h]
      rcases j with _ | _ | _ | _ | _ | _ | j
      all_goals first | exact ⟨_, rfl⟩ | rfl | (exfalso; omega)
    · simp [World.frozen?, h]
  · have e : w.setCells g 0 (#[Value.int .i64 o1.kind, .string o1.key, .string o1.val, .int .i64 o1.rev, .string o1.iff, .int .i64 o1.ifRev] : Array Value).toList = putOp w g o1 := rfl
    rw [e]
    exact hK _ (dset (dset (dset (dset (dset (dset h 0 _) 1 _) 2 _) 3 _) 4 _) 5 _) (grown_trans (grown_trans (grown_trans (grown_trans (grown_trans (grown_set w g 0 _) (grown_set _ g 1 _)) (grown_set _ g 2 _)) (grown_set _ g 3 _)) (grown_set _ g 4 _)) (grown_set _ g 5 _))
theorem ncell {n : Nat} {w W : World} {a : Addr} {v : Value} (hb : Below n w W) (hn : a.block < n) (h : w.cell? a = some v) : W.cell? a = some v := (World.cell?_of_block (hb.block _ hn)).trans h
set_option maxRecDepth 100000 in
set_option maxHeartbeats 4000000 in
theorem refOp_yes (gl t : Nat) (os : List KOp) (wv : Value) (w : World) (hg : w.heap[gl]? = some (listO wv t)) (hs : SeesO w wv os) (hlt : t < os.length) : Calls Try.prog 10 #[ptr gl] w fun e w' => e = .returned (.tuple #[opV (os.getD t opZ), .bool true]) ∧ Below w.heap.size w w' := by
  obtain ⟨wo, wc, rfl⟩ := hs.slice
  have hx : os[t]? = some (os.getD t opZ) := by rw [List.getD_eq_getElem?_getD, List.getElem?_eq_getElem hlt]; rfl
  generalize os.getD t opZ = x at hx ⊢
  obtain ⟨b, rfl, -, q0, q1, q2, q3, q4, q5⟩ := opAt hs hx
  have b0 : (0 : Int) ≤ (t : Int) := by omega
  have b1 : (t : Int) < (os.length : Int) := by omega
  have d1 : decide ((os.length : Int) ≤ (t : Int)) = false := by simp; omega
  have h2 : ¬ ((os.length : Int) ≤ (t : Int)) := by omega
  have HL : Hid (gl < w.heap.size ∧ (b.add (t * 6)).block < w.heap.size) := Lib.hid ⟨heap_lt hg, cell_lt8 q0⟩
  have c0 := cell0 hg
  have c1 := cell1 hg
  obtain ⟨W1, hW⟩ : ∃ W1, W1 = w.alloc (opR opZ) := ⟨_, rfl⟩
  have hb0 := belNew w (opR opZ)
  have hR := heap_alloc_new w (opR opZ)
  rw [← hW] at hb0 hR
  have q0 := bcell hb0 q0
  have q1 := off1 (bcell hb0 q1)
  have q2 := off2 (bcell hb0 q2)
  have q3 := off3 (bcell hb0 q3)
  have q4 := off4 (bcell hb0 q4)
  have q5 := off5 (bcell hb0 q5)
  have c0 := bcell hb0 c0
  have c1 := bcell hb0 c1
  have HX := Lib.hid (And.intro hb0 hR)
  have HW := Lib.hid hW
  clear hb0 hR hW hg hs hlt
  go_enter Try.func10, Try.ntmps10
  go_upto_region 1 with fail
  change Code.wp _ _ _ _ (w.alloc (opR opZ))
  rw [← HW.out]
  clear HW
  refine wp_region_held_drew (S := (fun W => Below W1.heap.size W1 W)) (by kernel_rfl) ?_ (fun r0 => ?_)
  · exact ⟨rfl, rfl, rfl, Nat.le_refl _, fun _ _ => rfl⟩
  refine wpAnyH_take (i := 0) (v := ?_) rfl (by kernel_rfl) (by kernel_rfl) (by kernel_rfl) (fun _ _ _ h => h) (Or.inl ⟨by rfl, ?_⟩) (by assumption) ?_
  rotate_left
  · intro wS hSw
    (try dsimp only at hSw)
    go_simp
    first | done | with_reducible rfl
  try simp only [Act.put, List.getElem_toArray, List.getElem_cons_succ, List.getElem_cons_zero, List.setIfInBounds_toArray, List.set_cons_zero, List.set_cons_succ]
  refine wpAnyH_take (i := 1) (v := ?_) rfl (by kernel_rfl) (by kernel_rfl) (by kernel_rfl) (fun _ _ _ h => h) (Or.inl ⟨by rfl, ?_⟩) (by assumption) ?_
  rotate_left
  · intro wS hSw
    (try dsimp only at hSw)
    go_simp
    first | done | with_reducible rfl
  try simp only [Act.put, List.getElem_toArray, List.getElem_cons_succ, List.getElem_cons_zero, List.setIfInBounds_toArray, List.set_cons_zero, List.set_cons_succ]
  refine wpAnyH_take (i := 2) (v := ?_) rfl (by kernel_rfl) (by kernel_rfl) (by kernel_rfl) (fun _ _ _ h => h) (Or.inl ⟨by rfl, ?_⟩) (by assumption) ?_
  rotate_left
  · intro wS hSw
    (try dsimp only at hSw)
    go_simp
    first | done | with_reducible rfl
  try simp only [Act.put, List.getElem_toArray, List.getElem_cons_succ, List.getElem_cons_zero, List.setIfInBounds_toArray, List.set_cons_zero, List.set_cons_succ]
  refine wpAnyH_take (i := 3) (v := ?_) rfl (by kernel_rfl) (by kernel_rfl) (by kernel_rfl) (fun _ _ _ h => h) (Or.inl ⟨by rfl, ?_⟩) (by assumption) ?_
  rotate_left
  · intro wS hSw
    (try dsimp only at hSw)
    have c0 := bcell hSw c0
    have c1 := bcell hSw c1
    go_simp
    first | done | with_reducible rfl
  try simp only [Act.put, List.getElem_toArray, List.getElem_cons_succ, List.getElem_cons_zero, List.setIfInBounds_toArray, List.set_cons_zero, List.set_cons_succ]
  refine wpAnyH_take (i := 4) (v := ?_) rfl (by kernel_rfl) (by kernel_rfl) (by kernel_rfl) (fun _ _ _ h => h) (Or.inl ⟨by rfl, ?_⟩) (by assumption) ?_
  rotate_left
  · intro wS hSw
    (try dsimp only at hSw)
    go_simp
    first | done | with_reducible rfl
  try simp only [Act.put, List.getElem_toArray, List.getElem_cons_succ, List.getElem_cons_zero, List.setIfInBounds_toArray, List.set_cons_zero, List.set_cons_succ]
  refine wpAnyH_take (i := 5) (v := ?_) rfl (by kernel_rfl) (by kernel_rfl) (by kernel_rfl) (fun _ _ _ h => h) (Or.inl ⟨by rfl, ?_⟩) (by assumption) ?_
  rotate_left
  · intro wS hSw
    (try dsimp only at hSw)
    go_simp
    first | done | with_reducible rfl
  try simp only [Act.put, List.getElem_toArray, List.getElem_cons_succ, List.getElem_cons_zero, List.setIfInBounds_toArray, List.set_cons_zero, List.set_cons_succ]
  refine wpAnyH_take (i := 6) (v := ?_) rfl (by kernel_rfl) (by kernel_rfl) (by kernel_rfl) (fun _ _ _ h => h) (Or.inl ⟨by rfl, ?_⟩) (by assumption) ?_
  rotate_left
  · intro wS hSw
    (try dsimp only at hSw)
    go_simp
    first | done | with_reducible rfl
  try simp only [Act.put, List.getElem_toArray, List.getElem_cons_succ, List.getElem_cons_zero, List.setIfInBounds_toArray, List.set_cons_zero, List.set_cons_succ]
  refine wpAnyH_take (i := 7) (v := ?_) rfl (by kernel_rfl) (by kernel_rfl) (by kernel_rfl) (fun _ _ _ h => h) (Or.inl ⟨by rfl, ?_⟩) (by assumption) ?_
  rotate_left
  · intro wS hSw
    (try dsimp only at hSw)
    have c0 := bcell hSw c0
    have c1 := bcell hSw c1
    go_simp
    first | done | with_reducible rfl
  try simp only [Act.put, List.getElem_toArray, List.getElem_cons_succ, List.getElem_cons_zero, List.setIfInBounds_toArray, List.set_cons_zero, List.set_cons_succ]
  refine wpAnyH_take (i := 8) (v := ?_) rfl (by kernel_rfl) (by kernel_rfl) (by kernel_rfl) (fun _ _ _ h => h) (Or.inl ⟨by rfl, ?_⟩) (by assumption) ?_
  rotate_left
  · intro wS hSw
    (try dsimp only at hSw)
    go_simp
    first | done | with_reducible rfl
  try simp only [Act.put, List.getElem_toArray, List.getElem_cons_succ, List.getElem_cons_zero, List.setIfInBounds_toArray, List.set_cons_zero, List.set_cons_succ]
  refine wpAnyH_take (i := 9) (v := ?_) rfl (by kernel_rfl) (by kernel_rfl) (by kernel_rfl) (fun _ _ _ h => h) (Or.inl ⟨by rfl, ?_⟩) (by assumption) ?_
  rotate_left
  · intro wS hSw
    (try dsimp only at hSw)
    go_simp
    first | done | with_reducible rfl
  try simp only [Act.put, List.getElem_toArray, List.getElem_cons_succ, List.getElem_cons_zero, List.setIfInBounds_toArray, List.set_cons_zero, List.set_cons_succ]
  refine wpAnyH_done (by kernel_rfl) ?_ _
  obtain ⟨wd, hwd⟩ : ∃ wd, wd = W1.drew := ⟨_, rfl⟩
  rw [← hwd] at r0 ⊢
  have hbw := HX.out.1.trans (r0.mono HX.out.1.size)
  have hR := (r0.block _ (heap_lt HX.out.2)).trans HX.out.2
  have c0 := bcell r0 c0
  have c1 := bcell r0 c1
  have q0 := bcell r0 q0
  have q1 := bcell r0 q1
  have q2 := bcell r0 q2
  have q3 := bcell r0 q3
  have q4 := bcell r0 q4
  have q5 := bcell r0 q5
  go_upto_region 3 with fail
  have hF : ∀ X, Below w.heap.size wd X → X.cell? ⟨gl, 0, none⟩ = some (.slice (some b) os.length wc) ∧ X.cell? ⟨gl, 1, none⟩ = some (.int .i64 t) ∧ SeesOp9 X (b.add (t * 6)) x := fun X hX => ⟨ncell hX HL.out.1 c0, ncell hX HL.out.1 c1, ncell hX HL.out.2 q0, ncell hX HL.out.2 q1, ncell hX HL.out.2 q2, ncell hX HL.out.2 q3, ncell hX HL.out.2 q4, ncell hX HL.out.2 q5⟩
  have HF := Lib.hid hF
  have HD := Lib.hid (And.intro hbw hR)
  clear hwd r0 hbw hR hF c0 c1 q0 q1 q2 q3 q4 q5
  refine wp_region_held_drew (S := (fun X => Below w.heap.size wd X)) (by kernel_rfl) ?_ (fun r1 => ?_)
  · exact ⟨rfl, rfl, rfl, Nat.le_refl _, fun _ _ => rfl⟩
  obtain ⟨we, hwe⟩ : ∃ we, we = wd.drew := ⟨_, rfl⟩
  have hR : we.heap[w.heap.size]? = some (opR opZ) := by rw [hwe]; exact HD.out.2
  have hbw : Below w.heap.size w we := by rw [hwe]; exact bdrew HD.out.1
  rw [← hwe] at r1 ⊢
  have HE := Lib.hid (And.intro hbw hR)
  clear hwe hR hbw
  refine wpAnyH_take (i := 0) (v := ?_) rfl (by kernel_rfl) (by kernel_rfl) (by kernel_rfl) (fun _ _ _ h => h) (Or.inl ⟨by rfl, ?_⟩) (by assumption) ?_
  rotate_left
  · intro wS hSw
    (try dsimp only at hSw)
    go_simp
    first | done | with_reducible rfl
  try simp only [Act.put, List.getElem_toArray, List.getElem_cons_succ, List.getElem_cons_zero, List.setIfInBounds_toArray, List.set_cons_zero, List.set_cons_succ]
  refine wpAnyH_take (i := 1) (v := ?_) rfl (by kernel_rfl) (by kernel_rfl) (by kernel_rfl) (fun _ _ _ h => h) (Or.inl ⟨by rfl, ?_⟩) (by assumption) ?_
  rotate_left
  · intro wS hSw
    (try dsimp only at hSw)
    go_simp
    first | done | with_reducible rfl
  try simp only [Act.put, List.getElem_toArray, List.getElem_cons_succ, List.getElem_cons_zero, List.setIfInBounds_toArray, List.set_cons_zero, List.set_cons_succ]
  refine wpAnyH_take (i := 2) (v := ?_) rfl (by kernel_rfl) (by kernel_rfl) (by kernel_rfl) (fun _ _ _ h => h) (Or.inl ⟨by rfl, ?_⟩) (by assumption) ?_
  rotate_left
  · intro wS hSw
    (try dsimp only at hSw)
    go_simp
    first | done | with_reducible rfl
  try simp only [Act.put, List.getElem_toArray, List.getElem_cons_succ, List.getElem_cons_zero, List.setIfInBounds_toArray, List.set_cons_zero, List.set_cons_succ]
  refine wpAnyH_take (i := 3) (v := ?_) rfl (by kernel_rfl) (by kernel_rfl) (by kernel_rfl) (fun _ _ _ h => h) (Or.inl ⟨by rfl, ?_⟩) (by assumption) ?_
  rotate_left
  · intro wS hSw
    (try dsimp only at hSw)
    obtain ⟨c0, c1, q0, q1, q2, q3, q4, q5⟩ := HF.out _ hSw
    have q1 := off1 q1
    have q2 := off2 q2
    have q3 := off3 q3
    have q4 := off4 q4
    have q5 := off5 q5
    go_simp
    first | done | with_reducible rfl
  try simp only [Act.put, List.getElem_toArray, List.getElem_cons_succ, List.getElem_cons_zero, List.setIfInBounds_toArray, List.set_cons_zero, List.set_cons_succ]
  refine wpAnyH_take (i := 4) (v := ?_) rfl (by kernel_rfl) (by kernel_rfl) (by kernel_rfl) (fun _ _ _ h => h) (Or.inl ⟨by rfl, ?_⟩) (by assumption) ?_
  rotate_left
  · intro wS hSw
    (try dsimp only at hSw)
    go_simp
    first | done | with_reducible rfl
  try simp only [Act.put, List.getElem_toArray, List.getElem_cons_succ, List.getElem_cons_zero, List.setIfInBounds_toArray, List.set_cons_zero, List.set_cons_succ]
  refine wpAnyH_take (i := 5) (v := ?_) rfl (by kernel_rfl) (by kernel_rfl) (by kernel_rfl) (fun _ _ _ h => h) (Or.inl ⟨by rfl, ?_⟩) (by assumption) ?_
  rotate_left
  · intro wS hSw
    (try dsimp only at hSw)
    go_simp
    first | done | with_reducible rfl
  try simp only [Act.put, List.getElem_toArray, List.getElem_cons_succ, List.getElem_cons_zero, List.setIfInBounds_toArray, List.set_cons_zero, List.set_cons_succ]
  refine wpAnyH_take (i := 6) (v := ?_) rfl (by kernel_rfl) (by kernel_rfl) (by kernel_rfl) (fun _ _ _ h => h) (Or.inl ⟨by rfl, ?_⟩) (by assumption) ?_
  rotate_left
  · intro wS hSw
    (try dsimp only at hSw)
    go_simp
    first | done | with_reducible rfl
  try simp only [Act.put, List.getElem_toArray, List.getElem_cons_succ, List.getElem_cons_zero, List.setIfInBounds_toArray, List.set_cons_zero, List.set_cons_succ]
  refine wpAnyH_take (i := 7) (v := ?_) rfl (by kernel_rfl) (by kernel_rfl) (by kernel_rfl) (fun _ _ _ h => h) (Or.inl ⟨by rfl, ?_⟩) (by assumption) ?_
  rotate_left
  · intro wS hSw
    (try dsimp only at hSw)
    obtain ⟨c0, c1, q0, q1, q2, q3, q4, q5⟩ := HF.out _ hSw
    have q1 := off1 q1
    have q2 := off2 q2
    have q3 := off3 q3
    have q4 := off4 q4
    have q5 := off5 q5
    go_simp
    first | done | with_reducible rfl
  try simp only [Act.put, List.getElem_toArray, List.getElem_cons_succ, List.getElem_cons_zero, List.setIfInBounds_toArray, List.set_cons_zero, List.set_cons_succ]
  refine wpAnyH_take (i := 8) (v := ?_) rfl (by kernel_rfl) (by kernel_rfl) (by kernel_rfl) (fun _ _ _ h => h) (Or.inl ⟨by rfl, ?_⟩) (by assumption) ?_
  rotate_left
  · intro wS hSw
    (try dsimp only at hSw)
    go_simp
    first | done | with_reducible rfl
  try simp only [Act.put, List.getElem_toArray, List.getElem_cons_succ, List.getElem_cons_zero, List.setIfInBounds_toArray, List.set_cons_zero, List.set_cons_succ]
  refine wpAnyH_take (i := 9) (v := ?_) rfl (by kernel_rfl) (by kernel_rfl) (by kernel_rfl) (fun _ _ _ h => h) (Or.inl ⟨by rfl, ?_⟩) (by assumption) ?_
  rotate_left
  · intro wS hSw
    (try dsimp only at hSw)
    obtain ⟨c0, c1, q0, q1, q2, q3, q4, q5⟩ := HF.out _ hSw
    have q1 := off1 q1
    have q2 := off2 q2
    have q3 := off3 q3
    have q4 := off4 q4
    have q5 := off5 q5
    go_simp
    first | done | with_reducible rfl
  try simp only [Act.put, List.getElem_toArray, List.getElem_cons_succ, List.getElem_cons_zero, List.setIfInBounds_toArray, List.set_cons_zero, List.set_cons_succ]
  refine wpAnyH_ready (rs := [10]) (by kernel_rfl) (by simp) ?_
  refine AllReadyH.cons rfl (fun K hK => ?_) AllReadyH.nil
  have hR := HE.out.2
  obtain ⟨x0, x1, x2, x3, x4, x5⟩ := opcells hR
  have y0 : we.frozen? ⟨w.heap.size, 0, none⟩ = false := by simp [World.frozen?, hR]
  have y1 : we.frozen? ⟨w.heap.size, 1, none⟩ = false := by simp [World.frozen?, hR]
  have y2 : we.frozen? ⟨w.heap.size, 2, none⟩ = false := by simp [World.frozen?, hR]
  have y3 : we.frozen? ⟨w.heap.size, 3, none⟩ = false := by simp [World.frozen?, hR]
  have y4 : we.frozen? ⟨w.heap.size, 4, none⟩ = false := by simp [World.frozen?, hR]
  have y5 : we.frozen? ⟨w.heap.size, 5, none⟩ = false := by simp [World.frozen?, hR]
  clear hR
  go_simp
  change K _ (putOp we w.heap.size x)
  have hRn : (putOp we w.heap.size x).heap[w.heap.size]? = some (opR x) := dset (dset (dset (dset (dset (dset HE.out.2 0 _) 1 _) 2 _) 3 _) 4 _) 5 _
  have hset : ∀ X, Below w.heap.size X we → Below w.heap.size X (putOp we w.heap.size x) := fun X hX => (((((hX.setCell (p := ⟨w.heap.size, 0, none⟩) (Nat.le_refl _) _).setCell (p := ⟨w.heap.size, 1, none⟩) (Nat.le_refl _) _).setCell (p := ⟨w.heap.size, 2, none⟩) (Nat.le_refl _) _).setCell (p := ⟨w.heap.size, 3, none⟩) (Nat.le_refl _) _).setCell (p := ⟨w.heap.size, 4, none⟩) (Nat.le_refl _) _).setCell (p := ⟨w.heap.size, 5, none⟩) (Nat.le_refl _) _
  have hb1 := hset wd r1
  have hbn := hset w HE.out.1
  clear hset
  generalize putOp we w.heap.size x = w2 at *
  refine hK.out _ _ ?_ (fun r2 => ?_)
  · exact hb1
  try simp only [Act.put, List.getElem_toArray, List.getElem_cons_succ, List.getElem_cons_zero, List.setIfInBounds_toArray, List.set_cons_zero, List.set_cons_succ]
  refine wpAnyH_take (i := 11) (v := ?_) rfl (by kernel_rfl) (by kernel_rfl) (by kernel_rfl) (fun _ _ _ h => h) (Or.inl ⟨by rfl, ?_⟩) (by assumption) ?_
  rotate_left
  · intro wS hSw
    (try dsimp only at hSw)
    go_simp
    first | done | with_reducible rfl
  try simp only [Act.put, List.getElem_toArray, List.getElem_cons_succ, List.getElem_cons_zero, List.setIfInBounds_toArray, List.set_cons_zero, List.set_cons_succ]
  refine wpAnyH_done (by kernel_rfl) ?_ _
  clear y0 y1 y2 y3 y4 y5 x0 x1 x2 x3 x4 x5
  obtain ⟨x0, x1, x2, x3, x4, x5⟩ := opcells hRn
  go_wp2_with fail
  refine bodyPost_ret (v := .tuple #[opV x, .bool true]) (by simp [results, Try.results10, go_sem, x0, x1, x2, x3, x4, x5]) rfl ⟨rfl, hbn⟩
set_option maxRecDepth 100000 in
set_option maxHeartbeats 4000000 in
theorem refOp_no (gl t : Nat) (os : List KOp) (wv : Value) (w : World) (hg : w.heap[gl]? = some (listO wv t)) (hs : SeesO w wv os) (hlt : ¬ t < os.length) : Calls Try.prog 10 #[ptr gl] w fun e w' => e = .returned (.tuple #[opV opZ, .bool false]) ∧ Below w.heap.size w w' := by
  obtain ⟨wo, wc, rfl⟩ := hs.slice
  have d1 : decide ((os.length : Int) ≤ (t : Int)) = true := by simp; omega
  have h2 : (os.length : Int) ≤ (t : Int) := by omega
  have c0 := cell0 hg
  have c1 := cell1 hg
  obtain ⟨W1, hW⟩ : ∃ W1, W1 = w.alloc (opR opZ) := ⟨_, rfl⟩
  have hb0 := belNew w (opR opZ)
  have hR := heap_alloc_new w (opR opZ)
  rw [← hW] at hb0 hR
  have c0 := bcell hb0 c0
  have c1 := bcell hb0 c1
  have HX := Lib.hid (And.intro hb0 hR)
  have HW := Lib.hid hW
  clear hb0 hR hW hg hs hlt
  go_enter Try.func10, Try.ntmps10
  go_upto_region 1 with fail
  change Code.wp _ _ _ _ (w.alloc (opR opZ))
  rw [← HW.out]
  clear HW
  refine wp_region_held_drew (S := (fun W => Below W1.heap.size W1 W)) (by kernel_rfl) ?_ (fun r0 => ?_)
  · exact ⟨rfl, rfl, rfl, Nat.le_refl _, fun _ _ => rfl⟩
  refine wpAnyH_take (i := 0) (v := ?_) rfl (by kernel_rfl) (by kernel_rfl) (by kernel_rfl) (fun _ _ _ h => h) (Or.inl ⟨by rfl, ?_⟩) (by assumption) ?_
  rotate_left
  · intro wS hSw
    (try dsimp only at hSw)
    go_simp
    first | done | with_reducible rfl
  try simp only [Act.put, List.getElem_toArray, List.getElem_cons_succ, List.getElem_cons_zero, List.setIfInBounds_toArray, List.set_cons_zero, List.set_cons_succ]
  refine wpAnyH_take (i := 1) (v := ?_) rfl (by kernel_rfl) (by kernel_rfl) (by kernel_rfl) (fun _ _ _ h => h) (Or.inl ⟨by rfl, ?_⟩) (by assumption) ?_
  rotate_left
  · intro wS hSw
    (try dsimp only at hSw)
    go_simp
    first | done | with_reducible rfl
  try simp only [Act.put, List.getElem_toArray, List.getElem_cons_succ, List.getElem_cons_zero, List.setIfInBounds_toArray, List.set_cons_zero, List.set_cons_succ]
  refine wpAnyH_take (i := 2) (v := ?_) rfl (by kernel_rfl) (by kernel_rfl) (by kernel_rfl) (fun _ _ _ h => h) (Or.inl ⟨by rfl, ?_⟩) (by assumption) ?_
  rotate_left
  · intro wS hSw
    (try dsimp only at hSw)
    go_simp
    first | done | with_reducible rfl
  try simp only [Act.put, List.getElem_toArray, List.getElem_cons_succ, List.getElem_cons_zero, List.setIfInBounds_toArray, List.set_cons_zero, List.set_cons_succ]
  refine wpAnyH_take (i := 3) (v := ?_) rfl (by kernel_rfl) (by kernel_rfl) (by kernel_rfl) (fun _ _ _ h => h) (Or.inl ⟨by rfl, ?_⟩) (by assumption) ?_
  rotate_left
  · intro wS hSw
    (try dsimp only at hSw)
    have c0 := bcell hSw c0
    have c1 := bcell hSw c1
    go_simp
    first | done | with_reducible rfl
  try simp only [Act.put, List.getElem_toArray, List.getElem_cons_succ, List.getElem_cons_zero, List.setIfInBounds_toArray, List.set_cons_zero, List.set_cons_succ]
  refine wpAnyH_take (i := 4) (v := ?_) rfl (by kernel_rfl) (by kernel_rfl) (by kernel_rfl) (fun _ _ _ h => h) (Or.inl ⟨by rfl, ?_⟩) (by assumption) ?_
  rotate_left
  · intro wS hSw
    (try dsimp only at hSw)
    go_simp
    first | done | with_reducible rfl
  try simp only [Act.put, List.getElem_toArray, List.getElem_cons_succ, List.getElem_cons_zero, List.setIfInBounds_toArray, List.set_cons_zero, List.set_cons_succ]
  refine wpAnyH_take (i := 5) (v := ?_) rfl (by kernel_rfl) (by kernel_rfl) (by kernel_rfl) (fun _ _ _ h => h) (Or.inl ⟨by rfl, ?_⟩) (by assumption) ?_
  rotate_left
  · intro wS hSw
    (try dsimp only at hSw)
    go_simp
    first | done | with_reducible rfl
  try simp only [Act.put, List.getElem_toArray, List.getElem_cons_succ, List.getElem_cons_zero, List.setIfInBounds_toArray, List.set_cons_zero, List.set_cons_succ]
  refine wpAnyH_take (i := 6) (v := ?_) rfl (by kernel_rfl) (by kernel_rfl) (by kernel_rfl) (fun _ _ _ h => h) (Or.inl ⟨by rfl, ?_⟩) (by assumption) ?_
  rotate_left
  · intro wS hSw
    (try dsimp only at hSw)
    go_simp
    first | done | with_reducible rfl
  try simp only [Act.put, List.getElem_toArray, List.getElem_cons_succ, List.getElem_cons_zero, List.setIfInBounds_toArray, List.set_cons_zero, List.set_cons_succ]
  refine wpAnyH_take (i := 7) (v := ?_) rfl (by kernel_rfl) (by kernel_rfl) (by kernel_rfl) (fun _ _ _ h => h) (Or.inl ⟨by rfl, ?_⟩) (by assumption) ?_
  rotate_left
  · intro wS hSw
    (try dsimp only at hSw)
    have c0 := bcell hSw c0
    have c1 := bcell hSw c1
    go_simp
    first | done | with_reducible rfl
  try simp only [Act.put, List.getElem_toArray, List.getElem_cons_succ, List.getElem_cons_zero, List.setIfInBounds_toArray, List.set_cons_zero, List.set_cons_succ]
  refine wpAnyH_take (i := 8) (v := ?_) rfl (by kernel_rfl) (by kernel_rfl) (by kernel_rfl) (fun _ _ _ h => h) (Or.inl ⟨by rfl, ?_⟩) (by assumption) ?_
  rotate_left
  · intro wS hSw
    (try dsimp only at hSw)
    go_simp
    first | done | with_reducible rfl
  try simp only [Act.put, List.getElem_toArray, List.getElem_cons_succ, List.getElem_cons_zero, List.setIfInBounds_toArray, List.set_cons_zero, List.set_cons_succ]
  refine wpAnyH_take (i := 9) (v := ?_) rfl (by kernel_rfl) (by kernel_rfl) (by kernel_rfl) (fun _ _ _ h => h) (Or.inl ⟨by rfl, ?_⟩) (by assumption) ?_
  rotate_left
  · intro wS hSw
    (try dsimp only at hSw)
    go_simp
    first | done | with_reducible rfl
  try simp only [Act.put, List.getElem_toArray, List.getElem_cons_succ, List.getElem_cons_zero, List.setIfInBounds_toArray, List.set_cons_zero, List.set_cons_succ]
  refine wpAnyH_done (by kernel_rfl) ?_ _
  obtain ⟨wd, hwd⟩ : ∃ wd, wd = W1.drew := ⟨_, rfl⟩
  rw [← hwd] at r0 ⊢
  have hbw := HX.out.1.trans (r0.mono HX.out.1.size)
  have hR := (r0.block _ (heap_lt HX.out.2)).trans HX.out.2
  have HB := Lib.hid hbw
  have HR := Lib.hid hR
  clear hwd r0 hbw hR c0 c1
  go_wp2_with (refine wpStR (o1 := opZ) rfl _ _ rfl rfl rfl HR.out ?_; intro w2 hR2 hg2; obtain ⟨x0, x1, x2, x3, x4, x5⟩ := opcells hR2; have HB2 := Lib.hid (HB.out.grown hg2 HB.out.size (fun k hk => by cases hk; exact Nat.le_refl _)); clear hR2 hg2)
  refine bodyPost_ret (v := .tuple #[opV opZ, .bool false]) (by simp [results, Try.results10, go_sem, x0, x1, x2, x3, x4, x5]) rfl ⟨rfl, HB2.out⟩
theorem refOp_any (gl t : Nat) (os : List KOp) (wv : Value) (w : World) (hg : w.heap[gl]? = some (listO wv t)) (hs : SeesO w wv os) : Calls Try.prog 10 #[ptr gl] w fun e w' => e = .returned (.tuple #[opV (nextO os t), .bool (decide (t < os.length))]) ∧ Below w.heap.size w w' := by
  unfold nextO
  by_cases hlt : t < os.length
  · rw [if_pos hlt, decide_eq_true hlt]
    exact refOp_yes gl t os wv w hg hs hlt
  · rw [if_neg hlt, decide_eq_false hlt]
    exact refOp_no gl t os wv w hg hs hlt
end Go.Proofs.Ytholgmcfgnifdaa
