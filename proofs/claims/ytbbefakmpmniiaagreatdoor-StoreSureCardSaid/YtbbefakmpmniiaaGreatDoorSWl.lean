/- Joined: Wl Wo WlNil WlOp Sn Sn2 SnNil. -/
import Derived.Test.YtbbefakmpmniiaaGreatDoorSDk
import Derived.Test.YtbbefakmpmniiaaGreatDoorSFr
import Derived.Lib.SlBytesConst
import Derived.Laws.ByValue
import Derived.LoopN
namespace Go.Proofs.YtbbefakmpmniiaaGreatDoor
section
open Go.RowKit Go.Maps
theorem addz (g n : Nat) : (⟨g, 0, none⟩ : Addr).add n = ⟨g, n, none⟩ := by
  unfold Addr.add
  by_cases h : n = 0
  · subst h; rfl
  · simp [h]
theorem Sees.over {w a b : World} {B : Nat} {v : Value} {xs : List Int} (h : Sees a v xs) (ha : Below B w a) (hb : Below B w b) (hv : ∀ d, v.ownBlock = some d → d < B) : Sees b v xs := sees_heap h (fun d hd _ => (hb.block d (hv d hd)).trans (ha.block d (hv d hd)).symm)
theorem Sees.keep' {w w' : World} {B : Nat} {v : Value} {xs : List Int} (h : Sees w v xs) (hb : Below B w w') (hv : ∀ d, v.ownBlock = some d → d < B) : Sees w' v xs := sees_heap h (fun d hd _ => hb.block d (hv d hd))
/-- A log in block l (of the program's or of the document's type). -/
def LogIs (T : TypeId) (w : World) (l g : Nat) (nm : ByteArray) (size : Nat) (dead : Bool) : Prop :=
  w.heap[l]? = some (.cells #[ptr g, .string nm, .int .i64 (size : Nat), .bool dead] T (0, 0))
theorem LogIs.keep {T : TypeId} {w w' : World} {l g : Nat} {nm : ByteArray} {size : Nat} {dead : Bool} (h : LogIs T w l g nm size dead) {P : Nat → Prop} (ht : Touch P w w') (hp : ¬ P l) : LogIs T w' l g nm size dead := (ht.2.2.2.2 l (heap_lt h) hp).trans h
theorem LogIs.below {T : TypeId} {w w' : World} {l g : Nat} {nm : ByteArray} {size : Nat} {dead : Bool} (h : LogIs T w l g nm size dead) (hb : Below w.heap.size w w') : LogIs T w' l g nm size dead := (hb.block l (heap_lt h)).trans h
/-- A call that turns what P holds, or the block l. -/
def StepL (P P' : Nat → Prop) (l : Nat) (w w' : World) : Prop := Touch (fun i => P i ∨ i = l) w w' ∧ ∀ i, P' i → P i ∨ w.heap.size ≤ i
theorem StepL.of {P P' : Nat → Prop} {l : Nat} {w w' : World} (h : Step P P' w w') : StepL P P' l w w' := ⟨h.1.mono (fun _ _ h => Or.inl h), h.2⟩
theorem StepL.trans {P P' P'' : Nat → Prop} {l : Nat} {a b c : World} (h : StepL P P' l a b) (k : StepL P' P'' l b c) : StepL P P'' l a c :=
  ⟨h.1.trans k.1 (fun i hi hp => hp.imp (fun hp => (h.2 i hp).elim id (fun e => by omega)) id), fun i hi => (k.2 i hi).elim (h.2 i) (fun e => Or.inr (Nat.le_trans h.1.2.2.2.1 e))⟩
theorem StepL.below {P P' : Nat → Prop} {l : Nat} {a b c : World} (h : Below a.heap.size a b) (k : StepL P P' l b c) : StepL P P' l a c :=
  ⟨(Touch.of_below _ h).trans k.1 (fun _ _ h => h), fun i hi => (k.2 i hi).imp id (fun e => Nat.le_trans h.size e)⟩
theorem StepL.thenBelow {P P' : Nat → Prop} {l : Nat} {a b c : World} (h : StepL P P' l a b) (k : Below b.heap.size b c) : StepL P P' l a c :=
  ⟨h.1.trans (Touch.of_below _ k) (fun _ _ h => h), h.2⟩
theorem StepL.set {P P' : Nat → Prop} {l : Nat} {a b : World} (h : StepL P P' l a b) (i : Nat) (v : Value) : StepL P P' l a (b.setCell ⟨l, i, none⟩ v) :=
  ⟨h.1.trans (touch_set b l i v) (fun _ _ e => Or.inr e), h.2⟩
theorem StepL.ge {P P' : Nat → Prop} {l : Nat} {a b : World} {n : Nat} (h : StepL P P' l a b) (hp : ∀ i, P i → n ≤ i) (hl : n ≤ l) (hn : n ≤ a.heap.size) : (∀ i, P' i → n ≤ i) ∧ Below n a b :=
  ⟨fun i hi => (h.2 i hi).elim (hp i) (fun h' => Nat.le_trans hn h'), h.1.below hn (fun i hi => hi.elim (hp i) (fun e => by rw [e]; exact hl))⟩
theorem StepL.not {P P' : Nat → Prop} {l : Nat} {a b : World} (h : StepL P P' l a b) (hl : l < a.heap.size) (hp : ¬ P l) : ¬ P' l := fun h' => (h.2 l h').elim hp (fun e => by omega)
theorem belDrew (w : World) : Below w.heap.size w w.drew := ⟨rfl, rfl, rfl, Nat.le_refl _, fun _ _ => rfl⟩
theorem lcells {w : World} {l : Nat} {a b c d : Value} {t : TypeId} (h : w.heap[l]? = some (.cells #[a, b, c, d] t (0, 0))) : w.cell? ⟨l, 0, none⟩ = some a ∧ w.cell? ⟨l, 1, none⟩ = some b ∧ w.cell? ⟨l, 2, none⟩ = some c ∧ w.cell? ⟨l, 3, none⟩ = some d := by simp [World.cell?, h]
theorem lfroz {w : World} {l : Nat} {a b c d : Value} {t : TypeId} (h : w.heap[l]? = some (.cells #[a, b, c, d] t (0, 0))) (i : Nat) : w.frozen? ⟨l, i, none⟩ = false := by simp [World.frozen?, h]
/-- All files' bytes are bytes. -/
theorem DiskAt.oks {w : World} {g : Nat} {P : Nat → Prop} {D : DSt} (h : DiskAt w g P D) : ∀ f ∈ D.fs, okB f.2.1 := by
  obtain ⟨mb, es, h1, h2, h3, h4, -⟩ := h
  have key : ∀ (es : List Ent) (fs : List FEnt), All2 (FileOk w P) es fs → ∀ f ∈ fs, okB f.2.1 := by
    intro es
    induction es with
    | nil =>
      intro fs h f hf
      cases fs with
      | nil => cases hf
      | cons b m => exact h.elim
    | cons a l ih =>
      intro fs h f hf
      cases fs with
      | nil => exact h.elim
      | cons b m =>
        rcases List.mem_cons.1 hf with rfl | hf
        · obtain ⟨_, _, _, _, h4, _⟩ := h.1
          exact h4
        · exact ih m h.2 f hf
  exact key es D.fs h4
theorem readD_ok {D : DSt} (h : ∀ f ∈ D.fs, okB f.2.1) (k : List UInt8) : okB (readD D k).1 := by
  unfold readD
  cases hg : getE D.fs k with
  | none => exact fun x hx => by cases hx
  | some u =>
    simp only []
    split
    · exact fun x hx => by cases hx
    · exact h _ (getE_mem hg)
theorem readD_len {D : DSt} (k : List UInt8) : (readD D k).1.length ≤ ((getE D.fs k).getD ([], 0)).1.length := by
  unfold readD
  cases hg : getE D.fs k with
  | none => exact Nat.zero_le _
  | some u =>
    simp only []
    split
    · exact Nat.zero_le _
    · exact Nat.le_refl _
theorem appD_len (D : DSt) (k : List UInt8) (t : List Int) : (appD D k t).2.fs.length ≤ D.fs.length + 1 := by
  unfold appD
  split
  · exact Nat.le_succ _
  · exact putE_length _ _ _
set_option maxHeartbeats 2000000 in
theorem ready_any (l g : Nat) (nm : ByteArray) (size : Nat) (dead : Bool) (w : World) (h : LogIs 138 w l g nm size dead) : Calls Tryz.prog 123 #[ptr l] w fun e w' => e = .returned (.int .i64 (if dead = true then 12 else 0)) ∧ w = w' := by
  obtain ⟨c0, c1, c2, c3⟩ := lcells h
  clear h
  cases dead with
  | true =>
    go_enter Tryz.func123, Tryz.ntmps123
    go_wp2_with fail
    go_ret
    exact ⟨rfl, rfl⟩
  | false =>
    go_enter Tryz.func123, Tryz.ntmps123
    go_wp2_with fail
    go_ret
    exact ⟨rfl, rfl⟩
theorem ready_nil (w : World) : Calls Tryz.prog 123 #[.pointer none] w fun e w' => e = .returned (.int .i64 2) ∧ w = w' := by
  go_enter Tryz.func123, Tryz.ntmps123
  go_wp2_with fail
  go_ret
  exact ⟨rfl, rfl⟩
theorem lappend_nil (v : Value) (w : World) : Calls Tryz.prog 86 #[.pointer none, v] w fun e w' => e = .returned (.int .i64 2) ∧ w = w' := by
  have HR := Lib.hid (ready_nil w)
  go_enter Tryz.func86, Tryz.ntmps86
  go_wp2_with fail
  refine HR.out.mono ?_; rintro e w' ⟨rfl, rfl⟩
  go_wp2_with fail
  go_ret
  exact ⟨rfl, rfl⟩
theorem lclear_nil (w : World) : Calls Tryz.prog 79 #[.pointer none] w fun e w' => e = .returned (.int .i64 2) ∧ w = w' := by
  have HR := Lib.hid (ready_nil w)
  go_enter Tryz.func79, Tryz.ntmps79
  go_wp2_with fail
  refine HR.out.mono ?_; rintro e w' ⟨rfl, rfl⟩
  go_wp2_with fail
  go_ret
  exact ⟨rfl, rfl⟩
theorem die_any (l g : Nat) (nm : ByteArray) (size : Nat) (dead : Bool) (x : Int) (w : World) (h : LogIs 138 w l g nm size dead) :
    Calls Tryz.prog 124 #[ptr l, .int .i64 x] w fun e w' => e = .returned (.int .i64 x) ∧ LogIs 138 w' l g nm 0 true ∧ Touch (· = l) w w' := by
  obtain ⟨c0, c1, c2, c3⟩ := lcells h
  have f2 := lfroz h 2
  have f3 := lfroz h 3
  have H1 := dset h 3 (.bool true)
  have HH := Lib.hid (dset H1 2 (.int .i64 0))
  have HT := Lib.hid ((touch_set w l 3 (.bool true)).trans (touch_set (w.setCell ⟨l, 3, none⟩ (.bool true)) l 2 (.int .i64 0)) (fun _ _ e => e))
  clear h H1
  go_enter Tryz.func124, Tryz.ntmps124
  go_wp2_with fail
  go_ret
  exact ⟨rfl, HH.out, HT.out⟩
/-- What a write of frames does: Append, then Sync. -/
def writeL (D : DSt) (k : List UInt8) (t : List Int) : Int × DSt := if (appD D k t).1 = 0 then syncD (appD D k t).2 k else appD D k t
set_option linter.unusedSimpArgs false in
set_option maxRecDepth 100000 in
set_option maxRecDepth 100000 in
set_option maxHeartbeats 4000000 in
theorem lwrite_any (l g : Nat) (P : Nat → Prop) (D : DSt) (nm : ByteArray) (size : Nat) (dead : Bool) (src : Value) (t : List Int) (w : World) (h : DiskAt w g P D) (hl : LogIs 138 w l g nm size dead) (hPl : ¬ P l) (hs : nm.size ≤ maxLen) (hs0 : nm.data.toList ≠ [])
    (hn : D.fs.length ≤ 1000) (hb : ((getE D.fs nm.data.toList).getD ([], 0)).1.length + t.length ≤ 100000000000) (hsee : Sees w src t) (hok : okB t) (hsrc : t ≠ [] → ∀ d, src.ownBlock = some d → d ≠ g) :
    Calls Tryz.prog 133 #[ptr l, src] w fun e w' => ∃ P', e = .returned (.int .i64 (writeL D nm.data.toList t).1) ∧ DiskAt w' g P' (writeL D nm.data.toList t).2 ∧ Step P P' w w' := by
  have HA := Lib.hid (append_any g P D nm src t w.drew (h.below (belDrew w)) hs hs0 (by omega) hb (hsee.keep (belDrew w)) hok hsrc)
  have HL := Lib.hid hl
  obtain ⟨c0, c1, -, -⟩ := lcells hl
  have hlt := heap_lt hl
  obtain ⟨ea, hea⟩ : ∃ ea, ea = (appD D nm.data.toList t).1 := ⟨_, rfl⟩
  obtain ⟨DA, hDA⟩ : ∃ DA, DA = (appD D nm.data.toList t).2 := ⟨_, rfl⟩
  have hDl := appD_len D nm.data.toList t
  rw [← hDA] at hDl
  have hW : writeL D nm.data.toList t = if ea = 0 then syncD DA nm.data.toList else (ea, DA) := by unfold writeL; rw [← hea, ← hDA]; congr 1; rw [hea, hDA]
  rw [← hea, ← hDA] at HA
  rw [hW]
  clear hea hDA hsee hb hsrc hok h hl hW
  go_enter Tryz.func133, Tryz.ntmps133
  go_wp2_with fail
  refine wp_region_held_drew (S := (fun W => W.cell? ⟨l, 0, none⟩ = some (ptr g) ∧ W.cell? ⟨l, 1, none⟩ = some (.string nm))) (by kernel_rfl) ?_ (fun r0 => ?_)
  · exact ⟨c0, c1⟩
  refine wpAnyH_take (i := 0) (v := ?_) rfl (by kernel_rfl) (by kernel_rfl) (by kernel_rfl) (fun _ _ _ h => h) (Or.inl ⟨by rfl, ?_⟩) (by assumption) ?_
  rotate_left
  · intro w hSw
    (try dsimp only at hSw)
    go_simp
    first | done | with_reducible rfl
  try simp only [Act.put, List.getElem_toArray, List.getElem_cons_succ, List.getElem_cons_zero, List.setIfInBounds_toArray, List.set_cons_zero, List.set_cons_succ]
  refine wpAnyH_take (i := 1) (v := ?_) rfl (by kernel_rfl) (by kernel_rfl) (by kernel_rfl) (fun _ _ _ h => h) (Or.inl ⟨by rfl, ?_⟩) (by assumption) ?_
  rotate_left
  · intro w hSw
    (try dsimp only at hSw)
    go_simp
    first | done | with_reducible rfl
  try simp only [Act.put, List.getElem_toArray, List.getElem_cons_succ, List.getElem_cons_zero, List.setIfInBounds_toArray, List.set_cons_zero, List.set_cons_succ]
  refine wpAnyH_take (i := 2) (v := ?_) rfl (by kernel_rfl) (by kernel_rfl) (by kernel_rfl) (fun _ _ _ h => h) (Or.inl ⟨by rfl, ?_⟩) (by assumption) ?_
  rotate_left
  · intro w hSw
    (try dsimp only at hSw)
    go_simp
    first | done | with_reducible rfl
  try simp only [Act.put, List.getElem_toArray, List.getElem_cons_succ, List.getElem_cons_zero, List.setIfInBounds_toArray, List.set_cons_zero, List.set_cons_succ]
  refine wpAnyH_take (i := 3) (v := ?_) rfl (by kernel_rfl) (by kernel_rfl) (by kernel_rfl) (fun _ _ _ h => h) (Or.inl ⟨by rfl, ?_⟩) (by assumption) ?_
  rotate_left
  · intro w hSw
    (try dsimp only at hSw)
    go_simp
    first | done | with_reducible rfl
  try simp only [Act.put, List.getElem_toArray, List.getElem_cons_succ, List.getElem_cons_zero, List.setIfInBounds_toArray, List.set_cons_zero, List.set_cons_succ]
  refine wpAnyH_take (i := 4) (v := ?_) rfl (by kernel_rfl) (by kernel_rfl) (by kernel_rfl) (fun _ _ _ h => h) (Or.inl ⟨by rfl, ?_⟩) (by assumption) ?_
  rotate_left
  · intro w hSw
    (try dsimp only at hSw)
    go_simp
    first | done | with_reducible rfl
  try simp only [Act.put, List.getElem_toArray, List.getElem_cons_succ, List.getElem_cons_zero, List.setIfInBounds_toArray, List.set_cons_zero, List.set_cons_succ]
  refine wpAnyH_take (i := 5) (v := ?_) rfl (by kernel_rfl) (by kernel_rfl) (by kernel_rfl) (fun _ _ _ h => h) (Or.inl ⟨by rfl, ?_⟩) (by assumption) ?_
  rotate_left
  · intro w hSw
    (try dsimp only at hSw)
    go_simp
    first | done | with_reducible rfl
  try simp only [Act.put, List.getElem_toArray, List.getElem_cons_succ, List.getElem_cons_zero, List.setIfInBounds_toArray, List.set_cons_zero, List.set_cons_succ]
  refine wpAnyH_take (i := 6) (v := ?_) rfl (by kernel_rfl) (by kernel_rfl) (by kernel_rfl) (fun _ _ _ h => h) (Or.inl ⟨by rfl, ?_⟩) (by assumption) ?_
  rotate_left
  · intro w hSw
    (try dsimp only at hSw)
    go_simp
    first | done | with_reducible rfl
  try simp only [Act.put, List.getElem_toArray, List.getElem_cons_succ, List.getElem_cons_zero, List.setIfInBounds_toArray, List.set_cons_zero, List.set_cons_succ]
  refine wpAnyH_take (i := 7) (v := ?_) rfl (by kernel_rfl) (by kernel_rfl) (by kernel_rfl) (fun _ _ _ h => h) (Or.inl ⟨by rfl, ?_⟩) (by assumption) ?_
  rotate_left
  · intro w hSw
    (try dsimp only at hSw)
    go_simp
    first | done | with_reducible rfl
  try simp only [Act.put, List.getElem_toArray, List.getElem_cons_succ, List.getElem_cons_zero, List.setIfInBounds_toArray, List.set_cons_zero, List.set_cons_succ]
  refine wpAnyH_take (i := 8) (v := ?_) rfl (by kernel_rfl) (by kernel_rfl) (by kernel_rfl) (fun _ _ _ h => h) (Or.inl ⟨by rfl, ?_⟩) (by assumption) ?_
  rotate_left
  · intro w hSw
    (try dsimp only at hSw)
    go_simp
    first | done | with_reducible rfl
  try simp only [Act.put, List.getElem_toArray, List.getElem_cons_succ, List.getElem_cons_zero, List.setIfInBounds_toArray, List.set_cons_zero, List.set_cons_succ]
  refine wpAnyH_ready (rs := [9]) (by kernel_rfl) (by simp) ?_
  refine AllReadyH.cons rfl (fun K hK => ?_) AllReadyH.nil
  go_simp
  refine HA.out.mono ?_; rintro e w1 ⟨P1, rfl, hD1, hS1⟩
  have hS1 := Step.below (belDrew w) hS1
  have hl1 := HL.out.keep hS1.1 hPl
  obtain ⟨d0, d1, -, -⟩ := lcells hl1
  refine hK.out _ _ ?_ (fun r1 => ?_)
  · exact ⟨d0, d1⟩
  try simp only [Act.put, List.getElem_toArray, List.getElem_cons_succ, List.getElem_cons_zero, List.setIfInBounds_toArray, List.set_cons_zero, List.set_cons_succ]
  refine wpAnyH_take (i := 10) (v := ?_) rfl (by kernel_rfl) (by kernel_rfl) (by kernel_rfl) (fun _ _ _ h => h) (Or.inl ⟨by rfl, ?_⟩) (by assumption) ?_
  rotate_left
  · intro w hSw
    (try dsimp only at hSw)
    go_simp
    first | done | with_reducible rfl
  try simp only [Act.put, List.getElem_toArray, List.getElem_cons_succ, List.getElem_cons_zero, List.setIfInBounds_toArray, List.set_cons_zero, List.set_cons_succ]
  refine wpAnyH_done (by kernel_rfl) ?_ _
  by_cases h0 : ea = 0
  · subst h0
    have HY := Lib.hid (sync_any g P1 DA nm w1.drew (hD1.below (belDrew w1)) hs (by omega))
    have HS1 := Lib.hid hS1
    have HL1 := Lib.hid hl1
    clear hS1 hl1 hD1
    go_wp2_with fail
    refine wp_region_held_drew (S := (fun W => W.cell? ⟨l, 0, none⟩ = some (ptr g) ∧ W.cell? ⟨l, 1, none⟩ = some (.string nm))) (by kernel_rfl) ?_ (fun r0 => ?_)
    · exact ⟨d0, d1⟩
    refine wpAnyH_take (i := 0) (v := ?_) rfl (by kernel_rfl) (by kernel_rfl) (by kernel_rfl) (fun _ _ _ h => h) (Or.inl ⟨by rfl, ?_⟩) (by assumption) ?_
    rotate_left
    · intro w hSw
      (try dsimp only at hSw)
      go_simp
      first | done | with_reducible rfl
    try simp only [Act.put, List.getElem_toArray, List.getElem_cons_succ, List.getElem_cons_zero, List.setIfInBounds_toArray, List.set_cons_zero, List.set_cons_succ]
    refine wpAnyH_take (i := 1) (v := ?_) rfl (by kernel_rfl) (by kernel_rfl) (by kernel_rfl) (fun _ _ _ h => h) (Or.inl ⟨by rfl, ?_⟩) (by assumption) ?_
    rotate_left
    · intro w hSw
      (try dsimp only at hSw)
      go_simp
      first | done | with_reducible rfl
    try simp only [Act.put, List.getElem_toArray, List.getElem_cons_succ, List.getElem_cons_zero, List.setIfInBounds_toArray, List.set_cons_zero, List.set_cons_succ]
    refine wpAnyH_take (i := 2) (v := ?_) rfl (by kernel_rfl) (by kernel_rfl) (by kernel_rfl) (fun _ _ _ h => h) (Or.inl ⟨by rfl, ?_⟩) (by assumption) ?_
    rotate_left
    · intro w hSw
      (try dsimp only at hSw)
      go_simp
      first | done | with_reducible rfl
    try simp only [Act.put, List.getElem_toArray, List.getElem_cons_succ, List.getElem_cons_zero, List.setIfInBounds_toArray, List.set_cons_zero, List.set_cons_succ]
    refine wpAnyH_take (i := 3) (v := ?_) rfl (by kernel_rfl) (by kernel_rfl) (by kernel_rfl) (fun _ _ _ h => h) (Or.inl ⟨by rfl, ?_⟩) (by assumption) ?_
    rotate_left
    · intro w hSw
      (try dsimp only at hSw)
      go_simp
      first | done | with_reducible rfl
    try simp only [Act.put, List.getElem_toArray, List.getElem_cons_succ, List.getElem_cons_zero, List.setIfInBounds_toArray, List.set_cons_zero, List.set_cons_succ]
    refine wpAnyH_take (i := 4) (v := ?_) rfl (by kernel_rfl) (by kernel_rfl) (by kernel_rfl) (fun _ _ _ h => h) (Or.inl ⟨by rfl, ?_⟩) (by assumption) ?_
    rotate_left
    · intro w hSw
      (try dsimp only at hSw)
      go_simp
      first | done | with_reducible rfl
    try simp only [Act.put, List.getElem_toArray, List.getElem_cons_succ, List.getElem_cons_zero, List.setIfInBounds_toArray, List.set_cons_zero, List.set_cons_succ]
    refine wpAnyH_take (i := 5) (v := ?_) rfl (by kernel_rfl) (by kernel_rfl) (by kernel_rfl) (fun _ _ _ h => h) (Or.inl ⟨by rfl, ?_⟩) (by assumption) ?_
    rotate_left
    · intro w hSw
      (try dsimp only at hSw)
      go_simp
      first | done | with_reducible rfl
    try simp only [Act.put, List.getElem_toArray, List.getElem_cons_succ, List.getElem_cons_zero, List.setIfInBounds_toArray, List.set_cons_zero, List.set_cons_succ]
    refine wpAnyH_take (i := 6) (v := ?_) rfl (by kernel_rfl) (by kernel_rfl) (by kernel_rfl) (fun _ _ _ h => h) (Or.inl ⟨by rfl, ?_⟩) (by assumption) ?_
    rotate_left
    · intro w hSw
      (try dsimp only at hSw)
      go_simp
      first | done | with_reducible rfl
    try simp only [Act.put, List.getElem_toArray, List.getElem_cons_succ, List.getElem_cons_zero, List.setIfInBounds_toArray, List.set_cons_zero, List.set_cons_succ]
    refine wpAnyH_take (i := 7) (v := ?_) rfl (by kernel_rfl) (by kernel_rfl) (by kernel_rfl) (fun _ _ _ h => h) (Or.inl ⟨by rfl, ?_⟩) (by assumption) ?_
    rotate_left
    · intro w hSw
      (try dsimp only at hSw)
      go_simp
      first | done | with_reducible rfl
    try simp only [Act.put, List.getElem_toArray, List.getElem_cons_succ, List.getElem_cons_zero, List.setIfInBounds_toArray, List.set_cons_zero, List.set_cons_succ]
    refine wpAnyH_ready (rs := [8]) (by kernel_rfl) (by simp) ?_
    refine AllReadyH.cons rfl (fun K hK => ?_) AllReadyH.nil
    go_simp
    refine HY.out.mono ?_; rintro e w2 ⟨P2, rfl, hD2, hS2⟩
    have hS2 := Step.below (belDrew w1) hS2
    have hP1l : ¬ P1 l := fun hp => (HS1.out.2 l hp).elim hPl (fun e => by omega)
    have hl2 := HL1.out.keep hS2.1 hP1l
    obtain ⟨e0, e1, -, -⟩ := lcells hl2
    refine hK.out _ _ ?_ (fun r2 => ?_)
    · exact ⟨e0, e1⟩
    try simp only [Act.put, List.getElem_toArray, List.getElem_cons_succ, List.getElem_cons_zero, List.setIfInBounds_toArray, List.set_cons_zero, List.set_cons_succ]
    refine wpAnyH_take (i := 9) (v := ?_) rfl (by kernel_rfl) (by kernel_rfl) (by kernel_rfl) (fun _ _ _ h => h) (Or.inl ⟨by rfl, ?_⟩) (by assumption) ?_
    rotate_left
    · intro w hSw
      (try dsimp only at hSw)
      go_simp
      first | done | with_reducible rfl
    try simp only [Act.put, List.getElem_toArray, List.getElem_cons_succ, List.getElem_cons_zero, List.setIfInBounds_toArray, List.set_cons_zero, List.set_cons_succ]
    refine wpAnyH_done (by kernel_rfl) ?_ _
    go_wp2_with fail
    go_ret
    (try rw [if_pos rfl])
    first | exact ⟨P2, rfl, hD2, HS1.out.trans hS2⟩ | exact ⟨rfl, P2, hD2, HS1.out.trans hS2⟩
  · have d9 : (ea != 0) = true := by simpa using h0
    clear r0 r1
    go_wp2_with fail
    go_ret
    (try rw [if_neg h0])
    first | exact ⟨P1, rfl, hD1, hS1⟩ | exact ⟨rfl, P1, hD1, hS1⟩
/-- A log's state: its disk's, how many bytes its frames have, is it dead. -/
structure WSt where
  D : DSt
  size : Nat
  dead : Bool
def walA (S : WSt) (k : List UInt8) (p : List Int) : Int × WSt :=
  if S.dead = true then (12, S) else if p = [] then (1, S) else if (writeL S.D k (frameL p)).1 = 0 then (0, ⟨(writeL S.D k (frameL p)).2, S.size + (8 + p.length), false⟩) else ((writeL S.D k (frameL p)).1, ⟨(writeL S.D k (frameL p)).2, 0, true⟩)
def walC (S : WSt) (k : List UInt8) : Int × WSt :=
  if S.dead = true then (12, S) else if (cutD S.D k 0).1 = 0 ∨ (cutD S.D k 0).1 = 6 then (0, ⟨(cutD S.D k 0).2, 0, false⟩) else ((cutD S.D k 0).1, ⟨(cutD S.D k 0).2, 0, true⟩)
set_option maxRecDepth 100000 in
set_option maxHeartbeats 4000000 in
theorem lappend_any (l g : Nat) (P : Nat → Prop) (S : WSt) (nm : ByteArray) (v : Value) (p : List Int) (w : World) (h : DiskAt w g P S.D) (hl : LogIs 138 w l g nm S.size S.dead) (hPl : ¬ P l) (hs : nm.size ≤ maxLen) (hs0 : nm.data.toList ≠ [])
    (hn : S.D.fs.length ≤ 1000) (hsz : S.size ≤ 100000000) (hb : ((getE S.D.fs nm.data.toList).getD ([], 0)).1.length ≤ 1000000) (hsee : Sees w v p) (hok : okB p) (hp : p.length ≤ 1000) (hE : Env w) :
    Calls Tryz.prog 86 #[ptr l, v] w fun e w' => ∃ P', e = .returned (.int .i64 (walA S nm.data.toList p).1) ∧ DiskAt w' g P' (walA S nm.data.toList p).2.D ∧ LogIs 138 w' l g nm (walA S nm.data.toList p).2.size (walA S nm.data.toList p).2.dead ∧ StepL P P' l w w' := by
  obtain ⟨D, size, dead⟩ := S
  simp only [] at h hl hn hsz hb
  have HR := Lib.hid (ready_any l g nm size dead w hl)
  cases dead with
  | true =>
    have e1 : walA ⟨D, size, true⟩ nm.data.toList p = (12, ⟨D, size, true⟩) := if_pos rfl
    rw [e1]
    have HH := Lib.hid (And.intro h hl)
    clear h hl
    go_enter Tryz.func86, Tryz.ntmps86
    go_wp2_with fail
    refine HR.out.mono ?_; rintro e w' ⟨rfl, rfl⟩
    go_wp2_with fail
    go_ret
    exact ⟨P, rfl, HH.out.1, HH.out.2, Touch.refl _ _, fun _ h => Or.inl h⟩
  | false =>
    by_cases hp0 : p = []
    · subst hp0
      have e1 : walA ⟨D, size, false⟩ nm.data.toList [] = (1, ⟨D, size, false⟩) := by unfold walA; rw [if_neg (by simp), if_pos rfl]
      rw [e1]
      have HH := Lib.hid (And.intro h hl)
      have HN := Lib.hid (fput_no v w hsee)
      clear h hl hsee
      go_enter Tryz.func86, Tryz.ntmps86
      go_wp2_with fail
      refine HR.out.mono ?_; rintro e w' ⟨rfl, rfl⟩
      go_wp2_with fail
      refine HN.out.mono ?_; rintro e w' ⟨rfl, rfl⟩
      go_wp2_with fail
      go_ret
      exact ⟨P, rfl, HH.out.1, HH.out.2, Touch.refl _ _, fun _ h => Or.inl h⟩
    · have hp1 : 1 ≤ p.length := List.length_pos_iff.2 hp0
      have HP := Lib.hid (fput_any v p w hsee hok hp1 (by omega) hE)
      have HH := Lib.hid (And.intro h hl)
      have hgl : g < w.heap.size := h.lt h.self
      have hll := heap_lt hl
      have HO := Lib.hid (frameL_ok hok)
      have hfl := frameL_len p
      obtain ⟨F, hF⟩ : ∃ F, F = frameL p := ⟨_, rfl⟩
      obtain ⟨ew, hew⟩ : ∃ ew, ew = (writeL D nm.data.toList F).1 := ⟨_, rfl⟩
      obtain ⟨DW, hDW⟩ : ∃ DW, DW = (writeL D nm.data.toList F).2 := ⟨_, rfl⟩
      have e1 : walA ⟨D, size, false⟩ nm.data.toList p = if ew = 0 then (0, ⟨DW, size + (8 + p.length), false⟩) else (ew, ⟨DW, 0, true⟩) := by
        unfold walA; rw [if_neg (by simp), if_neg hp0, ← hF, ← hew, ← hDW]
      rw [e1]
      rw [← hF] at HP HO hfl
      have HWR : Hid (∀ (src : Value) (W : World), Sees W src F → (∀ d, src.ownBlock = some d → d ≠ g) → DiskAt W g P D → LogIs 138 W l g nm size false → Calls Tryz.prog 133 #[ptr l, src] W fun e w' => ∃ P', e = .returned (.int .i64 ew) ∧ DiskAt w' g P' DW ∧ Step P P' W w') := Lib.hid (fun src W k1 k2 k3 k4 => by
        have := lwrite_any l g P D nm size false src F W k3 k4 hPl hs hs0 hn (by omega) k1 HO.out (fun _ => k2)
        rw [← hew, ← hDW] at this
        exact this)
      have HFL := Lib.hid hfl
      clear h hl hsee hok hF hew hDW e1 hb hfl
      go_enter Tryz.func86, Tryz.ntmps86
      go_wp2_with fail
      refine HR.out.mono ?_; rintro e w' ⟨rfl, rfl⟩
      go_wp2_with fail
      refine HP.out.mono ?_; rintro e w1 ⟨v1, rfl, ho1, hb1⟩
      obtain ⟨vo, vc, hv1, -, -⟩ := id ho1.sees
      subst hv1
      have hl1 := HH.out.2.below hb1
      have HC1 := Lib.hid (HWR.out _ w1 ho1.sees (fun d hd e => by have := (World.ownsRow.lt ho1 d hd).1; omega) (HH.out.1.below hb1) hl1)
      have HL1 := Lib.hid hl1
      clear hl1 ho1
      go_wp2_with fail
      refine HC1.out.mono ?_; rintro e w2 ⟨P2, rfl, hD2, hS2⟩
      have hl2 := HL1.out.keep hS2.1 hPl
      have hS3 : StepL P P2 l w w2 := StepL.below hb1 (StepL.of hS2)
      by_cases h0 : ew = 0
      · subst h0
        obtain ⟨c0, c1, c2, c3⟩ := lcells hl2
        have f2 := lfroz hl2 2
        have s1 : IntKind.i64.wrap ((size : Int) + (F.length : Int)) = ((size + (8 + p.length) : Nat) : Int) := by
          have hfl := HFL.out
          rw [IntWalk.i64_in _ (by omega)]
          omega
        have HL2 := Lib.hid (dset hl2 2 (.int .i64 ((size + (8 + p.length) : Nat) : Int)))
        have HD2 := Lib.hid (hD2.keep (touch_set w2 l 2 (.int .i64 ((size + (8 + p.length) : Nat) : Int))) (fun d hd e => hS3.not hll hPl (by rw [← e]; exact hd)))
        have HS3 := Lib.hid (hS3.set 2 (.int .i64 ((size + (8 + p.length) : Nat) : Int)))
        clear hl2 hS2 hS3 hD2
        go_wp2_with fail
        go_ret
        (try rw [if_pos rfl])
        first | exact ⟨P2, rfl, HD2.out, HL2.out, HS3.out⟩ | exact ⟨rfl, P2, HD2.out, HL2.out, HS3.out⟩
      · have d9 : (ew != 0) = true := by simpa using h0
        go_wp2_with fail
        refine (die_any l g nm size false ew w2 hl2).mono ?_; rintro e w3 ⟨rfl, hl3, ht3⟩
        go_wp2_with fail
        go_ret
        (try rw [if_neg h0])
        first | exact ⟨P2, rfl, hD2.keep ht3 (fun d hd e => hS3.not hll hPl (by rw [← e]; exact hd)), hl3, hS3.1.trans ht3 (fun _ _ e => Or.inr e), hS3.2⟩ | exact ⟨rfl, P2, hD2.keep ht3 (fun d hd e => hS3.not hll hPl (by rw [← e]; exact hd)), hl3, hS3.1.trans ht3 (fun _ _ e => Or.inr e), hS3.2⟩
set_option linter.unusedSimpArgs false in
set_option maxRecDepth 100000 in
set_option maxHeartbeats 4000000 in
theorem lclear_any (l g : Nat) (P : Nat → Prop) (S : WSt) (nm : ByteArray) (w : World) (h : DiskAt w g P S.D) (hl : LogIs 138 w l g nm S.size S.dead) (hPl : ¬ P l) (hs : nm.size ≤ maxLen)
    (hn : S.D.fs.length ≤ 1000) (hall : ∀ f ∈ S.D.fs, f.2.1.length ≤ 100000000000) :
    Calls Tryz.prog 79 #[ptr l] w fun e w' => ∃ P', e = .returned (.int .i64 (walC S nm.data.toList).1) ∧ DiskAt w' g P' (walC S nm.data.toList).2.D ∧ LogIs 138 w' l g nm (walC S nm.data.toList).2.size (walC S nm.data.toList).2.dead ∧ StepL P P' l w w' := by
  obtain ⟨D, size, dead⟩ := S
  simp only [] at h hl hn hall
  have HR := Lib.hid (ready_any l g nm size dead w hl)
  cases dead with
  | true =>
    have e1 : walC ⟨D, size, true⟩ nm.data.toList = (12, ⟨D, size, true⟩) := if_pos rfl
    rw [e1]
    have HH := Lib.hid (And.intro h hl)
    clear h hl
    go_enter Tryz.func79, Tryz.ntmps79
    go_wp2_with fail
    refine HR.out.mono ?_; rintro e w' ⟨rfl, rfl⟩
    go_wp2_with fail
    go_ret
    exact ⟨P, rfl, HH.out.1, HH.out.2, Touch.refl _ _, fun _ h => Or.inl h⟩
  | false =>
    have HC := Lib.hid (cut_any g P D nm 0 w.drew (h.below (belDrew w)) hs (by omega) (by omega) hall (by omega))
    obtain ⟨ec, hec⟩ : ∃ ec, ec = (cutD D nm.data.toList 0).1 := ⟨_, rfl⟩
    obtain ⟨DC, hDC⟩ : ∃ DC, DC = (cutD D nm.data.toList 0).2 := ⟨_, rfl⟩
    have e1 : walC ⟨D, size, false⟩ nm.data.toList = if ec = 0 ∨ ec = 6 then (0, ⟨DC, 0, false⟩) else (ec, ⟨DC, 0, true⟩) := by
      unfold walC; rw [if_neg (by simp), ← hec, ← hDC]
    rw [e1]
    rw [← hec, ← hDC] at HC
    have HL := Lib.hid hl
    have hll := heap_lt hl
    obtain ⟨c0, c1, -, -⟩ := lcells hl
    clear h hl hec hDC e1 hall
    go_enter Tryz.func79, Tryz.ntmps79
    go_wp2_with fail
    refine HR.out.mono ?_; rintro e w' ⟨rfl, rfl⟩
    go_wp2_with fail
    refine wp_region_held_drew (S := (fun W => W.cell? ⟨l, 0, none⟩ = some (ptr g) ∧ W.cell? ⟨l, 1, none⟩ = some (.string nm))) (by kernel_rfl) ?_ (fun r0 => ?_)
    · exact ⟨c0, c1⟩
    refine wpAnyH_take (i := 0) (v := ?_) rfl (by kernel_rfl) (by kernel_rfl) (by kernel_rfl) (fun _ _ _ h => h) (Or.inl ⟨by rfl, ?_⟩) (by assumption) ?_
    rotate_left
    · intro w hSw
      (try dsimp only at hSw)
      go_simp
      first | done | with_reducible rfl
    try simp only [Act.put, List.getElem_toArray, List.getElem_cons_succ, List.getElem_cons_zero, List.setIfInBounds_toArray, List.set_cons_zero, List.set_cons_succ]
    refine wpAnyH_take (i := 1) (v := ?_) rfl (by kernel_rfl) (by kernel_rfl) (by kernel_rfl) (fun _ _ _ h => h) (Or.inl ⟨by rfl, ?_⟩) (by assumption) ?_
    rotate_left
    · intro w hSw
      (try dsimp only at hSw)
      go_simp
      first | done | with_reducible rfl
    try simp only [Act.put, List.getElem_toArray, List.getElem_cons_succ, List.getElem_cons_zero, List.setIfInBounds_toArray, List.set_cons_zero, List.set_cons_succ]
    refine wpAnyH_take (i := 2) (v := ?_) rfl (by kernel_rfl) (by kernel_rfl) (by kernel_rfl) (fun _ _ _ h => h) (Or.inl ⟨by rfl, ?_⟩) (by assumption) ?_
    rotate_left
    · intro w hSw
      (try dsimp only at hSw)
      go_simp
      first | done | with_reducible rfl
    try simp only [Act.put, List.getElem_toArray, List.getElem_cons_succ, List.getElem_cons_zero, List.setIfInBounds_toArray, List.set_cons_zero, List.set_cons_succ]
    refine wpAnyH_take (i := 3) (v := ?_) rfl (by kernel_rfl) (by kernel_rfl) (by kernel_rfl) (fun _ _ _ h => h) (Or.inl ⟨by rfl, ?_⟩) (by assumption) ?_
    rotate_left
    · intro w hSw
      (try dsimp only at hSw)
      go_simp
      first | done | with_reducible rfl
    try simp only [Act.put, List.getElem_toArray, List.getElem_cons_succ, List.getElem_cons_zero, List.setIfInBounds_toArray, List.set_cons_zero, List.set_cons_succ]
    refine wpAnyH_take (i := 4) (v := ?_) rfl (by kernel_rfl) (by kernel_rfl) (by kernel_rfl) (fun _ _ _ h => h) (Or.inl ⟨by rfl, ?_⟩) (by assumption) ?_
    rotate_left
    · intro w hSw
      (try dsimp only at hSw)
      go_simp
      first | done | with_reducible rfl
    try simp only [Act.put, List.getElem_toArray, List.getElem_cons_succ, List.getElem_cons_zero, List.setIfInBounds_toArray, List.set_cons_zero, List.set_cons_succ]
    refine wpAnyH_take (i := 5) (v := ?_) rfl (by kernel_rfl) (by kernel_rfl) (by kernel_rfl) (fun _ _ _ h => h) (Or.inl ⟨by rfl, ?_⟩) (by assumption) ?_
    rotate_left
    · intro w hSw
      (try dsimp only at hSw)
      go_simp
      first | done | with_reducible rfl
    try simp only [Act.put, List.getElem_toArray, List.getElem_cons_succ, List.getElem_cons_zero, List.setIfInBounds_toArray, List.set_cons_zero, List.set_cons_succ]
    refine wpAnyH_take (i := 6) (v := ?_) rfl (by kernel_rfl) (by kernel_rfl) (by kernel_rfl) (fun _ _ _ h => h) (Or.inl ⟨by rfl, ?_⟩) (by assumption) ?_
    rotate_left
    · intro w hSw
      (try dsimp only at hSw)
      go_simp
      first | done | with_reducible rfl
    try simp only [Act.put, List.getElem_toArray, List.getElem_cons_succ, List.getElem_cons_zero, List.setIfInBounds_toArray, List.set_cons_zero, List.set_cons_succ]
    refine wpAnyH_take (i := 7) (v := ?_) rfl (by kernel_rfl) (by kernel_rfl) (by kernel_rfl) (fun _ _ _ h => h) (Or.inl ⟨by rfl, ?_⟩) (by assumption) ?_
    rotate_left
    · intro w hSw
      (try dsimp only at hSw)
      go_simp
      first | done | with_reducible rfl
    try simp only [Act.put, List.getElem_toArray, List.getElem_cons_succ, List.getElem_cons_zero, List.setIfInBounds_toArray, List.set_cons_zero, List.set_cons_succ]
    refine wpAnyH_ready (rs := [8]) (by kernel_rfl) (by simp) ?_
    refine AllReadyH.cons rfl (fun K hK => ?_) AllReadyH.nil
    go_simp
    refine HC.out.mono ?_; rintro e w1 ⟨P1, rfl, hD1, hS1⟩
    have hS1 := Step.below (belDrew w) hS1
    have hl1 := HL.out.keep hS1.1 hPl
    have hS3 : StepL P P1 l w w1 := StepL.of hS1
    obtain ⟨d0, d1, d2, d3⟩ := lcells hl1
    have f2 := lfroz hl1 2
    refine hK.out _ _ ?_ (fun r1 => ?_)
    · exact ⟨d0, d1⟩
    try simp only [Act.put, List.getElem_toArray, List.getElem_cons_succ, List.getElem_cons_zero, List.setIfInBounds_toArray, List.set_cons_zero, List.set_cons_succ]
    refine wpAnyH_take (i := 9) (v := ?_) rfl (by kernel_rfl) (by kernel_rfl) (by kernel_rfl) (fun _ _ _ h => h) (Or.inl ⟨by rfl, ?_⟩) (by assumption) ?_
    rotate_left
    · intro w hSw
      (try dsimp only at hSw)
      go_simp
      first | done | with_reducible rfl
    try simp only [Act.put, List.getElem_toArray, List.getElem_cons_succ, List.getElem_cons_zero, List.setIfInBounds_toArray, List.set_cons_zero, List.set_cons_succ]
    refine wpAnyH_done (by kernel_rfl) ?_ _
    have HL2 := Lib.hid (dset hl1 2 (.int .i64 0))
    have HD2 := Lib.hid (hD1.keep (touch_set w1 l 2 (.int .i64 0)) (fun d hd e => hS3.not hll hPl (by rw [← e]; exact hd)))
    have HS3 := Lib.hid (hS3.set 2 (.int .i64 0))
    clear r0 r1
    by_cases h0 : ec = 0
    · subst h0
      clear hl1 hD1 hS1 hS3
      go_wp2_with fail
      go_ret
      (try rw [if_pos (Or.inl rfl)])
      first | exact ⟨P1, rfl, HD2.out, HL2.out, HS3.out⟩ | exact ⟨rfl, P1, HD2.out, HL2.out, HS3.out⟩
    · have d9 : (ec != 0) = true := by simpa using h0
      by_cases h6 : ec = 6
      · subst h6
        clear hl1 hD1 hS1 hS3
        go_wp2_with fail
        go_ret
        (try rw [if_pos (Or.inr rfl)])
        first | exact ⟨P1, rfl, HD2.out, HL2.out, HS3.out⟩ | exact ⟨rfl, P1, HD2.out, HL2.out, HS3.out⟩
      · have d8 : (ec != 6) = true := by simpa using h6
        have HD1 := Lib.hid hD1
        have HS1 := Lib.hid hS3
        have HX := Lib.hid (die_any l g nm size false ec w1 hl1)
        clear hl1 hD1 hS1 hS3 HD2 HL2 HS3
        go_wp2_with fail
        refine HX.out.mono ?_; rintro e w3 ⟨rfl, hl3, ht3⟩
        go_wp2_with fail
        go_ret
        (try rw [if_neg (by omega)])
        first | exact ⟨P1, rfl, HD1.out.keep ht3 (fun d hd e => HS1.out.not hll hPl (by rw [← e]; exact hd)), hl3, HS1.out.1.trans ht3 (fun _ _ e => Or.inr e), HS1.out.2⟩ | exact ⟨rfl, P1, HD1.out.keep ht3 (fun d hd e => HS1.out.not hll hPl (by rw [← e]; exact hd)), hl3, HS1.out.1.trans ht3 (fun _ _ e => Or.inr e), HS1.out.2⟩
end
section
open Go.RowKit Go.Maps
def settleD (D : DSt) (k : List UInt8) (all n : Nat) : Int × DSt := if n < all then cutD D k (n : Nat) else if ((getE D.fs k).getD ([], 0)).2 < all then syncD D k else (0, D)
set_option maxRecDepth 100000 in
set_option maxHeartbeats 4000000 in
theorem settle_any (g : Nat) (P : Nat → Prop) (D : DSt) (nm : ByteArray) (all n : Nat) (w : World) (h : DiskAt w g P D) (hs : nm.size ≤ maxLen) (hn : D.fs.length ≤ 1000) (hall : ∀ f ∈ D.fs, f.2.1.length ≤ 100000000) (_ : all ≤ 100000000) (_ : n ≤ 100000000) :
    Calls Tryz.prog 61 #[ptr g, .string nm, .int .i64 (all : Nat), .int .i64 (n : Nat)] w fun e w' => ∃ P', e = .returned (.int .i64 (settleD D nm.data.toList all n).1) ∧ DiskAt w' g P' (settleD D nm.data.toList all n).2 ∧ Step P P' w w' := by
  by_cases h1 : n < all
  · have e1 : settleD D nm.data.toList all n = cutD D nm.data.toList (n : Nat) := if_pos h1
    rw [e1]
    have HC := Lib.hid (cut_any g P D nm (n : Nat) w h hs (by omega) (by omega) (fun f hf => by have := hall f hf; omega) (by omega))
    have d1 : decide ((n : Int) < (all : Int)) = true := by simp; omega
    clear h e1 hall
    go_enter Tryz.func61, Tryz.ntmps61
    go_wp2_with fail
    refine HC.out.mono ?_; rintro e w1 ⟨P1, rfl, hD1, hS1⟩
    go_wp2_with fail
    go_ret
    first | exact ⟨P1, rfl, hD1, hS1⟩ | exact ⟨rfl, P1, hD1, hS1⟩
  · have d1 : decide ((n : Int) < (all : Int)) = false := by simp; omega
    have HSU := Lib.hid (sure_any g P D nm w h hs)
    obtain ⟨su, hsu⟩ : ∃ su, su = ((getE D.fs nm.data.toList).getD ([], 0)).2 := ⟨_, rfl⟩
    rw [← hsu] at HSU
    by_cases h2 : su < all
    · have e1 : settleD D nm.data.toList all n = syncD D nm.data.toList := by unfold settleD; rw [if_neg h1, ← hsu, if_pos h2]
      rw [e1]
      have d2 : decide ((su : Int) < (all : Int)) = true := by simp; omega
      have HH := Lib.hid h
      clear h e1 hall hsu
      go_enter Tryz.func61, Tryz.ntmps61
      go_wp2_with fail
      refine HSU.out.mono ?_; rintro e w1 ⟨rfl, hb1⟩
      have HY := Lib.hid (sync_any g P D nm w1 (HH.out.below hb1) hs (by omega))
      go_wp2_with fail
      refine HY.out.mono ?_; rintro e w2 ⟨P1, rfl, hD1, hS1⟩
      go_wp2_with fail
      go_ret
      first | exact ⟨P1, rfl, hD1, Step.below hb1 hS1⟩ | exact ⟨rfl, P1, hD1, Step.below hb1 hS1⟩
    · have e1 : settleD D nm.data.toList all n = (0, D) := by unfold settleD; rw [if_neg h1, ← hsu, if_neg h2]
      rw [e1]
      have d2 : decide ((su : Int) < (all : Int)) = false := by simp; omega
      have HH := Lib.hid h
      clear h e1 hall hsu
      go_enter Tryz.func61, Tryz.ntmps61
      go_wp2_with fail
      refine HSU.out.mono ?_; rintro e w1 ⟨rfl, hb1⟩
      go_wp2_with fail
      go_ret
      first | exact ⟨P, rfl, HH.out.below hb1, Step.below hb1 (Step.refl _ _)⟩ | exact ⟨rfl, P, HH.out.below hb1, Step.below hb1 (Step.refl _ _)⟩
/-- What Open comes to. -/
def OpenPost (w : World) (g : Nat) (P : Nat → Prop) (D : DSt) (nm : ByteArray) (e : Ending) (w' : World) : Prop :=
  ∃ P', Step P P' w w' ∧
    (((readD D nm.data.toList).2 = 12 ∧ e = .returned (.tuple #[.pointer none, .slice none 0 0, .int .i64 12]) ∧ DiskAt w' g P' D) ∨
     ((readD D nm.data.toList).2 ≠ 12 ∧ ∃ ls n x, AllIs ls (readD D nm.data.toList).1 n x ∧ DiskAt w' g P' (settleD D nm.data.toList (readD D nm.data.toList).1.length n).2 ∧
       (((settleD D nm.data.toList (readD D nm.data.toList).1.length n).1 ≠ 0 ∧ e = .returned (.tuple #[.pointer none, .slice none 0 0, .int .i64 (settleD D nm.data.toList (readD D nm.data.toList).1.length n).1])) ∨
        ((settleD D nm.data.toList (readD D nm.data.toList).1.length n).1 = 0 ∧ ∃ l v, e = .returned (.tuple #[ptr l, v, .int .i64 0]) ∧ LogIs 138 w' l g nm n false ∧ (∀ w'', Touch (fun i => P' i ∨ i = l) w' w'' → RowN w'' w.heap.size v ls) ∧ ¬ P' l ∧ w.heap.size ≤ l))))
theorem readD_err (D : DSt) (k : List UInt8) : (readD D k).2 = 0 ∨ (readD D k).2 = 6 ∨ (readD D k).2 = 12 := by
  unfold readD
  split
  · exact Or.inr (Or.inl rfl)
  · split
    · exact Or.inr (Or.inr rfl)
    · exact Or.inl rfl
set_option linter.unusedVariables false in
set_option maxRecDepth 100000 in
set_option maxHeartbeats 4000000 in
theorem open_any (g : Nat) (P : Nat → Prop) (D : DSt) (nm : ByteArray) (w : World) (h : DiskAt w g P D) (hs : nm.size ≤ maxLen) (hs0 : nm.data.toList ≠ []) (hn : D.fs.length ≤ 1000) (hall : ∀ f ∈ D.fs, f.2.1.length ≤ 100000) (hE : Env w) :
    Calls Tryz.prog 34 #[ptr g, .string nm] w (OpenPost w g P D nm) := by
  have d0 : (nm.toList == ([] : List UInt8)) = false := by rw [ByteArray.toList_eq]; simpa using hs0
  have hgl : ((getE D.fs nm.data.toList).getD ([], 0)).1.length ≤ 100000 := by
    cases hg : getE D.fs nm.data.toList with
    | none => exact Nat.zero_le _
    | some u => exact hall _ (getE_mem hg)
  have hrl : (readD D nm.data.toList).1.length ≤ 100000 := Nat.le_trans (readD_len _) hgl
  have hro := readD_ok h.oks nm.data.toList
  have hre := readD_err D nm.data.toList
  have HR := Lib.hid (read_any g P D nm w h hs (by omega))
  unfold OpenPost
  obtain ⟨xs, hxs⟩ : ∃ xs, xs = (readD D nm.data.toList).1 := ⟨_, rfl⟩
  obtain ⟨er, her⟩ : ∃ er, er = (readD D nm.data.toList).2 := ⟨_, rfl⟩
  rw [← hxs] at hrl hro
  rw [← her] at hre
  rw [← hxs, ← her] at HR ⊢
  have HST : Hid (∀ (n : Nat) (W : World), n ≤ 100000 → DiskAt W g P D → Calls Tryz.prog 61 #[ptr g, .string nm, .int .i64 (xs.length : Nat), .int .i64 (n : Nat)] W fun e w' => ∃ P', e = .returned (.int .i64 (settleD D nm.data.toList xs.length n).1) ∧ DiskAt w' g P' (settleD D nm.data.toList xs.length n).2 ∧ Step P P' W w') :=
    Lib.hid (fun n W k1 k2 => settle_any g P D nm xs.length n W k2 hs hn (fun f hf => by have := hall f hf; omega) (by omega) (by omega))
  obtain ⟨SD, hSD⟩ : ∃ SD : Nat → Int × DSt, SD = fun n => settleD D nm.data.toList xs.length n := ⟨_, rfl⟩
  have HST : Hid (∀ (n : Nat) (W : World), n ≤ 100000 → DiskAt W g P D → Calls Tryz.prog 61 #[ptr g, .string nm, .int .i64 (xs.length : Nat), .int .i64 (n : Nat)] W fun e w' => ∃ P', e = .returned (.int .i64 (SD n).1) ∧ DiskAt w' g P' (SD n).2 ∧ Step P P' W w') := by rw [hSD]; exact HST
  have HG := Lib.hid (fun (e : Ending) (w' : World) (P' : Nat → Prop) (hS : Step P P' w w') (hh : (er = 12 ∧ e = .returned (.tuple #[.pointer none, .slice none 0 0, .int .i64 12]) ∧ DiskAt w' g P' D) ∨
     (er ≠ 12 ∧ ∃ ls n x, AllIs ls xs n x ∧ DiskAt w' g P' (SD n).2 ∧ (((SD n).1 ≠ 0 ∧ e = .returned (.tuple #[.pointer none, .slice none 0 0, .int .i64 (SD n).1])) ∨
        ((SD n).1 = 0 ∧ ∃ l v, e = .returned (.tuple #[ptr l, v, .int .i64 0]) ∧ LogIs 138 w' l g nm n false ∧ (∀ w'', Touch (fun i => P' i ∨ i = l) w' w'' → RowN w'' w.heap.size v ls) ∧ ¬ P' l ∧ w.heap.size ≤ l)))) => (show ∃ P', Step P P' w w' ∧ ((er = 12 ∧ e = .returned (.tuple #[.pointer none, .slice none 0 0, .int .i64 12]) ∧ DiskAt w' g P' D) ∨
     (er ≠ 12 ∧ ∃ ls n x, AllIs ls xs n x ∧ DiskAt w' g P' (settleD D nm.data.toList xs.length n).2 ∧ (((settleD D nm.data.toList xs.length n).1 ≠ 0 ∧ e = .returned (.tuple #[.pointer none, .slice none 0 0, .int .i64 (settleD D nm.data.toList xs.length n).1])) ∨
        ((settleD D nm.data.toList xs.length n).1 = 0 ∧ ∃ l v, e = .returned (.tuple #[ptr l, v, .int .i64 0]) ∧ LogIs 138 w' l g nm n false ∧ (∀ w'', Touch (fun i => P' i ∨ i = l) w' w'' → RowN w'' w.heap.size v ls) ∧ ¬ P' l ∧ w.heap.size ≤ l)))) from ⟨P', hS, by rw [hSD] at hh; exact hh⟩))
  have HH := Lib.hid h
  have HRO := Lib.hid hro
  clear h hall hgl hro hxs her hSD hs0
  obtain ⟨A, hAA⟩ : ∃ A : Prop, A = (er = 12) := ⟨_, rfl⟩
  have HAA := Lib.hid hAA
  clear hAA
  refine Calls.mono (R := fun e w' => ∃ P', Step P P' w w' ∧ ((A ∧ e = .returned (.tuple #[.pointer none, .slice none 0 0, .int .i64 12]) ∧ DiskAt w' g P' D) ∨
     (¬ A ∧ ∃ ls n x, AllIs ls xs n x ∧ DiskAt w' g P' (SD n).2 ∧ (((SD n).1 ≠ 0 ∧ e = .returned (.tuple #[.pointer none, .slice none 0 0, .int .i64 (SD n).1])) ∨
        ((SD n).1 = 0 ∧ ∃ l v, e = .returned (.tuple #[ptr l, v, .int .i64 0]) ∧ LogIs 138 w' l g nm n false ∧ (∀ w'', Touch (fun i => P' i ∨ i = l) w' w'' → RowN w'' w.heap.size v ls) ∧ ¬ P' l ∧ w.heap.size ≤ l))))) ?_ (fun e w' ⟨P', hS, hh⟩ => HG.out e w' P' hS (by rw [HAA.out] at hh; exact hh))
  have HA0 : Hid (A ↔ er = 12) := Lib.hid (by rw [HAA.out])
  clear HG HAA
  by_cases h12 : er = 12
  · have hA : A := HA0.out.2 h12
    subst h12
    have HA1 := Lib.hid hA
    clear HA0 hA
    go_enter Tryz.func34, Tryz.ntmps34
    go_wp2_with fail
    refine HR.out.mono ?_; rintro e w1 ⟨v1, rfl, ho1, hb1⟩
    go_wp2_with fail
    go_ret3
    exact ⟨P, Step.below hb1 (Step.refl _ _), Or.inl ⟨HA1.out, rfl, HH.out.below hb1⟩⟩
  · have hcond : er = 0 ∨ er = 6 := by omega
    have HE := Lib.hid (fun h => h12 (HA0.out.1 h))
    clear h12 hre HA0
    rcases hcond with rfl | rfl
    all_goals
      go_enter Tryz.func34, Tryz.ntmps34
      go_wp2_with fail
      refine HR.out.mono ?_; rintro e w1 ⟨v1, rfl, ho1, hb1⟩
      obtain ⟨vo, vc, hv1, -, -⟩ := id ho1.sees
      subst hv1
      have HA := Lib.hid (all_new _ xs w1 ho1.sees HRO.out hrl (hE.below hb1))
      clear ho1
      go_wp2_with fail
      refine HA.out.mono ?_; rintro e w2 ⟨v2, ls, n, x, rfl, hrow, hall, hb2⟩
      have hroom := Steps.room _ _ _ hall.1
      have hb12 := bel hb1 hb2
      have HS2 := Lib.hid (HST.out n w2 (by omega) (HH.out.below hb12))
      have HALL := Lib.hid (And.intro hall hrow)
      have hz1 := hb1.size
      clear hall hrow hroom
      obtain ⟨sn, hsn⟩ : ∃ sn, sn = SD n := ⟨_, rfl⟩
      rw [← hsn] at HS2
      have HSN := Lib.hid hsn
      clear hsn
      go_wp2_with fail
      refine HS2.out.mono ?_; rintro e w3 ⟨P3, rfl, hD3, hS3⟩
      have HS3 := Lib.hid (Step.below hb12 hS3)
      have HZ23 := Lib.hid hS3.1.2.2.2.1
      have HST3 := Lib.hid hS3.1.2.2.2.2
      have HPN := Lib.hid hS3.2
      have HD3 := Lib.hid hD3
      clear hS3 hD3
      by_cases h0 : sn.1 = 0
      · have hlN : ¬ P3 w3.heap.size := fun hp => absurd (HD3.out.lt hp) (Nat.lt_irrefl _)
        have hz3 : w.heap.size ≤ w3.heap.size := HS3.out.1.2.2.2.1
        have hbA := belNew w3 (.cells #[ptr g, .string nm, .int .i64 (n : Nat), .bool false] 138)
        have HKP : Hid (∀ w'', Below w3.heap.size w3 (w3.alloc (.cells #[ptr g, .string nm, .int .i64 (n : Nat), .bool false] 138)) → Touch (fun i => P3 i ∨ i = w3.heap.size) (w3.alloc (.cells #[ptr g, .string nm, .int .i64 (n : Nat), .bool false] 138)) w'' → RowN w'' w.heap.size v2 ls) := Lib.hid (fun w'' hb ht => RowN.le (HALL.out.2.stay (by have := hb.size; have := ht.2.2.2.1; have := HZ23.out; omega) (fun d h1 h2 => by
          have hz23 := HZ23.out
          have e1 := HST3.out d h2 (fun hp => by have := HH.out.lt hp; omega)
          have e2 := hb.block d (by omega)
          have e3 := ht.2.2.2.2 d (by simp; omega) (fun hp => by
            rcases hp with hp | hp
            · rcases HPN.out d hp with h3 | h3
              · have := HH.out.lt h3; omega
              · omega
            · omega)
          rw [e3, e2, e1])) hz1)
        have HX := Lib.hid (show LogIs 138 (w3.alloc (.cells #[ptr g, .string nm, .int .i64 (n : Nat), .bool false] 138)) w3.heap.size g nm n false from heap_alloc_new w3 _)
        have HB := Lib.hid hbA
        clear hbA
        go_wp2_with fail
        go_ret3
        obtain rfl := HSN.out
        refine ⟨P3, ⟨HS3.out.1.trans (Touch.of_below _ HB.out) (fun _ _ h => h), HS3.out.2⟩, Or.inr ⟨HE.out, ls, n, x, HALL.out.1, ?_, Or.inr ⟨h0, w3.heap.size, v2, rfl, HX.out, fun w'' ht => HKP.out w'' (HB.out) ht, hlN, hz3⟩⟩⟩
        exact HD3.out.below HB.out
      · have d9 : (sn.1 != 0) = true := by simpa using h0
        go_wp2_with fail
        go_ret3
        obtain rfl := HSN.out
        exact ⟨P3, HS3.out, Or.inr ⟨HE.out, ls, n, x, HALL.out.1, HD3.out, Or.inl ⟨h0, rfl⟩⟩⟩
theorem open_nil (nm : ByteArray) (hs0 : nm.data.toList ≠ []) (w : World) : Calls Tryz.prog 34 #[.pointer none, .string nm] w fun e w' => e = .returned (.tuple #[.pointer none, .slice none 0 0, .int .i64 2]) ∧ Below w.heap.size w w' := by
  have d0 : (nm.toList == ([] : List UInt8)) = false := by rw [ByteArray.toList_eq]; simpa using hs0
  have HR := Lib.hid (read_nil nm w)
  go_enter Tryz.func34, Tryz.ntmps34
  go_wp2_with fail
  refine HR.out.mono ?_; rintro e w1 ⟨rfl, hb1⟩
  go_wp2_with fail
  go_ret3
  exact ⟨rfl, hb1⟩
theorem open_empty (g : Nat) (w : World) : Calls Tryz.prog 34 #[ptr g, .string ⟨#[]⟩] w fun e w' => e = .returned (.tuple #[.pointer none, .slice none 0 0, .int .i64 1]) ∧ w = w' := by
  go_enter Tryz.func34, Tryz.ntmps34
  go_wp2_with fail
  go_ret3
  exact ⟨rfl, rfl⟩
end
section
open Go.RowKit Go.Maps
/-- Open, where what it comes to is known. -/
theorem open_ok (g : Nat) (P : Nat → Prop) (D D' : DSt) (nm : ByteArray) (xs : List Int) (er : Int) (ls : List (List Int)) (n x : Nat) (w : World) (h : DiskAt w g P D) (hs : nm.size ≤ maxLen) (hs0 : nm.data.toList ≠ []) (hn : D.fs.length ≤ 1000) (hall : ∀ f ∈ D.fs, f.2.1.length ≤ 100000) (hE : Env w)
    (hr : readD D nm.data.toList = (xs, er)) (he : er ≠ 12) (ha : AllIs ls xs n x) (hd : settleD D nm.data.toList xs.length n = (0, D')) :
    Calls Tryz.prog 34 #[ptr g, .string nm] w fun e w' => ∃ P' l v, e = .returned (.tuple #[ptr l, v, .int .i64 0]) ∧ DiskAt w' g P' D' ∧ LogIs 138 w' l g nm n false ∧ (∀ w'', Touch (fun i => P' i ∨ i = l) w' w'' → RowN w'' w.heap.size v ls) ∧ ¬ P' l ∧ w.heap.size ≤ l ∧ Step P P' w w' := by
  refine (open_any g P D nm w h hs hs0 hn hall hE).mono ?_
  rintro e w' ⟨P', hS, ⟨h1, _⟩ | ⟨_, ls', n', x', ha', hD', hh⟩⟩
  · rw [hr] at h1
    exact absurd h1 he
  · rw [hr] at ha' hD' hh
    obtain ⟨rfl, rfl, rfl⟩ := AllIs.same _ _ _ _ _ _ _ ha ha'
    rw [hd] at hD' hh
    rcases hh with ⟨h1, _⟩ | ⟨_, l, v, rfl, hl, hrow, hp, hlt⟩
    · exact absurd rfl h1
    · exact ⟨P', l, v, rfl, hD', hl, hrow, hp, hlt, hS⟩
/-- The name w. -/
def nW : ByteArray := ⟨#[119]⟩
def abcL : List Int := [97, 98, 99]
def defL : List Int := [100, 101, 102, 103, 104]
def wD (xs : List Int) (su : Nat) (lost armed : Bool) : DSt := ⟨[([119], (xs, su))], lost, armed, 0⟩
theorem wr0 : readD ⟨[], false, false, 0⟩ nW.data.toList = ([], 6) := by kernel_rfl
theorem ws0 : settleD ⟨[], false, false, 0⟩ nW.data.toList ([] : List Int).length 0 = (0, ⟨[], false, false, 0⟩) := by kernel_rfl
theorem wa0 : AllIs [] [] 0 6 := ⟨rfl, rfl, by decide⟩
theorem wa1 : walA ⟨⟨[], false, false, 0⟩, 0, false⟩ nW.data.toList abcL = (0, ⟨wD (frameL abcL) 11 false false, 11, false⟩) := by kernel_rfl
theorem wa2 : walA ⟨wD (frameL abcL) 11 false true, 11, false⟩ nW.data.toList defL = (12, ⟨wD (frameL abcL ++ frameL defL) 11 true true, 0, true⟩) := by kernel_rfl
theorem wc3 : crashD (wD (frameL abcL ++ frameL defL) 11 true true) [9] = wD ((frameL abcL ++ frameL defL).take 20) 20 false false := by kernel_rfl
theorem wr4 : readD (wD ((frameL abcL ++ frameL defL).take 20) 20 false false) nW.data.toList = ((frameL abcL ++ frameL defL).take 20, 0) := by kernel_rfl
theorem wa4 : AllIs [abcL] ((frameL abcL ++ frameL defL).take 20) 11 4 := by
  refine ⟨⟨by kernel_rfl, by kernel_rfl, 0, rfl, by kernel_rfl⟩, by kernel_rfl, by decide⟩
theorem ws4 : settleD (wD ((frameL abcL ++ frameL defL).take 20) 20 false false) nW.data.toList ((frameL abcL ++ frameL defL).take 20).length 11 = (0, wD ((frameL abcL ++ frameL defL).take 11) 11 false false) := by kernel_rfl
theorem abcS : strOfNums abcL = ⟨#[97, 98, 99]⟩ := by kernel_rfl
theorem wsmall (xs : List Int) (su : Nat) (a b : Bool) (h : xs.length ≤ 100000) : ∀ f ∈ (wD xs su a b).fs, f.2.1.length ≤ 100000 := fun f hf => by
  obtain rfl := List.mem_singleton.1 hf
  exact h
end
section
open Go.RowKit Go.Maps
theorem wo1 {xs : List Int} : appD ⟨[], false, false, 0⟩ nW.data.toList xs = (0, wD xs 0 false false) := by
  show (if false = true then _ else _) = _
  rw [if_neg (by simp)]
  rfl
theorem wlost (xs : List Int) (su : Nat) : ¬ lost1 (wD xs su false false).lost (wD xs su false false).armed (wD xs su false false).left = true := by simp [wD, lost1]
theorem wo2 {xs : List Int} {su : Nat} : readD (wD xs su false false) nW.data.toList = (xs, 0) := rfl
/-- What a file's whole records leave of it. -/
theorem wo3 {xs : List Int} {n : Nat} (hn : n ≤ xs.length) : settleD (wD xs 0 false false) nW.data.toList xs.length n = (0, wD (xs.take n) n false false) := by
  unfold settleD
  by_cases h1 : n < xs.length
  · rw [if_pos h1]
    have e : getE (wD xs 0 false false).fs nW.data.toList = some (xs, 0) := rfl
    unfold cutD
    rw [e]
    simp only []
    rw [if_neg (by omega), if_neg (wlost xs 0), Int.toNat_natCast]
    rfl
  · rw [if_neg h1]
    obtain rfl : n = xs.length := by omega
    rw [List.take_length]
    have e : ((getE (wD xs 0 false false).fs nW.data.toList).getD ([], 0)).2 = 0 := rfl
    rw [e]
    by_cases h2 : 0 < xs.length
    · rw [if_pos h2]
      have e : getE (wD xs 0 false false).fs nW.data.toList = some (xs, 0) := rfl
      unfold syncD
      rw [e]
      simp only []
      rw [if_neg (wlost xs 0)]
      rfl
    · rw [if_neg h2]
      have : xs.length = 0 := by omega
      rw [this]
theorem wo4 {xs : List Int} : settleD (wD xs xs.length false false) nW.data.toList xs.length xs.length = (0, wD xs xs.length false false) := by
  unfold settleD
  rw [if_neg (Nat.lt_irrefl _)]
  have e : ((getE (wD xs xs.length false false).fs nW.data.toList).getD ([], 0)).2 = xs.length := rfl
  rw [e, if_neg (Nat.lt_irrefl _)]
/-- A whole frame at the beginning is seen of any piece that has it. -/
theorem next_take {l : List Int} (h : nextE l = 0) {m : Nat} (hm : nextN l ≤ m) : nextE (l.take m) = 0 ∧ nextP (l.take m) = nextP l ∧ nextN (l.take m) = nextN l := by
  obtain ⟨r1, r2, r3⟩ := next_room h
  have h0 := h
  unfold nextE at h
  have eN : nextN l = 8 + (recL l).length := by unfold nextN; rw [if_pos h0]
  have eP : nextP l = recL l := by unfold nextP; rw [if_pos h0]
  have hc : 1 ≤ cntL l ∧ cntL l ≤ 1048576 ∧ cntL l ≤ l.length - 8 ∧ numBE ((l.drop 4).take 4) = ofN (recL l) := by
    split at h
    · cases h
    · split at h
      · cases h
      · split at h
        · cases h
        · rename_i h3
          split at h
          · cases h
          · split at h
            · rename_i h4 h5
              refine ⟨by omega, by omega, by omega, h5⟩
            · cases h
  have hrl : (recL l).length = cntL l := by unfold recL; rw [List.length_take, List.length_drop]; omega
  have e1 : cntL (l.take m) = cntL l := by unfold cntL; rw [List.take_take, show min 4 m = 4 from by omega]
  have e2 : recL (l.take m) = recL l := by
    unfold recL
    rw [e1, List.drop_take, List.take_take, show min (cntL l) (m - 8) = cntL l from by omega]
  have e3 : ((l.take m).drop 4).take 4 = (l.drop 4).take 4 := by rw [List.drop_take, List.take_take, show min 4 (m - 4) = 4 from by omega]
  have e4 : nextE (l.take m) = 0 := by
    unfold nextE
    rw [e1, e2, e3, List.length_take, if_neg (by omega), if_neg (by omega), if_neg (by omega), if_neg (by omega), if_pos hc.2.2.2]
  refine ⟨e4, ?_, ?_⟩
  · unfold nextP; rw [if_pos e4, if_pos h0, e2]
  · unfold nextN; rw [if_pos e4, if_pos h0, e2]
theorem steps_take : ∀ (ls : List (List Int)) (l : List Int) (k : Nat), Steps ls l k → Steps ls (l.take k) k
  | [], _, _, h => h
  | p :: ls, l, k, h => by
    obtain ⟨h1, h2, k', h3, rfl⟩ := h
    obtain ⟨r1, r2, r3⟩ := next_room h1
    have hk := (Steps.room _ _ _ h3).2
    rw [List.length_drop] at hk
    have e := next_take h1 (m := nextN l + k') (by omega)
    refine ⟨e.1, e.2.1.trans h2, k', ?_, by rw [e.2.2]⟩
    rw [e.2.2, List.drop_take, show nextN l + k' - nextN l = k' from by omega]
    exact steps_take ls _ _ h3
/-- Of the whole records' bytes alone the records are the same. -/
theorem all_take {ls : List (List Int)} {l : List Int} {k x : Nat} (h : AllIs ls l k x) : AllIs ls (l.take k) k 6 := by
  have hk := (Steps.room _ _ _ h.1).2
  refine ⟨steps_take _ _ _ h.1, ?_, by decide⟩
  rw [List.drop_take, Nat.sub_self, List.take_zero]
  rfl
end
section
open Go.RowKit Go.Maps
def tilde (s : ByteArray) : ByteArray := s ++ ⟨#[126]⟩
theorem spare_any (s : ByteArray) (w : World) (hs : s.size + 1 ≤ 9223372036854775807) : Calls Tryz.prog 114 #[.string s] w fun e w' => e = .returned (.string (tilde s)) ∧ w = w' := by
  have h0 : ¬ 9223372036854775807 < s.size + 1 := by omega
  go_enter Tryz.func114, Tryz.ntmps114
  go_wp2_with fail
  go_ret
  exact ⟨rfl, rfl⟩
/-- Remove, where no file of that name is nothing wrong. -/
def rmD (D : DSt) (k : List UInt8) : Int × DSt := if (removeD D k).1 = 6 then (0, (removeD D k).2) else removeD D k
set_option maxRecDepth 100000 in
set_option maxHeartbeats 2000000 in
theorem rm_any (g : Nat) (P : Nat → Prop) (D : DSt) (s : ByteArray) (w : World) (h : DiskAt w g P D) (hs : s.size ≤ maxLen) :
    Calls Tryz.prog 117 #[ptr g, .string s] w fun e w' => ∃ P', e = .returned (.int .i64 (rmD D s.data.toList).1) ∧ DiskAt w' g P' (rmD D s.data.toList).2 ∧ Step P P' w w' := by
  have HR := Lib.hid (remove_any g P D s w h hs)
  have e1 : rmD D s.data.toList = if (removeD D s.data.toList).1 = 6 then (0, (removeD D s.data.toList).2) else ((removeD D s.data.toList).1, (removeD D s.data.toList).2) := rfl
  rw [e1]
  obtain ⟨er, her⟩ : ∃ er, er = (removeD D s.data.toList).1 := ⟨_, rfl⟩
  obtain ⟨D1, hD1⟩ : ∃ D1, D1 = (removeD D s.data.toList).2 := ⟨_, rfl⟩
  rw [← her, ← hD1] at HR
  rw [← her, ← hD1]
  clear her hD1 e1 h
  by_cases h6 : er = 6
  · subst h6
    rw [if_pos rfl]
    go_enter Tryz.func117, Tryz.ntmps117
    go_wp2_with fail
    refine HR.out.mono ?_; rintro e w1 ⟨P1, rfl, hD1, hS1⟩
    go_wp2_with fail
    go_ret
    first | exact ⟨P1, rfl, hD1, hS1⟩ | exact ⟨rfl, P1, hD1, hS1⟩
  · rw [if_neg h6]
    have d9 : (er != 6) = true := by simpa using h6
    clear h6
    go_enter Tryz.func117, Tryz.ntmps117
    go_wp2_with fail
    refine HR.out.mono ?_; rintro e w1 ⟨P1, rfl, hD1, hS1⟩
    go_wp2_with fail
    go_ret
    first | exact ⟨P1, rfl, hD1, hS1⟩ | exact ⟨rfl, P1, hD1, hS1⟩
theorem rm_nil (s : ByteArray) (w : World) : Calls Tryz.prog 117 #[.pointer none, .string s] w fun e w' => e = .returned (.int .i64 2) ∧ Below w.heap.size w w' := by
  have HR := Lib.hid (remove_nil s w)
  go_enter Tryz.func117, Tryz.ntmps117
  go_wp2_with fail
  refine HR.out.mono ?_; rintro e w1 ⟨rfl, hb1⟩
  go_wp2_with fail
  go_ret
  exact ⟨rfl, hb1⟩
/-- What Save's closures hold: the disk, the name, the bytes, the spare's name; and the list of them. -/
def SnBox (w : World) (dv : Value) (bd bn bb bs bl : Nat) (nm sp : ByteArray) (v : Value) : Prop :=
  w.heap[bd]? = some (.cells #[dv] 23 (0, 0)) ∧ w.heap[bn]? = some (.cells #[.string nm] 9 (0, 0)) ∧ w.heap[bb]? = some (.cells #[v] 70 (0, 0)) ∧ w.heap[bs]? = some (.cells #[.string sp] 9 (0, 0)) ∧
  w.heap[bl]? = some (.cells #[.func (.func 116) #[] #[.pointer (some ⟨bd, 0, none⟩), .pointer (some ⟨bs, 0, none⟩)], .func (.func 118) #[] #[.pointer (some ⟨bd, 0, none⟩), .pointer (some ⟨bs, 0, none⟩), .pointer (some ⟨bb, 0, none⟩)], .func (.func 120) #[] #[.pointer (some ⟨bd, 0, none⟩), .pointer (some ⟨bs, 0, none⟩)], .func (.func 121) #[] #[.pointer (some ⟨bd, 0, none⟩), .pointer (some ⟨bs, 0, none⟩), .pointer (some ⟨bn, 0, none⟩)]] 51 (0, 0))
def SnFree (P : Nat → Prop) (bd bn bb bs bl : Nat) : Prop := ¬ P bd ∧ ¬ P bn ∧ ¬ P bb ∧ ¬ P bs ∧ ¬ P bl
theorem SnBox.step {w w' : World} {dv v : Value} {bd bn bb bs bl : Nat} {nm sp : ByteArray} {P P' : Nat → Prop} (h : SnBox w dv bd bn bb bs bl nm sp v) (hf : SnFree P bd bn bb bs bl) (hS : Step P P' w w') : SnBox w' dv bd bn bb bs bl nm sp v ∧ SnFree P' bd bn bb bs bl := by
  obtain ⟨h1, h2, h3, h4, h5⟩ := h
  obtain ⟨f1, f2, f3, f4, f5⟩ := hf
  have key : ∀ b o, w.heap[b]? = some o → ¬ P b → w'.heap[b]? = some o ∧ ¬ P' b := fun b o h f => ⟨(hS.1.2.2.2.2 b (heap_lt h) f).trans h, fun hp => (hS.2 b hp).elim f (fun e => by have := heap_lt h; omega)⟩
  exact ⟨⟨(key _ _ h1 f1).1, (key _ _ h2 f2).1, (key _ _ h3 f3).1, (key _ _ h4 f4).1, (key _ _ h5 f5).1⟩, (key _ _ h1 f1).2, (key _ _ h2 f2).2, (key _ _ h3 f3).2, (key _ _ h4 f4).2, (key _ _ h5 f5).2⟩
theorem cellOne {w : World} {b : Nat} {v : Value} {t : TypeId} (h : w.heap[b]? = some (.cells #[v] t (0, 0))) : w.cell? ⟨b, 0, none⟩ = some v := by simp [World.cell?, h]
theorem cellFour {w : World} {b : Nat} {v0 v1 v2 v3 : Value} {t : TypeId} (h : w.heap[b]? = some (.cells #[v0, v1, v2, v3] t (0, 0))) : w.cell? ⟨b, 0, none⟩ = some v0 ∧ w.cell? ⟨b, 1, none⟩ = some v1 ∧ w.cell? ⟨b, 2, none⟩ = some v2 ∧ w.cell? ⟨b, 3, none⟩ = some v3 := by simp [World.cell?, h]
theorem save1_any (g : Nat) (P : Nat → Prop) (D : DSt) (bd bs : Nat) (sp : ByteArray) (w : World) (h : DiskAt w g P D) (hs : sp.size ≤ maxLen) (c1 : w.cell? ⟨bd, 0, none⟩ = some (ptr g)) (c2 : w.cell? ⟨bs, 0, none⟩ = some (.string sp)) :
    Calls Tryz.prog 116 #[.pointer (some ⟨bd, 0, none⟩), .pointer (some ⟨bs, 0, none⟩)] w fun e w' => ∃ P', e = .returned (.int .i64 (rmD D sp.data.toList).1) ∧ DiskAt w' g P' (rmD D sp.data.toList).2 ∧ Step P P' w w' := by
  have HR := Lib.hid (rm_any g P D sp w h hs)
  clear h
  go_enter Tryz.func116, Tryz.ntmps116
  go_wp2_with fail
  refine HR.out.mono ?_; rintro e w1 ⟨P1, rfl, hD1, hS1⟩
  go_wp2_with fail
  go_ret
  first | exact ⟨P1, rfl, hD1, hS1⟩ | exact ⟨rfl, P1, hD1, hS1⟩
theorem save1_nil (bd bs : Nat) (sp : ByteArray) (w : World) (c1 : w.cell? ⟨bd, 0, none⟩ = some (.pointer none)) (c2 : w.cell? ⟨bs, 0, none⟩ = some (.string sp)) :
    Calls Tryz.prog 116 #[.pointer (some ⟨bd, 0, none⟩), .pointer (some ⟨bs, 0, none⟩)] w fun e w' => e = .returned (.int .i64 2) ∧ Below w.heap.size w w' := by
  have HR := Lib.hid (rm_nil sp w)
  go_enter Tryz.func116, Tryz.ntmps116
  go_wp2_with fail
  refine HR.out.mono ?_; rintro e w1 ⟨rfl, hb1⟩
  go_wp2_with fail
  go_ret
  exact ⟨rfl, hb1⟩
theorem save3_any (g : Nat) (P : Nat → Prop) (D : DSt) (bd bs : Nat) (sp : ByteArray) (w : World) (h : DiskAt w g P D) (hs : sp.size ≤ maxLen) (hn : D.fs.length ≤ 1000000) (c1 : w.cell? ⟨bd, 0, none⟩ = some (ptr g)) (c2 : w.cell? ⟨bs, 0, none⟩ = some (.string sp)) :
    Calls Tryz.prog 120 #[.pointer (some ⟨bd, 0, none⟩), .pointer (some ⟨bs, 0, none⟩)] w fun e w' => ∃ P', e = .returned (.int .i64 (syncD D sp.data.toList).1) ∧ DiskAt w' g P' (syncD D sp.data.toList).2 ∧ Step P P' w w' := by
  have HR := Lib.hid (sync_any g P D sp w h hs hn)
  clear h
  go_enter Tryz.func120, Tryz.ntmps120
  go_wp2_with fail
  refine HR.out.mono ?_; rintro e w1 ⟨P1, rfl, hD1, hS1⟩
  go_wp2_with fail
  go_ret
  first | exact ⟨P1, rfl, hD1, hS1⟩ | exact ⟨rfl, P1, hD1, hS1⟩
theorem save4_any (g : Nat) (P : Nat → Prop) (D : DSt) (bd bs bn : Nat) (sp nm : ByteArray) (w : World) (h : DiskAt w g P D) (hs : sp.size ≤ maxLen) (hs2 : nm.size ≤ maxLen) (hn : D.fs.length ≤ 1000000) (c1 : w.cell? ⟨bd, 0, none⟩ = some (ptr g)) (c2 : w.cell? ⟨bs, 0, none⟩ = some (.string sp)) (c3 : w.cell? ⟨bn, 0, none⟩ = some (.string nm)) :
    Calls Tryz.prog 121 #[.pointer (some ⟨bd, 0, none⟩), .pointer (some ⟨bs, 0, none⟩), .pointer (some ⟨bn, 0, none⟩)] w fun e w' => ∃ P', e = .returned (.int .i64 (renameD D sp.data.toList nm.data.toList).1) ∧ DiskAt w' g P' (renameD D sp.data.toList nm.data.toList).2 ∧ Step P P' w w' := by
  have HR := Lib.hid (rename_any g P D sp nm w h hs hs2 hn)
  clear h
  go_enter Tryz.func121, Tryz.ntmps121
  go_wp2_with fail
  refine HR.out.mono ?_; rintro e w1 ⟨P1, rfl, hD1, hS1⟩
  go_wp2_with fail
  go_ret
  first | exact ⟨P1, rfl, hD1, hS1⟩ | exact ⟨rfl, P1, hD1, hS1⟩
set_option linter.unusedSimpArgs false in
set_option maxRecDepth 100000 in
set_option maxHeartbeats 2000000 in
theorem save2_any (g : Nat) (P : Nat → Prop) (D : DSt) (bd bs bb : Nat) (sp : ByteArray) (v : Value) (xs : List Int) (w : World) (h : DiskAt w g P D) (hs : sp.size ≤ maxLen) (hs0 : sp.data.toList ≠ []) (hn : D.fs.length ≤ 1000000) (hb : ((getE D.fs sp.data.toList).getD ([], 0)).1.length ≤ 1000000)
    (hsee : Sees w v xs) (hok : okB xs) (hxl : xs.length ≤ 1000000) (hE : Env w) (c1 : w.cell? ⟨bd, 0, none⟩ = some (ptr g)) (c2 : w.cell? ⟨bs, 0, none⟩ = some (.string sp)) (c3 : w.cell? ⟨bb, 0, none⟩ = some v) (hPd : ¬ P bd) (hPs : ¬ P bs) (hPb : ¬ P bb) :
    Calls Tryz.prog 118 #[.pointer (some ⟨bd, 0, none⟩), .pointer (some ⟨bs, 0, none⟩), .pointer (some ⟨bb, 0, none⟩)] w fun e w' => ∃ P', e = .returned (.int .i64 (appD D sp.data.toList (sealL xs)).1) ∧ DiskAt w' g P' (appD D sp.data.toList (sealL xs)).2 ∧ Step P P' w w' := by
  have HSL := Lib.hid (seal_any v xs w.drew (hsee.keep (belDrew w)) hok (by omega) (hE.below (belDrew w)))
  have HH := Lib.hid h
  have hll : (sealL xs).length = xs.length + 4 := by unfold sealL; rw [List.length_append]; rfl
  have HSK : Hid (okB (sealL xs)) := Lib.hid (okB_append hok (okB_leB (ofN_lt hok)))
  have HAP : Hid (∀ (src : Value) (W : World), DiskAt W g P D → Sees W src (sealL xs) → (∀ d, src.ownBlock = some d → d ≠ g) → Calls Tryz.prog 32 #[ptr g, .string sp, src] W fun e w' => ∃ P', e = .returned (.int .i64 (appD D sp.data.toList (sealL xs)).1) ∧ DiskAt w' g P' (appD D sp.data.toList (sealL xs)).2 ∧ Step P P' W w') :=
    Lib.hid (fun src W k1 k2 k3 => append_any g P D sp src (sealL xs) W k1 hs hs0 hn (by omega) k2 HSK.out (fun _ => k3))
  have hgl : g < w.heap.size := h.lt h.self
  obtain ⟨ea, hea⟩ : ∃ ea, ea = (appD D sp.data.toList (sealL xs)).1 := ⟨_, rfl⟩
  obtain ⟨DA, hDA⟩ : ∃ DA, DA = (appD D sp.data.toList (sealL xs)).2 := ⟨_, rfl⟩
  rw [← hea, ← hDA] at HAP ⊢
  clear h hsee hok hll hea hDA hE
  go_enter Tryz.func118, Tryz.ntmps118
  go_wp2_with fail
  refine wp_region_held_drew (S := (fun W => W.cell? ⟨bd, 0, none⟩ = some (ptr g) ∧ W.cell? ⟨bs, 0, none⟩ = some (.string sp) ∧ W.cell? ⟨bb, 0, none⟩ = some v)) (by kernel_rfl) ?_ (fun r0 => ?_)
  · exact ⟨c1, c2, c3⟩
  refine wpAnyH_take (i := 0) (v := ?_) rfl (by kernel_rfl) (by kernel_rfl) (by kernel_rfl) (fun _ _ _ h => h) (Or.inl ⟨by rfl, ?_⟩) (by assumption) ?_
  rotate_left
  · intro w hSw
    (try dsimp only at hSw)
    go_simp
    first | done | with_reducible rfl
  try simp only [Act.put, List.getElem_toArray, List.getElem_cons_succ, List.getElem_cons_zero, List.setIfInBounds_toArray, List.set_cons_zero, List.set_cons_succ]
  refine wpAnyH_take (i := 1) (v := ?_) rfl (by kernel_rfl) (by kernel_rfl) (by kernel_rfl) (fun _ _ _ h => h) (Or.inl ⟨by rfl, ?_⟩) (by assumption) ?_
  rotate_left
  · intro w hSw
    (try dsimp only at hSw)
    go_simp
    first | done | with_reducible rfl
  try simp only [Act.put, List.getElem_toArray, List.getElem_cons_succ, List.getElem_cons_zero, List.setIfInBounds_toArray, List.set_cons_zero, List.set_cons_succ]
  refine wpAnyH_take (i := 2) (v := ?_) rfl (by kernel_rfl) (by kernel_rfl) (by kernel_rfl) (fun _ _ _ h => h) (Or.inl ⟨by rfl, ?_⟩) (by assumption) ?_
  rotate_left
  · intro w hSw
    (try dsimp only at hSw)
    go_simp
    first | done | with_reducible rfl
  try simp only [Act.put, List.getElem_toArray, List.getElem_cons_succ, List.getElem_cons_zero, List.setIfInBounds_toArray, List.set_cons_zero, List.set_cons_succ]
  refine wpAnyH_ready (rs := [3]) (by kernel_rfl) (by simp) ?_
  refine AllReadyH.cons rfl (fun K hK => ?_) AllReadyH.nil
  go_simp
  refine HSL.out.mono ?_; rintro e w1 ⟨v1, rfl, ho1, hb1⟩
  have hb01 : Below w.heap.size w w1 := bel (belDrew w) hb1
  refine hK.out _ _ ?_ (fun r1 => ?_)
  · exact ⟨(hb01.cell (cell_lt8 c1)).trans c1, (hb01.cell (cell_lt8 c2)).trans c2, (hb01.cell (cell_lt8 c3)).trans c3⟩
  try simp only [Act.put, List.getElem_toArray, List.getElem_cons_succ, List.getElem_cons_zero, List.setIfInBounds_toArray, List.set_cons_zero, List.set_cons_succ]
  refine wpAnyH_ready (rs := [4]) (by kernel_rfl) (by simp) ?_
  refine AllReadyH.cons rfl (fun K hK => ?_) AllReadyH.nil
  go_simp
  have hkeep2 : ∀ w2 : World, ∀ P2, Step P P2 w1 w2 → w2.cell? ⟨bd, 0, none⟩ = some (ptr g) ∧ w2.cell? ⟨bs, 0, none⟩ = some (.string sp) ∧ w2.cell? ⟨bb, 0, none⟩ = some v := fun w2 P2 hS => by
    have key : ∀ b x, w1.cell? ⟨b, 0, none⟩ = some x → ¬ P b → w2.cell? ⟨b, 0, none⟩ = some x := fun b x hx hp => (World.cell?_of_block (hS.1.2.2.2.2 b (cell_lt8 hx) hp)).trans hx
    exact ⟨key _ _ r1.1 hPd, key _ _ r1.2.1 hPs, key _ _ r1.2.2 hPb⟩
  refine (HAP.out v1 w1 (HH.out.below hb01) ho1.sees (fun d hd e => by have h1 := (World.ownsRow.lt ho1 d hd).1; have h2 := (belDrew w).size; omega)).mono ?_; rintro e w2 ⟨P2, rfl, hD2, hS2⟩
  refine hK.out _ _ ?_ (fun r2 => ?_)
  · exact hkeep2 w2 P2 hS2
  try simp only [Act.put, List.getElem_toArray, List.getElem_cons_succ, List.getElem_cons_zero, List.setIfInBounds_toArray, List.set_cons_zero, List.set_cons_succ]
  refine wpAnyH_take (i := 5) (v := ?_) rfl (by kernel_rfl) (by kernel_rfl) (by kernel_rfl) (fun _ _ _ h => h) (Or.inl ⟨by rfl, ?_⟩) (by assumption) ?_
  rotate_left
  · intro w hSw
    (try dsimp only at hSw)
    go_simp
    first | done | with_reducible rfl
  try simp only [Act.put, List.getElem_toArray, List.getElem_cons_succ, List.getElem_cons_zero, List.setIfInBounds_toArray, List.set_cons_zero, List.set_cons_succ]
  refine wpAnyH_done (by kernel_rfl) ?_ _
  go_wp2_with fail
  go_ret
  first | exact ⟨P2, rfl, hD2, Step.below hb01 hS2⟩ | exact ⟨rfl, P2, hD2, Step.below hb01 hS2⟩
/-- What Save does behind its look at the name. -/
def stepsD (D : DSt) (nm sp : List UInt8) (xs : List Int) : Int × DSt :=
  if (rmD D sp).1 = 0 then
    if (appD (rmD D sp).2 sp (sealL xs)).1 = 0 then
      if (syncD (appD (rmD D sp).2 sp (sealL xs)).2 sp).1 = 0 then renameD (syncD (appD (rmD D sp).2 sp (sealL xs)).2 sp).2 sp nm
      else syncD (appD (rmD D sp).2 sp (sealL xs)).2 sp
    else appD (rmD D sp).2 sp (sealL xs)
  else rmD D sp
theorem rmD_len (D : DSt) (k : List UInt8) : (rmD D k).2.fs.length ≤ D.fs.length := by
  have h : (removeD D k).2.fs.length ≤ D.fs.length := by
    unfold removeD
    split
    · exact Nat.le_refl _
    · split
      · exact Nat.le_refl _
      · exact List.length_filter_le _ _
  unfold rmD
  split
  · exact h
  · exact h
theorem getE_del {β : Type} (k k2 : List UInt8) (l : List (List UInt8 × β)) {u : β} (h : getE (delE k2 l) k = some u) : getE l k = some u := by
  induction l with
  | nil => exact absurd h (by simp [getE, delE])
  | cons a l ih =>
    unfold delE at h ih
    by_cases hk : a.1 = k2
    · rw [List.filter_cons_of_neg (by simp [hk])] at h
      by_cases hk2 : a.1 = k
      · exfalso
        have h1 := getE_mem h
        have h2 := (List.mem_filter.1 h1).2
        simp only [Bool.not_eq_true', beq_eq_false_iff_ne] at h2
        exact h2 (hk2.symm.trans hk)
      · have := ih h
        unfold getE at this ⊢
        rw [List.find?_cons, show (a.1 == k) = false from by simpa using hk2]
        exact this
    · rw [List.filter_cons_of_pos (by simp [hk])] at h
      unfold getE at h ih ⊢
      rw [List.find?_cons] at h ⊢
      cases hc : (a.1 == k) with
      | true => rw [hc] at h; exact h
      | false => rw [hc] at h; exact ih h
theorem rmD_get (D : DSt) (k : List UInt8) : ((getE (rmD D k).2.fs k).getD ([], 0)).1.length ≤ ((getE D.fs k).getD ([], 0)).1.length := by
  have h : ((getE (removeD D k).2.fs k).getD ([], 0)).1.length ≤ ((getE D.fs k).getD ([], 0)).1.length := by
    unfold removeD
    split
    · exact Nat.le_refl _
    · split
      · exact Nat.le_refl _
      · show ((getE (delE k D.fs) k).getD ([], 0)).1.length ≤ _
        cases hg : getE (delE k D.fs) k with
        | none => exact Nat.zero_le _
        | some u => rw [getE_del k k _ hg]; exact Nat.le_refl _
  unfold rmD
  split
  · exact h
  · exact h
theorem syncD_len (D : DSt) (k : List UInt8) : (syncD D k).2.fs.length ≤ D.fs.length + 1 := by
  unfold syncD
  split
  · exact Nat.le_succ _
  · split
    · exact Nat.le_succ _
    · exact putE_length _ _ _
end
section
open Go.RowKit Go.Maps
set_option linter.unusedVariables false in
set_option maxRecDepth 100000 in
set_option maxHeartbeats 4000000 in
theorem inTurn_any (g : Nat) (P : Nat → Prop) (D : DSt) (bd bn bb bs bl : Nat) (nm sp : ByteArray) (v : Value) (xs : List Int) (w0 w : World) (h : DiskAt w g P D) (hbx : SnBox w (ptr g) bd bn bb bs bl nm sp v) (hfr : SnFree P bd bn bb bs bl)
    (hs : sp.size ≤ maxLen) (hs0 : sp.data.toList ≠ []) (hs2 : nm.size ≤ maxLen) (hn : D.fs.length ≤ 1000) (hb : ((getE D.fs sp.data.toList).getD ([], 0)).1.length ≤ 1000000) (hsee : Sees w v xs) (hvP : xs ≠ [] → ∀ d, v.ownBlock = some d → ¬ P d) (hok : okB xs) (hxl : xs.length ≤ 1000000) (hE : Env w0) (hB : Below w0.heap.size w0 w) (hP : ∀ i, P i → w0.heap.size ≤ i) :
    Calls Tryz.prog 115 #[.slice (some ⟨bl, 0, none⟩) 4 4] w fun e w' => ∃ P', e = .returned (.int .i64 (stepsD D nm.data.toList sp.data.toList xs).1) ∧ DiskAt w' g P' (stepsD D nm.data.toList sp.data.toList xs).2 ∧ Step P P' w w' := by
  have H1 := Lib.hid (save1_any g P D bd bs sp w h hs (cellOne hbx.1) (cellOne hbx.2.2.2.1))
  have hl1 := rmD_len D sp.data.toList
  have hg1 := rmD_get D sp.data.toList
  obtain ⟨e1, he1⟩ : ∃ e1, e1 = (rmD D sp.data.toList).1 := ⟨_, rfl⟩
  obtain ⟨D1, hD1⟩ : ∃ D1, D1 = (rmD D sp.data.toList).2 := ⟨_, rfl⟩
  have hl2 := appD_len D1 sp.data.toList (sealL xs)
  obtain ⟨e2, he2⟩ : ∃ e2, e2 = (appD D1 sp.data.toList (sealL xs)).1 := ⟨_, rfl⟩
  obtain ⟨D2, hD2⟩ : ∃ D2, D2 = (appD D1 sp.data.toList (sealL xs)).2 := ⟨_, rfl⟩
  have hl3 := syncD_len D2 sp.data.toList
  obtain ⟨e3, he3⟩ : ∃ e3, e3 = (syncD D2 sp.data.toList).1 := ⟨_, rfl⟩
  obtain ⟨D3, hD3⟩ : ∃ D3, D3 = (syncD D2 sp.data.toList).2 := ⟨_, rfl⟩
  obtain ⟨e4, he4⟩ : ∃ e4, e4 = (renameD D3 sp.data.toList nm.data.toList).1 := ⟨_, rfl⟩
  obtain ⟨D4, hD4⟩ : ∃ D4, D4 = (renameD D3 sp.data.toList nm.data.toList).2 := ⟨_, rfl⟩
  obtain ⟨R, hR⟩ : ∃ R, R = stepsD D nm.data.toList sp.data.toList xs := ⟨_, rfl⟩
  have HX1 : Hid (e1 ≠ 0 → R = (e1, D1)) := Lib.hid (fun h1 => by rw [hR]; unfold stepsD; rw [← he1, if_neg h1, he1, hD1])
  have HX2 : Hid (e1 = 0 → e2 ≠ 0 → R = (e2, D2)) := Lib.hid (fun h1 h2 => by rw [hR]; unfold stepsD; rw [← he1, if_pos h1, ← hD1, ← he2, if_neg h2, he2, hD2])
  have HX3 : Hid (e1 = 0 → e2 = 0 → e3 ≠ 0 → R = (e3, D3)) := Lib.hid (fun h1 h2 h3 => by rw [hR]; unfold stepsD; rw [← he1, if_pos h1, ← hD1, ← he2, if_pos h2, ← hD2, ← he3, if_neg h3, he3, hD3])
  have HX4 : Hid (e1 = 0 → e2 = 0 → e3 = 0 → R = (e4, D4)) := Lib.hid (fun h1 h2 h3 => by rw [hR]; unfold stepsD; rw [← he1, if_pos h1, ← hD1, ← he2, if_pos h2, ← hD2, ← he3, if_pos h3, ← hD3, he4, hD4])
  rw [← he1, ← hD1] at H1
  rw [← hD1] at hl1 hg1
  rw [← hD2] at hl2
  rw [← hD3] at hl3
  rw [← hR]
  have HR2 : Hid (appD D1 sp.data.toList (sealL xs) = (e2, D2)) := Lib.hid (by rw [he2, hD2])
  have HR3 : Hid (syncD D2 sp.data.toList = (e3, D3)) := Lib.hid (by rw [he3, hD3])
  have HR4 : Hid (renameD D3 sp.data.toList nm.data.toList = (e4, D4)) := Lib.hid (by rw [he4, hD4])
  have HB0 := Lib.hid (And.intro hbx hfr)
  have HSE := Lib.hid (And.intro hsee (And.intro hvP hok))
  obtain ⟨f0, f1, f2, f3⟩ := cellFour hbx.2.2.2.2
  clear he1 hD1 he2 hD2 he3 hD3 he4 hD4 hR h hbx hfr hsee hvP hok
  go_enter Tryz.func115, Tryz.ntmps115
  go_wp2_with fail
  refine wp_loop_rounds 5 ?_
  rw [rounds_succ]
  go_wp2_with fail
  refine H1.out.mono ?_; rintro e w1 ⟨P1, rfl, hd1, hS1⟩
  obtain ⟨hP1, hb1⟩ := hS1.ge hP hB.size
  have hB1 := hB.trans hb1
  by_cases h1 : e1 = 0
  · obtain ⟨hbx1, hfr1⟩ := HB0.out.1.step HB0.out.2 hS1
    have hse1 : Sees w1 v xs := by
      by_cases hx : xs = []
      · rw [hx]; have := HSE.out.1; rw [hx] at this; obtain ⟨ao, c, e, h2, h3, _⟩ := this; exact ⟨ao, c, e, h2, h3, fun a _ i hi => absurd hi (by simp)⟩
      · exact sees_heap HSE.out.1 (fun d hd hlt => hS1.1.2.2.2.2 d hlt (HSE.out.2.1 hx d hd))
    have H2 := save2_any g P1 D1 bd bs bb sp v xs w1 hd1 hs hs0 (by omega) (by omega) hse1 HSE.out.2.2 hxl (hE.below hB1) (cellOne hbx1.1) (cellOne hbx1.2.2.2.1) (cellOne hbx1.2.2.1) hfr1.1 hfr1.2.2.2.1 hfr1.2.2.1
    rw [HR2.out] at H2
    dsimp only at H2
    have H2 := Lib.hid H2
    obtain ⟨g0, g1, g2, g3⟩ := cellFour hbx1.2.2.2.2
    have HB1 := Lib.hid (And.intro hbx1 hfr1)
    have HS1 := Lib.hid hS1
    subst h1
    clear f0 f1 f2 f3 hse1 hbx1 hfr1 hd1 hS1 hb1
    go_wp2_with fail
    rw [rounds_succ]
    go_wp2_with fail
    refine H2.out.mono ?_; rintro e w2 ⟨P2, rfl, hd2, hS2⟩
    obtain ⟨hP2, hb2⟩ := hS2.ge hP1 hB1.size
    have hB2 := hB1.trans hb2
    have HS2 := Lib.hid (HS1.out.trans hS2)
    by_cases h2 : e2 = 0
    · obtain ⟨hbx2, hfr2⟩ := HB1.out.1.step HB1.out.2 hS2
      have H3 := save3_any g P2 D2 bd bs sp w2 hd2 hs (by omega) (cellOne hbx2.1) (cellOne hbx2.2.2.2.1)
      rw [HR3.out] at H3
      dsimp only at H3
      have H3 := Lib.hid H3
      obtain ⟨k0, k1, k2, k3⟩ := cellFour hbx2.2.2.2.2
      have HB2 := Lib.hid (And.intro hbx2 hfr2)
      subst h2
      clear g0 g1 g2 g3 hbx2 hfr2 hd2 hS2 hb2
      go_wp2_with fail
      rw [rounds_succ]
      go_wp2_with fail
      refine H3.out.mono ?_; rintro e w3 ⟨P3, rfl, hd3, hS3⟩
      obtain ⟨hP3, hb3⟩ := hS3.ge hP2 hB2.size
      have hB3 := hB2.trans hb3
      have HS3 := Lib.hid (HS2.out.trans hS3)
      by_cases h3 : e3 = 0
      · obtain ⟨hbx3, hfr3⟩ := HB2.out.1.step HB2.out.2 hS3
        have H4 := save4_any g P3 D3 bd bs bn sp nm w3 hd3 hs hs2 (by omega) (cellOne hbx3.1) (cellOne hbx3.2.2.2.1) (cellOne hbx3.2.1)
        rw [HR4.out] at H4
        dsimp only at H4
        have H4 := Lib.hid H4
        obtain ⟨m0, m1, m2, m3⟩ := cellFour hbx3.2.2.2.2
        subst h3
        clear k0 k1 k2 k3 hbx3 hfr3 hd3 hS3 hb3
        go_wp2_with fail
        rw [rounds_succ]
        go_wp2_with fail
        refine H4.out.mono ?_; rintro e w4 ⟨P4, rfl, hd4, hS4⟩
        have HRR := HX4.out (by simp) (by simp) (by simp)
        have HS4 := Lib.hid (HS3.out.trans hS4)
        have HD4 := Lib.hid hd4
        clear hd4 hS4
        by_cases h4 : e4 = 0
        · subst h4
          have HRR := Lib.hid HRR
          go_wp2_with fail
          rw [rounds_succ]
          go_wp2_with fail
          go_ret
          rw [HRR.out]
          exact ⟨P4, rfl, HD4.out, HS4.out⟩
        · have d9 : (e4 != 0) = true := by simpa using h4
          have HRR := Lib.hid HRR
          clear h4
          go_wp2_with fail
          go_ret
          rw [HRR.out]
          exact ⟨P4, rfl, HD4.out, HS4.out⟩
      · have d9 : (e3 != 0) = true := by simpa using h3
        have HRR := Lib.hid (HX3.out (by simp) (by simp) h3)
        have HD3 := Lib.hid hd3
        clear h3 hd3 hS3 hb3
        go_wp2_with fail
        go_ret
        rw [HRR.out]
        exact ⟨P3, rfl, HD3.out, HS3.out⟩
    · have d9 : (e2 != 0) = true := by simpa using h2
      have HRR := Lib.hid (HX2.out (by simp) h2)
      have HD2 := Lib.hid hd2
      clear h2 hd2 hS2 hb2
      go_wp2_with fail
      go_ret
      rw [HRR.out]
      exact ⟨P2, rfl, HD2.out, HS2.out⟩
  · have d9 : (e1 != 0) = true := by simpa using h1
    have HRR := Lib.hid (HX1.out h1)
    have HD1 := Lib.hid hd1
    have HS1 := Lib.hid hS1
    clear h1 hd1 hS1 hb1
    go_wp2_with fail
    go_ret
    rw [HRR.out]
    exact ⟨P1, rfl, HD1.out, HS1.out⟩
set_option maxRecDepth 100000 in
theorem inTurn_nil (bd bn bb bs bl : Nat) (nm sp : ByteArray) (v : Value) (w : World) (hbx : SnBox w (.pointer none) bd bn bb bs bl nm sp v) :
    Calls Tryz.prog 115 #[.slice (some ⟨bl, 0, none⟩) 4 4] w fun e w' => e = .returned (.int .i64 2) ∧ Below w.heap.size w w' := by
  have H1 := Lib.hid (save1_nil bd bs sp w (cellOne hbx.1) (cellOne hbx.2.2.2.1))
  obtain ⟨f0, f1, f2, f3⟩ := cellFour hbx.2.2.2.2
  clear hbx
  go_enter Tryz.func115, Tryz.ntmps115
  go_wp2_with fail
  refine wp_loop_rounds 5 ?_
  rw [rounds_succ]
  go_wp2_with fail
  refine H1.out.mono ?_; rintro e w1 ⟨rfl, hb1⟩
  go_wp2_with fail
  go_ret
  exact ⟨rfl, hb1⟩
def saveD (D : DSt) (nm : ByteArray) (xs : List Int) : Int × DSt := stepsD D nm.data.toList (tilde nm).data.toList xs
theorem tilde_ne (s : ByteArray) : (tilde s).data.toList ≠ [] := by unfold tilde; simp
theorem tilde_size (s : ByteArray) : (tilde s).size = s.size + 1 := by unfold tilde; rw [ByteArray.size_append]; rfl
theorem save_empty (dv v : Value) (w : World) (ao : Option Addr) (n c : Nat) (hv : v = .slice ao n c) (hd : ∃ b, dv = .pointer b) : Calls Tryz.prog 78 #[dv, .string ⟨#[]⟩, v] w fun e w' => e = .returned (.int .i64 1) ∧ Below w.heap.size w w' := by
  subst hv
  obtain ⟨b, rfl⟩ := hd
  go_enter Tryz.func78, Tryz.ntmps78
  go_wp2_with fail
  go_ret
  refine ⟨rfl, ?_⟩
  repeat (first | exact Below.refl _ _ | refine belAlloc ?_ _)
/-- The world behind Save's boxes. -/
abbrev snW (w : World) (dv : Value) (nm sp : ByteArray) (v : Value) : World :=
  ((((w.alloc (.cells #[dv] 23)).alloc (.cells #[.string nm] 9)).alloc (.cells #[v] 70)).alloc (.cells #[.string sp] 9)).alloc (.cells #[
    .func (.func 116) #[] #[.pointer (some ⟨w.heap.size, 0, none⟩), .pointer (some ⟨w.heap.size + 1 + 1 + 1, 0, none⟩)],
    .func (.func 118) #[] #[.pointer (some ⟨w.heap.size, 0, none⟩), .pointer (some ⟨w.heap.size + 1 + 1 + 1, 0, none⟩), .pointer (some ⟨w.heap.size + 1 + 1, 0, none⟩)],
    .func (.func 120) #[] #[.pointer (some ⟨w.heap.size, 0, none⟩), .pointer (some ⟨w.heap.size + 1 + 1 + 1, 0, none⟩)],
    .func (.func 121) #[] #[.pointer (some ⟨w.heap.size, 0, none⟩), .pointer (some ⟨w.heap.size + 1 + 1 + 1, 0, none⟩), .pointer (some ⟨w.heap.size + 1, 0, none⟩)]] 51)
theorem snW_below (w : World) (dv : Value) (nm sp : ByteArray) (v : Value) : Below w.heap.size w (snW w dv nm sp v) := belAlloc (belAlloc (belAlloc (belAlloc (belNew w _) _) _) _) _
theorem snW_box (w : World) (dv : Value) (nm sp : ByteArray) (v : Value) : SnBox (snW w dv nm sp v) dv w.heap.size (w.heap.size + 1) (w.heap.size + 1 + 1) (w.heap.size + 1 + 1 + 1) (w.heap.size + 1 + 1 + 1 + 1) nm sp v := by
  have key : ∀ (W : World) (o o' : Obj) (n : Nat), W.heap[n]? = some o → (W.alloc o').heap[n]? = some o := fun W o o' n h => ((belNew W o').block n (heap_lt h)).trans h
  have new : ∀ (W : World) (o : Obj) (n : Nat), ∀ a t, o = .cells a t (0, 0) → n = W.heap.size → (W.alloc o).heap[n]? = some o := fun W o n a t ho hn => by rw [hn, ho]; exact heap_alloc_new W _
  refine ⟨key _ _ _ _ (key _ _ _ _ (key _ _ _ _ (key _ _ _ _ (new _ _ _ _ _ rfl rfl)))), key _ _ _ _ (key _ _ _ _ (key _ _ _ _ (new _ _ _ _ _ rfl (by simp)))), key _ _ _ _ (key _ _ _ _ (new _ _ _ _ _ rfl (by simp))), key _ _ _ _ (new _ _ _ _ _ rfl (by simp)), new _ _ _ _ _ rfl (by simp)⟩
set_option linter.unusedVariables false in
set_option maxRecDepth 100000 in
set_option maxHeartbeats 2000000 in
theorem save_nil (nm : ByteArray) (v : Value) (w : World) (ao : Option Addr) (n c : Nat) (hv : v = .slice ao n c) (hs0 : nm.data.toList ≠ []) (hs : nm.size + 1 ≤ maxLen) : Calls Tryz.prog 78 #[.pointer none, .string nm, v] w fun e w' => e = .returned (.int .i64 2) ∧ Below w.heap.size w w' := by
  subst hv
  have d0 : (nm.toList == ([] : List UInt8)) = false := by rw [ByteArray.toList_eq]; simpa using hs0
  have HS := Lib.hid (fun W => spare_any nm W (by unfold maxLen at hs; omega))
  have HI := Lib.hid (inTurn_nil _ _ _ _ _ nm (tilde nm) (.slice ao n c) _ (snW_box w (.pointer none) nm (tilde nm) (.slice ao n c)))
  have HB := Lib.hid (snW_below w (.pointer none) nm (tilde nm) (.slice ao n c))
  go_enter Tryz.func78, Tryz.ntmps78
  go_wp2_with fail
  refine (HS.out _).mono ?_; rintro e w' ⟨rfl, rfl⟩
  go_wp2_with fail
  refine HI.out.mono ?_; rintro e w' ⟨rfl, hb⟩
  go_wp2_with fail
  go_ret
  exact ⟨rfl, bel HB.out hb⟩
set_option linter.unusedVariables false in
set_option maxRecDepth 100000 in
set_option maxHeartbeats 2000000 in
theorem save_any (g : Nat) (P : Nat → Prop) (D : DSt) (nm : ByteArray) (v : Value) (xs : List Int) (w0 w : World) (h : DiskAt w g P D) (hs0 : nm.data.toList ≠ []) (hs : nm.size + 1 ≤ maxLen) (hn : D.fs.length ≤ 1000) (hb : ((getE D.fs (tilde nm).data.toList).getD ([], 0)).1.length ≤ 1000000) (hsee : Sees w v xs) (hvP : xs ≠ [] → ∀ d, v.ownBlock = some d → ¬ P d) (hok : okB xs) (hxl : xs.length ≤ 1000000) (hE : Env w0) (hB : Below w0.heap.size w0 w) (hP : ∀ i, P i → w0.heap.size ≤ i) :
    Calls Tryz.prog 78 #[ptr g, .string nm, v] w fun e w' => ∃ P', e = .returned (.int .i64 (saveD D nm xs).1) ∧ DiskAt w' g P' (saveD D nm xs).2 ∧ Step P P' w w' := by
  have hbW := snW_below w (ptr g) nm (tilde nm) v
  have hnP : ∀ k, ¬ P (w.heap.size + k) := fun k hp => by have := h.lt hp; omega
  have HI := Lib.hid (inTurn_any g P D w.heap.size (w.heap.size + 1) (w.heap.size + 1 + 1) (w.heap.size + 1 + 1 + 1) (w.heap.size + 1 + 1 + 1 + 1) nm (tilde nm) v xs w0 (snW w (ptr g) nm (tilde nm) v) (h.below hbW) (snW_box w (ptr g) nm (tilde nm) v) ⟨hnP 0, hnP 1, hnP 2, hnP 3, hnP 4⟩
    (by rw [tilde_size]; exact hs) (tilde_ne nm) (by omega) hn hb (hsee.keep hbW) hvP hok hxl hE (hB.trans (hbW.mono hB.size)) hP)
  have HB := Lib.hid hbW
  have d0 : (nm.toList == ([] : List UInt8)) = false := by rw [ByteArray.toList_eq]; simpa using hs0
  have HS := Lib.hid (fun W => spare_any nm W (by unfold maxLen at hs; omega))
  have hE1 : saveD D nm xs = stepsD D nm.data.toList (tilde nm).data.toList xs := rfl
  rw [hE1]
  obtain ⟨R, hR⟩ : ∃ R, R = stepsD D nm.data.toList (tilde nm).data.toList xs := ⟨_, rfl⟩
  rw [← hR] at HI ⊢
  obtain ⟨ao, c, rfl, -⟩ := id hsee
  clear h hsee hvP hok hE hB hP hbW hnP hR hE1
  go_enter Tryz.func78, Tryz.ntmps78
  go_wp2_with fail
  refine (HS.out _).mono ?_; rintro e w' ⟨rfl, rfl⟩
  go_wp2_with fail
  refine HI.out.mono ?_; rintro e w' ⟨P1, rfl, hd1, hS1⟩
  go_wp2_with fail
  go_ret
  first | exact ⟨P1, rfl, hd1, Step.below HB.out hS1⟩ | exact ⟨rfl, P1, hd1, Step.below HB.out hS1⟩
def loadD (D : DSt) (k : List UInt8) : List Int × Int :=
  if (readD D k).2 = 0 then if wholeB (readD D k).1 = true then ((readD D k).1.take ((readD D k).1.length - 4), 0) else ([], 5) else ([], (readD D k).2)
theorem load_nil (nm : ByteArray) (w : World) : Calls Tryz.prog 57 #[.pointer none, .string nm] w fun e w' => e = .returned (.tuple #[.slice none 0 0, .int .i64 2]) ∧ Below w.heap.size w w' := by
  have HR := Lib.hid (read_nil nm w)
  go_enter Tryz.func57, Tryz.ntmps57
  go_wp2_with fail
  refine HR.out.mono ?_; rintro e w1 ⟨rfl, hb1⟩
  go_wp2_with fail
  go_ret2
  exact ⟨rfl, hb1⟩
set_option maxRecDepth 100000 in
set_option maxHeartbeats 2000000 in
theorem load_any (g : Nat) (P : Nat → Prop) (D : DSt) (nm : ByteArray) (w : World) (h : DiskAt w g P D) (hs : nm.size ≤ maxLen) (hn : ((getE D.fs nm.data.toList).getD ([], 0)).1.length ≤ 1000000) (hE : Env w) :
    Calls Tryz.prog 57 #[ptr g, .string nm] w fun e w' => ∃ v, e = .returned (.tuple #[v, .int .i64 (loadD D nm.data.toList).2]) ∧ Sees w' v (loadD D nm.data.toList).1 ∧ (∀ d, v.ownBlock = some d → w.heap.size ≤ d) ∧ Below w.heap.size w w' := by
  have HR := Lib.hid (read_any g P D nm w h hs (by omega))
  have hrl := readD_len (D := D) nm.data.toList
  have hro := readD_ok h.oks nm.data.toList
  unfold loadD
  obtain ⟨xs, hxs⟩ : ∃ xs, xs = (readD D nm.data.toList).1 := ⟨_, rfl⟩
  obtain ⟨er, her⟩ : ∃ er, er = (readD D nm.data.toList).2 := ⟨_, rfl⟩
  rw [← hxs] at hrl hro
  rw [← hxs, ← her] at HR ⊢
  have HO := Lib.hid hro
  clear hxs her hro h
  by_cases h0 : er = 0
  · subst h0
    by_cases hw : wholeB xs = true
    · rw [if_pos rfl, if_pos hw]
      have hl4 : 4 ≤ xs.length := by
        unfold wholeB at hw
        rw [Bool.and_eq_true] at hw
        simpa using hw.1
      obtain ⟨m, hm⟩ : ∃ m, xs.length = m + 4 := ⟨xs.length - 4, by omega⟩
      have e1 : xs.length - 4 = m := by omega
      rw [e1]
      have s1 : IntKind.i64.wrap ((xs.length : Int) - 4) = (m : Int) := by rw [IntWalk.i64_in _ (by omega)]; omega
      have HW := Lib.hid hw
      have HM := Lib.hid hm
      clear hw hm e1
      go_enter Tryz.func57, Tryz.ntmps57
      go_wp2_with fail
      refine HR.out.mono ?_; rintro e w1 ⟨v1, rfl, ho1, hb1⟩
      have HWH := Lib.hid (whole_any v1 xs w1 ho1.sees HO.out (by omega) (hE.below hb1))
      rw [HW.out] at HWH
      have hs1 := ho1.sees
      obtain ⟨ao, c, hv1, hlc, -⟩ := id hs1
      subst hv1
      have hlt : (xs.take m).length = m := by rw [List.length_take]; have := HM.out; omega
      have HS := Lib.hid (sees_head hs1 (n := m) (by have := HM.out; omega))
      have HF := Lib.hid (fun d (hd : (Value.slice ao xs.length c).ownBlock = some d) => (World.ownsRow.lt ho1 d hd).1)
      have n1 : m ≤ c := by have := HM.out; omega
      have n2 : (m : Int) ≤ (c : Int) := by omega
      have n3 : (0 : Int) ≤ (m : Int) := by omega
      have HLT := Lib.hid hlt
      clear ho1 hs1 hlt
      go_wp2_with fail
      refine HWH.out.mono ?_; rintro e w2 ⟨rfl, hb2⟩
      go_wp2_with fail
      go_ret2
      exact ⟨.slice ao m c, rfl, by have := HS.out.keep hb2; exact this, fun d hd => HF.out d (by cases ao with | none => cases hd | some a => exact hd), bel hb1 hb2⟩
    · rw [if_pos rfl, if_neg hw]
      have HW : Hid (wholeB xs = false) := Lib.hid (by simpa using hw)
      clear hw
      go_enter Tryz.func57, Tryz.ntmps57
      go_wp2_with fail
      refine HR.out.mono ?_; rintro e w1 ⟨v1, rfl, ho1, hb1⟩
      have HWH := Lib.hid (whole_any v1 xs w1 ho1.sees HO.out (by omega) (hE.below hb1))
      rw [HW.out] at HWH
      clear ho1
      go_wp2_with fail
      refine HWH.out.mono ?_; rintro e w2 ⟨rfl, hb2⟩
      go_wp2_with fail
      go_ret2
      exact ⟨.slice none 0 0, rfl, Sees.nil _, (fun d hd => by cases hd), bel hb1 hb2⟩
  · rw [if_neg h0]
    have d9 : (er != 0) = true := by simpa using h0
    clear h0
    go_enter Tryz.func57, Tryz.ntmps57
    go_wp2_with fail
    refine HR.out.mono ?_; rintro e w1 ⟨v1, rfl, ho1, hb1⟩
    clear ho1
    go_wp2_with fail
    go_ret2
    exact ⟨.slice none 0 0, rfl, Sees.nil _, (fun d hd => by cases hd), hb1⟩
end
section
open Go.RowKit Go.Maps
/-- The name s. -/
def nS : ByteArray := ⟨#[115]⟩
def abcB : List Int := [97, 98, 99]
def deB : List Int := [100, 101]
theorem s8a : saveD ⟨[], false, false, 0⟩ nS abcB = (0, ⟨[([115], (sealL abcB, 7))], false, false, 0⟩) := by kernel_rfl
theorem s8b : saveD ⟨[([115], (sealL abcB, 7))], false, true, 1⟩ nS deB = (12, ⟨[([115], (sealL abcB, 7)), ([115, 126], (sealL deB, 0))], true, true, 0⟩) := by kernel_rfl
theorem s8c : crashD ⟨[([115], (sealL abcB, 7)), ([115, 126], (sealL deB, 0))], true, true, 0⟩ [] = ⟨[([115], (sealL abcB, 7)), ([115, 126], ([], 0))], false, false, 0⟩ := by kernel_rfl
theorem s8d : loadD ⟨[([115], (sealL abcB, 7)), ([115, 126], ([], 0))], false, false, 0⟩ nS.data.toList = (abcB, 0) := by kernel_rfl
theorem abcT : strOfNums abcB = ⟨#[97, 98, 99]⟩ := by kernel_rfl
theorem tildeS : tilde nS = ⟨#[115, 126]⟩ := by kernel_rfl
theorem Sees.lt {w : World} {v : Value} {xs : List Int} (h : Sees w v xs) (hne : xs ≠ []) {d : Nat} (hd : v.ownBlock = some d) : d < w.heap.size := by
  obtain ⟨ao, c, rfl, _, _, hc⟩ := h
  cases ao with
  | none => cases hd
  | some b0 =>
    have := cell_lt8 (hc b0 rfl 0 (List.length_pos_iff.2 hne))
    rw [add_block] at this
    cases hd
    exact this
theorem seesU_nil (w : World) : SeesU w (.slice none 0 0) [] := ⟨none, 0, rfl, Nat.le_refl _, fun _ => rfl, fun _ h => by cases h⟩
end
end Go.Proofs.YtbbefakmpmniiaaGreatDoor
