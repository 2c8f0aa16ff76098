/- Package wal: a log's calls, over a disk's state. Conditions: the world facts of Env where frames are put or read. -/
import Derived.Test.YtkjdfelmjanpcaaDoorDkCut
import Derived.Test.YtkjdfelmjanpcaaDoorDkCrash
import Derived.Test.YtkjdfelmjanpcaaDoorDkLaw
import Derived.Test.YtkjdfelmjanpcaaDoorFrTorn
namespace Go.Proofs.YtkjdfelmjanpcaaDoor
open Go.RowKit Go.Maps
theorem addz (g n : Nat) : (⟨g, 0, none⟩ : Addr).add n = ⟨g, n, none⟩ := by
  unfold Addr.add
  by_cases h : n = 0
  · subst h; rfl
  · simp [h]
theorem Sees.over {w a b : World} {B : Nat} {v : Value} {xs : List Int} (h : Sees a v xs) (ha : Below B w a) (hb : Below B w b) (hv : ∀ d, v.ownBlock = some d → d < B) : Sees b v xs := sees_heap h (fun d hd _ => (hb.block d (hv d hd)).trans (ha.block d (hv d hd)).symm)
theorem Sees.keep' {w w' : World} {B : Nat} {v : Value} {xs : List Int} (h : Sees w v xs) (hb : Below B w w') (hv : ∀ d, v.ownBlock = some d → d < B) : Sees w' v xs := sees_heap h (fun d hd _ => hb.block d (hv d hd))
/-- A log in block l (of the program's or of the document's type). -/
def LogIs (T : TypeId) (w : World) (l g : Nat) (nm : ByteArray) (size : Nat) (dead : Bool) : Prop :=
  w.heap[l]? = some (.cells #[ptr g, .string nm, .int .i64 (size : Nat), .bool dead] T (0, 0))
theorem LogIs.keep {T : TypeId} {w w' : World} {l g : Nat} {nm : ByteArray} {size : Nat} {dead : Bool} (h : LogIs T w l g nm size dead) {P : Nat → Prop} (ht : Touch P w w') (hp : ¬ P l) : LogIs T w' l g nm size dead := (ht.2.2.2.2 l (heap_lt h) hp).trans h
theorem LogIs.below {T : TypeId} {w w' : World} {l g : Nat} {nm : ByteArray} {size : Nat} {dead : Bool} (h : LogIs T w l g nm size dead) (hb : Below w.heap.size w w') : LogIs T w' l g nm size dead := (hb.block l (heap_lt h)).trans h
/-- A call that turns what P holds, or the block l. -/
def StepL (P P' : Nat → Prop) (l : Nat) (w w' : World) : Prop := Touch (fun i => P i ∨ i = l) w w' ∧ ∀ i, P' i → P i ∨ w.heap.size ≤ i
theorem StepL.of {P P' : Nat → Prop} {l : Nat} {w w' : World} (h : Step P P' w w') : StepL P P' l w w' := ⟨h.1.mono (fun _ _ h => Or.inl h), h.2⟩
theorem StepL.trans {P P' P'' : Nat → Prop} {l : Nat} {a b c : World} (h : StepL P P' l a b) (k : StepL P' P'' l b c) : StepL P P'' l a c :=
  ⟨h.1.trans k.1 (fun i hi hp => hp.imp (fun hp => (h.2 i hp).elim id (fun e => by omega)) id), fun i hi => (k.2 i hi).elim (h.2 i) (fun e => Or.inr (Nat.le_trans h.1.2.2.2.1 e))⟩
theorem StepL.below {P P' : Nat → Prop} {l : Nat} {a b c : World} (h : Below a.heap.size a b) (k : StepL P P' l b c) : StepL P P' l a c :=
  ⟨(Touch.of_below _ h).trans k.1 (fun _ _ h => h), fun i hi => (k.2 i hi).imp id (fun e => Nat.le_trans h.size e)⟩
theorem StepL.thenBelow {P P' : Nat → Prop} {l : Nat} {a b c : World} (h : StepL P P' l a b) (k : Below b.heap.size b c) : StepL P P' l a c :=
  ⟨h.1.trans (Touch.of_below _ k) (fun _ _ h => h), h.2⟩
theorem StepL.set {P P' : Nat → Prop} {l : Nat} {a b : World} (h : StepL P P' l a b) (i : Nat) (v : Value) : StepL P P' l a (b.setCell ⟨l, i, none⟩ v) :=
  ⟨h.1.trans (touch_set b l i v) (fun _ _ e => Or.inr e), h.2⟩
theorem StepL.ge {P P' : Nat → Prop} {l : Nat} {a b : World} {n : Nat} (h : StepL P P' l a b) (hp : ∀ i, P i → n ≤ i) (hl : n ≤ l) (hn : n ≤ a.heap.size) : (∀ i, P' i → n ≤ i) ∧ Below n a b :=
  ⟨fun i hi => (h.2 i hi).elim (hp i) (fun h' => Nat.le_trans hn h'), h.1.below hn (fun i hi => hi.elim (hp i) (fun e => by rw [e]; exact hl))⟩
theorem StepL.not {P P' : Nat → Prop} {l : Nat} {a b : World} (h : StepL P P' l a b) (hl : l < a.heap.size) (hp : ¬ P l) : ¬ P' l := fun h' => (h.2 l h').elim hp (fun e => by omega)
theorem belDrew (w : World) : Below w.heap.size w w.drew := ⟨rfl, rfl, rfl, Nat.le_refl _, fun _ _ => rfl⟩
theorem lcells {w : World} {l : Nat} {a b c d : Value} {t : TypeId} (h : w.heap[l]? = some (.cells #[a, b, c, d] t (0, 0))) : w.cell? ⟨l, 0, none⟩ = some a ∧ w.cell? ⟨l, 1, none⟩ = some b ∧ w.cell? ⟨l, 2, none⟩ = some c ∧ w.cell? ⟨l, 3, none⟩ = some d := by simp [World.cell?, h]
theorem lfroz {w : World} {l : Nat} {a b c d : Value} {t : TypeId} (h : w.heap[l]? = some (.cells #[a, b, c, d] t (0, 0))) (i : Nat) : w.frozen? ⟨l, i, none⟩ = false := by simp [World.frozen?, h]
/-- All files' bytes are bytes. -/
theorem DiskAt.oks {w : World} {g : Nat} {P : Nat → Prop} {D : DSt} (h : DiskAt w g P D) : ∀ f ∈ D.fs, okB f.2.1 := by
  obtain ⟨mb, es, h1, h2, h3, h4, -⟩ := h
  have key : ∀ (es : List Ent) (fs : List FEnt), All2 (FileOk w P) es fs → ∀ f ∈ fs, okB f.2.1 := by
    intro es
    induction es with
    | nil =>
      intro fs h f hf
      cases fs with
      | nil => cases hf
      | cons b m => exact h.elim
    | cons a l ih =>
      intro fs h f hf
      cases fs with
      | nil => exact h.elim
      | cons b m =>
        rcases List.mem_cons.1 hf with rfl | hf
        · obtain ⟨_, _, _, _, h4, _⟩ := h.1
          exact h4
        · exact ih m h.2 f hf
  exact key es D.fs h4
theorem readD_ok {D : DSt} (h : ∀ f ∈ D.fs, okB f.2.1) (k : List UInt8) : okB (readD D k).1 := by
  unfold readD
  cases hg : getE D.fs k with
  | none => exact fun x hx => by cases hx
  | some u =>
    simp only []
    split
    · exact fun x hx => by cases hx
    · exact h _ (getE_mem hg)
theorem readD_len {D : DSt} (k : List UInt8) : (readD D k).1.length ≤ ((getE D.fs k).getD ([], 0)).1.length := by
  unfold readD
  cases hg : getE D.fs k with
  | none => exact Nat.zero_le _
  | some u =>
    simp only []
    split
    · exact Nat.zero_le _
    · exact Nat.le_refl _
theorem appD_len (D : DSt) (k : List UInt8) (t : List Int) : (appD D k t).2.fs.length ≤ D.fs.length + 1 := by
  unfold appD
  split
  · exact Nat.le_succ _
  · exact putE_length _ _ _
set_option maxHeartbeats 2000000 in
theorem ready_any (l g : Nat) (nm : ByteArray) (size : Nat) (dead : Bool) (w : World) (h : LogIs 83 w l g nm size dead) : Calls Tryd.prog 43 #[ptr l] w fun e w' => e = .returned (.int .i64 (if dead = true then 12 else 0)) ∧ w = w' := by
  obtain ⟨c0, c1, c2, c3⟩ := lcells h
  clear h
  cases dead with
  | true =>
    go_enter Tryd.func43, Tryd.ntmps43
    go_wp2_with fail
    go_ret
    exact ⟨rfl, rfl⟩
  | false =>
    go_enter Tryd.func43, Tryd.ntmps43
    go_wp2_with fail
    go_ret
    exact ⟨rfl, rfl⟩
theorem ready_nil (w : World) : Calls Tryd.prog 43 #[.pointer none] w fun e w' => e = .returned (.int .i64 2) ∧ w = w' := by
  go_enter Tryd.func43, Tryd.ntmps43
  go_wp2_with fail
  go_ret
  exact ⟨rfl, rfl⟩
theorem lsize_any (l g : Nat) (nm : ByteArray) (size : Nat) (dead : Bool) (w : World) (h : LogIs 83 w l g nm size dead) : Calls Tryd.prog 14 #[ptr l] w fun e w' => e = .returned (.int .i64 (size : Nat)) ∧ w = w' := by
  obtain ⟨c0, c1, c2, c3⟩ := lcells h
  clear h
  go_enter Tryd.func14, Tryd.ntmps14
  go_wp2_with fail
  go_ret
  exact ⟨rfl, rfl⟩
theorem lsize_nil (w : World) : Calls Tryd.prog 14 #[.pointer none] w fun e w' => e = .returned (.int .i64 0) ∧ w = w' := by
  go_enter Tryd.func14, Tryd.ntmps14
  go_wp2_with fail
  go_ret
  exact ⟨rfl, rfl⟩
theorem ldead_any (l g : Nat) (nm : ByteArray) (size : Nat) (dead : Bool) (w : World) (h : LogIs 83 w l g nm size dead) : Calls Tryd.prog 15 #[ptr l] w fun e w' => e = .returned (.bool dead) ∧ w = w' := by
  have HR := Lib.hid (ready_any l g nm size dead w h)
  clear h
  go_enter Tryd.func15, Tryd.ntmps15
  go_wp2_with fail
  refine HR.out.mono ?_; rintro e w' ⟨rfl, rfl⟩
  cases dead with
  | true =>
    go_wp2_with fail
    go_ret
    exact ⟨rfl, rfl⟩
  | false =>
    go_wp2_with fail
    go_ret
    exact ⟨rfl, rfl⟩
theorem ldead_nil (w : World) : Calls Tryd.prog 15 #[.pointer none] w fun e w' => e = .returned (.bool true) ∧ w = w' := by
  have HR := Lib.hid (ready_nil w)
  go_enter Tryd.func15, Tryd.ntmps15
  go_wp2_with fail
  refine HR.out.mono ?_; rintro e w' ⟨rfl, rfl⟩
  go_wp2_with fail
  go_ret
  exact ⟨rfl, rfl⟩
theorem lappend_nil (v : Value) (w : World) : Calls Tryd.prog 23 #[.pointer none, v] w fun e w' => e = .returned (.int .i64 2) ∧ w = w' := by
  have HR := Lib.hid (ready_nil w)
  go_enter Tryd.func23, Tryd.ntmps23
  go_wp2_with fail
  refine HR.out.mono ?_; rintro e w' ⟨rfl, rfl⟩
  go_wp2_with fail
  go_ret
  exact ⟨rfl, rfl⟩
theorem lclear_nil (w : World) : Calls Tryd.prog 29 #[.pointer none] w fun e w' => e = .returned (.int .i64 2) ∧ w = w' := by
  have HR := Lib.hid (ready_nil w)
  go_enter Tryd.func29, Tryd.ntmps29
  go_wp2_with fail
  refine HR.out.mono ?_; rintro e w' ⟨rfl, rfl⟩
  go_wp2_with fail
  go_ret
  exact ⟨rfl, rfl⟩
theorem die_any (l g : Nat) (nm : ByteArray) (size : Nat) (dead : Bool) (x : Int) (w : World) (h : LogIs 83 w l g nm size dead) :
    Calls Tryd.prog 51 #[ptr l, .int .i64 x] w fun e w' => e = .returned (.int .i64 x) ∧ LogIs 83 w' l g nm 0 true ∧ Touch (· = l) w w' := by
  obtain ⟨c0, c1, c2, c3⟩ := lcells h
  have f2 := lfroz h 2
  have f3 := lfroz h 3
  have H1 := dset h 3 (.bool true)
  have HH := Lib.hid (dset H1 2 (.int .i64 0))
  have HT := Lib.hid ((touch_set w l 3 (.bool true)).trans (touch_set (w.setCell ⟨l, 3, none⟩ (.bool true)) l 2 (.int .i64 0)) (fun _ _ e => e))
  clear h H1
  go_enter Tryd.func51, Tryd.ntmps51
  go_wp2_with fail
  go_ret
  exact ⟨rfl, HH.out, HT.out⟩
/-- What a write of frames does: Append, then Sync. -/
def writeL (D : DSt) (k : List UInt8) (t : List Int) : Int × DSt := if (appD D k t).1 = 0 then syncD (appD D k t).2 k else appD D k t
set_option linter.unusedSimpArgs false in
set_option maxRecDepth 100000 in
set_option maxRecDepth 100000 in
set_option maxHeartbeats 4000000 in
theorem lwrite_any (l g : Nat) (P : Nat → Prop) (D : DSt) (nm : ByteArray) (size : Nat) (dead : Bool) (src : Value) (t : List Int) (w : World) (h : DiskAt w g P D) (hl : LogIs 83 w l g nm size dead) (hPl : ¬ P l) (hs : nm.size ≤ maxLen) (hs0 : nm.data.toList ≠ [])
    (hn : D.fs.length ≤ 1000) (hb : ((getE D.fs nm.data.toList).getD ([], 0)).1.length + t.length ≤ 100000000000) (hsee : Sees w src t) (hok : okB t) (hsrc : t ≠ [] → ∀ d, src.ownBlock = some d → d ≠ g) :
    Calls Tryd.prog 50 #[ptr l, src] w fun e w' => ∃ P', e = .returned (.int .i64 (writeL D nm.data.toList t).1) ∧ DiskAt w' g P' (writeL D nm.data.toList t).2 ∧ Step P P' w w' := by
  have HA := Lib.hid (append_any g P D nm src t w.drew (h.below (belDrew w)) hs hs0 (by omega) hb (hsee.keep (belDrew w)) hok hsrc)
  have HL := Lib.hid hl
  obtain ⟨c0, c1, -, -⟩ := lcells hl
  have hlt := heap_lt hl
  obtain ⟨ea, hea⟩ : ∃ ea, ea = (appD D nm.data.toList t).1 := ⟨_, rfl⟩
  obtain ⟨DA, hDA⟩ : ∃ DA, DA = (appD D nm.data.toList t).2 := ⟨_, rfl⟩
  have hDl := appD_len D nm.data.toList t
  rw [← hDA] at hDl
  have hW : writeL D nm.data.toList t = if ea = 0 then syncD DA nm.data.toList else (ea, DA) := by unfold writeL; rw [← hea, ← hDA]; congr 1; rw [hea, hDA]
  rw [← hea, ← hDA] at HA
  rw [hW]
  clear hea hDA hsee hb hsrc hok h hl hW
  go_enter Tryd.func50, Tryd.ntmps50
  go_wp2_with fail
  refine wp_region_held_drew (S := (fun W => W.cell? ⟨l, 0, none⟩ = some (ptr g) ∧ W.cell? ⟨l, 1, none⟩ = some (.string nm))) (by kernel_rfl) ?_ (fun r0 => ?_)
  · exact ⟨c0, c1⟩
  refine wpAnyH_take (i := 0) (v := ?_) rfl (by kernel_rfl) (by kernel_rfl) (by kernel_rfl) (fun _ _ _ h => h) (Or.inl ⟨by rfl, ?_⟩) (by assumption) ?_
  rotate_left
  · intro w hSw
    (try dsimp only at hSw)
    go_simp
    first | done | with_reducible rfl
  try simp only [Act.put, List.getElem_toArray, List.getElem_cons_succ, List.getElem_cons_zero, List.setIfInBounds_toArray, List.set_cons_zero, List.set_cons_succ]
  refine wpAnyH_take (i := 1) (v := ?_) rfl (by kernel_rfl) (by kernel_rfl) (by kernel_rfl) (fun _ _ _ h => h) (Or.inl ⟨by rfl, ?_⟩) (by assumption) ?_
  rotate_left
  · intro w hSw
    (try dsimp only at hSw)
    go_simp
    first | done | with_reducible rfl
  try simp only [Act.put, List.getElem_toArray, List.getElem_cons_succ, List.getElem_cons_zero, List.setIfInBounds_toArray, List.set_cons_zero, List.set_cons_succ]
  refine wpAnyH_take (i := 2) (v := ?_) rfl (by kernel_rfl) (by kernel_rfl) (by kernel_rfl) (fun _ _ _ h => h) (Or.inl ⟨by rfl, ?_⟩) (by assumption) ?_
  rotate_left
  · intro w hSw
    (try dsimp only at hSw)
    go_simp
    first | done | with_reducible rfl
  try simp only [Act.put, List.getElem_toArray, List.getElem_cons_succ, List.getElem_cons_zero, List.setIfInBounds_toArray, List.set_cons_zero, List.set_cons_succ]
  refine wpAnyH_take (i := 3) (v := ?_) rfl (by kernel_rfl) (by kernel_rfl) (by kernel_rfl) (fun _ _ _ h => h) (Or.inl ⟨by rfl, ?_⟩) (by assumption) ?_
  rotate_left
  · intro w hSw
    (try dsimp only at hSw)
    go_simp
    first | done | with_reducible rfl
  try simp only [Act.put, List.getElem_toArray, List.getElem_cons_succ, List.getElem_cons_zero, List.setIfInBounds_toArray, List.set_cons_zero, List.set_cons_succ]
  refine wpAnyH_take (i := 4) (v := ?_) rfl (by kernel_rfl) (by kernel_rfl) (by kernel_rfl) (fun _ _ _ h => h) (Or.inl ⟨by rfl, ?_⟩) (by assumption) ?_
  rotate_left
  · intro w hSw
    (try dsimp only at hSw)
    go_simp
    first | done | with_reducible rfl
  try simp only [Act.put, List.getElem_toArray, List.getElem_cons_succ, List.getElem_cons_zero, List.setIfInBounds_toArray, List.set_cons_zero, List.set_cons_succ]
  refine wpAnyH_take (i := 5) (v := ?_) rfl (by kernel_rfl) (by kernel_rfl) (by kernel_rfl) (fun _ _ _ h => h) (Or.inl ⟨by rfl, ?_⟩) (by assumption) ?_
  rotate_left
  · intro w hSw
    (try dsimp only at hSw)
    go_simp
    first | done | with_reducible rfl
  try simp only [Act.put, List.getElem_toArray, List.getElem_cons_succ, List.getElem_cons_zero, List.setIfInBounds_toArray, List.set_cons_zero, List.set_cons_succ]
  refine wpAnyH_take (i := 6) (v := ?_) rfl (by kernel_rfl) (by kernel_rfl) (by kernel_rfl) (fun _ _ _ h => h) (Or.inl ⟨by rfl, ?_⟩) (by assumption) ?_
  rotate_left
  · intro w hSw
    (try dsimp only at hSw)
    go_simp
    first | done | with_reducible rfl
  try simp only [Act.put, List.getElem_toArray, List.getElem_cons_succ, List.getElem_cons_zero, List.setIfInBounds_toArray, List.set_cons_zero, List.set_cons_succ]
  refine wpAnyH_take (i := 7) (v := ?_) rfl (by kernel_rfl) (by kernel_rfl) (by kernel_rfl) (fun _ _ _ h => h) (Or.inl ⟨by rfl, ?_⟩) (by assumption) ?_
  rotate_left
  · intro w hSw
    (try dsimp only at hSw)
    go_simp
    first | done | with_reducible rfl
  try simp only [Act.put, List.getElem_toArray, List.getElem_cons_succ, List.getElem_cons_zero, List.setIfInBounds_toArray, List.set_cons_zero, List.set_cons_succ]
  refine wpAnyH_take (i := 8) (v := ?_) rfl (by kernel_rfl) (by kernel_rfl) (by kernel_rfl) (fun _ _ _ h => h) (Or.inl ⟨by rfl, ?_⟩) (by assumption) ?_
  rotate_left
  · intro w hSw
    (try dsimp only at hSw)
    go_simp
    first | done | with_reducible rfl
  try simp only [Act.put, List.getElem_toArray, List.getElem_cons_succ, List.getElem_cons_zero, List.setIfInBounds_toArray, List.set_cons_zero, List.set_cons_succ]
  refine wpAnyH_ready (rs := [9]) (by kernel_rfl) (by simp) ?_
  refine AllReadyH.cons rfl (fun K hK => ?_) AllReadyH.nil
  go_simp
  refine HA.out.mono ?_; rintro e w1 ⟨P1, rfl, hD1, hS1⟩
  have hS1 := Step.below (belDrew w) hS1
  have hl1 := HL.out.keep hS1.1 hPl
  obtain ⟨d0, d1, -, -⟩ := lcells hl1
  refine hK.out _ _ ?_ (fun r1 => ?_)
  · exact ⟨d0, d1⟩
  try simp only [Act.put, List.getElem_toArray, List.getElem_cons_succ, List.getElem_cons_zero, List.setIfInBounds_toArray, List.set_cons_zero, List.set_cons_succ]
  refine wpAnyH_take (i := 10) (v := ?_) rfl (by kernel_rfl) (by kernel_rfl) (by kernel_rfl) (fun _ _ _ h => h) (Or.inl ⟨by rfl, ?_⟩) (by assumption) ?_
  rotate_left
  · intro w hSw
    (try dsimp only at hSw)
    go_simp
    first | done | with_reducible rfl
  try simp only [Act.put, List.getElem_toArray, List.getElem_cons_succ, List.getElem_cons_zero, List.setIfInBounds_toArray, List.set_cons_zero, List.set_cons_succ]
  refine wpAnyH_done (by kernel_rfl) ?_ _
  by_cases h0 : ea = 0
  · subst h0
    have HY := Lib.hid (sync_any g P1 DA nm w1.drew (hD1.below (belDrew w1)) hs (by omega))
    have HS1 := Lib.hid hS1
    have HL1 := Lib.hid hl1
    clear hS1 hl1 hD1
    go_wp2_with fail
    refine wp_region_held_drew (S := (fun W => W.cell? ⟨l, 0, none⟩ = some (ptr g) ∧ W.cell? ⟨l, 1, none⟩ = some (.string nm))) (by kernel_rfl) ?_ (fun r0 => ?_)
    · exact ⟨d0, d1⟩
    refine wpAnyH_take (i := 0) (v := ?_) rfl (by kernel_rfl) (by kernel_rfl) (by kernel_rfl) (fun _ _ _ h => h) (Or.inl ⟨by rfl, ?_⟩) (by assumption) ?_
    rotate_left
    · intro w hSw
      (try dsimp only at hSw)
      go_simp
      first | done | with_reducible rfl
    try simp only [Act.put, List.getElem_toArray, List.getElem_cons_succ, List.getElem_cons_zero, List.setIfInBounds_toArray, List.set_cons_zero, List.set_cons_succ]
    refine wpAnyH_take (i := 1) (v := ?_) rfl (by kernel_rfl) (by kernel_rfl) (by kernel_rfl) (fun _ _ _ h => h) (Or.inl ⟨by rfl, ?_⟩) (by assumption) ?_
    rotate_left
    · intro w hSw
      (try dsimp only at hSw)
      go_simp
      first | done | with_reducible rfl
    try simp only [Act.put, List.getElem_toArray, List.getElem_cons_succ, List.getElem_cons_zero, List.setIfInBounds_toArray, List.set_cons_zero, List.set_cons_succ]
    refine wpAnyH_take (i := 2) (v := ?_) rfl (by kernel_rfl) (by kernel_rfl) (by kernel_rfl) (fun _ _ _ h => h) (Or.inl ⟨by rfl, ?_⟩) (by assumption) ?_
    rotate_left
    · intro w hSw
      (try dsimp only at hSw)
      go_simp
      first | done | with_reducible rfl
    try simp only [Act.put, List.getElem_toArray, List.getElem_cons_succ, List.getElem_cons_zero, List.setIfInBounds_toArray, List.set_cons_zero, List.set_cons_succ]
    refine wpAnyH_take (i := 3) (v := ?_) rfl (by kernel_rfl) (by kernel_rfl) (by kernel_rfl) (fun _ _ _ h => h) (Or.inl ⟨by rfl, ?_⟩) (by assumption) ?_
    rotate_left
    · intro w hSw
      (try dsimp only at hSw)
      go_simp
      first | done | with_reducible rfl
    try simp only [Act.put, List.getElem_toArray, List.getElem_cons_succ, List.getElem_cons_zero, List.setIfInBounds_toArray, List.set_cons_zero, List.set_cons_succ]
    refine wpAnyH_take (i := 4) (v := ?_) rfl (by kernel_rfl) (by kernel_rfl) (by kernel_rfl) (fun _ _ _ h => h) (Or.inl ⟨by rfl, ?_⟩) (by assumption) ?_
    rotate_left
    · intro w hSw
      (try dsimp only at hSw)
      go_simp
      first | done | with_reducible rfl
    try simp only [Act.put, List.getElem_toArray, List.getElem_cons_succ, List.getElem_cons_zero, List.setIfInBounds_toArray, List.set_cons_zero, List.set_cons_succ]
    refine wpAnyH_take (i := 5) (v := ?_) rfl (by kernel_rfl) (by kernel_rfl) (by kernel_rfl) (fun _ _ _ h => h) (Or.inl ⟨by rfl, ?_⟩) (by assumption) ?_
    rotate_left
    · intro w hSw
      (try dsimp only at hSw)
      go_simp
      first | done | with_reducible rfl
    try simp only [Act.put, List.getElem_toArray, List.getElem_cons_succ, List.getElem_cons_zero, List.setIfInBounds_toArray, List.set_cons_zero, List.set_cons_succ]
    refine wpAnyH_take (i := 6) (v := ?_) rfl (by kernel_rfl) (by kernel_rfl) (by kernel_rfl) (fun _ _ _ h => h) (Or.inl ⟨by rfl, ?_⟩) (by assumption) ?_
    rotate_left
    · intro w hSw
      (try dsimp only at hSw)
      go_simp
      first | done | with_reducible rfl
    try simp only [Act.put, List.getElem_toArray, List.getElem_cons_succ, List.getElem_cons_zero, List.setIfInBounds_toArray, List.set_cons_zero, List.set_cons_succ]
    refine wpAnyH_take (i := 7) (v := ?_) rfl (by kernel_rfl) (by kernel_rfl) (by kernel_rfl) (fun _ _ _ h => h) (Or.inl ⟨by rfl, ?_⟩) (by assumption) ?_
    rotate_left
    · intro w hSw
      (try dsimp only at hSw)
      go_simp
      first | done | with_reducible rfl
    try simp only [Act.put, List.getElem_toArray, List.getElem_cons_succ, List.getElem_cons_zero, List.setIfInBounds_toArray, List.set_cons_zero, List.set_cons_succ]
    refine wpAnyH_ready (rs := [8]) (by kernel_rfl) (by simp) ?_
    refine AllReadyH.cons rfl (fun K hK => ?_) AllReadyH.nil
    go_simp
    refine HY.out.mono ?_; rintro e w2 ⟨P2, rfl, hD2, hS2⟩
    have hS2 := Step.below (belDrew w1) hS2
    have hP1l : ¬ P1 l := fun hp => (HS1.out.2 l hp).elim hPl (fun e => by omega)
    have hl2 := HL1.out.keep hS2.1 hP1l
    obtain ⟨e0, e1, -, -⟩ := lcells hl2
    refine hK.out _ _ ?_ (fun r2 => ?_)
    · exact ⟨e0, e1⟩
    try simp only [Act.put, List.getElem_toArray, List.getElem_cons_succ, List.getElem_cons_zero, List.setIfInBounds_toArray, List.set_cons_zero, List.set_cons_succ]
    refine wpAnyH_take (i := 9) (v := ?_) rfl (by kernel_rfl) (by kernel_rfl) (by kernel_rfl) (fun _ _ _ h => h) (Or.inl ⟨by rfl, ?_⟩) (by assumption) ?_
    rotate_left
    · intro w hSw
      (try dsimp only at hSw)
      go_simp
      first | done | with_reducible rfl
    try simp only [Act.put, List.getElem_toArray, List.getElem_cons_succ, List.getElem_cons_zero, List.setIfInBounds_toArray, List.set_cons_zero, List.set_cons_succ]
    refine wpAnyH_done (by kernel_rfl) ?_ _
    go_wp2_with fail
    go_ret
    (try rw [if_pos rfl])
    first | exact ⟨P2, rfl, hD2, HS1.out.trans hS2⟩ | exact ⟨rfl, P2, hD2, HS1.out.trans hS2⟩
  · have d9 : (ea != 0) = true := by simpa using h0
    clear r0 r1
    go_wp2_with fail
    go_ret
    (try rw [if_neg h0])
    first | exact ⟨P1, rfl, hD1, hS1⟩ | exact ⟨rfl, P1, hD1, hS1⟩
/-- A log's state: its disk's, how many bytes its frames have, is it dead. -/
structure WSt where
  D : DSt
  size : Nat
  dead : Bool
def walA (S : WSt) (k : List UInt8) (p : List Int) : Int × WSt :=
  if S.dead = true then (12, S) else if p = [] then (1, S) else if (writeL S.D k (frameL p)).1 = 0 then (0, ⟨(writeL S.D k (frameL p)).2, S.size + (8 + p.length), false⟩) else ((writeL S.D k (frameL p)).1, ⟨(writeL S.D k (frameL p)).2, 0, true⟩)
def walC (S : WSt) (k : List UInt8) : Int × WSt :=
  if S.dead = true then (12, S) else if (cutD S.D k 0).1 = 0 ∨ (cutD S.D k 0).1 = 6 then (0, ⟨(cutD S.D k 0).2, 0, false⟩) else ((cutD S.D k 0).1, ⟨(cutD S.D k 0).2, 0, true⟩)
set_option maxRecDepth 100000 in
set_option maxHeartbeats 4000000 in
theorem lappend_any (l g : Nat) (P : Nat → Prop) (S : WSt) (nm : ByteArray) (v : Value) (p : List Int) (w : World) (h : DiskAt w g P S.D) (hl : LogIs 83 w l g nm S.size S.dead) (hPl : ¬ P l) (hs : nm.size ≤ maxLen) (hs0 : nm.data.toList ≠ [])
    (hn : S.D.fs.length ≤ 1000) (hsz : S.size ≤ 100000000) (hb : ((getE S.D.fs nm.data.toList).getD ([], 0)).1.length ≤ 1000000) (hsee : Sees w v p) (hok : okB p) (hp : p.length ≤ 200) (hE : Env w) :
    Calls Tryd.prog 23 #[ptr l, v] w fun e w' => ∃ P', e = .returned (.int .i64 (walA S nm.data.toList p).1) ∧ DiskAt w' g P' (walA S nm.data.toList p).2.D ∧ LogIs 83 w' l g nm (walA S nm.data.toList p).2.size (walA S nm.data.toList p).2.dead ∧ StepL P P' l w w' := by
  obtain ⟨D, size, dead⟩ := S
  simp only [] at h hl hn hsz hb
  have HR := Lib.hid (ready_any l g nm size dead w hl)
  cases dead with
  | true =>
    have e1 : walA ⟨D, size, true⟩ nm.data.toList p = (12, ⟨D, size, true⟩) := if_pos rfl
    rw [e1]
    have HH := Lib.hid (And.intro h hl)
    clear h hl
    go_enter Tryd.func23, Tryd.ntmps23
    go_wp2_with fail
    refine HR.out.mono ?_; rintro e w' ⟨rfl, rfl⟩
    go_wp2_with fail
    go_ret
    exact ⟨P, rfl, HH.out.1, HH.out.2, Touch.refl _ _, fun _ h => Or.inl h⟩
  | false =>
    by_cases hp0 : p = []
    · subst hp0
      have e1 : walA ⟨D, size, false⟩ nm.data.toList [] = (1, ⟨D, size, false⟩) := by unfold walA; rw [if_neg (by simp), if_pos rfl]
      rw [e1]
      have HH := Lib.hid (And.intro h hl)
      have HN := Lib.hid (fput_no v w hsee)
      clear h hl hsee
      go_enter Tryd.func23, Tryd.ntmps23
      go_wp2_with fail
      refine HR.out.mono ?_; rintro e w' ⟨rfl, rfl⟩
      go_wp2_with fail
      refine HN.out.mono ?_; rintro e w' ⟨rfl, rfl⟩
      go_wp2_with fail
      go_ret
      exact ⟨P, rfl, HH.out.1, HH.out.2, Touch.refl _ _, fun _ h => Or.inl h⟩
    · have hp1 : 1 ≤ p.length := List.length_pos_iff.2 hp0
      have HP := Lib.hid (fput_any v p w hsee hok hp1 (by omega) hE)
      have HH := Lib.hid (And.intro h hl)
      have hgl : g < w.heap.size := h.lt h.self
      have hll := heap_lt hl
      have HO := Lib.hid (frameL_ok hok)
      have hfl := frameL_len p
      obtain ⟨F, hF⟩ : ∃ F, F = frameL p := ⟨_, rfl⟩
      obtain ⟨ew, hew⟩ : ∃ ew, ew = (writeL D nm.data.toList F).1 := ⟨_, rfl⟩
      obtain ⟨DW, hDW⟩ : ∃ DW, DW = (writeL D nm.data.toList F).2 := ⟨_, rfl⟩
      have e1 : walA ⟨D, size, false⟩ nm.data.toList p = if ew = 0 then (0, ⟨DW, size + (8 + p.length), false⟩) else (ew, ⟨DW, 0, true⟩) := by
        unfold walA; rw [if_neg (by simp), if_neg hp0, ← hF, ← hew, ← hDW]
      rw [e1]
      rw [← hF] at HP HO hfl
      have HWR : Hid (∀ (src : Value) (W : World), Sees W src F → (∀ d, src.ownBlock = some d → d ≠ g) → DiskAt W g P D → LogIs 83 W l g nm size false → Calls Tryd.prog 50 #[ptr l, src] W fun e w' => ∃ P', e = .returned (.int .i64 ew) ∧ DiskAt w' g P' DW ∧ Step P P' W w') := Lib.hid (fun src W k1 k2 k3 k4 => by
        have := lwrite_any l g P D nm size false src F W k3 k4 hPl hs hs0 hn (by omega) k1 HO.out (fun _ => k2)
        rw [← hew, ← hDW] at this
        exact this)
      have HFL := Lib.hid hfl
      clear h hl hsee hok hF hew hDW e1 hb hfl
      go_enter Tryd.func23, Tryd.ntmps23
      go_wp2_with fail
      refine HR.out.mono ?_; rintro e w' ⟨rfl, rfl⟩
      go_wp2_with fail
      refine HP.out.mono ?_; rintro e w1 ⟨v1, rfl, ho1, hb1⟩
      obtain ⟨vo, vc, hv1, -, -⟩ := id ho1.sees
      subst hv1
      have hl1 := HH.out.2.below hb1
      have HC1 := Lib.hid (HWR.out _ w1 ho1.sees (fun d hd e => by have := (World.ownsRow.lt ho1 d hd).1; omega) (HH.out.1.below hb1) hl1)
      have HL1 := Lib.hid hl1
      clear hl1 ho1
      go_wp2_with fail
      refine HC1.out.mono ?_; rintro e w2 ⟨P2, rfl, hD2, hS2⟩
      have hl2 := HL1.out.keep hS2.1 hPl
      have hS3 : StepL P P2 l w w2 := StepL.below hb1 (StepL.of hS2)
      by_cases h0 : ew = 0
      · subst h0
        obtain ⟨c0, c1, c2, c3⟩ := lcells hl2
        have f2 := lfroz hl2 2
        have s1 : IntKind.i64.wrap ((size : Int) + (F.length : Int)) = ((size + (8 + p.length) : Nat) : Int) := by
          have hfl := HFL.out
          rw [IntWalk.i64_in _ (by omega)]
          omega
        have HL2 := Lib.hid (dset hl2 2 (.int .i64 ((size + (8 + p.length) : Nat) : Int)))
        have HD2 := Lib.hid (hD2.keep (touch_set w2 l 2 (.int .i64 ((size + (8 + p.length) : Nat) : Int))) (fun d hd e => hS3.not hll hPl (by rw [← e]; exact hd)))
        have HS3 := Lib.hid (hS3.set 2 (.int .i64 ((size + (8 + p.length) : Nat) : Int)))
        clear hl2 hS2 hS3 hD2
        go_wp2_with fail
        go_ret
        (try rw [if_pos rfl])
        first | exact ⟨P2, rfl, HD2.out, HL2.out, HS3.out⟩ | exact ⟨rfl, P2, HD2.out, HL2.out, HS3.out⟩
      · have d9 : (ew != 0) = true := by simpa using h0
        go_wp2_with fail
        refine (die_any l g nm size false ew w2 hl2).mono ?_; rintro e w3 ⟨rfl, hl3, ht3⟩
        go_wp2_with fail
        go_ret
        (try rw [if_neg h0])
        first | exact ⟨P2, rfl, hD2.keep ht3 (fun d hd e => hS3.not hll hPl (by rw [← e]; exact hd)), hl3, hS3.1.trans ht3 (fun _ _ e => Or.inr e), hS3.2⟩ | exact ⟨rfl, P2, hD2.keep ht3 (fun d hd e => hS3.not hll hPl (by rw [← e]; exact hd)), hl3, hS3.1.trans ht3 (fun _ _ e => Or.inr e), hS3.2⟩
set_option linter.unusedSimpArgs false in
set_option maxRecDepth 100000 in
set_option maxHeartbeats 4000000 in
theorem lclear_any (l g : Nat) (P : Nat → Prop) (S : WSt) (nm : ByteArray) (w : World) (h : DiskAt w g P S.D) (hl : LogIs 83 w l g nm S.size S.dead) (hPl : ¬ P l) (hs : nm.size ≤ maxLen)
    (hn : S.D.fs.length ≤ 1000) (hall : ∀ f ∈ S.D.fs, f.2.1.length ≤ 100000000000) :
    Calls Tryd.prog 29 #[ptr l] w fun e w' => ∃ P', e = .returned (.int .i64 (walC S nm.data.toList).1) ∧ DiskAt w' g P' (walC S nm.data.toList).2.D ∧ LogIs 83 w' l g nm (walC S nm.data.toList).2.size (walC S nm.data.toList).2.dead ∧ StepL P P' l w w' := by
  obtain ⟨D, size, dead⟩ := S
  simp only [] at h hl hn hall
  have HR := Lib.hid (ready_any l g nm size dead w hl)
  cases dead with
  | true =>
    have e1 : walC ⟨D, size, true⟩ nm.data.toList = (12, ⟨D, size, true⟩) := if_pos rfl
    rw [e1]
    have HH := Lib.hid (And.intro h hl)
    clear h hl
    go_enter Tryd.func29, Tryd.ntmps29
    go_wp2_with fail
    refine HR.out.mono ?_; rintro e w' ⟨rfl, rfl⟩
    go_wp2_with fail
    go_ret
    exact ⟨P, rfl, HH.out.1, HH.out.2, Touch.refl _ _, fun _ h => Or.inl h⟩
  | false =>
    have HC := Lib.hid (cut_any g P D nm 0 w.drew (h.below (belDrew w)) hs (by omega) (by omega) hall (by omega))
    obtain ⟨ec, hec⟩ : ∃ ec, ec = (cutD D nm.data.toList 0).1 := ⟨_, rfl⟩
    obtain ⟨DC, hDC⟩ : ∃ DC, DC = (cutD D nm.data.toList 0).2 := ⟨_, rfl⟩
    have e1 : walC ⟨D, size, false⟩ nm.data.toList = if ec = 0 ∨ ec = 6 then (0, ⟨DC, 0, false⟩) else (ec, ⟨DC, 0, true⟩) := by
      unfold walC; rw [if_neg (by simp), ← hec, ← hDC]
    rw [e1]
    rw [← hec, ← hDC] at HC
    have HL := Lib.hid hl
    have hll := heap_lt hl
    obtain ⟨c0, c1, -, -⟩ := lcells hl
    clear h hl hec hDC e1 hall
    go_enter Tryd.func29, Tryd.ntmps29
    go_wp2_with fail
    refine HR.out.mono ?_; rintro e w' ⟨rfl, rfl⟩
    go_wp2_with fail
    refine wp_region_held_drew (S := (fun W => W.cell? ⟨l, 0, none⟩ = some (ptr g) ∧ W.cell? ⟨l, 1, none⟩ = some (.string nm))) (by kernel_rfl) ?_ (fun r0 => ?_)
    · exact ⟨c0, c1⟩
    refine wpAnyH_take (i := 0) (v := ?_) rfl (by kernel_rfl) (by kernel_rfl) (by kernel_rfl) (fun _ _ _ h => h) (Or.inl ⟨by rfl, ?_⟩) (by assumption) ?_
    rotate_left
    · intro w hSw
      (try dsimp only at hSw)
      go_simp
      first | done | with_reducible rfl
    try simp only [Act.put, List.getElem_toArray, List.getElem_cons_succ, List.getElem_cons_zero, List.setIfInBounds_toArray, List.set_cons_zero, List.set_cons_succ]
    refine wpAnyH_take (i := 1) (v := ?_) rfl (by kernel_rfl) (by kernel_rfl) (by kernel_rfl) (fun _ _ _ h => h) (Or.inl ⟨by rfl, ?_⟩) (by assumption) ?_
    rotate_left
    · intro w hSw
      (try dsimp only at hSw)
      go_simp
      first | done | with_reducible rfl
    try simp only [Act.put, List.getElem_toArray, List.getElem_cons_succ, List.getElem_cons_zero, List.setIfInBounds_toArray, List.set_cons_zero, List.set_cons_succ]
    refine wpAnyH_take (i := 2) (v := ?_) rfl (by kernel_rfl) (by kernel_rfl) (by kernel_rfl) (fun _ _ _ h => h) (Or.inl ⟨by rfl, ?_⟩) (by assumption) ?_
    rotate_left
    · intro w hSw
      (try dsimp only at hSw)
      go_simp
      first | done | with_reducible rfl
    try simp only [Act.put, List.getElem_toArray, List.getElem_cons_succ, List.getElem_cons_zero, List.setIfInBounds_toArray, List.set_cons_zero, List.set_cons_succ]
    refine wpAnyH_take (i := 3) (v := ?_) rfl (by kernel_rfl) (by kernel_rfl) (by kernel_rfl) (fun _ _ _ h => h) (Or.inl ⟨by rfl, ?_⟩) (by assumption) ?_
    rotate_left
    · intro w hSw
      (try dsimp only at hSw)
      go_simp
      first | done | with_reducible rfl
    try simp only [Act.put, List.getElem_toArray, List.getElem_cons_succ, List.getElem_cons_zero, List.setIfInBounds_toArray, List.set_cons_zero, List.set_cons_succ]
    refine wpAnyH_take (i := 4) (v := ?_) rfl (by kernel_rfl) (by kernel_rfl) (by kernel_rfl) (fun _ _ _ h => h) (Or.inl ⟨by rfl, ?_⟩) (by assumption) ?_
    rotate_left
    · intro w hSw
      (try dsimp only at hSw)
      go_simp
      first | done | with_reducible rfl
    try simp only [Act.put, List.getElem_toArray, List.getElem_cons_succ, List.getElem_cons_zero, List.setIfInBounds_toArray, List.set_cons_zero, List.set_cons_succ]
    refine wpAnyH_take (i := 5) (v := ?_) rfl (by kernel_rfl) (by kernel_rfl) (by kernel_rfl) (fun _ _ _ h => h) (Or.inl ⟨by rfl, ?_⟩) (by assumption) ?_
    rotate_left
    · intro w hSw
      (try dsimp only at hSw)
      go_simp
      first | done | with_reducible rfl
    try simp only [Act.put, List.getElem_toArray, List.getElem_cons_succ, List.getElem_cons_zero, List.setIfInBounds_toArray, List.set_cons_zero, List.set_cons_succ]
    refine wpAnyH_take (i := 6) (v := ?_) rfl (by kernel_rfl) (by kernel_rfl) (by kernel_rfl) (fun _ _ _ h => h) (Or.inl ⟨by rfl, ?_⟩) (by assumption) ?_
    rotate_left
    · intro w hSw
      (try dsimp only at hSw)
      go_simp
      first | done | with_reducible rfl
    try simp only [Act.put, List.getElem_toArray, List.getElem_cons_succ, List.getElem_cons_zero, List.setIfInBounds_toArray, List.set_cons_zero, List.set_cons_succ]
    refine wpAnyH_take (i := 7) (v := ?_) rfl (by kernel_rfl) (by kernel_rfl) (by kernel_rfl) (fun _ _ _ h => h) (Or.inl ⟨by rfl, ?_⟩) (by assumption) ?_
    rotate_left
    · intro w hSw
      (try dsimp only at hSw)
      go_simp
      first | done | with_reducible rfl
    try simp only [Act.put, List.getElem_toArray, List.getElem_cons_succ, List.getElem_cons_zero, List.setIfInBounds_toArray, List.set_cons_zero, List.set_cons_succ]
    refine wpAnyH_ready (rs := [8]) (by kernel_rfl) (by simp) ?_
    refine AllReadyH.cons rfl (fun K hK => ?_) AllReadyH.nil
    go_simp
    refine HC.out.mono ?_; rintro e w1 ⟨P1, rfl, hD1, hS1⟩
    have hS1 := Step.below (belDrew w) hS1
    have hl1 := HL.out.keep hS1.1 hPl
    have hS3 : StepL P P1 l w w1 := StepL.of hS1
    obtain ⟨d0, d1, d2, d3⟩ := lcells hl1
    have f2 := lfroz hl1 2
    refine hK.out _ _ ?_ (fun r1 => ?_)
    · exact ⟨d0, d1⟩
    try simp only [Act.put, List.getElem_toArray, List.getElem_cons_succ, List.getElem_cons_zero, List.setIfInBounds_toArray, List.set_cons_zero, List.set_cons_succ]
    refine wpAnyH_take (i := 9) (v := ?_) rfl (by kernel_rfl) (by kernel_rfl) (by kernel_rfl) (fun _ _ _ h => h) (Or.inl ⟨by rfl, ?_⟩) (by assumption) ?_
    rotate_left
    · intro w hSw
      (try dsimp only at hSw)
      go_simp
      first | done | with_reducible rfl
    try simp only [Act.put, List.getElem_toArray, List.getElem_cons_succ, List.getElem_cons_zero, List.setIfInBounds_toArray, List.set_cons_zero, List.set_cons_succ]
    refine wpAnyH_done (by kernel_rfl) ?_ _
    have HL2 := Lib.hid (dset hl1 2 (.int .i64 0))
    have HD2 := Lib.hid (hD1.keep (touch_set w1 l 2 (.int .i64 0)) (fun d hd e => hS3.not hll hPl (by rw [← e]; exact hd)))
    have HS3 := Lib.hid (hS3.set 2 (.int .i64 0))
    clear r0 r1
    by_cases h0 : ec = 0
    · subst h0
      clear hl1 hD1 hS1 hS3
      go_wp2_with fail
      go_ret
      (try rw [if_pos (Or.inl rfl)])
      first | exact ⟨P1, rfl, HD2.out, HL2.out, HS3.out⟩ | exact ⟨rfl, P1, HD2.out, HL2.out, HS3.out⟩
    · have d9 : (ec != 0) = true := by simpa using h0
      by_cases h6 : ec = 6
      · subst h6
        clear hl1 hD1 hS1 hS3
        go_wp2_with fail
        go_ret
        (try rw [if_pos (Or.inr rfl)])
        first | exact ⟨P1, rfl, HD2.out, HL2.out, HS3.out⟩ | exact ⟨rfl, P1, HD2.out, HL2.out, HS3.out⟩
      · have d8 : (ec != 6) = true := by simpa using h6
        have HD1 := Lib.hid hD1
        have HS1 := Lib.hid hS3
        have HX := Lib.hid (die_any l g nm size false ec w1 hl1)
        clear hl1 hD1 hS1 hS3 HD2 HL2 HS3
        go_wp2_with fail
        refine HX.out.mono ?_; rintro e w3 ⟨rfl, hl3, ht3⟩
        go_wp2_with fail
        go_ret
        (try rw [if_neg (by omega)])
        first | exact ⟨P1, rfl, HD1.out.keep ht3 (fun d hd e => HS1.out.not hll hPl (by rw [← e]; exact hd)), hl3, HS1.out.1.trans ht3 (fun _ _ e => Or.inr e), HS1.out.2⟩ | exact ⟨rfl, P1, HD1.out.keep ht3 (fun d hd e => HS1.out.not hll hPl (by rw [← e]; exact hd)), hl3, HS1.out.1.trans ht3 (fun _ _ e => Or.inr e), HS1.out.2⟩
end Go.Proofs.YtkjdfelmjanpcaaDoor
