/- Package snap: Spare, Save, Load, over a disk's state. Conditions: the world facts of Env where bytes are sealed or looked at. -/
import Derived.Test.YtkjdfelmjanpcaaDoorWl
import Derived.Laws.ByValue
import Derived.LoopN
namespace Go.Proofs.YtkjdfelmjanpcaaDoor
open Go.RowKit Go.Maps
def tilde (s : ByteArray) : ByteArray := s ++ ⟨#[126]⟩
theorem spare_any (s : ByteArray) (w : World) (hs : s.size + 1 ≤ 9223372036854775807) : Calls Tryd.prog 57 #[.string s] w fun e w' => e = .returned (.string (tilde s)) ∧ w = w' := by
  have h0 : ¬ 9223372036854775807 < s.size + 1 := by omega
  go_enter Tryd.func57, Tryd.ntmps57
  go_wp2_with fail
  go_ret
  exact ⟨rfl, rfl⟩
/-- Remove, where no file of that name is nothing wrong. -/
def rmD (D : DSt) (k : List UInt8) : Int × DSt := if (removeD D k).1 = 6 then (0, (removeD D k).2) else removeD D k
set_option maxRecDepth 100000 in
set_option maxHeartbeats 2000000 in
theorem rm_any (g : Nat) (P : Nat → Prop) (D : DSt) (s : ByteArray) (w : World) (h : DiskAt w g P D) (hs : s.size ≤ maxLen) :
    Calls Tryd.prog 60 #[ptr g, .string s] w fun e w' => ∃ P', e = .returned (.int .i64 (rmD D s.data.toList).1) ∧ DiskAt w' g P' (rmD D s.data.toList).2 ∧ Step P P' w w' := by
  have HR := Lib.hid (remove_any g P D s w h hs)
  have e1 : rmD D s.data.toList = if (removeD D s.data.toList).1 = 6 then (0, (removeD D s.data.toList).2) else ((removeD D s.data.toList).1, (removeD D s.data.toList).2) := rfl
  rw [e1]
  obtain ⟨er, her⟩ : ∃ er, er = (removeD D s.data.toList).1 := ⟨_, rfl⟩
  obtain ⟨D1, hD1⟩ : ∃ D1, D1 = (removeD D s.data.toList).2 := ⟨_, rfl⟩
  rw [← her, ← hD1] at HR
  rw [← her, ← hD1]
  clear her hD1 e1 h
  by_cases h6 : er = 6
  · subst h6
    rw [if_pos rfl]
    go_enter Tryd.func60, Tryd.ntmps60
    go_wp2_with fail
    refine HR.out.mono ?_; rintro e w1 ⟨P1, rfl, hD1, hS1⟩
    go_wp2_with fail
    go_ret
    first | exact ⟨P1, rfl, hD1, hS1⟩ | exact ⟨rfl, P1, hD1, hS1⟩
  · rw [if_neg h6]
    have d9 : (er != 6) = true := by simpa using h6
    clear h6
    go_enter Tryd.func60, Tryd.ntmps60
    go_wp2_with fail
    refine HR.out.mono ?_; rintro e w1 ⟨P1, rfl, hD1, hS1⟩
    go_wp2_with fail
    go_ret
    first | exact ⟨P1, rfl, hD1, hS1⟩ | exact ⟨rfl, P1, hD1, hS1⟩
theorem rm_nil (s : ByteArray) (w : World) : Calls Tryd.prog 60 #[.pointer none, .string s] w fun e w' => e = .returned (.int .i64 2) ∧ Below w.heap.size w w' := by
  have HR := Lib.hid (remove_nil s w)
  go_enter Tryd.func60, Tryd.ntmps60
  go_wp2_with fail
  refine HR.out.mono ?_; rintro e w1 ⟨rfl, hb1⟩
  go_wp2_with fail
  go_ret
  exact ⟨rfl, hb1⟩
/-- What Save's closures hold: the disk, the name, the bytes, the spare's name; and the list of them. -/
def SnBox (w : World) (dv : Value) (bd bn bb bs bl : Nat) (nm sp : ByteArray) (v : Value) : Prop :=
  w.heap[bd]? = some (.cells #[dv] 23 (0, 0)) ∧ w.heap[bn]? = some (.cells #[.string nm] 9 (0, 0)) ∧ w.heap[bb]? = some (.cells #[v] 32 (0, 0)) ∧ w.heap[bs]? = some (.cells #[.string sp] 9 (0, 0)) ∧
  w.heap[bl]? = some (.cells #[.func (.func 59) #[] #[.pointer (some ⟨bd, 0, none⟩), .pointer (some ⟨bs, 0, none⟩)], .func (.func 61) #[] #[.pointer (some ⟨bd, 0, none⟩), .pointer (some ⟨bs, 0, none⟩), .pointer (some ⟨bb, 0, none⟩)], .func (.func 63) #[] #[.pointer (some ⟨bd, 0, none⟩), .pointer (some ⟨bs, 0, none⟩)], .func (.func 65) #[] #[.pointer (some ⟨bd, 0, none⟩), .pointer (some ⟨bs, 0, none⟩), .pointer (some ⟨bn, 0, none⟩)]] 63 (0, 0))
def SnFree (P : Nat → Prop) (bd bn bb bs bl : Nat) : Prop := ¬ P bd ∧ ¬ P bn ∧ ¬ P bb ∧ ¬ P bs ∧ ¬ P bl
theorem SnBox.step {w w' : World} {dv v : Value} {bd bn bb bs bl : Nat} {nm sp : ByteArray} {P P' : Nat → Prop} (h : SnBox w dv bd bn bb bs bl nm sp v) (hf : SnFree P bd bn bb bs bl) (hS : Step P P' w w') : SnBox w' dv bd bn bb bs bl nm sp v ∧ SnFree P' bd bn bb bs bl := by
  obtain ⟨h1, h2, h3, h4, h5⟩ := h
  obtain ⟨f1, f2, f3, f4, f5⟩ := hf
  have key : ∀ b o, w.heap[b]? = some o → ¬ P b → w'.heap[b]? = some o ∧ ¬ P' b := fun b o h f => ⟨(hS.1.2.2.2.2 b (heap_lt h) f).trans h, fun hp => (hS.2 b hp).elim f (fun e => by have := heap_lt h; omega)⟩
  exact ⟨⟨(key _ _ h1 f1).1, (key _ _ h2 f2).1, (key _ _ h3 f3).1, (key _ _ h4 f4).1, (key _ _ h5 f5).1⟩, (key _ _ h1 f1).2, (key _ _ h2 f2).2, (key _ _ h3 f3).2, (key _ _ h4 f4).2, (key _ _ h5 f5).2⟩
theorem cellOne {w : World} {b : Nat} {v : Value} {t : TypeId} (h : w.heap[b]? = some (.cells #[v] t (0, 0))) : w.cell? ⟨b, 0, none⟩ = some v := by simp [World.cell?, h]
theorem cellFour {w : World} {b : Nat} {v0 v1 v2 v3 : Value} {t : TypeId} (h : w.heap[b]? = some (.cells #[v0, v1, v2, v3] t (0, 0))) : w.cell? ⟨b, 0, none⟩ = some v0 ∧ w.cell? ⟨b, 1, none⟩ = some v1 ∧ w.cell? ⟨b, 2, none⟩ = some v2 ∧ w.cell? ⟨b, 3, none⟩ = some v3 := by simp [World.cell?, h]
theorem save1_any (g : Nat) (P : Nat → Prop) (D : DSt) (bd bs : Nat) (sp : ByteArray) (w : World) (h : DiskAt w g P D) (hs : sp.size ≤ maxLen) (c1 : w.cell? ⟨bd, 0, none⟩ = some (ptr g)) (c2 : w.cell? ⟨bs, 0, none⟩ = some (.string sp)) :
    Calls Tryd.prog 59 #[.pointer (some ⟨bd, 0, none⟩), .pointer (some ⟨bs, 0, none⟩)] w fun e w' => ∃ P', e = .returned (.int .i64 (rmD D sp.data.toList).1) ∧ DiskAt w' g P' (rmD D sp.data.toList).2 ∧ Step P P' w w' := by
  have HR := Lib.hid (rm_any g P D sp w h hs)
  clear h
  go_enter Tryd.func59, Tryd.ntmps59
  go_wp2_with fail
  refine HR.out.mono ?_; rintro e w1 ⟨P1, rfl, hD1, hS1⟩
  go_wp2_with fail
  go_ret
  first | exact ⟨P1, rfl, hD1, hS1⟩ | exact ⟨rfl, P1, hD1, hS1⟩
theorem save1_nil (bd bs : Nat) (sp : ByteArray) (w : World) (c1 : w.cell? ⟨bd, 0, none⟩ = some (.pointer none)) (c2 : w.cell? ⟨bs, 0, none⟩ = some (.string sp)) :
    Calls Tryd.prog 59 #[.pointer (some ⟨bd, 0, none⟩), .pointer (some ⟨bs, 0, none⟩)] w fun e w' => e = .returned (.int .i64 2) ∧ Below w.heap.size w w' := by
  have HR := Lib.hid (rm_nil sp w)
  go_enter Tryd.func59, Tryd.ntmps59
  go_wp2_with fail
  refine HR.out.mono ?_; rintro e w1 ⟨rfl, hb1⟩
  go_wp2_with fail
  go_ret
  exact ⟨rfl, hb1⟩
theorem save3_any (g : Nat) (P : Nat → Prop) (D : DSt) (bd bs : Nat) (sp : ByteArray) (w : World) (h : DiskAt w g P D) (hs : sp.size ≤ maxLen) (hn : D.fs.length ≤ 1000000) (c1 : w.cell? ⟨bd, 0, none⟩ = some (ptr g)) (c2 : w.cell? ⟨bs, 0, none⟩ = some (.string sp)) :
    Calls Tryd.prog 63 #[.pointer (some ⟨bd, 0, none⟩), .pointer (some ⟨bs, 0, none⟩)] w fun e w' => ∃ P', e = .returned (.int .i64 (syncD D sp.data.toList).1) ∧ DiskAt w' g P' (syncD D sp.data.toList).2 ∧ Step P P' w w' := by
  have HR := Lib.hid (sync_any g P D sp w h hs hn)
  clear h
  go_enter Tryd.func63, Tryd.ntmps63
  go_wp2_with fail
  refine HR.out.mono ?_; rintro e w1 ⟨P1, rfl, hD1, hS1⟩
  go_wp2_with fail
  go_ret
  first | exact ⟨P1, rfl, hD1, hS1⟩ | exact ⟨rfl, P1, hD1, hS1⟩
theorem save4_any (g : Nat) (P : Nat → Prop) (D : DSt) (bd bs bn : Nat) (sp nm : ByteArray) (w : World) (h : DiskAt w g P D) (hs : sp.size ≤ maxLen) (hs2 : nm.size ≤ maxLen) (hn : D.fs.length ≤ 1000000) (c1 : w.cell? ⟨bd, 0, none⟩ = some (ptr g)) (c2 : w.cell? ⟨bs, 0, none⟩ = some (.string sp)) (c3 : w.cell? ⟨bn, 0, none⟩ = some (.string nm)) :
    Calls Tryd.prog 65 #[.pointer (some ⟨bd, 0, none⟩), .pointer (some ⟨bs, 0, none⟩), .pointer (some ⟨bn, 0, none⟩)] w fun e w' => ∃ P', e = .returned (.int .i64 (renameD D sp.data.toList nm.data.toList).1) ∧ DiskAt w' g P' (renameD D sp.data.toList nm.data.toList).2 ∧ Step P P' w w' := by
  have HR := Lib.hid (rename_any g P D sp nm w h hs hs2 hn)
  clear h
  go_enter Tryd.func65, Tryd.ntmps65
  go_wp2_with fail
  refine HR.out.mono ?_; rintro e w1 ⟨P1, rfl, hD1, hS1⟩
  go_wp2_with fail
  go_ret
  first | exact ⟨P1, rfl, hD1, hS1⟩ | exact ⟨rfl, P1, hD1, hS1⟩
set_option linter.unusedSimpArgs false in
set_option maxRecDepth 100000 in
set_option maxHeartbeats 2000000 in
theorem save2_any (g : Nat) (P : Nat → Prop) (D : DSt) (bd bs bb : Nat) (sp : ByteArray) (v : Value) (xs : List Int) (w : World) (h : DiskAt w g P D) (hs : sp.size ≤ maxLen) (hs0 : sp.data.toList ≠ []) (hn : D.fs.length ≤ 1000000) (hb : ((getE D.fs sp.data.toList).getD ([], 0)).1.length ≤ 1000000)
    (hsee : Sees w v xs) (hok : okB xs) (hxl : xs.length ≤ 1000000) (hE : Env w) (c1 : w.cell? ⟨bd, 0, none⟩ = some (ptr g)) (c2 : w.cell? ⟨bs, 0, none⟩ = some (.string sp)) (c3 : w.cell? ⟨bb, 0, none⟩ = some v) (hPd : ¬ P bd) (hPs : ¬ P bs) (hPb : ¬ P bb) :
    Calls Tryd.prog 61 #[.pointer (some ⟨bd, 0, none⟩), .pointer (some ⟨bs, 0, none⟩), .pointer (some ⟨bb, 0, none⟩)] w fun e w' => ∃ P', e = .returned (.int .i64 (appD D sp.data.toList (sealL xs)).1) ∧ DiskAt w' g P' (appD D sp.data.toList (sealL xs)).2 ∧ Step P P' w w' := by
  have HSL := Lib.hid (seal_any v xs w.drew (hsee.keep (belDrew w)) hok (by omega) (hE.below (belDrew w)))
  have HH := Lib.hid h
  have hll : (sealL xs).length = xs.length + 4 := by unfold sealL; rw [List.length_append]; rfl
  have HSK : Hid (okB (sealL xs)) := Lib.hid (okB_append hok (okB_leB (ofN_lt hok)))
  have HAP : Hid (∀ (src : Value) (W : World), DiskAt W g P D → Sees W src (sealL xs) → (∀ d, src.ownBlock = some d → d ≠ g) → Calls Tryd.prog 26 #[ptr g, .string sp, src] W fun e w' => ∃ P', e = .returned (.int .i64 (appD D sp.data.toList (sealL xs)).1) ∧ DiskAt w' g P' (appD D sp.data.toList (sealL xs)).2 ∧ Step P P' W w') :=
    Lib.hid (fun src W k1 k2 k3 => append_any g P D sp src (sealL xs) W k1 hs hs0 hn (by omega) k2 HSK.out (fun _ => k3))
  have hgl : g < w.heap.size := h.lt h.self
  obtain ⟨ea, hea⟩ : ∃ ea, ea = (appD D sp.data.toList (sealL xs)).1 := ⟨_, rfl⟩
  obtain ⟨DA, hDA⟩ : ∃ DA, DA = (appD D sp.data.toList (sealL xs)).2 := ⟨_, rfl⟩
  rw [← hea, ← hDA] at HAP ⊢
  clear h hsee hok hll hea hDA hE
  go_enter Tryd.func61, Tryd.ntmps61
  go_wp2_with fail
  refine wp_region_held_drew (S := (fun W => W.cell? ⟨bd, 0, none⟩ = some (ptr g) ∧ W.cell? ⟨bs, 0, none⟩ = some (.string sp) ∧ W.cell? ⟨bb, 0, none⟩ = some v)) (by kernel_rfl) ?_ (fun r0 => ?_)
  · exact ⟨c1, c2, c3⟩
  refine wpAnyH_take (i := 0) (v := ?_) rfl (by kernel_rfl) (by kernel_rfl) (by kernel_rfl) (fun _ _ _ h => h) (Or.inl ⟨by rfl, ?_⟩) (by assumption) ?_
  rotate_left
  · intro w hSw
    (try dsimp only at hSw)
    go_simp
    first | done | with_reducible rfl
  try simp only [Act.put, List.getElem_toArray, List.getElem_cons_succ, List.getElem_cons_zero, List.setIfInBounds_toArray, List.set_cons_zero, List.set_cons_succ]
  refine wpAnyH_take (i := 1) (v := ?_) rfl (by kernel_rfl) (by kernel_rfl) (by kernel_rfl) (fun _ _ _ h => h) (Or.inl ⟨by rfl, ?_⟩) (by assumption) ?_
  rotate_left
  · intro w hSw
    (try dsimp only at hSw)
    go_simp
    first | done | with_reducible rfl
  try simp only [Act.put, List.getElem_toArray, List.getElem_cons_succ, List.getElem_cons_zero, List.setIfInBounds_toArray, List.set_cons_zero, List.set_cons_succ]
  refine wpAnyH_take (i := 2) (v := ?_) rfl (by kernel_rfl) (by kernel_rfl) (by kernel_rfl) (fun _ _ _ h => h) (Or.inl ⟨by rfl, ?_⟩) (by assumption) ?_
  rotate_left
  · intro w hSw
    (try dsimp only at hSw)
    go_simp
    first | done | with_reducible rfl
  try simp only [Act.put, List.getElem_toArray, List.getElem_cons_succ, List.getElem_cons_zero, List.setIfInBounds_toArray, List.set_cons_zero, List.set_cons_succ]
  refine wpAnyH_ready (rs := [3]) (by kernel_rfl) (by simp) ?_
  refine AllReadyH.cons rfl (fun K hK => ?_) AllReadyH.nil
  go_simp
  refine HSL.out.mono ?_; rintro e w1 ⟨v1, rfl, ho1, hb1⟩
  have hb01 : Below w.heap.size w w1 := bel (belDrew w) hb1
  refine hK.out _ _ ?_ (fun r1 => ?_)
  · exact ⟨(hb01.cell (cell_lt8 c1)).trans c1, (hb01.cell (cell_lt8 c2)).trans c2, (hb01.cell (cell_lt8 c3)).trans c3⟩
  try simp only [Act.put, List.getElem_toArray, List.getElem_cons_succ, List.getElem_cons_zero, List.setIfInBounds_toArray, List.set_cons_zero, List.set_cons_succ]
  refine wpAnyH_ready (rs := [4]) (by kernel_rfl) (by simp) ?_
  refine AllReadyH.cons rfl (fun K hK => ?_) AllReadyH.nil
  go_simp
  have hkeep2 : ∀ w2 : World, ∀ P2, Step P P2 w1 w2 → w2.cell? ⟨bd, 0, none⟩ = some (ptr g) ∧ w2.cell? ⟨bs, 0, none⟩ = some (.string sp) ∧ w2.cell? ⟨bb, 0, none⟩ = some v := fun w2 P2 hS => by
    have key : ∀ b x, w1.cell? ⟨b, 0, none⟩ = some x → ¬ P b → w2.cell? ⟨b, 0, none⟩ = some x := fun b x hx hp => (World.cell?_of_block (hS.1.2.2.2.2 b (cell_lt8 hx) hp)).trans hx
    exact ⟨key _ _ r1.1 hPd, key _ _ r1.2.1 hPs, key _ _ r1.2.2 hPb⟩
  refine (HAP.out v1 w1 (HH.out.below hb01) ho1.sees (fun d hd e => by have h1 := (World.ownsRow.lt ho1 d hd).1; have h2 := (belDrew w).size; omega)).mono ?_; rintro e w2 ⟨P2, rfl, hD2, hS2⟩
  refine hK.out _ _ ?_ (fun r2 => ?_)
  · exact hkeep2 w2 P2 hS2
  try simp only [Act.put, List.getElem_toArray, List.getElem_cons_succ, List.getElem_cons_zero, List.setIfInBounds_toArray, List.set_cons_zero, List.set_cons_succ]
  refine wpAnyH_take (i := 5) (v := ?_) rfl (by kernel_rfl) (by kernel_rfl) (by kernel_rfl) (fun _ _ _ h => h) (Or.inl ⟨by rfl, ?_⟩) (by assumption) ?_
  rotate_left
  · intro w hSw
    (try dsimp only at hSw)
    go_simp
    first | done | with_reducible rfl
  try simp only [Act.put, List.getElem_toArray, List.getElem_cons_succ, List.getElem_cons_zero, List.setIfInBounds_toArray, List.set_cons_zero, List.set_cons_succ]
  refine wpAnyH_done (by kernel_rfl) ?_ _
  go_wp2_with fail
  go_ret
  first | exact ⟨P2, rfl, hD2, Step.below hb01 hS2⟩ | exact ⟨rfl, P2, hD2, Step.below hb01 hS2⟩
/-- What Save does behind its look at the name. -/
def stepsD (D : DSt) (nm sp : List UInt8) (xs : List Int) : Int × DSt :=
  if (rmD D sp).1 = 0 then
    if (appD (rmD D sp).2 sp (sealL xs)).1 = 0 then
      if (syncD (appD (rmD D sp).2 sp (sealL xs)).2 sp).1 = 0 then renameD (syncD (appD (rmD D sp).2 sp (sealL xs)).2 sp).2 sp nm
      else syncD (appD (rmD D sp).2 sp (sealL xs)).2 sp
    else appD (rmD D sp).2 sp (sealL xs)
  else rmD D sp
theorem rmD_len (D : DSt) (k : List UInt8) : (rmD D k).2.fs.length ≤ D.fs.length := by
  have h : (removeD D k).2.fs.length ≤ D.fs.length := by
    unfold removeD
    split
    · exact Nat.le_refl _
    · split
      · exact Nat.le_refl _
      · exact List.length_filter_le _ _
  unfold rmD
  split
  · exact h
  · exact h
theorem getE_del {β : Type} (k k2 : List UInt8) (l : List (List UInt8 × β)) {u : β} (h : getE (delE k2 l) k = some u) : getE l k = some u := by
  induction l with
  | nil => exact absurd h (by simp [getE, delE])
  | cons a l ih =>
    unfold delE at h ih
    by_cases hk : a.1 = k2
    · rw [List.filter_cons_of_neg (by simp [hk])] at h
      by_cases hk2 : a.1 = k
      · exfalso
        have h1 := getE_mem h
        have h2 := (List.mem_filter.1 h1).2
        simp only [Bool.not_eq_true', beq_eq_false_iff_ne] at h2
        exact h2 (hk2.symm.trans hk)
      · have := ih h
        unfold getE at this ⊢
        rw [List.find?_cons, show (a.1 == k) = false from by simpa using hk2]
        exact this
    · rw [List.filter_cons_of_pos (by simp [hk])] at h
      unfold getE at h ih ⊢
      rw [List.find?_cons] at h ⊢
      cases hc : (a.1 == k) with
      | true => rw [hc] at h; exact h
      | false => rw [hc] at h; exact ih h
theorem rmD_get (D : DSt) (k : List UInt8) : ((getE (rmD D k).2.fs k).getD ([], 0)).1.length ≤ ((getE D.fs k).getD ([], 0)).1.length := by
  have h : ((getE (removeD D k).2.fs k).getD ([], 0)).1.length ≤ ((getE D.fs k).getD ([], 0)).1.length := by
    unfold removeD
    split
    · exact Nat.le_refl _
    · split
      · exact Nat.le_refl _
      · show ((getE (delE k D.fs) k).getD ([], 0)).1.length ≤ _
        cases hg : getE (delE k D.fs) k with
        | none => exact Nat.zero_le _
        | some u => rw [getE_del k k _ hg]; exact Nat.le_refl _
  unfold rmD
  split
  · exact h
  · exact h
theorem syncD_len (D : DSt) (k : List UInt8) : (syncD D k).2.fs.length ≤ D.fs.length + 1 := by
  unfold syncD
  split
  · exact Nat.le_succ _
  · split
    · exact Nat.le_succ _
    · exact putE_length _ _ _
end Go.Proofs.YtkjdfelmjanpcaaDoor
