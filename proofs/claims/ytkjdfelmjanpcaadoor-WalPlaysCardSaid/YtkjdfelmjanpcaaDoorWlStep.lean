/- virgatelaw07's both.step: one call, of both logs and disks: they answer alike. Conditions: the world facts of Env. -/
import Derived.Test.YtkjdfelmjanpcaaDoorWlBoth
import Derived.Test.YtkjdfelmjanpcaaDoorWlSure
namespace Go.Proofs.YtkjdfelmjanpcaaDoor
open Go.RowKit Go.Maps
/-- Both disks and both logs, the program's over D, the document's over E. -/
def WX (B : Nat) (w : World) (bb g : Nat) (P : Nat → Prop) (r : Nat) (Q : Nat → Prop) (l m : Nat) (D E : DSt) (s1 : Nat) (d1 : Bool) (s2 : Nat) (d2 : Bool) : Prop :=
  Pair B w g P D r Q E ∧ w.heap[bb]? = some (.cells #[ptr g, ptr l, ptr r, ptr m] 30 (0, 0)) ∧ ¬ P bb ∧ ¬ Q bb ∧ B ≤ bb ∧ LogIs 83 w l g nW s1 d1 ∧ LogIs 39 w m r nW s2 d2 ∧
  ¬ P l ∧ ¬ Q l ∧ ¬ P m ∧ ¬ Q m ∧ l ≠ m ∧ l ≠ bb ∧ m ≠ bb ∧ B ≤ l ∧ B ≤ m
section
variable {B : Nat} {w w' : World} {bb g : Nat} {P P' : Nat → Prop} {r : Nat} {Q Q' : Nat → Prop} {l m : Nat} {D E D' : DSt} {s1 : Nat} {d1 : Bool} {s2 : Nat} {d2 : Bool} {s3 : Nat} {d3 : Bool}
theorem WX.below (h : WX B w bb g P r Q l m D E s1 d1 s2 d2) (hb : Below w.heap.size w w') : WX B w' bb g P r Q l m D E s1 d1 s2 d2 := by
  obtain ⟨h1, h2, h3, h4, h5, h6, h7, hr⟩ := h
  exact ⟨h1.below hb, (hb.block bb (heap_lt h2)).trans h2, h3, h4, h5, h6.below hb, LogIs.below h7 hb, hr⟩
theorem WX.callP (h : WX B w bb g P r Q l m D E s1 d1 s2 d2) (hd : DiskAt w' g P' D') (hl : LogIs 83 w' l g nW s3 d3) (hS : StepL P P' l w w') : WX B w' bb g P' r Q l m D' E s3 d3 s2 d2 ∧ Below B w w' ∧ (∀ i, i < w.heap.size → ¬ P i → i ≠ l → w'.heap[i]? = w.heap[i]?) := by
  obtain ⟨h1, h2, h3, h4, h5, h6, h7, hPl, hQl, hPm, hQm, hlm, hlb, hmb, hBl, hBm⟩ := h
  have hz := h1.size
  obtain ⟨a1, a2, a3, a4, a5⟩ := h1
  obtain ⟨q1, q2⟩ := hS.ge a4 hBl hz
  have hk : ∀ i, i < w.heap.size → ¬ P i → i ≠ l → w'.heap[i]? = w.heap[i]? := fun i hi hp hl => hS.1.2.2.2.2 i hi (fun h => h.elim hp hl)
  have np : ∀ i, i < w.heap.size → ¬ P i → ¬ P' i := fun i hi hp hp' => (hS.2 i hp').elim hp (fun h => by omega)
  have hbl := heap_lt h2
  have hml := heap_lt h7
  have hll := heap_lt h6
  exact ⟨⟨⟨hd, a2.keep hS.1 (fun i hq hp => hp.elim (fun hp => a3 i hp hq) (fun e => hQl (by rw [← e]; exact hq))), fun i hi hq => (hS.2 i hi).elim (fun hp => a3 i hp hq) (fun h => by have := a2.lt hq; omega), q1, a5⟩,
    (hk bb hbl h3 (fun e => hlb e.symm)).trans h2, np bb hbl h3, h4, h5, hl, (hk m hml hPm (fun e => hlm e.symm)).trans h7, np l hll hPl, hQl, np m hml hPm, hQm, hlm, hlb, hmb, hBl, hBm⟩, q2, hk⟩
theorem WX.callQ (h : WX B w bb g P r Q l m D E s1 d1 s2 d2) (hd : RefAt w' r Q' D') (hl : LogIs 39 w' m r nW s3 d3) (hS : StepL Q Q' m w w') : WX B w' bb g P r Q' l m D D' s1 d1 s3 d3 ∧ Below B w w' ∧ (∀ i, i < w.heap.size → ¬ Q i → i ≠ m → w'.heap[i]? = w.heap[i]?) := by
  obtain ⟨h1, h2, h3, h4, h5, h6, h7, hPl, hQl, hPm, hQm, hlm, hlb, hmb, hBl, hBm⟩ := h
  have hz := h1.size
  obtain ⟨a1, a2, a3, a4, a5⟩ := h1
  obtain ⟨q1, q2⟩ := hS.ge a5 hBm hz
  have hk : ∀ i, i < w.heap.size → ¬ Q i → i ≠ m → w'.heap[i]? = w.heap[i]? := fun i hi hp hl => hS.1.2.2.2.2 i hi (fun h => h.elim hp hl)
  have nq : ∀ i, i < w.heap.size → ¬ Q i → ¬ Q' i := fun i hi hp hp' => (hS.2 i hp').elim hp (fun h => by omega)
  have hbl := heap_lt h2
  have hml := heap_lt h7
  have hll := heap_lt h6
  exact ⟨⟨⟨a1.keep hS.1 (fun i hp hq => hq.elim (fun hq => a3 i hp hq) (fun e => hPm (by rw [← e]; exact hp))), hd, fun i hp hi => (hS.2 i hi).elim (fun hq => a3 i hp hq) (fun h => by have := a1.lt hp; omega), a4, q1⟩,
    (hk bb hbl h4 (fun e => hmb e.symm)).trans h2, h3, nq bb hbl h4, h5, (hk l hll hQl hlm).trans h6, hl, hPl, nq l hll hQl, hPm, nq m hml hQm, hlm, hlb, hmb, hBl, hBm⟩, q2, hk⟩
end
theorem Sees.ltB {w : World} {v : Value} {xs : List Int} (h : Sees w v xs) (hne : xs ≠ []) {d : Nat} (hd : v.ownBlock = some d) : d < w.heap.size := by
  obtain ⟨ao, c, rfl, _, _, hc⟩ := h
  cases ao with
  | none => cases hd
  | some b0 =>
    have := cell_lt8 (hc b0 rfl 0 (List.length_pos_iff.2 hne))
    rw [add_block] at this
    cases hd
    exact this
theorem Sees.over' {w a b : World} {B : Nat} {v : Value} {xs : List Int} (h : Sees a v xs) (ha : Below B w a) (hb : Below B w b) (hv : ∀ d, v.ownBlock = some d → xs ≠ [] → d < B) : Sees b v xs := by
  by_cases hx : xs = []
  · subst hx
    obtain ⟨ao, c, e, h2, h3, _⟩ := h
    exact ⟨ao, c, e, h2, h3, fun a _ i hi => absurd hi (by simp)⟩
  · exact h.over ha hb (fun d hd => hv d hd hx)
theorem held7 {W : World} {bb g l r m bx : Nat} {k n : Int} {pv kvv pvv : Value} {t : List Int} {T T2 : TypeId} (h1 : W.heap[bb]? = some (.cells #[ptr g, ptr l, ptr r, ptr m] T (0, 0))) (h2 : W.heap[bx]? = some (.cells #[.int .i64 k, pv, .int .i64 n, kvv] T2 (0, 0))) (h3 : Sees W pvv t) :
    W.cell? ⟨bb, 0, none⟩ = some (ptr g) ∧ W.cell? ⟨bb, 1, none⟩ = some (ptr l) ∧ W.cell? ⟨bb, 2, none⟩ = some (ptr r) ∧ W.cell? ⟨bb, 3, none⟩ = some (ptr m) ∧ W.cell? ⟨bx, 2, none⟩ = some (.int .i64 n) ∧ W.cell? ⟨bx, 3, none⟩ = some kvv ∧ Sees W pvv t := by
  obtain ⟨a0, a1, a2, a3⟩ := lcells h1
  obtain ⟨b0, b1, b2, b3⟩ := lcells h2
  exact ⟨a0, a1, a2, a3, b2, b3, h3⟩
theorem walA_small {S : WSt} {c : Nat} {k : List UInt8} {p : List Int} (hs : SmallF c S.D.fs) (hsz : S.size ≤ 50 * c) (hk : k.length ≤ maxLen) (hp : p.length ≤ 40) : SmallF (c + 3) (walA S k p).2.D.fs ∧ (walA S k p).2.size ≤ 50 * (c + 3) := by
  have hw : SmallF (c + 2) (writeL S.D k (frameL p)).2.fs := by
    unfold writeL
    have h1 := hs.app hk (t := frameL p) (by rw [frameL_len]; omega)
    split
    · exact h1.sync k
    · exact h1.mono (by omega)
  unfold walA
  split
  · exact ⟨hs.mono (by omega), by simp only []; omega⟩
  · split
    · exact ⟨hs.mono (by omega), by simp only []; omega⟩
    · split
      · exact ⟨hw.mono (by omega), by simp only []; omega⟩
      · exact ⟨hw.mono (by omega), by simp only []; omega⟩
theorem walC_small {S : WSt} {c : Nat} {k : List UInt8} (hs : SmallF c S.D.fs) : SmallF (c + 3) (walC S k).2.D.fs ∧ (walC S k).2.size ≤ 50 * (c + 3) ∨ (walC S k).2 = S := by
  unfold walC
  split
  · exact Or.inr rfl
  · left
    split
    · exact ⟨(hs.cut k 0).mono (by omega), Nat.zero_le _⟩
    · exact ⟨(hs.cut k 0).mono (by omega), Nat.zero_le _⟩
/-- What a step leaves. -/
def StepPost (B bb g r c : Nat) (w : World) (e : Ending) (w' : World) : Prop :=
  ∃ (P' Q' : Nat → Prop) (l' m' : Nat) (S' : WSt), e = .returned (.bool true) ∧ WX B w' bb g P' r Q' l' m' S'.D S'.D S'.size S'.dead S'.size S'.dead ∧ SmallF (c + 3) S'.D.fs ∧ S'.size ≤ 50 * (c + 3) ∧ Below B w w'
/-- What both.open leaves is what a step leaves. -/
theorem step_open {B bb g r c : Nat} {P Q : Nat → Prop} {l m : Nat} {S : WSt} {w w1 : World} {e : Ending} {w' : World} {D : DSt} {k : Nat} (hx : WX B w1 bb g P r Q l m D D S.size S.dead S.size S.dead) (hb : Below B w w1) (hk : k ≤ c + 2) (hsz : S.size ≤ 50 * c)
    (h : OpenBoth B w1 bb g P r Q D k (ptr l) (ptr m) e w') : StepPost B bb g r c w e w' := by
  obtain ⟨P', Q', D', he, hs, hbe, hT, hP', hQ', hh⟩ := h
  rcases hh with ⟨hB, -⟩ | ⟨l', m', n, hB, hl, hm, h1, h2, h3, h4, h5, h6, h7, h8, h9, h10⟩
  · obtain ⟨a1, a2, a3, a4, a5⟩ := hB
    obtain ⟨-, -, b3, b4, -, hl, hm, hPl, hQl, hPm, hQm, hlm, hlb, hmb, hBl, hBm⟩ := hx
    have hll := heap_lt hl
    have hml := heap_lt hm
    refine ⟨P', Q', l, m, ⟨D', S.size, S.dead⟩, he, ⟨a1, a2, a3, a4, a5, (hT.2.2.2.2 l hll (fun h => h.elim hPl (fun h => h.elim hQl hlb))).trans hl, (hT.2.2.2.2 m hml (fun h => h.elim hPm (fun h => h.elim hQm hmb))).trans hm, ?_, ?_, ?_, ?_, hlm, hlb, hmb, hBl, hBm⟩, hs.mono (by omega), by simp only []; omega, hb.trans hbe⟩
    · exact fun hp => (hP' l hp).elim hPl (fun h => by omega)
    · exact fun hp => (hQ' l hp).elim hQl (fun h => by omega)
    · exact fun hp => (hP' m hp).elim hPm (fun h => by omega)
    · exact fun hp => (hQ' m hp).elim hQm (fun h => by omega)
  · obtain ⟨a1, a2, a3, a4, a5⟩ := hB
    refine ⟨P', Q', l', m', ⟨D', n, false⟩, he, ⟨a1, a2, a3, a4, a5, hl, hm, h1, h2, h3, h4, h5, h6, h7, h8, h9⟩, hs.mono (by omega), ?_, hb.trans hbe⟩
    show n ≤ 50 * (c + 3)
    omega
set_option linter.unusedVariables false in
set_option linter.unusedSimpArgs false in
set_option maxRecDepth 100000 in
set_option maxHeartbeats 16000000 in
theorem wstep_any (bb g : Nat) (P : Nat → Prop) (r : Nat) (Q : Nat → Prop) (l m : Nat) (S : WSt) (c : Nat) (k : Int) (pv : Value) (ps : List Int) (n : Int) (kv : Value) (ks : List Int) (w0 w : World) (h : WX w0.heap.size w bb g P r Q l m S.D S.D S.size S.dead S.size S.dead) (hs : SmallF c S.D.fs) (hsz : S.size ≤ 50 * c) (hc : c ≤ 150)
    (hn : -9223372036854775808 ≤ n ∧ n ≤ 9223372036854775807) (hp : Sees w0 pv ps) (hpo : okB ps) (hk : SeesU w0 kv ks) (hkb : ∀ x ∈ ks, 0 ≤ x ∧ x < 65536) (hE : Env w0) (hbw : Below w0.heap.size w0 w) :
    Calls Tryd.prog 13 #[ptr bb, .agg #[.int .i64 k, pv, .int .i64 n, kv]] w (StepPost w0.heap.size bb g r c w) := by
  have hkB : ks ≠ [] → ∀ d, kv.ownBlock = some d → d < w0.heap.size := fun h0 d hd => by
    obtain ⟨ko', kc', e1, _, _, e2⟩ := hk
    subst e1
    cases ko' with
    | none => cases hd
    | some ka =>
      have h2 := cell_lt8 (e2 ka rfl 0 (List.length_pos_iff.2 h0))
      rw [add_block] at h2
      cases hd
      omega
  obtain ⟨ko, kc, rfl, -⟩ := id hk
  obtain ⟨po, pc, rfl, -⟩ := id hp
  have HKS := Lib.hid (And.intro hk (And.intro hkb hkB))
  have HN := Lib.hid hn
  have HSm := Lib.hid hs
  have HX0 := Lib.hid h
  have HP0 := Lib.hid hp
  have hTo := hpo.take 40
  have hTl : (ps.take 40).length ≤ 40 := by rw [List.length_take]; omega
  have HTN : Hid (ps.take 40 ≠ [] → ps ≠ []) := Lib.hid (by rintro h rfl; exact h List.take_nil)
  obtain ⟨wx, hwx⟩ : ∃ wx, wx = w.alloc (.cells #[.int .i64 k, .slice po ps.length pc, .int .i64 n, .slice ko ks.length kc] 35) := ⟨_, rfl⟩
  have hbA : Below w.heap.size w wx := by rw [hwx]; exact belNew w _
  obtain ⟨bx, hbx0⟩ : ∃ bx, bx = w.heap.size := ⟨_, rfl⟩
  have hbx : wx.heap[bx]? = some (.cells #[.int .i64 k, .slice po ps.length pc, .int .i64 n, .slice ko ks.length kc] 35 (0, 0)) := by rw [hwx, hbx0]; exact heap_alloc_new w _
  have HX := Lib.hid (h.below hbA)
  have HBx : Hid (Below w0.heap.size w wx) := Lib.hid (hbA.mono h.1.size)
  have HBW : Hid (Below w0.heap.size w0 wx) := Lib.hid (hbw.trans (hbA.mono hbw.size))
  have hPx : ¬ P bx := fun hp => by have := h.1.1.lt hp; omega
  have hQx : ¬ Q bx := fun hp => by have := h.1.2.1.lt hp; omega
  have hlx : bx ≠ l := by have := heap_lt h.2.2.2.2.2.1; omega
  have hmx : bx ≠ m := by have := heap_lt h.2.2.2.2.2.2.1; omega
  have HEd : Hid (Env wx.drew) := Lib.hid (hE.below (HBW.out.trans ((belDrew wx).mono HBW.out.size)))
  obtain ⟨x0, x1, x2, x3⟩ := lcells hbx
  have HCUT := Lib.hid (cut7_any (.slice po ps.length pc) ps wx (hp.keep HBW.out))
  have HWX := Lib.hid hwx
  have HBX0 := Lib.hid hbx0
  rw [hbx0, hwx] at x0 x1 x2 x3
  clear h hs hp hpo hk hkb hkB hn hwx hbA
  go_enter Tryd.func13, Tryd.ntmps13
  go_wp2_with fail
  rw [← HWX.out]
  refine HCUT.out.mono ?_; rintro e w' ⟨to, tc, rfl, hse, htd, rfl⟩
  rw [← HBX0.out]
  have HTB0 : ∀ d, (Value.slice to (ps.take 40).length tc).ownBlock = some d → ps.take 40 ≠ [] → d < w0.heap.size := fun d hd hne => HP0.out.ltB (HTN.out hne) (htd d hd)
  obtain ⟨t, ht⟩ : ∃ t, t = ps.take 40 := ⟨_, rfl⟩
  rw [← ht] at hse hTo hTl htd HTB0 ⊢
  have HTO := Lib.hid hTo
  have HTl := Lib.hid hTl
  obtain ⟨x0, x1, x2, x3⟩ := lcells hbx
  clear ht hTo htd hbx0
  by_cases hk0 : k = 0
  · subst hk0
    go_wp2_with fail
    refine wp_region_held_drew (S := (fun W => W.cell? ⟨bb, 0, none⟩ = some (ptr g) ∧ W.cell? ⟨bb, 1, none⟩ = some (ptr l) ∧ W.cell? ⟨bb, 2, none⟩ = some (ptr r) ∧ W.cell? ⟨bb, 3, none⟩ = some (ptr m) ∧ W.cell? ⟨bx, 2, none⟩ = some (.int .i64 n) ∧ W.cell? ⟨bx, 3, none⟩ = some (.slice ko ks.length kc) ∧ Sees W (.slice to t.length tc) t)) (by kernel_rfl) ?_ (fun r0 => ?_)
    · exact held7 HX.out.2.1 hbx hse
    refine wpAnyH_take (i := 0) (v := ?_) rfl (by kernel_rfl) (by kernel_rfl) (by kernel_rfl) (fun _ _ _ h => h) (Or.inl ⟨by rfl, ?_⟩) (by assumption) ?_
    rotate_left
    · intro w hSw
      (try dsimp only at hSw)
      go_simp
      first | done | with_reducible rfl
    try simp only [Act.put, List.getElem_toArray, List.getElem_cons_succ, List.getElem_cons_zero, List.setIfInBounds_toArray, List.set_cons_zero, List.set_cons_succ]
    refine wpAnyH_take (i := 1) (v := ?_) rfl (by kernel_rfl) (by kernel_rfl) (by kernel_rfl) (fun _ _ _ h => h) (Or.inl ⟨by rfl, ?_⟩) (by assumption) ?_
    rotate_left
    · intro w hSw
      (try dsimp only at hSw)
      go_simp
      first | done | with_reducible rfl
    try simp only [Act.put, List.getElem_toArray, List.getElem_cons_succ, List.getElem_cons_zero, List.setIfInBounds_toArray, List.set_cons_zero, List.set_cons_succ]
    refine wpAnyH_take (i := 2) (v := ?_) rfl (by kernel_rfl) (by kernel_rfl) (by kernel_rfl) (fun _ _ _ h => h) (Or.inl ⟨by rfl, ?_⟩) (by assumption) ?_
    rotate_left
    · intro w hSw
      (try dsimp only at hSw)
      go_simp
      first | done | with_reducible rfl
    try simp only [Act.put, List.getElem_toArray, List.getElem_cons_succ, List.getElem_cons_zero, List.setIfInBounds_toArray, List.set_cons_zero, List.set_cons_succ]
    refine wpAnyH_take (i := 3) (v := ?_) rfl (by kernel_rfl) (by kernel_rfl) (by kernel_rfl) (fun _ _ _ h => h) (Or.inl ⟨by rfl, ?_⟩) (by assumption) ?_
    rotate_left
    · intro w hSw
      (try dsimp only at hSw)
      go_simp
      first | done | with_reducible rfl
    try simp only [Act.put, List.getElem_toArray, List.getElem_cons_succ, List.getElem_cons_zero, List.setIfInBounds_toArray, List.set_cons_zero, List.set_cons_succ]
    refine wpAnyH_take (i := 4) (v := ?_) rfl (by kernel_rfl) (by kernel_rfl) (by kernel_rfl) (fun _ _ _ h => h) (Or.inl ⟨by rfl, ?_⟩) (by assumption) ?_
    rotate_left
    · intro w hSw
      (try dsimp only at hSw)
      go_simp
      first | done | with_reducible rfl
    try simp only [Act.put, List.getElem_toArray, List.getElem_cons_succ, List.getElem_cons_zero, List.setIfInBounds_toArray, List.set_cons_zero, List.set_cons_succ]
    refine wpAnyH_take (i := 6) (v := ?_) rfl (by kernel_rfl) (by kernel_rfl) (by kernel_rfl) (fun _ _ _ h => h) (Or.inl ⟨by rfl, ?_⟩) (by assumption) ?_
    rotate_left
    · intro w hSw
      (try dsimp only at hSw)
      go_simp
      first | done | with_reducible rfl
    try simp only [Act.put, List.getElem_toArray, List.getElem_cons_succ, List.getElem_cons_zero, List.setIfInBounds_toArray, List.set_cons_zero, List.set_cons_succ]
    refine wpAnyH_take (i := 7) (v := ?_) rfl (by kernel_rfl) (by kernel_rfl) (by kernel_rfl) (fun _ _ _ h => h) (Or.inl ⟨by rfl, ?_⟩) (by assumption) ?_
    rotate_left
    · intro w hSw
      (try dsimp only at hSw)
      go_simp
      first | done | with_reducible rfl
    try simp only [Act.put, List.getElem_toArray, List.getElem_cons_succ, List.getElem_cons_zero, List.setIfInBounds_toArray, List.set_cons_zero, List.set_cons_succ]
    refine wpAnyH_take (i := 8) (v := ?_) rfl (by kernel_rfl) (by kernel_rfl) (by kernel_rfl) (fun _ _ _ h => h) (Or.inl ⟨by rfl, ?_⟩) (by assumption) ?_
    rotate_left
    · intro w hSw
      (try dsimp only at hSw)
      go_simp
      first | done | with_reducible rfl
    try simp only [Act.put, List.getElem_toArray, List.getElem_cons_succ, List.getElem_cons_zero, List.setIfInBounds_toArray, List.set_cons_zero, List.set_cons_succ]
    refine wpAnyH_take (i := 9) (v := ?_) rfl (by kernel_rfl) (by kernel_rfl) (by kernel_rfl) (fun _ _ _ h => h) (Or.inl ⟨by rfl, ?_⟩) (by assumption) ?_
    rotate_left
    · intro w hSw
      (try dsimp only at hSw)
      go_simp
      first | done | with_reducible rfl
    try simp only [Act.put, List.getElem_toArray, List.getElem_cons_succ, List.getElem_cons_zero, List.setIfInBounds_toArray, List.set_cons_zero, List.set_cons_succ]
    refine wpAnyH_take (i := 10) (v := ?_) rfl (by kernel_rfl) (by kernel_rfl) (by kernel_rfl) (fun _ _ _ h => h) (Or.inl ⟨by rfl, ?_⟩) (by assumption) ?_
    rotate_left
    · intro w hSw
      (try dsimp only at hSw)
      go_simp
      first | done | with_reducible rfl
    try simp only [Act.put, List.getElem_toArray, List.getElem_cons_succ, List.getElem_cons_zero, List.setIfInBounds_toArray, List.set_cons_zero, List.set_cons_succ]
    have HXd := Lib.hid (HX.out.below (belDrew wx))
    have hbxd := ((belDrew wx).block bx (heap_lt hbx)).trans hbx
    have hsed := hse.keep (belDrew wx)
    refine wpAnyH_ready (rs := [5]) (by kernel_rfl) (by simp) ?_
    refine AllReadyH.cons rfl (fun K hK => ?_) AllReadyH.nil
    go_simp
    refine (lappend_any l g P S nW _ t wx.drew HXd.out.1.1 HXd.out.2.2.2.2.2.1 HXd.out.2.2.2.2.2.2.2.1 (by decide) (by decide) (by have := HSm.out.1; omega) (by omega) (by have := (HSm.out.getD nW.data.toList).1; omega) hsed HTO.out (by omega) HEd.out).mono ?_; rintro e w2 ⟨P2, rfl, hD2, hL2, hS2⟩
    have hX2 := HXd.out.callP hD2 hL2 hS2
    have hbx2 := (hX2.2.2 bx (heap_lt hbxd) hPx hlx).trans hbxd
    have hse2 : Sees w2 (.slice to t.length tc) t := hsed.over' (HBW.out.trans ((belDrew wx).mono HBW.out.size)) ((HBW.out.trans ((belDrew wx).mono HBW.out.size)).trans hX2.2.1) HTB0
    refine hK.out _ _ ?_ (fun r1 => ?_)
    · exact held7 hX2.1.2.1 hbx2 hse2
    try simp only [Act.put, List.getElem_toArray, List.getElem_cons_succ, List.getElem_cons_zero, List.setIfInBounds_toArray, List.set_cons_zero, List.set_cons_succ]
    refine wpAnyH_ready (rs := [11]) (by kernel_rfl) (by simp) ?_
    refine AllReadyH.cons rfl (fun K hK => ?_) AllReadyH.nil
    go_simp
    refine (rlappend_any m r Q S nW _ t w2 hX2.1.1.2.1 hX2.1.2.2.2.2.2.2.1 hX2.1.2.2.2.2.2.2.2.2.2.2.1 (by decide) (by have := HSm.out.1; omega) (by omega) (by have := (HSm.out.getD nW.data.toList).1; omega) hse2 HTO.out (by omega)).mono ?_; rintro e w3 ⟨Q3, rfl, hR3, hL3, hS3⟩
    have hX3 := hX2.1.callQ hR3 hL3 hS3
    have hbx3 := (hX3.2.2 bx (heap_lt hbx2) hQx hmx).trans hbx2
    have hse3 : Sees w3 (.slice to t.length tc) t := hse2.over' ((HBW.out.trans ((belDrew wx).mono HBW.out.size)).trans hX2.2.1) (((HBW.out.trans ((belDrew wx).mono HBW.out.size)).trans hX2.2.1).trans hX3.2.1) HTB0
    refine hK.out _ _ ?_ (fun r2 => ?_)
    · exact held7 hX3.1.2.1 hbx3 hse3
    try simp only [Act.put, List.getElem_toArray, List.getElem_cons_succ, List.getElem_cons_zero, List.setIfInBounds_toArray, List.set_cons_zero, List.set_cons_succ]
    refine wpAnyH_take (i := 12) (v := ?_) rfl (by kernel_rfl) (by kernel_rfl) (by kernel_rfl) (fun _ _ _ h => h) (Or.inl ⟨by rfl, ?_⟩) (by assumption) ?_
    rotate_left
    · intro w hSw
      (try dsimp only at hSw)
      go_simp
      first | done | with_reducible rfl
    try simp only [Act.put, List.getElem_toArray, List.getElem_cons_succ, List.getElem_cons_zero, List.setIfInBounds_toArray, List.set_cons_zero, List.set_cons_succ]
    refine wpAnyH_take (i := 13) (v := ?_) rfl (by kernel_rfl) (by kernel_rfl) (by kernel_rfl) (fun _ _ _ h => h) (Or.inl ⟨by rfl, ?_⟩) (by assumption) ?_
    rotate_left
    · intro w hSw
      (try dsimp only at hSw)
      go_simp
      first | done | with_reducible rfl
    try simp only [Act.put, List.getElem_toArray, List.getElem_cons_succ, List.getElem_cons_zero, List.setIfInBounds_toArray, List.set_cons_zero, List.set_cons_succ]
    refine wpAnyH_done (by kernel_rfl) ?_ _
    go_wp2_with fail
    go_ret
    have hsm := walA_small (k := nW.data.toList) HSm.out hsz (by decide) HTl.out
    exact ⟨P2, Q3, l, m, _, by rfl, hX3.1, hsm.1, hsm.2, ((HBx.out.trans ((belDrew wx).mono HX.out.1.size)).trans hX2.2.1).trans hX3.2.1⟩
  have e0 : (k == 0) = false := by simpa using hk0
  by_cases hk1 : k = 1
  · subst hk1
    go_wp2_with fail
    refine wp_region_held_drew (S := (fun W => W.cell? ⟨bb, 0, none⟩ = some (ptr g) ∧ W.cell? ⟨bb, 1, none⟩ = some (ptr l) ∧ W.cell? ⟨bb, 2, none⟩ = some (ptr r) ∧ W.cell? ⟨bb, 3, none⟩ = some (ptr m) ∧ W.cell? ⟨bx, 2, none⟩ = some (.int .i64 n) ∧ W.cell? ⟨bx, 3, none⟩ = some (.slice ko ks.length kc) ∧ Sees W (.slice to t.length tc) t)) (by kernel_rfl) ?_ (fun r0 => ?_)
    · exact held7 HX.out.2.1 hbx hse
    refine wpAnyH_take (i := 0) (v := ?_) rfl (by kernel_rfl) (by kernel_rfl) (by kernel_rfl) (fun _ _ _ h => h) (Or.inl ⟨by rfl, ?_⟩) (by assumption) ?_
    rotate_left
    · intro w hSw
      (try dsimp only at hSw)
      go_simp
      first | done | with_reducible rfl
    try simp only [Act.put, List.getElem_toArray, List.getElem_cons_succ, List.getElem_cons_zero, List.setIfInBounds_toArray, List.set_cons_zero, List.set_cons_succ]
    refine wpAnyH_take (i := 1) (v := ?_) rfl (by kernel_rfl) (by kernel_rfl) (by kernel_rfl) (fun _ _ _ h => h) (Or.inl ⟨by rfl, ?_⟩) (by assumption) ?_
    rotate_left
    · intro w hSw
      (try dsimp only at hSw)
      go_simp
      first | done | with_reducible rfl
    try simp only [Act.put, List.getElem_toArray, List.getElem_cons_succ, List.getElem_cons_zero, List.setIfInBounds_toArray, List.set_cons_zero, List.set_cons_succ]
    refine wpAnyH_take (i := 2) (v := ?_) rfl (by kernel_rfl) (by kernel_rfl) (by kernel_rfl) (fun _ _ _ h => h) (Or.inl ⟨by rfl, ?_⟩) (by assumption) ?_
    rotate_left
    · intro w hSw
      (try dsimp only at hSw)
      go_simp
      first | done | with_reducible rfl
    try simp only [Act.put, List.getElem_toArray, List.getElem_cons_succ, List.getElem_cons_zero, List.setIfInBounds_toArray, List.set_cons_zero, List.set_cons_succ]
    refine wpAnyH_take (i := 3) (v := ?_) rfl (by kernel_rfl) (by kernel_rfl) (by kernel_rfl) (fun _ _ _ h => h) (Or.inl ⟨by rfl, ?_⟩) (by assumption) ?_
    rotate_left
    · intro w hSw
      (try dsimp only at hSw)
      go_simp
      first | done | with_reducible rfl
    try simp only [Act.put, List.getElem_toArray, List.getElem_cons_succ, List.getElem_cons_zero, List.setIfInBounds_toArray, List.set_cons_zero, List.set_cons_succ]
    refine wpAnyH_take (i := 4) (v := ?_) rfl (by kernel_rfl) (by kernel_rfl) (by kernel_rfl) (fun _ _ _ h => h) (Or.inl ⟨by rfl, ?_⟩) (by assumption) ?_
    rotate_left
    · intro w hSw
      (try dsimp only at hSw)
      go_simp
      first | done | with_reducible rfl
    try simp only [Act.put, List.getElem_toArray, List.getElem_cons_succ, List.getElem_cons_zero, List.setIfInBounds_toArray, List.set_cons_zero, List.set_cons_succ]
    refine wpAnyH_take (i := 6) (v := ?_) rfl (by kernel_rfl) (by kernel_rfl) (by kernel_rfl) (fun _ _ _ h => h) (Or.inl ⟨by rfl, ?_⟩) (by assumption) ?_
    rotate_left
    · intro w hSw
      (try dsimp only at hSw)
      go_simp
      first | done | with_reducible rfl
    try simp only [Act.put, List.getElem_toArray, List.getElem_cons_succ, List.getElem_cons_zero, List.setIfInBounds_toArray, List.set_cons_zero, List.set_cons_succ]
    refine wpAnyH_take (i := 7) (v := ?_) rfl (by kernel_rfl) (by kernel_rfl) (by kernel_rfl) (fun _ _ _ h => h) (Or.inl ⟨by rfl, ?_⟩) (by assumption) ?_
    rotate_left
    · intro w hSw
      (try dsimp only at hSw)
      go_simp
      first | done | with_reducible rfl
    try simp only [Act.put, List.getElem_toArray, List.getElem_cons_succ, List.getElem_cons_zero, List.setIfInBounds_toArray, List.set_cons_zero, List.set_cons_succ]
    refine wpAnyH_take (i := 8) (v := ?_) rfl (by kernel_rfl) (by kernel_rfl) (by kernel_rfl) (fun _ _ _ h => h) (Or.inl ⟨by rfl, ?_⟩) (by assumption) ?_
    rotate_left
    · intro w hSw
      (try dsimp only at hSw)
      go_simp
      first | done | with_reducible rfl
    try simp only [Act.put, List.getElem_toArray, List.getElem_cons_succ, List.getElem_cons_zero, List.setIfInBounds_toArray, List.set_cons_zero, List.set_cons_succ]
    refine wpAnyH_take (i := 9) (v := ?_) rfl (by kernel_rfl) (by kernel_rfl) (by kernel_rfl) (fun _ _ _ h => h) (Or.inl ⟨by rfl, ?_⟩) (by assumption) ?_
    rotate_left
    · intro w hSw
      (try dsimp only at hSw)
      go_simp
      first | done | with_reducible rfl
    try simp only [Act.put, List.getElem_toArray, List.getElem_cons_succ, List.getElem_cons_zero, List.setIfInBounds_toArray, List.set_cons_zero, List.set_cons_succ]
    refine wpAnyH_take (i := 10) (v := ?_) rfl (by kernel_rfl) (by kernel_rfl) (by kernel_rfl) (fun _ _ _ h => h) (Or.inl ⟨by rfl, ?_⟩) (by assumption) ?_
    rotate_left
    · intro w hSw
      (try dsimp only at hSw)
      go_simp
      first | done | with_reducible rfl
    try simp only [Act.put, List.getElem_toArray, List.getElem_cons_succ, List.getElem_cons_zero, List.setIfInBounds_toArray, List.set_cons_zero, List.set_cons_succ]
    have HXd := Lib.hid (HX.out.below (belDrew wx))
    have hbxd := ((belDrew wx).block bx (heap_lt hbx)).trans hbx
    have hsed := hse.keep (belDrew wx)
    refine wpAnyH_ready (rs := [5]) (by kernel_rfl) (by simp) ?_
    refine AllReadyH.cons rfl (fun K hK => ?_) AllReadyH.nil
    go_simp
    refine (lappend_any l g P S nW _ t wx.drew HXd.out.1.1 HXd.out.2.2.2.2.2.1 HXd.out.2.2.2.2.2.2.2.1 (by decide) (by decide) (by have := HSm.out.1; omega) (by omega) (by have := (HSm.out.getD nW.data.toList).1; omega) hsed HTO.out (by omega) HEd.out).mono ?_; rintro e w2 ⟨P2, rfl, hD2, hL2, hS2⟩
    have hX2 := HXd.out.callP hD2 hL2 hS2
    have hbx2 := (hX2.2.2 bx (heap_lt hbxd) hPx hlx).trans hbxd
    have hse2 : Sees w2 (.slice to t.length tc) t := hsed.over' (HBW.out.trans ((belDrew wx).mono HBW.out.size)) ((HBW.out.trans ((belDrew wx).mono HBW.out.size)).trans hX2.2.1) HTB0
    refine hK.out _ _ ?_ (fun r1 => ?_)
    · exact held7 hX2.1.2.1 hbx2 hse2
    try simp only [Act.put, List.getElem_toArray, List.getElem_cons_succ, List.getElem_cons_zero, List.setIfInBounds_toArray, List.set_cons_zero, List.set_cons_succ]
    refine wpAnyH_ready (rs := [11]) (by kernel_rfl) (by simp) ?_
    refine AllReadyH.cons rfl (fun K hK => ?_) AllReadyH.nil
    go_simp
    refine (rlappend_any m r Q S nW _ t w2 hX2.1.1.2.1 hX2.1.2.2.2.2.2.2.1 hX2.1.2.2.2.2.2.2.2.2.2.2.1 (by decide) (by have := HSm.out.1; omega) (by omega) (by have := (HSm.out.getD nW.data.toList).1; omega) hse2 HTO.out (by omega)).mono ?_; rintro e w3 ⟨Q3, rfl, hR3, hL3, hS3⟩
    have hX3 := hX2.1.callQ hR3 hL3 hS3
    have hbx3 := (hX3.2.2 bx (heap_lt hbx2) hQx hmx).trans hbx2
    have hse3 : Sees w3 (.slice to t.length tc) t := hse2.over' ((HBW.out.trans ((belDrew wx).mono HBW.out.size)).trans hX2.2.1) (((HBW.out.trans ((belDrew wx).mono HBW.out.size)).trans hX2.2.1).trans hX3.2.1) HTB0
    refine hK.out _ _ ?_ (fun r2 => ?_)
    · exact held7 hX3.1.2.1 hbx3 hse3
    try simp only [Act.put, List.getElem_toArray, List.getElem_cons_succ, List.getElem_cons_zero, List.setIfInBounds_toArray, List.set_cons_zero, List.set_cons_succ]
    refine wpAnyH_take (i := 12) (v := ?_) rfl (by kernel_rfl) (by kernel_rfl) (by kernel_rfl) (fun _ _ _ h => h) (Or.inl ⟨by rfl, ?_⟩) (by assumption) ?_
    rotate_left
    · intro w hSw
      (try dsimp only at hSw)
      go_simp
      first | done | with_reducible rfl
    try simp only [Act.put, List.getElem_toArray, List.getElem_cons_succ, List.getElem_cons_zero, List.setIfInBounds_toArray, List.set_cons_zero, List.set_cons_succ]
    refine wpAnyH_take (i := 13) (v := ?_) rfl (by kernel_rfl) (by kernel_rfl) (by kernel_rfl) (fun _ _ _ h => h) (Or.inl ⟨by rfl, ?_⟩) (by assumption) ?_
    rotate_left
    · intro w hSw
      (try dsimp only at hSw)
      go_simp
      first | done | with_reducible rfl
    try simp only [Act.put, List.getElem_toArray, List.getElem_cons_succ, List.getElem_cons_zero, List.setIfInBounds_toArray, List.set_cons_zero, List.set_cons_succ]
    refine wpAnyH_done (by kernel_rfl) ?_ _
    go_wp2_with fail
    go_ret
    have hsm := walA_small (k := nW.data.toList) HSm.out hsz (by decide) HTl.out
    exact ⟨P2, Q3, l, m, _, by rfl, hX3.1, hsm.1, hsm.2, ((HBx.out.trans ((belDrew wx).mono HX.out.1.size)).trans hX2.2.1).trans hX3.2.1⟩
  have e1 : (k == 1) = false := by simpa using hk1
  by_cases hk2 : k = 2
  · subst hk2
    go_wp2_with fail
    refine wp_region_held_drew (S := (fun W => W.cell? ⟨bb, 0, none⟩ = some (ptr g) ∧ W.cell? ⟨bb, 1, none⟩ = some (ptr l) ∧ W.cell? ⟨bb, 2, none⟩ = some (ptr r) ∧ W.cell? ⟨bb, 3, none⟩ = some (ptr m) ∧ W.cell? ⟨bx, 2, none⟩ = some (.int .i64 n) ∧ W.cell? ⟨bx, 3, none⟩ = some (.slice ko ks.length kc) ∧ Sees W (.slice to t.length tc) t)) (by kernel_rfl) ?_ (fun r0 => ?_)
    · exact held7 HX.out.2.1 hbx hse
    refine wpAnyH_take (i := 0) (v := ?_) rfl (by kernel_rfl) (by kernel_rfl) (by kernel_rfl) (fun _ _ _ h => h) (Or.inl ⟨by rfl, ?_⟩) (by assumption) ?_
    rotate_left
    · intro w hSw
      (try dsimp only at hSw)
      go_simp
      first | done | with_reducible rfl
    try simp only [Act.put, List.getElem_toArray, List.getElem_cons_succ, List.getElem_cons_zero, List.setIfInBounds_toArray, List.set_cons_zero, List.set_cons_succ]
    refine wpAnyH_take (i := 1) (v := ?_) rfl (by kernel_rfl) (by kernel_rfl) (by kernel_rfl) (fun _ _ _ h => h) (Or.inl ⟨by rfl, ?_⟩) (by assumption) ?_
    rotate_left
    · intro w hSw
      (try dsimp only at hSw)
      go_simp
      first | done | with_reducible rfl
    try simp only [Act.put, List.getElem_toArray, List.getElem_cons_succ, List.getElem_cons_zero, List.setIfInBounds_toArray, List.set_cons_zero, List.set_cons_succ]
    refine wpAnyH_take (i := 2) (v := ?_) rfl (by kernel_rfl) (by kernel_rfl) (by kernel_rfl) (fun _ _ _ h => h) (Or.inl ⟨by rfl, ?_⟩) (by assumption) ?_
    rotate_left
    · intro w hSw
      (try dsimp only at hSw)
      go_simp
      first | done | with_reducible rfl
    try simp only [Act.put, List.getElem_toArray, List.getElem_cons_succ, List.getElem_cons_zero, List.setIfInBounds_toArray, List.set_cons_zero, List.set_cons_succ]
    refine wpAnyH_take (i := 3) (v := ?_) rfl (by kernel_rfl) (by kernel_rfl) (by kernel_rfl) (fun _ _ _ h => h) (Or.inl ⟨by rfl, ?_⟩) (by assumption) ?_
    rotate_left
    · intro w hSw
      (try dsimp only at hSw)
      go_simp
      first | done | with_reducible rfl
    try simp only [Act.put, List.getElem_toArray, List.getElem_cons_succ, List.getElem_cons_zero, List.setIfInBounds_toArray, List.set_cons_zero, List.set_cons_succ]
    refine wpAnyH_take (i := 4) (v := ?_) rfl (by kernel_rfl) (by kernel_rfl) (by kernel_rfl) (fun _ _ _ h => h) (Or.inl ⟨by rfl, ?_⟩) (by assumption) ?_
    rotate_left
    · intro w hSw
      (try dsimp only at hSw)
      go_simp
      first | done | with_reducible rfl
    try simp only [Act.put, List.getElem_toArray, List.getElem_cons_succ, List.getElem_cons_zero, List.setIfInBounds_toArray, List.set_cons_zero, List.set_cons_succ]
    refine wpAnyH_take (i := 6) (v := ?_) rfl (by kernel_rfl) (by kernel_rfl) (by kernel_rfl) (fun _ _ _ h => h) (Or.inl ⟨by rfl, ?_⟩) (by assumption) ?_
    rotate_left
    · intro w hSw
      (try dsimp only at hSw)
      go_simp
      first | done | with_reducible rfl
    try simp only [Act.put, List.getElem_toArray, List.getElem_cons_succ, List.getElem_cons_zero, List.setIfInBounds_toArray, List.set_cons_zero, List.set_cons_succ]
    refine wpAnyH_take (i := 7) (v := ?_) rfl (by kernel_rfl) (by kernel_rfl) (by kernel_rfl) (fun _ _ _ h => h) (Or.inl ⟨by rfl, ?_⟩) (by assumption) ?_
    rotate_left
    · intro w hSw
      (try dsimp only at hSw)
      go_simp
      first | done | with_reducible rfl
    try simp only [Act.put, List.getElem_toArray, List.getElem_cons_succ, List.getElem_cons_zero, List.setIfInBounds_toArray, List.set_cons_zero, List.set_cons_succ]
    refine wpAnyH_take (i := 8) (v := ?_) rfl (by kernel_rfl) (by kernel_rfl) (by kernel_rfl) (fun _ _ _ h => h) (Or.inl ⟨by rfl, ?_⟩) (by assumption) ?_
    rotate_left
    · intro w hSw
      (try dsimp only at hSw)
      go_simp
      first | done | with_reducible rfl
    try simp only [Act.put, List.getElem_toArray, List.getElem_cons_succ, List.getElem_cons_zero, List.setIfInBounds_toArray, List.set_cons_zero, List.set_cons_succ]
    refine wpAnyH_take (i := 9) (v := ?_) rfl (by kernel_rfl) (by kernel_rfl) (by kernel_rfl) (fun _ _ _ h => h) (Or.inl ⟨by rfl, ?_⟩) (by assumption) ?_
    rotate_left
    · intro w hSw
      (try dsimp only at hSw)
      go_simp
      first | done | with_reducible rfl
    try simp only [Act.put, List.getElem_toArray, List.getElem_cons_succ, List.getElem_cons_zero, List.setIfInBounds_toArray, List.set_cons_zero, List.set_cons_succ]
    refine wpAnyH_take (i := 10) (v := ?_) rfl (by kernel_rfl) (by kernel_rfl) (by kernel_rfl) (fun _ _ _ h => h) (Or.inl ⟨by rfl, ?_⟩) (by assumption) ?_
    rotate_left
    · intro w hSw
      (try dsimp only at hSw)
      go_simp
      first | done | with_reducible rfl
    try simp only [Act.put, List.getElem_toArray, List.getElem_cons_succ, List.getElem_cons_zero, List.setIfInBounds_toArray, List.set_cons_zero, List.set_cons_succ]
    have HXd := Lib.hid (HX.out.below (belDrew wx))
    have hbxd := ((belDrew wx).block bx (heap_lt hbx)).trans hbx
    have hsed := hse.keep (belDrew wx)
    refine wpAnyH_ready (rs := [5]) (by kernel_rfl) (by simp) ?_
    refine AllReadyH.cons rfl (fun K hK => ?_) AllReadyH.nil
    go_simp
    refine (lappend_any l g P S nW _ t wx.drew HXd.out.1.1 HXd.out.2.2.2.2.2.1 HXd.out.2.2.2.2.2.2.2.1 (by decide) (by decide) (by have := HSm.out.1; omega) (by omega) (by have := (HSm.out.getD nW.data.toList).1; omega) hsed HTO.out (by omega) HEd.out).mono ?_; rintro e w2 ⟨P2, rfl, hD2, hL2, hS2⟩
    have hX2 := HXd.out.callP hD2 hL2 hS2
    have hbx2 := (hX2.2.2 bx (heap_lt hbxd) hPx hlx).trans hbxd
    have hse2 : Sees w2 (.slice to t.length tc) t := hsed.over' (HBW.out.trans ((belDrew wx).mono HBW.out.size)) ((HBW.out.trans ((belDrew wx).mono HBW.out.size)).trans hX2.2.1) HTB0
    refine hK.out _ _ ?_ (fun r1 => ?_)
    · exact held7 hX2.1.2.1 hbx2 hse2
    try simp only [Act.put, List.getElem_toArray, List.getElem_cons_succ, List.getElem_cons_zero, List.setIfInBounds_toArray, List.set_cons_zero, List.set_cons_succ]
    refine wpAnyH_ready (rs := [11]) (by kernel_rfl) (by simp) ?_
    refine AllReadyH.cons rfl (fun K hK => ?_) AllReadyH.nil
    go_simp
    refine (rlappend_any m r Q S nW _ t w2 hX2.1.1.2.1 hX2.1.2.2.2.2.2.2.1 hX2.1.2.2.2.2.2.2.2.2.2.2.1 (by decide) (by have := HSm.out.1; omega) (by omega) (by have := (HSm.out.getD nW.data.toList).1; omega) hse2 HTO.out (by omega)).mono ?_; rintro e w3 ⟨Q3, rfl, hR3, hL3, hS3⟩
    have hX3 := hX2.1.callQ hR3 hL3 hS3
    have hbx3 := (hX3.2.2 bx (heap_lt hbx2) hQx hmx).trans hbx2
    have hse3 : Sees w3 (.slice to t.length tc) t := hse2.over' ((HBW.out.trans ((belDrew wx).mono HBW.out.size)).trans hX2.2.1) (((HBW.out.trans ((belDrew wx).mono HBW.out.size)).trans hX2.2.1).trans hX3.2.1) HTB0
    refine hK.out _ _ ?_ (fun r2 => ?_)
    · exact held7 hX3.1.2.1 hbx3 hse3
    try simp only [Act.put, List.getElem_toArray, List.getElem_cons_succ, List.getElem_cons_zero, List.setIfInBounds_toArray, List.set_cons_zero, List.set_cons_succ]
    refine wpAnyH_take (i := 12) (v := ?_) rfl (by kernel_rfl) (by kernel_rfl) (by kernel_rfl) (fun _ _ _ h => h) (Or.inl ⟨by rfl, ?_⟩) (by assumption) ?_
    rotate_left
    · intro w hSw
      (try dsimp only at hSw)
      go_simp
      first | done | with_reducible rfl
    try simp only [Act.put, List.getElem_toArray, List.getElem_cons_succ, List.getElem_cons_zero, List.setIfInBounds_toArray, List.set_cons_zero, List.set_cons_succ]
    refine wpAnyH_take (i := 13) (v := ?_) rfl (by kernel_rfl) (by kernel_rfl) (by kernel_rfl) (fun _ _ _ h => h) (Or.inl ⟨by rfl, ?_⟩) (by assumption) ?_
    rotate_left
    · intro w hSw
      (try dsimp only at hSw)
      go_simp
      first | done | with_reducible rfl
    try simp only [Act.put, List.getElem_toArray, List.getElem_cons_succ, List.getElem_cons_zero, List.setIfInBounds_toArray, List.set_cons_zero, List.set_cons_succ]
    refine wpAnyH_done (by kernel_rfl) ?_ _
    go_wp2_with fail
    go_ret
    have hsm := walA_small (k := nW.data.toList) HSm.out hsz (by decide) HTl.out
    exact ⟨P2, Q3, l, m, _, by rfl, hX3.1, hsm.1, hsm.2, ((HBx.out.trans ((belDrew wx).mono HX.out.1.size)).trans hX2.2.1).trans hX3.2.1⟩
  have e2 : (k == 2) = false := by simpa using hk2
  by_cases hk3 : k = 3
  · subst hk3
    go_wp2_with fail
    refine wp_region_held_drew (S := (fun W => W.cell? ⟨bb, 0, none⟩ = some (ptr g) ∧ W.cell? ⟨bb, 1, none⟩ = some (ptr l) ∧ W.cell? ⟨bb, 2, none⟩ = some (ptr r) ∧ W.cell? ⟨bb, 3, none⟩ = some (ptr m) ∧ W.cell? ⟨bx, 2, none⟩ = some (.int .i64 n) ∧ W.cell? ⟨bx, 3, none⟩ = some (.slice ko ks.length kc) ∧ Sees W (.slice to t.length tc) t)) (by kernel_rfl) ?_ (fun r0 => ?_)
    · exact held7 HX.out.2.1 hbx hse
    refine wpAnyH_take (i := 0) (v := ?_) rfl (by kernel_rfl) (by kernel_rfl) (by kernel_rfl) (fun _ _ _ h => h) (Or.inl ⟨by rfl, ?_⟩) (by assumption) ?_
    rotate_left
    · intro w hSw
      (try dsimp only at hSw)
      go_simp
      first | done | with_reducible rfl
    try simp only [Act.put, List.getElem_toArray, List.getElem_cons_succ, List.getElem_cons_zero, List.setIfInBounds_toArray, List.set_cons_zero, List.set_cons_succ]
    refine wpAnyH_take (i := 1) (v := ?_) rfl (by kernel_rfl) (by kernel_rfl) (by kernel_rfl) (fun _ _ _ h => h) (Or.inl ⟨by rfl, ?_⟩) (by assumption) ?_
    rotate_left
    · intro w hSw
      (try dsimp only at hSw)
      go_simp
      first | done | with_reducible rfl
    try simp only [Act.put, List.getElem_toArray, List.getElem_cons_succ, List.getElem_cons_zero, List.setIfInBounds_toArray, List.set_cons_zero, List.set_cons_succ]
    refine wpAnyH_take (i := 2) (v := ?_) rfl (by kernel_rfl) (by kernel_rfl) (by kernel_rfl) (fun _ _ _ h => h) (Or.inl ⟨by rfl, ?_⟩) (by assumption) ?_
    rotate_left
    · intro w hSw
      (try dsimp only at hSw)
      go_simp
      first | done | with_reducible rfl
    try simp only [Act.put, List.getElem_toArray, List.getElem_cons_succ, List.getElem_cons_zero, List.setIfInBounds_toArray, List.set_cons_zero, List.set_cons_succ]
    refine wpAnyH_take (i := 3) (v := ?_) rfl (by kernel_rfl) (by kernel_rfl) (by kernel_rfl) (fun _ _ _ h => h) (Or.inl ⟨by rfl, ?_⟩) (by assumption) ?_
    rotate_left
    · intro w hSw
      (try dsimp only at hSw)
      go_simp
      first | done | with_reducible rfl
    try simp only [Act.put, List.getElem_toArray, List.getElem_cons_succ, List.getElem_cons_zero, List.setIfInBounds_toArray, List.set_cons_zero, List.set_cons_succ]
    refine wpAnyH_take (i := 5) (v := ?_) rfl (by kernel_rfl) (by kernel_rfl) (by kernel_rfl) (fun _ _ _ h => h) (Or.inl ⟨by rfl, ?_⟩) (by assumption) ?_
    rotate_left
    · intro w hSw
      (try dsimp only at hSw)
      go_simp
      first | done | with_reducible rfl
    try simp only [Act.put, List.getElem_toArray, List.getElem_cons_succ, List.getElem_cons_zero, List.setIfInBounds_toArray, List.set_cons_zero, List.set_cons_succ]
    refine wpAnyH_take (i := 6) (v := ?_) rfl (by kernel_rfl) (by kernel_rfl) (by kernel_rfl) (fun _ _ _ h => h) (Or.inl ⟨by rfl, ?_⟩) (by assumption) ?_
    rotate_left
    · intro w hSw
      (try dsimp only at hSw)
      go_simp
      first | done | with_reducible rfl
    try simp only [Act.put, List.getElem_toArray, List.getElem_cons_succ, List.getElem_cons_zero, List.setIfInBounds_toArray, List.set_cons_zero, List.set_cons_succ]
    refine wpAnyH_take (i := 7) (v := ?_) rfl (by kernel_rfl) (by kernel_rfl) (by kernel_rfl) (fun _ _ _ h => h) (Or.inl ⟨by rfl, ?_⟩) (by assumption) ?_
    rotate_left
    · intro w hSw
      (try dsimp only at hSw)
      go_simp
      first | done | with_reducible rfl
    try simp only [Act.put, List.getElem_toArray, List.getElem_cons_succ, List.getElem_cons_zero, List.setIfInBounds_toArray, List.set_cons_zero, List.set_cons_succ]
    refine wpAnyH_take (i := 8) (v := ?_) rfl (by kernel_rfl) (by kernel_rfl) (by kernel_rfl) (fun _ _ _ h => h) (Or.inl ⟨by rfl, ?_⟩) (by assumption) ?_
    rotate_left
    · intro w hSw
      (try dsimp only at hSw)
      go_simp
      first | done | with_reducible rfl
    try simp only [Act.put, List.getElem_toArray, List.getElem_cons_succ, List.getElem_cons_zero, List.setIfInBounds_toArray, List.set_cons_zero, List.set_cons_succ]
    have HXd := Lib.hid (HX.out.below (belDrew wx))
    have hbxd := ((belDrew wx).block bx (heap_lt hbx)).trans hbx
    have hsed := hse.keep (belDrew wx)
    refine wpAnyH_ready (rs := [4]) (by kernel_rfl) (by simp) ?_
    refine AllReadyH.cons rfl (fun K hK => ?_) AllReadyH.nil
    go_simp
    refine (lclear_any l g P S nW wx.drew HXd.out.1.1 HXd.out.2.2.2.2.2.1 HXd.out.2.2.2.2.2.2.2.1 (by decide) (by have := HSm.out.1; omega) (fun f hf => by have := (HSm.out.2 f hf).2.1; omega)).mono ?_; rintro e w2 ⟨P2, rfl, hD2, hL2, hS2⟩
    have hX2 := HXd.out.callP hD2 hL2 hS2
    have hbx2 := (hX2.2.2 bx (heap_lt hbxd) hPx hlx).trans hbxd
    have hse2 : Sees w2 (.slice to t.length tc) t := hsed.over' (HBW.out.trans ((belDrew wx).mono HBW.out.size)) ((HBW.out.trans ((belDrew wx).mono HBW.out.size)).trans hX2.2.1) HTB0
    refine hK.out _ _ ?_ (fun r1 => ?_)
    · exact held7 hX2.1.2.1 hbx2 hse2
    try simp only [Act.put, List.getElem_toArray, List.getElem_cons_succ, List.getElem_cons_zero, List.setIfInBounds_toArray, List.set_cons_zero, List.set_cons_succ]
    refine wpAnyH_ready (rs := [9]) (by kernel_rfl) (by simp) ?_
    refine AllReadyH.cons rfl (fun K hK => ?_) AllReadyH.nil
    go_simp
    refine (rlclear_any m r Q S nW w2 hX2.1.1.2.1 hX2.1.2.2.2.2.2.2.1 hX2.1.2.2.2.2.2.2.2.2.2.2.1 (by have := HSm.out.1; omega)).mono ?_; rintro e w3 ⟨Q3, rfl, hR3, hL3, hS3⟩
    have hX3 := hX2.1.callQ hR3 hL3 hS3
    have hbx3 := (hX3.2.2 bx (heap_lt hbx2) hQx hmx).trans hbx2
    have hse3 : Sees w3 (.slice to t.length tc) t := hse2.over' ((HBW.out.trans ((belDrew wx).mono HBW.out.size)).trans hX2.2.1) (((HBW.out.trans ((belDrew wx).mono HBW.out.size)).trans hX2.2.1).trans hX3.2.1) HTB0
    refine hK.out _ _ ?_ (fun r2 => ?_)
    · exact held7 hX3.1.2.1 hbx3 hse3
    try simp only [Act.put, List.getElem_toArray, List.getElem_cons_succ, List.getElem_cons_zero, List.setIfInBounds_toArray, List.set_cons_zero, List.set_cons_succ]
    refine wpAnyH_take (i := 10) (v := ?_) rfl (by kernel_rfl) (by kernel_rfl) (by kernel_rfl) (fun _ _ _ h => h) (Or.inl ⟨by rfl, ?_⟩) (by assumption) ?_
    rotate_left
    · intro w hSw
      (try dsimp only at hSw)
      go_simp
      first | done | with_reducible rfl
    try simp only [Act.put, List.getElem_toArray, List.getElem_cons_succ, List.getElem_cons_zero, List.setIfInBounds_toArray, List.set_cons_zero, List.set_cons_succ]
    refine wpAnyH_take (i := 11) (v := ?_) rfl (by kernel_rfl) (by kernel_rfl) (by kernel_rfl) (fun _ _ _ h => h) (Or.inl ⟨by rfl, ?_⟩) (by assumption) ?_
    rotate_left
    · intro w hSw
      (try dsimp only at hSw)
      go_simp
      first | done | with_reducible rfl
    try simp only [Act.put, List.getElem_toArray, List.getElem_cons_succ, List.getElem_cons_zero, List.setIfInBounds_toArray, List.set_cons_zero, List.set_cons_succ]
    refine wpAnyH_done (by kernel_rfl) ?_ _
    go_wp2_with fail
    go_ret
    have hsm : SmallF (c + 3) (walC S nW.data.toList).2.D.fs ∧ (walC S nW.data.toList).2.size ≤ 50 * (c + 3) := (walC_small (k := nW.data.toList) HSm.out).elim id (fun e => by rw [e]; exact ⟨HSm.out.mono (by omega), by omega⟩)
    exact ⟨P2, Q3, l, m, _, by rfl, hX3.1, hsm.1, hsm.2, ((HBx.out.trans ((belDrew wx).mono HX.out.1.size)).trans hX2.2.1).trans hX3.2.1⟩
  have e3 : (k == 3) = false := by simpa using hk3
  by_cases hk4 : k = 4
  · subst hk4
    go_wp2_with fail
    refine wp_region_held_drew (S := (fun W => W.cell? ⟨bb, 0, none⟩ = some (ptr g) ∧ W.cell? ⟨bb, 1, none⟩ = some (ptr l) ∧ W.cell? ⟨bb, 2, none⟩ = some (ptr r) ∧ W.cell? ⟨bb, 3, none⟩ = some (ptr m) ∧ W.cell? ⟨bx, 2, none⟩ = some (.int .i64 n) ∧ W.cell? ⟨bx, 3, none⟩ = some (.slice ko ks.length kc) ∧ Sees W (.slice to t.length tc) t)) (by kernel_rfl) ?_ (fun r0 => ?_)
    · exact held7 HX.out.2.1 hbx hse
    refine wpAnyH_take (i := 0) (v := ?_) rfl (by kernel_rfl) (by kernel_rfl) (by kernel_rfl) (fun _ _ _ h => h) (Or.inl ⟨by rfl, ?_⟩) (by assumption) ?_
    rotate_left
    · intro w hSw
      (try dsimp only at hSw)
      go_simp
      first | done | with_reducible rfl
    try simp only [Act.put, List.getElem_toArray, List.getElem_cons_succ, List.getElem_cons_zero, List.setIfInBounds_toArray, List.set_cons_zero, List.set_cons_succ]
    refine wpAnyH_take (i := 1) (v := ?_) rfl (by kernel_rfl) (by kernel_rfl) (by kernel_rfl) (fun _ _ _ h => h) (Or.inl ⟨by rfl, ?_⟩) (by assumption) ?_
    rotate_left
    · intro w hSw
      (try dsimp only at hSw)
      go_simp
      first | done | with_reducible rfl
    try simp only [Act.put, List.getElem_toArray, List.getElem_cons_succ, List.getElem_cons_zero, List.setIfInBounds_toArray, List.set_cons_zero, List.set_cons_succ]
    refine wpAnyH_take (i := 2) (v := ?_) rfl (by kernel_rfl) (by kernel_rfl) (by kernel_rfl) (fun _ _ _ h => h) (Or.inl ⟨by rfl, ?_⟩) (by assumption) ?_
    rotate_left
    · intro w hSw
      (try dsimp only at hSw)
      go_simp
      first | done | with_reducible rfl
    try simp only [Act.put, List.getElem_toArray, List.getElem_cons_succ, List.getElem_cons_zero, List.setIfInBounds_toArray, List.set_cons_zero, List.set_cons_succ]
    refine wpAnyH_take (i := 3) (v := ?_) rfl (by kernel_rfl) (by kernel_rfl) (by kernel_rfl) (fun _ _ _ h => h) (Or.inl ⟨by rfl, ?_⟩) (by assumption) ?_
    rotate_left
    · intro w hSw
      (try dsimp only at hSw)
      go_simp
      first | done | with_reducible rfl
    try simp only [Act.put, List.getElem_toArray, List.getElem_cons_succ, List.getElem_cons_zero, List.setIfInBounds_toArray, List.set_cons_zero, List.set_cons_succ]
    refine wpAnyH_take (i := 4) (v := ?_) rfl (by kernel_rfl) (by kernel_rfl) (by kernel_rfl) (fun _ _ _ h => h) (Or.inl ⟨by rfl, ?_⟩) (by assumption) ?_
    rotate_left
    · intro w hSw
      (try dsimp only at hSw)
      go_simp
      first | done | with_reducible rfl
    try simp only [Act.put, List.getElem_toArray, List.getElem_cons_succ, List.getElem_cons_zero, List.setIfInBounds_toArray, List.set_cons_zero, List.set_cons_succ]
    refine wpAnyH_take (i := 5) (v := ?_) rfl (by kernel_rfl) (by kernel_rfl) (by kernel_rfl) (fun _ _ _ h => h) (Or.inl ⟨by rfl, ?_⟩) (by assumption) ?_
    rotate_left
    · intro w hSw
      (try dsimp only at hSw)
      go_simp
      first | done | with_reducible rfl
    try simp only [Act.put, List.getElem_toArray, List.getElem_cons_succ, List.getElem_cons_zero, List.setIfInBounds_toArray, List.set_cons_zero, List.set_cons_succ]
    have HXd := Lib.hid (HX.out.below (belDrew wx))
    have hbxd := ((belDrew wx).block bx (heap_lt hbx)).trans hbx
    have hsed := hse.keep (belDrew wx)
    have hBd := HBW.out.trans ((belDrew wx).mono HBW.out.size)
    refine wpAnyH_ready (rs := [6]) (by kernel_rfl) (by simp) ?_
    refine AllReadyH.cons rfl (fun K hK => ?_) AllReadyH.nil
    go_simp
    refine (arm_any g P S.D n wx.drew HXd.out.1.1 HN.out.1 HN.out.2).mono ?_; rintro e w2 ⟨rfl, hD2, hT2⟩
    have hX2 := HXd.out.callP hD2 (HXd.out.2.2.2.2.2.1.keep hT2 HXd.out.2.2.2.2.2.2.2.1) (StepL.of ⟨hT2, fun _ h => Or.inl h⟩)
    have hbx2 := (hX2.2.2 bx (heap_lt hbxd) hPx hlx).trans hbxd
    have hse2 : Sees w2 (.slice to t.length tc) t := hsed.over' hBd (hBd.trans hX2.2.1) HTB0
    refine hK.out _ _ ?_ (fun r1 => ?_)
    · exact held7 hX2.1.2.1 hbx2 hse2
    try simp only [Act.put, List.getElem_toArray, List.getElem_cons_succ, List.getElem_cons_zero, List.setIfInBounds_toArray, List.set_cons_zero, List.set_cons_succ]
    refine wpAnyH_done (by kernel_rfl) ?_ _
    have HX2d := Lib.hid (hX2.1.below (belDrew w2))
    have HB2d := Lib.hid ((hBd.trans hX2.2.1).trans ((belDrew w2).mono (hBd.trans hX2.2.1).size))
    have hbx2d := ((belDrew w2).block bx (heap_lt hbx2)).trans hbx2
    have hse2d := hse2.keep (belDrew w2)
    have HX2 := Lib.hid hX2
    clear r0 r1 hbxd hsed
    go_wp2_with fail
    refine wp_region_held_drew (S := (fun W => W.cell? ⟨bb, 0, none⟩ = some (ptr g) ∧ W.cell? ⟨bb, 1, none⟩ = some (ptr l) ∧ W.cell? ⟨bb, 2, none⟩ = some (ptr r) ∧ W.cell? ⟨bb, 3, none⟩ = some (ptr m) ∧ W.cell? ⟨bx, 2, none⟩ = some (.int .i64 n) ∧ W.cell? ⟨bx, 3, none⟩ = some (.slice ko ks.length kc) ∧ Sees W (.slice to t.length tc) t)) (by kernel_rfl) ?_ (fun r3 => ?_)
    · exact held7 HX2d.out.2.1 hbx2d hse2d
    refine wpAnyH_take (i := 0) (v := ?_) rfl (by kernel_rfl) (by kernel_rfl) (by kernel_rfl) (fun _ _ _ h => h) (Or.inl ⟨by rfl, ?_⟩) (by assumption) ?_
    rotate_left
    · intro w hSw
      (try dsimp only at hSw)
      go_simp
      first | done | with_reducible rfl
    try simp only [Act.put, List.getElem_toArray, List.getElem_cons_succ, List.getElem_cons_zero, List.setIfInBounds_toArray, List.set_cons_zero, List.set_cons_succ]
    refine wpAnyH_take (i := 1) (v := ?_) rfl (by kernel_rfl) (by kernel_rfl) (by kernel_rfl) (fun _ _ _ h => h) (Or.inl ⟨by rfl, ?_⟩) (by assumption) ?_
    rotate_left
    · intro w hSw
      (try dsimp only at hSw)
      go_simp
      first | done | with_reducible rfl
    try simp only [Act.put, List.getElem_toArray, List.getElem_cons_succ, List.getElem_cons_zero, List.setIfInBounds_toArray, List.set_cons_zero, List.set_cons_succ]
    refine wpAnyH_take (i := 2) (v := ?_) rfl (by kernel_rfl) (by kernel_rfl) (by kernel_rfl) (fun _ _ _ h => h) (Or.inl ⟨by rfl, ?_⟩) (by assumption) ?_
    rotate_left
    · intro w hSw
      (try dsimp only at hSw)
      go_simp
      first | done | with_reducible rfl
    try simp only [Act.put, List.getElem_toArray, List.getElem_cons_succ, List.getElem_cons_zero, List.setIfInBounds_toArray, List.set_cons_zero, List.set_cons_succ]
    refine wpAnyH_take (i := 3) (v := ?_) rfl (by kernel_rfl) (by kernel_rfl) (by kernel_rfl) (fun _ _ _ h => h) (Or.inl ⟨by rfl, ?_⟩) (by assumption) ?_
    rotate_left
    · intro w hSw
      (try dsimp only at hSw)
      go_simp
      first | done | with_reducible rfl
    try simp only [Act.put, List.getElem_toArray, List.getElem_cons_succ, List.getElem_cons_zero, List.setIfInBounds_toArray, List.set_cons_zero, List.set_cons_succ]
    refine wpAnyH_take (i := 4) (v := ?_) rfl (by kernel_rfl) (by kernel_rfl) (by kernel_rfl) (fun _ _ _ h => h) (Or.inl ⟨by rfl, ?_⟩) (by assumption) ?_
    rotate_left
    · intro w hSw
      (try dsimp only at hSw)
      go_simp
      first | done | with_reducible rfl
    try simp only [Act.put, List.getElem_toArray, List.getElem_cons_succ, List.getElem_cons_zero, List.setIfInBounds_toArray, List.set_cons_zero, List.set_cons_succ]
    refine wpAnyH_take (i := 5) (v := ?_) rfl (by kernel_rfl) (by kernel_rfl) (by kernel_rfl) (fun _ _ _ h => h) (Or.inl ⟨by rfl, ?_⟩) (by assumption) ?_
    rotate_left
    · intro w hSw
      (try dsimp only at hSw)
      go_simp
      first | done | with_reducible rfl
    try simp only [Act.put, List.getElem_toArray, List.getElem_cons_succ, List.getElem_cons_zero, List.setIfInBounds_toArray, List.set_cons_zero, List.set_cons_succ]
    refine wpAnyH_ready (rs := [6]) (by kernel_rfl) (by simp) ?_
    refine AllReadyH.cons rfl (fun K hK => ?_) AllReadyH.nil
    go_simp
    refine (Arm_r r Q S.D n w2.drew HX2d.out.1.2.1 HN.out.1 HN.out.2).mono ?_; rintro e w3 ⟨rfl, hR3, hS3⟩
    have hX3 := HX2d.out.callQ hR3 (LogIs.keep HX2d.out.2.2.2.2.2.2.1 hS3.1 HX2d.out.2.2.2.2.2.2.2.2.2.2.1) (StepL.of hS3)
    have hbx3 := (hX3.2.2 bx (heap_lt hbx2d) hQx hmx).trans hbx2d
    have hse3 : Sees w3 (.slice to t.length tc) t := hse2d.over' HB2d.out (HB2d.out.trans hX3.2.1) HTB0
    refine hK.out _ _ ?_ (fun r4 => ?_)
    · exact held7 hX3.1.2.1 hbx3 hse3
    try simp only [Act.put, List.getElem_toArray, List.getElem_cons_succ, List.getElem_cons_zero, List.setIfInBounds_toArray, List.set_cons_zero, List.set_cons_succ]
    refine wpAnyH_done (by kernel_rfl) ?_ _
    have hB3 : Below w0.heap.size w w3 := ((((HBx.out.trans ((belDrew wx).mono HX.out.1.size)).trans HX2.out.2.1)).trans ((belDrew w2).mono HX2.out.1.1.size)).trans hX3.2.1
    clear r3 r4
    go_wp2_with fail
    go_ret
    exact ⟨P, Q, l, m, ⟨_, S.size, S.dead⟩, rfl, hX3.1, HSm.out.mono (by omega), by simp only []; omega, hB3⟩
  have e4 : (k == 4) = false := by simpa using hk4
  by_cases hk5 : k = 5
  · subst hk5
    go_wp2_with fail
    refine wp_region_held_drew (S := (fun W => W.cell? ⟨bb, 0, none⟩ = some (ptr g) ∧ W.cell? ⟨bb, 1, none⟩ = some (ptr l) ∧ W.cell? ⟨bb, 2, none⟩ = some (ptr r) ∧ W.cell? ⟨bb, 3, none⟩ = some (ptr m) ∧ W.cell? ⟨bx, 2, none⟩ = some (.int .i64 n) ∧ W.cell? ⟨bx, 3, none⟩ = some (.slice ko ks.length kc) ∧ Sees W (.slice to t.length tc) t)) (by kernel_rfl) ?_ (fun r0 => ?_)
    · exact held7 HX.out.2.1 hbx hse
    refine wpAnyH_take (i := 0) (v := ?_) rfl (by kernel_rfl) (by kernel_rfl) (by kernel_rfl) (fun _ _ _ h => h) (Or.inl ⟨by rfl, ?_⟩) (by assumption) ?_
    rotate_left
    · intro w hSw
      (try dsimp only at hSw)
      go_simp
      first | done | with_reducible rfl
    try simp only [Act.put, List.getElem_toArray, List.getElem_cons_succ, List.getElem_cons_zero, List.setIfInBounds_toArray, List.set_cons_zero, List.set_cons_succ]
    refine wpAnyH_take (i := 1) (v := ?_) rfl (by kernel_rfl) (by kernel_rfl) (by kernel_rfl) (fun _ _ _ h => h) (Or.inl ⟨by rfl, ?_⟩) (by assumption) ?_
    rotate_left
    · intro w hSw
      (try dsimp only at hSw)
      go_simp
      first | done | with_reducible rfl
    try simp only [Act.put, List.getElem_toArray, List.getElem_cons_succ, List.getElem_cons_zero, List.setIfInBounds_toArray, List.set_cons_zero, List.set_cons_succ]
    refine wpAnyH_take (i := 2) (v := ?_) rfl (by kernel_rfl) (by kernel_rfl) (by kernel_rfl) (fun _ _ _ h => h) (Or.inl ⟨by rfl, ?_⟩) (by assumption) ?_
    rotate_left
    · intro w hSw
      (try dsimp only at hSw)
      go_simp
      first | done | with_reducible rfl
    try simp only [Act.put, List.getElem_toArray, List.getElem_cons_succ, List.getElem_cons_zero, List.setIfInBounds_toArray, List.set_cons_zero, List.set_cons_succ]
    refine wpAnyH_take (i := 3) (v := ?_) rfl (by kernel_rfl) (by kernel_rfl) (by kernel_rfl) (fun _ _ _ h => h) (Or.inl ⟨by rfl, ?_⟩) (by assumption) ?_
    rotate_left
    · intro w hSw
      (try dsimp only at hSw)
      go_simp
      first | done | with_reducible rfl
    try simp only [Act.put, List.getElem_toArray, List.getElem_cons_succ, List.getElem_cons_zero, List.setIfInBounds_toArray, List.set_cons_zero, List.set_cons_succ]
    refine wpAnyH_take (i := 4) (v := ?_) rfl (by kernel_rfl) (by kernel_rfl) (by kernel_rfl) (fun _ _ _ h => h) (Or.inl ⟨by rfl, ?_⟩) (by assumption) ?_
    rotate_left
    · intro w hSw
      (try dsimp only at hSw)
      go_simp
      first | done | with_reducible rfl
    try simp only [Act.put, List.getElem_toArray, List.getElem_cons_succ, List.getElem_cons_zero, List.setIfInBounds_toArray, List.set_cons_zero, List.set_cons_succ]
    refine wpAnyH_take (i := 5) (v := ?_) rfl (by kernel_rfl) (by kernel_rfl) (by kernel_rfl) (fun _ _ _ h => h) (Or.inl ⟨by rfl, ?_⟩) (by assumption) ?_
    rotate_left
    · intro w hSw
      (try dsimp only at hSw)
      go_simp
      first | done | with_reducible rfl
    try simp only [Act.put, List.getElem_toArray, List.getElem_cons_succ, List.getElem_cons_zero, List.setIfInBounds_toArray, List.set_cons_zero, List.set_cons_succ]
    have HXd := Lib.hid (HX.out.below (belDrew wx))
    have hbxd := ((belDrew wx).block bx (heap_lt hbx)).trans hbx
    have hsed := hse.keep (belDrew wx)
    have hBd := HBW.out.trans ((belDrew wx).mono HBW.out.size)
    refine wpAnyH_ready (rs := [6]) (by kernel_rfl) (by simp) ?_
    refine AllReadyH.cons rfl (fun K hK => ?_) AllReadyH.nil
    go_simp
    refine (crash_any g P S.D (.slice ko ks.length kc) ks wx.drew HXd.out.1.1 (by have := HSm.out.1; omega) (fun f hf => ⟨(HSm.out.2 f hf).1, by have := (HSm.out.2 f hf).2.1; omega⟩) (HKS.out.1.keep' (w' := wx.drew) (fun _ d _ hd => hBd.block d hd)) HKS.out.2.1 (fun h0 d hd hp => by have h1 := HKS.out.2.2 h0 d hd; have h2 := HX.out.1.2.2.2.1 d hp; omega)).mono ?_; rintro e w2 ⟨P2, rfl, hD2, hS2⟩
    have hX2 := HXd.out.callP hD2 (HXd.out.2.2.2.2.2.1.keep hS2.1 HXd.out.2.2.2.2.2.2.2.1) (StepL.of hS2)
    have hbx2 := (hX2.2.2 bx (heap_lt hbxd) hPx hlx).trans hbxd
    have hse2 : Sees w2 (.slice to t.length tc) t := hsed.over' hBd (hBd.trans hX2.2.1) HTB0
    refine hK.out _ _ ?_ (fun r1 => ?_)
    · exact held7 hX2.1.2.1 hbx2 hse2
    try simp only [Act.put, List.getElem_toArray, List.getElem_cons_succ, List.getElem_cons_zero, List.setIfInBounds_toArray, List.set_cons_zero, List.set_cons_succ]
    refine wpAnyH_done (by kernel_rfl) ?_ _
    have HX2d := Lib.hid (hX2.1.below (belDrew w2))
    have HB2d := Lib.hid ((hBd.trans hX2.2.1).trans ((belDrew w2).mono (hBd.trans hX2.2.1).size))
    have hbx2d := ((belDrew w2).block bx (heap_lt hbx2)).trans hbx2
    have hse2d := hse2.keep (belDrew w2)
    have HX2 := Lib.hid hX2
    clear r0 r1 hbxd hsed
    go_wp2_with fail
    refine wp_region_held_drew (S := (fun W => W.cell? ⟨bb, 0, none⟩ = some (ptr g) ∧ W.cell? ⟨bb, 1, none⟩ = some (ptr l) ∧ W.cell? ⟨bb, 2, none⟩ = some (ptr r) ∧ W.cell? ⟨bb, 3, none⟩ = some (ptr m) ∧ W.cell? ⟨bx, 2, none⟩ = some (.int .i64 n) ∧ W.cell? ⟨bx, 3, none⟩ = some (.slice ko ks.length kc) ∧ Sees W (.slice to t.length tc) t)) (by kernel_rfl) ?_ (fun r3 => ?_)
    · exact held7 HX2d.out.2.1 hbx2d hse2d
    refine wpAnyH_take (i := 0) (v := ?_) rfl (by kernel_rfl) (by kernel_rfl) (by kernel_rfl) (fun _ _ _ h => h) (Or.inl ⟨by rfl, ?_⟩) (by assumption) ?_
    rotate_left
    · intro w hSw
      (try dsimp only at hSw)
      go_simp
      first | done | with_reducible rfl
    try simp only [Act.put, List.getElem_toArray, List.getElem_cons_succ, List.getElem_cons_zero, List.setIfInBounds_toArray, List.set_cons_zero, List.set_cons_succ]
    refine wpAnyH_take (i := 1) (v := ?_) rfl (by kernel_rfl) (by kernel_rfl) (by kernel_rfl) (fun _ _ _ h => h) (Or.inl ⟨by rfl, ?_⟩) (by assumption) ?_
    rotate_left
    · intro w hSw
      (try dsimp only at hSw)
      go_simp
      first | done | with_reducible rfl
    try simp only [Act.put, List.getElem_toArray, List.getElem_cons_succ, List.getElem_cons_zero, List.setIfInBounds_toArray, List.set_cons_zero, List.set_cons_succ]
    refine wpAnyH_take (i := 2) (v := ?_) rfl (by kernel_rfl) (by kernel_rfl) (by kernel_rfl) (fun _ _ _ h => h) (Or.inl ⟨by rfl, ?_⟩) (by assumption) ?_
    rotate_left
    · intro w hSw
      (try dsimp only at hSw)
      go_simp
      first | done | with_reducible rfl
    try simp only [Act.put, List.getElem_toArray, List.getElem_cons_succ, List.getElem_cons_zero, List.setIfInBounds_toArray, List.set_cons_zero, List.set_cons_succ]
    refine wpAnyH_take (i := 3) (v := ?_) rfl (by kernel_rfl) (by kernel_rfl) (by kernel_rfl) (fun _ _ _ h => h) (Or.inl ⟨by rfl, ?_⟩) (by assumption) ?_
    rotate_left
    · intro w hSw
      (try dsimp only at hSw)
      go_simp
      first | done | with_reducible rfl
    try simp only [Act.put, List.getElem_toArray, List.getElem_cons_succ, List.getElem_cons_zero, List.setIfInBounds_toArray, List.set_cons_zero, List.set_cons_succ]
    refine wpAnyH_take (i := 4) (v := ?_) rfl (by kernel_rfl) (by kernel_rfl) (by kernel_rfl) (fun _ _ _ h => h) (Or.inl ⟨by rfl, ?_⟩) (by assumption) ?_
    rotate_left
    · intro w hSw
      (try dsimp only at hSw)
      go_simp
      first | done | with_reducible rfl
    try simp only [Act.put, List.getElem_toArray, List.getElem_cons_succ, List.getElem_cons_zero, List.setIfInBounds_toArray, List.set_cons_zero, List.set_cons_succ]
    refine wpAnyH_take (i := 5) (v := ?_) rfl (by kernel_rfl) (by kernel_rfl) (by kernel_rfl) (fun _ _ _ h => h) (Or.inl ⟨by rfl, ?_⟩) (by assumption) ?_
    rotate_left
    · intro w hSw
      (try dsimp only at hSw)
      go_simp
      first | done | with_reducible rfl
    try simp only [Act.put, List.getElem_toArray, List.getElem_cons_succ, List.getElem_cons_zero, List.setIfInBounds_toArray, List.set_cons_zero, List.set_cons_succ]
    refine wpAnyH_ready (rs := [6]) (by kernel_rfl) (by simp) ?_
    refine AllReadyH.cons rfl (fun K hK => ?_) AllReadyH.nil
    go_simp
    refine (Crash_r r Q S.D (.slice ko ks.length kc) ks w2.drew HX2d.out.1.2.1 (by have := HSm.out.1; omega) (fun f hf => ⟨(HSm.out.2 f hf).2.2, by have := (HSm.out.2 f hf).2.1; omega⟩) (HKS.out.1.keep' (w' := w2.drew) (fun _ d _ hd => HB2d.out.block d hd)) HKS.out.2.1).mono ?_; rintro e w3 ⟨Q3, rfl, hR3, hS3⟩
    have hX3 := HX2d.out.callQ hR3 (LogIs.keep HX2d.out.2.2.2.2.2.2.1 hS3.1 HX2d.out.2.2.2.2.2.2.2.2.2.2.1) (StepL.of hS3)
    have hbx3 := (hX3.2.2 bx (heap_lt hbx2d) hQx hmx).trans hbx2d
    have hse3 : Sees w3 (.slice to t.length tc) t := hse2d.over' HB2d.out (HB2d.out.trans hX3.2.1) HTB0
    refine hK.out _ _ ?_ (fun r4 => ?_)
    · exact held7 hX3.1.2.1 hbx3 hse3
    try simp only [Act.put, List.getElem_toArray, List.getElem_cons_succ, List.getElem_cons_zero, List.setIfInBounds_toArray, List.set_cons_zero, List.set_cons_succ]
    refine wpAnyH_done (by kernel_rfl) ?_ _
    have hB3 : Below w0.heap.size w w3 := ((((HBx.out.trans ((belDrew wx).mono HX.out.1.size)).trans HX2.out.2.1)).trans ((belDrew w2).mono HX2.out.1.1.size)).trans hX3.2.1
    have hsc := HSm.out.crash ks
    have HOP := Lib.hid (bopen_any w0.heap.size bb g P2 r Q3 (crashD S.D ks) (ptr l) (ptr m) c w0 w3 ⟨hX3.1.1, hX3.1.2.1, hX3.1.2.2.1, hX3.1.2.2.2.1, hX3.1.2.2.2.2.1⟩ hsc (by omega) ⟨_, rfl⟩ ⟨_, rfl⟩ rfl hE (HB2d.out.trans hX3.2.1))
    have HX3 := Lib.hid hX3.1
    have HB3 := Lib.hid hB3
    clear r3 r4 hX3 hB3
    go_wp2_with fail
    refine HOP.out.mono ?_; rintro e w4 hop
    have hfin := step_open (S := S) HX3.out HB3.out (by omega) hsz hop
    obtain ⟨_, _, _, rfl, _⟩ := hop
    have HFIN := Lib.hid hfin
    clear hfin
    go_wp2_with fail
    go_ret
    exact HFIN.out
  have e5 : (k == 5) = false := by simpa using hk5
  by_cases hk6 : k = 6
  · subst hk6
    have HOP := Lib.hid (bopen_any w0.heap.size bb g P r Q S.D (ptr l) (ptr m) c w0 wx ⟨HX.out.1, HX.out.2.1, HX.out.2.2.1, HX.out.2.2.2.1, HX.out.2.2.2.2.1⟩ HSm.out (by omega) ⟨_, rfl⟩ ⟨_, rfl⟩ rfl hE HBW.out)
    go_wp2_with fail
    refine HOP.out.mono ?_; rintro e w4 hop
    have hfin := step_open (S := S) HX.out HBx.out (by omega) hsz hop
    obtain ⟨_, _, _, rfl, _⟩ := hop
    have HFIN := Lib.hid hfin
    clear hfin
    go_wp2_with fail
    go_ret
    exact HFIN.out
  have e6 : (k == 6) = false := by simpa using hk6
  by_cases hk7 : k = 7
  · subst hk7
    go_wp2_with fail
    refine wp_region_held_drew (S := (fun W => W.cell? ⟨bb, 0, none⟩ = some (ptr g) ∧ W.cell? ⟨bb, 1, none⟩ = some (ptr l) ∧ W.cell? ⟨bb, 2, none⟩ = some (ptr r) ∧ W.cell? ⟨bb, 3, none⟩ = some (ptr m) ∧ W.cell? ⟨bx, 2, none⟩ = some (.int .i64 n) ∧ W.cell? ⟨bx, 3, none⟩ = some (.slice ko ks.length kc) ∧ Sees W (.slice to t.length tc) t)) (by kernel_rfl) ?_ (fun r0 => ?_)
    · exact held7 HX.out.2.1 hbx hse
    refine wpAnyH_take (i := 0) (v := ?_) rfl (by kernel_rfl) (by kernel_rfl) (by kernel_rfl) (fun _ _ _ h => h) (Or.inl ⟨by rfl, ?_⟩) (by assumption) ?_
    rotate_left
    · intro w hSw
      (try dsimp only at hSw)
      go_simp
      first | done | with_reducible rfl
    try simp only [Act.put, List.getElem_toArray, List.getElem_cons_succ, List.getElem_cons_zero, List.setIfInBounds_toArray, List.set_cons_zero, List.set_cons_succ]
    refine wpAnyH_take (i := 1) (v := ?_) rfl (by kernel_rfl) (by kernel_rfl) (by kernel_rfl) (fun _ _ _ h => h) (Or.inl ⟨by rfl, ?_⟩) (by assumption) ?_
    rotate_left
    · intro w hSw
      (try dsimp only at hSw)
      go_simp
      first | done | with_reducible rfl
    try simp only [Act.put, List.getElem_toArray, List.getElem_cons_succ, List.getElem_cons_zero, List.setIfInBounds_toArray, List.set_cons_zero, List.set_cons_succ]
    refine wpAnyH_take (i := 2) (v := ?_) rfl (by kernel_rfl) (by kernel_rfl) (by kernel_rfl) (fun _ _ _ h => h) (Or.inl ⟨by rfl, ?_⟩) (by assumption) ?_
    rotate_left
    · intro w hSw
      (try dsimp only at hSw)
      go_simp
      first | done | with_reducible rfl
    try simp only [Act.put, List.getElem_toArray, List.getElem_cons_succ, List.getElem_cons_zero, List.setIfInBounds_toArray, List.set_cons_zero, List.set_cons_succ]
    refine wpAnyH_take (i := 3) (v := ?_) rfl (by kernel_rfl) (by kernel_rfl) (by kernel_rfl) (fun _ _ _ h => h) (Or.inl ⟨by rfl, ?_⟩) (by assumption) ?_
    rotate_left
    · intro w hSw
      (try dsimp only at hSw)
      go_simp
      first | done | with_reducible rfl
    try simp only [Act.put, List.getElem_toArray, List.getElem_cons_succ, List.getElem_cons_zero, List.setIfInBounds_toArray, List.set_cons_zero, List.set_cons_succ]
    refine wpAnyH_take (i := 4) (v := ?_) rfl (by kernel_rfl) (by kernel_rfl) (by kernel_rfl) (fun _ _ _ h => h) (Or.inl ⟨by rfl, ?_⟩) (by assumption) ?_
    rotate_left
    · intro w hSw
      (try dsimp only at hSw)
      go_simp
      first | done | with_reducible rfl
    try simp only [Act.put, List.getElem_toArray, List.getElem_cons_succ, List.getElem_cons_zero, List.setIfInBounds_toArray, List.set_cons_zero, List.set_cons_succ]
    refine wpAnyH_take (i := 6) (v := ?_) rfl (by kernel_rfl) (by kernel_rfl) (by kernel_rfl) (fun _ _ _ h => h) (Or.inl ⟨by rfl, ?_⟩) (by assumption) ?_
    rotate_left
    · intro w hSw
      (try dsimp only at hSw)
      go_simp
      first | done | with_reducible rfl
    try simp only [Act.put, List.getElem_toArray, List.getElem_cons_succ, List.getElem_cons_zero, List.setIfInBounds_toArray, List.set_cons_zero, List.set_cons_succ]
    refine wpAnyH_take (i := 7) (v := ?_) rfl (by kernel_rfl) (by kernel_rfl) (by kernel_rfl) (fun _ _ _ h => h) (Or.inl ⟨by rfl, ?_⟩) (by assumption) ?_
    rotate_left
    · intro w hSw
      (try dsimp only at hSw)
      go_simp
      first | done | with_reducible rfl
    try simp only [Act.put, List.getElem_toArray, List.getElem_cons_succ, List.getElem_cons_zero, List.setIfInBounds_toArray, List.set_cons_zero, List.set_cons_succ]
    refine wpAnyH_take (i := 8) (v := ?_) rfl (by kernel_rfl) (by kernel_rfl) (by kernel_rfl) (fun _ _ _ h => h) (Or.inl ⟨by rfl, ?_⟩) (by assumption) ?_
    rotate_left
    · intro w hSw
      (try dsimp only at hSw)
      go_simp
      first | done | with_reducible rfl
    try simp only [Act.put, List.getElem_toArray, List.getElem_cons_succ, List.getElem_cons_zero, List.setIfInBounds_toArray, List.set_cons_zero, List.set_cons_succ]
    refine wpAnyH_take (i := 9) (v := ?_) rfl (by kernel_rfl) (by kernel_rfl) (by kernel_rfl) (fun _ _ _ h => h) (Or.inl ⟨by rfl, ?_⟩) (by assumption) ?_
    rotate_left
    · intro w hSw
      (try dsimp only at hSw)
      go_simp
      first | done | with_reducible rfl
    try simp only [Act.put, List.getElem_toArray, List.getElem_cons_succ, List.getElem_cons_zero, List.setIfInBounds_toArray, List.set_cons_zero, List.set_cons_succ]
    refine wpAnyH_take (i := 10) (v := ?_) rfl (by kernel_rfl) (by kernel_rfl) (by kernel_rfl) (fun _ _ _ h => h) (Or.inl ⟨by rfl, ?_⟩) (by assumption) ?_
    rotate_left
    · intro w hSw
      (try dsimp only at hSw)
      go_simp
      first | done | with_reducible rfl
    try simp only [Act.put, List.getElem_toArray, List.getElem_cons_succ, List.getElem_cons_zero, List.setIfInBounds_toArray, List.set_cons_zero, List.set_cons_succ]
    refine wpAnyH_take (i := 11) (v := ?_) rfl (by kernel_rfl) (by kernel_rfl) (by kernel_rfl) (fun _ _ _ h => h) (Or.inl ⟨by rfl, ?_⟩) (by assumption) ?_
    rotate_left
    · intro w hSw
      (try dsimp only at hSw)
      have q1 := conv_sees hSw.2.2.2.2.2.2
      go_simp
      first | done | with_reducible rfl
    try simp only [Act.put, List.getElem_toArray, List.getElem_cons_succ, List.getElem_cons_zero, List.setIfInBounds_toArray, List.set_cons_zero, List.set_cons_succ]
    have HXd := Lib.hid (HX.out.below (belDrew wx))
    have hbxd := ((belDrew wx).block bx (heap_lt hbx)).trans hbx
    have hsed := hse.keep (belDrew wx)
    refine wpAnyH_ready (rs := [5]) (by kernel_rfl) (by simp) ?_
    refine AllReadyH.cons rfl (fun K hK => ?_) AllReadyH.nil
    go_simp
    refine (append_any g P S.D nW _ t wx.drew HXd.out.1.1 (by decide) (by decide) (by have := HSm.out.1; omega) (by have := (HSm.out.getD nW.data.toList).1; omega) hsed HTO.out (fun h0 d hd e => by have h1 := HTB0 d hd h0; have h2 := HX.out.1.2.2.2.1 g HX.out.1.1.self; omega)).mono ?_; rintro e w2 ⟨P2, rfl, hD2, hS2⟩
    have hX2 := HXd.out.callP hD2 (HXd.out.2.2.2.2.2.1.keep hS2.1 HXd.out.2.2.2.2.2.2.2.1) (StepL.of hS2)
    have hbx2 := (hX2.2.2 bx (heap_lt hbxd) hPx hlx).trans hbxd
    have hse2 : Sees w2 (.slice to t.length tc) t := hsed.over' (HBW.out.trans ((belDrew wx).mono HBW.out.size)) ((HBW.out.trans ((belDrew wx).mono HBW.out.size)).trans hX2.2.1) HTB0
    refine hK.out _ _ ?_ (fun r1 => ?_)
    · exact held7 hX2.1.2.1 hbx2 hse2
    try simp only [Act.put, List.getElem_toArray, List.getElem_cons_succ, List.getElem_cons_zero, List.setIfInBounds_toArray, List.set_cons_zero, List.set_cons_succ]
    refine wpAnyH_ready (rs := [12]) (by kernel_rfl) (by simp) ?_
    refine AllReadyH.cons rfl (fun K hK => ?_) AllReadyH.nil
    go_simp
    refine (Append_r r Q S.D nW t w2 hX2.1.1.2.1 (by decide) (by have := HSm.out.1; omega) (by have := (HSm.out.getD nW.data.toList).1; omega)).mono ?_; rintro e w3 ⟨Q3, rfl, hR3, hS3⟩
    have hX3 := hX2.1.callQ hR3 (LogIs.keep hX2.1.2.2.2.2.2.2.1 hS3.1 hX2.1.2.2.2.2.2.2.2.2.2.2.1) (StepL.of hS3)
    have hbx3 := (hX3.2.2 bx (heap_lt hbx2) hQx hmx).trans hbx2
    have hse3 : Sees w3 (.slice to t.length tc) t := hse2.over' ((HBW.out.trans ((belDrew wx).mono HBW.out.size)).trans hX2.2.1) (((HBW.out.trans ((belDrew wx).mono HBW.out.size)).trans hX2.2.1).trans hX3.2.1) HTB0
    refine hK.out _ _ ?_ (fun r2 => ?_)
    · exact held7 hX3.1.2.1 hbx3 hse3
    try simp only [Act.put, List.getElem_toArray, List.getElem_cons_succ, List.getElem_cons_zero, List.setIfInBounds_toArray, List.set_cons_zero, List.set_cons_succ]
    refine wpAnyH_take (i := 13) (v := ?_) rfl (by kernel_rfl) (by kernel_rfl) (by kernel_rfl) (fun _ _ _ h => h) (Or.inl ⟨by rfl, ?_⟩) (by assumption) ?_
    rotate_left
    · intro w hSw
      (try dsimp only at hSw)
      go_simp
      first | done | with_reducible rfl
    try simp only [Act.put, List.getElem_toArray, List.getElem_cons_succ, List.getElem_cons_zero, List.setIfInBounds_toArray, List.set_cons_zero, List.set_cons_succ]
    refine wpAnyH_take (i := 14) (v := ?_) rfl (by kernel_rfl) (by kernel_rfl) (by kernel_rfl) (fun _ _ _ h => h) (Or.inl ⟨by rfl, ?_⟩) (by assumption) ?_
    rotate_left
    · intro w hSw
      (try dsimp only at hSw)
      go_simp
      first | done | with_reducible rfl
    try simp only [Act.put, List.getElem_toArray, List.getElem_cons_succ, List.getElem_cons_zero, List.setIfInBounds_toArray, List.set_cons_zero, List.set_cons_succ]
    refine wpAnyH_done (by kernel_rfl) ?_ _
    go_wp2_with fail
    go_ret
    have hsm := HSm.out.app (k := nW.data.toList) (by decide) (t := t) (by omega)
    exact ⟨P2, Q3, l, m, ⟨_, S.size, S.dead⟩, by rfl, hX3.1, hsm.mono (by omega), by simp only []; omega, ((HBx.out.trans ((belDrew wx).mono HX.out.1.size)).trans hX2.2.1).trans hX3.2.1⟩
  have e7 : (k == 7) = false := by simpa using hk7
  go_wp2_with fail
  go_ret
  exact ⟨P, Q, l, m, S, rfl, HX.out, HSm.out.mono (by omega), by omega, HBx.out⟩
end Go.Proofs.YtkjdfelmjanpcaaDoor
