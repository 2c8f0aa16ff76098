/- The laws' chain: what it hears is kept, and the next thing asked. -/
import Derived.Test.YtholgmcfgnifdaaMc
namespace Go.Proofs.Ytholgmcfgnifdaa
open Go.RowKit Go.Maps
set_option maxRecDepth 100000 in
set_option maxHeartbeats 4000000 in
theorem next_no (gc gp : Nat) (lv tv : Value) (os : List KOp) (t : Nat) (w : World) (hc : w.heap[gc]? = some (chainO gp lv tv)) (hl : SeesO w lv os) (ht : ∃ ao c, tv = .slice ao t c) (hlt : ¬ t < os.length) :
    Calls Try.prog 8 #[ptr gc] w fun e w' => e = .returned (.tuple #[]) ∧ Below w.heap.size w w' := by
  obtain ⟨ao, c, rfl⟩ := ht
  obtain ⟨bo, bc, rfl⟩ := hl.slice
  obtain ⟨c0, c1, c2⟩ := chcells hc
  have d1 : decide ((t : Int) < (os.length : Int)) = false := by simp; omega
  have h2 : ¬ ((t : Int) < (os.length : Int)) := by omega
  clear hc hl hlt
  go_enter Try.func8, Try.ntmps8
  go_upto_region 0 with fail
  refine wp_region_held_drew (S := (fun W => Below w.heap.size w W)) (by kernel_rfl) ?_ (fun r0 => ?_)
  · exact ⟨rfl, rfl, rfl, Nat.le_refl _, fun _ _ => rfl⟩
  refine wpAnyH_take (i := 0) (v := ?_) rfl (by kernel_rfl) (by kernel_rfl) (by kernel_rfl) (fun _ _ _ h => h) (Or.inl ⟨by rfl, ?_⟩) (by assumption) ?_
  rotate_left
  · intro wS hSw
    (try dsimp only at hSw)
    go_simp
    first | done | with_reducible rfl
  try simp only [Act.put, List.getElem_toArray, List.getElem_cons_succ, List.getElem_cons_zero, List.setIfInBounds_toArray, List.set_cons_zero, List.set_cons_succ]
  refine wpAnyH_take (i := 1) (v := ?_) rfl (by kernel_rfl) (by kernel_rfl) (by kernel_rfl) (fun _ _ _ h => h) (Or.inl ⟨by rfl, ?_⟩) (by assumption) ?_
  rotate_left
  · intro wS hSw
    (try dsimp only at hSw)
    go_simp
    first | done | with_reducible rfl
  try simp only [Act.put, List.getElem_toArray, List.getElem_cons_succ, List.getElem_cons_zero, List.setIfInBounds_toArray, List.set_cons_zero, List.set_cons_succ]
  refine wpAnyH_take (i := 2) (v := ?_) rfl (by kernel_rfl) (by kernel_rfl) (by kernel_rfl) (fun _ _ _ h => h) (Or.inl ⟨by rfl, ?_⟩) (by assumption) ?_
  rotate_left
  · intro wS hSw
    (try dsimp only at hSw)
    go_simp
    first | done | with_reducible rfl
  try simp only [Act.put, List.getElem_toArray, List.getElem_cons_succ, List.getElem_cons_zero, List.setIfInBounds_toArray, List.set_cons_zero, List.set_cons_succ]
  refine wpAnyH_take (i := 3) (v := ?_) rfl (by kernel_rfl) (by kernel_rfl) (by kernel_rfl) (fun _ _ _ h => h) (Or.inl ⟨by rfl, ?_⟩) (by assumption) ?_
  rotate_left
  · intro wS hSw
    (try dsimp only at hSw)
    have c0 := bcell hSw c0
    have c1 := bcell hSw c1
    have c2 := bcell hSw c2
    go_simp
    first | done | with_reducible rfl
  try simp only [Act.put, List.getElem_toArray, List.getElem_cons_succ, List.getElem_cons_zero, List.setIfInBounds_toArray, List.set_cons_zero, List.set_cons_succ]
  refine wpAnyH_take (i := 4) (v := ?_) rfl (by kernel_rfl) (by kernel_rfl) (by kernel_rfl) (fun _ _ _ h => h) (Or.inl ⟨by rfl, ?_⟩) (by assumption) ?_
  rotate_left
  · intro wS hSw
    (try dsimp only at hSw)
    go_simp
    first | done | with_reducible rfl
  try simp only [Act.put, List.getElem_toArray, List.getElem_cons_succ, List.getElem_cons_zero, List.setIfInBounds_toArray, List.set_cons_zero, List.set_cons_succ]
  refine wpAnyH_take (i := 5) (v := ?_) rfl (by kernel_rfl) (by kernel_rfl) (by kernel_rfl) (fun _ _ _ h => h) (Or.inl ⟨by rfl, ?_⟩) (by assumption) ?_
  rotate_left
  · intro wS hSw
    (try dsimp only at hSw)
    go_simp
    first | done | with_reducible rfl
  try simp only [Act.put, List.getElem_toArray, List.getElem_cons_succ, List.getElem_cons_zero, List.setIfInBounds_toArray, List.set_cons_zero, List.set_cons_succ]
  refine wpAnyH_take (i := 6) (v := ?_) rfl (by kernel_rfl) (by kernel_rfl) (by kernel_rfl) (fun _ _ _ h => h) (Or.inl ⟨by rfl, ?_⟩) (by assumption) ?_
  rotate_left
  · intro wS hSw
    (try dsimp only at hSw)
    go_simp
    first | done | with_reducible rfl
  try simp only [Act.put, List.getElem_toArray, List.getElem_cons_succ, List.getElem_cons_zero, List.setIfInBounds_toArray, List.set_cons_zero, List.set_cons_succ]
  refine wpAnyH_take (i := 7) (v := ?_) rfl (by kernel_rfl) (by kernel_rfl) (by kernel_rfl) (fun _ _ _ h => h) (Or.inl ⟨by rfl, ?_⟩) (by assumption) ?_
  rotate_left
  · intro wS hSw
    (try dsimp only at hSw)
    go_simp
    first | done | with_reducible rfl
  try simp only [Act.put, List.getElem_toArray, List.getElem_cons_succ, List.getElem_cons_zero, List.setIfInBounds_toArray, List.set_cons_zero, List.set_cons_succ]
  refine wpAnyH_take (i := 8) (v := ?_) rfl (by kernel_rfl) (by kernel_rfl) (by kernel_rfl) (fun _ _ _ h => h) (Or.inl ⟨by rfl, ?_⟩) (by assumption) ?_
  rotate_left
  · intro wS hSw
    (try dsimp only at hSw)
    have c0 := bcell hSw c0
    have c1 := bcell hSw c1
    have c2 := bcell hSw c2
    go_simp
    first | done | with_reducible rfl
  try simp only [Act.put, List.getElem_toArray, List.getElem_cons_succ, List.getElem_cons_zero, List.setIfInBounds_toArray, List.set_cons_zero, List.set_cons_succ]
  refine wpAnyH_take (i := 9) (v := ?_) rfl (by kernel_rfl) (by kernel_rfl) (by kernel_rfl) (fun _ _ _ h => h) (Or.inl ⟨by rfl, ?_⟩) (by assumption) ?_
  rotate_left
  · intro wS hSw
    (try dsimp only at hSw)
    go_simp
    first | done | with_reducible rfl
  try simp only [Act.put, List.getElem_toArray, List.getElem_cons_succ, List.getElem_cons_zero, List.setIfInBounds_toArray, List.set_cons_zero, List.set_cons_succ]
  refine wpAnyH_take (i := 10) (v := ?_) rfl (by kernel_rfl) (by kernel_rfl) (by kernel_rfl) (fun _ _ _ h => h) (Or.inl ⟨by rfl, ?_⟩) (by assumption) ?_
  rotate_left
  · intro wS hSw
    (try dsimp only at hSw)
    go_simp
    first | done | with_reducible rfl
  try simp only [Act.put, List.getElem_toArray, List.getElem_cons_succ, List.getElem_cons_zero, List.setIfInBounds_toArray, List.set_cons_zero, List.set_cons_succ]
  refine wpAnyH_done (by kernel_rfl) ?_ _
  go_wp2_with fail
  go_end0
  exact ⟨rfl, r0⟩
/-- The chain, its operations, what it was told, all but what its procedure asks; what it was told lies in blocks from B on, all else below. -/
def ChR (w : World) (B gc gp : Nat) (os : List KOp) (lv : Value) (T : List TEnt) (tv : Value) : Prop :=
  w.heap[gc]? = some (chainO gp lv tv) ∧ SeesO w lv os ∧ RowT w B tv T ∧ gc ≠ gp ∧ gc < B ∧ gp < B ∧ (∀ d, lv.ownBlock = some d → d ≠ gp ∧ d ≠ gc ∧ d < B) ∧ B ≤ w.heap.size
/-- What turns of it. -/
def Ztn (gc gp : Nat) (tv : Value) (i : Nat) : Prop := i = gp ∨ i = gc ∨ tv.ownBlock = some i
theorem ChR.keep {w w' : World} {B gc gp : Nat} {os : List KOp} {lv : Value} {T : List TEnt} {tv : Value} {Q : Nat → Prop} (h : ChR w B gc gp os lv T tv) (ht : Touch Q w w') (h1 : ¬ Q gc) (h2 : ∀ d, lv.ownBlock = some d → ¬ Q d) (h3 : ∀ d, tv.ownBlock = some d → ¬ Q d) : ChR w' B gc gp os lv T tv := by
  obtain ⟨c, l, r, a1, a2, a3, a4, a5⟩ := h
  exact ⟨(ht.2.2.2.2 gc (heap_lt c) h1).trans c, l.keep (fun d hd hlt => ht.2.2.2.2 d hlt (h2 d hd)), r.keep (fun d hd hlt => ht.2.2.2.2 d hlt (h3 d hd)), a1, a2, a3, a4, Nat.le_trans a5 ht.2.2.2.1⟩
theorem ChR.below {w w' : World} {B gc gp : Nat} {os : List KOp} {lv : Value} {T : List TEnt} {tv : Value} (h : ChR w B gc gp os lv T tv) (hb : Below w.heap.size w w') : ChR w' B gc gp os lv T tv :=
  h.keep (Touch.of_below (fun _ => False) hb) (fun h => h) (fun _ _ h => h) (fun _ _ h => h)
theorem ChR.proc {w w' : World} {B gc gp : Nat} {os : List KOp} {lv : Value} {T : List TEnt} {tv : Value} (h : ChR w B gc gp os lv T tv) (ht : Touch (· = gp) w w') : ChR w' B gc gp os lv T tv :=
  h.keep ht h.2.2.2.1 (fun d hd e => (h.2.2.2.2.2.2.1 d hd).1 e) (fun d hd e => by have := (h.2.2.1.form d hd).1; have := h.2.2.2.2.2.1; omega)
theorem next_any (B gc gp : Nat) (lv tv : Value) (os : List KOp) (T : List TEnt) (n : Int) (w : World) (h : ChR w B gc gp os lv T tv) (hp : ProcAt w gp opZ false .nilFunc n) (hlm : os.length ≤ 1000000) :
    Calls Try.prog 8 #[ptr gc] w fun e w' => e = .returned (.tuple #[]) ∧ ProcAt w' gp (nextO os T.length) (decide (T.length < os.length)) (nextF gc os T.length) n ∧ Touch (· = gp) w w' := by
  unfold nextO nextF
  by_cases hlt : T.length < os.length
  · rw [if_pos hlt, if_pos hlt, decide_eq_true hlt]
    exact next_yes gc gp lv tv os T.length opZ false .nilFunc n w h.1 hp h.2.1 h.2.2.1.slice hlt hlm h.2.2.2.1 (fun d hd => (h.2.2.2.2.2.2.1 d hd).1)
  · rw [if_neg hlt, if_neg hlt, decide_eq_false hlt]
    exact (next_no gc gp lv tv os T.length w h.1 h.2.1 h.2.2.1.slice hlt).mono fun e w' ⟨he, hb⟩ => ⟨he, hp.below hb, Touch.of_below (· = gp) hb⟩
theorem chset {w : World} {gc gp : Nat} {lv tv : Value} (h : w.heap[gc]? = some (chainO gp lv tv)) (v : Value) : (w.setCell ⟨gc, 2, none⟩ v).heap[gc]? = some (chainO gp lv v) := dset h 2 v
set_option maxRecDepth 100000 in
set_option maxHeartbeats 4000000 in
theorem hear_any (B gc gp : Nat) (lv tv : Value) (os : List KOp) (T : List TEnt) (n : Int) (p : TEnt) (w : World) (h : ChR w B gc gp os lv T tv) (hp : ProcAt w gp opZ false .nilFunc n) (hlm : os.length ≤ 1000000) (hT : T.length ≤ 1000000) :
    Calls Try.prog 24 #[ptr gc, resV p.1.1 p.1.2.1 p.1.2.2 (.slice p.2.1 p.2.2.1 p.2.2.2)] w fun e w' => e = .returned (.tuple #[]) ∧ ∃ tv', ChR w' B gc gp os lv (T ++ [p]) tv' ∧ ProcAt w' gp (nextO os (T.length + 1)) (decide (T.length + 1 < os.length)) (nextF gc os (T.length + 1)) n ∧ Touch (Ztn gc gp tv) w w' ∧ ∀ d, tv'.ownBlock = some d → tv.ownBlock = some d ∨ w.heap.size ≤ d := by
  obtain ⟨⟨code, rev, val⟩, io, iN, ic⟩ := p
  obtain ⟨W, hW⟩ : ∃ W, W = w.alloc (resO code rev val (.slice io iN ic)) := ⟨_, rfl⟩
  have hb0 := belNew w (resO code rev val (.slice io iN ic))
  have hB := heap_alloc_new w (resO code rev val (.slice io iN ic))
  rw [← hW] at hb0 hB
  have HX := Lib.hid (And.intro hb0 (And.intro (h.below hb0) (And.intro (hp.below hb0) (And.intro hB h))))
  obtain ⟨ao, c, rfl⟩ := h.2.2.1.slice
  have HL := Lib.hid (And.intro hlm hT)
  have HW := Lib.hid hW
  generalize hNT : T.length = NT at *
  have HNT := Lib.hid hNT
  clear hb0 hB h hp hW hlm hT hNT
  go_enter Try.func24, Try.ntmps24
  go_upto_region 1 with fail
  change Code.wp _ _ _ _ (w.alloc (resO code rev val (.slice io iN ic)))
  rw [← HW.out]
  clear HW
  refine wp_region_held_drew (S := (fun X => X.heap[w.heap.size]? = some (resO code rev val (.slice io iN ic)))) (by kernel_rfl) ?_ (fun r0 => ?_)
  · exact HX.out.2.2.2.1
  obtain ⟨wd, hwd⟩ : ∃ wd, wd = W.drew := ⟨_, rfl⟩
  rw [← hwd] at r0 ⊢
  have hbd : Below W.heap.size W wd := by rw [hwd]; exact bdrew (Below.refl _ _)
  have HD := Lib.hid (And.intro (bel HX.out.1 hbd) (And.intro (HX.out.2.1.below hbd) (HX.out.2.2.1.below hbd)))
  clear hwd hbd
  refine wpAnyH_take (i := 0) (v := ?_) rfl (by kernel_rfl) (by kernel_rfl) (by kernel_rfl) (fun _ _ _ h => h) (Or.inl ⟨by rfl, ?_⟩) (by assumption) ?_
  rotate_left
  · intro wS hSw
    (try dsimp only at hSw)
    go_simp
    first | done | with_reducible rfl
  try simp only [Act.put, List.getElem_toArray, List.getElem_cons_succ, List.getElem_cons_zero, List.setIfInBounds_toArray, List.set_cons_zero, List.set_cons_succ]
  refine wpAnyH_take (i := 1) (v := ?_) rfl (by kernel_rfl) (by kernel_rfl) (by kernel_rfl) (fun _ _ _ h => h) (Or.inl ⟨by rfl, ?_⟩) (by assumption) ?_
  rotate_left
  · intro wS hSw
    (try dsimp only at hSw)
    go_simp
    first | done | with_reducible rfl
  try simp only [Act.put, List.getElem_toArray, List.getElem_cons_succ, List.getElem_cons_zero, List.setIfInBounds_toArray, List.set_cons_zero, List.set_cons_succ]
  refine wpAnyH_take (i := 2) (v := ?_) rfl (by kernel_rfl) (by kernel_rfl) (by kernel_rfl) (fun _ _ _ h => h) (Or.inl ⟨by rfl, ?_⟩) (by assumption) ?_
  rotate_left
  · intro wS hSw
    (try dsimp only at hSw)
    go_simp
    first | done | with_reducible rfl
  try simp only [Act.put, List.getElem_toArray, List.getElem_cons_succ, List.getElem_cons_zero, List.setIfInBounds_toArray, List.set_cons_zero, List.set_cons_succ]
  refine wpAnyH_take (i := 3) (v := ?_) rfl (by kernel_rfl) (by kernel_rfl) (by kernel_rfl) (fun _ _ _ h => h) (Or.inl ⟨by rfl, ?_⟩) (by assumption) ?_
  rotate_left
  · intro wS hSw
    (try dsimp only at hSw)
    go_simp
    first | done | with_reducible rfl
  try simp only [Act.put, List.getElem_toArray, List.getElem_cons_succ, List.getElem_cons_zero, List.setIfInBounds_toArray, List.set_cons_zero, List.set_cons_succ]
  refine wpAnyH_take (i := 5) (v := ?_) rfl (by kernel_rfl) (by kernel_rfl) (by kernel_rfl) (fun _ _ _ h => h) (Or.inl ⟨by rfl, ?_⟩) (by assumption) ?_
  rotate_left
  · intro wS hSw
    (try dsimp only at hSw)
    obtain ⟨m0, m1, m2, m3, -⟩ := four hSw
    go_simp
    first | done | with_reducible rfl
  try simp only [Act.put, List.getElem_toArray, List.getElem_cons_succ, List.getElem_cons_zero, List.setIfInBounds_toArray, List.set_cons_zero, List.set_cons_succ]
  refine wpAnyH_ready (rs := [4, 6]) (by kernel_rfl) (by simp) ?_
  refine AllReadyH.cons rfl (fun K hK => ?_) (AllReadyH.cons rfl (fun K hK => ?_) AllReadyH.nil)
  · obtain ⟨c0, c1, c2⟩ := chcells HD.out.2.1.1
    go_simp
    refine hK.out _ _ ?_ (fun _ => ?_)
    · exact r0
    try simp only [Act.put, List.getElem_toArray, List.getElem_cons_succ, List.getElem_cons_zero, List.setIfInBounds_toArray, List.set_cons_zero, List.set_cons_succ]
    clear c0 c1 c2
    refine wpAnyH_ready (rs := [6]) (by kernel_rfl) (by simp) ?_
    refine AllReadyH.cons rfl (fun K hK => ?_) AllReadyH.nil
    go_simp
    refine hK.out _ _ ?_ (fun r1 => ?_)
    · exact ((belNew wd _).block _ (heap_lt r0)).trans r0
    try simp only [Act.put, List.getElem_toArray, List.getElem_cons_succ, List.getElem_cons_zero, List.setIfInBounds_toArray, List.set_cons_zero, List.set_cons_succ]
    refine wpAnyH_ready (rs := [7]) (by kernel_rfl) (by simp) ?_
    refine AllReadyH.cons rfl (fun K hK => ?_) AllReadyH.nil
    rw [if_pos (by kernel_rfl)]
    refine wp_pushG (w0 := wd) (T := 30) (E := 49) (enc := encT) Try.underlying30 infoT rfl (by decide) (by decide) encT_len encT_one (.tmp 8) (.tmp 10) rfl B (.slice ao NT c) T ((code, rev, val), (io, iN, ic)) wd.heap.size rfl rfl rfl HD.out.2.1.2.2.1 (by rw [HNT.out]; have := HL.out.2; omega) HD.out.2.1.2.2.2.2.2.2.2 (fun v2 w2 hrow2 hb2 hg2 hat2 => ?_)
    have hgc := (hb2.block gc HD.out.2.1.2.2.2.2.1).trans HD.out.2.1.1
    have hrb := (hg2.block w.heap.size (heap_lt r0) (fun e => by have := (HX.out.2.2.2.2.2.2.1.form _ e.symm).2; omega)).trans r0
    have hp2 := HD.out.2.2.keep (hb2.block gp HD.out.2.1.2.2.2.2.2.1)
    refine hK.out _ _ ?_ (fun r2 => ?_)
    · exact hrb
    try simp only [Act.put, List.getElem_toArray, List.getElem_cons_succ, List.getElem_cons_zero, List.setIfInBounds_toArray, List.set_cons_zero, List.set_cons_succ]
    refine wpAnyH_take (i := 8) (v := ?_) rfl (by kernel_rfl) (by kernel_rfl) (by kernel_rfl) (fun _ _ _ h => h) (Or.inl ⟨by rfl, ?_⟩) (by assumption) ?_
    rotate_left
    · intro wS hSw
      (try dsimp only at hSw)
      go_simp
      first | done | with_reducible rfl
    try simp only [Act.put, List.getElem_toArray, List.getElem_cons_succ, List.getElem_cons_zero, List.setIfInBounds_toArray, List.set_cons_zero, List.set_cons_succ]
    refine wpAnyH_take (i := 9) (v := ?_) rfl (by kernel_rfl) (by kernel_rfl) (by kernel_rfl) (fun _ _ _ h => h) (Or.inl ⟨by rfl, ?_⟩) (by assumption) ?_
    rotate_left
    · intro wS hSw
      (try dsimp only at hSw)
      go_simp
      first | done | with_reducible rfl
    try simp only [Act.put, List.getElem_toArray, List.getElem_cons_succ, List.getElem_cons_zero, List.setIfInBounds_toArray, List.set_cons_zero, List.set_cons_succ]
    refine wpAnyH_ready (rs := [10]) (by kernel_rfl) (by simp) ?_
    refine AllReadyH.cons rfl (fun K hK => ?_) AllReadyH.nil
    obtain ⟨c0, c1, c2⟩ := chcells hgc
    have z2 := rfroz hgc 2
    obtain ⟨bo, bc, rfl⟩ := hrow2.slice
    go_simp
    have hgn := chset hgc (.slice bo (T ++ [((code, rev, val), (io, iN, ic))]).length bc)
    have hrn : (w2.setCell ⟨gc, 2, none⟩ (.slice bo (T ++ [((code, rev, val), (io, iN, ic))]).length bc)).heap[w.heap.size]? = some (resO code rev val (.slice io iN ic)) := (Below.heap_setCell _ _ _ _ (fun e => by have h1 := HD.out.2.1.2.2.2.2.1; have h2 := HX.out.2.2.2.2.2.2.2.2.2.2.2; simp only [] at e; omega)).trans hrb
    have hcr : ChR (w2.setCell ⟨gc, 2, none⟩ (.slice bo (T ++ [((code, rev, val), (io, iN, ic))]).length bc)) B gc gp os lv (T ++ [((code, rev, val), (io, iN, ic))]) (.slice bo (T ++ [((code, rev, val), (io, iN, ic))]).length bc) := by
      have ht := touch_set w2 gc 2 (.slice bo (T ++ [((code, rev, val), (io, iN, ic))]).length bc)
      obtain ⟨-, l, -, a1, a2, a3, a4, a5⟩ := HD.out.2.1
      refine ⟨hgn, l.keep (fun d hd hlt => ?_), hrow2.keep (fun d hd hlt => ?_), a1, a2, a3, a4, ?_⟩
      · rw [ht.2.2.2.2 d (Nat.lt_of_lt_of_le hlt hb2.size) (a4 d hd).2.1, hb2.block d (a4 d hd).2.2]
      · exact ht.2.2.2.2 d hlt (fun e => by have := (hrow2.form d hd).1; omega)
      · exact Nat.le_trans (Nat.le_trans a5 hb2.size) ht.2.2.2.1
    have hpr := hp2.keep (Below.heap_setCell w2 ⟨gc, 2, none⟩ (.slice bo (T ++ [((code, rev, val), (io, iN, ic))]).length bc) gp (fun e => HD.out.2.1.2.2.2.1 e.symm))
    have htc : Touch (Ztn gc gp (.slice ao NT c)) w (w2.setCell ⟨gc, 2, none⟩ (.slice bo (T ++ [((code, rev, val), (io, iN, ic))]).length bc)) := ((Touch.of_below _ HD.out.1).trans (Touch.of_grown hg2 (P := Ztn gc gp (.slice ao NT c)) (fun k hk => Or.inr (Or.inr hk))) (fun _ _ h => h)).trans (touch_set w2 gc 2 _) (fun i _ e => Or.inr (Or.inl e))
    have hat3 : ∀ d, (Value.slice bo (T ++ [((code, rev, val), (io, iN, ic))]).length bc).ownBlock = some d → (Value.slice ao NT c).ownBlock = some d ∨ w.heap.size ≤ d := fun d hd => by
      rcases hat2 with e | e
      · exact Or.inl (by rw [← e]; exact hd)
      · refine Or.inr ?_
        rw [hd] at e
        have e2 := Option.some.inj e
        have h1 := HX.out.1.size
        have h2 := HD.out.1.size
        omega
    have hLn : (T ++ [((code, rev, val), (io, iN, ic))]).length = NT + 1 := by rw [List.length_append, HNT.out]; rfl
    simp only [List.length_append, List.length_cons, List.length_nil, Nat.zero_add] at hgn hrn hcr hpr htc hat3
    generalize w2.setCell ⟨gc, 2, none⟩ (.slice bo (T.length + 1) bc) = w3 at *
    have HN := Lib.hid (next_any B gc gp lv (.slice bo (T.length + 1) bc) os (T ++ [((code, rev, val), (io, iN, ic))]) n w3 hcr hpr HL.out.1)
    have HF := Lib.hid (And.intro hcr (And.intro htc hat3))
    clear hcr hpr htc hat3 hgn c0 c1 c2 z2 hgc hb2 hg2 hat2 hrow2 hp2 hrb
    rw [hLn] at HN
    refine hK.out _ _ ?_ (fun r3 => ?_)
    · exact hrn
    try simp only [Act.put, List.getElem_toArray, List.getElem_cons_succ, List.getElem_cons_zero, List.setIfInBounds_toArray, List.set_cons_zero, List.set_cons_succ]
    refine wpAnyH_done (by kernel_rfl) ?_ _
    go_wp2_with (refine HN.out.mono ?_; rintro e w4 ⟨rfl, hp4, ht4⟩)
    go_end0
    exact ⟨rfl, _, HF.out.1.proc ht4, hp4, HF.out.2.1.trans ht4 (fun i _ e => Or.inl e), HF.out.2.2⟩
  · go_simp
    refine hK.out _ _ ?_ (fun r1 => ?_)
    · exact ((belNew wd _).block _ (heap_lt r0)).trans r0
    try simp only [Act.put, List.getElem_toArray, List.getElem_cons_succ, List.getElem_cons_zero, List.setIfInBounds_toArray, List.set_cons_zero, List.set_cons_succ]
    refine wpAnyH_ready (rs := [4]) (by kernel_rfl) (by simp) ?_
    refine AllReadyH.cons rfl (fun K hK => ?_) AllReadyH.nil
    obtain ⟨c0, c1, c2⟩ := chcells (((belNew wd (resO code rev val (.slice io iN ic))).block gc (heap_lt HD.out.2.1.1)).trans HD.out.2.1.1)
    go_simp
    refine hK.out _ _ ?_ (fun _ => ?_)
    · exact r1
    try simp only [Act.put, List.getElem_toArray, List.getElem_cons_succ, List.getElem_cons_zero, List.setIfInBounds_toArray, List.set_cons_zero, List.set_cons_succ]
    clear c0 c1 c2
    refine wpAnyH_ready (rs := [7]) (by kernel_rfl) (by simp) ?_
    refine AllReadyH.cons rfl (fun K hK => ?_) AllReadyH.nil
    rw [if_pos (by kernel_rfl)]
    refine wp_pushG (w0 := wd) (T := 30) (E := 49) (enc := encT) Try.underlying30 infoT rfl (by decide) (by decide) encT_len encT_one (.tmp 8) (.tmp 10) rfl B (.slice ao NT c) T ((code, rev, val), (io, iN, ic)) wd.heap.size rfl rfl rfl HD.out.2.1.2.2.1 (by rw [HNT.out]; have := HL.out.2; omega) HD.out.2.1.2.2.2.2.2.2.2 (fun v2 w2 hrow2 hb2 hg2 hat2 => ?_)
    have hgc := (hb2.block gc HD.out.2.1.2.2.2.2.1).trans HD.out.2.1.1
    have hrb := (hg2.block w.heap.size (heap_lt r0) (fun e => by have := (HX.out.2.2.2.2.2.2.1.form _ e.symm).2; omega)).trans r0
    have hp2 := HD.out.2.2.keep (hb2.block gp HD.out.2.1.2.2.2.2.2.1)
    refine hK.out _ _ ?_ (fun r2 => ?_)
    · exact hrb
    try simp only [Act.put, List.getElem_toArray, List.getElem_cons_succ, List.getElem_cons_zero, List.setIfInBounds_toArray, List.set_cons_zero, List.set_cons_succ]
    refine wpAnyH_take (i := 8) (v := ?_) rfl (by kernel_rfl) (by kernel_rfl) (by kernel_rfl) (fun _ _ _ h => h) (Or.inl ⟨by rfl, ?_⟩) (by assumption) ?_
    rotate_left
    · intro wS hSw
      (try dsimp only at hSw)
      go_simp
      first | done | with_reducible rfl
    try simp only [Act.put, List.getElem_toArray, List.getElem_cons_succ, List.getElem_cons_zero, List.setIfInBounds_toArray, List.set_cons_zero, List.set_cons_succ]
    refine wpAnyH_take (i := 9) (v := ?_) rfl (by kernel_rfl) (by kernel_rfl) (by kernel_rfl) (fun _ _ _ h => h) (Or.inl ⟨by rfl, ?_⟩) (by assumption) ?_
    rotate_left
    · intro wS hSw
      (try dsimp only at hSw)
      go_simp
      first | done | with_reducible rfl
    try simp only [Act.put, List.getElem_toArray, List.getElem_cons_succ, List.getElem_cons_zero, List.setIfInBounds_toArray, List.set_cons_zero, List.set_cons_succ]
    refine wpAnyH_ready (rs := [10]) (by kernel_rfl) (by simp) ?_
    refine AllReadyH.cons rfl (fun K hK => ?_) AllReadyH.nil
    obtain ⟨c0, c1, c2⟩ := chcells hgc
    have z2 := rfroz hgc 2
    obtain ⟨bo, bc, rfl⟩ := hrow2.slice
    go_simp
    have hgn := chset hgc (.slice bo (T ++ [((code, rev, val), (io, iN, ic))]).length bc)
    have hrn : (w2.setCell ⟨gc, 2, none⟩ (.slice bo (T ++ [((code, rev, val), (io, iN, ic))]).length bc)).heap[w.heap.size]? = some (resO code rev val (.slice io iN ic)) := (Below.heap_setCell _ _ _ _ (fun e => by have h1 := HD.out.2.1.2.2.2.2.1; have h2 := HX.out.2.2.2.2.2.2.2.2.2.2.2; simp only [] at e; omega)).trans hrb
    have hcr : ChR (w2.setCell ⟨gc, 2, none⟩ (.slice bo (T ++ [((code, rev, val), (io, iN, ic))]).length bc)) B gc gp os lv (T ++ [((code, rev, val), (io, iN, ic))]) (.slice bo (T ++ [((code, rev, val), (io, iN, ic))]).length bc) := by
      have ht := touch_set w2 gc 2 (.slice bo (T ++ [((code, rev, val), (io, iN, ic))]).length bc)
      obtain ⟨-, l, -, a1, a2, a3, a4, a5⟩ := HD.out.2.1
      refine ⟨hgn, l.keep (fun d hd hlt => ?_), hrow2.keep (fun d hd hlt => ?_), a1, a2, a3, a4, ?_⟩
      · rw [ht.2.2.2.2 d (Nat.lt_of_lt_of_le hlt hb2.size) (a4 d hd).2.1, hb2.block d (a4 d hd).2.2]
      · exact ht.2.2.2.2 d hlt (fun e => by have := (hrow2.form d hd).1; omega)
      · exact Nat.le_trans (Nat.le_trans a5 hb2.size) ht.2.2.2.1
    have hpr := hp2.keep (Below.heap_setCell w2 ⟨gc, 2, none⟩ (.slice bo (T ++ [((code, rev, val), (io, iN, ic))]).length bc) gp (fun e => HD.out.2.1.2.2.2.1 e.symm))
    have htc : Touch (Ztn gc gp (.slice ao NT c)) w (w2.setCell ⟨gc, 2, none⟩ (.slice bo (T ++ [((code, rev, val), (io, iN, ic))]).length bc)) := ((Touch.of_below _ HD.out.1).trans (Touch.of_grown hg2 (P := Ztn gc gp (.slice ao NT c)) (fun k hk => Or.inr (Or.inr hk))) (fun _ _ h => h)).trans (touch_set w2 gc 2 _) (fun i _ e => Or.inr (Or.inl e))
    have hat3 : ∀ d, (Value.slice bo (T ++ [((code, rev, val), (io, iN, ic))]).length bc).ownBlock = some d → (Value.slice ao NT c).ownBlock = some d ∨ w.heap.size ≤ d := fun d hd => by
      rcases hat2 with e | e
      · exact Or.inl (by rw [← e]; exact hd)
      · refine Or.inr ?_
        rw [hd] at e
        have e2 := Option.some.inj e
        have h1 := HX.out.1.size
        have h2 := HD.out.1.size
        omega
    have hLn : (T ++ [((code, rev, val), (io, iN, ic))]).length = NT + 1 := by rw [List.length_append, HNT.out]; rfl
    simp only [List.length_append, List.length_cons, List.length_nil, Nat.zero_add] at hgn hrn hcr hpr htc hat3
    generalize w2.setCell ⟨gc, 2, none⟩ (.slice bo (T.length + 1) bc) = w3 at *
    have HN := Lib.hid (next_any B gc gp lv (.slice bo (T.length + 1) bc) os (T ++ [((code, rev, val), (io, iN, ic))]) n w3 hcr hpr HL.out.1)
    have HF := Lib.hid (And.intro hcr (And.intro htc hat3))
    clear hcr hpr htc hat3 hgn c0 c1 c2 z2 hgc hb2 hg2 hat2 hrow2 hp2 hrb
    rw [hLn] at HN
    refine hK.out _ _ ?_ (fun r3 => ?_)
    · exact hrn
    try simp only [Act.put, List.getElem_toArray, List.getElem_cons_succ, List.getElem_cons_zero, List.setIfInBounds_toArray, List.set_cons_zero, List.set_cons_succ]
    refine wpAnyH_done (by kernel_rfl) ?_ _
    go_wp2_with (refine HN.out.mono ?_; rintro e w4 ⟨rfl, hp4, ht4⟩)
    go_end0
    exact ⟨rfl, _, HF.out.1.proc ht4, hp4, HF.out.2.1.trans ht4 (fun i _ e => Or.inl e), HF.out.2.2⟩
end Go.Proofs.Ytholgmcfgnifdaa
