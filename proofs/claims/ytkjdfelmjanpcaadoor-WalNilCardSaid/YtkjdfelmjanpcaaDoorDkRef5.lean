/- The document's own disk: its calls, over a state. -/
import Derived.Test.YtkjdfelmjanpcaaDoorDkRef4
namespace Go.Proofs.YtkjdfelmjanpcaaDoor
open Go.RowKit Go.Maps
theorem row_not_r {w : World} {B r : Nat} {v : Value} {L : List FEnt} {cs : Array Value} (h : RowF w B v L) (hr : w.heap[r]? = some (.cells cs 42 (0, 0))) : v.ownBlock ≠ some r := by
  rcases h.2 with ⟨e, _⟩ | ⟨g, cap, cur, e, _, hb, _⟩
  · rw [e]; intro h; cases h
  · rw [e]
    intro h
    have h1 : g = r := Option.some.inj h
    rw [h1, hr] at hb
    injection hb with hb
    injection hb with _ hb _
    exact absurd hb (by decide)
theorem row_touch {w w' : World} {B r : Nat} {v : Value} {L : List FEnt} {cs : Array Value} (h : RowF w B v L) (hr : w.heap[r]? = some (.cells cs 42 (0, 0))) (ht : Touch (· = r) w w') : RowF w' B v L := by
  have hne := row_not_r h hr
  refine ⟨h.1, h.2.imp id fun ⟨g, cap, cur, e1, e2, e3, rr⟩ => ⟨g, cap, cur, e1, e2, (ht.2.2.2.2 g (heap_lt e3) (fun e => hne (by rw [e1, ← e]; rfl))).trans e3, rr⟩⟩
theorem RefAt.below {w w' : World} {r : Nat} {Q : Nat → Prop} {D : DSt} (h : RefAt w r Q D) (hb : Below w.heap.size w w') : RefAt w' r Q D := by
  obtain ⟨v, h1, h2, h3, h4, h5, h6⟩ := h
  refine ⟨v, (hb.block r (heap_lt h1)).trans h1, ⟨h2.1, h2.2.imp id fun ⟨g, cap, cur, e1, e2, e3, rr⟩ => ⟨g, cap, cur, e1, e2, (hb.block g (heap_lt e3)).trans e3, rr⟩⟩, h3, h4, fun i hi => Nat.lt_of_lt_of_le (h5 i hi) hb.size, h6⟩
theorem RefAt.keep {w w' : World} {r : Nat} {P Q : Nat → Prop} {D : DSt} (h : RefAt w r Q D) (ht : Touch P w w') (hq : ∀ d, Q d → ¬ P d) : RefAt w' r Q D := by
  obtain ⟨v, h1, h2, h3, h4, h5, h6⟩ := h
  refine ⟨v, (ht.2.2.2.2 r (heap_lt h1) (hq r h3)).trans h1, ⟨h2.1, h2.2.imp id fun ⟨g, cap, cur, e1, e2, e3, rr⟩ => ⟨g, cap, cur, e1, e2, (ht.2.2.2.2 g (heap_lt e3) (hq g (h4 g (by rw [e1]; rfl)))).trans e3, rr⟩⟩, h3, h4, fun i hi => Nat.lt_of_lt_of_le (h5 i hi) ht.2.2.2.1, h6⟩
/-- The state behind a call that laid another row. -/
theorem ref_put {w w' : World} {r : Nat} {Q : Nat → Prop} {v' : Value} {fs : List FEnt} {l a : Bool} {n : Int} (hQ : Q r) (hb : ∀ i, Q i → i < w.heap.size) (hc : RCells w' r v' l (leftR a n)) (hrow : RowF w' w.heap.size v' fs) (ht : Touch (· = r) w w') (h0 : 0 ≤ n) (h1 : n ≤ 9223372036854775807) :
    RefAt w' r (grow' Q w w') ⟨fs, l, a, n⟩ ∧ Step Q (grow' Q w w') w w' := by
  have hz := ht.2.2.2.1
  refine ⟨⟨v', hc, row_le hrow (Nat.zero_le _), Or.inl hQ, fun d hd => Or.inr (World.ownsRow.lt hrow d hd), fun i hi => ?_, h0, h1⟩, step_grow ht (fun i e => by rw [e]; exact hQ)⟩
  rcases hi with hi | hi
  · have := hb i hi; omega
  · exact hi.2
theorem ref_wrote {w w' : World} {r : Nat} {Q : Nat → Prop} {v x1 x2 : Value} {fs : List FEnt} {l a : Bool} {n : Int} (h1 : w.heap[r]? = some (.cells #[v, x1, x2] 42 (0, 0))) (h2 : RowF w 0 v fs) (h3 : Q r) (h4 : ∀ d, v.ownBlock = some d → Q d) (h5 : ∀ i, Q i → i < w.heap.size)
    (hc : RCells w' r v l (leftR a n)) (ht : Touch (· = r) w w') (h6 : 0 ≤ n) (h7 : n ≤ 9223372036854775807) : RefAt w' r Q ⟨fs, l, a, n⟩ ∧ Step Q Q w w' :=
  ⟨⟨v, hc, row_touch h2 h1 ht, h3, h4, fun i hi => Nat.lt_of_lt_of_le (h5 i hi) ht.2.2.2.1, h6, h7⟩, ht.mono (fun i _ e => by rw [e]; exact h3), fun _ h => Or.inl h⟩
theorem how_lost {lost armed : Bool} {left : Int} (h : lost1 lost armed left = true) : decide (0 < howR lost armed left) = true := by
  unfold howR
  rw [if_pos h]
  split <;> rfl
theorem how_done {lost armed : Bool} {left : Int} (h : lost1 lost armed left = false) : howR lost armed left = 0 := by
  have hl : ¬ lost = true := by
    intro e
    rw [e] at h
    simp [lost1] at h
  unfold howR
  rw [if_neg hl, if_neg (by rw [h]; simp)]
set_option maxRecDepth 100000 in
set_option maxHeartbeats 2000000 in
theorem Sync_r (r : Nat) (Q : Nat → Prop) (D : DSt) (s : ByteArray) (w : World) (h : RefAt w r Q D) (hn : D.fs.length ≤ 1000000) :
    Calls Tryd.prog 70 #[ptr r, .string s] w fun e w' => ∃ Q', e = .returned (.int .i64 (syncD D s.data.toList).1) ∧ RefAt w' r Q' (syncD D s.data.toList).2 ∧ Step Q Q' w w' := by
  have HRA := Lib.hid h
  obtain ⟨v, h1, h2, h3, h4, h5, h6, h7⟩ := h
  have HF := Lib.hid (Find_r r v _ _ D.fs s w h1 h2.sees hn)
  cases hgf : getE D.fs s.data.toList with
  | none =>
    have e1 : syncD D s.data.toList = (6, D) := by unfold syncD; rw [hgf]
    rw [hgf] at HF
    rw [e1]
    simp only [fileV, zeroR, Option.isSome_none] at HF
    clear h1 h2 hgf e1
    go_enter Tryd.func70, Tryd.ntmps70
    go_wp2_with fail
    refine HF.out.mono ?_; rintro e w1 ⟨rfl, hb1⟩
    go_wp2_with fail
    go_ret
    refine ⟨Q, rfl, HRA.out.below ?_, Touch.of_below Q ?_, fun i hi => Or.inl hi⟩
    all_goals
      refine hb1.trans ?_
      repeat (first | exact Below.refl _ _ | refine Below.setCell ?_ (by simp) _ | refine Below.alloc ?_ (by have := hb1.size; simp; omega) _)
  | some u =>
    rw [hgf] at HF
    simp only [fileV, Option.isSome_some] at HF
    have HH := Lib.hid (And.intro h1 h2)
    have HGF := Lib.hid hgf
    have hrl := heap_lt h1
    have e5 : ((strOfNums u.1).size : Int) = (u.1.length : Nat) := by rw [strOfNums_size]
    clear h1 h2 hgf
    go_enter Tryd.func70, Tryd.ntmps70
    go_wp2_with fail
    refine HF.out.mono ?_; rintro e w1 ⟨rfl, hb1⟩
    go_wp2_with fail
    have hbA := belAlloc hb1 (.cells #[.string s, .string (strOfNums u.1), .int .i64 (u.2 : Nat)] 89)
    have hrA := (hbA.block r hrl).trans HH.out.1
    have hcA := heap_alloc_new w1 (.cells #[.string s, .string (strOfNums u.1), .int .i64 (u.2 : Nat)] 89)
    have hz1 := hb1.size
    refine (write_r r v D.lost D.armed D.left _ hrA h6 h7).mono ?_; rintro e w2 ⟨rfl, hr2, ht2⟩
    have hT : Touch (· = r) w w2 := (Touch.of_below _ hbA).trans ht2 (fun _ _ e => e)
    have hL2 := (ht2.2.2.2.2 w1.heap.size (by simp) (by omega)).trans hcA
    obtain ⟨l1, hl1⟩ : ∃ l1, l1 = lost1 D.lost D.armed D.left := ⟨_, rfl⟩
    obtain ⟨n1, hn1⟩ : ∃ n1, n1 = left1 D.lost D.armed D.left := ⟨_, rfl⟩
    obtain ⟨q8, q9⟩ := left1_bd (lost := D.lost) (armed := D.armed) h6 h7
    rw [← hl1, ← hn1] at hr2
    rw [← hn1] at q8 q9
    cases l1 with
    | true =>
      have e1 : syncD D s.data.toList = (12, ⟨D.fs, true, D.armed, n1⟩) := by unfold syncD; rw [HGF.out]; simp only []; rw [← hl1, if_pos rfl, ← hn1]
      have E1 := Lib.hid e1
      have d1 := how_lost hl1.symm
      have HR := Lib.hid (ref_wrote HH.out.1 HH.out.2 h3 h4 h5 hr2 hT q8 q9)
      clear e1 hl1 hn1 hr2 ht2 hT hcA hrA hbA hL2
      go_wp2_with fail
      go_ret
      rw [E1.out]
      exact ⟨Q, rfl, HR.out.1, HR.out.2⟩
    | false =>
      have e1 : syncD D s.data.toList = (0, { fs := putE s.data.toList (u.1, u.1.length) D.fs, lost := false, armed := D.armed, left := n1 }) := by
        unfold syncD; rw [HGF.out]; simp only []; rw [← hl1, if_neg (by simp), ← hn1]
      have E1 := Lib.hid e1
      rw [how_done hl1.symm]
      obtain ⟨p0, p1, p2⟩ := rcells hL2
      have HP := Lib.hid (put_r r v _ _ D.fs s (u.1, u.1.length) w2 hr2 (row_touch HH.out.2 HH.out.1 hT).sees hn)
      have HT := Lib.hid hT
      clear e1 hl1 hn1 hr2 ht2 hcA hrA hbA hL2
      go_wp2_with fail
      refine HP.out.mono ?_; rintro e w3 ⟨rfl, v', hr3, hrow3, ht3⟩
      have HR := Lib.hid (ref_put (w := w) h3 h5 hr3 (row_le hrow3 HT.out.2.2.2.1) (HT.out.trans ht3 (fun _ _ e => e)) q8 q9)
      clear hr3 hrow3 ht3 hT
      go_wp2_with fail
      go_ret
      rw [E1.out]
      exact ⟨_, rfl, HR.out.1, HR.out.2⟩
end Go.Proofs.YtkjdfelmjanpcaaDoor
