/- Chapter 19's example. -/
import Derived.Test.YtholgmcfgnifdaaMf
namespace Go.Proofs.Ytholgmcfgnifdaa
open Go.RowKit Go.Maps
abbrev opG : KOp := ⟨1, emp, emp, 0, emp, 0⟩
abbrev opL : KOp := ⟨2, emp, emp, 0, emp, 0⟩
abbrev res0 : KRes := ⟨0, 0, emp, []⟩
theorem sees0 (w : World) : SeesI w (.slice none 0 0) [] := ⟨none, 0, rfl, Nat.le_refl _, fun _ => rfl, fun _ h => by cases h⟩
/-- A row of operations, all its own, in a block. -/
theorem seesO_blk {w : World} {g : Nat} {os : List KOp} {t : TypeId} (h : w.heap[g]? = some (.cells (os.flatMap encO).toArray t (0, 0))) : SeesO w (.slice (some ⟨g, 0, none⟩) os.length os.length) os := by
  refine ⟨some ⟨g, 0, none⟩, os.length, rfl, Nat.le_refl _, (fun h => by cases h), fun a ha i p hp j u hu => ?_⟩
  obtain rfl : (⟨g, 0, none⟩ : Addr) = a := Option.some.inj ha
  have hj : j < 6 := (List.getElem?_eq_some_iff.1 hu).1
  have hat := (flat_atG (enc := encO) encO_len os i j p hp hj).trans hu
  rw [Addr.add_add]
  rw [add0]
  unfold World.cell?
  simp only []
  rw [h]
  simpa using hat
set_option maxRecDepth 100000 in
set_option maxHeartbeats 4000000 in
theorem awake19_any (w : World) : Calls Try.prog 14 #[] w fun e w' => e = .returned (.bool true) ∧ Below w.heap.size w w' := by
  go_enter Try.func14, Try.ntmps14
  go_upto_region 2 with (go_at_call 7; refine (newP_any w).mono ?_; rintro e w1 ⟨rfl, hp1, hb1⟩)
  obtain ⟨gp, hgp⟩ : ∃ gp, gp = w.heap.size := ⟨_, rfl⟩
  rw [← hgp] at hp1 ⊢
  obtain ⟨g2, hg2⟩ : ∃ g2, g2 = w1.heap.size := ⟨_, rfl⟩
  obtain ⟨w2, hw2⟩ : ∃ w2, w2 = (w1.alloc (.cells ([opG, opL].flatMap encO).toArray 37)).alloc (chainO gp (.slice (some ⟨g2, 0, none⟩) 2 2) (.slice none 0 0)) := ⟨_, rfl⟩
  obtain ⟨wa, hwa⟩ : ∃ wa, wa = w1.alloc (.cells ([opG, opL].flatMap encO).toArray 37) := ⟨_, rfl⟩
  rw [← hwa] at hw2
  have hba := belNew w1 (.cells ([opG, opL].flatMap encO).toArray 37)
  have hxa := heap_alloc_new w1 (.cells ([opG, opL].flatMap encO).toArray 37)
  have hza : wa.heap.size = w1.heap.size + 1 := by rw [hwa]; simp
  rw [← hwa, ← hg2] at hba hxa
  have hb2 := belNew wa (chainO gp (.slice (some ⟨g2, 0, none⟩) 2 2) (.slice none 0 0))
  have hx2 := heap_alloc_new wa (chainO gp (.slice (some ⟨g2, 0, none⟩) 2 2) (.slice none 0 0))
  rw [← hw2, hza, ← hg2] at hx2
  have hz2 : w2.heap.size = g2 + 2 := by rw [hw2]; simp [hza, hg2]
  rw [← hw2] at hb2
  have hlt1 : gp < w1.heap.size := heap_lt hp1
  have hcr : ChR w2 (g2 + 2) (g2 + 1) gp [opG, opL] (.slice (some ⟨g2, 0, none⟩) 2 2) [] (.slice none 0 0) :=
    ⟨hx2, (seesO_blk (os := [opG, opL]) hxa).below hb2, RowG.nil _ _ _ _ _, by omega, by omega, by omega, fun d hd => by (obtain rfl : g2 = d := Option.some.inj hd); omega, by omega⟩
  have hp2 := (hp1.below (by rw [← hg2] at *; exact hba)).below hb2
  have hbw : Below w.heap.size w w2 := bel (bel hb1 (by rw [← hg2] at *; exact hba)) hb2
  have HZ := Lib.hid (And.intro hcr (And.intro hp2 hbw))
  have HS : Hid (g2 + 2 ≤ w2.heap.size ∧ w.heap.size ≤ gp) := Lib.hid ⟨by omega, by omega⟩
  have HW := Lib.hid hw2
  have HW1 := Lib.hid hwa
  rw [← hg2]
  clear hcr hp2 hbw hlt1 hz2 hx2 hb2 hza hxa hba hw2 hwa hp1 hb1 hgp hg2
  change Code.wp _ _ _ _ ((w1.alloc (.cells ([opG, opL].flatMap encO).toArray 37)).alloc (chainO gp (.slice (some ⟨g2, 0, none⟩) 2 2) (.slice none 0 0)))
  rw [← HW1.out, ← HW.out]
  clear HW HW1
  go_upto_region 3 with (go_at_call 8; refine (next_any (g2 + 2) (g2 + 1) gp _ _ _ _ 0 w2 HZ.out.1 HZ.out.2.1 (by decide)).mono ?_; rintro e w3 ⟨rfl, hp3, ht3⟩)
  have H3 := Lib.hid (And.intro (HZ.out.1.proc ht3) (And.intro hp3 ht3))
  have hcr3 := HZ.out.1.proc ht3
  have hb3 : Below w.heap.size w w3 := HZ.out.2.2.trans (ht3.below (by have := HZ.out.2.2.size; omega) (fun i e => by rw [e]; exact HS.out.2))
  obtain ⟨c0, c1, c2⟩ := chcells hcr3.1
  have HA := Lib.hid (And.intro hcr3 (And.intro hp3 hb3))
  clear H3 HZ ht3 hcr3 hb3 hp3
  go_upto_region 4 with (go_at_call 9; refine (opP_any gp opG true (hearF (g2 + 1)) 0 w3 HA.out.2.1).mono ?_; rintro e w4 ⟨rfl, hb4⟩)
  have hbn := belNew w4 (opO opG)
  have hx5 := heap_alloc_new w4 (opO opG)
  change Code.wp _ _ _ _ (w4.alloc (opO opG))
  generalize w4.alloc (opO opG) = w5 at *
  have hb5 := bel hb4 hbn
  obtain ⟨ob, hob⟩ : ∃ ob, ob = w4.heap.size := ⟨_, rfl⟩
  rw [← hob] at hx5 ⊢
  have hob5 : ob ≠ gp ∧ ob ≠ g2 + 1 ∧ g2 + 2 ≤ ob := by
    have h1 := HA.out.1.2.2.2.2.2.2.2
    have h2 := HA.out.1.2.2.2.2.2.1
    have h3 := hb4.size
    omega
  have hcr5 := HA.out.1.below hb5
  have hp5 := HA.out.2.1.below hb5
  have hbw5 := HA.out.2.2.trans (hb5.mono HA.out.2.2.size)
  obtain ⟨c0, c1, c2⟩ := chcells hcr5.1
  have HC := Lib.hid (And.intro hcr5 (And.intro hp5 (And.intro hbw5 (And.intro hx5 (And.intro hob5 (heap_lt hx5))))))
  clear hcr5 hp5 hbw5 hx5 hob5 hob hb5 hbn hb4 HA
  go_upto_region 5 with (go_at_call 12; refine (feedH_any (g2 + 2) (g2 + 1) gp _ _ _ _ 0 res0 (.slice none 0 0) w5 HC.out.1 HC.out.2.1 (by decide) (by decide) (sees0 _) (by decide) (fun _ h => by cases h) (by decide)).mono ?_; rintro e w6 ⟨rfl, p6, tv6, -, hcr6, hp6, -, -, ht6, ho6⟩; obtain ⟨c0, c1, c2⟩ := chcells hcr6.1)
  have hb6 : Below w.heap.size w w6 := HC.out.2.2.1.trans (ht6.below (by have := HC.out.2.2.1.size; omega) (fun i hi => by
    rcases hi with e | e | e
    · rw [e]; exact HS.out.2
    · have := HS.out; have := HC.out.1.2.2.2.2.2.1; omega
    · cases e))
  have hx6 := (ht6.2.2.2.2 ob HC.out.2.2.2.2.2 (fun hi => by
    rcases hi with e | e | e
    · exact HC.out.2.2.2.2.1.1 e
    · exact HC.out.2.2.2.2.1.2.1 e
    · cases e)).trans HC.out.2.2.2.1
  have ho6' : ∀ d, tv6.ownBlock = some d → w5.heap.size ≤ d := fun d hd => (ho6 d hd).elim (fun h => by cases h) id
  have HD := Lib.hid (And.intro hcr6 (And.intro hp6 (And.intro hb6 (And.intro hx6 (And.intro ho6' (And.intro HC.out.2.2.2.2.1 (And.intro HC.out.2.2.2.2.2 (heap_lt hx6))))))))
  clear hcr6 hp6 hb6 hx6 ho6' ho6 ht6 HC
  go_upto_region 6 with (go_at_call 12; refine (feedH_any (g2 + 2) (g2 + 1) gp _ _ _ _ (0 + 1) res0 (.slice none 0 0) w6 HD.out.1 HD.out.2.1 (by decide) (by simp) (sees0 _) (by decide) (fun _ h => by cases h) (by decide)).mono ?_; rintro e w7 ⟨rfl, p7, tv7, -, hcr7, hp7, -, -, ht7, ho7⟩; obtain ⟨c0, c1, c2⟩ := chcells hcr7.1)
  have hb7 : Below w.heap.size w w7 := HD.out.2.2.1.trans (ht7.below (by have := HD.out.2.2.1.size; omega) (fun i hi => by
    have h1 := HS.out
    have h2 := HD.out.1.2.2.2.2.2.1
    rcases hi with e | e | e
    · omega
    · omega
    · have h3 := (HD.out.1.2.2.1.form i e).1; omega))
  have hx7 := (ht7.2.2.2.2 ob HD.out.2.2.2.2.2.2.2 (fun hi => by
    have h1 := HD.out.2.2.2.2.2.1
    have h2 := HD.out.2.2.2.2.2.2.1
    rcases hi with e | e | e
    · omega
    · omega
    · have h3 := HD.out.2.2.2.2.1 ob e; omega)).trans HD.out.2.2.2.1
  have HP := Lib.hid hp7
  have HB7 := Lib.hid hb7
  obtain ⟨k0, -⟩ := opcells hx7
  clear hcr7 hp7 hb7 hx7 ht7 ho7 HD
  go_wp2_with (first
    | (go_at_call 12; refine (feed_idle gp _ _ _ res0 (.slice none 0 0) w7 HP.out ⟨none, 0, 0, rfl⟩).mono ?_; rintro e w8 ⟨rfl, hb8⟩; have c0 := bcell hb8 c0; have HP8 := Lib.hid (HP.out.below hb8))
    | (go_at_call 13; refine (steps_any gp _ _ _ _ w8 HP8.out).mono ?_; rintro e w9 ⟨rfl, rfl⟩))
  go_ret
  exact ⟨rfl, HB7.out.trans (hb8.mono HB7.out.size)⟩
end Go.Proofs.Ytholgmcfgnifdaa
