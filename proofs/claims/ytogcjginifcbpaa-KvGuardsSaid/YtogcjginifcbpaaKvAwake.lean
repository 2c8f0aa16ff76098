/- A state that a law has made; the chapter's example (virgatelaw09.awake). -/
import Derived.Test.YtogcjginifcbpaaKvDo
namespace Go.Proofs.Ytogcjginifcbpaa
open Go.RowKit Go.Maps
/-- A state that the law has made since world w0. -/
def KvW (w0 w : World) (g : Nat) (P : Nat → Prop) (S : KSt) : Prop := KvAt w g P S ∧ (∀ i, P i → w0.heap.size ≤ i) ∧ Below w0.heap.size w0 w
theorem KvW.below {w0 w w' : World} {g : Nat} {P : Nat → Prop} {S : KSt} (h : KvW w0 w g P S) (hb : Below w.heap.size w w') : KvW w0 w' g P S := ⟨h.1.below hb, h.2.1, h.2.2.trans (hb.mono h.2.2.size)⟩
theorem KvAt.own {w : World} {g : Nat} {P : Nat → Prop} {S : KSt} (h : KvAt w g P S) : ∀ i, P i → i < w.heap.size := by
  obtain ⟨_, _, _, _, _, h7⟩ := h
  exact h7
theorem new_step (w0 w : World) (hb : Below w0.heap.size w0 w) : Calls Try.prog 15 #[] w fun e w' => ∃ g, e = .returned (ptr g) ∧ KvW w0 w' g (· = g) ⟨0, []⟩ ∧ Below w.heap.size w w' :=
  (new_kv w).mono fun e w' ⟨g, he, hk, hg, hb2⟩ => ⟨g, he, ⟨hk, fun i e => by rw [e]; exact Nat.le_trans hb.size hg, hb.trans (hb2.mono hb.size)⟩, hb2⟩
theorem do_step {w0 w : World} {g : Nat} {P : Nat → Prop} {S : KSt} (o : KOp) (h : KvW w0 w g P S) (hs : o.key.size ≤ maxLen) (hs2 : o.iff.size ≤ maxLen) (hr : Rising S.L) (hn : S.L.length ≤ 1000000) (hrv : 0 ≤ S.rev ∧ S.rev < 9223372036854775807) :
    Calls Try.prog 21 #[ptr g, opV o] w fun e w' => ∃ ao c P', e = .returned (kres (doK S o).1 (.slice ao (doK S o).1.its.length c)) ∧ RowI w' w.heap.size (.slice ao (doK S o).1.its.length c) (doK S o).1.its ∧ KvW w0 w' g P' (doK S o).2 ∧
      (∀ d, (Value.slice ao (doK S o).1.its.length c).ownBlock = some d → ¬ P' d) ∧ (∀ k, k < w.heap.size → ¬ P k → w'.heap[k]? = w.heap[k]?) ∧ w.heap.size ≤ w'.heap.size ∧ (∀ i, P' i → P i ∨ w.heap.size ≤ i) :=
  (do_any g P S o w h.1 hs hs2 hr hn hrv).mono fun e w' ⟨v, he, hrow, P', hk, hP, hnp, ht⟩ => by
    obtain ⟨ao, c, rfl, -⟩ := RowE.sees hrow
    have hz := h.2.2.size
    exact ⟨ao, c, P', he, hrow, ⟨hk, fun i hi => (hP i hi).elim (h.2.1 i) (fun h1 => by omega), h.2.2.trans (ht.below h.2.2.size h.2.1)⟩, hnp, ht.2.2.2.2, ht.2.2.2.1, hP⟩
abbrev strA : ByteArray := ⟨#[97]⟩
abbrev stA1 : KSt := ⟨1, [([97], (emp, 1))]⟩
abbrev stA2 : KSt := ⟨2, [([97], (emp, 2))]⟩
theorem do1 : doK ⟨0, []⟩ ⟨3, strA, emp, 0, emp, 0⟩ = (⟨0, 1, emp, []⟩, ⟨1, [([97], (emp, 1))]⟩) := by
  simp only [doK, planK, refuse, eq_empty]
  rfl
theorem do2 : doK ⟨1, [([97], (emp, 1))]⟩ ⟨4, strA, emp, 1, emp, 0⟩ = (⟨0, 2, emp, []⟩, ⟨2, [([97], (emp, 2))]⟩) := by
  simp only [doK, planK, refuse, eq_empty]
  rfl
theorem do3 : doK ⟨2, [([97], (emp, 2))]⟩ ⟨4, strA, emp, 1, emp, 0⟩ = (⟨8, 0, emp, []⟩, ⟨2, [([97], (emp, 2))]⟩) := by
  simp only [doK, planK, refuse, eq_empty]
  rfl
set_option maxRecDepth 100000 in
set_option maxHeartbeats 4000000 in
theorem awake9_any (w : World) : Calls Try.prog 26 #[] w fun e w' => e = .returned (.bool true) ∧ Below w.heap.size w w' := by
  go_enter Try.func26, Try.ntmps26
  go_upto_region 2 with (first
    | (go_at_call 15; refine (new_step w w (Below.refl _ _)).mono ?_; rintro e w1 ⟨g, rfl, hk1, -⟩)
    | go_in)
  have HD1 := Lib.hid (do_step ⟨3, strA, emp, 0, emp, 0⟩ hk1 (by decide) (by decide) List.Pairwise.nil (by decide) (by decide))
  rw [do1] at HD1
  clear hk1
  go_upto_region 3 with (first
    | (go_at_call 21; refine HD1.out.mono ?_; rintro e w2 ⟨ao, c, P2, rfl, -, hk2, -⟩)
    | go_in)
  obtain ⟨w3, hw3⟩ : ∃ w3, w3 = w2.alloc (resO 0 1 emp (.slice ao 0 c)) := ⟨_, rfl⟩
  have hk3 : KvW w w3 g P2 stA1 := by rw [hw3]; exact hk2.below (belNew w2 _)
  have ha3 : w3.heap[w2.heap.size]? = some (resO 0 1 emp (.slice ao 0 c)) := by rw [hw3]; exact heap_alloc_new w2 _
  have hna : ¬ P2 w2.heap.size := fun h => Nat.lt_irrefl _ (hk2.1.own _ h)
  rw [← hw3]
  clear hw3 hk2 HD1
  have HD2 := Lib.hid (do_step ⟨4, strA, emp, 1, emp, 0⟩ hk3 (by decide) (by decide) (List.pairwise_singleton _ _) (by decide) (by decide))
  rw [do2] at HD2
  have HA := Lib.hid (And.intro ha3 hna)
  clear hk3 ha3 hna
  go_upto_region 4 with (first
    | (go_at_call 21; refine HD2.out.mono ?_; rintro e w4 ⟨ao2, c2, P4, rfl, -, hk4, -, hkeep4, hz4, hP4⟩)
    | go_in)
  have ha4 := (hkeep4 _ (heap_lt HA.out.1) HA.out.2).trans HA.out.1
  have hna4 : ¬ P4 w2.heap.size := fun h => by
    have := heap_lt HA.out.1
    rcases hP4 _ h with h1 | h1
    · exact HA.out.2 h1
    · omega
  obtain ⟨w5, hw5⟩ : ∃ w5, w5 = w4.alloc (resO 0 2 emp (.slice ao2 0 c2)) := ⟨_, rfl⟩
  have hk5 : KvW w w5 g P4 stA2 := by rw [hw5]; exact hk4.below (belNew w4 _)
  have ha5 := ((belNew w4 (resO 0 2 emp (.slice ao2 0 c2))).block _ (heap_lt ha4)).trans ha4
  rw [← hw5] at ha5
  have hb5 : w5.heap[w4.heap.size]? = some (resO 0 2 emp (.slice ao2 0 c2)) := by rw [hw5]; exact heap_alloc_new w4 _
  have hnb : ¬ P4 w4.heap.size := fun h => Nat.lt_irrefl _ (hk4.1.own _ h)
  rw [← hw5]
  clear hw5 hk4 HD2 hkeep4 hz4 hP4 ha4
  have HD3 := Lib.hid (do_step ⟨4, strA, emp, 1, emp, 0⟩ hk5 (by decide) (by decide) (List.pairwise_singleton _ _) (by decide) (by decide))
  rw [do3] at HD3
  have HB := Lib.hid (And.intro ha5 (And.intro hna4 (And.intro hb5 hnb)))
  clear hk5 ha5 hna4 hb5 hnb HA
  go_upto_region 5 with (first
    | (go_at_call 21; refine HD3.out.mono ?_; rintro e w6 ⟨ao3, c3, P6, rfl, -, hk6, -, hkeep6, hz6, hP6⟩)
    | go_in)
  have ha6 := (hkeep6 _ (heap_lt HB.out.1) HB.out.2.1).trans HB.out.1
  have hb6 := (hkeep6 _ (heap_lt HB.out.2.2.1) HB.out.2.2.2).trans HB.out.2.2.1
  obtain ⟨w7, hw7⟩ : ∃ w7, w7 = w6.alloc (resO 8 0 emp (.slice ao3 0 c3)) := ⟨_, rfl⟩
  have hk7 : KvW w w7 g P6 stA2 := by rw [hw7]; exact hk6.below (belNew w6 _)
  have ha7 := ((belNew w6 (resO 8 0 emp (.slice ao3 0 c3))).block _ (heap_lt ha6)).trans ha6
  have hb7 := ((belNew w6 (resO 8 0 emp (.slice ao3 0 c3))).block _ (heap_lt hb6)).trans hb6
  have hc7 := heap_alloc_new w6 (resO 8 0 emp (.slice ao3 0 c3))
  rw [← hw7] at ha7 hb7 hc7
  rw [← hw7]
  clear hw7 hk6 HD3 hkeep6 hz6 hP6 ha6 hb6
  have HR := Lib.hid (rev_any g P6 _ w7 hk7.1)
  have HBl := Lib.hid hk7.2.2
  obtain ⟨a0, a1, -⟩ := four ha7
  obtain ⟨b0, b1, -⟩ := four hb7
  obtain ⟨c0, c1, -⟩ := four hc7
  clear ha7 hb7 hc7 hk7 HB
  go_wp2_with (first
    | (go_at_call 22; refine HR.out.mono ?_; rintro e wz ⟨rfl, rfl⟩)
    | go_in)
  go_ret
  exact ⟨rfl, HBl.out⟩
end Go.Proofs.Ytogcjginifcbpaa
