/- Package kv: Do. -/
import Derived.Test.YtholgmcfgnifdaaKvApply
namespace Go.Proofs.Ytholgmcfgnifdaa
open Go.RowKit Go.Maps
/-- What may be a state: keys rise, all items may be, and none is newer than the state. -/
def KOk (S : KSt) : Prop := Rising S.L ∧ 0 ≤ S.rev
def doK (S : KSt) (o : KOp) : KRes × KSt := ((planK S o).1, if (planK S o).2.2 = true then applyK S (planK S o).2.1 else S)
theorem refB_zero : ∀ mw k3 th re ie st mx : Bool, refB mw k3 th re ie st mx = 0 → mw = true ∧ (k3 = false → th = true) ∧ (k3 = true → th = false) ∧ mx = false := by decide
theorem refuse_zero {S : KSt} {o : KOp} (h : refuse S o = 0) : mayW o = true ∧ ((o.kind == 3) = false → there S.L o.key = true) ∧ ((o.kind == 3) = true → there S.L o.key = false) ∧ (S.rev == 9223372036854775807) = false := refB_zero _ _ _ _ _ _ _ h
theorem mayV_emp : mayV emp = true := rfl
theorem plan_may {S : KSt} {o : KOp} (h : (planK S o).2.2 = true) : (planK S o).2.1.key = o.key ∧ mayA S (planK S o).2.1 = true := by
  unfold planK at h ⊢
  by_cases h1 : o.kind = 1
  · rw [if_pos h1] at h; cases h
  · rw [if_neg h1] at h ⊢
    by_cases h2 : o.kind = 2
    · rw [if_pos h2] at h; cases h
    · rw [if_neg h2] at h ⊢
      by_cases h3 : refuse S o = 0
      · rw [if_pos h3] at h ⊢
        obtain ⟨hw, ht, -, hx⟩ := refuse_zero h3
        unfold mayW at hw
        unfold effOf
        by_cases h5 : o.kind = 5
        · rw [if_neg (by omega), if_pos h5] at hw
          have ht' := ht (by simp; omega)
          have hx' : ¬ S.rev = 9223372036854775807 := by simpa using hx
          rw [if_pos h5]
          refine ⟨rfl, ?_⟩
          unfold mayA
          simp [hw, mayV_emp, ht', hx']
        · rw [if_neg h5]
          have hx' : ¬ S.rev = 9223372036854775807 := by simpa using hx
          by_cases h34 : o.kind = 3 ∨ o.kind = 4
          · rw [if_pos h34, Bool.and_eq_true] at hw
            refine ⟨rfl, ?_⟩
            unfold mayA
            simp [hw.1, hw.2, hx']
          · rw [if_neg h34, if_neg h5] at hw; cases hw
      · rw [if_neg h3] at h; cases h
set_option maxRecDepth 100000 in
set_option maxHeartbeats 4000000 in
theorem do_any (g : Nat) (P : Nat → Prop) (S : KSt) (o : KOp) (w : World) (h : KvAt w g P S) (hs : o.key.size ≤ maxLen) (hs2 : o.iff.size ≤ maxLen) (hr : Rising S.L) (hn : S.L.length ≤ 1000000) (hrv : 0 ≤ S.rev ∧ S.rev < 9223372036854775807) :
    Calls Try.prog 17 #[ptr g, opV o] w fun e w' => ∃ v, e = .returned (kres (doK S o).1 v) ∧ RowI w' w.heap.size v (doK S o).1.its ∧ ∃ P', KvAt w' g P' (doK S o).2 ∧ (∀ i, P' i → P i ∨ w.heap.size ≤ i) ∧ (∀ d, v.ownBlock = some d → ¬ P' d) ∧ Touch P w w' := by
  obtain ⟨W, hW⟩ : ∃ W, W = (w.alloc (opO o)).alloc (resO 0 0 emp (.slice none 0 0)) := ⟨_, rfl⟩
  have hb : Below w.heap.size w W := by rw [hW]; exact belAlloc (belNew w _) _
  have hz : W.heap.size = w.heap.size + 2 := by rw [hW]; simp
  have hA : W.heap[w.heap.size]? = some (opO o) := by rw [hW, Below.heap_alloc _ _ _ (by simp)]; exact heap_alloc_new w _
  have hB : W.heap[w.heap.size + 1]? = some (resO 0 0 emp (.slice none 0 0)) := by rw [hW]; simpa using heap_alloc_new (w.alloc (opO o)) (resO 0 0 emp (.slice none 0 0))
  have HPl := Lib.hid (plan_any g P S o W (h.below hb) hs hs2 hr hn hrv)
  have HMay : Hid ((planK S o).2.2 = true → (planK S o).2.1.key.size ≤ maxLen ∧ mayA S (planK S o).2.1 = true) := Lib.hid (fun h => by rw [(plan_may h).1]; exact ⟨hs, (plan_may h).2⟩)
  have HPlt : Hid (∀ i, P i → i < w.heap.size) := Lib.hid (by
    obtain ⟨_, _, _, _, _, h7⟩ := h
    exact h7)
  have HK := Lib.hid (h.below hb)
  obtain ⟨k0, k1, k2, k3, k4, k5⟩ := opcells hA
  have hRv : 0 ≤ S.rev ∧ S.rev ≤ 9223372036854775807 := by omega
  have HRV := Lib.hid (And.intro hRv hn)
  unfold doK
  generalize planK S o = p at HPl HMay
  obtain ⟨⟨code, rev, val, its⟩, ef, wr⟩ := p
  generalize hS' : (if wr = true then applyK S ef else S) = S'
  have HS := Lib.hid hS'
  have HW := Lib.hid hW
  have HB := Lib.hid (And.intro hb (And.intro hz hB))
  clear hW hb hz hA hB h hr hn hrv hRv hS'
  go_enter Try.func17, Try.ntmps17
  go_upto_region 1 with fail
  change Code.wp _ _ _ _ ((w.alloc (opO o)).alloc (resO 0 0 emp (.slice none 0 0)))
  rw [← HW.out]
  clear HW
  go_upto_region 2 with (first
    | (go_at_call 26; refine HPl.out.mono ?_; rintro e w2 ⟨v, rfl, hrow, hb2⟩
       obtain ⟨vo, vc, rfl, -⟩ := RowE.sees hrow)
    | go_in)
  obtain ⟨w3, hw3⟩ : ∃ w3, w3 = (w2.alloc (resO code rev val (.slice vo its.length vc))).alloc (effO ef) := ⟨_, rfl⟩
  have hb3 : Below w2.heap.size w2 w3 := by rw [hw3]; exact belAlloc (belNew w2 _) _
  have hz3 : w3.heap.size = w2.heap.size + 2 := by rw [hw3]; simp
  have hT3 : w3.heap[w2.heap.size]? = some (resO code rev val (.slice vo its.length vc)) := by rw [hw3, Below.heap_alloc _ _ _ (by simp)]; exact heap_alloc_new w2 _
  have hE3 : w3.heap[w2.heap.size + 1]? = some (effO ef) := by rw [hw3]; simpa using heap_alloc_new (w2.alloc (resO code rev val (.slice vo its.length vc))) (effO ef)
  rw [← hw3]
  have hbW : Below W.heap.size W w3 := bel hb2 hb3
  have hB3 := (hbW.block _ (heap_lt HB.out.2.2)).trans HB.out.2.2
  have hbw := HB.out.1.trans (hbW.mono HB.out.1.size)
  have hrow3 := row_keep hrow hb3
  have hk3 := HK.out.below hbW
  have hz2 := hb2.size
  have hzW := HB.out.2.1
  obtain ⟨t0, t1, t2, t3, -⟩ := four hT3
  clear hw3 hb3 hb2 hrow k0 k1 k2 k3 k4 k5
  cases wr with
  | false =>
    obtain ⟨a0, a1, a2, a3, b0, b1, b2, b3⟩ := four hB3
    have hS' : S' = S := by have := HS.out; rw [if_neg (by simp)] at this; exact this.symm
    have HS2 := Lib.hid hS'
    clear hS' HS
    have hE := put4_at hB3 (.int .i64 code) (.int .i64 rev) (.string val) (.slice vo its.length vc)
    have hR := put4_row hrow3 hB3 (by decide) (.int .i64 code) (.int .i64 rev) (.string val) (.slice vo its.length vc)
    have hBl := put4_below hbw (show w.heap.size ≤ w.heap.size + 1 by omega) (.int .i64 code) (.int .i64 rev) (.string val) (.slice vo its.length vc)
    have hKn : KvAt (put4 w3 (w.heap.size + 1) (.int .i64 code) (.int .i64 rev) (.string val) (.slice vo its.length vc)) g P S := by
      refine hk3.keep (Q := fun i => i = w.heap.size + 1) ⟨rfl, rfl, rfl, by rw [put4_size]; exact Nat.le_refl _, fun k _ hk => put4_ne hk _ _ _ _⟩ (fun i hi e => by have := HPlt.out i hi; omega)
    rw [← HS2.out] at hKn
    have HF := Lib.hid (And.intro (row_leE hR (by omega : w.heap.size ≤ W.heap.size)) (And.intro hKn (Touch.of_below P hBl)))
    have hNP : ∀ d, (Value.slice vo its.length vc).ownBlock = some d → ¬ P d := fun d hd hp => by
      have h1 := (World.ownsRow.lt hrow3 d hd).1
      have h2 := HPlt.out d hp
      omega
    unfold put4 at hE HF
    have HNP := Lib.hid hNP
    clear hR hBl hKn hk3 hrow3 hNP hbw hbW
    go_wp2_with fail
    refine bodyPost_ret (v := kres ⟨code, rev, val, its⟩ (.slice vo its.length vc)) (by simp [results, Try.results17, go_sem, World.cell?, hE]) rfl ⟨_, rfl, HF.out.1, P, HF.out.2.1, fun i hi => Or.inl hi, HNP.out, HF.out.2.2⟩
  | true =>
    obtain ⟨e0, e1, e2, e3, -⟩ := four hE3
    have hS' : S' = applyK S ef := by have := HS.out; rw [if_pos rfl] at this; exact this.symm
    have HS2 := Lib.hid hS'
    clear hS' HS
    have hm := HMay.out rfl
    have HAp := Lib.hid (apply_any g P S ef w3 hk3 hm.1 HRV.out.1 HRV.out.2)
    rw [hm.2, if_pos rfl, if_pos rfl] at HAp
    have HX := Lib.hid (And.intro hbw (And.intro hrow3 (And.intro hB3 hT3)))
    clear hbw hrow3 hB3 hT3 hE3 hk3 hm hbW
    go_upto_region 4 with (first
      | (go_at_call 27; refine HAp.out.mono ?_; rintro e w4 ⟨rfl, P', hk4, hP', ht4⟩)
      | go_in)
    have hnP : ∀ i, w.heap.size ≤ i → ¬ P i := fun i hi hp => by have := HPlt.out i hp; omega
    have hB4 := (ht4.2.2.2.2 _ (heap_lt HX.out.2.2.1) (hnP _ (by omega))).trans HX.out.2.2.1
    have hT4 := (ht4.2.2.2.2 _ (heap_lt HX.out.2.2.2) (hnP _ (by omega))).trans HX.out.2.2.2
    have hrow4 : RowI w4 W.heap.size (.slice vo its.length vc) its := ⟨HX.out.2.1.1, HX.out.2.1.2.imp id fun ⟨k, cap, cur, e, b', hk, r⟩ => ⟨k, cap, cur, e, b', (ht4.2.2.2.2 k (heap_lt hk) (hnP k (by omega))).trans hk, r⟩⟩
    have hTw := (Touch.of_below P HX.out.1).trans ht4 (fun _ _ h => h)
    obtain ⟨a0, a1, a2, a3, b0, b1, b2, b3⟩ := four hB4
    have hE := put4_at hB4 (.int .i64 code) (.int .i64 rev) (.string val) (.slice vo its.length vc)
    have hR := put4_row hrow4 hB4 (by decide) (.int .i64 code) (.int .i64 rev) (.string val) (.slice vo its.length vc)
    have hN1 : ¬ P' (w.heap.size + 1) := fun hp => by
      rcases hP' _ hp with h1 | h1
      · exact hnP _ (by omega) h1
      · omega
    have hKn : KvAt (put4 w4 (w.heap.size + 1) (.int .i64 code) (.int .i64 rev) (.string val) (.slice vo its.length vc)) g P' (applyK S ef) := by
      refine hk4.keep (Q := fun i => i = w.heap.size + 1) ⟨rfl, rfl, rfl, by rw [put4_size]; exact Nat.le_refl _, fun k _ hk => put4_ne hk _ _ _ _⟩ (fun i hi e => hN1 (e ▸ hi))
    have hTn : Touch P w (put4 w4 (w.heap.size + 1) (.int .i64 code) (.int .i64 rev) (.string val) (.slice vo its.length vc)) :=
      hTw.trans (Q := fun i => i = w.heap.size + 1) ⟨rfl, rfl, rfl, by rw [put4_size]; exact Nat.le_refl _, fun k _ hk => put4_ne hk _ _ _ _⟩ (fun i hi e => by omega)
    have hNP : ∀ d, (Value.slice vo its.length vc).ownBlock = some d → ¬ P' d := fun d hd hp => by
      have h1 := (World.ownsRow.lt HX.out.2.1 d hd)
      rcases hP' d hp with h2 | h2
      · exact hnP d (by omega) h2
      · omega
    have hPP : ∀ i, P' i → P i ∨ w.heap.size ≤ i := fun i hi => (hP' i hi).imp id (fun h => by omega)
    rw [← HS2.out] at hKn
    have HF := Lib.hid (And.intro (row_leE hR (by omega : w.heap.size ≤ W.heap.size)) (And.intro hKn (And.intro hTn (And.intro hNP hPP))))
    obtain ⟨t0, t1, t2, t3, -⟩ := four hT4
    unfold put4 at hE HF
    clear hR hKn hTn hNP hPP hrow4 hTw hN1 hk4 hP' ht4 hnP
    go_wp2_with fail
    refine bodyPost_ret (v := kres ⟨code, rev, val, its⟩ (.slice vo its.length vc)) (by simp [results, Try.results17, go_sem, World.cell?, hE]) rfl ⟨_, rfl, HF.out.1, P', HF.out.2.1, HF.out.2.2.2.2, HF.out.2.2.2.1, HF.out.2.2.1⟩
end Go.Proofs.Ytholgmcfgnifdaa
