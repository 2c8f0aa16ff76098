/- Package disk: Cut. -/
import Derived.Test.YtkjdfelmjanpcaaDoorDkDel
import Derived.Test.YtkjdfelmjanpcaaDoorDkCrash
namespace Go.Proofs.YtkjdfelmjanpcaaDoor
open Go.RowKit Go.Maps
set_option maxRecDepth 100000 in
set_option maxHeartbeats 2000000 in
theorem cut_any (g : Nat) (P : Nat → Prop) (D : DSt) (s : ByteArray) (n : Int) (w : World) (h : DiskAt w g P D) (hs : s.size ≤ maxLen) (_ : -9223372036854775808 ≤ n) (_ : n ≤ 9223372036854775807) (hall : ∀ f ∈ D.fs, f.2.1.length ≤ 100000000000) (hn : D.fs.length ≤ 1000000) :
    Calls Tryd.prog 56 #[ptr g, .string s, .int .i64 n] w fun e w' => ∃ P', e = .returned (.int .i64 (cutD D s.data.toList n).1) ∧ DiskAt w' g P' (cutD D s.data.toList n).2 ∧ Step P P' w w' := by
  have HDA := Lib.hid h
  obtain ⟨mb, es, h, h2, h3, h4, h5, h6, h7, h8, h9⟩ := h
  have HF := Lib.hid (find_any g mb es _ _ _ s w h hs)
  obtain ⟨sv, hv, ho, hko, hsu, hsv, hsome⟩ := file_of h4 s.data.toList
  have hsee := ho.sees
  obtain ⟨ao, c, rfl, -⟩ := id hsee
  rw [hv, hsome] at HF
  have hz : g < w.heap.size := heap_lt h.1
  cases hgf : getE D.fs s.data.toList with
  | none =>
    have e1 : cutD D s.data.toList n = (6, D) := by unfold cutD; rw [hgf]
    rw [hgf] at HF
    rw [e1]
    simp only [Option.isSome_none, Bool.false_eq_true, if_false] at HF
    clear h h4 hv ho hko hsu hsv hsome hsee hgf e1
    go_enter Tryd.func56, Tryd.ntmps56
    go_wp2_with fail
    refine HF.out.mono ?_; rintro e w1 ⟨rfl, hb1⟩
    go_wp2_with fail
    go_ret
    refine ⟨P, rfl, HDA.out.below ?_, Touch.of_below P ?_, fun i hi => Or.inl hi⟩
    all_goals
      refine hb1.trans ?_
      repeat (first | exact Below.refl _ _ | refine Below.setCell ?_ (by simp) _ | refine Below.alloc ?_ (by have := hb1.size; simp; omega) _)
  | some u =>
    obtain ⟨b, rfl⟩ : ∃ b, mb = some b := by
      cases hge : getE es s.data.toList with
      | none => rw [hge, hgf] at hsome; cases hsome
      | some v => exact some_map h hge
    rw [hgf] at HF ho hko hsu hv hsee hsv
    simp only [Option.isSome_some, if_true, Option.getD_some] at HF ho hko hsu hv hsee hsv
    have HGF := Lib.hid hgf
    have ul : u.1.length ≤ 100000000000 := hall _ (getE_mem hgf)
    have HH := Lib.hid (And.intro h (And.intro h4 (And.intro hsv (And.intro ho (And.intro hko hsu)))))
    clear h h4 hv ho hko hsu hsv hsome hsee
    by_cases hn0 : n < 0
    · have e1 : cutD D s.data.toList n = (1, D) := by unfold cutD; rw [HGF.out]; simp only []; rw [if_pos (Or.inl hn0)]
      rw [e1]
      clear e1
      have d1 : decide (n < 0) = true := by simpa using hn0
      go_enter Tryd.func56, Tryd.ntmps56
      go_wp2_with fail
      refine HF.out.mono ?_; rintro e w1 ⟨rfl, hb1⟩
      go_wp2_with fail
      go_ret
      refine ⟨P, rfl, HDA.out.below ?_, Touch.of_below P ?_, fun i hi => Or.inl hi⟩
      all_goals
        refine hb1.trans ?_
        repeat (first | exact Below.refl _ _ | refine Below.setCell ?_ (by simp) _ | refine Below.alloc ?_ (by have := hb1.size; simp; omega) _)

    by_cases hn1 : (u.1.length : Int) < n
    · have e1 : cutD D s.data.toList n = (1, D) := by unfold cutD; rw [HGF.out]; simp only []; rw [if_pos (Or.inr hn1)]
      rw [e1]
      clear e1
      have d1 : decide (n < 0) = false := by simpa using hn0
      have d2 : decide ((u.1.length : Int) < n) = true := by simpa using hn1
      go_enter Tryd.func56, Tryd.ntmps56
      go_wp2_with fail
      refine HF.out.mono ?_; rintro e w1 ⟨rfl, hb1⟩
      go_wp2_with fail
      go_ret
      refine ⟨P, rfl, HDA.out.below ?_, Touch.of_below P ?_, fun i hi => Or.inl hi⟩
      all_goals
        refine hb1.trans ?_
        repeat (first | exact Below.refl _ _ | refine Below.setCell ?_ (by simp) _ | refine Below.alloc ?_ (by have := hb1.size; simp; omega) _)

    obtain ⟨m, rfl⟩ : ∃ m : Nat, n = (m : Int) := ⟨n.toNat, by omega⟩
    have hm : m ≤ u.1.length := by omega
    have HNE : Hid (¬ ((m : Int) < 0 ∨ (u.1.length : Int) < (m : Int))) := Lib.hid (by omega)
    have d1 : decide ((m : Int) < 0) = false := by simp
    have d2 : decide ((u.1.length : Int) < (m : Int)) = false := by simp; omega
    clear hn0 hn1
    go_enter Tryd.func56, Tryd.ntmps56
    go_wp2_with fail
    refine HF.out.mono ?_; rintro e w1 ⟨rfl, hb1⟩
    go_wp2_with fail
    obtain ⟨h, h4, hsv, ho, hko, hsu⟩ := HH.out
    have hbA := belAlloc hb1 (.cells #[.slice ao u.1.length c, .int .i64 (u.2 : Nat)] 85)
    have hDA := h.keep hbA
    have hcA : (w1.alloc (.cells #[.slice ao u.1.length c, .int .i64 (u.2 : Nat)] 85)).heap[w1.heap.size]? = some (.cells #[.slice ao u.1.length c, .int .i64 (u.2 : Nat)] 85 (0, 0)) := heap_alloc_new w1 _
    have hz1 := hb1.size
    refine (write_any g (some b) es D.lost D.armed D.left _ hDA h8 h9).mono ?_; rintro e w2 ⟨rfl, hd2, ht2⟩
    have hT : Touch (· = g) w w2 := (Touch.of_below _ hbA).trans ht2 (fun _ _ e => e)
    have hL2 : w2.heap[w1.heap.size]? = some (.cells #[.slice ao u.1.length c, .int .i64 (u.2 : Nat)] 85 (0, 0)) := (ht2.2.2.2.2 _ (by simp) (by omega)).trans hcA
    obtain ⟨l1, hl1⟩ : ∃ l1, l1 = lost1 D.lost D.armed D.left := ⟨_, rfl⟩
    obtain ⟨n1, hn1⟩ : ∃ n1, n1 = left1 D.lost D.armed D.left := ⟨_, rfl⟩
    obtain ⟨q8, q9⟩ := left1_bd (lost := D.lost) (armed := D.armed) h8 h9
    have hE : errW D.lost D.armed D.left = if l1 then 12 else 0 := by unfold errW; rw [hl1]
    rw [← hl1, ← hn1] at hd2
    rw [← hn1] at q8 q9
    have HL := Lib.hid (And.intro hl1 hn1)
    cases l1 with
    | true =>
      have e1 : cutD D s.data.toList (m : Int) = (12, ⟨D.fs, true, D.armed, n1⟩) := by unfold cutD; rw [hgf]; simp only []; rw [if_neg HNE.out, ← hl1, if_pos rfl, ← hn1]
      have E1 := Lib.hid e1
      rw [hE, if_pos rfl]
      have HR := Lib.hid (DiskAt.wrote (fs := D.fs) h h2 h3 h4 h5 h6 h7 hd2 hT q8 q9)
      clear h h4 hsv ho hko hsu hbA hDA hcA hL2 hd2 hl1 hn1 hE hgf e1
      go_wp2_with fail
      go_ret
      rw [E1.out]
      exact ⟨P, rfl, HR.out, hT.mono (fun i _ e => by rw [e]; exact h2), fun i hi => Or.inl hi⟩
    | false =>
      have e1 : cutD D s.data.toList (m : Int) = (0, { fs := putE s.data.toList (u.1.take m, m) D.fs, lost := false, armed := D.armed, left := n1 }) := by
        unfold cutD; rw [hgf]; simp only []; rw [if_neg HNE.out, ← hl1, if_neg (by simp), ← hn1]; rfl
      have E1 := Lib.hid e1
      rw [hE, if_neg (by simp)]
      have p0 : w2.cell? ⟨w1.heap.size, 0, none⟩ = some (.slice ao u.1.length c) := by simp [World.cell?, hL2]
      have p1 : w2.cell? ⟨w1.heap.size, 1, none⟩ = some (.int .i64 (u.2 : Nat)) := by simp [World.cell?, hL2]
      obtain ⟨m0, -⟩ := dcells hd2.1
      have hlenE : es.length ≤ 1000000 := by rw [All2.len h4]; exact hn
      have ho2 : Owns w2 0 (.slice ao u.1.length c) u.1 := ⟨ho.1, ho.2.imp id fun ⟨g', cap, cur, e1, e2, e3, r⟩ => ⟨g', cap, cur, e1, e2, (hT.2.2.2.2 g' (heap_lt e3) (fun e => own_ne_cells ho h.1 (by decide) (by rw [e1, ← e]; rfl))).trans e3, r⟩⟩
      have hsee2 := ho2.sees
      have HWL := Lib.hid hL2
      have HO2 := Lib.hid ho2
      have HR := Lib.hid (And.intro hd2 hT)
      clear h h4 hsv ho hko hsu hbA hDA hcA hL2 hd2 hl1 hn1 hE hgf e1 hT ht2 ho2 d1 d2
      go_wp2_with fail
      refine wp_region_held_drew (S := (fun W => W.cell? ⟨g, 0, none⟩ = some (.map (some b)) ∧ W.cell? ⟨w1.heap.size, 0, none⟩ = some (.slice ao u.1.length c) ∧ W.cell? ⟨w1.heap.size, 1, none⟩ = some (.int .i64 (u.2 : Nat)) ∧ Sees W (.slice ao u.1.length c) u.1)) (by kernel_rfl) ?_ (fun r0 => ?_)
      · exact ⟨m0, p0, p1, hsee2⟩
      refine wpAnyH_take (i := 0) (v := ?_) rfl (by kernel_rfl) (by kernel_rfl) (by kernel_rfl) (fun _ _ _ h => h) (Or.inl ⟨by rfl, ?_⟩) (by assumption) ?_
      rotate_left
      · intro w hSw
        (try dsimp only at hSw)
        go_simp
        first | done | with_reducible rfl
      try simp only [Act.put, List.getElem_toArray, List.getElem_cons_zero, List.setIfInBounds_toArray, List.set_cons_zero, List.set_cons_succ]
      refine wpAnyH_take (i := 1) (v := ?_) rfl (by kernel_rfl) (by kernel_rfl) (by kernel_rfl) (fun _ _ _ h => h) (Or.inl ⟨by rfl, ?_⟩) (by assumption) ?_
      rotate_left
      · intro w hSw
        (try dsimp only at hSw)
        go_simp
        first | done | with_reducible rfl
      try simp only [Act.put, List.getElem_toArray, List.getElem_cons_succ, List.getElem_cons_zero, List.setIfInBounds_toArray, List.set_cons_zero, List.set_cons_succ]
      refine wpAnyH_take (i := 2) (v := ?_) rfl (by kernel_rfl) (by kernel_rfl) (by kernel_rfl) (fun _ _ _ h => h) (Or.inl ⟨by rfl, ?_⟩) (by assumption) ?_
      rotate_left
      · intro w hSw
        (try dsimp only at hSw)
        go_simp
        first | done | with_reducible rfl
      try simp only [Act.put, List.getElem_toArray, List.getElem_cons_succ, List.getElem_cons_zero, List.setIfInBounds_toArray, List.set_cons_zero, List.set_cons_succ]
      refine wpAnyH_take (i := 3) (v := ?_) rfl (by kernel_rfl) (by kernel_rfl) (by kernel_rfl) (fun _ _ _ h => h) (Or.inl ⟨by rfl, ?_⟩) (by assumption) ?_
      rotate_left
      · intro w hSw
        (try dsimp only at hSw)
        go_simp
        first | done | with_reducible rfl
      try simp only [Act.put, List.getElem_toArray, List.getElem_cons_succ, List.getElem_cons_zero, List.setIfInBounds_toArray, List.set_cons_zero, List.set_cons_succ]
      refine wpAnyH_take (i := 4) (v := ?_) rfl (by kernel_rfl) (by kernel_rfl) (by kernel_rfl) (fun _ _ _ h => h) (Or.inl ⟨by rfl, ?_⟩) (by assumption) ?_
      rotate_left
      · intro w hSw
        (try dsimp only at hSw)
        go_simp
        first | done | with_reducible rfl
      try simp only [Act.put, List.getElem_toArray, List.getElem_cons_succ, List.getElem_cons_zero, List.setIfInBounds_toArray, List.set_cons_zero, List.set_cons_succ]
      refine wpAnyH_take (i := 5) (v := ?_) rfl (by kernel_rfl) (by kernel_rfl) (by kernel_rfl) (fun _ _ _ h => h) (Or.inl ⟨by rfl, ?_⟩) (by assumption) ?_
      rotate_left
      · intro w hSw
        (try dsimp only at hSw)
        go_simp
        first | done | with_reducible rfl
      try simp only [Act.put, List.getElem_toArray, List.getElem_cons_succ, List.getElem_cons_zero, List.setIfInBounds_toArray, List.set_cons_zero, List.set_cons_succ]
      refine wpAnyH_take (i := 6) (v := ?_) rfl (by kernel_rfl) (by kernel_rfl) (by kernel_rfl) (fun _ _ _ h => h) (Or.inl ⟨by rfl, ?_⟩) (by assumption) ?_
      rotate_left
      · intro w hSw
        (try dsimp only at hSw)
        go_simp
        first | done | with_reducible rfl
      try simp only [Act.put, List.getElem_toArray, List.getElem_cons_succ, List.getElem_cons_zero, List.setIfInBounds_toArray, List.set_cons_zero, List.set_cons_succ]
      refine wpAnyH_ready (rs := [7]) (by kernel_rfl) (by simp) ?_
      refine AllReadyH.cons rfl (fun K hK => ?_) AllReadyH.nil
      go_simp
      refine (first_any (.slice ao u.1.length c) u.2 m u.1 _ r0.2.2.2 hm ul).mono ?_; rintro e w4 ⟨v4, rfl, ho4, hb4⟩
      obtain ⟨a4, c4, hv4, -⟩ := id ho4.sees
      rw [show (u.1.take m).length = m from by rw [List.length_take]; omega] at hv4
      subst hv4
      have hb4' : Below w2.heap.size w2 w4 := (show Below w2.heap.size w2 w2.drew from ⟨rfl, rfl, rfl, Nat.le_refl _, fun _ _ => rfl⟩).trans hb4
      have hM4 : MapIs w4 b es.length es := (HR.out.1.2.1 b rfl).heap (hb4'.block b (HR.out.1.2.1 b rfl).lt)
      have hkp : ∀ (q : Addr) (x : Value), (w2).cell? q = some x → w4.cell? q = some x := fun q x hq => (hb4'.cell (World.block_lt_of_cell? _ _ hq)).trans hq
      have hs4 : Sees w4 (.slice ao u.1.length c) u.1 := hsee2.keep hb4'
      refine hK.out _ _ ?_ (fun r1 => ?_)
      · exact ⟨hkp _ _ r0.1, hkp _ _ r0.2.1, hkp _ _ r0.2.2.1, hs4⟩
      try simp only [Act.put, List.getElem_toArray, List.getElem_cons_succ, List.getElem_cons_zero, List.setIfInBounds_toArray, List.set_cons_zero, List.set_cons_succ]
      obtain ⟨w5, hrun, hm5, hg5⟩ := hM4.put (by unfold maxLen; omega) hs (.agg #[.slice a4 m c4, .int .i64 (m : Nat)])
      refine wpAnyH_ready (rs := [8]) (by kernel_rfl) (by simp) ?_
      refine AllReadyH.cons rfl (fun K hK => ?_) AllReadyH.nil
      have hD4 := HR.out.1.keep hb4'
      have hkq : ∀ (q : Addr) (x : Value), q.block ≠ b → w4.cell? q = some x → w5.cell? q = some x := fun q x hn hq => (World.cell?_of_block (hg5.block q.block (World.block_lt_of_cell? _ _ hq) (fun e => hn (Option.some.inj e)))).trans hq
      have hL4 : w4.heap[w1.heap.size]? = some (.cells #[.slice ao u.1.length c, .int .i64 (u.2 : Nat)] 85 (0, 0)) := (hb4'.block w1.heap.size (heap_lt HWL.out)).trans HWL.out
      have hs5 : Sees w5 (.slice ao u.1.length c) u.1 := sees_heap hs4 (fun d hd hlt => hg5.block d hlt (fun e => own_ne_map HO2.out (HR.out.1.2.1 b rfl) (hd.trans e)))
      go_simp
      refine hK.out _ _ ?_ (fun r2 => ?_)
      · exact ⟨hkq _ _ ((hD4.2.1 b rfl).ne hD4.1).symm r1.1, hkq _ _ ((hD4.2.1 b rfl).ne hL4).symm r1.2.1, hkq _ _ ((hD4.2.1 b rfl).ne hL4).symm r1.2.2.1, hs5⟩
      try simp only [Act.put, List.getElem_toArray, List.getElem_cons_succ, List.getElem_cons_zero, List.setIfInBounds_toArray, List.set_cons_zero, List.set_cons_succ]
      refine wpAnyH_done (by kernel_rfl) ?_ _
      go_wp2_with fail
      go_ret
      obtain ⟨h, h4, hsv, ho, hko, hsu⟩ := HH.out
      obtain ⟨hd2, hT⟩ := HR.out
      have hT4 : Touch (· = g) w w4 := hT.trans (Touch.of_below (· = g) hb4') (fun _ _ e => e)
      rw [E1.out]
      exact ⟨_, rfl, put_end (su := m) (sv := .slice ao u.1.length c) (w2 := w4) h h2 (h3 b rfl) h4 h5 h6 h7 hsv hD4 hT4 q8 q9 hm5 hg5 (Owns.le ho4 (Nat.zero_le _)) (hko.take m) (by rw [List.length_take]; omega) (fun d hd => Or.inr (Nat.le_trans hT.2.2.2.1 (World.ownsRow.lt ho4 d hd).1))⟩
end Go.Proofs.YtkjdfelmjanpcaaDoor
