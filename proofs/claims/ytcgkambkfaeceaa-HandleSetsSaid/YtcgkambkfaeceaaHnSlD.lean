/- Package slices at rows of counts: one more in the midst. -/
import Derived.Test.YtcgkambkfaeceaaHnSlC
namespace Go.Proofs.Ytcgkambkfaeceaa
open Go.RowKit Go.Lib
set_option maxHeartbeats 4000000 in
set_option maxRecDepth 100000 in
/-- There is room. -/
theorem insertC_shift (B : Nat) (g cap : Nat) (L : CntL) (i : Nat) (x : Int × Int) (vb vc : Nat) (w : World) (h : RowE EC w B (.slice (some ⟨g, 0, none⟩) L.length cap) L) (hv : w.heap[vb]? = some (cntO x EC)) (hne : vb ≠ g) (hi : i < L.length) (hroom : L.length + 1 ≤ cap) (hl : L.length ≤ 1000000) :
    Calls Try.prog 37 #[.slice (some ⟨g, 0, none⟩) L.length cap, .int .i64 i, .slice (some ⟨vb, 0, none⟩) 1 vc] w fun e w' => ∃ v', e = .returned v' ∧ RowE EC w' B v' (L.take i ++ x :: L.drop i) ∧ Below B w w' := by
  obtain ⟨g', cap', cur, e, hB, hg, hn, hm, hs, hc⟩ := row_parts h (by intro e; rw [e] at hi; simp at hi)
  obtain ⟨rfl, rfl⟩ : g = g' ∧ cap = cap' := by cases e; exact ⟨rfl, rfl⟩
  have t23 := Try.underlying23
  obtain ⟨n, hnL⟩ : ∃ n, n = L.length := ⟨_, rfl⟩
  obtain ⟨news, hnews⟩ : ∃ news, news = (L.drop i).flatMap encC := ⟨_, rfl⟩
  have hlen : news.length = (n - i) * 2 := by rw [hnews, flat_lenC, List.length_drop, hnL]
  have hfz : ∀ j, w.frozen? ⟨g, j, none⟩ = false := fun j => by simp [World.frozen?, hg]
  have hall : ∀ j, j < (n + 1) * 2 → (w.cell? ⟨g, j, none⟩).isSome = true := fun j hj => by
    simp only [World.cell?, hg]
    rw [Array.getElem?_eq_getElem (by rw [hs]; omega)]; rfl
  have hget : ∀ t u, news[t]? = some u → w.cell? ⟨g, i * 2 + t, none⟩ = some u := by
    intro t u hu
    refine hc _ u ?_
    have e : L.flatMap encC = (L.take i).flatMap encC ++ news := by rw [hnews, ← flat_app, List.take_append_drop]
    rw [e, List.getElem?_append_right (by rw [flat_lenC, List.length_take]; omega), flat_lenC, List.length_take]
    rw [show i * 2 + t - min i L.length * 2 = t from by omega]
    exact hu
  have hov : ∀ lb cb, (callFunc 52 #[.slice (some ⟨vb, 0, none⟩) 1 vc, .slice (some ⟨g, (i + 1) * 2, none⟩) lb cb]).run Try.prog w = .ok (.value (.bool false)) w := fun lb cb => by
    rw [run_callFunc_extern Try.func52 (by kernel_rfl) (by kernel_rfl) (by kernel_rfl) (e := Extern.SlicesOverlaps.overlaps #[TC, TC] #[4]) (by kernel_rfl),
      Lib.run_overlaps_apart w TC 4 EC t23 2 (fun w => Try.sizeOf50 w) ⟨vb, 0, none⟩ ⟨g, (i + 1) * 2, none⟩ 1 vc lb cb hne EC EC 2 (cap * 2) (by simp [World.shape?, hv]) (by simp [World.shape?, hg, hs]) (by omega) (by simp [World.frozen?, hv]) (by simp [World.frozen?, hv])]
    rfl
  have hcp1 : ∀ ty dc sc, (Builtin.copy_ #[TC, TC] ty #[.slice (some ⟨g, (i + 1) * 2, none⟩) (n - i) dc, .slice (some ⟨g, i * 2, none⟩) (n + 1 - i) sc]).run Try.prog w.drew = .ok (goInt (n - i : Nat)) (w.drew.setCells g ((i + 1) * 2) news) := fun ty dc sc =>
    run_copyC w.drew ty g ((i + 1) * 2) (n - i) dc ⟨g, i * 2, none⟩ (n + 1 - i) sc news (n - i) (by simp only [Nat.min_def]; split <;> omega) hlen
      (fun j v hj => by rw [Addr.add_lit]; exact hget j v hj)
      (fun j hj => hall _ (by omega)) (fun j hj => hfz _) (by rw [hnews]; exact flat_oneC _)
  obtain ⟨W1, hW1⟩ : ∃ W1, W1 = w.drew.setCells g ((i + 1) * 2) news := ⟨_, rfl⟩
  have hg0 : w.drew.heap[g]? = some (.cells cur EC (0, 0)) := hg
  obtain ⟨⟨cur1, hg1, hs1⟩, hb1⟩ := blk_set g EC news ((i + 1) * 2) w.drew cur hg0
  rw [← hW1] at hg1 hb1 hcp1
  have hcp2 : ∀ ty dc, (Builtin.copy_ #[TC, TC] ty #[.slice (some ⟨g, i * 2, none⟩) (n + 1 - i) dc, .slice (some ⟨vb, 0, none⟩) 1 vc]).run Try.prog W1 = .ok (goInt (1 : Nat)) (W1.setCells g (i * 2) (encC x)) := fun ty dc =>
    run_copyC W1 ty g (i * 2) (n + 1 - i) dc ⟨vb, 0, none⟩ 1 vc (encC x) 1 (by simp only [Nat.min_def]; split <;> omega) rfl
      (fun j v hj => by
        rw [hW1, World.cell?_setCells_out _ _ _ _ _ (fun h _ => absurd h (by rw [add_block]; exact hne))]
        exact cnt_cells hv j v hj)
      (fun j hj => by rw [hW1]; exact isSome_set _ _ _ _ _ (hall _ (by simp at hj; omega))) (fun j hj => by simp [World.frozen?, hg1]) (one_encC x)
  have HEND := Lib.hid (ins_row (x := x) hg0 hs hB hm hroom (Nat.le_of_lt hi) (fun j u _ hj => hc j u hj) (W1.setCells g (i * 2) (encC x)) (Or.inl (by rw [hW1, hnews])) (w := w) ⟨rfl, rfl, rfl, Nat.le_refl _, fun _ _ => rfl⟩)
  rw [← hnL] at hi hroom hl hn ⊢
  have HNL := Lib.hid hnL
  have hz2 : ¬ ((i : Int) = (n : Int)) := by omega
  have hz3 : ((i : Int) == (n : Int)) = false := by simpa using hz2
  have hw1 : IntKind.i64.wrap ((i : Int) + 1) = (i : Int) + 1 := IntWalk.i64_in _ (by omega)
  have hw2 : IntKind.i64.wrap ((n : Int) + 1) = (n : Int) + 1 := IntWalk.i64_in _ (by omega)
  have htn : ((i : Int) + 1).toNat = i + 1 := by omega
  have htm : ((n : Int) + 1).toNat = n + 1 := by omega
  have hb1 : (0 : Int) ≤ (i : Int) + 1 := by omega
  have hb2 : ¬ (cap = i + 1) := by omega
  have hb4 : ¬ (cap = i) := by omega
  have hb5 : ¬ (cap = n) := by omega
  have hb6 : (0 : Int) ≤ (n : Int) + 1 := by omega
  have hb7 : (n : Int) + 1 ≤ (cap : Int) := by omega
  have hb8 : (i : Int) + 1 ≤ (n : Int) + 1 := by omega
  have hb9 : (i : Int) ≤ (n : Int) + 1 := by omega
  have hc63 : (cap : Int) ≤ 9223372036854775807 := by unfold maxLen at hm; omega
  have hcg : decide ((cap : Int) < (n : Int) + 1) = false := by simp; omega
  have hin : (i : Int) ≤ (n : Int) := by omega
  clear hnL hg hg0 hg1 hs hs1 hall hget hnews hlen hfz hc hW1 h hv hm e
  go_enter Try.func37, Try.ntmps37
  go_wp2_with (simp only [hov])
  go_region_law (refine step_copyC rfl _ _ rfl _ _ (by simp [Act.eval, Act.put]) (by simp [Act.eval, Act.put]) (hcp1 _ _ _) ?_)
  go_wp2_with (at_builtin; refine wpList_copyC rfl _ _ rfl _ _ rfl rfl (hcp2 _ _) ?_)
  go_ret
  refine ⟨_, rfl, ?_⟩
  rw [HNL.out]
  exact HEND.out
end Go.Proofs.Ytcgkambkfaeceaa
