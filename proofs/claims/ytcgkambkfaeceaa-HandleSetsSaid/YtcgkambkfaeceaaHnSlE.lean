/- Package slices at rows of counts: one more in the midst, where there is no room; wherever. -/
import Derived.Test.YtcgkambkfaeceaaHnSlD
namespace Go.Proofs.Ytcgkambkfaeceaa
open Go.RowKit Go.Lib
theorem setCells_drew1 (b : Nat) : ∀ (vs : List Value) (o : Nat) (w : World), (w.setCells b o vs).drew = w.drew.setCells b o vs
  | [], _, _ => rfl
  | v :: r, o, w => by rw [World.setCells, World.setCells, setCells_drew1 b r]; rfl
set_option maxHeartbeats 4000000 in
set_option maxRecDepth 100000 in
/-- There is no room: a new row. -/
theorem insertC_grow (B : Nat) (g cap : Nat) (L : CntL) (i : Nat) (x : Int × Int) (vb vc : Nat) (w : World) (h : RowE EC w B (.slice (some ⟨g, 0, none⟩) L.length cap) L) (hv : w.heap[vb]? = some (cntO x EC)) (hi : i < L.length) (hroom : cap < L.length + 1) (hl : L.length ≤ 1000000) (hBw : B ≤ w.heap.size) :
    Calls Try.prog 37 #[.slice (some ⟨g, 0, none⟩) L.length cap, .int .i64 i, .slice (some ⟨vb, 0, none⟩) 1 vc] w fun e w' => ∃ v', e = .returned v' ∧ RowE EC w' B v' (L.take i ++ x :: L.drop i) ∧ Below B w w' := by
  obtain ⟨g', cap', cur, e, hB, hg, hn, hm, hs, hc⟩ := row_parts h (by intro e; rw [e] at hi; simp at hi)
  obtain ⟨rfl, rfl⟩ : g = g' ∧ cap = cap' := by cases e; exact ⟨rfl, rfl⟩
  obtain ⟨i0, hi0, hz0, hz1, hz2⟩ := info_parts infoC
  have t23 := Try.underlying23
  obtain ⟨n, hnL⟩ : ∃ n, n = L.length := ⟨_, rfl⟩
  obtain ⟨news, hnews⟩ : ∃ news, news = (L.drop i).flatMap encC := ⟨_, rfl⟩
  have hlen : news.length = (n - i) * 2 := by rw [hnews, flat_lenC, List.length_drop, hnL]
  have hgw : g < w.heap.size := heap_lt hg
  have hvw : vb < w.heap.size := heap_lt hv
  have hget : ∀ t u, news[t]? = some u → w.cell? ⟨g, i * 2 + t, none⟩ = some u := by
    intro t u hu
    refine hc _ u ?_
    have e : L.flatMap encC = (L.take i).flatMap encC ++ news := by rw [hnews, ← flat_app, List.take_append_drop]
    rw [e, List.getElem?_append_right (by rw [flat_lenC, List.length_take]; omega), flat_lenC, List.length_take]
    rw [show i * 2 + t - min i L.length * 2 = t from by omega]
    exact hu
  have hti : ((L.take i).flatMap encC).length = i * 2 := by rw [flat_lenC, List.length_take]; omega
  have hold : (Builtin.firstCells i0.size i (.slice (some ⟨g, 0, none⟩) i cap)).run Try.prog w.drew = .ok ((L.take i).flatMap encC).toArray w.drew := by
    rw [hz1]
    have hl := run_loadCells_list (P := Try.prog) w.drew ⟨g, 0, none⟩ ((L.take i).flatMap encC) (fun j v hj => by
      rw [add0]
      refine hc j v ?_
      have e : L.flatMap encC = (L.take i).flatMap encC ++ (L.drop i).flatMap encC := by rw [← flat_app, List.take_append_drop]
      rw [e, List.getElem?_append_left (List.getElem?_eq_some_iff.1 hj).1]
      exact hj)
    rw [hti] at hl
    exact hl
  have hkk : (n : Int) + 1 - (i : Int) = ((n + 1 - i : Nat) : Int) := by omega
  have hik : i + (n + 1 - i) = n + 1 := by omega
  obtain ⟨G, hG⟩ : ∃ G, G = grownCap w (n + 1) cap EC := ⟨_, rfl⟩
  have hGn : n + 1 ≤ G := by rw [hG]; exact grownCap_ge w _ _ _
  have hGm : G ≤ maxLen := by rw [hG]; exact grownCap_le_maxLen w (n + 1) cap EC (by unfold maxLen; omega)
  obtain ⟨ROW, hROW⟩ : ∃ ROW : Array Value, ROW = ((L.take i).flatMap encC).toArray ++ Builtin.zeroCells zeroC.cells (n + 1 - i) ++ Builtin.zeroCells zeroC.cells (G - (n + 1)) := ⟨_, rfl⟩
  have hrz : ∀ ty, (Builtin.append_ #[TC, 3] ty #[.slice (some ⟨g, 0, none⟩) i cap, .int .i64 ((n : Int) + 1 - (i : Int))]).run Try.prog w = .ok (.slice (some ⟨w.heap.size, 0, none⟩) (n + 1) G) (w.drew.alloc (.cells ROW EC)) := fun ty => by
    have h := Lib.run_append_grow_zeros w TC 3 ty EC i0 _ .i64 .i64 t23 Try.underlying3 hi0 hz0 (some ⟨g, 0, none⟩) i cap _ hold (n + 1 - i) (by omega) (by omega) (by omega) (by omega) (by rw [hz2]; omega) (by rw [hz2, hik]; exact growslice_fits (by omega) (by omega))
    rw [hik, ← hG, ← hROW] at h
    rw [hkk]
    exact h
  have hRs : ROW.size = G * 2 := by
    rw [hROW]
    have hz : zeroC.cells.size = 2 := by kernel_rfl
    simp only [Builtin.zeroCells, Array.size_append, List.size_toArray, Array.size_map, Array.size_range, hz, hti]
    omega
  have hRc : ∀ j u, j < i * 2 → (L.flatMap encC)[j]? = some u → ROW[j]? = some u := fun j u hj hu => by
    have e : L.flatMap encC = (L.take i).flatMap encC ++ (L.drop i).flatMap encC := by rw [← flat_app, List.take_append_drop]
    rw [e, List.getElem?_append_left (by omega)] at hu
    rw [hROW, Array.append_assoc, Array.getElem?_append_left (by simpa using (by omega : j < ((L.take i).flatMap encC).length))]
    simpa using hu
  obtain ⟨W1, hW1⟩ : ∃ W1, W1 = w.drew.alloc (.cells ROW EC) := ⟨_, rfl⟩
  obtain ⟨S, hS⟩ : ∃ S, S = w.heap.size := ⟨_, rfl⟩
  have hg1 : W1.heap[S]? = some (.cells ROW EC (0, 0)) := by rw [hW1, hS]; exact heap_new w.drew _
  have hold1 : ∀ a v, w.cell? a = some v → W1.cell? a = some v := fun a v h => by
    rw [hW1]; exact bcell (belNew w.drew _) h
  rw [← hW1, ← hS] at hrz
  have hN : ∀ j, j < (n + 1) * 2 → (W1.cell? ⟨S, j, none⟩).isSome = true := fun j hj => by
    simp only [World.cell?, hg1]
    rw [Array.getElem?_eq_getElem (by rw [hRs]; omega)]; rfl
  have hNf : ∀ j, W1.frozen? ⟨S, j, none⟩ = false := fun j => by simp [World.frozen?, hg1]
  have hcpA : ∀ ty dc, (Builtin.copy_ #[TC, TC] ty #[.slice (some ⟨S, i * 2, none⟩) (n + 1 - i) dc, .slice (some ⟨vb, 0, none⟩) 1 vc]).run Try.prog W1 = .ok (goInt (1 : Nat)) (W1.setCells S (i * 2) (encC x)) := fun ty dc =>
    run_copyC W1 ty S (i * 2) (n + 1 - i) dc ⟨vb, 0, none⟩ 1 vc (encC x) 1 (by simp only [Nat.min_def]; split <;> omega) rfl
      (fun j v hj => hold1 _ v (cnt_cells hv j v hj))
      (fun j hj => hN _ (by simp at hj; omega)) (fun j hj => hNf _) (one_encC x)
  obtain ⟨W2, hW2⟩ : ∃ W2, W2 = W1.setCells S (i * 2) (encC x) := ⟨_, rfl⟩
  obtain ⟨⟨cur2, hg2, hs2⟩, hb2⟩ := blk_set S EC (encC x) (i * 2) W1 ROW hg1
  rw [← hW2] at hcpA hg2 hb2
  have hSg : g ≠ S := by omega
  have hcpB : ∀ ty dc sc, (Builtin.copy_ #[TC, TC] ty #[.slice (some ⟨S, (i + 1) * 2, none⟩) (n - i) dc, .slice (some ⟨g, i * 2, none⟩) (n - i) sc]).run Try.prog W2.drew = .ok (goInt (n - i : Nat)) (W2.drew.setCells S ((i + 1) * 2) news) := fun ty dc sc =>
    run_copyC W2.drew ty S ((i + 1) * 2) (n - i) dc ⟨g, i * 2, none⟩ (n - i) sc news (n - i) (by simp) hlen
      (fun j v hj => by
        rw [Addr.add_lit]
        show W2.cell? _ = _
        rw [hW2, World.cell?_setCells_out _ _ _ _ _ (fun h _ => absurd h hSg)]
        exact hold1 _ v (hget j v hj))
      (fun j hj => by show (W2.cell? _).isSome = true; rw [hW2]; exact isSome_set _ _ _ _ _ (hN _ (by omega))) (fun j hj => by show W2.frozen? _ = false; simp [World.frozen?, hg2]) (by rw [hnews]; exact flat_oneC _)
  have HEND : Hid (RowE EC (W2.drew.setCells S ((i + 1) * 2) news) B (.slice (some ⟨S, 0, none⟩) (L.length + 1) G) (L.take i ++ x :: L.drop i) ∧ Below B w (W2.drew.setCells S ((i + 1) * 2) news)) := Lib.hid (by
    have hbW : Below B w W1.drew := by
      rw [hW1]
      have h0 : Below B w w.drew := ⟨rfl, rfl, rfl, Nat.le_refl _, fun _ _ => rfl⟩
      have h1 : Below B w (w.drew.alloc (.cells ROW EC)) := h0.alloc hBw _
      exact ⟨h1.os, h1.tape, h1.output, h1.size, h1.block⟩
    refine ins_row (x := x) (W := W1.drew) (cur := ROW) hg1 hRs (by omega) hGm (by omega) (Nat.le_of_lt hi) (fun j u hj hu => ?_) _ (Or.inr ?_) hbW
    · show W1.cell? _ = _
      simp only [World.cell?, hg1]
      exact hRc j u hj hu
    · rw [hW2, ← hnews]
      rw [setCells_drew1])
  rw [← hnL] at hi hroom hl hn HEND ⊢
  have hz2 : ¬ ((i : Int) = (n : Int)) := by omega
  have hz3 : ((i : Int) == (n : Int)) = false := by simpa using hz2
  have hw1 : IntKind.i64.wrap ((i : Int) + 1) = (i : Int) + 1 := IntWalk.i64_in _ (by omega)
  have hw2 : IntKind.i64.wrap ((n : Int) + 1) = (n : Int) + 1 := IntWalk.i64_in _ (by omega)
  have hw3 : IntKind.i64.wrap ((n : Int) + 1 - (i : Int)) = (n : Int) + 1 - (i : Int) := IntWalk.i64_in _ (by omega)
  have htn : ((i : Int) + 1).toNat = i + 1 := by omega
  have hb1 : (0 : Int) ≤ (i : Int) + 1 := by omega
  have hb2 : ¬ (G = i + 1) := by omega
  have hb4 : ¬ (cap = i) := by omega
  have hb5 : ¬ (G = i) := by omega
  have hb8 : (i : Int) + 1 ≤ (n : Int) + 1 := by omega
  have hb9 : (i : Int) ≤ (n : Int) + 1 := by omega
  have hb10 : (i : Int) ≤ (cap : Int) := by omega
  have hc63 : (cap : Int) ≤ 9223372036854775807 := by unfold maxLen at hm; omega
  have hG63 : (G : Int) ≤ 9223372036854775807 := by unfold maxLen at hGm; omega
  have hcg : decide ((cap : Int) < (n : Int) + 1) = true := by simp; omega
  have hin : (i : Int) ≤ (n : Int) := by omega
  have HSS := Lib.hid hS
  clear hnL hg hg1 hg2 hs hget hnews hlen hc hW1 hW2 h hv hm e hkk hik hold hROW hG hRs hRc hN hNf hS hGm hold1 hti hs2 hSg hgw hvw
  go_enter Try.func37, Try.ntmps37
  go_wp2_with (first
    | (at_builtin; refine Lib.wpList_append_run _ rfl _ _ _ _ rfl _ _ rfl rfl _ _ (hrz _) ?_)
    | (at_builtin; refine wpList_copyC rfl _ _ rfl _ _ rfl rfl (hcpA _ _) ?_))
  go_region_law (refine step_copyC rfl _ _ rfl _ _ (by simp [Act.eval, Act.put]) (by simp [Act.eval, Act.put]) (hcpB _ _ _) ?_)
  go_wp2_with fail
  go_ret
  exact ⟨_, rfl, HEND.out⟩
/-- One more, at its place. -/
theorem insertC_any (B : Nat) (v : Value) (L : CntL) (i : Nat) (x : Int × Int) (vb vc : Nat) (w : World) (h : RowE EC w B v L) (hv : w.heap[vb]? = some (cntO x EC)) (hne : v.ownBlock ≠ some vb) (hi : i ≤ L.length) (hl : L.length ≤ 1000000) (hB : B ≤ w.heap.size) :
    Calls Try.prog 37 #[v, .int .i64 i, .slice (some ⟨vb, 0, none⟩) 1 vc] w fun e w' => ∃ v', e = .returned v' ∧ RowE EC w' B v' (L.take i ++ x :: L.drop i) ∧ Below B w w' := by
  by_cases he : i = L.length
  · subst he
    rw [List.take_length, List.drop_length]
    exact insertC_end B v L x vb vc w h hv hl hB
  · obtain ⟨g, cap, cur, rfl, hBg, hg, hn, hm, hs, hc⟩ := row_parts h (by intro e; rw [e] at he hi; simp at he hi; omega)
    by_cases hroom : L.length + 1 ≤ cap
    · exact insertC_shift B g cap L i x vb vc w h hv (fun e => hne (by rw [e]; rfl)) (by omega) hroom hl
    · exact insertC_grow B g cap L i x vb vc w h hv (by omega) (by omega) hl hB
end Go.Proofs.Ytcgkambkfaeceaa
