/- Package slices at rows of counts: one less. -/
import Derived.Test.YtcgkambkfaeceaaHnSlA
import Derived.Lib.Walk
import Derived.Deep.RegionLaw
namespace Go.Proofs.Ytcgkambkfaeceaa
open Go.RowKit Go.Lib
theorem isSome_set (g : Nat) : ∀ (vs : List Value) (o : Nat) (w : World) (x : Addr), (w.cell? x).isSome = true → ((w.setCells g o vs).cell? x).isSome = true
  | [], _, _, _, h => h
  | v :: vs, o, w, x, h => isSome_set g vs (o + 1) _ x (by
      by_cases e : x = ⟨g, o, none⟩
      · subst e
        obtain ⟨u, hu⟩ := Option.isSome_iff_exists.1 h
        have := World.cell?_setCells_in g [v] o w (fun j hj => by
          have : j = 0 := by simpa using hj
          subst this; rw [Nat.add_zero, hu]; rfl) 0 (by simp)
        have e2 : w.setCells g o [v] = w.setCell ⟨g, o, none⟩ v := rfl
        rw [e2] at this
        rw [Nat.add_zero] at this
        rw [this]; rfl
      · have := World.cell?_setCells_out g [v] o w x (fun h1 h2 => by
          by_cases h3 : x.off = o
          · exact absurd (by cases x; simp_all) e
          · simp; omega)
        have e2 : w.setCells g o [v] = w.setCell ⟨g, o, none⟩ v := rfl
        rw [e2] at this
        rw [this]; exact h)
set_option maxHeartbeats 4000000 in
set_option maxRecDepth 100000 in
theorem deleteC_any (B : Nat) (v : Value) (L : CntL) (k : Nat) (w : World) (h : RowE EC w B v L) (hk : k < L.length) (hl : L.length ≤ 1000000) :
    Calls Try.prog 36 #[v, .int .i64 k, .int .i64 ((k : Int) + 1)] w fun e w' => ∃ v', e = .returned v' ∧ RowE EC w' B v' (L.take k ++ L.drop (k + 1)) ∧ Below B w w' := by
  obtain ⟨g, cap, cur, rfl, hB, hg, hn, hm, hs, hc⟩ := row_parts h (by intro e; rw [e] at hk; simp at hk)
  obtain ⟨i0, hi0, hz0, hz1, hz2⟩ := info_parts infoC
  obtain ⟨n, hnL⟩ : ∃ n, n = L.length := ⟨_, rfl⟩
  have t23 := Try.underlying23
  obtain ⟨news, hnews⟩ : ∃ news, news = (L.drop (k + 1)).flatMap encC := ⟨_, rfl⟩
  have hlen : news.length = (n - (k + 1)) * 2 := by rw [hnews, flat_lenC, List.length_drop, hnL]
  have hget : ∀ t u, news[t]? = some u → (L.flatMap encC)[(k + 1) * 2 + t]? = some u := by
    intro t u hu
    have e : L.flatMap encC = (L.take (k + 1)).flatMap encC ++ news := by rw [hnews, ← flat_app, List.take_append_drop]
    rw [e, List.getElem?_append_right (by rw [flat_lenC, List.length_take]; omega), flat_lenC, List.length_take]
    rw [show (k + 1) * 2 + t - min (k + 1) L.length * 2 = t from by omega]
    exact hu
  have hfz : ∀ j, w.frozen? ⟨g, j, none⟩ = false := fun j => by simp [World.frozen?, hg]
  have hcell : ∀ j, j < n * 2 → (w.cell? ⟨g, j, none⟩).isSome = true := fun j hj => by
    rw [hc j _ (List.getElem?_eq_getElem (by rw [flat_lenC]; omega))]; rfl
  obtain ⟨A, hA, hsrc⟩ : ∃ A : Addr, (if cap = k + 1 then (some ⟨g, 0, none⟩ : Option Addr) else some ⟨g, (k + 1) * 2, none⟩) = some A ∧ Hid (∀ t u, news[t]? = some u → w.drew.cell? (A.add t) = some u) := by
    by_cases h : cap = k + 1
    · refine ⟨⟨g, 0, none⟩, by simp [h], Lib.hid (fun t u hu => ?_)⟩
      have h0 : news.length = 0 := by rw [hlen]; omega
      rw [List.length_eq_zero_iff.1 h0] at hu
      simp at hu
    · refine ⟨⟨g, (k + 1) * 2, none⟩, by simp [h], Lib.hid (fun t u hu => ?_)⟩
      rw [Addr.add_lit]
      exact hc _ _ (hget t u hu)
  have s1 : Hid (news.length = (n - (k + 1)) * 2) := Lib.hid hlen
  have s2 : Hid (∀ u ∈ news, u.oneCell' = true) := Lib.hid (by rw [hnews]; exact flat_oneC _)
  have s3 : Hid (∀ t, t < news.length → (w.drew.cell? ⟨g, 0 + k * 2 + t, none⟩).isSome = true ∧ w.drew.frozen? ⟨g, 0 + k * 2 + t, none⟩ = false) := Lib.hid (fun t ht => by
    rw [hlen] at ht
    rw [Nat.zero_add]
    exact ⟨hcell _ (by omega), hfz _⟩)
  obtain ⟨W1, hW1⟩ : ∃ W1, W1 = w.drew.setCells g (0 + k * 2) news := ⟨_, rfl⟩
  have hg0 : w.drew.heap[g]? = some (.cells cur EC (0, 0)) := hg
  obtain ⟨⟨cur1, hg1, hs1⟩, hb1⟩ := blk_set g EC news (0 + k * 2) w.drew cur hg0
  rw [← hW1] at hg1 hb1
  have hf1 : ∀ j, W1.frozen? ⟨g, j, none⟩ = false := fun j => by simp [World.frozen?, hg1]
  have hi1 : ∀ j, j < n * 2 → (W1.cell? ⟨g, j, none⟩).isSome = true := fun j hj => by rw [hW1]; exact isSome_set _ _ _ _ _ (hcell j hj)
  have hcl : ∀ ty c, (Builtin.clear_ #[TC] ty #[.slice (some ⟨g, (n - 1) * 2, none⟩) 1 c]).run Try.prog W1 = .ok (.tuple #[]) (W1.setCells g ((n - 1) * 2) (encC (0, 0))) :=
    fun ty c => run_clearC W1 ty g ((n - 1) * 2) c (fun j hj => hi1 _ (by omega)) (fun j _ => hf1 _)
  -- what the row is then
  have hend : Hid (RowE EC (W1.setCells g ((n - 1) * 2) (encC (0, 0))) B (.slice (some ⟨g, 0, none⟩) (n - 1) cap) (L.take k ++ L.drop (k + 1)) ∧ Below B w (W1.setCells g ((n - 1) * 2) (encC (0, 0)))) := Lib.hid (by
    obtain ⟨⟨cur2, hg2, hs2⟩, hb2⟩ := blk_set g EC (encC (0, 0)) ((n - 1) * 2) W1 cur1 hg1
    have hb0 : Below B w w.drew := ⟨rfl, rfl, rfl, Nat.le_refl _, fun _ _ => rfl⟩
    refine ⟨?_, (hb0.trans (hb1 B hB)).trans (hb2 B hB)⟩
    have hlen2 : (L.take k ++ L.drop (k + 1)).length = n - 1 := by simp; omega
    have key := own_cells hg2 (by rw [hs2, hs1, hs]) hB hm (L.take k ++ L.drop (k + 1)) (by omega) (fun j u hj => ?_)
    · rw [hlen2] at key
      exact key
    have hj2 : j < (n - 1) * 2 := by
      have := (List.getElem?_eq_some_iff.1 hj).1
      rw [flat_lenC, hlen2] at this; exact this
    rw [World.cell?_setCells_out _ _ _ _ _ (fun _ _ => Or.inl hj2), hW1]
    rw [flat_app, ← hnews] at hj
    by_cases hjk : j < k * 2
    · rw [World.cell?_setCells_out _ _ _ _ _ (fun _ _ => Or.inl (by show j < 0 + k * 2; omega))]
      rw [List.getElem?_append_left (by rw [flat_lenC, List.length_take]; omega)] at hj
      refine hc j u ?_
      have e : L.flatMap encC = (L.take k).flatMap encC ++ (L.drop k).flatMap encC := by rw [← flat_app, List.take_append_drop]
      rw [e, List.getElem?_append_left (by rw [flat_lenC, List.length_take]; omega)]
      exact hj
    · rw [List.getElem?_append_right (by rw [flat_lenC, List.length_take]; omega), flat_lenC, List.length_take, show min k L.length = k from by omega] at hj
      have hin := World.cell?_setCells_in g news (0 + k * 2) w.drew (fun t ht => (s3.out t ht).1) (j - k * 2) (by rw [hlen]; omega)
      rw [show 0 + k * 2 + (j - k * 2) = j from by omega] at hin
      rw [hin]
      rw [List.getElem?_eq_getElem (by rw [hlen]; omega)] at hj
      exact hj)
  have hW : Hid (W1 = w.drew.setCells g (0 + k * 2) news) := Lib.hid hW1
  have hkw : IntKind.i64.wrap ((k : Int) + 1) = (k : Int) + 1 := IntWalk.i64_in _ (by omega)
  rw [← hnL] at hk hl hn ⊢
  have hkc : k ≤ cap := by omega
  have hkc1 : k + 1 ≤ cap := by omega
  have hcn : ¬ (cap = n - 1) := by omega
  have HNL := Lib.hid hnL
  clear hW1 hg1 hb1 hf1 hi1 hget hnews hlen hfz hcell hc hg hg0 h hnL hs1 hs
  obtain ⟨j, hj⟩ : ∃ j : Nat, j = k + 1 := ⟨_, rfl⟩
  have hjI : (k : Int) + 1 = (j : Int) := by omega
  rw [hjI]
  rw [← hj] at hA hkc1 s1
  have HJ := Lib.hid hj
  have e1 : k + (n - j) = n - 1 := by omega
  have e2 : n - (k + (n - j)) = 1 := by omega
  have hcl2 : ∀ ty c, (Builtin.clear_ #[TC] ty #[.slice (some ⟨g, (k + (n - j)) * 2, none⟩) (n - (k + (n - j))) c]).run Try.prog W1 = .ok (.tuple #[]) (W1.setCells g ((n - 1) * 2) (encC (0, 0))) := fun ty c => by
    rw [e2, e1]; exact hcl ty c
  have HE := Lib.hid e1
  clear hcl e1 e2
  have hjn : (j : Int) ≤ (n : Int) := by omega
  clear hj
  have hkj : ((k : Int) == (j : Int)) = false := by simp; omega
  go_enter Try.func36, Try.ntmps36
  go_wp2_with fail
  go_region_law (refine step_append_room rfl (.tmp 22) (.tmp 25) TC rfl EC i0 2 t23 hi0 hz1 g 0 k cap (by simp [Act.eval, Act.put]) A (n - j) (cap - j) news (by simp [Act.eval, Act.put]) s1.out hsrc.out s2.out (by omega) s3.out ?_; rw [← hW.out])
  go_wp2_with fail
  go_ret
  refine ⟨_, rfl, ?_⟩
  rw [HE.out]
  exact hend.out
end Go.Proofs.Ytcgkambkfaeceaa
