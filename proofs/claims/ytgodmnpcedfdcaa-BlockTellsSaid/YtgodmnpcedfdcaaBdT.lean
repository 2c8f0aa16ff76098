/- What is given and released again: the same is given as ahead. -/
import Derived.Test.YtgodmnpcedfdcaaJDa
namespace Go.Proofs.Ytgodmnpcedfdcaa
open Go.RowKit
theorem atA_ixA {a : PA} : ∀ {L : List PA}, a ∈ L → atA L (ixA a L) = a
  | [], h => by cases h
  | q :: L, h => by
    unfold ixA
    by_cases e : q = a
    · rw [if_pos e]; exact e
    · rw [if_neg e]
      have h2 : a ∈ L := (List.mem_cons.1 h).resolve_left (fun h => e h.symm)
      exact atA_ixA h2
theorem atA_app {L M : List PA} {k : Nat} (h : k < L.length) : atA (L ++ M) k = atA L k := by
  unfold atA
  rw [List.getD_eq_getElem?_getD, List.getD_eq_getElem?_getD, List.getElem?_append_left h]
theorem dv_at (b : BlkS) (a : PA) : atA (dvA b a) (dvK b a) = a := by
  unfold dvA dvK
  by_cases h : a ∈ b.attrs
  · rw [if_pos h, if_pos h]; exact atA_ixA h
  · rw [if_neg h, if_neg h]
    unfold atA
    rw [List.getD_eq_getElem?_getD, List.getElem?_append_right (Nat.le_refl _), Nat.sub_self]
    rfl
theorem dv_keep {b : BlkS} (a : PA) {k : Nat} (h : k < b.attrs.length) : atA (dvA b a) k = atA b.attrs k := by
  unfold dvA
  by_cases hm : a ∈ b.attrs
  · rw [if_pos hm]
  · rw [if_neg hm]; exact atA_app h
theorem und_dv {b : BlkS} (hl : b.sl.length = 64) (h64 : b.addr % 64 = 0) (hb : ∀ i, 0 ≤ b.sl.getD i 0 ∧ b.sl.getD i 0 ≤ b.attrs.length) {i : Int} (hi : 0 ≤ i ∧ i < 64) (a : PA) (x : Int) : undP (dvS b i a) x = if x - b.addr = i then (a, true) else undP b x := by
  have hK : (0 : Int) ≤ dvK b a := Int.natCast_nonneg _
  unfold undP
  show (if inB b.addr x = true ∧ (b.sl.set i.toNat ((dvK b a : Int) + 1)).getD (x - b.addr).toNat 0 ≠ 0 then (atA (dvA b a) ((b.sl.set i.toNat ((dvK b a : Int) + 1)).getD (x - b.addr).toNat 0 - 1).toNat, true) else ((em, em), false)) = _
  rw [getD_set _ _ (by omega : i.toNat < b.sl.length)]
  by_cases hx : x - b.addr = i
  · have hin : inB b.addr x = true := inB_iff.2 (by omega)
    rw [if_pos hx, if_pos (by omega : i.toNat = (x - b.addr).toNat), if_pos ⟨hin, by omega⟩]
    rw [show ((dvK b a : Int) + 1 - 1).toNat = dvK b a by omega, dv_at]
  · rw [if_neg hx]
    by_cases hin : inB b.addr x = true
    · have hd := inB_iff.1 hin
      rw [if_neg (by omega : ¬ i.toNat = (x - b.addr).toNat)]
      have hs := hb (x - b.addr).toNat
      by_cases hz : b.sl.getD (x - b.addr).toNat 0 = 0
      · rw [if_neg (fun h => h.2 hz), if_neg (fun h => h.2 hz)]
      · rw [if_pos ⟨hin, hz⟩, if_pos ⟨hin, hz⟩, dv_keep a (by omega)]
    · rw [if_neg (fun h => hin h.1), if_neg (fun h => hin h.1)]
theorem und_giv {b : BlkS} (hw : BWf b) (hr : rightB b = true) {a : PA} (hm : mayP a = true) (x : Int) : ∀ k, k ≤ b.free.length → undP (givS b (b.free.take k) a) x = if x - b.addr ∈ b.free.take k then (a, true) else undP b x
  | 0, _ => by
    rw [List.take_zero, givS_nil hw.2.1 hr, if_neg (by simp)]
  | k + 1, hk => by
    have ih := und_giv hw hr hm x k (by omega)
    obtain ⟨g1, g2, g3, g4⟩ := giv_all hw hr hm k (by omega)
    obtain ⟨i, hi⟩ : ∃ i, b.free[k]? = some i := ⟨_, List.getElem?_eq_getElem (by omega)⟩
    have hts : b.free.take (k + 1) = b.free.take k ++ [i] := by rw [List.take_add_one, hi]; rfl
    have hif : i ∈ b.free := List.mem_of_getElem? hi
    have hi2 := (right_free hr).1 i hif
    rw [hts, ← dv_step hw.2.1 hr a (b.free.take k) i hi2]
    have hbd := right_bd g2 g1
    rw [und_dv g2.2.1 hbd.1 hbd.2.2.2 hi2 a x, ih, g4]
    by_cases h1 : x - b.addr = i
    · rw [if_pos h1, if_pos (by rw [h1]; simp)]
    · rw [if_neg h1]
      by_cases h2 : x - b.addr ∈ b.free.take k
      · rw [if_pos h2, if_pos (List.mem_append_left _ h2)]
      · rw [if_neg h2, if_neg (fun h => (List.mem_append.1 h).elim h2 (fun h => h1 (List.mem_singleton.1 h)))]
theorem und_drpx {c : BlkS} {x : Int} (hl : c.sl.length = 64) (hx : inB c.addr x = true) : undP (drpS c x) x = ((em, em), false) := by
  unfold undP
  refine if_neg (fun h => h.2 ?_)
  have hd := inB_iff.1 hx
  show (c.sl.set (x - c.addr).toNat 0).getD (x - c.addr).toNat 0 = 0
  rw [getD_set _ _ (by omega), if_pos rfl]
/-- Releasing what is given, each once: all of it is told; the rest stays as it was. -/
theorem und_rel {g : BlkS} (hl : g.sl.length = 64) (hsl : ∀ i, 0 ≤ g.sl.getD i 0 ∧ g.sl.getD i 0 ≤ g.attrs.length) {T : List Int} (hn : T.Nodup) (hh : ∀ x ∈ T, (undP g x).2 = true) : ∀ n, n ≤ T.length → (relN (fun _ => true) g T n).2 = T.take n ∧ ∀ y, undP (relN (fun _ => true) g T n).1 y = if y ∈ T.take n then ((em, em), false) else undP g y
  | 0, _ => ⟨rfl, fun y => by rw [List.take_zero, if_neg (by simp)]; rfl⟩
  | n + 1, hk => by
    obtain ⟨h1, h2⟩ := und_rel hl hsl hn hh n (by omega)
    obtain ⟨k1, -, -, k4, -⟩ := relN_inv (fun _ => true) g T hl hsl n
    have hlt : n < T.length := by omega
    obtain ⟨x, hx⟩ : ∃ x, x = T[n] := ⟨_, rfl⟩
    have hg : T.getD n 0 = x := by rw [List.getD_eq_getElem?_getD, List.getElem?_eq_getElem hlt, hx]; rfl
    have hts : T.take (n + 1) = T.take n ++ [x] := by rw [List.take_add_one, List.getElem?_eq_getElem hlt, hx]; rfl
    have hmem : x ∈ T := by rw [hx]; exact List.getElem_mem hlt
    have hnot : x ∉ T.take n := by
      intro h
      have h3 := (List.nodup_append.1 (by rw [← hts]; exact hn.sublist (List.take_sublist _ _) : (T.take n ++ [x]).Nodup)).2.2
      exact h3 x h x (List.mem_singleton.2 rfl) rfl
    have hu := h2 x
    rw [if_neg hnot] at hu
    have hit : hitR (fun _ => true) (relN (fun _ => true) g T n).1 x = true := by
      unfold hitR
      rw [hu, hh x hmem]
      rfl
    have hin := (hit_in hit).1
    unfold relN
    rw [hg, if_pos hit]
    refine ⟨by show (relN (fun _ => true) g T n).2 ++ [x] = _; rw [h1, hts], fun y => ?_⟩
    show undP (drpS (relN (fun _ => true) g T n).1 x) y = _
    by_cases hy : y = x
    · rw [hy, und_drpx k4 hin, if_pos (by rw [hts]; simp)]
    · rw [und_drp hin hy, h2 y, hts]
      by_cases h3 : y ∈ T.take n
      · rw [if_pos h3, if_pos (List.mem_append_left _ h3)]
      · rw [if_neg h3, if_neg (fun h => (List.mem_append.1 h).elim h3 (fun h => hy (List.mem_singleton.1 h)))]
theorem und_tid {b : BlkS} (hl : b.sl.length = 64) (hok : okB b.sl) (h : LooseD b) (x : Int) : undP (tidS b) x = undP b x := by
  unfold undP
  show (if inB b.addr x = true ∧ (b.sl.map (tnS b)).getD (x - b.addr).toNat 0 ≠ 0 then (atA (kptA (usedN b.sl 64) b.attrs b.attrs.length) ((b.sl.map (tnS b)).getD (x - b.addr).toNat 0 - 1).toNat, true) else ((em, em), false)) = _
  by_cases hin : inB b.addr x = true
  · have hd := inB_iff.1 hin
    have hlt : (x - b.addr).toNat < b.sl.length := by omega
    rw [map_getD _ hlt]
    have hmem : b.sl.getD (x - b.addr).toNat 0 ∈ b.sl := by
      rw [List.getD_eq_getElem?_getD, List.getElem?_eq_getElem hlt]
      exact List.getElem_mem hlt
    generalize b.sl.getD (x - b.addr).toNat 0 = s at hmem
    rcases slot_cases hok h hl hmem with rfl | ⟨j, hj, rfl⟩
    · rw [tn_zero, if_neg (fun h => h.2 rfl), if_neg (fun h => h.2 rfl)]
    · rw [tn_succ hl h.2.2.1 hj hmem]
      have hb : (usedN b.sl 64).testBit j = true := (used_bit hl j).2 ⟨by have := h.2.2.1; omega, hmem⟩
      have hk := kpt_get (usedN b.sl 64) b.attrs hb (n := b.attrs.length) hj
      rw [if_pos ⟨hin, by omega⟩, if_pos ⟨hin, by omega⟩]
      rw [show (((rkN (usedN b.sl 64) j + 1 : Nat) : Int) - 1).toNat = rkN (usedN b.sl 64) j by omega, show ((j : Int) + 1 - 1).toNat = j by omega]
      have e : atA (kptA (usedN b.sl 64) b.attrs b.attrs.length) (rkN (usedN b.sl 64) j) = atA b.attrs j := by
        unfold atA at hk ⊢
        rw [List.getD_eq_getElem?_getD, hk]
        rfl
      rw [e]
  · rw [if_neg (fun h => hin h.1), if_neg (fun h => hin h.1)]
theorem takeN_congr {s t : List Int} : ∀ n, (∀ i, i < n → (s.getD i 0 ≠ 0 ↔ t.getD i 0 ≠ 0)) → takeN s n = takeN t n
  | 0, _ => rfl
  | n + 1, h => by
    have ih := takeN_congr n (fun i hi => h i (by omega))
    unfold takeN
    rw [ih]
    by_cases hs : s.getD n 0 ≠ 0
    · rw [if_pos hs, if_pos ((h n (by omega)).1 hs)]
    · rw [if_neg hs, if_neg (fun ht => hs ((h n (by omega)).2 ht))]
theorem und_ne {b : BlkS} (h64 : b.addr % 64 = 0) {n : Nat} (hn : n < 64) : (undP b (b.addr + n)).2 = true ↔ b.sl.getD n 0 ≠ 0 := by
  rw [und_slot h64 hn]
  by_cases h : b.sl.getD n 0 ≠ 0
  · rw [if_pos h]; exact ⟨fun _ => h, fun _ => rfl⟩
  · rw [if_neg h]; exact ⟨(fun h2 => Bool.noConfusion h2), fun h2 => absurd h2 h⟩
theorem given_congr {b c : BlkS} (ha : b.addr = c.addr) (h64 : b.addr % 64 = 0) (hu : ∀ x, undP b x = undP c x) : adrs b (takeZ b) = adrs c (takeZ c) := by
  have e : takeN b.sl 64 = takeN c.sl 64 := takeN_congr 64 (fun i hi => by
    rw [← und_ne h64 hi, ← und_ne (by rw [← ha]; exact h64) hi, hu, ha])
  unfold adrs takeZ
  rw [e, ha]
theorem take_bd (b : BlkS) : ∀ x ∈ takeZ b, 0 ≤ x ∧ x < 64 := fun x hx => by
  unfold takeZ memZ at hx
  obtain ⟨n, hn, rfl⟩ := List.mem_map.1 hx
  have := List.mem_range.1 (List.mem_filter.1 hn).1
  omega
/-- What BlockBack speaks of: n given under a, released again. -/
theorem back_all {c : BlkS} (hw : BWf c) (hr : rightB c = true) {a : PA} (hm : mayP a = true) (n : Nat) : (relN (fun _ => true) (givS c (c.free.take n) a) (adrs c (c.free.take n)) (adrs c (c.free.take n)).length).2 = adrs c (c.free.take n) ∧ (∀ x, undP (tidS (relN (fun _ => true) (givS c (c.free.take n) a) (adrs c (c.free.take n)) (adrs c (c.free.take n)).length).1) x = undP c x) ∧ (∀ x ∈ adrs c (c.free.take n), undP c x = ((em, em), false) ∧ undP (givS c (c.free.take n) a) x = (a, true)) := by
  have e : c.free.take n = c.free.take (min n c.free.length) := by
    rcases Nat.le_total n c.free.length with h | h
    · rw [Nat.min_eq_left h]
    · rw [Nat.min_eq_right h, List.take_of_length_le h, List.take_of_length_le (Nat.le_refl _)]
  rw [e]
  obtain ⟨k, hk, rfl⟩ : ∃ k, k ≤ c.free.length ∧ k = min n c.free.length := ⟨_, Nat.min_le_right _ _, rfl⟩
  obtain ⟨g1, g2, g3, g4⟩ := giv_all hw hr hm _ hk
  have hug := fun x => und_giv hw hr hm x _ hk
  have hbd := right_bd g2 g1
  have hfr := right_free hr
  have hmem : ∀ x, x ∈ adrs c (c.free.take (min n c.free.length)) ↔ x - c.addr ∈ c.free.take (min n c.free.length) := fun x => by
    unfold adrs
    rw [List.mem_map]
    constructor
    · rintro ⟨i, hi, rfl⟩
      rw [show c.addr + i - c.addr = i by omega]
      exact hi
    · intro h
      exact ⟨_, h, by omega⟩
  have hin : ∀ x ∈ adrs c (c.free.take (min n c.free.length)), undP c x = ((em, em), false) := fun x hx => by
    have h1 := List.mem_of_mem_take ((hmem x).1 hx)
    have h2 := free_slot hw.2.1 hr h1
    unfold undP
    exact if_neg (fun h => h.2 h2.2.2)
  have hgi : ∀ x ∈ adrs c (c.free.take (min n c.free.length)), undP (givS c (c.free.take (min n c.free.length)) a) x = (a, true) := fun x hx => by
    rw [hug x, if_pos ((hmem x).1 hx)]
  have hnd : (adrs c (c.free.take (min n c.free.length))).Nodup := adrs_nodup (hfr.2.1.sublist (List.take_sublist _ _))
  obtain ⟨r1, r2⟩ := und_rel g2.2.1 hbd.2.2.2 hnd (fun x hx => by rw [hgi x hx]) _ (Nat.le_refl _)
  rw [List.take_length] at r1 r2
  have hpos : ∀ x ∈ adrs c (c.free.take (min n c.free.length)), 0 ≤ x := fun x hx => by
    have h1 := hfr.1 _ (List.mem_of_mem_take ((hmem x).1 hx))
    have h2 := hw.1
    omega
  obtain ⟨l1, l2⟩ := rel_loose (fun _ => true) g2 g1 hpos _ (Nat.le_refl _)
  have hinv := relN_inv (fun _ => true) (givS c (c.free.take (min n c.free.length)) a) (adrs c (c.free.take (min n c.free.length))) g2.2.1 hbd.2.2.2 (adrs c (c.free.take (min n c.free.length))).length
  refine ⟨r1, fun x => ?_, fun x hx => ⟨hin x hx, hgi x hx⟩⟩
  have hokr : okB (relN (fun _ => true) (givS c (c.free.take (min n c.free.length)) a) (adrs c (c.free.take (min n c.free.length))) (adrs c (c.free.take (min n c.free.length))).length).1.sl := (rel_wf (fun _ => true) g2 g1 hpos).2.2.1
  rw [und_tid hinv.2.2.2.1 hokr l1 x, r2 x]
  by_cases hx : x ∈ adrs c (c.free.take (min n c.free.length))
  · rw [if_pos hx, hin x hx]
  · rw [if_neg hx, hug x, if_neg (fun h => hx ((hmem x).2 h))]
end Go.Proofs.Ytgodmnpcedfdcaa
