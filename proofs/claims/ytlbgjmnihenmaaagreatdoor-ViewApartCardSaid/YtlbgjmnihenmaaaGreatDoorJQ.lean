/- Joined: BkQa BrK BkQ BkR. -/
import Derived.Test.YtlbgjmnihenmaaaGreatDoorJK
namespace Go.Proofs.YtlbgjmnihenmaaaGreatDoor
section
open Go.RowKit
abbrev cellsU (xs : List Int) : List Value := xs.map (Value.int .u32)
/-- A value that reads as these addresses. -/
def SeesU (w : World) (v : Value) (xs : List Int) : Prop :=
  ∃ (ao : Option Addr) (c : Nat), v = .slice ao xs.length c ∧ xs.length ≤ c ∧ (ao = none → xs = []) ∧ ∀ a, ao = some a → ∀ i, i < xs.length → w.cell? (a.add i) = some (.int .u32 (xs.getD i 0))
/-- A value of the call's own that holds these addresses. -/
abbrev OwnsU (w : World) (B : Nat) (v : Value) (xs : List Int) : Prop := w.ownsRow B 41 1 v xs.length (cellsU xs)
theorem SeesU.keep {w w' : World} {v : Value} {xs : List Int} (h : SeesU w v xs) (hb : Below w.heap.size w w') : SeesU w' v xs := by
  obtain ⟨ao, c, e, hl, hn, hc⟩ := h
  exact ⟨ao, c, e, hl, hn, fun a ha i hi => by rw [hb.cell (cell_lt8 (hc a ha i hi))]; exact hc a ha i hi⟩
theorem SeesU.nil (w : World) : SeesU w (.slice none 0 0) [] := ⟨none, 0, rfl, Nat.le_refl _, fun _ => rfl, fun _ h => by cases h⟩
theorem getD_cellsU {xs : List Int} {i : Nat} (h : i < xs.length) : (cellsU xs)[i]? = some (.int .u32 (xs.getD i 0)) := by
  simp [List.getD, List.getElem?_eq_getElem h]
theorem OwnsU.sees {w : World} {B : Nat} {v : Value} {xs : List Int} (h : OwnsU w B v xs) : SeesU w v xs := by
  have hc := fun g hg => World.ownsRow.cells h (g := g) hg
  obtain ⟨_, ⟨rfl, hn⟩ | ⟨g, cap, cur, rfl, _, _, hnc, _, _, _⟩⟩ := h
  · obtain rfl := List.eq_nil_of_length_eq_zero hn
    exact SeesU.nil w
  · exact ⟨some ⟨g, 0, none⟩, cap, rfl, hnc, (fun e => by cases e), fun a ha i hi => (by cases ha; exact hc g rfl i _ (getD_cellsU hi))⟩
theorem OwnsU.nil (w : World) (B : Nat) : OwnsU w B (.slice none 0 0) [] := World.ownsRow_nil _ _ _ _
/-! A right block's free slots. -/
theorem mem_mem {x i : Nat} : i ∈ mem x ↔ i < 64 ∧ x.testBit i = true := by simp [mem]
theorem mem_nodup (x : Nat) : (mem x).Nodup := List.Pairwise.filter _ List.nodup_range
theorem nodup_sub_len : ∀ {l m : List Nat}, l.Nodup → (∀ i ∈ l, i ∈ m) → l.length ≤ m.length
  | [], _, _, _ => Nat.zero_le _
  | a :: l, m, hn, hs => by
    have ha := hs a (by simp)
    have h1 := List.nodup_cons.1 hn
    have h2 : l.length ≤ (m.erase a).length := nodup_sub_len h1.2 (fun i hi => by
      have hne : i ≠ a := fun e => h1.1 (e ▸ hi)
      exact (List.mem_erase_of_ne hne).2 (hs i (by simp [hi])))
    rw [List.length_erase_of_mem ha] at h2
    have : 0 < m.length := List.length_pos_of_mem ha
    rw [List.length_cons]
    omega
/-- A list that has as many slots as it is long has slots alone, once each. -/
theorem rowN_all (l : List Int) (h : (mem (rowN l l.length)).length = l.length) : (∀ x ∈ l, 0 ≤ x ∧ x < 64) ∧ l.Nodup := by
  have hsub : ∀ k ∈ mem (rowN l l.length), k ∈ (l.filter (fun x => decide (0 ≤ x ∧ x < 64))).map Int.toNat := fun k hk => by
    obtain ⟨h64, hb⟩ := mem_mem.1 hk
    obtain ⟨_, i, hi, he⟩ := (rowN_bit l k _).1 hb
    rw [List.mem_map]
    refine ⟨(k : Int), List.mem_filter.2 ⟨?_, by simp; omega⟩, by simp⟩
    rw [← he, List.getD_eq_getElem?_getD, List.getElem?_eq_getElem hi]
    exact List.getElem_mem hi
  have h1 := nodup_sub_len (mem_nodup _) hsub
  rw [h, List.length_map] at h1
  have h2 : (l.filter (fun x => decide (0 ≤ x ∧ x < 64))) = l := by
    have h3 : (l.filter (fun x => decide (0 ≤ x ∧ x < 64))).length = l.length := Nat.le_antisymm (List.length_filter_le _ _) h1
    exact List.filter_eq_self.2 (fun a ha => List.length_filter_eq_length_iff.1 h3 a ha)
  have hin : ∀ x ∈ l, 0 ≤ x ∧ x < 64 := fun x hx => by
    rw [← h2] at hx
    exact of_decide_eq_true (List.mem_filter.1 hx).2
  refine ⟨hin, ?_⟩
  rw [h2] at hsub
  -- were one twice there, the erased list would do
  suffices hs : ∀ (l : List Int) (m : List Nat), m.Nodup → m.length = l.length → (∀ k ∈ m, k ∈ l.map Int.toNat) → l.Nodup from hs l _ (mem_nodup _) h hsub
  intro l
  induction l with
  | nil => intros; exact List.nodup_nil
  | cons a l ih =>
    intro m hm hl hs
    refine List.nodup_cons.2 ⟨fun ha => ?_, ?_⟩
    · have := nodup_sub_len hm (m := l.map Int.toNat) (fun k hk => by
        rcases List.mem_cons.1 (hs k hk) with e | e
        · rw [e]; exact List.mem_map_of_mem ha
        · exact e)
      rw [hl] at this
      simp at this
      omega
    · have hmem : a.toNat ∈ m := by
        apply Classical.byContradiction
        intro hno
        have := nodup_sub_len hm (m := l.map Int.toNat) (fun k hk => by
          rcases List.mem_cons.1 (hs k hk) with e | e
          · exact absurd (e ▸ hk) hno
          · exact e)
        rw [hl] at this
        simp at this
        omega
      refine ih (m.erase a.toNat) (hm.erase _) (by rw [List.length_erase_of_mem hmem, hl]; simp) (fun k hk => ?_)
      have hk2 : k ≠ a.toNat ∧ k ∈ m := (List.Nodup.mem_erase_iff hm).1 hk
      rcases List.mem_cons.1 (hs k hk2.2) with e | e
      · exact absurd e hk2.1
      · exact e
theorem right_free {b : BlkS} (h : rightB b = true) : (∀ x ∈ b.free, 0 ≤ x ∧ x < 64) ∧ b.free.Nodup ∧ b.free.length ≤ 64 := by
  have hf : rightF b = true := by
    unfold rightB at h
    simp only [Bool.and_eq_true] at h
    exact h.2.2.2.2
  unfold rightF at hf
  rw [Bool.and_eq_true, beq_iff_eq] at hf
  have hl : (mem (rowN b.free b.free.length)).length = b.free.length := by exact_mod_cast hf.1
  obtain ⟨h1, h2⟩ := rowN_all b.free hl
  refine ⟨h1, h2, ?_⟩
  rw [← hl]
  have := List.length_filter_le (fun i => (rowN b.free b.free.length).testBit i) (List.range 64)
  simpa [mem] using this
end
section
open Go.RowKit Go.Maps
theorem cntN_cons (a : Int) (l : List Int) (k : Int) : cntN (a :: l) k = cntN l k + if a = k then 1 else 0 := by
  unfold cntN
  by_cases h : a = k
  · rw [if_pos h, List.filter_cons_of_pos (by simp [h]), List.length_cons]
  · rw [if_neg h, List.filter_cons_of_neg (by simp [h])]
    rfl
theorem cnt_pos {k : Int} : ∀ {l : List Int}, cntN l k ≠ 0 ↔ k ∈ l
  | [] => by simp [cntN]
  | a :: l => by
    have ih := cnt_pos (k := k) (l := l)
    rw [cntN_cons, List.mem_cons]
    by_cases h : a = k
    · rw [if_pos h]
      exact ⟨fun _ => Or.inl h.symm, fun _ => by omega⟩
    · rw [if_neg h, Nat.add_zero, ih]
      exact ⟨Or.inr, fun h2 => h2.resolve_left (fun e => h e.symm)⟩
theorem nodup_cnt : ∀ {l : List Int}, l.Nodup → ∀ k, cntN l k ≤ 1
  | [], _, k => by simp [cntN]
  | a :: l, h, k => by
    have h1 := List.nodup_cons.1 h
    rw [cntN_cons]
    by_cases e : a = k
    · subst e
      have : cntN l a = 0 := Classical.byContradiction fun hn => h1.1 (cnt_pos.1 hn)
      rw [if_pos rfl]; omega
    · rw [if_neg e]
      exact nodup_cnt h1.2 k
theorem cnt_nodup : ∀ {l : List Int}, (∀ k ∈ l, cntN l k ≤ 1) → l.Nodup
  | [], _ => List.nodup_nil
  | a :: l, h => by
    refine List.nodup_cons.2 ⟨fun ha => ?_, cnt_nodup (fun k hk => ?_)⟩
    · have h1 := h a (by simp)
      rw [cntN_cons, if_pos rfl] at h1
      have := cnt_pos.2 ha
      omega
    · have h1 := h k (by simp [hk])
      rw [cntN_cons] at h1
      omega
theorem mem_getD {l : List Int} {k : Int} : k ∈ l ↔ ∃ i, i < l.length ∧ l.getD i 0 = k := by
  constructor
  · intro h
    obtain ⟨i, hi, e⟩ := List.getElem_of_mem h
    exact ⟨i, hi, by rw [getD_get hi]; exact e⟩
  · rintro ⟨i, hi, rfl⟩
    rw [getD_get hi]
    exact List.getElem_mem hi
theorem attrsOk_iff (L : List PA) : ∀ n, attrsOk L n = true ↔ ∀ i, i < n → mayP (L.getD i default) = true ∧ L.getD i default ∉ L.take i
  | 0 => by simp [attrsOk]
  | n + 1 => by
    have ih := attrsOk_iff L n
    unfold attrsOk
    rw [Bool.and_eq_true, Bool.and_eq_true, ih]
    constructor
    · rintro ⟨h1, h2, h3⟩ i hi
      by_cases e : i = n
      · subst e
        exact ⟨h2, by simpa using h3⟩
      · exact h1 i (by omega)
    · intro h
      exact ⟨fun i hi => h i (by omega), (h n (by omega)).1, by have := (h n (by omega)).2; simpa using this⟩
theorem slotsLe_all (sl : List Int) (m : Nat) : ∀ n, slotsLe sl m n = true ↔ ∀ i, i < n → sl.getD i 0 ≤ (m : Int)
  | 0 => by simp [slotsLe]
  | n + 1 => by
    have ih := slotsLe_all sl m n
    unfold slotsLe
    rw [Bool.and_eq_true, ih, decide_eq_true_eq]
    constructor
    · rintro ⟨h1, h2⟩ i hi
      by_cases e : i = n
      · subst e; exact h2
      · exact h1 i (by omega)
    · intro h
      exact ⟨fun i hi => h i (by omega), h n (by omega)⟩
theorem allM_len {n : Nat} (h : n ≤ 64) : allM (n : Int) = n := by unfold allM; omega
theorem rightS_iff (b : BlkS) (hl : b.sl.length = 64) (h64 : b.attrs.length ≤ 64) : rightS b = true ↔ (∀ i, i < 64 → b.sl.getD i 0 ≤ (b.attrs.length : Int)) ∧ ∀ j, j < b.attrs.length → ((j : Int) + 1) ∈ b.sl := by
  unfold rightS
  rw [Bool.and_eq_true, slotsLe_all, allM_len h64, beq_iff_eq]
  constructor
  · rintro ⟨h1, h2⟩
    have h2 : usedN b.sl 64 = 2 ^ b.attrs.length - 1 := by exact_mod_cast h2
    refine ⟨h1, fun j hj => ?_⟩
    have : (usedN b.sl 64).testBit j = true := by rw [h2, Nat.testBit_two_pow_sub_one, decide_eq_true hj]
    obtain ⟨_, i, hi, e⟩ := (usedN_bit _ _ _).1 this
    exact mem_getD.2 ⟨i, by omega, e⟩
  · rintro ⟨h1, h2⟩
    refine ⟨h1, ?_⟩
    have : usedN b.sl 64 = 2 ^ b.attrs.length - 1 := by
      apply Nat.eq_of_testBit_eq
      intro j
      rw [Nat.testBit_two_pow_sub_one, Bool.eq_iff_iff, usedN_bit, decide_eq_true_eq]
      constructor
      · rintro ⟨_, i, hi, e⟩
        have := h1 i hi
        omega
      · intro hj
        obtain ⟨i, hi, e⟩ := mem_getD.1 (h2 j hj)
        exact ⟨by omega, i, by omega, e⟩
    rw [this]
theorem freeN_bit (sl : List Int) (j : Nat) : (18446744073709551615 &&& (18446744073709551615 - takeN sl 64)).testBit j = (decide (j < 64) && decide (sl.getD j 0 = 0)) := by
  have h1 : takeN sl 64 < 2 ^ 64 := takeN_lt sl 64
  have h2 : 18446744073709551615 - takeN sl 64 = 2 ^ 64 - (takeN sl 64 + 1) := by omega
  rw [show (18446744073709551615 : Nat) = 2 ^ 64 - 1 from rfl] at h2 ⊢
  rw [h2, Nat.testBit_and, Nat.testBit_two_pow_sub_one, Nat.testBit_two_pow_sub_succ h1, takeN_bit _ _ _ (Nat.le_refl _)]
  by_cases hj : j < 64 <;> by_cases hs : sl.getD j 0 = 0 <;> simp [hj]
theorem nodup_toNat : ∀ {l : List Int}, l.Nodup → (∀ x ∈ l, 0 ≤ x) → (l.map Int.toNat).Nodup
  | [], _, _ => List.nodup_nil
  | a :: l, h, hp => by
    have h1 := List.nodup_cons.1 h
    refine List.nodup_cons.2 ⟨fun ha => ?_, nodup_toNat h1.2 (fun x hx => hp x (by simp [hx]))⟩
    obtain ⟨x, hx, e⟩ := List.mem_map.1 ha
    have := hp x (by simp [hx])
    have := hp a (by simp)
    obtain rfl : x = a := by omega
    exact h1.1 hx
theorem rightF_iff (b : BlkS) : rightF b = true ↔ (∀ i : Nat, i < 64 → cntN b.free i = if b.sl.getD i 0 = 0 then 1 else 0) ∧ ∀ f ∈ b.free, 0 ≤ f ∧ f < 64 := by
  unfold rightF
  rw [Bool.and_eq_true, beq_iff_eq, beq_iff_eq]
  constructor
  · rintro ⟨h1, h2⟩
    have h1 : (mem (rowN b.free b.free.length)).length = b.free.length := by exact_mod_cast h1
    have h2 : rowN b.free b.free.length = 18446744073709551615 &&& (18446744073709551615 - takeN b.sl 64) := by exact_mod_cast h2
    obtain ⟨hin, hnd⟩ := rowN_all _ h1
    refine ⟨fun i hi => ?_, hin⟩
    have hb := rowN_bit b.free i b.free.length
    rw [h2, freeN_bit, Bool.and_eq_true, decide_eq_true_eq, decide_eq_true_eq] at hb
    have h0 := nodup_cnt hnd i
    by_cases hs : b.sl.getD i 0 = 0
    · rw [if_pos hs]
      have := cnt_pos.2 (mem_getD.2 (hb.1 ⟨hi, hs⟩).2)
      omega
    · rw [if_neg hs]
      apply Classical.byContradiction
      intro hn
      exact hs (hb.2 ⟨hi, mem_getD.1 (cnt_pos.1 hn)⟩).2
  · rintro ⟨h1, hin⟩
    have hnd : b.free.Nodup := cnt_nodup (fun k hk => by
      have := hin k hk
      have h2 := h1 k.toNat (by omega)
      rw [show ((k.toNat : Nat) : Int) = k by omega] at h2
      rw [h2]
      split <;> omega)
    have hm : ∀ i : Nat, i < 64 → ((i : Int) ∈ b.free ↔ b.sl.getD i 0 = 0) := fun i hi => by
      rw [← cnt_pos, h1 i hi]
      by_cases hs : b.sl.getD i 0 = 0 <;> simp 
    constructor
    · have ha : (mem (rowN b.free b.free.length)).length ≤ (b.free.map Int.toNat).length := nodup_sub_len (mem_nodup _) (fun i hi => by
        obtain ⟨h64, hb⟩ := mem_mem.1 hi
        have := mem_getD.2 ((rowN_bit _ _ _).1 hb).2
        exact List.mem_map.2 ⟨_, this, by simp⟩)
      have hb : (b.free.map Int.toNat).length ≤ (mem (rowN b.free b.free.length)).length := nodup_sub_len (nodup_toNat hnd (fun x hx => (hin x hx).1)) (fun i hi => by
        obtain ⟨x, hx, rfl⟩ := List.mem_map.1 hi
        have h2 := hin x hx
        refine mem_mem.2 ⟨by omega, (rowN_bit _ _ _).2 ⟨by omega, ?_⟩⟩
        rw [show ((x.toNat : Nat) : Int) = x by omega]
        exact mem_getD.1 hx)
      rw [List.length_map] at ha hb
      exact_mod_cast Nat.le_antisymm ha hb
    · have : rowN b.free b.free.length = 18446744073709551615 &&& (18446744073709551615 - takeN b.sl 64) := by
        apply Nat.eq_of_testBit_eq
        intro j
        rw [freeN_bit, Bool.eq_iff_iff, rowN_bit, Bool.and_eq_true, decide_eq_true_eq, decide_eq_true_eq]
        constructor
        · rintro ⟨hj, he⟩
          exact ⟨hj, (hm j hj).1 (mem_getD.2 he)⟩
        · rintro ⟨hj, he⟩
          exact ⟨hj, mem_getD.1 ((hm j hj).2 he)⟩
      rw [this]
/-- Right, in the document's words. -/
def RightD (b : BlkS) : Prop := b.addr % 64 = 0 ∧ ownB b.aff = true ∧ b.attrs.length ≤ 64 ∧ (∀ i, i < b.attrs.length → mayP (b.attrs.getD i default) = true ∧ cntN b.sl ((i : Int) + 1) ≠ 0 ∧ b.attrs.getD i default ∉ b.attrs.take i) ∧ (∀ i : Nat, i < 64 → b.sl.getD i 0 ≤ (b.attrs.length : Int) ∧ cntN b.free i = if b.sl.getD i 0 = 0 then 1 else 0) ∧ ∀ f ∈ b.free, 0 ≤ f ∧ f < 64
theorem right_iff (b : BlkS) (hl : b.sl.length = 64) : rightB b = true ↔ RightD b := by
  unfold rightB rightA RightD
  rw [Bool.and_eq_true, Bool.and_eq_true, Bool.and_eq_true, Bool.and_eq_true, Bool.and_eq_true, decide_eq_true_eq, decide_eq_true_eq, attrsOk_iff, rightF_iff]
  constructor
  · rintro ⟨h1, h2, ⟨h3, h4⟩, h5, h6, h7⟩
    obtain ⟨h8, h9⟩ := (rightS_iff b hl h3).1 h5
    exact ⟨h1, h2, h3, fun i hi => ⟨(h4 i hi).1, cnt_pos.2 (h9 i hi), (h4 i hi).2⟩, fun i hi => ⟨h8 i hi, h6 i hi⟩, h7⟩
  · rintro ⟨h1, h2, h3, h4, h5, h6⟩
    exact ⟨h1, h2, ⟨h3, fun i hi => ⟨(h4 i hi).1, (h4 i hi).2.2⟩⟩, (rightS_iff b hl h3).2 ⟨fun i hi => (h5 i hi).1, fun j hj => cnt_pos.1 (h4 j hj).2.1⟩, fun i hi => (h5 i hi).2, h6⟩
end
section
open Go.RowKit
end
section
open Go.RowKit
end
end Go.Proofs.YtlbgjmnihenmaaaGreatDoor
