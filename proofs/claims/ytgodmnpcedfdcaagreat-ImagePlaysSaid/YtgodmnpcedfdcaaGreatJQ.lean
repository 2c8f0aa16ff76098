/- Joined: BkQa BrK BkQ BkR. -/
import Derived.Test.YtgodmnpcedfdcaaGreatBkO
import Derived.Test.YtgodmnpcedfdcaaGreatJK
namespace Go.Proofs.YtgodmnpcedfdcaaGreat
section
open Go.RowKit
theorem infoU : (Tryz.prog.info? 22).map (fun i => (i.zero, i.size, i.bytes)) = some (some (.int .u32 0), 1, 4) := by kernel_rfl
abbrev cellsU (xs : List Int) : List Value := xs.map (Value.int .u32)
/-- A value that reads as these addresses. -/
def SeesU (w : World) (v : Value) (xs : List Int) : Prop :=
  ∃ (ao : Option Addr) (c : Nat), v = .slice ao xs.length c ∧ xs.length ≤ c ∧ (ao = none → xs = []) ∧ ∀ a, ao = some a → ∀ i, i < xs.length → w.cell? (a.add i) = some (.int .u32 (xs.getD i 0))
/-- A value of the call's own that holds these addresses. -/
abbrev OwnsU (w : World) (B : Nat) (v : Value) (xs : List Int) : Prop := w.ownsRow B 22 1 v xs.length (cellsU xs)
theorem SeesU.keep {w w' : World} {v : Value} {xs : List Int} (h : SeesU w v xs) (hb : Below w.heap.size w w') : SeesU w' v xs := by
  obtain ⟨ao, c, e, hl, hn, hc⟩ := h
  exact ⟨ao, c, e, hl, hn, fun a ha i hi => by rw [hb.cell (cell_lt8 (hc a ha i hi))]; exact hc a ha i hi⟩
theorem SeesU.nil (w : World) : SeesU w (.slice none 0 0) [] := ⟨none, 0, rfl, Nat.le_refl _, fun _ => rfl, fun _ h => by cases h⟩
theorem getD_cellsU {xs : List Int} {i : Nat} (h : i < xs.length) : (cellsU xs)[i]? = some (.int .u32 (xs.getD i 0)) := by
  simp [List.getD, List.getElem?_eq_getElem h]
theorem OwnsU.sees {w : World} {B : Nat} {v : Value} {xs : List Int} (h : OwnsU w B v xs) : SeesU w v xs := by
  have hc := fun g hg => World.ownsRow.cells h (g := g) hg
  obtain ⟨_, ⟨rfl, hn⟩ | ⟨g, cap, cur, rfl, _, _, hnc, _, _, _⟩⟩ := h
  · obtain rfl := List.eq_nil_of_length_eq_zero hn
    exact SeesU.nil w
  · exact ⟨some ⟨g, 0, none⟩, cap, rfl, hnc, (fun e => by cases e), fun a ha i hi => (by cases ha; exact hc g rfl i _ (getD_cellsU hi))⟩
theorem OwnsU.nil (w : World) (B : Nat) : OwnsU w B (.slice none 0 0) [] := World.ownsRow_nil _ _ _ _
/-- The first of a row's bytes. -/
theorem sees_take {w : World} {ao : Option Addr} {n c : Nat} {xs : List Int} (h : Sees w (.slice ao n c) xs) {k : Nat} (hk : k ≤ xs.length) : Sees w (.slice ao k c) (xs.take k) := by
  obtain ⟨ao', c', e, hl, hn, hc⟩ := h
  obtain ⟨rfl, rfl, rfl⟩ : ao = ao' ∧ n = xs.length ∧ c = c' := by cases e; exact ⟨rfl, rfl, rfl⟩
  have hlt : (xs.take k).length = k := by rw [List.length_take]; omega
  refine ⟨ao, c, by rw [hlt], by omega, fun h0 => by rw [hn h0]; simp, fun a ha i hi => ?_⟩
  rw [hlt] at hi
  have := hc a ha i (by omega)
  rw [this]
  simp [List.getD_eq_getElem?_getD, hi]
/-! A right block's free slots. -/
theorem mem_mem {x i : Nat} : i ∈ mem x ↔ i < 64 ∧ x.testBit i = true := by simp [mem]
theorem mem_nodup (x : Nat) : (mem x).Nodup := List.Pairwise.filter _ List.nodup_range
theorem nodup_sub_len : ∀ {l m : List Nat}, l.Nodup → (∀ i ∈ l, i ∈ m) → l.length ≤ m.length
  | [], _, _, _ => Nat.zero_le _
  | a :: l, m, hn, hs => by
    have ha := hs a (by simp)
    have h1 := List.nodup_cons.1 hn
    have h2 : l.length ≤ (m.erase a).length := nodup_sub_len h1.2 (fun i hi => by
      have hne : i ≠ a := fun e => h1.1 (e ▸ hi)
      exact (List.mem_erase_of_ne hne).2 (hs i (by simp [hi])))
    rw [List.length_erase_of_mem ha] at h2
    have : 0 < m.length := List.length_pos_of_mem ha
    rw [List.length_cons]
    omega
/-- A list that has as many slots as it is long has slots alone, once each. -/
theorem rowN_all (l : List Int) (h : (mem (rowN l l.length)).length = l.length) : (∀ x ∈ l, 0 ≤ x ∧ x < 64) ∧ l.Nodup := by
  have hsub : ∀ k ∈ mem (rowN l l.length), k ∈ (l.filter (fun x => decide (0 ≤ x ∧ x < 64))).map Int.toNat := fun k hk => by
    obtain ⟨h64, hb⟩ := mem_mem.1 hk
    obtain ⟨_, i, hi, he⟩ := (rowN_bit l k _).1 hb
    rw [List.mem_map]
    refine ⟨(k : Int), List.mem_filter.2 ⟨?_, by simp; omega⟩, by simp⟩
    rw [← he, List.getD_eq_getElem?_getD, List.getElem?_eq_getElem hi]
    exact List.getElem_mem hi
  have h1 := nodup_sub_len (mem_nodup _) hsub
  rw [h, List.length_map] at h1
  have h2 : (l.filter (fun x => decide (0 ≤ x ∧ x < 64))) = l := by
    have h3 : (l.filter (fun x => decide (0 ≤ x ∧ x < 64))).length = l.length := Nat.le_antisymm (List.length_filter_le _ _) h1
    exact List.filter_eq_self.2 (fun a ha => List.length_filter_eq_length_iff.1 h3 a ha)
  have hin : ∀ x ∈ l, 0 ≤ x ∧ x < 64 := fun x hx => by
    rw [← h2] at hx
    exact of_decide_eq_true (List.mem_filter.1 hx).2
  refine ⟨hin, ?_⟩
  rw [h2] at hsub
  -- were one twice there, the erased list would do
  suffices hs : ∀ (l : List Int) (m : List Nat), m.Nodup → m.length = l.length → (∀ k ∈ m, k ∈ l.map Int.toNat) → l.Nodup from hs l _ (mem_nodup _) h hsub
  intro l
  induction l with
  | nil => intros; exact List.nodup_nil
  | cons a l ih =>
    intro m hm hl hs
    refine List.nodup_cons.2 ⟨fun ha => ?_, ?_⟩
    · have := nodup_sub_len hm (m := l.map Int.toNat) (fun k hk => by
        rcases List.mem_cons.1 (hs k hk) with e | e
        · rw [e]; exact List.mem_map_of_mem ha
        · exact e)
      rw [hl] at this
      simp at this
      omega
    · have hmem : a.toNat ∈ m := by
        apply Classical.byContradiction
        intro hno
        have := nodup_sub_len hm (m := l.map Int.toNat) (fun k hk => by
          rcases List.mem_cons.1 (hs k hk) with e | e
          · exact absurd (e ▸ hk) hno
          · exact e)
        rw [hl] at this
        simp at this
        omega
      refine ih (m.erase a.toNat) (hm.erase _) (by rw [List.length_erase_of_mem hmem, hl]; simp) (fun k hk => ?_)
      have hk2 : k ≠ a.toNat ∧ k ∈ m := (List.Nodup.mem_erase_iff hm).1 hk
      rcases List.mem_cons.1 (hs k hk2.2) with e | e
      · exact absurd e hk2.1
      · exact e
theorem right_free {b : BlkS} (h : rightB b = true) : (∀ x ∈ b.free, 0 ≤ x ∧ x < 64) ∧ b.free.Nodup ∧ b.free.length ≤ 64 := by
  have hf : rightF b = true := by
    unfold rightB at h
    simp only [Bool.and_eq_true] at h
    exact h.2.2.2.2
  unfold rightF at hf
  rw [Bool.and_eq_true, beq_iff_eq] at hf
  have hl : (mem (rowN b.free b.free.length)).length = b.free.length := by exact_mod_cast hf.1
  obtain ⟨h1, h2⟩ := rowN_all b.free hl
  refine ⟨h1, h2, ?_⟩
  rw [← hl]
  have := List.length_filter_le (fun i => (rowN b.free b.free.length).testBit i) (List.range 64)
  simpa [mem] using this
/-- The addresses of slots. -/
def adrs (b : BlkS) (l : List Int) : List Int := l.map (fun i => b.addr + i)
theorem adrs_len (b : BlkS) (l : List Int) : (adrs b l).length = l.length := List.length_map _
theorem adrs_snoc (b : BlkS) (l : List Int) (i : Nat) (h : i < l.length) : cellsU (adrs b (l.take (i + 1))) = cellsU (adrs b (l.take i)) ++ [.int .u32 (b.addr + l.getD i 0)] := by
  unfold cellsU adrs
  rw [List.take_add_one, List.getD_eq_getElem?_getD, List.getElem?_eq_getElem h, Option.toList_some, List.map_append, List.map_append]
  rfl
theorem adr_any (b : BlkS) (fv av : Value) (i : Int) (w : World) (hb : 0 ≤ b.addr ∧ b.addr < 4294967296) (h64 : b.addr % 64 = 0) (h0 : 0 ≤ i) (h1 : i < 64) :
    Calls Tryz.prog 47 #[.agg (blkL b fv av).toArray, .int .i64 i] w fun e w' => e = .returned (.int .u32 (b.addr + i)) ∧ Below w.heap.size w w' := by
  refine (addrOf_any b fv av i w).mono ?_
  rintro e w' ⟨rfl, hb'⟩
  refine ⟨?_, hb'⟩
  have e1 : IntKind.u32.wrap i = i := IntWalk.u32_in _ (by omega)
  rw [e1, IntWalk.u32_in _ (by omega)]
end
section
open Go.RowKit Go.Maps
theorem cntN_cons (a : Int) (l : List Int) (k : Int) : cntN (a :: l) k = cntN l k + if a = k then 1 else 0 := by
  unfold cntN
  by_cases h : a = k
  · rw [if_pos h, List.filter_cons_of_pos (by simp [h]), List.length_cons]
  · rw [if_neg h, List.filter_cons_of_neg (by simp [h])]
    rfl
theorem cnt_pos {k : Int} : ∀ {l : List Int}, cntN l k ≠ 0 ↔ k ∈ l
  | [] => by simp [cntN]
  | a :: l => by
    have ih := cnt_pos (k := k) (l := l)
    rw [cntN_cons, List.mem_cons]
    by_cases h : a = k
    · rw [if_pos h]
      exact ⟨fun _ => Or.inl h.symm, fun _ => by omega⟩
    · rw [if_neg h, Nat.add_zero, ih]
      exact ⟨Or.inr, fun h2 => h2.resolve_left (fun e => h e.symm)⟩
theorem nodup_cnt : ∀ {l : List Int}, l.Nodup → ∀ k, cntN l k ≤ 1
  | [], _, k => by simp [cntN]
  | a :: l, h, k => by
    have h1 := List.nodup_cons.1 h
    rw [cntN_cons]
    by_cases e : a = k
    · subst e
      have : cntN l a = 0 := Classical.byContradiction fun hn => h1.1 (cnt_pos.1 hn)
      rw [if_pos rfl]; omega
    · rw [if_neg e]
      exact nodup_cnt h1.2 k
theorem cnt_nodup : ∀ {l : List Int}, (∀ k ∈ l, cntN l k ≤ 1) → l.Nodup
  | [], _ => List.nodup_nil
  | a :: l, h => by
    refine List.nodup_cons.2 ⟨fun ha => ?_, cnt_nodup (fun k hk => ?_)⟩
    · have h1 := h a (by simp)
      rw [cntN_cons, if_pos rfl] at h1
      have := cnt_pos.2 ha
      omega
    · have h1 := h k (by simp [hk])
      rw [cntN_cons] at h1
      omega
theorem mem_getD {l : List Int} {k : Int} : k ∈ l ↔ ∃ i, i < l.length ∧ l.getD i 0 = k := by
  constructor
  · intro h
    obtain ⟨i, hi, e⟩ := List.getElem_of_mem h
    exact ⟨i, hi, by rw [getD_get hi]; exact e⟩
  · rintro ⟨i, hi, rfl⟩
    rw [getD_get hi]
    exact List.getElem_mem hi
theorem attrsOk_iff (L : List PA) : ∀ n, attrsOk L n = true ↔ ∀ i, i < n → mayP (L.getD i default) = true ∧ L.getD i default ∉ L.take i
  | 0 => by simp [attrsOk]
  | n + 1 => by
    have ih := attrsOk_iff L n
    unfold attrsOk
    rw [Bool.and_eq_true, Bool.and_eq_true, ih]
    constructor
    · rintro ⟨h1, h2, h3⟩ i hi
      by_cases e : i = n
      · subst e
        exact ⟨h2, by simpa using h3⟩
      · exact h1 i (by omega)
    · intro h
      exact ⟨fun i hi => h i (by omega), (h n (by omega)).1, by have := (h n (by omega)).2; simpa using this⟩
theorem slotsLe_all (sl : List Int) (m : Nat) : ∀ n, slotsLe sl m n = true ↔ ∀ i, i < n → sl.getD i 0 ≤ (m : Int)
  | 0 => by simp [slotsLe]
  | n + 1 => by
    have ih := slotsLe_all sl m n
    unfold slotsLe
    rw [Bool.and_eq_true, ih, decide_eq_true_eq]
    constructor
    · rintro ⟨h1, h2⟩ i hi
      by_cases e : i = n
      · subst e; exact h2
      · exact h1 i (by omega)
    · intro h
      exact ⟨fun i hi => h i (by omega), h n (by omega)⟩
theorem allM_len {n : Nat} (h : n ≤ 64) : allM (n : Int) = n := by unfold allM; omega
theorem rightS_iff (b : BlkS) (hl : b.sl.length = 64) (h64 : b.attrs.length ≤ 64) : rightS b = true ↔ (∀ i, i < 64 → b.sl.getD i 0 ≤ (b.attrs.length : Int)) ∧ ∀ j, j < b.attrs.length → ((j : Int) + 1) ∈ b.sl := by
  unfold rightS
  rw [Bool.and_eq_true, slotsLe_all, allM_len h64, beq_iff_eq]
  constructor
  · rintro ⟨h1, h2⟩
    have h2 : usedN b.sl 64 = 2 ^ b.attrs.length - 1 := by exact_mod_cast h2
    refine ⟨h1, fun j hj => ?_⟩
    have : (usedN b.sl 64).testBit j = true := by rw [h2, Nat.testBit_two_pow_sub_one, decide_eq_true hj]
    obtain ⟨_, i, hi, e⟩ := (usedN_bit _ _ _).1 this
    exact mem_getD.2 ⟨i, by omega, e⟩
  · rintro ⟨h1, h2⟩
    refine ⟨h1, ?_⟩
    have : usedN b.sl 64 = 2 ^ b.attrs.length - 1 := by
      apply Nat.eq_of_testBit_eq
      intro j
      rw [Nat.testBit_two_pow_sub_one, Bool.eq_iff_iff, usedN_bit, decide_eq_true_eq]
      constructor
      · rintro ⟨_, i, hi, e⟩
        have := h1 i hi
        omega
      · intro hj
        obtain ⟨i, hi, e⟩ := mem_getD.1 (h2 j hj)
        exact ⟨by omega, i, by omega, e⟩
    rw [this]
theorem freeN_bit (sl : List Int) (j : Nat) : (18446744073709551615 &&& (18446744073709551615 - takeN sl 64)).testBit j = (decide (j < 64) && decide (sl.getD j 0 = 0)) := by
  have h1 : takeN sl 64 < 2 ^ 64 := takeN_lt sl 64
  have h2 : 18446744073709551615 - takeN sl 64 = 2 ^ 64 - (takeN sl 64 + 1) := by omega
  rw [show (18446744073709551615 : Nat) = 2 ^ 64 - 1 from rfl] at h2 ⊢
  rw [h2, Nat.testBit_and, Nat.testBit_two_pow_sub_one, Nat.testBit_two_pow_sub_succ h1, takeN_bit _ _ _ (Nat.le_refl _)]
  by_cases hj : j < 64 <;> by_cases hs : sl.getD j 0 = 0 <;> simp [hj]
theorem nodup_toNat : ∀ {l : List Int}, l.Nodup → (∀ x ∈ l, 0 ≤ x) → (l.map Int.toNat).Nodup
  | [], _, _ => List.nodup_nil
  | a :: l, h, hp => by
    have h1 := List.nodup_cons.1 h
    refine List.nodup_cons.2 ⟨fun ha => ?_, nodup_toNat h1.2 (fun x hx => hp x (by simp [hx]))⟩
    obtain ⟨x, hx, e⟩ := List.mem_map.1 ha
    have := hp x (by simp [hx])
    have := hp a (by simp)
    obtain rfl : x = a := by omega
    exact h1.1 hx
theorem rightF_iff (b : BlkS) : rightF b = true ↔ (∀ i : Nat, i < 64 → cntN b.free i = if b.sl.getD i 0 = 0 then 1 else 0) ∧ ∀ f ∈ b.free, 0 ≤ f ∧ f < 64 := by
  unfold rightF
  rw [Bool.and_eq_true, beq_iff_eq, beq_iff_eq]
  constructor
  · rintro ⟨h1, h2⟩
    have h1 : (mem (rowN b.free b.free.length)).length = b.free.length := by exact_mod_cast h1
    have h2 : rowN b.free b.free.length = 18446744073709551615 &&& (18446744073709551615 - takeN b.sl 64) := by exact_mod_cast h2
    obtain ⟨hin, hnd⟩ := rowN_all _ h1
    refine ⟨fun i hi => ?_, hin⟩
    have hb := rowN_bit b.free i b.free.length
    rw [h2, freeN_bit, Bool.and_eq_true, decide_eq_true_eq, decide_eq_true_eq] at hb
    have h0 := nodup_cnt hnd i
    by_cases hs : b.sl.getD i 0 = 0
    · rw [if_pos hs]
      have := cnt_pos.2 (mem_getD.2 (hb.1 ⟨hi, hs⟩).2)
      omega
    · rw [if_neg hs]
      apply Classical.byContradiction
      intro hn
      exact hs (hb.2 ⟨hi, mem_getD.1 (cnt_pos.1 hn)⟩).2
  · rintro ⟨h1, hin⟩
    have hnd : b.free.Nodup := cnt_nodup (fun k hk => by
      have := hin k hk
      have h2 := h1 k.toNat (by omega)
      rw [show ((k.toNat : Nat) : Int) = k by omega] at h2
      rw [h2]
      split <;> omega)
    have hm : ∀ i : Nat, i < 64 → ((i : Int) ∈ b.free ↔ b.sl.getD i 0 = 0) := fun i hi => by
      rw [← cnt_pos, h1 i hi]
      by_cases hs : b.sl.getD i 0 = 0 <;> simp 
    constructor
    · have ha : (mem (rowN b.free b.free.length)).length ≤ (b.free.map Int.toNat).length := nodup_sub_len (mem_nodup _) (fun i hi => by
        obtain ⟨h64, hb⟩ := mem_mem.1 hi
        have := mem_getD.2 ((rowN_bit _ _ _).1 hb).2
        exact List.mem_map.2 ⟨_, this, by simp⟩)
      have hb : (b.free.map Int.toNat).length ≤ (mem (rowN b.free b.free.length)).length := nodup_sub_len (nodup_toNat hnd (fun x hx => (hin x hx).1)) (fun i hi => by
        obtain ⟨x, hx, rfl⟩ := List.mem_map.1 hi
        have h2 := hin x hx
        refine mem_mem.2 ⟨by omega, (rowN_bit _ _ _).2 ⟨by omega, ?_⟩⟩
        rw [show ((x.toNat : Nat) : Int) = x by omega]
        exact mem_getD.1 hx)
      rw [List.length_map] at ha hb
      exact_mod_cast Nat.le_antisymm ha hb
    · have : rowN b.free b.free.length = 18446744073709551615 &&& (18446744073709551615 - takeN b.sl 64) := by
        apply Nat.eq_of_testBit_eq
        intro j
        rw [freeN_bit, Bool.eq_iff_iff, rowN_bit, Bool.and_eq_true, decide_eq_true_eq, decide_eq_true_eq]
        constructor
        · rintro ⟨hj, he⟩
          exact ⟨hj, (hm j hj).1 (mem_getD.2 he)⟩
        · rintro ⟨hj, he⟩
          exact ⟨hj, mem_getD.1 ((hm j hj).2 he)⟩
      rw [this]
/-- Right, in the document's words. -/
def RightD (b : BlkS) : Prop := b.addr % 64 = 0 ∧ ownB b.aff = true ∧ b.attrs.length ≤ 64 ∧ (∀ i, i < b.attrs.length → mayP (b.attrs.getD i default) = true ∧ cntN b.sl ((i : Int) + 1) ≠ 0 ∧ b.attrs.getD i default ∉ b.attrs.take i) ∧ (∀ i : Nat, i < 64 → b.sl.getD i 0 ≤ (b.attrs.length : Int) ∧ cntN b.free i = if b.sl.getD i 0 = 0 then 1 else 0) ∧ ∀ f ∈ b.free, 0 ≤ f ∧ f < 64
theorem right_iff (b : BlkS) (hl : b.sl.length = 64) : rightB b = true ↔ RightD b := by
  unfold rightB rightA RightD
  rw [Bool.and_eq_true, Bool.and_eq_true, Bool.and_eq_true, Bool.and_eq_true, Bool.and_eq_true, decide_eq_true_eq, decide_eq_true_eq, attrsOk_iff, rightF_iff]
  constructor
  · rintro ⟨h1, h2, ⟨h3, h4⟩, h5, h6, h7⟩
    obtain ⟨h8, h9⟩ := (rightS_iff b hl h3).1 h5
    exact ⟨h1, h2, h3, fun i hi => ⟨(h4 i hi).1, cnt_pos.2 (h9 i hi), (h4 i hi).2⟩, fun i hi => ⟨h8 i hi, h6 i hi⟩, h7⟩
  · rintro ⟨h1, h2, h3, h4, h5, h6⟩
    exact ⟨h1, h2, ⟨h3, fun i hi => ⟨(h4 i hi).1, (h4 i hi).2.2⟩⟩, (rightS_iff b hl h3).2 ⟨fun i hi => (h5 i hi).1, fun j hj => cnt_pos.1 (h4 j hj).2.1⟩, fun i hi => (h5 i hi).2, h6⟩
end
section
open Go.RowKit
set_option maxRecDepth 100000 in
set_option maxHeartbeats 8000000 in
theorem assign_bad (b : BlkS) (fv av : Value) (n : Int) (a : PA) (w : World) (hf : Sees w fv b.free) (ha : SeesA w av b.attrs) (hw : BWf b) (h1 : a.1.size ≤ maxLen) (h2 : a.2.size ≤ maxLen) (hno : (rightB b && (mayP a && decide (0 ≤ n))) = false) :
    Calls Tryz.prog 14 #[.agg (blkL b fv av).toArray, .int .i64 n, atV a] w fun e w' => e = .returned (.tuple #[.agg (blkL zB NS NS).toArray, NS, .int .i64 1]) ∧ Below w.heap.size w w' := by
  obtain ⟨W, hW⟩ : ∃ W, W = ((w.alloc (blkO b fv av)).alloc (atO a)).alloc (blkO zB NS NS) := ⟨_, rfl⟩
  obtain ⟨hb0, hA, hT, hR, hsz⟩ := three_newB w (blkO b fv av) (atO a) (blkO zB NS NS)
  rw [← hW] at hb0 hA hT hR hsz
  have HX0 : Hid (BlkAt W w.heap.size b fv av) := Lib.hid hA
  have HA0 := Lib.hid hT
  have HZ0 : Hid (BlkAt W (w.heap.size + 2) zB NS NS) := Lib.hid hR
  have HB0 := Lib.hid hb0
  have HSZ := Lib.hid hsz
  have HW := Lib.hid hW
  have HRB := Lib.hid (rightBlk_any (blkL b fv av).toArray b W ⟨fv, av, rfl, hf.keep hb0, ha.below hb0, hw⟩)
  have HMB := Lib.hid (fun w => mayBe_any a h1 h2 w)
  have hl := hw.2.1
  cases hr : rightB b with
  | false =>
    rw [hr] at HRB
    clear hW hb0 hA hT hR hsz hf ha hw hno
    go_enter Tryz.func14, Tryz.ntmps14
    go_upto_region 1 with fail
    change Code.wp _ _ _ _ (((w.alloc (blkO b fv av)).alloc (atO a)).alloc (blkO zB NS NS))
    rw [← HW.out]
    clear HW
    go_wp2_with (refine wpLdB rfl _ rfl rfl HX0.out hl ?_)
    refine HRB.out.mono ?_; rintro e w1 ⟨rfl, hb1⟩
    have HX1 := Lib.hid (HX0.out.below hb1)
    have HZ1 := Lib.hid (HZ0.out.below hb1)
    have HA1 := Lib.hid ((hb1.block _ (heap_lt HA0.out)).trans HA0.out)
    have HB1 := Lib.hid (HB0.out.trans (hb1.mono HB0.out.size))
    have HS1 := Lib.hid (Nat.le_trans (Nat.le_of_eq HSZ.out.symm) hb1.size)
    clear hb1
    go_wp2_with (refine wpStB (b := zB) (fv := NS) (av := NS) rfl _ _ rfl rfl rfl HZ1.out zB_len zB_len rfl rfl ?_; intro w7 hx7 hg7)
    exact bodyPost_ret (resB3 Tryz.results14 rfl (loadVarB hx7 zB_len)) rfl ⟨rfl, HB1.out.grown hg7 HB1.out.size (fun k hk => by cases hk; omega)⟩
  | true =>
    rw [hr] at HRB
    cases hm : mayP a with
    | false =>
      rw [hm] at HMB
      clear hW hb0 hA hT hR hsz hf ha hw hno
      go_enter Tryz.func14, Tryz.ntmps14
      go_upto_region 1 with fail
      change Code.wp _ _ _ _ (((w.alloc (blkO b fv av)).alloc (atO a)).alloc (blkO zB NS NS))
      rw [← HW.out]
      clear HW
      go_wp2_with (refine wpLdB rfl _ rfl rfl HX0.out hl ?_)
      refine HRB.out.mono ?_; rintro e w1 ⟨rfl, hb1⟩
      have HX1 := Lib.hid (HX0.out.below hb1)
      have HZ1 := Lib.hid (HZ0.out.below hb1)
      have HA1 := Lib.hid ((hb1.block _ (heap_lt HA0.out)).trans HA0.out)
      have HB1 := Lib.hid (HB0.out.trans (hb1.mono HB0.out.size))
      have HS1 := Lib.hid (Nat.le_trans (Nat.le_of_eq HSZ.out.symm) hb1.size)
      clear hb1
      have k0 := (cells2 HA1.out).1
      have k1 := (cells2 HA1.out).2
      go_wp2_with fail
      refine (HMB.out _).mono ?_; rintro e w2 ⟨rfl, hb2⟩
      have HX2 := Lib.hid (HX1.out.below hb2)
      have HZ2 := Lib.hid (HZ1.out.below hb2)
      have HA2 := Lib.hid ((hb2.block _ (heap_lt HA1.out)).trans HA1.out)
      have HB2 := Lib.hid (HB1.out.trans (hb2.mono HB1.out.size))
      have HSW := Lib.hid (Nat.le_trans HS1.out hb2.size)
      clear hb2 HS1 k0 k1 HX1 HA1 HB1 HZ1
      go_wp2_with (refine wpStB (b := zB) (fv := NS) (av := NS) rfl _ _ rfl rfl rfl HZ2.out zB_len zB_len rfl rfl ?_; intro w7 hx7 hg7)
      exact bodyPost_ret (resB3 Tryz.results14 rfl (loadVarB hx7 zB_len)) rfl ⟨rfl, HB2.out.grown hg7 HB2.out.size (fun k hk => by cases hk; omega)⟩
    | true =>
      have hn : n < 0 := by
        rw [hr, hm] at hno
        simpa using hno
      have dn : decide (n < 0) = true := decide_eq_true hn
      rw [hm] at HMB
      clear hW hb0 hA hT hR hsz hf ha hw hno
      go_enter Tryz.func14, Tryz.ntmps14
      go_upto_region 1 with fail
      change Code.wp _ _ _ _ (((w.alloc (blkO b fv av)).alloc (atO a)).alloc (blkO zB NS NS))
      rw [← HW.out]
      clear HW
      go_wp2_with (refine wpLdB rfl _ rfl rfl HX0.out hl ?_)
      refine HRB.out.mono ?_; rintro e w1 ⟨rfl, hb1⟩
      have HX1 := Lib.hid (HX0.out.below hb1)
      have HZ1 := Lib.hid (HZ0.out.below hb1)
      have HA1 := Lib.hid ((hb1.block _ (heap_lt HA0.out)).trans HA0.out)
      have HB1 := Lib.hid (HB0.out.trans (hb1.mono HB0.out.size))
      have HS1 := Lib.hid (Nat.le_trans (Nat.le_of_eq HSZ.out.symm) hb1.size)
      clear hb1
      have k0 := (cells2 HA1.out).1
      have k1 := (cells2 HA1.out).2
      go_wp2_with fail
      refine (HMB.out _).mono ?_; rintro e w2 ⟨rfl, hb2⟩
      have HX2 := Lib.hid (HX1.out.below hb2)
      have HZ2 := Lib.hid (HZ1.out.below hb2)
      have HA2 := Lib.hid ((hb2.block _ (heap_lt HA1.out)).trans HA1.out)
      have HB2 := Lib.hid (HB1.out.trans (hb2.mono HB1.out.size))
      have HSW := Lib.hid (Nat.le_trans HS1.out hb2.size)
      clear hb2 HS1 k0 k1 HX1 HA1 HB1 HZ1
      go_wp2_with (refine wpStB (b := zB) (fv := NS) (av := NS) rfl _ _ rfl rfl rfl HZ2.out zB_len zB_len rfl rfl ?_; intro w7 hx7 hg7)
      exact bodyPost_ret (resB3 Tryz.results14 rfl (loadVarB hx7 zB_len)) rfl ⟨rfl, HB2.out.grown hg7 HB2.out.size (fun k hk => by cases hk; omega)⟩
set_option maxRecDepth 100000 in
set_option maxHeartbeats 8000000 in
theorem assign_any (b : BlkS) (fv av : Value) (n : Int) (a : PA) (w : World) (hf : Sees w fv b.free) (ha : SeesA w av b.attrs) (hw : BWf b) (h1 : a.1.size ≤ maxLen) (h2 : a.2.size ≤ maxLen) (hr : rightB b = true) (hm : mayP a = true) (hn : 0 ≤ n) :
    Calls Tryz.prog 14 #[.agg (blkL b fv av).toArray, .int .i64 n, atV a] w fun e w' => ∃ fv' av' tv, e = .returned (.tuple #[.agg (blkL (givS b (b.free.take n.toNat) a) fv' av').toArray, tv, .int .i64 0]) ∧ BlkRet w w' (givS b (b.free.take n.toNat) a) fv' av' ∧ OwnsU w' w.heap.size tv (adrs b (b.free.take n.toNat)) := by
  obtain ⟨W, hW⟩ : ∃ W, W = ((w.alloc (blkO b fv av)).alloc (atO a)).alloc (blkO zB NS NS) := ⟨_, rfl⟩
  obtain ⟨hb0, hA, hT, hR, hsz⟩ := three_newB w (blkO b fv av) (atO a) (blkO zB NS NS)
  rw [← hW] at hb0 hA hT hR hsz
  have HX0 : Hid (BlkAt W w.heap.size b fv av) := Lib.hid hA
  have HA0 := Lib.hid hT
  have HZ0 : Hid (BlkAt W (w.heap.size + 2) zB NS NS) := Lib.hid hR
  have HB0 := Lib.hid hb0
  have HSZ := Lib.hid hsz
  have HW := Lib.hid hW
  have HRB := Lib.hid (rightBlk_any (blkL b fv av).toArray b W ⟨fv, av, rfl, hf.keep hb0, ha.below hb0, hw⟩)
  have HMB := Lib.hid (fun w => mayBe_any a h1 h2 w)
  have hl := hw.2.1
  obtain ⟨h64, _, hal, _⟩ := right_bd hw hr
  obtain ⟨hfo, _, hfl⟩ := right_free hr
  obtain ⟨K, hK⟩ : ∃ K : Nat, K = min n.toNat b.free.length := ⟨_, rfl⟩
  have hKl : K ≤ b.free.length := by omega
  have htk : b.free.take n.toNat = b.free.take K := by
    rw [hK]
    rcases Nat.le_total n.toNat b.free.length with h | h
    · rw [Nat.min_eq_left h]
    · rw [Nat.min_eq_right h, List.take_of_length_le h, List.take_of_length_le (Nat.le_refl _)]
  rw [htk]
  have hlk : (b.free.take K).length = K := by rw [List.length_take]; omega
  obtain ⟨fo, fc, rfl, hfc, hfn, hfv⟩ := id hf
  have hmin : ∀ (ts : Array TypeId) (t : TypeId) (W : World), (Builtin.min_ ts t #[.int .i64 n, .int .i64 (b.free.length : Int)]).run Tryz.prog W = .ok (.int .i64 (K : Int)) W := fun ts t W => by
    have e : (if (b.free.length : Int) < n then (b.free.length : Int) else n) = (K : Int) := by split <;> omega
    simp [Builtin.min_, Builtin.min2]
    omega
  have HT : Hid (∀ W, Below w.heap.size w W → Sees W (.slice fo K fc) (b.free.take K)) := Lib.hid (fun W hb => sees_take (hf.keep hb) hKl)
  have HAD := Lib.hid (fun i w => adr_any b (.slice fo b.free.length fc) av i w hw.1 h64)
  have HGV : Hid (∀ W, Below w.heap.size w W → _) := Lib.hid (fun W hb => given_any b (.slice fo b.free.length fc) av (.slice fo K fc) (b.free.take K) a W (hf.keep hb) (ha.below hb) hl hal (by omega) (sees_take (hf.keep hb) hKl) (fun x hx => hfo x (List.mem_of_mem_take hx)) hfo (by omega))
  have HFO := Lib.hid hfo
  have hkc : K ≤ fc := by omega
  have hmx : K ≤ 64 := by omega
  have dn : decide (n < 0) = false := by simp; omega
  rw [hr] at HRB
  rw [hm] at HMB
  clear hW hb0 hA hT hR hsz hf ha hw hr hm hfo hfl htk hK hfv hfn hal h64
  go_enter Tryz.func14, Tryz.ntmps14
  go_upto_region 1 with fail
  change Code.wp _ _ _ _ (((w.alloc (blkO b (.slice fo b.free.length fc) av)).alloc (atO a)).alloc (blkO zB NS NS))
  rw [← HW.out]
  clear HW
  go_wp2_with (refine wpLdB rfl _ rfl rfl HX0.out hl ?_)
  refine HRB.out.mono ?_; rintro e w1 ⟨rfl, hb1⟩
  have HX1 := Lib.hid (HX0.out.below hb1)
  have HZ1 := Lib.hid (HZ0.out.below hb1)
  have HA1 := Lib.hid ((hb1.block _ (heap_lt HA0.out)).trans HA0.out)
  have HB1 := Lib.hid (HB0.out.trans (hb1.mono HB0.out.size))
  have HS1 := Lib.hid (Nat.le_trans (Nat.le_of_eq HSZ.out.symm) hb1.size)
  clear hb1
  have k0 := (cells2 HA1.out).1
  have k1 := (cells2 HA1.out).2
  go_wp2_with fail
  refine (HMB.out _).mono ?_; rintro e w2 ⟨rfl, hb2⟩
  have HX2 := Lib.hid (HX1.out.below hb2)
  have HZ2 := Lib.hid (HZ1.out.below hb2)
  have HA2 := Lib.hid ((hb2.block _ (heap_lt HA1.out)).trans HA1.out)
  have HB2 := Lib.hid (HB1.out.trans (hb2.mono HB1.out.size))
  have HSW := Lib.hid (Nat.le_trans HS1.out hb2.size)
  clear hb2 HS1 k0 k1 HX1 HA1 HB1 HZ1
  have c66 := HX2.out.free hl
  go_upto_region 4 with fail
  clear c66
  go_wp2_with fail
  go_loopw [10, 36] (fun t j wr => ∃ i : Nat, i ≤ K ∧ j = .int .i64 i ∧ Hid (OwnsU wr w2.heap.size t (adrs b ((b.free.take K).take i)) ∧ Below w2.heap.size w2 wr)) (fun _ j _ => K - (intOf j).toNat)
  case atStart => exact ⟨0, Nat.zero_le _, rfl, Lib.hid ⟨OwnsU.nil _ _, Below.refl _ _⟩⟩
  case round =>
    obtain ⟨i, hi, rfl, HI⟩ := hrel
    obtain ⟨ho, hbw⟩ := HI.out
    have hsz := hbw.size
    have HXr := Lib.hid (HX2.out.below hbw)
    have HBr := Lib.hid hbw
    have hol : (adrs b ((b.free.take K).take i)).length = i := by rw [adrs_len, List.length_take, hlk]; omega
    have HOr : Hid (wr.ownsRow w2.heap.size 22 1 _ i (cellsU (adrs b ((b.free.take K).take i)))) := Lib.hid (by have h := ho; unfold OwnsU at h; rw [hol] at h; exact h)
    by_cases hlt : i < K
    · obtain ⟨fo', fc', e0, -, hln, hlc⟩ := HT.out wr (HB2.out.trans (hbw.mono HB2.out.size))
      obtain ⟨rfl, rfl⟩ : fo = fo' ∧ fc = fc' := by rw [hlk] at e0; cases e0; exact ⟨rfl, rfl⟩
      obtain ⟨fa, rfl⟩ : ∃ fa, fo = some fa := by
        cases fo with
        | none => rw [hln rfl] at hlk; simp at hlk; omega
        | some fa => exact ⟨fa, rfl⟩
      have q0 := hlc fa rfl i (by omega)
      have hm := HFO.out ((b.free.take K).getD i 0) (by
        rw [List.getD_eq_getElem?_getD, List.getElem?_eq_getElem (by omega)]
        exact List.mem_of_mem_take (List.getElem_mem _))
      have HSN := Lib.hid (adrs_snoc b (b.free.take K) i (by omega))
      have HLT := Lib.hid hlt
      have hii : i ≤ 1000001 := by omega
      have HSr := Lib.hid hsz
      obtain ⟨y, hy⟩ := Int.eq_ofNat_of_zero_le hm.1
      rw [hy] at q0 HSN hm
      have HD := Lib.hid (fun w => HAD.out (y : Int) w hm.1 hm.2)
      have y0 : (0 : Int) ≤ (y : Int) := by omega
      have y1 : (y : Int) < 64 := by omega
      have b0 : (0 : Int) ≤ (i : Int) := by omega
      have b1 : (i : Int) < (K : Int) := by omega
      have d1 : decide ((i : Int) < (K : Int)) = true := by simp; omega
      clear ho hbw hsz hlt hm hlc hln hy e0 hol HI
      go_wp2_with (refine wpLdB rfl _ rfl rfl HXr.out hl ?_)
      refine (HD.out _).mono ?_; rintro e w5 ⟨rfl, hb5⟩
      have HX5 := Lib.hid (HBr.out.trans (hb5.mono HSr.out))
      have HO5 := Lib.hid (own_keep HOr.out hb5)
      have HS5 := Lib.hid (Nat.le_trans HSr.out hb5.size)
      clear hb5 q0
      go_wp2_with (at_builtin; refine wpList_push1 (w0 := w5) Tryz.underlying39 infoU rfl (by decide) rfl (.tmp 40) (.tmp 45) rfl w2.heap.size _ i _ (.int .u32 (b.addr + (y : Int))) w5.heap.size rfl rfl rfl HO5.out hii HS5.out rfl ?_; intro v' w6 ho6 hb6 _; have HO6 := Lib.hid ho6; have HB6 := Lib.hid (HX5.out.trans hb6); clear ho6 hb6)
      go_roundw
      case rel =>
        refine ⟨i + 1, HLT.out, by go_num, Lib.hid ⟨?_, HB6.out⟩⟩
        have := HO6.out
        rw [← HSN.out] at this
        have e : (adrs b ((b.free.take K).take (i + 1))).length = i + 1 := by rw [adrs_len, List.length_take, hlk]; have := HLT.out; omega
        show World.ownsRow _ _ _ _ _ _ _
        rw [e]
        exact this
      case measure => simp [intOf]; have := HLT.out; omega
    · obtain rfl : i = K := by omega
      have d1 : decide ((i : Int) < (i : Int)) = false := by simp
      have HA3 := Lib.hid ((hbw.block _ (heap_lt HA2.out)).trans HA2.out)
      have HZ3 := Lib.hid (HZ2.out.below hbw)
      have HB3 := Lib.hid (HB2.out.trans (hbw.mono HB2.out.size))
      have HG3 := Lib.hid (HGV.out wr HB3.out)
      have k0 := (cells2 HA3.out).1
      have k1 := (cells2 HA3.out).2
      have htt : (b.free.take i).take i = b.free.take i := by rw [List.take_take, Nat.min_self]
      rw [htt] at HOr
      obtain ⟨too, tn, tc, rfl⟩ := own_form HOr.out
      have HSr := Lib.hid hsz
      clear ho hbw hsz hlt hol HI htt
      go_wp2_with (refine wpLdB rfl _ rfl rfl HXr.out hl ?_)
      refine HG3.out.mono ?_; rintro e w5 ⟨fv', av', rfl, HR⟩
      obtain ⟨gf, ga, gb⟩ := HR
      have HF5 := Lib.hid gf
      have HGA5 := Lib.hid ga
      have HB5 := Lib.hid gb
      have HZ5 := Lib.hid (HZ3.out.below gb)
      have HO5 := Lib.hid (own_keep HOr.out gb)
      have hlG : (givS b (b.free.take i) a).sl.length = 64 := (givSl_len' _ _ _).trans hl
      obtain ⟨f5, n5, c5, rfl⟩ := own_form gf
      obtain ⟨a5, m5, d5, rfl⟩ := own_form ga
      clear gf ga gb
      go_wp2_with (refine wpStB rfl _ _ rfl rfl rfl HZ5.out zB_len hlG rfl rfl ?_; intro w7 hx7 hg7)
      have HS3 : Hid (w.heap.size + 3 ≤ wr.heap.size) := Lib.hid (Nat.le_trans HSW.out HSr.out)
      refine bodyPost_ret (resB3 Tryz.results14 rfl (loadVarB hx7 hlG)) rfl ⟨_, _, _, rfl, ⟨?_, ?_, ?_⟩, ?_⟩
      · exact own_le (own_grown HF5.out hg7 (by have := HS3.out; omega)) (by have := HS3.out; omega)
      · exact own_le (own_grown HGA5.out hg7 (by have := HS3.out; omega)) (by have := HS3.out; omega)
      · have h5 := HB3.out.trans (HB5.out.mono HB3.out.size)
        exact h5.grown hg7 h5.size (fun k hk => by cases hk; omega)
      · have e : (adrs b (b.free.take i)).length = i := by rw [adrs_len, hlk]
        show World.ownsRow _ _ _ _ _ _ _
        rw [e]
        exact own_le (own_grown HO5.out hg7 (by have := HSW.out; omega)) (by have := HSW.out; omega)
end
section
open Go.RowKit
set_option maxRecDepth 100000 in
set_option maxHeartbeats 8000000 in
theorem assignAt_bad (b : BlkS) (fv av : Value) (x : Int) (a : PA) (w : World) (hf : Sees w fv b.free) (ha : SeesA w av b.attrs) (hw : BWf b) (hx : 0 ≤ x) (hx' : x < 4294967296) (h1 : a.1.size ≤ maxLen) (h2 : a.2.size ≤ maxLen) (hno : (rightB b && (mayP a && inB b.addr x)) = false) :
    Calls Tryz.prog 51 #[.agg (blkL b fv av).toArray, .int .u32 x, atV a] w fun e w' => e = .returned (.tuple #[.agg (blkL zB NS NS).toArray, .int .i64 1]) ∧ Below w.heap.size w w' := by
  obtain ⟨W, hW⟩ : ∃ W, W = ((w.alloc (blkO b fv av)).alloc (atO a)).alloc (blkO zB NS NS) := ⟨_, rfl⟩
  obtain ⟨hb0, hA, hT, hR, hsz⟩ := three_newB w (blkO b fv av) (atO a) (blkO zB NS NS)
  rw [← hW] at hb0 hA hT hR hsz
  have HX0 : Hid (BlkAt W w.heap.size b fv av) := Lib.hid hA
  have HA0 := Lib.hid hT
  have HZ0 : Hid (BlkAt W (w.heap.size + 2) zB NS NS) := Lib.hid hR
  have HB0 := Lib.hid hb0
  have HSZ := Lib.hid hsz
  have HW := Lib.hid hW
  have HSO := Lib.hid (slotOf_any b fv av hw.1 x hx hx' W)
  have HRB := Lib.hid (fun W1 (hb : Below W.heap.size W W1) => rightBlk_any (blkL b fv av).toArray b W1 ⟨fv, av, rfl, (hf.keep hb0).keep hb, (ha.below hb0).below hb, hw⟩)
  have HMB := Lib.hid (fun w => mayBe_any a h1 h2 w)
  have hl := hw.2.1
  generalize (if inB b.addr x = true then x - b.addr else 0) = I at *
  cases hr : rightB b with
  | false =>
    rw [hr] at HRB
    clear hW hb0 hA hT hR hsz hf ha hw hno
    go_enter Tryz.func51, Tryz.ntmps51
    go_upto_region 1 with fail
    change Code.wp _ _ _ _ (((w.alloc (blkO b fv av)).alloc (atO a)).alloc (blkO zB NS NS))
    rw [← HW.out]
    clear HW
    go_wp2_with (refine wpLdB rfl _ rfl rfl HX0.out hl ?_)
    refine HSO.out.mono ?_; rintro e w1 ⟨rfl, hb1⟩
    have HX1 := Lib.hid (HX0.out.below hb1)
    have HZ1 := Lib.hid (HZ0.out.below hb1)
    have HA1 := Lib.hid ((hb1.block _ (heap_lt HA0.out)).trans HA0.out)
    have HB1 := Lib.hid (HB0.out.trans (hb1.mono HB0.out.size))
    have HS1 := Lib.hid (Nat.le_trans (Nat.le_of_eq HSZ.out.symm) hb1.size)
    have HR1 := Lib.hid (HRB.out _ hb1)
    clear hb1
    go_wp2_with (refine wpLdB rfl _ rfl rfl HX1.out hl ?_)
    refine HR1.out.mono ?_; rintro e w2 ⟨rfl, hb2⟩
    have HX2 := Lib.hid (HX1.out.below hb2)
    have HZ2 := Lib.hid (HZ1.out.below hb2)
    have HA2 := Lib.hid ((hb2.block _ (heap_lt HA1.out)).trans HA1.out)
    have HB2 := Lib.hid (HB1.out.trans (hb2.mono HB1.out.size))
    have HS2 := Lib.hid (Nat.le_trans HS1.out hb2.size)
    clear hb2
    go_wp2_with (refine wpStB (b := zB) (fv := NS) (av := NS) rfl _ _ rfl rfl rfl HZ2.out zB_len zB_len rfl rfl ?_; intro w7 hx7 hg7)
    exact bodyPost_ret (resB2 Tryz.results51 rfl (loadVarB hx7 zB_len)) rfl ⟨rfl, HB2.out.grown hg7 HB2.out.size (fun k hk => by cases hk; omega)⟩
  | true =>
    rw [hr] at HRB
    cases hm : mayP a with
    | false =>
      rw [hm] at HMB
      clear hW hb0 hA hT hR hsz hf ha hw hno
      go_enter Tryz.func51, Tryz.ntmps51
      go_upto_region 1 with fail
      change Code.wp _ _ _ _ (((w.alloc (blkO b fv av)).alloc (atO a)).alloc (blkO zB NS NS))
      rw [← HW.out]
      clear HW
      go_wp2_with (refine wpLdB rfl _ rfl rfl HX0.out hl ?_)
      refine HSO.out.mono ?_; rintro e w1 ⟨rfl, hb1⟩
      have HX1 := Lib.hid (HX0.out.below hb1)
      have HZ1 := Lib.hid (HZ0.out.below hb1)
      have HA1 := Lib.hid ((hb1.block _ (heap_lt HA0.out)).trans HA0.out)
      have HB1 := Lib.hid (HB0.out.trans (hb1.mono HB0.out.size))
      have HS1 := Lib.hid (Nat.le_trans (Nat.le_of_eq HSZ.out.symm) hb1.size)
      have HR1 := Lib.hid (HRB.out _ hb1)
      clear hb1
      go_wp2_with (refine wpLdB rfl _ rfl rfl HX1.out hl ?_)
      refine HR1.out.mono ?_; rintro e w2 ⟨rfl, hb2⟩
      have HX2 := Lib.hid (HX1.out.below hb2)
      have HZ2 := Lib.hid (HZ1.out.below hb2)
      have HA2 := Lib.hid ((hb2.block _ (heap_lt HA1.out)).trans HA1.out)
      have HB2 := Lib.hid (HB1.out.trans (hb2.mono HB1.out.size))
      have HS2 := Lib.hid (Nat.le_trans HS1.out hb2.size)
      clear hb2
      have k0 := (cells2 HA2.out).1
      have k1 := (cells2 HA2.out).2
      go_wp2_with fail
      refine (HMB.out _).mono ?_; rintro e w3 ⟨rfl, hb3⟩
      have HX3 := Lib.hid (HX2.out.below hb3)
      have HZ3 := Lib.hid (HZ2.out.below hb3)
      have HA3 := Lib.hid ((hb3.block _ (heap_lt HA2.out)).trans HA2.out)
      have HB3 := Lib.hid (HB2.out.trans (hb3.mono HB2.out.size))
      have HS3 := Lib.hid (Nat.le_trans HS2.out hb3.size)
      clear hb3 k0 k1
      go_wp2_with (refine wpStB (b := zB) (fv := NS) (av := NS) rfl _ _ rfl rfl rfl HZ3.out zB_len zB_len rfl rfl ?_; intro w7 hx7 hg7)
      exact bodyPost_ret (resB2 Tryz.results51 rfl (loadVarB hx7 zB_len)) rfl ⟨rfl, HB3.out.grown hg7 HB3.out.size (fun k hk => by cases hk; omega)⟩
    | true =>
      have hn : inB b.addr x = false := by
        rw [hr, hm] at hno
        simpa using hno
      rw [hn] at HSO
      rw [hm] at HMB
      clear hW hb0 hA hT hR hsz hf ha hw hno
      go_enter Tryz.func51, Tryz.ntmps51
      go_upto_region 1 with fail
      change Code.wp _ _ _ _ (((w.alloc (blkO b fv av)).alloc (atO a)).alloc (blkO zB NS NS))
      rw [← HW.out]
      clear HW
      go_wp2_with (refine wpLdB rfl _ rfl rfl HX0.out hl ?_)
      refine HSO.out.mono ?_; rintro e w1 ⟨rfl, hb1⟩
      have HX1 := Lib.hid (HX0.out.below hb1)
      have HZ1 := Lib.hid (HZ0.out.below hb1)
      have HA1 := Lib.hid ((hb1.block _ (heap_lt HA0.out)).trans HA0.out)
      have HB1 := Lib.hid (HB0.out.trans (hb1.mono HB0.out.size))
      have HS1 := Lib.hid (Nat.le_trans (Nat.le_of_eq HSZ.out.symm) hb1.size)
      have HR1 := Lib.hid (HRB.out _ hb1)
      clear hb1
      go_wp2_with (refine wpLdB rfl _ rfl rfl HX1.out hl ?_)
      refine HR1.out.mono ?_; rintro e w2 ⟨rfl, hb2⟩
      have HX2 := Lib.hid (HX1.out.below hb2)
      have HZ2 := Lib.hid (HZ1.out.below hb2)
      have HA2 := Lib.hid ((hb2.block _ (heap_lt HA1.out)).trans HA1.out)
      have HB2 := Lib.hid (HB1.out.trans (hb2.mono HB1.out.size))
      have HS2 := Lib.hid (Nat.le_trans HS1.out hb2.size)
      clear hb2
      have k0 := (cells2 HA2.out).1
      have k1 := (cells2 HA2.out).2
      go_wp2_with fail
      refine (HMB.out _).mono ?_; rintro e w3 ⟨rfl, hb3⟩
      have HX3 := Lib.hid (HX2.out.below hb3)
      have HZ3 := Lib.hid (HZ2.out.below hb3)
      have HA3 := Lib.hid ((hb3.block _ (heap_lt HA2.out)).trans HA2.out)
      have HB3 := Lib.hid (HB2.out.trans (hb3.mono HB2.out.size))
      have HS3 := Lib.hid (Nat.le_trans HS2.out hb3.size)
      clear hb3 k0 k1
      go_wp2_with (refine wpStB (b := zB) (fv := NS) (av := NS) rfl _ _ rfl rfl rfl HZ3.out zB_len zB_len rfl rfl ?_; intro w7 hx7 hg7)
      exact bodyPost_ret (resB2 Tryz.results51 rfl (loadVarB hx7 zB_len)) rfl ⟨rfl, HB3.out.grown hg7 HB3.out.size (fun k hk => by cases hk; omega)⟩
set_option maxRecDepth 100000 in
set_option maxHeartbeats 8000000 in
theorem assignAt_taken (b : BlkS) (fv av : Value) (x : Int) (a : PA) (w : World) (hf : Sees w fv b.free) (ha : SeesA w av b.attrs) (hw : BWf b) (hx : 0 ≤ x) (hx' : x < 4294967296) (h1 : a.1.size ≤ maxLen) (h2 : a.2.size ≤ maxLen) (hr : rightB b = true) (hm : mayP a = true) (hi : inB b.addr x = true) (hq : b.sl.getD (x - b.addr).toNat 0 ≠ 0) :
    Calls Tryz.prog 51 #[.agg (blkL b fv av).toArray, .int .u32 x, atV a] w fun e w' => e = .returned (.tuple #[.agg (blkL zB NS NS).toArray, .int .i64 11]) ∧ Below w.heap.size w w' := by
  have HQ := Lib.hid hq
  obtain ⟨W, hW⟩ : ∃ W, W = ((w.alloc (blkO b fv av)).alloc (atO a)).alloc (blkO zB NS NS) := ⟨_, rfl⟩
  obtain ⟨hb0, hA, hT, hR, hsz⟩ := three_newB w (blkO b fv av) (atO a) (blkO zB NS NS)
  rw [← hW] at hb0 hA hT hR hsz
  have HX0 : Hid (BlkAt W w.heap.size b fv av) := Lib.hid hA
  have HA0 := Lib.hid hT
  have HZ0 : Hid (BlkAt W (w.heap.size + 2) zB NS NS) := Lib.hid hR
  have HB0 := Lib.hid hb0
  have HSZ := Lib.hid hsz
  have HW := Lib.hid hW
  have HSO := Lib.hid (slotOf_any b fv av hw.1 x hx hx' W)
  have HRB := Lib.hid (fun W1 (hb : Below W.heap.size W W1) => rightBlk_any (blkL b fv av).toArray b W1 ⟨fv, av, rfl, (hf.keep hb0).keep hb, (ha.below hb0).below hb, hw⟩)
  have HMB := Lib.hid (fun w => mayBe_any a h1 h2 w)
  have hl := hw.2.1
  obtain ⟨h64, _, hal, hsl⟩ := right_bd hw hr
  obtain ⟨hfo, _, hfl⟩ := right_free hr
  obtain ⟨y, hy, hyx⟩ : ∃ y : Nat, y < 64 ∧ x - b.addr = (y : Int) := by
    have hi' : x - x % 64 = b.addr := by unfold inB at hi; simpa using hi
    refine ⟨(x - b.addr).toNat, by omega, by omega⟩
  rw [hi, if_pos rfl, hyx] at HSO
  rw [hyx, Int.toNat_natCast] at HQ
  have y0 : (0 : Int) ≤ (y : Int) := by omega
  have y1 : (y : Int) < 64 := by omega
  have hw8 : IntKind.u8.wrap (y : Int) = y := by rw [IntKind.wrap_u8]; omega
  rw [hr] at HRB
  rw [hm] at HMB
  have HY := Lib.hid (get64 hl hy)
  have hz : (b.sl.getD y 0 == 0) = false := by have := HQ.out; simpa using this
  have hz' : decide (b.sl.getD y 0 = 0) = false := by have := HQ.out; simpa using this
  generalize b.sl.getD y 0 = q at *
  clear hW hb0 hA hT hR hsz hf ha hw hr hm hi hfo hfl hal h64 hyx hq hsl hy
  go_enter Tryz.func51, Tryz.ntmps51
  go_upto_region 1 with fail
  change Code.wp _ _ _ _ (((w.alloc (blkO b fv av)).alloc (atO a)).alloc (blkO zB NS NS))
  rw [← HW.out]
  clear HW
  go_wp2_with (refine wpLdB rfl _ rfl rfl HX0.out hl ?_)
  refine HSO.out.mono ?_; rintro e w1 ⟨rfl, hb1⟩
  have HX1 := Lib.hid (HX0.out.below hb1)
  have HZ1 := Lib.hid (HZ0.out.below hb1)
  have HA1 := Lib.hid ((hb1.block _ (heap_lt HA0.out)).trans HA0.out)
  have HB1 := Lib.hid (HB0.out.trans (hb1.mono HB0.out.size))
  have HS1 := Lib.hid (Nat.le_trans (Nat.le_of_eq HSZ.out.symm) hb1.size)
  have HR1 := Lib.hid (HRB.out _ hb1)
  clear hb1
  go_wp2_with (refine wpLdB rfl _ rfl rfl HX1.out hl ?_)
  refine HR1.out.mono ?_; rintro e w2 ⟨rfl, hb2⟩
  have HX2 := Lib.hid (HX1.out.below hb2)
  have HZ2 := Lib.hid (HZ1.out.below hb2)
  have HA2 := Lib.hid ((hb2.block _ (heap_lt HA1.out)).trans HA1.out)
  have HB2 := Lib.hid (HB1.out.trans (hb2.mono HB1.out.size))
  have HS2 := Lib.hid (Nat.le_trans HS1.out hb2.size)
  clear hb2
  have k0 := (cells2 HA2.out).1
  have k1 := (cells2 HA2.out).2
  go_wp2_with fail
  refine (HMB.out _).mono ?_; rintro e w3 ⟨rfl, hb3⟩
  have HX3 := Lib.hid (HX2.out.below hb3)
  have HZ3 := Lib.hid (HZ2.out.below hb3)
  have HA3 := Lib.hid ((hb3.block _ (heap_lt HA2.out)).trans HA2.out)
  have HB3 := Lib.hid (HB2.out.trans (hb3.mono HB2.out.size))
  have HS3 := Lib.hid (Nat.le_trans HS2.out hb3.size)
  clear hb3 k0 k1
  have c1 := HX3.out.slot HY.out
  rw [Nat.add_comm] at c1
  go_upto_region 5 with fail
  clear c1
  go_wp2_with (refine wpStB (b := zB) (fv := NS) (av := NS) rfl _ _ rfl rfl rfl HZ3.out zB_len zB_len rfl rfl ?_; intro w7 hx7 hg7)
  exact bodyPost_ret (resB2 Tryz.results51 rfl (loadVarB hx7 zB_len)) rfl ⟨rfl, HB3.out.grown hg7 HB3.out.size (fun k hk => by cases hk; omega)⟩
set_option maxRecDepth 100000 in
set_option maxHeartbeats 8000000 in
theorem assignAt_any (b : BlkS) (fv av : Value) (x : Int) (a : PA) (w : World) (hf : Sees w fv b.free) (ha : SeesA w av b.attrs) (hw : BWf b) (hx : 0 ≤ x) (hx' : x < 4294967296) (h1 : a.1.size ≤ maxLen) (h2 : a.2.size ≤ maxLen) (hr : rightB b = true) (hm : mayP a = true) (hi : inB b.addr x = true) (hq : b.sl.getD (x - b.addr).toNat 0 = 0) :
    Calls Tryz.prog 51 #[.agg (blkL b fv av).toArray, .int .u32 x, atV a] w fun e w' => ∃ fv' av', e = .returned (.tuple #[.agg (blkL (givS b [x - b.addr] a) fv' av').toArray, .int .i64 0]) ∧ BlkRet w w' (givS b [x - b.addr] a) fv' av' := by
  have HQ := Lib.hid hq
  obtain ⟨W, hW⟩ : ∃ W, W = ((w.alloc (blkO b fv av)).alloc (atO a)).alloc (blkO zB NS NS) := ⟨_, rfl⟩
  obtain ⟨hb0, hA, hT, hR, hsz⟩ := three_newB w (blkO b fv av) (atO a) (blkO zB NS NS)
  rw [← hW] at hb0 hA hT hR hsz
  have HX0 : Hid (BlkAt W w.heap.size b fv av) := Lib.hid hA
  have HA0 := Lib.hid hT
  have HZ0 : Hid (BlkAt W (w.heap.size + 2) zB NS NS) := Lib.hid hR
  have HB0 := Lib.hid hb0
  have HSZ := Lib.hid hsz
  have HW := Lib.hid hW
  have HSO := Lib.hid (slotOf_any b fv av hw.1 x hx hx' W)
  have HRB := Lib.hid (fun W1 (hb : Below W.heap.size W W1) => rightBlk_any (blkL b fv av).toArray b W1 ⟨fv, av, rfl, (hf.keep hb0).keep hb, (ha.below hb0).below hb, hw⟩)
  have HMB := Lib.hid (fun w => mayBe_any a h1 h2 w)
  have hl := hw.2.1
  obtain ⟨h64, _, hal, hsl⟩ := right_bd hw hr
  obtain ⟨hfo, _, hfl⟩ := right_free hr
  obtain ⟨y, hy, hyx⟩ : ∃ y : Nat, y < 64 ∧ x - b.addr = (y : Int) := by
    have hi' : x - x % 64 = b.addr := by unfold inB at hi; simpa using hi
    refine ⟨(x - b.addr).toNat, by omega, by omega⟩
  rw [hi, if_pos rfl, hyx] at HSO
  rw [hyx, Int.toNat_natCast] at HQ
  have y0 : (0 : Int) ≤ (y : Int) := by omega
  have y1 : (y : Int) < 64 := by omega
  have hw8 : IntKind.u8.wrap (y : Int) = y := by rw [IntKind.wrap_u8]; omega
  rw [hr] at HRB
  rw [hm] at HMB
  have HY := Lib.hid (get64 hl hy)
  rw [HQ.out] at HY
  rw [hyx]
  have HGV : Hid (∀ W lv, Below w.heap.size w W → Sees W lv [(y : Int)] → _) := Lib.hid (fun W lv hb hs => given_any b fv av lv [(y : Int)] a W (hf.keep hb) (ha.below hb) hl hal (by omega) hs (fun x hx => by simp only [List.mem_cons, List.not_mem_nil, or_false] at hx; subst hx; exact ⟨y0, y1⟩) hfo (by simp))
  have hlG : (givS b [(y : Int)] a).sl.length = 64 := (givSl_len' _ _ _).trans hl
  clear hW hb0 hA hT hR hsz hf ha hw hr hm hi hfo hfl hal h64 hyx hq hsl hy
  go_enter Tryz.func51, Tryz.ntmps51
  go_upto_region 1 with fail
  change Code.wp _ _ _ _ (((w.alloc (blkO b fv av)).alloc (atO a)).alloc (blkO zB NS NS))
  rw [← HW.out]
  clear HW
  go_wp2_with (refine wpLdB rfl _ rfl rfl HX0.out hl ?_)
  refine HSO.out.mono ?_; rintro e w1 ⟨rfl, hb1⟩
  have HX1 := Lib.hid (HX0.out.below hb1)
  have HZ1 := Lib.hid (HZ0.out.below hb1)
  have HA1 := Lib.hid ((hb1.block _ (heap_lt HA0.out)).trans HA0.out)
  have HB1 := Lib.hid (HB0.out.trans (hb1.mono HB0.out.size))
  have HS1 := Lib.hid (Nat.le_trans (Nat.le_of_eq HSZ.out.symm) hb1.size)
  have HR1 := Lib.hid (HRB.out _ hb1)
  clear hb1
  go_wp2_with (refine wpLdB rfl _ rfl rfl HX1.out hl ?_)
  refine HR1.out.mono ?_; rintro e w2 ⟨rfl, hb2⟩
  have HX2 := Lib.hid (HX1.out.below hb2)
  have HZ2 := Lib.hid (HZ1.out.below hb2)
  have HA2 := Lib.hid ((hb2.block _ (heap_lt HA1.out)).trans HA1.out)
  have HB2 := Lib.hid (HB1.out.trans (hb2.mono HB1.out.size))
  have HS2 := Lib.hid (Nat.le_trans HS1.out hb2.size)
  clear hb2
  have k0 := (cells2 HA2.out).1
  have k1 := (cells2 HA2.out).2
  go_wp2_with fail
  refine (HMB.out _).mono ?_; rintro e w3 ⟨rfl, hb3⟩
  have HX3 := Lib.hid (HX2.out.below hb3)
  have HZ3 := Lib.hid (HZ2.out.below hb3)
  have HA3 := Lib.hid ((hb3.block _ (heap_lt HA2.out)).trans HA2.out)
  have HB3 := Lib.hid (HB2.out.trans (hb3.mono HB2.out.size))
  have HS3 := Lib.hid (Nat.le_trans HS2.out hb3.size)
  clear hb3 k0 k1
  have c1 := HX3.out.slot HY.out
  rw [Nat.add_comm] at c1
  go_upto_region 6 with fail
  clear c1
  have HA4 := Lib.hid (((belNew w3 (.cells #[.int .u8 (y : Int)] 5)).block _ (heap_lt HA3.out)).trans HA3.out)
  have k0 := (cells2 HA4.out).1
  have k1 := (cells2 HA4.out).2
  have HX4 := Lib.hid (HX3.out.below (belNew w3 (.cells #[.int .u8 (y : Int)] 5)))
  have HZ4 := Lib.hid (HZ3.out.below (belNew w3 (.cells #[.int .u8 (y : Int)] 5)))
  have HB4 := Lib.hid (belAlloc HB3.out (.cells #[.int .u8 (y : Int)] 5))
  have HS4 : Hid (w.heap.size + 3 ≤ (w3.alloc (.cells #[.int .u8 (y : Int)] 5)).heap.size) := Lib.hid (Nat.le_trans HS3.out (belNew w3 _).size)
  have HG4 := Lib.hid (HGV.out _ (.slice (some ⟨w3.heap.size, 0, none⟩) 1 1) HB4.out ⟨some ⟨w3.heap.size, 0, none⟩, 1, rfl, Nat.le_refl _, (fun h => by cases h), fun a ha i hi => by
    cases ha
    obtain rfl : i = 0 := by simp at hi; omega
    rw [add0]
    exact cell_of_one (heap_alloc_new w3 _)⟩)
  go_wp2_with (first
    | (refine wpLdB rfl _ rfl rfl HX3.out hl ?_)
    | (refine wpLdB rfl _ rfl rfl HX4.out hl ?_))
  refine HG4.out.mono ?_; rintro e w5 ⟨fv', av', rfl, HR⟩
  obtain ⟨gf, ga, gb⟩ := HR
  have HF5 := Lib.hid gf
  have HGA5 := Lib.hid ga
  have HB5 := Lib.hid gb
  have HZ5 := Lib.hid (HZ4.out.below gb)
  obtain ⟨f5, n5, c5, rfl⟩ := own_form gf
  obtain ⟨a5, m5, d5, rfl⟩ := own_form ga
  clear gf ga gb
  go_wp2_with (refine wpStB rfl _ _ rfl rfl rfl HZ5.out zB_len hlG rfl rfl ?_; intro w7 hx7 hg7)
  refine bodyPost_ret (resB2 Tryz.results51 rfl (loadVarB hx7 hlG)) rfl ⟨_, _, rfl, ?_, ?_, ?_⟩
  · exact own_le (own_grown HF5.out hg7 (by have := HS4.out; omega)) (by have := HS4.out; omega)
  · exact own_le (own_grown HGA5.out hg7 (by have := HS4.out; omega)) (by have := HS4.out; omega)
  · have h5 := HB4.out.trans (HB5.out.mono HB4.out.size)
    exact h5.grown hg7 h5.size (fun k hk => by cases hk; omega)
end
end Go.Proofs.YtgodmnpcedfdcaaGreat
