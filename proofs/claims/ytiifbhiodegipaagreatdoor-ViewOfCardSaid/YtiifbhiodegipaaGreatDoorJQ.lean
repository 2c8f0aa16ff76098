/- Joined: BkQa BrK BkQ BkR. -/
import Derived.ChangeKeysEq
import Derived.Test.YtiifbhiodegipaaGreatDoorJPk
import Derived.Lib.SlBytesConst
import Derived.Lib.AppendZeros
import Derived.Test.YtiifbhiodegipaaGreatDoorBkG
namespace Go.Proofs.YtiifbhiodegipaaGreatDoor
section
open Go.RowKit
abbrev cellsU (xs : List Int) : List Value := xs.map (Value.int .u32)
/-- A value that reads as these addresses. -/
def SeesU (w : World) (v : Value) (xs : List Int) : Prop :=
  ∃ (ao : Option Addr) (c : Nat), v = .slice ao xs.length c ∧ xs.length ≤ c ∧ (ao = none → xs = []) ∧ ∀ a, ao = some a → ∀ i, i < xs.length → w.cell? (a.add i) = some (.int .u32 (xs.getD i 0))
/-- A value of the call's own that holds these addresses. -/
abbrev OwnsU (w : World) (B : Nat) (v : Value) (xs : List Int) : Prop := w.ownsRow B 41 1 v xs.length (cellsU xs)
theorem SeesU.keep {w w' : World} {v : Value} {xs : List Int} (h : SeesU w v xs) (hb : Below w.heap.size w w') : SeesU w' v xs := by
  obtain ⟨ao, c, e, hl, hn, hc⟩ := h
  exact ⟨ao, c, e, hl, hn, fun a ha i hi => by rw [hb.cell (cell_lt8 (hc a ha i hi))]; exact hc a ha i hi⟩
theorem SeesU.nil (w : World) : SeesU w (.slice none 0 0) [] := ⟨none, 0, rfl, Nat.le_refl _, fun _ => rfl, fun _ h => by cases h⟩
theorem getD_cellsU {xs : List Int} {i : Nat} (h : i < xs.length) : (cellsU xs)[i]? = some (.int .u32 (xs.getD i 0)) := by
  simp [List.getD, List.getElem?_eq_getElem h]
theorem OwnsU.sees {w : World} {B : Nat} {v : Value} {xs : List Int} (h : OwnsU w B v xs) : SeesU w v xs := by
  have hc := fun g hg => World.ownsRow.cells h (g := g) hg
  obtain ⟨_, ⟨rfl, hn⟩ | ⟨g, cap, cur, rfl, _, _, hnc, _, _, _⟩⟩ := h
  · obtain rfl := List.eq_nil_of_length_eq_zero hn
    exact SeesU.nil w
  · exact ⟨some ⟨g, 0, none⟩, cap, rfl, hnc, (fun e => by cases e), fun a ha i hi => (by cases ha; exact hc g rfl i _ (getD_cellsU hi))⟩
theorem OwnsU.nil (w : World) (B : Nat) : OwnsU w B (.slice none 0 0) [] := World.ownsRow_nil _ _ _ _
/-! A right block's free slots. -/
theorem mem_mem {x i : Nat} : i ∈ mem x ↔ i < 64 ∧ x.testBit i = true := by simp [mem]
theorem mem_nodup (x : Nat) : (mem x).Nodup := List.Pairwise.filter _ List.nodup_range
theorem nodup_sub_len : ∀ {l m : List Nat}, l.Nodup → (∀ i ∈ l, i ∈ m) → l.length ≤ m.length
  | [], _, _, _ => Nat.zero_le _
  | a :: l, m, hn, hs => by
    have ha := hs a (by simp)
    have h1 := List.nodup_cons.1 hn
    have h2 : l.length ≤ (m.erase a).length := nodup_sub_len h1.2 (fun i hi => by
      have hne : i ≠ a := fun e => h1.1 (e ▸ hi)
      exact (List.mem_erase_of_ne hne).2 (hs i (by simp [hi])))
    rw [List.length_erase_of_mem ha] at h2
    have : 0 < m.length := List.length_pos_of_mem ha
    rw [List.length_cons]
    omega
/-- A list that has as many slots as it is long has slots alone, once each. -/
theorem rowN_all (l : List Int) (h : (mem (rowN l l.length)).length = l.length) : (∀ x ∈ l, 0 ≤ x ∧ x < 64) ∧ l.Nodup := by
  have hsub : ∀ k ∈ mem (rowN l l.length), k ∈ (l.filter (fun x => decide (0 ≤ x ∧ x < 64))).map Int.toNat := fun k hk => by
    obtain ⟨h64, hb⟩ := mem_mem.1 hk
    obtain ⟨_, i, hi, he⟩ := (rowN_bit l k _).1 hb
    rw [List.mem_map]
    refine ⟨(k : Int), List.mem_filter.2 ⟨?_, by simp; omega⟩, by simp⟩
    rw [← he, List.getD_eq_getElem?_getD, List.getElem?_eq_getElem hi]
    exact List.getElem_mem hi
  have h1 := nodup_sub_len (mem_nodup _) hsub
  rw [h, List.length_map] at h1
  have h2 : (l.filter (fun x => decide (0 ≤ x ∧ x < 64))) = l := by
    have h3 : (l.filter (fun x => decide (0 ≤ x ∧ x < 64))).length = l.length := Nat.le_antisymm (List.length_filter_le _ _) h1
    exact List.filter_eq_self.2 (fun a ha => List.length_filter_eq_length_iff.1 h3 a ha)
  have hin : ∀ x ∈ l, 0 ≤ x ∧ x < 64 := fun x hx => by
    rw [← h2] at hx
    exact of_decide_eq_true (List.mem_filter.1 hx).2
  refine ⟨hin, ?_⟩
  rw [h2] at hsub
  -- were one twice there, the erased list would do
  suffices hs : ∀ (l : List Int) (m : List Nat), m.Nodup → m.length = l.length → (∀ k ∈ m, k ∈ l.map Int.toNat) → l.Nodup from hs l _ (mem_nodup _) h hsub
  intro l
  induction l with
  | nil => intros; exact List.nodup_nil
  | cons a l ih =>
    intro m hm hl hs
    refine List.nodup_cons.2 ⟨fun ha => ?_, ?_⟩
    · have := nodup_sub_len hm (m := l.map Int.toNat) (fun k hk => by
        rcases List.mem_cons.1 (hs k hk) with e | e
        · rw [e]; exact List.mem_map_of_mem ha
        · exact e)
      rw [hl] at this
      simp at this
      omega
    · have hmem : a.toNat ∈ m := by
        apply Classical.byContradiction
        intro hno
        have := nodup_sub_len hm (m := l.map Int.toNat) (fun k hk => by
          rcases List.mem_cons.1 (hs k hk) with e | e
          · exact absurd (e ▸ hk) hno
          · exact e)
        rw [hl] at this
        simp at this
        omega
      refine ih (m.erase a.toNat) (hm.erase _) (by rw [List.length_erase_of_mem hmem, hl]; simp) (fun k hk => ?_)
      have hk2 : k ≠ a.toNat ∧ k ∈ m := (List.Nodup.mem_erase_iff hm).1 hk
      rcases List.mem_cons.1 (hs k hk2.2) with e | e
      · exact absurd e hk2.1
      · exact e
theorem right_free {b : BlkS} (h : rightB b = true) : (∀ x ∈ b.free, 0 ≤ x ∧ x < 64) ∧ b.free.Nodup ∧ b.free.length ≤ 64 := by
  have hf : rightF b = true := by
    unfold rightB at h
    simp only [Bool.and_eq_true] at h
    exact h.2.2.2.2
  unfold rightF at hf
  rw [Bool.and_eq_true, beq_iff_eq] at hf
  have hl : (mem (rowN b.free b.free.length)).length = b.free.length := by exact_mod_cast hf.1
  obtain ⟨h1, h2⟩ := rowN_all b.free hl
  refine ⟨h1, h2, ?_⟩
  rw [← hl]
  have := List.length_filter_le (fun i => (rowN b.free b.free.length).testBit i) (List.range 64)
  simpa [mem] using this
end
section
open Go.RowKit Go.Maps
theorem cntN_cons (a : Int) (l : List Int) (k : Int) : cntN (a :: l) k = cntN l k + if a = k then 1 else 0 := by
  unfold cntN
  by_cases h : a = k
  · rw [if_pos h, List.filter_cons_of_pos (by simp [h]), List.length_cons]
  · rw [if_neg h, List.filter_cons_of_neg (by simp [h])]
    rfl
theorem cnt_pos {k : Int} : ∀ {l : List Int}, cntN l k ≠ 0 ↔ k ∈ l
  | [] => by simp [cntN]
  | a :: l => by
    have ih := cnt_pos (k := k) (l := l)
    rw [cntN_cons, List.mem_cons]
    by_cases h : a = k
    · rw [if_pos h]
      exact ⟨fun _ => Or.inl h.symm, fun _ => by omega⟩
    · rw [if_neg h, Nat.add_zero, ih]
      exact ⟨Or.inr, fun h2 => h2.resolve_left (fun e => h e.symm)⟩
theorem nodup_cnt : ∀ {l : List Int}, l.Nodup → ∀ k, cntN l k ≤ 1
  | [], _, k => by simp [cntN]
  | a :: l, h, k => by
    have h1 := List.nodup_cons.1 h
    rw [cntN_cons]
    by_cases e : a = k
    · subst e
      have : cntN l a = 0 := Classical.byContradiction fun hn => h1.1 (cnt_pos.1 hn)
      rw [if_pos rfl]; omega
    · rw [if_neg e]
      exact nodup_cnt h1.2 k
theorem cnt_nodup : ∀ {l : List Int}, (∀ k ∈ l, cntN l k ≤ 1) → l.Nodup
  | [], _ => List.nodup_nil
  | a :: l, h => by
    refine List.nodup_cons.2 ⟨fun ha => ?_, cnt_nodup (fun k hk => ?_)⟩
    · have h1 := h a (by simp)
      rw [cntN_cons, if_pos rfl] at h1
      have := cnt_pos.2 ha
      omega
    · have h1 := h k (by simp [hk])
      rw [cntN_cons] at h1
      omega
theorem mem_getD {l : List Int} {k : Int} : k ∈ l ↔ ∃ i, i < l.length ∧ l.getD i 0 = k := by
  constructor
  · intro h
    obtain ⟨i, hi, e⟩ := List.getElem_of_mem h
    exact ⟨i, hi, by rw [getD_get hi]; exact e⟩
  · rintro ⟨i, hi, rfl⟩
    rw [getD_get hi]
    exact List.getElem_mem hi
theorem attrsOk_iff (L : List PA) : ∀ n, attrsOk L n = true ↔ ∀ i, i < n → mayP (L.getD i default) = true ∧ L.getD i default ∉ L.take i
  | 0 => by simp [attrsOk]
  | n + 1 => by
    have ih := attrsOk_iff L n
    unfold attrsOk
    rw [Bool.and_eq_true, Bool.and_eq_true, ih]
    constructor
    · rintro ⟨h1, h2, h3⟩ i hi
      by_cases e : i = n
      · subst e
        exact ⟨h2, by simpa using h3⟩
      · exact h1 i (by omega)
    · intro h
      exact ⟨fun i hi => h i (by omega), (h n (by omega)).1, by have := (h n (by omega)).2; simpa using this⟩
theorem slotsLe_all (sl : List Int) (m : Nat) : ∀ n, slotsLe sl m n = true ↔ ∀ i, i < n → sl.getD i 0 ≤ (m : Int)
  | 0 => by simp [slotsLe]
  | n + 1 => by
    have ih := slotsLe_all sl m n
    unfold slotsLe
    rw [Bool.and_eq_true, ih, decide_eq_true_eq]
    constructor
    · rintro ⟨h1, h2⟩ i hi
      by_cases e : i = n
      · subst e; exact h2
      · exact h1 i (by omega)
    · intro h
      exact ⟨fun i hi => h i (by omega), h n (by omega)⟩
theorem allM_len {n : Nat} (h : n ≤ 64) : allM (n : Int) = n := by unfold allM; omega
theorem rightS_iff (b : BlkS) (hl : b.sl.length = 64) (h64 : b.attrs.length ≤ 64) : rightS b = true ↔ (∀ i, i < 64 → b.sl.getD i 0 ≤ (b.attrs.length : Int)) ∧ ∀ j, j < b.attrs.length → ((j : Int) + 1) ∈ b.sl := by
  unfold rightS
  rw [Bool.and_eq_true, slotsLe_all, allM_len h64, beq_iff_eq]
  constructor
  · rintro ⟨h1, h2⟩
    have h2 : usedN b.sl 64 = 2 ^ b.attrs.length - 1 := by exact_mod_cast h2
    refine ⟨h1, fun j hj => ?_⟩
    have : (usedN b.sl 64).testBit j = true := by rw [h2, Nat.testBit_two_pow_sub_one, decide_eq_true hj]
    obtain ⟨_, i, hi, e⟩ := (usedN_bit _ _ _).1 this
    exact mem_getD.2 ⟨i, by omega, e⟩
  · rintro ⟨h1, h2⟩
    refine ⟨h1, ?_⟩
    have : usedN b.sl 64 = 2 ^ b.attrs.length - 1 := by
      apply Nat.eq_of_testBit_eq
      intro j
      rw [Nat.testBit_two_pow_sub_one, Bool.eq_iff_iff, usedN_bit, decide_eq_true_eq]
      constructor
      · rintro ⟨_, i, hi, e⟩
        have := h1 i hi
        omega
      · intro hj
        obtain ⟨i, hi, e⟩ := mem_getD.1 (h2 j hj)
        exact ⟨by omega, i, by omega, e⟩
    rw [this]
theorem freeN_bit (sl : List Int) (j : Nat) : (18446744073709551615 &&& (18446744073709551615 - takeN sl 64)).testBit j = (decide (j < 64) && decide (sl.getD j 0 = 0)) := by
  have h1 : takeN sl 64 < 2 ^ 64 := takeN_lt sl 64
  have h2 : 18446744073709551615 - takeN sl 64 = 2 ^ 64 - (takeN sl 64 + 1) := by omega
  rw [show (18446744073709551615 : Nat) = 2 ^ 64 - 1 from rfl] at h2 ⊢
  rw [h2, Nat.testBit_and, Nat.testBit_two_pow_sub_one, Nat.testBit_two_pow_sub_succ h1, takeN_bit _ _ _ (Nat.le_refl _)]
  by_cases hj : j < 64 <;> by_cases hs : sl.getD j 0 = 0 <;> simp [hj]
theorem nodup_toNat : ∀ {l : List Int}, l.Nodup → (∀ x ∈ l, 0 ≤ x) → (l.map Int.toNat).Nodup
  | [], _, _ => List.nodup_nil
  | a :: l, h, hp => by
    have h1 := List.nodup_cons.1 h
    refine List.nodup_cons.2 ⟨fun ha => ?_, nodup_toNat h1.2 (fun x hx => hp x (by simp [hx]))⟩
    obtain ⟨x, hx, e⟩ := List.mem_map.1 ha
    have := hp x (by simp [hx])
    have := hp a (by simp)
    obtain rfl : x = a := by omega
    exact h1.1 hx
theorem rightF_iff (b : BlkS) : rightF b = true ↔ (∀ i : Nat, i < 64 → cntN b.free i = if b.sl.getD i 0 = 0 then 1 else 0) ∧ ∀ f ∈ b.free, 0 ≤ f ∧ f < 64 := by
  unfold rightF
  rw [Bool.and_eq_true, beq_iff_eq, beq_iff_eq]
  constructor
  · rintro ⟨h1, h2⟩
    have h1 : (mem (rowN b.free b.free.length)).length = b.free.length := by exact_mod_cast h1
    have h2 : rowN b.free b.free.length = 18446744073709551615 &&& (18446744073709551615 - takeN b.sl 64) := by exact_mod_cast h2
    obtain ⟨hin, hnd⟩ := rowN_all _ h1
    refine ⟨fun i hi => ?_, hin⟩
    have hb := rowN_bit b.free i b.free.length
    rw [h2, freeN_bit, Bool.and_eq_true, decide_eq_true_eq, decide_eq_true_eq] at hb
    have h0 := nodup_cnt hnd i
    by_cases hs : b.sl.getD i 0 = 0
    · rw [if_pos hs]
      have := cnt_pos.2 (mem_getD.2 (hb.1 ⟨hi, hs⟩).2)
      omega
    · rw [if_neg hs]
      apply Classical.byContradiction
      intro hn
      exact hs (hb.2 ⟨hi, mem_getD.1 (cnt_pos.1 hn)⟩).2
  · rintro ⟨h1, hin⟩
    have hnd : b.free.Nodup := cnt_nodup (fun k hk => by
      have := hin k hk
      have h2 := h1 k.toNat (by omega)
      rw [show ((k.toNat : Nat) : Int) = k by omega] at h2
      rw [h2]
      split <;> omega)
    have hm : ∀ i : Nat, i < 64 → ((i : Int) ∈ b.free ↔ b.sl.getD i 0 = 0) := fun i hi => by
      rw [← cnt_pos, h1 i hi]
      by_cases hs : b.sl.getD i 0 = 0 <;> simp 
    constructor
    · have ha : (mem (rowN b.free b.free.length)).length ≤ (b.free.map Int.toNat).length := nodup_sub_len (mem_nodup _) (fun i hi => by
        obtain ⟨h64, hb⟩ := mem_mem.1 hi
        have := mem_getD.2 ((rowN_bit _ _ _).1 hb).2
        exact List.mem_map.2 ⟨_, this, by simp⟩)
      have hb : (b.free.map Int.toNat).length ≤ (mem (rowN b.free b.free.length)).length := nodup_sub_len (nodup_toNat hnd (fun x hx => (hin x hx).1)) (fun i hi => by
        obtain ⟨x, hx, rfl⟩ := List.mem_map.1 hi
        have h2 := hin x hx
        refine mem_mem.2 ⟨by omega, (rowN_bit _ _ _).2 ⟨by omega, ?_⟩⟩
        rw [show ((x.toNat : Nat) : Int) = x by omega]
        exact mem_getD.1 hx)
      rw [List.length_map] at ha hb
      exact_mod_cast Nat.le_antisymm ha hb
    · have : rowN b.free b.free.length = 18446744073709551615 &&& (18446744073709551615 - takeN b.sl 64) := by
        apply Nat.eq_of_testBit_eq
        intro j
        rw [freeN_bit, Bool.eq_iff_iff, rowN_bit, Bool.and_eq_true, decide_eq_true_eq, decide_eq_true_eq]
        constructor
        · rintro ⟨hj, he⟩
          exact ⟨hj, (hm j hj).1 (mem_getD.2 he)⟩
        · rintro ⟨hj, he⟩
          exact ⟨hj, mem_getD.1 ((hm j hj).2 he)⟩
      rw [this]
/-- Right, in the document's words. -/
def RightD (b : BlkS) : Prop := b.addr % 64 = 0 ∧ ownB b.aff = true ∧ b.attrs.length ≤ 64 ∧ (∀ i, i < b.attrs.length → mayP (b.attrs.getD i default) = true ∧ cntN b.sl ((i : Int) + 1) ≠ 0 ∧ b.attrs.getD i default ∉ b.attrs.take i) ∧ (∀ i : Nat, i < 64 → b.sl.getD i 0 ≤ (b.attrs.length : Int) ∧ cntN b.free i = if b.sl.getD i 0 = 0 then 1 else 0) ∧ ∀ f ∈ b.free, 0 ≤ f ∧ f < 64
theorem right_iff (b : BlkS) (hl : b.sl.length = 64) : rightB b = true ↔ RightD b := by
  unfold rightB rightA RightD
  rw [Bool.and_eq_true, Bool.and_eq_true, Bool.and_eq_true, Bool.and_eq_true, Bool.and_eq_true, decide_eq_true_eq, decide_eq_true_eq, attrsOk_iff, rightF_iff]
  constructor
  · rintro ⟨h1, h2, ⟨h3, h4⟩, h5, h6, h7⟩
    obtain ⟨h8, h9⟩ := (rightS_iff b hl h3).1 h5
    exact ⟨h1, h2, h3, fun i hi => ⟨(h4 i hi).1, cnt_pos.2 (h9 i hi), (h4 i hi).2⟩, fun i hi => ⟨h8 i hi, h6 i hi⟩, h7⟩
  · rintro ⟨h1, h2, h3, h4, h5, h6⟩
    exact ⟨h1, h2, ⟨h3, fun i hi => ⟨(h4 i hi).1, (h4 i hi).2.2⟩⟩, (rightS_iff b hl h3).2 ⟨fun i hi => (h5 i hi).1, fun j hj => cnt_pos.1 (h4 j hj).2.1⟩, fun i hi => (h5 i hi).2, h6⟩
end
section
open Go.RowKit
end
section
open Go.RowKit
end
end Go.Proofs.YtiifbhiodegipaaGreatDoor
namespace Go.Proofs.YtiifbhiodegipaaGreatDoor
section
open Go.RowKit
theorem imOne_sees (w : World) (c : Int) : Sees (w.alloc (.cells #[.int .u8 c] 5 (1, 2))) (.slice (some ⟨w.heap.size, 0, none⟩) 1 1) [c] := by
  refine ⟨some ⟨w.heap.size, 0, none⟩, 1, rfl, Nat.le_refl _, (fun h => by cases h), fun a ha i hi => ?_⟩
  cases ha
  have hi0 : i = 0 := by simpa using hi
  subst hi0
  have := heap_new w (.cells #[.int .u8 c] 5 (1, 2))
  rw [add0]
  simp only [World.cell?, this]
  rfl
theorem imPutL_ne {n k : Int} (h0 : 1 ≤ k) (h1 : k ≤ 8) : (putL n k).length = k.toNat := by
  unfold putL
  rw [if_pos (by unfold wOk; simp; omega), numBytes_length]
theorem imCells_at {w : World} {g : Nat} {xs : List Int} (h : ∀ i, i < xs.length → w.cell? ⟨g, i, none⟩ = some (.int .u8 (xs.getD i 0))) : ∀ j u, (cells8 xs)[j]? = some u → w.cell? ((⟨g, 0, none⟩ : Addr).add j) = some u := by
  intro j u hj
  have hjl : j < xs.length := by
    have := (List.getElem?_eq_some_iff.1 hj).1
    simpa using this
  rw [getD_cells hjl] at hj
  rw [← hj, add0]
  exact h j hjl
theorem imCells_one (xs : List Int) : ∀ u ∈ cells8 xs, u.oneCell' = true := fun u hu => by obtain ⟨z, _, rfl⟩ := List.mem_map.1 hu; rfl
theorem textL_len (s : ByteArray) : (textL s).length = s.size + 1 := by unfold textL; rw [List.length_cons, strI_length]
end
section
open Go.RowKit
/-- An attribute's bytes. -/
def attrL (p : PA) : List Int := textL p.1 ++ textL p.2
def imH (b : BlkS) : List Int := (([66] ++ putL b.addr 4) ++ textL b.aff) ++ [(b.attrs.length : Int)]
/-- A block's bytes. -/
def imB (b : BlkS) : List Int := (((imH b ++ b.attrs.flatMap attrL) ++ b.sl) ++ [(b.free.length : Int)]) ++ b.free
/-- Bytes of the call's own that are not nil. -/
def ImS (W wr : World) (u : Value) (xs : List Int) : Prop := (∃ g c, u = .slice (some ⟨g, 0, none⟩) xs.length c) ∧ Owns wr W.heap.size u xs ∧ Below W.heap.size W wr
theorem okName_size {s : ByteArray} (h : okName s.data.toList = true) : 1 ≤ s.size ∧ s.size ≤ 64 := by
  unfold okName at h
  rw [Bool.and_eq_true, decide_eq_true_eq] at h
  have := h.1
  rw [Array.length_toList] at this
  exact this
theorem ownB_size {s : ByteArray} (h : ownB s = true) : s.size ≤ 64 := by
  unfold ownB at h
  rw [Bool.or_eq_true, decide_eq_true_eq] at h
  rcases h with h | h
  · omega
  · exact (okName_size h).2
theorem attrL_bd {p : PA} (h : mayP p = true) : (1 ≤ p.1.size ∧ p.1.size ≤ 64) ∧ 1 ≤ p.2.size ∧ p.2.size ≤ 64 := by
  unfold mayP at h
  rw [Bool.and_eq_true] at h
  exact ⟨okName_size h.1, okName_size h.2⟩
theorem attrL_len (p : PA) : (attrL p).length = p.1.size + p.2.size + 2 := by unfold attrL; rw [List.length_append, textL_len, textL_len]; omega
theorem attrs_len : ∀ {L : List PA}, (∀ p ∈ L, mayP p = true) → L.length * 4 ≤ (L.flatMap attrL).length ∧ (L.flatMap attrL).length ≤ L.length * 130
  | [], _ => by simp
  | p :: L, h => by
    have ih := attrs_len (L := L) (fun q hq => h q (by simp [hq]))
    have := attrL_bd (h p (by simp))
    rw [List.flatMap_cons, List.length_append, attrL_len, List.length_cons]
    omega
theorem right_may {b : BlkS} (hl : b.sl.length = 64) (h : rightB b = true) : ∀ p ∈ b.attrs, mayP p = true := fun p hp => by
  obtain ⟨i, hi, e⟩ := List.getElem_of_mem hp
  have := (((right_iff b hl).1 h).2.2.2.1 i hi).1
  rw [List.getD_eq_getElem?_getD, List.getElem?_eq_getElem hi, e] at this
  exact this
theorem imPutL_one (x : Int) (h0 : 0 ≤ x) (h1 : x ≤ 255) : putL x 1 = [x] := by
  have e : putL x 1 = numBytes x 1 := by unfold putL wOk; rw [if_pos (by decide)]; rfl
  rw [e]
  simp only [numBytes, Int.pow_zero, Int.ediv_one]
  rw [Int.emod_eq_of_lt (by omega) (by omega)]
theorem imH_len {b : BlkS} (_ : ownB b.aff = true) : (imH b).length = b.aff.size + 7 := by
  unfold imH
  rw [List.length_append, List.length_append, List.length_append, textL_len, imPutL_ne (by decide) (by decide)]
  have : (4 : Int).toNat = 4 := rfl
  simp
  omega
theorem flat_snoc {L : List PA} {i : Nat} {p : PA} (hp : L[i]? = some p) : (L.take (i + 1)).flatMap attrL = ((L.take i).flatMap attrL ++ textL p.1) ++ textL p.2 := by
  rw [List.take_add_one, hp, List.flatMap_append]
  simp [attrL]
theorem ImS.at {W wr : World} {u : Value} {xs : List Int} (h : ImS W wr u xs) : ∃ g c, u = .slice (some ⟨g, 0, none⟩) xs.length c ∧ Owns wr W.heap.size (.slice (some ⟨g, 0, none⟩) xs.length c) xs ∧ Below W.heap.size W wr := by
  obtain ⟨⟨g, c, rfl⟩, h2, h3⟩ := h
  exact ⟨g, c, rfl, h2, h3⟩
end
section
open Go.RowKit
end
end Go.Proofs.YtiifbhiodegipaaGreatDoor
namespace Go.Proofs.YtiifbhiodegipaaGreatDoor
section
open Go.RowKit
theorem infoI : (Tryz.prog.info? 3).map (fun i => (i.zero, i.size, i.bytes)) = some (some (.int .i64 0), 1, 8) := by kernel_rfl
abbrev cellsI (xs : List Int) : List Value := xs.map (Value.int .i64)
/-- A value that reads as these numbers. -/
def SeesI (w : World) (v : Value) (xs : List Int) : Prop :=
  ∃ (ao : Option Addr) (c : Nat), v = .slice ao xs.length c ∧ xs.length ≤ c ∧ (ao = none → xs = []) ∧ ∀ a, ao = some a → ∀ i, i < xs.length → w.cell? (a.add i) = some (.int .i64 (xs.getD i 0))
/-- A value of the call's own that holds these numbers. -/
abbrev OwnsI (w : World) (B : Nat) (v : Value) (xs : List Int) : Prop := w.ownsRow B 3 1 v xs.length (cellsI xs)
theorem cell_ltI {w : World} {a : Addr} {v : Value} (h : w.cell? a = some v) : a.block < w.heap.size := by
  rcases Nat.lt_or_ge a.block w.heap.size with hlt | hge
  · exact hlt
  · simp [World.cell?, Array.getElem?_eq_none hge] at h
theorem heap_ltI {w : World} {g : Nat} {o : Obj} (h : w.heap[g]? = some o) : g < w.heap.size := (Array.getElem?_eq_some_iff.1 h).1
theorem SeesI.keep {w w' : World} {v : Value} {xs : List Int} (h : SeesI w v xs) (hb : Below w.heap.size w w') : SeesI w' v xs := by
  obtain ⟨ao, c, e, hl, hn, hc⟩ := h
  exact ⟨ao, c, e, hl, hn, fun a ha i hi => by rw [hb.cell (cell_ltI (hc a ha i hi))]; exact hc a ha i hi⟩
theorem SeesI.nil (w : World) : SeesI w (.slice none 0 0) [] := ⟨none, 0, rfl, Nat.le_refl _, fun _ => rfl, fun _ h => by cases h⟩
theorem getD_cellsI {xs : List Int} {i : Nat} (h : i < xs.length) : (cellsI xs)[i]? = some (.int .i64 (xs.getD i 0)) := by
  simp [List.getD, List.getElem?_eq_getElem h]
theorem OwnsI.sees {w : World} {B : Nat} {v : Value} {xs : List Int} (h : OwnsI w B v xs) : SeesI w v xs := by
  have hc := fun g hg => World.ownsRow.cells h (g := g) hg
  obtain ⟨_, ⟨rfl, hn⟩ | ⟨g, cap, cur, rfl, _, _, hnc, _, _, _⟩⟩ := h
  · obtain rfl := List.eq_nil_of_length_eq_zero hn
    exact SeesI.nil w
  · exact ⟨some ⟨g, 0, none⟩, cap, rfl, hnc, (fun e => by cases e), fun a ha i hi => (by cases ha; exact hc g rfl i _ (getD_cellsI hi))⟩
theorem OwnsI.nil (w : World) (B : Nat) : OwnsI w B (.slice none 0 0) [] := World.ownsRow_nil _ _ _ _
theorem OwnsI.keep {w w' : World} {B : Nat} {v : Value} {xs : List Int} (h : OwnsI w B v xs) (hb : Below w.heap.size w w') : OwnsI w' B v xs :=
  ⟨h.1, h.2.imp id fun ⟨g, cap, cur, e, hB, hg, r⟩ => ⟨g, cap, cur, e, hB, (hb.block g (heap_ltI hg)).trans hg, r⟩⟩
end
section
open Go.RowKit
abbrev TArr : TypeId := 273
abbrev arrO (T : List Int) : Obj := .cells (T.map (Value.int .u8)).toArray TArr
/-- An array of bytes alone in block g. -/
def ArrAt (w : World) (g : Nat) (T : List Int) : Prop := w.heap[g]? = some (arrO T)
theorem ArrAt.cell {w : World} {g : Nat} {T : List Int} (h : ArrAt w g T) {i : Nat} {x : Int} (hx : T[i]? = some x) : w.cell? ⟨g, i, none⟩ = some (.int .u8 x) := by
  have h' : w.heap[g]? = some (.cells (T.map (Value.int .u8)).toArray TArr (0, 0)) := h
  simp [World.cell?, h', hx]
theorem ArrAt.froz {w : World} {g : Nat} {T : List Int} (h : ArrAt w g T) (i : Nat) : w.frozen? ⟨g, i, none⟩ = false := by
  have h' : w.heap[g]? = some (.cells (T.map (Value.int .u8)).toArray TArr (0, 0)) := h
  simp [World.frozen?, h']
theorem ArrAt.set {w : World} {g : Nat} {T : List Int} (h : ArrAt w g T) (i : Nat) (x : Int) : ArrAt (w.setCell ⟨g, i, none⟩ (.int .u8 x)) g (T.set i x) := by
  have h' : w.heap[g]? = some (.cells (T.map (Value.int .u8)).toArray TArr (0, 0)) := h
  show (w.setCell _ _).heap[g]? = _
  simp [World.setCell, Array.getElem?_modify, h', List.map_set]
theorem ArrAt.keepB {w w' : World} {g n : Nat} {T : List Int} (h : ArrAt w g T) (hb : Below n w w') (hg : g < n) : ArrAt w' g T := (hb.block g hg).trans h
theorem ArrAt.setO {w : World} {g : Nat} {T : List Int} (h : ArrAt w g T) {a : Addr} (ha : g ≠ a.block) (u : Value) : ArrAt (w.setCell a u) g T := by
  show (w.setCell a u).heap[g]? = _
  rw [Below.heap_setCell _ _ _ _ ha]
  exact h
def Z65 : List Int := List.replicate 65 0
/-- Of the first n attributes, those that are some slot's. -/
def kptA (U : Nat) (L : List PA) : Nat → List PA
  | 0 => []
  | n + 1 => if U.testBit n = true then kptA U L n ++ [atA L n] else kptA U L n
/-- Their new numbers. -/
def trnA (U : Nat) (L : List PA) : Nat → List Int
  | 0 => Z65
  | n + 1 => if U.testBit n = true then (trnA U L n).set (n + 1) ((kptA U L n).length + 1 : Nat) else trnA U L n
/-- The block without attributes that are no slot's. -/
def tidS (b : BlkS) : BlkS := { b with sl := b.sl.map (fun k => (trnA (usedN b.sl 64) b.attrs b.attrs.length).getD k.toNat 0), attrs := kptA (usedN b.sl 64) b.attrs b.attrs.length }
end
end Go.Proofs.YtiifbhiodegipaaGreatDoor
namespace Go.Proofs.YtiifbhiodegipaaGreatDoor
section
open Go.RowKit
/-- A block of the document's, as a value. -/
abbrev docV (a : Int) (s : ByteArray) (v1 v2 v3 : Value) : Value := .agg #[.int .u32 a, .string s, v1, v2, v3]
end
section
open Go.RowKit
end
section
open Go.RowKit
abbrev TD : TypeId := 49
abbrev docO (a : Int) (s : ByteArray) (v1 v2 v3 : Value) : Obj := .cells #[.int .u32 a, .string s, v1, v2, v3] TD
/-- A block of the document's alone in block g. -/
def DocAt (w : World) (g : Nat) (a : Int) (s : ByteArray) (v1 v2 v3 : Value) : Prop := w.heap[g]? = some (docO a s v1 v2 v3)
section
variable {w w' : World} {g : Nat} {a : Int} {s : ByteArray} {v1 v2 v3 : Value}
theorem DocAt.cells (h : DocAt w g a s v1 v2 v3) : w.cell? ⟨g, 0, none⟩ = some (.int .u32 a) ∧ w.cell? ⟨g, 1, none⟩ = some (.string s) ∧ w.cell? ⟨g, 2, none⟩ = some v1 ∧ w.cell? ⟨g, 3, none⟩ = some v2 ∧ w.cell? ⟨g, 4, none⟩ = some v3 := by
  have h' : w.heap[g]? = some (.cells #[.int .u32 a, .string s, v1, v2, v3] TD (0, 0)) := h
  simp [World.cell?, h']
theorem DocAt.froz (h : DocAt w g a s v1 v2 v3) (i : Nat) : w.frozen? ⟨g, i, none⟩ = false := by
  have h' : w.heap[g]? = some (.cells #[.int .u32 a, .string s, v1, v2, v3] TD (0, 0)) := h
  simp [World.frozen?, h']
theorem DocAt.set2 (h : DocAt w g a s v1 v2 v3) (v : Value) : DocAt (w.setCell ⟨g, 2, none⟩ v) g a s v v2 v3 := by
  have h' : w.heap[g]? = some (.cells #[.int .u32 a, .string s, v1, v2, v3] TD (0, 0)) := h
  show (w.setCell _ _).heap[g]? = _
  simp [World.setCell, Array.getElem?_modify, h']
theorem DocAt.set3 (h : DocAt w g a s v1 v2 v3) (v : Value) : DocAt (w.setCell ⟨g, 3, none⟩ v) g a s v1 v v3 := by
  have h' : w.heap[g]? = some (.cells #[.int .u32 a, .string s, v1, v2, v3] TD (0, 0)) := h
  show (w.setCell _ _).heap[g]? = _
  simp [World.setCell, Array.getElem?_modify, h']
theorem DocAt.set4 (h : DocAt w g a s v1 v2 v3) (v : Value) : DocAt (w.setCell ⟨g, 4, none⟩ v) g a s v1 v2 v := by
  have h' : w.heap[g]? = some (.cells #[.int .u32 a, .string s, v1, v2, v3] TD (0, 0)) := h
  show (w.setCell _ _).heap[g]? = _
  simp [World.setCell, Array.getElem?_modify, h']
theorem DocAt.keepB {n : Nat} (h : DocAt w g a s v1 v2 v3) (hb : Below n w w') (hg : g < n) : DocAt w' g a s v1 v2 v3 := (hb.block g hg).trans h
theorem DocAt.below (h : DocAt w g a s v1 v2 v3) (hb : Below w.heap.size w w') : DocAt w' g a s v1 v2 v3 := (hb.block g (heap_lt h)).trans h
theorem DocAt.setO (h : DocAt w g a s v1 v2 v3) {p : Addr} (hp : g ≠ p.block) (u : Value) : DocAt (w.setCell p u) g a s v1 v2 v3 := by
  show (w.setCell p u).heap[g]? = _
  rw [Below.heap_setCell _ _ _ _ hp]
  exact h
end
/-- A row of attributes of the document's. -/
abbrev ERt : TypeId := 73
/-- The document's block in its parts, each of them the call's own. -/
structure DocRet (w w' : World) (b : BlkS) (v1 v2 v3 : Value) : Prop where
  slots : OwnsI w' w.heap.size v1 b.sl
  free : OwnsI w' w.heap.size v2 b.free
  attrs : RowA ERt w' w.heap.size v3 b.attrs
  below : Below w.heap.size w w'
end
end Go.Proofs.YtiifbhiodegipaaGreatDoor
