/- Package block: rows of addresses; what a right block's free slots are; bits.List. -/
import Derived.Test.YtgodmnpcedfdcaaBkO
namespace Go.Proofs.Ytgodmnpcedfdcaa
open Go.RowKit
theorem infoU : (Try.prog.info? 22).map (fun i => (i.zero, i.size, i.bytes)) = some (some (.int .u32 0), 1, 4) := by kernel_rfl
abbrev cellsU (xs : List Int) : List Value := xs.map (Value.int .u32)
/-- A value that reads as these addresses. -/
def SeesU (w : World) (v : Value) (xs : List Int) : Prop :=
  ∃ (ao : Option Addr) (c : Nat), v = .slice ao xs.length c ∧ xs.length ≤ c ∧ (ao = none → xs = []) ∧ ∀ a, ao = some a → ∀ i, i < xs.length → w.cell? (a.add i) = some (.int .u32 (xs.getD i 0))
/-- A value of the call's own that holds these addresses. -/
abbrev OwnsU (w : World) (B : Nat) (v : Value) (xs : List Int) : Prop := w.ownsRow B 22 1 v xs.length (cellsU xs)
theorem SeesU.keep {w w' : World} {v : Value} {xs : List Int} (h : SeesU w v xs) (hb : Below w.heap.size w w') : SeesU w' v xs := by
  obtain ⟨ao, c, e, hl, hn, hc⟩ := h
  exact ⟨ao, c, e, hl, hn, fun a ha i hi => by rw [hb.cell (cell_lt8 (hc a ha i hi))]; exact hc a ha i hi⟩
theorem SeesU.nil (w : World) : SeesU w (.slice none 0 0) [] := ⟨none, 0, rfl, Nat.le_refl _, fun _ => rfl, fun _ h => by cases h⟩
theorem getD_cellsU {xs : List Int} {i : Nat} (h : i < xs.length) : (cellsU xs)[i]? = some (.int .u32 (xs.getD i 0)) := by
  simp [List.getD, List.getElem?_eq_getElem h]
theorem OwnsU.sees {w : World} {B : Nat} {v : Value} {xs : List Int} (h : OwnsU w B v xs) : SeesU w v xs := by
  have hc := fun g hg => World.ownsRow.cells h (g := g) hg
  obtain ⟨_, ⟨rfl, hn⟩ | ⟨g, cap, cur, rfl, _, _, hnc, _, _, _⟩⟩ := h
  · obtain rfl := List.eq_nil_of_length_eq_zero hn
    exact SeesU.nil w
  · exact ⟨some ⟨g, 0, none⟩, cap, rfl, hnc, (fun e => by cases e), fun a ha i hi => (by cases ha; exact hc g rfl i _ (getD_cellsU hi))⟩
theorem OwnsU.nil (w : World) (B : Nat) : OwnsU w B (.slice none 0 0) [] := World.ownsRow_nil _ _ _ _
/-- The first of a row's bytes. -/
theorem sees_take {w : World} {ao : Option Addr} {n c : Nat} {xs : List Int} (h : Sees w (.slice ao n c) xs) {k : Nat} (hk : k ≤ xs.length) : Sees w (.slice ao k c) (xs.take k) := by
  obtain ⟨ao', c', e, hl, hn, hc⟩ := h
  obtain ⟨rfl, rfl, rfl⟩ : ao = ao' ∧ n = xs.length ∧ c = c' := by cases e; exact ⟨rfl, rfl, rfl⟩
  have hlt : (xs.take k).length = k := by rw [List.length_take]; omega
  refine ⟨ao, c, by rw [hlt], by omega, fun h0 => by rw [hn h0]; simp, fun a ha i hi => ?_⟩
  rw [hlt] at hi
  have := hc a ha i (by omega)
  rw [this]
  simp [List.getD_eq_getElem?_getD, List.getElem?_take, hi]
/-! A right block's free slots. -/
theorem mem_mem {x i : Nat} : i ∈ mem x ↔ i < 64 ∧ x.testBit i = true := by simp [mem]
theorem mem_nodup (x : Nat) : (mem x).Nodup := List.Pairwise.filter _ List.nodup_range
theorem nodup_sub_len : ∀ {l m : List Nat}, l.Nodup → (∀ i ∈ l, i ∈ m) → l.length ≤ m.length
  | [], _, _, _ => Nat.zero_le _
  | a :: l, m, hn, hs => by
    have ha := hs a (by simp)
    have h1 := List.nodup_cons.1 hn
    have h2 : l.length ≤ (m.erase a).length := nodup_sub_len h1.2 (fun i hi => by
      have hne : i ≠ a := fun e => h1.1 (e ▸ hi)
      exact (List.mem_erase_of_ne hne).2 (hs i (by simp [hi])))
    rw [List.length_erase_of_mem ha] at h2
    have : 0 < m.length := List.length_pos_of_mem ha
    rw [List.length_cons]
    omega
/-- A list that has as many slots as it is long has slots alone, once each. -/
theorem rowN_all (l : List Int) (h : (mem (rowN l l.length)).length = l.length) : (∀ x ∈ l, 0 ≤ x ∧ x < 64) ∧ l.Nodup := by
  have hsub : ∀ k ∈ mem (rowN l l.length), k ∈ (l.filter (fun x => decide (0 ≤ x ∧ x < 64))).map Int.toNat := fun k hk => by
    obtain ⟨h64, hb⟩ := mem_mem.1 hk
    obtain ⟨_, i, hi, he⟩ := (rowN_bit l k _).1 hb
    rw [List.mem_map]
    refine ⟨(k : Int), List.mem_filter.2 ⟨?_, by simp; omega⟩, by simp⟩
    rw [← he, List.getD_eq_getElem?_getD, List.getElem?_eq_getElem hi]
    exact List.getElem_mem hi
  have h1 := nodup_sub_len (mem_nodup _) hsub
  rw [h, List.length_map] at h1
  have h2 : (l.filter (fun x => decide (0 ≤ x ∧ x < 64))) = l := by
    have h3 : (l.filter (fun x => decide (0 ≤ x ∧ x < 64))).length = l.length := Nat.le_antisymm (List.length_filter_le _ _) h1
    exact List.filter_eq_self.2 (fun a ha => List.length_filter_eq_length_iff.1 h3 a ha)
  have hin : ∀ x ∈ l, 0 ≤ x ∧ x < 64 := fun x hx => by
    rw [← h2] at hx
    exact of_decide_eq_true (List.mem_filter.1 hx).2
  refine ⟨hin, ?_⟩
  rw [h2] at hsub
  -- were one twice there, the erased list would do
  suffices hs : ∀ (l : List Int) (m : List Nat), m.Nodup → m.length = l.length → (∀ k ∈ m, k ∈ l.map Int.toNat) → l.Nodup from hs l _ (mem_nodup _) h hsub
  intro l
  induction l with
  | nil => intros; exact List.nodup_nil
  | cons a l ih =>
    intro m hm hl hs
    refine List.nodup_cons.2 ⟨fun ha => ?_, ?_⟩
    · have := nodup_sub_len hm (m := l.map Int.toNat) (fun k hk => by
        rcases List.mem_cons.1 (hs k hk) with e | e
        · rw [e]; exact List.mem_map_of_mem ha
        · exact e)
      rw [hl] at this
      simp at this
      omega
    · have hmem : a.toNat ∈ m := by
        apply Classical.byContradiction
        intro hno
        have := nodup_sub_len hm (m := l.map Int.toNat) (fun k hk => by
          rcases List.mem_cons.1 (hs k hk) with e | e
          · exact absurd (e ▸ hk) hno
          · exact e)
        rw [hl] at this
        simp at this
        omega
      refine ih (m.erase a.toNat) (hm.erase _) (by rw [List.length_erase_of_mem hmem, hl]; simp) (fun k hk => ?_)
      have hk2 : k ≠ a.toNat ∧ k ∈ m := (List.Nodup.mem_erase_iff hm).1 hk
      rcases List.mem_cons.1 (hs k hk2.2) with e | e
      · exact absurd e hk2.1
      · exact e
theorem right_free {b : BlkS} (h : rightB b = true) : (∀ x ∈ b.free, 0 ≤ x ∧ x < 64) ∧ b.free.Nodup ∧ b.free.length ≤ 64 := by
  have hf : rightF b = true := by
    unfold rightB at h
    simp only [Bool.and_eq_true] at h
    exact h.2.2.2.2
  unfold rightF at hf
  rw [Bool.and_eq_true, beq_iff_eq] at hf
  have hl : (mem (rowN b.free b.free.length)).length = b.free.length := by exact_mod_cast hf.1
  obtain ⟨h1, h2⟩ := rowN_all b.free hl
  refine ⟨h1, h2, ?_⟩
  rw [← hl]
  have := List.length_filter_le (fun i => (rowN b.free b.free.length).testBit i) (List.range 64)
  simpa [mem] using this
/-- The addresses of slots. -/
def adrs (b : BlkS) (l : List Int) : List Int := l.map (fun i => b.addr + i)
theorem adrs_len (b : BlkS) (l : List Int) : (adrs b l).length = l.length := List.length_map _
theorem adrs_snoc (b : BlkS) (l : List Int) (i : Nat) (h : i < l.length) : cellsU (adrs b (l.take (i + 1))) = cellsU (adrs b (l.take i)) ++ [.int .u32 (b.addr + l.getD i 0)] := by
  unfold cellsU adrs
  rw [List.take_add_one, List.getD_eq_getElem?_getD, List.getElem?_eq_getElem h, Option.toList_some, List.map_append, List.map_append]
  rfl
theorem adr_any (b : BlkS) (fv av : Value) (i : Int) (w : World) (hb : 0 ≤ b.addr ∧ b.addr < 4294967296) (h64 : b.addr % 64 = 0) (h0 : 0 ≤ i) (h1 : i < 64) :
    Calls Try.prog 49 #[.agg (blkL b fv av).toArray, .int .i64 i] w fun e w' => e = .returned (.int .u32 (b.addr + i)) ∧ Below w.heap.size w w' := by
  refine (addrOf_any b fv av i w).mono ?_
  rintro e w' ⟨rfl, hb'⟩
  refine ⟨?_, hb'⟩
  have e1 : IntKind.u32.wrap i = i := IntWalk.u32_in _ (by omega)
  rw [e1, IntWalk.u32_in _ (by omega)]
end Go.Proofs.Ytgodmnpcedfdcaa
