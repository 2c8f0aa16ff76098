/- Joined: ImNum ImPut ImMath. -/
import Derived.Test.YtgodmnpcedfdcaaJR
import Derived.Test.YtgodmnpcedfdcaaPkP
import Derived.Lib.SlBytesConst
import Derived.Lib.AppendZeros
import Derived.Test.YtgodmnpcedfdcaaJQ
namespace Go.Proofs.Ytgodmnpcedfdcaa
section
open Go.RowKit
end
section
open Go.RowKit
/-- An attribute's bytes. -/
def attrL (p : PA) : List Int := textL p.1 ++ textL p.2
/-- Bytes of the call's own that are not nil. -/
def ImS (W wr : World) (u : Value) (xs : List Int) : Prop := (∃ g c, u = .slice (some ⟨g, 0, none⟩) xs.length c) ∧ Owns wr W.heap.size u xs ∧ Below W.heap.size W wr
theorem okName_size {s : ByteArray} (h : okName s.data.toList = true) : 1 ≤ s.size ∧ s.size ≤ 64 := by
  unfold okName at h
  rw [Bool.and_eq_true, decide_eq_true_eq] at h
  have := h.1
  rw [Array.length_toList] at this
  exact this
theorem attrL_bd {p : PA} (h : mayP p = true) : (1 ≤ p.1.size ∧ p.1.size ≤ 64) ∧ 1 ≤ p.2.size ∧ p.2.size ≤ 64 := by
  unfold mayP at h
  rw [Bool.and_eq_true] at h
  exact ⟨okName_size h.1, okName_size h.2⟩
theorem right_may {b : BlkS} (hl : b.sl.length = 64) (h : rightB b = true) : ∀ p ∈ b.attrs, mayP p = true := fun p hp => by
  obtain ⟨i, hi, e⟩ := List.getElem_of_mem hp
  have := (((right_iff b hl).1 h).2.2.2.1 i hi).1
  rw [List.getD_eq_getElem?_getD, List.getElem?_eq_getElem hi, e] at this
  exact this
theorem ImS.at {W wr : World} {u : Value} {xs : List Int} (h : ImS W wr u xs) : ∃ g c, u = .slice (some ⟨g, 0, none⟩) xs.length c ∧ Owns wr W.heap.size (.slice (some ⟨g, 0, none⟩) xs.length c) xs ∧ Below W.heap.size W wr := by
  obtain ⟨⟨g, c, rfl⟩, h2, h3⟩ := h
  exact ⟨g, c, rfl, h2, h3⟩
end
section
open Go.RowKit
theorem nodup_choose {sl : List Int} {n : Nat} (h : ∀ i, i < n → ∃ k, k < 64 ∧ sl.getD k 0 = (i : Int) + 1) : ∃ L : List Nat, L.length = n ∧ L.Nodup ∧ ∀ k ∈ L, k < 64 ∧ 1 ≤ sl.getD k 0 ∧ sl.getD k 0 ≤ n := by
  induction n with
  | zero => exact ⟨[], rfl, List.nodup_nil, fun k hk => by cases hk⟩
  | succ n ih =>
    obtain ⟨L, hl, hn, hk⟩ := ih (fun i hi => h i (by omega))
    obtain ⟨k, h1, h2⟩ := h n (by omega)
    refine ⟨k :: L, by simp [hl], List.nodup_cons.2 ⟨fun hm => ?_, hn⟩, fun j hj => ?_⟩
    · have := (hk k hm).2.2
      omega
    · rcases List.mem_cons.1 hj with rfl | hj
      · exact ⟨h1, by omega, by omega⟩
      · obtain ⟨a, b, c⟩ := hk j hj
        exact ⟨a, b, by omega⟩
theorem free_attrs {b : BlkS} (hl : b.sl.length = 64) (hok : okB b.sl) (h : rightB b = true) : b.free.length + b.attrs.length ≤ 64 ∧ (b.attrs = [] → b.free.length = 64) := by
  obtain ⟨-, -, -, h4, h5, h6⟩ := (right_iff b hl).1 h
  obtain ⟨-, hnd, hf64⟩ := right_free h
  have hzero : ∀ x ∈ b.free.map Int.toNat, b.sl.getD x 0 = 0 := fun x hx => by
    obtain ⟨y, hy, rfl⟩ := List.mem_map.1 hx
    have h7 := h6 y hy
    have h8 := (h5 y.toNat (by omega)).2
    rw [show ((y.toNat : Nat) : Int) = y by omega] at h8
    have h9 := cnt_pos.2 hy
    apply Classical.byContradiction
    intro hn
    rw [if_neg hn] at h8
    exact h9 h8
  have hnd2 := nodup_toNat hnd (fun x hx => (h6 x hx).1)
  constructor
  · obtain ⟨L, e1, e2, e3⟩ := nodup_choose (sl := b.sl) (n := b.attrs.length) (fun i hi => by
      obtain ⟨k, hk, e⟩ := mem_getD.1 (cnt_pos.1 (h4 i hi).2.1)
      exact ⟨k, by omega, e⟩)
    have := nodup_sub_len (l := b.free.map Int.toNat ++ L) (m := List.range 64) (List.nodup_append.2 ⟨hnd2, e2, fun x hx y hy e => by
      subst e
      have := hzero x hx
      have := (e3 x hy).2.1
      omega⟩) (fun x hx => by
        rw [List.mem_range]
        rcases List.mem_append.1 hx with hx | hx
        · obtain ⟨y, hy, rfl⟩ := List.mem_map.1 hx
          have := h6 y hy
          omega
        · exact (e3 x hx).1)
    rw [List.length_append, List.length_map, e1, List.length_range] at this
    exact this
  · intro e
    have := nodup_sub_len (l := List.range 64) (m := b.free.map Int.toNat) List.nodup_range (fun i hi => by
      have hi := List.mem_range.1 hi
      obtain ⟨h7, h8⟩ := h5 i hi
      rw [e] at h7
      have := (okB_get hok i).1
      simp only [List.length_nil] at h7
      rw [if_pos (by omega)] at h8
      exact List.mem_map.2 ⟨(i : Int), cnt_pos.1 (by omega), by simp⟩)
    rw [List.length_range, List.length_map] at this
    omega
end
end Go.Proofs.Ytgodmnpcedfdcaa
