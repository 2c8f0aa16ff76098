/- How many bytes a right block has. -/
import Derived.Test.YtgodmnpcedfdcaaImPut
namespace Go.Proofs.Ytgodmnpcedfdcaa
open Go.RowKit
theorem nodup_choose {sl : List Int} {n : Nat} (h : ∀ i, i < n → ∃ k, k < 64 ∧ sl.getD k 0 = (i : Int) + 1) : ∃ L : List Nat, L.length = n ∧ L.Nodup ∧ ∀ k ∈ L, k < 64 ∧ 1 ≤ sl.getD k 0 ∧ sl.getD k 0 ≤ n := by
  induction n with
  | zero => exact ⟨[], rfl, List.nodup_nil, fun k hk => by cases hk⟩
  | succ n ih =>
    obtain ⟨L, hl, hn, hk⟩ := ih (fun i hi => h i (by omega))
    obtain ⟨k, h1, h2⟩ := h n (by omega)
    refine ⟨k :: L, by simp [hl], List.nodup_cons.2 ⟨fun hm => ?_, hn⟩, fun j hj => ?_⟩
    · have := (hk k hm).2.2
      omega
    · rcases List.mem_cons.1 hj with rfl | hj
      · exact ⟨h1, by omega, by omega⟩
      · obtain ⟨a, b, c⟩ := hk j hj
        exact ⟨a, b, by omega⟩
theorem free_attrs {b : BlkS} (hl : b.sl.length = 64) (hok : okB b.sl) (h : rightB b = true) : b.free.length + b.attrs.length ≤ 64 ∧ (b.attrs = [] → b.free.length = 64) := by
  obtain ⟨-, -, -, h4, h5, h6⟩ := (right_iff b hl).1 h
  obtain ⟨-, hnd, hf64⟩ := right_free h
  have hzero : ∀ x ∈ b.free.map Int.toNat, b.sl.getD x 0 = 0 := fun x hx => by
    obtain ⟨y, hy, rfl⟩ := List.mem_map.1 hx
    have h7 := h6 y hy
    have h8 := (h5 y.toNat (by omega)).2
    rw [show ((y.toNat : Nat) : Int) = y by omega] at h8
    have h9 := cnt_pos.2 hy
    apply Classical.byContradiction
    intro hn
    rw [if_neg hn] at h8
    exact h9 h8
  have hnd2 := nodup_toNat hnd (fun x hx => (h6 x hx).1)
  constructor
  · obtain ⟨L, e1, e2, e3⟩ := nodup_choose (sl := b.sl) (n := b.attrs.length) (fun i hi => by
      obtain ⟨k, hk, e⟩ := mem_getD.1 (cnt_pos.1 (h4 i hi).2.1)
      exact ⟨k, by omega, e⟩)
    have := nodup_sub_len (l := b.free.map Int.toNat ++ L) (m := List.range 64) (List.nodup_append.2 ⟨hnd2, e2, fun x hx y hy e => by
      subst e
      have := hzero x hx
      have := (e3 x hy).2.1
      omega⟩) (fun x hx => by
        rw [List.mem_range]
        rcases List.mem_append.1 hx with hx | hx
        · obtain ⟨y, hy, rfl⟩ := List.mem_map.1 hx
          have := h6 y hy
          omega
        · exact (e3 x hx).1)
    rw [List.length_append, List.length_map, e1, List.length_range] at this
    exact this
  · intro e
    have := nodup_sub_len (l := List.range 64) (m := b.free.map Int.toNat) List.nodup_range (fun i hi => by
      have hi := List.mem_range.1 hi
      obtain ⟨h7, h8⟩ := h5 i hi
      rw [e] at h7
      have := (okB_get hok i).1
      simp only [List.length_nil] at h7
      rw [if_pos (by omega)] at h8
      exact List.mem_map.2 ⟨(i : Int), cnt_pos.1 (by omega), by simp⟩)
    rw [List.length_range, List.length_map] at this
    omega
theorem imB_len {b : BlkS} (hl : b.sl.length = 64) (hok : okB b.sl) (h : rightB b = true) : 76 ≤ (imB b).length ∧ (imB b).length ≤ 8456 := by
  have hown := ((right_iff b hl).1 h).2.1
  obtain ⟨h1, h2⟩ := free_attrs hl hok h
  obtain ⟨h3, h4⟩ := attrs_len (right_may hl h)
  have h5 := imH_len hown
  have h6 := ownB_size hown
  unfold imB
  rw [List.length_append, List.length_append, List.length_append, List.length_append, h5, hl]
  simp only [List.length_cons, List.length_nil]
  by_cases he : b.attrs = []
  · have := h2 he
    rw [he] at h3 h4 ⊢
    simp only [List.length_nil] at h3 h4
    omega
  · have := List.length_pos_iff.2 he
    omega
end Go.Proofs.Ytgodmnpcedfdcaa
