/- Joined: ImNum ImPut ImMath. -/
import Derived.Test.YtlbgjmnihenmaaaGreatDoorJR
import Derived.Test.YtlbgjmnihenmaaaGreatDoorJPk
import Derived.Lib.SlBytesConst
import Derived.Lib.AppendZeros
import Derived.Test.YtlbgjmnihenmaaaGreatDoorJQ
namespace Go.Proofs.YtlbgjmnihenmaaaGreatDoor
section
open Go.RowKit
theorem imOne_sees (w : World) (c : Int) : Sees (w.alloc (.cells #[.int .u8 c] 5 (1, 2))) (.slice (some ⟨w.heap.size, 0, none⟩) 1 1) [c] := by
  refine ⟨some ⟨w.heap.size, 0, none⟩, 1, rfl, Nat.le_refl _, (fun h => by cases h), fun a ha i hi => ?_⟩
  cases ha
  have hi0 : i = 0 := by simpa using hi
  subst hi0
  have := heap_new w (.cells #[.int .u8 c] 5 (1, 2))
  rw [add0]
  simp only [World.cell?, this]
  rfl
theorem imPutL_ne {n k : Int} (h0 : 1 ≤ k) (h1 : k ≤ 8) : (putL n k).length = k.toNat := by
  unfold putL
  rw [if_pos (by unfold wOk; simp; omega), numBytes_length]
theorem imCells_at {w : World} {g : Nat} {xs : List Int} (h : ∀ i, i < xs.length → w.cell? ⟨g, i, none⟩ = some (.int .u8 (xs.getD i 0))) : ∀ j u, (cells8 xs)[j]? = some u → w.cell? ((⟨g, 0, none⟩ : Addr).add j) = some u := by
  intro j u hj
  have hjl : j < xs.length := by
    have := (List.getElem?_eq_some_iff.1 hj).1
    simpa using this
  rw [getD_cells hjl] at hj
  rw [← hj, add0]
  exact h j hjl
theorem imCells_one (xs : List Int) : ∀ u ∈ cells8 xs, u.oneCell' = true := fun u hu => by obtain ⟨z, _, rfl⟩ := List.mem_map.1 hu; rfl
theorem textL_len (s : ByteArray) : (textL s).length = s.size + 1 := by unfold textL; rw [List.length_cons, strI_length]
end
section
open Go.RowKit
/-- An attribute's bytes. -/
def attrL (p : PA) : List Int := textL p.1 ++ textL p.2
def imH (b : BlkS) : List Int := (([66] ++ putL b.addr 4) ++ textL b.aff) ++ [(b.attrs.length : Int)]
/-- A block's bytes. -/
def imB (b : BlkS) : List Int := (((imH b ++ b.attrs.flatMap attrL) ++ b.sl) ++ [(b.free.length : Int)]) ++ b.free
/-- Bytes of the call's own that are not nil. -/
def ImS (W wr : World) (u : Value) (xs : List Int) : Prop := (∃ g c, u = .slice (some ⟨g, 0, none⟩) xs.length c) ∧ Owns wr W.heap.size u xs ∧ Below W.heap.size W wr
theorem okName_size {s : ByteArray} (h : okName s.data.toList = true) : 1 ≤ s.size ∧ s.size ≤ 64 := by
  unfold okName at h
  rw [Bool.and_eq_true, decide_eq_true_eq] at h
  have := h.1
  rw [Array.length_toList] at this
  exact this
theorem ownB_size {s : ByteArray} (h : ownB s = true) : s.size ≤ 64 := by
  unfold ownB at h
  rw [Bool.or_eq_true, decide_eq_true_eq] at h
  rcases h with h | h
  · omega
  · exact (okName_size h).2
theorem attrL_bd {p : PA} (h : mayP p = true) : (1 ≤ p.1.size ∧ p.1.size ≤ 64) ∧ 1 ≤ p.2.size ∧ p.2.size ≤ 64 := by
  unfold mayP at h
  rw [Bool.and_eq_true] at h
  exact ⟨okName_size h.1, okName_size h.2⟩
theorem attrL_len (p : PA) : (attrL p).length = p.1.size + p.2.size + 2 := by unfold attrL; rw [List.length_append, textL_len, textL_len]; omega
theorem attrs_len : ∀ {L : List PA}, (∀ p ∈ L, mayP p = true) → L.length * 4 ≤ (L.flatMap attrL).length ∧ (L.flatMap attrL).length ≤ L.length * 130
  | [], _ => by simp
  | p :: L, h => by
    have ih := attrs_len (L := L) (fun q hq => h q (by simp [hq]))
    have := attrL_bd (h p (by simp))
    rw [List.flatMap_cons, List.length_append, attrL_len, List.length_cons]
    omega
theorem right_may {b : BlkS} (hl : b.sl.length = 64) (h : rightB b = true) : ∀ p ∈ b.attrs, mayP p = true := fun p hp => by
  obtain ⟨i, hi, e⟩ := List.getElem_of_mem hp
  have := (((right_iff b hl).1 h).2.2.2.1 i hi).1
  rw [List.getD_eq_getElem?_getD, List.getElem?_eq_getElem hi, e] at this
  exact this
theorem imPutL_one (x : Int) (h0 : 0 ≤ x) (h1 : x ≤ 255) : putL x 1 = [x] := by
  have e : putL x 1 = numBytes x 1 := by unfold putL wOk; rw [if_pos (by decide)]; rfl
  rw [e]
  simp only [numBytes, Int.pow_zero, Int.ediv_one]
  rw [Int.emod_eq_of_lt (by omega) (by omega)]
theorem imH_len {b : BlkS} (_ : ownB b.aff = true) : (imH b).length = b.aff.size + 7 := by
  unfold imH
  rw [List.length_append, List.length_append, List.length_append, textL_len, imPutL_ne (by decide) (by decide)]
  have : (4 : Int).toNat = 4 := rfl
  simp
  omega
theorem flat_snoc {L : List PA} {i : Nat} {p : PA} (hp : L[i]? = some p) : (L.take (i + 1)).flatMap attrL = ((L.take i).flatMap attrL ++ textL p.1) ++ textL p.2 := by
  rw [List.take_add_one, hp, List.flatMap_append]
  simp [attrL]
theorem ImS.at {W wr : World} {u : Value} {xs : List Int} (h : ImS W wr u xs) : ∃ g c, u = .slice (some ⟨g, 0, none⟩) xs.length c ∧ Owns wr W.heap.size (.slice (some ⟨g, 0, none⟩) xs.length c) xs ∧ Below W.heap.size W wr := by
  obtain ⟨⟨g, c, rfl⟩, h2, h3⟩ := h
  exact ⟨g, c, rfl, h2, h3⟩
end
section
open Go.RowKit
end
end Go.Proofs.YtlbgjmnihenmaaaGreatDoor
