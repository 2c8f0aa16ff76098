/- Package image: Size; the chapter's example; the walk of ImageFits. -/
import Derived.Test.YtgodmnpcedfdcaaJIm
import Derived.Test.YtgodmnpcedfdcaaImOurs
namespace Go.Proofs.Ytgodmnpcedfdcaa
open Go.RowKit
theorem newS_wf (a : Int) (s : ByteArray) (ha : 0 ≤ a) (ha' : a < 4294967296) (hs : s.size ≤ maxLen) : BWf (newS a s) := by
  unfold BWf newS
  refine ⟨⟨by simp only []; omega, by simp only []; omega⟩, zB_len, fun x hx => ?_, fun x hx => ?_, hs, ?_, Nat.zero_le _, fun p hp => by cases hp⟩
  · obtain rfl : x = 0 := by simpa using hx
    exact ⟨by decide, by decide⟩
  · exact (by decide +kernel : ∀ x ∈ rangeI 64, 0 ≤ x ∧ x ≤ 255) x hx
  · rw [rangeI_len]; unfold maxLen; omega
theorem newS_right (a : Int) (s : ByteArray) (h : ownB s = true) : rightB (newS a s) = true := by
  refine (right_iff (newS a s) zB_len).2 ⟨?_, h, Nat.zero_le _, fun i hi => absurd hi (Nat.not_lt_zero _), fun i hi => ?_, ?_⟩
  · show (a - a % 64) % 64 = 0
    omega
  · have e : (newS a s).sl.getD i 0 = 0 := by
      show (List.replicate 64 (0 : Int)).getD i 0 = 0
      rw [List.getD_eq_getElem?_getD, List.getElem?_replicate, if_pos hi]
      rfl
    rw [e, if_pos rfl]
    exact ⟨Int.le_refl _, (by decide +kernel : ∀ i, i < 64 → cntN (rangeI 64) (i : Nat) = 1) i hi⟩
  · exact (by decide +kernel : ∀ f ∈ rangeI 64, 0 ≤ f ∧ f < 64)
theorem wpLdBg {ops : Array Oper} {rest : List Oper} {o : Oper} {a : Act} {w : World} {Q : Exit → Act → World → Prop} {g : Nat} {b : BlkS} {fv av : Value} (hw : Region.wanted o (yielded ops a.tmps) = true) (x : Operand) (ho : o.op = .load 32 x) (hx : a.eval x = .pointer (some ⟨g, 0, none⟩)) (h : BlkAt w g b fv av) (hl : b.sl.length = 64)
    (hK : wpList Try.prog ops Q rest (a.put o.dst (.agg (blkL b fv av).toArray)) w) : wpList Try.prog ops Q (o :: rest) a w :=
  wpList_step fun K hK2 => by
    rw [if_pos hw]
    exact wp_load_mid 32 x ho g 0 hx _ _ h.whole Try.underlying32 rfl (by rw [infoB, blkL_len b hl]) (hK2 _ _ hK)
theorem RawAt.whole {w : World} {g : Nat} {b : BlkS} {fv av : Value} (h : RawAt w g b fv av) : w.rangeAt g 0 (blkL b fv av) := fun j v hv => by
  have h' : w.heap[g]? = some (.cells (blkL b fv av).toArray TR (0, 0)) := h
  rw [Nat.zero_add]
  simp [World.cell?, h', hv]
theorem BlkRet.sees {w w' : World} {b : BlkS} {fv av : Value} (h : BlkRet w w' b fv av) : Sees w' fv b.free ∧ SeesA w' av b.attrs := ⟨h.free.sees, RowA.sees h.attrs⟩
end Go.Proofs.Ytgodmnpcedfdcaa
