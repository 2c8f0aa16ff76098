/- The walk of KvLists. Made by g_kvlists.py. -/
import Derived.Test.YtholgmcfgnifdaaKvInv
namespace Go.Proofs.Ytholgmcfgnifdaa
open Go.RowKit Go.Maps
theorem beginB (s k : ByteArray) : Lib.hasPrefix (kl k) (kl s) = (decide (s.size ≤ k.size) && ((k.extract 0 s.size).toList == s.toList)) := by
  unfold Lib.hasPrefix
  rw [ByteArray.toList_eq, ByteArray.toList_eq, ByteArray.data_extract, Array.toList_extract]
  have h1 := kl_len s
  have h2 := kl_len k
  unfold kl at h1 h2 ⊢
  simp only [List.extract_eq_take_drop, List.drop_zero, Nat.sub_zero]
  rw [← h1, ← h2]
  generalize s.data.toList = a
  generalize k.data.toList = b
  rw [Bool.eq_iff_iff]
  simp only [List.isPrefixOf_iff_prefix, Bool.and_eq_true, decide_eq_true_eq, beq_iff_eq]
  constructor
  · intro h
    exact ⟨h.length_le, (List.prefix_iff_eq_take.1 h).symm⟩
  · rintro ⟨_, h⟩
    exact List.prefix_iff_eq_take.2 h.symm
abbrev op2 : KOp := ⟨2, emp, emp, 0, emp, 0⟩
end Go.Proofs.Ytholgmcfgnifdaa
