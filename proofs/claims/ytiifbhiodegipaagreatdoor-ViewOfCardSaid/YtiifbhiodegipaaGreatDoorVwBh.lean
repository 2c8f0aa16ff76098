/- The document's view: what stands behind a beginning. -/
import Derived.Test.YtiifbhiodegipaaGreatDoorNMd
import Derived.Test.YtiifbhiodegipaaGreatDoorBkD
namespace Go.Proofs.YtiifbhiodegipaaGreatDoor
open Go.RowKit
theorem begins (s k : ByteArray) : NM.starts k s = (decide (s.size ≤ k.size) && ((k.extract 0 s.size).toList == s.toList)) := by
  have hk : (k.extract 0 s.size).data.toList = k.data.toList.take s.size := by rw [Lib.extract_data]; simp
  have hl : s.data.toList.length = s.size := Array.length_toList
  have hlk : k.data.toList.length = k.size := Array.length_toList
  have hb : ((k.extract 0 s.size).toList == s.toList) = decide (k.extract 0 s.size = s) := by
    by_cases h : k.extract 0 s.size = s
    · rw [h]; simp
    · have : ¬ (k.extract 0 s.size).toList = s.toList := fun e => h (klB_inj e)
      simp [h, this]
  rw [hb]
  show Lib.hasPrefix k.data.toList s.data.toList = _
  unfold Lib.hasPrefix
  by_cases h : s.data.toList <+: k.data.toList
  · rw [List.isPrefixOf_iff_prefix.2 h]
    obtain ⟨t, ht⟩ := h
    have h1 : s.size ≤ k.size := by rw [← hl, ← hlk, ← ht, List.length_append]; omega
    have h2 : k.extract 0 s.size = s := by
      refine ByteArray.ext (Array.ext' ?_)
      rw [hk, ← ht, ← hl, List.take_left']
      rfl
    rw [decide_eq_true h1, decide_eq_true h2]
    rfl
  · have hn : s.data.toList.isPrefixOf k.data.toList = false := by
      cases hq : s.data.toList.isPrefixOf k.data.toList with
      | false => rfl
      | true => exact absurd (List.isPrefixOf_iff_prefix.1 hq) h
    rw [hn]
    by_cases h1 : s.size ≤ k.size
    · have h2 : ¬ k.extract 0 s.size = s := fun e => h (by
        rw [← e, hk]
        exact List.take_prefix _ _)
      rw [decide_eq_false h2, Bool.and_false]
    · rw [decide_eq_false h1, Bool.false_and]
theorem rest_eq {s k : ByteArray} (h : NM.starts k s = true) : NM.rest k s = k.extract s.size k.size := by
  have h2 : Lib.hasPrefix k.data.toList s.data.toList = true := h
  refine ByteArray.ext (Array.ext' ?_)
  show Lib.trimPrefix k.data.toList s.data.toList = _
  unfold Lib.trimPrefix
  rw [if_pos h2, Lib.extract_data]
  have hl : s.data.toList.length = s.size := Array.length_toList
  have hlk : k.data.toList.length = k.size := Array.length_toList
  rw [hl, List.take_of_length_le (by rw [List.length_drop, hlk]; omega)]
set_option maxRecDepth 100000 in
set_option maxHeartbeats 4000000 in
theorem refBehind_any (s p : ByteArray) (w : World) (hs : s.size ≤ maxLen) (hp : p.size ≤ maxLen) :
    Calls Tryz.prog 46 #[.string s, .string p] w fun e w' => e = .returned (if NM.starts s p = true then .tuple #[.string (NM.rest s p), .bool true] else .tuple #[.string ⟨#[]⟩, .bool false]) ∧ Below w.heap.size w w' := by
  by_cases h1 : p.size ≤ s.size
  · have d1 : decide ((s.size : Int) < (p.size : Int)) = false := by simp; omega
    have b0 : (p.size : Int) ≤ (s.size : Int) := by omega
    have b1 : p.size ≤ s.size := h1
    cases h2 : (s.extract 0 p.size).toList == p.toList with
    | true =>
      have hst : NM.starts s p = true := by rw [begins, h2, decide_eq_true h1]; rfl
      have d2 : ((s.extract 0 p.size).toList != p.toList) = false := by rw [bne, h2]; rfl
      rw [if_pos hst, rest_eq hst]
      clear hst h1
      go_enter Tryz.func46, Tryz.ntmps46
      go_wp2_with fail
      go_ret2
      exact ⟨rfl, Below.refl _ _⟩
    | false =>
      have hst : NM.starts s p = false := by rw [begins, h2, Bool.and_false]
      have d2 : ((s.extract 0 p.size).toList != p.toList) = true := by rw [bne, h2]; rfl
      rw [hst, if_neg (by simp)]
      clear hst h1
      go_enter Tryz.func46, Tryz.ntmps46
      go_wp2_with fail
      go_ret2
      exact ⟨rfl, Below.refl _ _⟩
  · have d1 : decide (s.size < p.size) = true := by simp; omega
    have hst : NM.starts s p = false := by rw [begins, decide_eq_false h1, Bool.false_and]
    rw [hst, if_neg (by simp)]
    clear hst h1
    go_enter Tryz.func46, Tryz.ntmps46
    go_wp2_with fail
    go_ret2
    exact ⟨rfl, Below.refl _ _⟩
end Go.Proofs.YtiifbhiodegipaaGreatDoor
