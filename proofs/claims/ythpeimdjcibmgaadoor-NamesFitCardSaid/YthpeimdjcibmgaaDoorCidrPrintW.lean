/- A net's text is read as it was; the walk of CidrPrint. -/
import Derived.Test.YthpeimdjcibmgaaDoorCidr
import Derived.IntWalk
namespace Go.Proofs.YthpeimdjcibmgaaDoor
open Go.RowKit
/-- Two nets in two blocks, and what was there before is as it was. -/
theorem pD {w W : World} {g h : Nat} {a b c d : Int} (H : W.cell? ⟨g, 0, none⟩ = some (.int .u32 a) ∧ W.cell? ⟨g, 1, none⟩ = some (.int .i64 b) ∧ W.cell? ⟨h, 0, none⟩ = some (.int .u32 c) ∧ W.cell? ⟨h, 1, none⟩ = some (.int .i64 d) ∧ g < W.heap.size ∧ h < W.heap.size ∧ Below w.heap.size w W) :
    W.drew.cell? ⟨g, 0, none⟩ = some (.int .u32 a) ∧ W.drew.cell? ⟨g, 1, none⟩ = some (.int .i64 b) ∧ W.drew.cell? ⟨h, 0, none⟩ = some (.int .u32 c) ∧ W.drew.cell? ⟨h, 1, none⟩ = some (.int .i64 d) ∧ g < W.drew.heap.size ∧ h < W.drew.heap.size ∧ Below w.heap.size w W.drew :=
  ⟨H.1, H.2.1, H.2.2.1, H.2.2.2.1, H.2.2.2.2.1, H.2.2.2.2.2.1, H.2.2.2.2.2.2.drew⟩
theorem pK {w W W' : World} {g h : Nat} {a b c d : Int} (H : W.cell? ⟨g, 0, none⟩ = some (.int .u32 a) ∧ W.cell? ⟨g, 1, none⟩ = some (.int .i64 b) ∧ W.cell? ⟨h, 0, none⟩ = some (.int .u32 c) ∧ W.cell? ⟨h, 1, none⟩ = some (.int .i64 d) ∧ g < W.heap.size ∧ h < W.heap.size ∧ Below w.heap.size w W) (hb : Below W.heap.size W W') :
    W'.cell? ⟨g, 0, none⟩ = some (.int .u32 a) ∧ W'.cell? ⟨g, 1, none⟩ = some (.int .i64 b) ∧ W'.cell? ⟨h, 0, none⟩ = some (.int .u32 c) ∧ W'.cell? ⟨h, 1, none⟩ = some (.int .i64 d) ∧ g < W'.heap.size ∧ h < W'.heap.size ∧ Below w.heap.size w W' :=
  have k := Cell2.keep (⟨H.1, H.2.1, H.2.2.2.2.1⟩ : Cell2 g a b W) hb
  have l := Cell2.keep (⟨H.2.2.1, H.2.2.2.1, H.2.2.2.2.2.1⟩ : Cell2 h c d W) hb
  ⟨k.1, k.2.1, l.1, l.2.1, k.2.2, l.2.2, bel H.2.2.2.2.2.2 hb⟩
theorem pB {w W : World} {g h : Nat} {a b c d : Int} (H : W.cell? ⟨g, 0, none⟩ = some (.int .u32 a) ∧ W.cell? ⟨g, 1, none⟩ = some (.int .i64 b) ∧ W.cell? ⟨h, 0, none⟩ = some (.int .u32 c) ∧ W.cell? ⟨h, 1, none⟩ = some (.int .i64 d) ∧ g < W.heap.size ∧ h < W.heap.size ∧ Below w.heap.size w W) : Below w.heap.size w W := H.2.2.2.2.2.2
theorem index_cons47 (c : UInt8) (l : List UInt8) : Lib.index (c :: l) [47] = if c = 47 then 0 else if Lib.index l [47] == -1 then -1 else Lib.index l [47] + 1 := by
  rw [Lib.index]
  by_cases h : c = 47
  · subst h; simp
  · have : ([47] : List UInt8).isPrefixOf (c :: l) = false := by simp [List.isPrefixOf]; exact fun e => h e.symm
    rw [this, if_neg h]; rfl
theorem cutS_nil : cutS [] = ([], [], false) := rfl
theorem cutS_cons (c : UInt8) (l : List UInt8) : cutS (c :: l) = if c = 47 then ([], l, true) else (c :: (cutS l).1, (cutS l).2.1, (cutS l).2.2) := by
  unfold cutS Lib.cut
  rw [index_cons47]
  have hg := Lib.index_ge l [47]
  by_cases h : c = 47
  · simp [h]
  · rw [if_neg h, if_neg h]
    by_cases h2 : Lib.index l [47] = -1
    · simp [h2]
    · have h3 : 0 ≤ Lib.index l [47] := by omega
      have h4 : (Lib.index l [47] == -1) = false := by simpa using h2
      rw [h4]
      simp only [Bool.false_eq_true, if_false]
      rw [if_pos (by omega), if_pos h3]
      obtain ⟨n, hn⟩ := Int.eq_ofNat_of_zero_le h3
      rw [hn, show ((n : Int) + 1).toNat = n + 1 from by omega, Int.toNat_natCast]
      simp
theorem cutS_app (w r : List UInt8) (hw : (47 : UInt8) ∉ w) : cutS (w ++ 47 :: r) = (w, r, true) := by
  induction w with
  | nil => rw [List.nil_append, cutS_cons, if_pos rfl]
  | cons c w ih =>
    simp only [List.mem_cons, not_or] at hw
    rw [List.cons_append, cutS_cons, if_neg (fun e => hw.1 e.symm), ih hw.2]
theorem no_slash (w : List UInt8) (h : w.all isDig = true) : (47 : UInt8) ∉ w := fun hm => by
  have := isDig_bounds (List.all_eq_true.1 h _ hm)
  simp at this
theorem no_slash_ip (a : Int) : (47 : UInt8) ∉ ipTxt a := by
  rw [ipTxt_eq]
  simp only [List.mem_append, List.mem_singleton, not_or]
  refine ⟨⟨⟨⟨⟨⟨no_slash _ (dec_all _), by decide⟩, no_slash _ (dec_all _)⟩, by decide⟩, no_slash _ (dec_all _)⟩, by decide⟩, no_slash _ (dec_all _)⟩
theorem numOk2_dec (b : Int) (h0 : 0 ≤ b) (h1 : b ≤ 32) : numOk 2 (Lib.decDigits b.toNat) = true := by
  have h := (canon_iff _).1 (canon_dec b.toNat)
  refine (numOk_iff 2 _).2 ⟨⟨?_, dec_len18 2 _ (by omega) (by omega), h.2.2⟩, h.2.1⟩
  have := List.length_pos_iff.2 h.1
  omega
/-- A net's text is read as it was. -/
theorem netOf_txt {a b : Int} (ha : 0 ≤ a) (ha' : a < 4294967296) (hm : mayB a b = true) : netOf (netText a b) = some (a, b) := by
  obtain ⟨b0, b1⟩ := may_bits hm
  have hc : cutS (netText a b) = (ipTxt a, Lib.decDigits b.toNat, true) := by
    unfold netText
    rw [if_pos hm]
    exact cutS_app _ _ (no_slash_ip a)
  have hn : num10 (Lib.decDigits b.toNat) = b := by rw [num10_dec]; omega
  unfold netOf
  rw [hc]
  simp only []
  rw [ipOf_txt a ha ha']
  simp only []
  rw [hn, numOk2_dec b b0 b1, hm]
  rfl
end Go.Proofs.YthpeimdjcibmgaaDoor
