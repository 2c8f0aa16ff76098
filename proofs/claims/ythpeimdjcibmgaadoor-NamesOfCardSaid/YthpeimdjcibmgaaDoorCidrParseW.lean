/- The reference's reading of a net's text. -/
import Derived.Test.YthpeimdjcibmgaaDoorCidrPrintW
namespace Go.Proofs.YthpeimdjcibmgaaDoor
open Go.RowKit
def refNetVal (o : Option (Int × Int)) : Value := match o with
  | some p => .tuple #[.agg #[.int .u32 p.1, .int .i64 p.2], .bool true]
  | none => .tuple #[.agg #[.int .u32 0, .int .i64 0], .bool false]
theorem cutS_none (w : List UInt8) (hw : (47 : UInt8) ∉ w) : cutS w = (w, [], false) := by
  induction w with
  | nil => rfl
  | cons c w ih =>
    simp only [List.mem_cons, not_or] at hw
    rw [cutS_cons, if_neg (fun e => hw.1 e.symm), ih hw.2]
/-- A number of bits, as the program reads it and as the document does: one, where a net may be. -/
theorem bits_eq (l : List UInt8) (a : Int) : (numOk 2 l && mayB a (num10 l)) = (valOk 32 l && mayB a (num10 l)) := by
  cases hm : mayB a (num10 l) with
  | false => simp
  | true =>
    obtain ⟨b0, b1⟩ := may_bits hm
    rw [Bool.and_true, Bool.and_true, Bool.eq_iff_iff, numOk_iff, valOk_iff, canon_iff]
    constructor
    · rintro ⟨⟨h1, h2, h3⟩, h4⟩
      exact ⟨⟨fun e => by rw [e] at h1; simp at h1, h4, h3⟩, b1⟩
    · rintro ⟨⟨h1, h2, h3⟩, h4⟩
      have hp := List.length_pos_iff.2 h1
      refine ⟨⟨by omega, ?_, h3⟩, h2⟩
      rcases Nat.lt_or_ge 2 l.length with hh | hh
      · exfalso
        have := num10_ge_pow l ((canon_iff _).2 ⟨h1, h2, h3⟩) 2 hh (by omega)
        omega
      · exact hh
/-- The reading, where the first '/' stands behind i signs. -/
theorem netOf_at (l : List UInt8) (i : Nat) (hi : i < l.length) (h47 : l.getD i 0 = 47) (hno : (47 : UInt8) ∉ l.take i) :
    netOf l = match ipOf (l.take i) with
      | some a => if (valOk 32 (l.drop (i + 1)) && mayB a (num10 (l.drop (i + 1)))) = true then some (a, num10 (l.drop (i + 1))) else none
      | none => none := by
  have e : l = l.take i ++ 47 :: l.drop (i + 1) := by
    have h1 : l.drop i = 47 :: l.drop (i + 1) := by
      rw [List.drop_eq_getElem_cons hi]
      congr 1
      rw [← h47]; simp [List.getD, List.getElem?_eq_getElem hi]
    rw [← h1, List.take_append_drop]
  have hc : cutS l = (l.take i, l.drop (i + 1), true) := by
    conv => lhs; rw [e]
    exact cutS_app _ _ hno
  unfold netOf
  rw [hc]
  simp only [Bool.true_and]
  cases ipOf (l.take i) with
  | none => rfl
  | some a => simp only []; rw [bits_eq]
theorem netOf_no (l : List UInt8) (hno : (47 : UInt8) ∉ l) : netOf l = none := by
  unfold netOf
  rw [cutS_none l hno]
  cases ipOf l with
  | none => rfl
  | some a => simp
theorem ext_take (s : ByteArray) (i : Nat) : (s.extract 0 i).data.toList = s.data.toList.take i := by
  rw [Lib.extract_data, List.drop_zero, Nat.sub_zero]
theorem ext_drop (s : ByteArray) (i : Nat) : (s.extract i s.size).data.toList = s.data.toList.drop i := by
  rw [Lib.extract_data, List.take_of_length_le (by rw [List.length_drop, len_of]; omega)]
theorem byte0x (s : ByteArray) (i : Nat) (h : i < s.size) : s.data.toList.getD i 0 = s[i] := by
  have h2 : i < s.data.toList.length := by rw [len_of]; exact h
  rw [List.getD_eq_getElem?_getD, List.getElem?_eq_getElem h2, Option.getD_some]
  rfl
theorem ext_size (s : ByteArray) (i j : Nat) : (s.extract i j).size ≤ s.size := by
  rw [ByteArray.size_extract]; omega
theorem sliceTo40n (s : ByteArray) (hs : 40 ≤ s.size) (W : World) : (Instr.slice 9 (.string s) none (some (.int .i64 40)) none).run Tryd.prog W = .ok (.string (s.extract 0 40)) W := sliceTo40 s hs W
end Go.Proofs.YthpeimdjcibmgaaDoor
