/- Package names: whose a key is. -/
import Derived.Test.YthpeimdjcibmgaaDoorNmRead
namespace Go.Proofs.YthpeimdjcibmgaaDoor
open Go.RowKit Go.Maps
/-- What is left of a key behind its start. -/
abbrev rest (s p : ByteArray) : ByteArray := ⟨(Lib.trimPrefix s.data.toList p.data.toList).toArray⟩
abbrev starts (s p : ByteArray) : Bool := Lib.hasPrefix s.data.toList p.data.toList
theorem trim_length (s p : List UInt8) : (Lib.trimPrefix s p).length ≤ s.length := by
  unfold Lib.trimPrefix
  split
  · simp
  · exact Nat.le_refl _
theorem rest_size (s p : ByteArray) : (rest s p).size ≤ s.size := by
  rw [size_mk]
  exact trim_length _ _
theorem nameOf_any (s st : ByteArray) (hs : s.size ≤ maxLen) (w : World) :
    Calls Tryd.prog 36 #[.string s, .string st] w fun e w' => e = .returned (if starts s st && okName (rest s st).data.toList then .tuple #[.string (rest s st), .bool true] else .tuple #[.string em, .bool false]) ∧ Below w.heap.size w w' := by
  have HC := Lib.hid (Tryd.strings_CutPrefix s st w)
  have HR := Lib.hid (right_any (rest s st) w (Nat.le_trans (rest_size s st) hs))
  have hr : (⟨(Lib.trimPrefix s.data.toList st.data.toList).toArray⟩ : ByteArray) = rest s st := rfl
  rw [hr] at HC
  clear hr
  have hz : (Lib.hasPrefix s.data.toList st.data.toList) = starts s st := rfl
  rw [hz] at HC
  generalize starts s st = S at *
  generalize rest s st = r at *
  clear hz hs
  cases S with
  | false =>
    go_enter Tryd.func36, Tryd.ntmps36
    go_wp2_with (first
      | (go_at_call 29; refine HC.out.mono ?_; rintro e w1 ⟨rfl, rfl⟩)
      | go_in)
    refine bodyPost_ret (v := .tuple #[.string em, .bool false]) (by simp [results, Tryd.results36, go_sem]) rfl ⟨rfl, Below.refl _ _⟩
  | true =>
    cases hk : okName r.data.toList with
    | true =>
      rw [hk] at HR
      clear hk
      go_enter Tryd.func36, Tryd.ntmps36
      go_wp2_with (first
        | (go_at_call 29; refine HC.out.mono ?_; rintro e w1 ⟨rfl, rfl⟩)
        | (go_at_call 19; refine HR.out.mono ?_; rintro e w1 ⟨rfl, hb1⟩)
        | go_in)
      refine bodyPost_ret (v := .tuple #[.string r, .bool true]) (by simp [results, Tryd.results36, go_sem]) rfl ⟨rfl, hb1⟩
    | false =>
      rw [hk] at HR
      clear hk
      go_enter Tryd.func36, Tryd.ntmps36
      go_wp2_with (first
        | (go_at_call 29; refine HC.out.mono ?_; rintro e w1 ⟨rfl, rfl⟩)
        | (go_at_call 19; refine HR.out.mono ?_; rintro e w1 ⟨rfl, hb1⟩)
        | go_in)
      refine bodyPost_ret (v := .tuple #[.string em, .bool false]) (by simp [results, Tryd.results36, go_sem]) rfl ⟨rfl, hb1⟩
theorem ofHandle_any (s : ByteArray) (hs : s.size ≤ maxLen) (w : World) :
    Calls Tryd.prog 22 #[.string s] w fun e w' => e = .returned (if starts s pHan && okName (rest s pHan).data.toList then .tuple #[.string (rest s pHan), .bool true] else .tuple #[.string em, .bool false]) ∧ Below w.heap.size w w' := by
  have HN := Lib.hid (nameOf_any s pHan hs w)
  generalize (starts s pHan && okName (rest s pHan).data.toList) = K at *
  generalize rest s pHan = r at *
  clear hs
  cases K with
  | true =>
    rw [if_pos rfl] at HN ⊢
    go_enter Tryd.func22, Tryd.ntmps22
    go_wp2_with (first
      | (go_at_call 36; refine HN.out.mono ?_; rintro e w1 ⟨rfl, hb1⟩)
      | go_in)
    refine bodyPost_ret (v := .tuple #[.string r, .bool true]) (by simp [results, Tryd.results22, go_sem]) rfl ⟨rfl, hb1⟩
  | false =>
    rw [if_neg (by simp)] at HN ⊢
    go_enter Tryd.func22, Tryd.ntmps22
    go_wp2_with (first
      | (go_at_call 36; refine HN.out.mono ?_; rintro e w1 ⟨rfl, hb1⟩)
      | go_in)
    refine bodyPost_ret (v := .tuple #[.string em, .bool false]) (by simp [results, Tryd.results22, go_sem]) rfl ⟨rfl, hb1⟩
theorem ofNode_any (s : ByteArray) (hs : s.size ≤ maxLen) (w : World) :
    Calls Tryd.prog 23 #[.string s] w fun e w' => e = .returned (if starts s pNod && okName (rest s pNod).data.toList then .tuple #[.string (rest s pNod), .bool true] else .tuple #[.string em, .bool false]) ∧ Below w.heap.size w w' := by
  have HN := Lib.hid (nameOf_any s pNod hs w)
  generalize (starts s pNod && okName (rest s pNod).data.toList) = K at *
  generalize rest s pNod = r at *
  clear hs
  cases K with
  | true =>
    rw [if_pos rfl] at HN ⊢
    go_enter Tryd.func23, Tryd.ntmps23
    go_wp2_with (first
      | (go_at_call 36; refine HN.out.mono ?_; rintro e w1 ⟨rfl, hb1⟩)
      | go_in)
    refine bodyPost_ret (v := .tuple #[.string r, .bool true]) (by simp [results, Tryd.results23, go_sem]) rfl ⟨rfl, hb1⟩
  | false =>
    rw [if_neg (by simp)] at HN ⊢
    go_enter Tryd.func23, Tryd.ntmps23
    go_wp2_with (first
      | (go_at_call 36; refine HN.out.mono ?_; rintro e w1 ⟨rfl, hb1⟩)
      | go_in)
    refine bodyPost_ret (v := .tuple #[.string em, .bool false]) (by simp [results, Tryd.results23, go_sem]) rfl ⟨rfl, hb1⟩
end Go.Proofs.YthpeimdjcibmgaaDoor
