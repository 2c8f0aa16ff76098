/- Package names: keys of what has a name; a net and a block read out of a key. -/
import Derived.Test.YthpeimdjcibmgaaDoorNmText
namespace Go.Proofs.YthpeimdjcibmgaaDoor
open Go.RowKit Go.Maps
abbrev em : ByteArray := ⟨#[]⟩
theorem okName_size {s : ByteArray} (h : okName s.data.toList = true) : 1 ≤ s.size ∧ s.size ≤ 64 := by
  unfold okName at h
  rw [Bool.and_eq_true, decide_eq_true_eq] at h
  exact h.1
theorem named_any (st s : ByteArray) (hst : st.size ≤ 100) (hs : s.size ≤ maxLen) (w : World) :
    Calls Tryd.prog 33 #[.string st, .string s] w fun e w' => e = .returned (if okName s.data.toList = true then .tuple #[.string (st ++ s), .int .i64 0] else .tuple #[.string em, .int .i64 1]) ∧ Below w.heap.size w w' := by
  have HR := Lib.hid (right_any s w hs)
  cases hk : okName s.data.toList with
  | true =>
    have hz := okName_size hk
    have q : ¬ 9223372036854775807 < st.size + s.size := by omega
    rw [hk] at HR
    rw [if_pos rfl]
    clear hk hz hst hs
    go_enter Tryd.func33, Tryd.ntmps33
    go_wp2_with (first
      | (go_at_call 19; refine HR.out.mono ?_; rintro e w1 ⟨rfl, hb1⟩)
      | go_in)
    refine bodyPost_ret (v := .tuple #[.string (st ++ s), .int .i64 0]) (by simp [results, Tryd.results33, go_sem]) rfl ⟨rfl, hb1⟩
  | false =>
    rw [hk] at HR
    rw [if_neg (by simp)]
    clear hk hst hs
    go_enter Tryd.func33, Tryd.ntmps33
    go_wp2_with (first
      | (go_at_call 19; refine HR.out.mono ?_; rintro e w1 ⟨rfl, hb1⟩)
      | go_in)
    refine bodyPost_ret (v := .tuple #[.string em, .int .i64 1]) (by simp [results, Tryd.results33, go_sem]) rfl ⟨rfl, hb1⟩
abbrev pAff : ByteArray := ⟨#[97, 102, 102, 47]⟩
abbrev pHan : ByteArray := ⟨#[104, 97, 110, 100, 108, 101, 47]⟩
abbrev pNod : ByteArray := ⟨#[110, 111, 100, 101, 47]⟩
abbrev pPool : ByteArray := ⟨#[112, 111, 111, 108, 47]⟩
abbrev pBlk : ByteArray := ⟨#[98, 108, 111, 99, 107, 47]⟩
abbrev slash : ByteArray := ⟨#[47]⟩
theorem handle_any (s : ByteArray) (hs : s.size ≤ maxLen) (w : World) :
    Calls Tryd.prog 16 #[.string s] w fun e w' => e = .returned (if okName s.data.toList = true then .tuple #[.string (pHan ++ s), .int .i64 0] else .tuple #[.string em, .int .i64 1]) ∧ Below w.heap.size w w' := by
  have HN := Lib.hid (named_any pHan s (by decide) hs w)
  cases hk : okName s.data.toList with
  | true =>
    rw [hk, if_pos rfl] at HN
    rw [if_pos rfl]
    clear hk hs
    go_enter Tryd.func16, Tryd.ntmps16
    go_wp2_with (first
      | (go_at_call 33; refine HN.out.mono ?_; rintro e w1 ⟨rfl, hb1⟩)
      | go_in)
    refine bodyPost_ret (v := .tuple #[.string (pHan ++ s), .int .i64 0]) (by simp [results, Tryd.results16, go_sem]) rfl ⟨rfl, hb1⟩
  | false =>
    rw [hk, if_neg (by simp)] at HN
    rw [if_neg (by simp)]
    clear hk hs
    go_enter Tryd.func16, Tryd.ntmps16
    go_wp2_with (first
      | (go_at_call 33; refine HN.out.mono ?_; rintro e w1 ⟨rfl, hb1⟩)
      | go_in)
    refine bodyPost_ret (v := .tuple #[.string em, .int .i64 1]) (by simp [results, Tryd.results16, go_sem]) rfl ⟨rfl, hb1⟩
theorem node_any (s : ByteArray) (hs : s.size ≤ maxLen) (w : World) :
    Calls Tryd.prog 17 #[.string s] w fun e w' => e = .returned (if okName s.data.toList = true then .tuple #[.string (pNod ++ s), .int .i64 0] else .tuple #[.string em, .int .i64 1]) ∧ Below w.heap.size w w' := by
  have HN := Lib.hid (named_any pNod s (by decide) hs w)
  cases hk : okName s.data.toList with
  | true =>
    rw [hk, if_pos rfl] at HN
    rw [if_pos rfl]
    clear hk hs
    go_enter Tryd.func17, Tryd.ntmps17
    go_wp2_with (first
      | (go_at_call 33; refine HN.out.mono ?_; rintro e w1 ⟨rfl, hb1⟩)
      | go_in)
    refine bodyPost_ret (v := .tuple #[.string (pNod ++ s), .int .i64 0]) (by simp [results, Tryd.results17, go_sem]) rfl ⟨rfl, hb1⟩
  | false =>
    rw [hk, if_neg (by simp)] at HN
    rw [if_neg (by simp)]
    clear hk hs
    go_enter Tryd.func17, Tryd.ntmps17
    go_wp2_with (first
      | (go_at_call 33; refine HN.out.mono ?_; rintro e w1 ⟨rfl, hb1⟩)
      | go_in)
    refine bodyPost_ret (v := .tuple #[.string em, .int .i64 1]) (by simp [results, Tryd.results17, go_sem]) rfl ⟨rfl, hb1⟩
theorem affsOf_any (s : ByteArray) (hs : s.size ≤ maxLen) (w : World) :
    Calls Tryd.prog 18 #[.string s] w fun e w' => e = .returned (if okName s.data.toList = true then .tuple #[.string (pAff ++ s ++ slash), .int .i64 0] else .tuple #[.string em, .int .i64 1]) ∧ Below w.heap.size w w' := by
  have HN := Lib.hid (named_any pAff s (by decide) hs w)
  cases hk : okName s.data.toList with
  | true =>
    have hz := okName_size hk
    have q : ¬ 9223372036854775807 < 4 + s.size + 1 := by omega
    rw [hk, if_pos rfl] at HN
    rw [if_pos rfl]
    clear hk hs hz
    go_enter Tryd.func18, Tryd.ntmps18
    go_wp2_with (first
      | (go_at_call 33; refine HN.out.mono ?_; rintro e w1 ⟨rfl, hb1⟩)
      | go_in)
    refine bodyPost_ret (v := .tuple #[.string (pAff ++ s ++ slash), .int .i64 0]) (by simp [results, Tryd.results18, go_sem]) rfl ⟨rfl, hb1⟩
  | false =>
    rw [hk, if_neg (by simp)] at HN
    rw [if_neg (by simp)]
    clear hk hs
    go_enter Tryd.func18, Tryd.ntmps18
    go_wp2_with (first
      | (go_at_call 33; refine HN.out.mono ?_; rintro e w1 ⟨rfl, hb1⟩)
      | go_in)
    refine bodyPost_ret (v := .tuple #[.string em, .int .i64 1]) (by simp [results, Tryd.results18, go_sem]) rfl ⟨rfl, hb1⟩
theorem aff_any (s : ByteArray) (a : Int) (hs : s.size ≤ maxLen) (ha : 0 ≤ a) (ha' : a < 4294967296) (w : World) (hE : Env w) :
    Calls Tryd.prog 15 #[.string s, .int .u32 a] w fun e w' => e = .returned (if okName s.data.toList = true then .tuple #[.string (pAff ++ s ++ slash ++ ⟨(blkTxt a).toArray⟩), .int .i64 0] else .tuple #[.string em, .int .i64 1]) ∧ Below w.heap.size w w' := by
  have HN := Lib.hid (affsOf_any s hs w)
  have HB : Hid (∀ w', Below w.heap.size w w' → Calls Tryd.prog 32 #[.int .u32 a] w' fun e w'' => e = .returned (.string ⟨(blkTxt a).toArray⟩) ∧ Below w'.heap.size w' w'') := Lib.hid (fun w' hb => blockOf_any a ha ha' w' (hE.below hb))
  have hl := blkTxt_len a ha ha'
  clear hE
  cases hk : okName s.data.toList with
  | true =>
    have hz := okName_size hk
    have q : ¬ 9223372036854775807 < 4 + s.size + 1 + (blkTxt a).length := by omega
    rw [hk, if_pos rfl] at HN
    rw [if_pos rfl]
    clear hk hs hz hl
    go_enter Tryd.func15, Tryd.ntmps15
    go_wp2_with (first
      | (go_at_call 18; refine HN.out.mono ?_; rintro e w1 ⟨rfl, hb1⟩)
      | (go_at_call 32; refine (HB.out w1 hb1).mono ?_; rintro e w2 ⟨rfl, hb2⟩)
      | go_in)
    refine bodyPost_ret (v := .tuple #[.string (pAff ++ s ++ slash ++ ⟨(blkTxt a).toArray⟩), .int .i64 0]) (by simp [results, Tryd.results15, go_sem]) rfl ⟨rfl, bel hb1 hb2⟩
  | false =>
    rw [hk, if_neg (by simp)] at HN
    rw [if_neg (by simp)]
    clear hk hs hl
    go_enter Tryd.func15, Tryd.ntmps15
    go_wp2_with (first
      | (go_at_call 18; refine HN.out.mono ?_; rintro e w1 ⟨rfl, hb1⟩)
      | go_in)
    refine bodyPost_ret (v := .tuple #[.string em, .int .i64 1]) (by simp [results, Tryd.results15, go_sem]) rfl ⟨rfl, hb1⟩
def poolOk (a b : Int) : Bool := mayB a b && decide (b ≤ 26)
theorem pool_any (a b : Int) (ha : 0 ≤ a) (ha' : a < 4294967296) (w : World) (hE : Env w) :
    Calls Tryd.prog 7 #[.agg #[.int .u32 a, .int .i64 b]] w fun e w' => e = .returned (if poolOk a b = true then .tuple #[.string (pPool ++ ⟨(keyTxt a b).toArray⟩), .int .i64 0] else .tuple #[.string em, .int .i64 1]) ∧ Below w.heap.size w w' := by
  have H1 := Lib.hid (may_any a b ha ha')
  have hb0 : Below w.heap.size w (w.alloc (.cells #[.int .u32 a, .int .i64 b] 28)) := belNew _ _
  have HP : Hid (∀ w', Below w.heap.size w w' → Calls Tryd.prog 26 #[.agg #[.int .u32 a, .int .i64 b]] w' fun e w'' => e = .returned (.string ⟨(keyTxt a b).toArray⟩) ∧ Below w'.heap.size w' w'') := Lib.hid (fun w' hb => putNet_any a b ha ha' w' (hE.below hb))
  have hl := keyTxt_len a b ha ha'
  have q : ¬ 9223372036854775807 < 5 + (keyTxt a b).length := by omega
  have HB := Lib.hid hb0
  clear hb0 hl hE
  have hC := Cell2.new w a b 28
  unfold poolOk
  cases hm : mayB a b with
  | true =>
    rw [hm] at H1
    by_cases hb : b ≤ 26
    · have d1 : decide (26 < b) = false := by simp; omega
      rw [decide_eq_true hb, Bool.and_self, if_pos rfl]
      clear hm hb
      go_enter Tryd.func7, Tryd.ntmps7
      go_upto_region 1 with fail
      obtain ⟨W, hW⟩ : ∃ W, W = w.alloc (.cells #[.int .u32 a, .int .i64 b] 28) := ⟨_, rfl⟩
      have HB2 := HB
      rw [← hW] at hC HB2 ⊢
      clear hW HB
      obtain ⟨c0, c1, c2⟩ := id hC
      go_upto_region 3 with (first
        | (go_at_call 25; refine (H1.out _).mono ?_; rintro e w1 ⟨rfl, hb1⟩; obtain ⟨c0, c1, c2⟩ := hC.keep hb1)
        | go_in)
      have hB1 := bel HB2.out hb1
      go_wp2_with (first
        | (go_at_call 26; refine (HP.out w1 hB1).mono ?_; rintro e w2 ⟨rfl, hb2⟩)
        | go_in)
      refine bodyPost_ret (v := .tuple #[.string (pPool ++ ⟨(keyTxt a b).toArray⟩), .int .i64 0]) (by simp [results, Tryd.results7, go_sem]) rfl ⟨rfl, bel hB1 hb2⟩
    · have d1 : decide (26 < b) = true := by simp; omega
      rw [decide_eq_false hb, if_neg (by simp)]
      clear hm hb
      go_enter Tryd.func7, Tryd.ntmps7
      go_upto_region 1 with fail
      obtain ⟨W, hW⟩ : ∃ W, W = w.alloc (.cells #[.int .u32 a, .int .i64 b] 28) := ⟨_, rfl⟩
      have HB2 := HB
      rw [← hW] at hC HB2 ⊢
      clear hW HB
      obtain ⟨c0, c1, c2⟩ := id hC
      go_wp2_with (first
        | (go_at_call 25; refine (H1.out _).mono ?_; rintro e w1 ⟨rfl, hb1⟩; obtain ⟨c0, c1, c2⟩ := hC.keep hb1)
        | go_in)
      refine bodyPost_ret (v := .tuple #[.string em, .int .i64 1]) (by simp [results, Tryd.results7, go_sem]) rfl ⟨rfl, bel HB2.out hb1⟩
  | false =>
    rw [hm] at H1
    rw [Bool.false_and, if_neg (by simp)]
    clear hm
    go_enter Tryd.func7, Tryd.ntmps7
    go_upto_region 1 with fail
    obtain ⟨W, hW⟩ : ∃ W, W = w.alloc (.cells #[.int .u32 a, .int .i64 b] 28) := ⟨_, rfl⟩
    have HB2 := HB
    rw [← hW] at hC HB2 ⊢
    clear hW HB
    obtain ⟨c0, c1, c2⟩ := id hC
    go_wp2_with (first
      | (go_at_call 25; refine (H1.out _).mono ?_; rintro e w1 ⟨rfl, hb1⟩)
      | go_in)
    refine bodyPost_ret (v := .tuple #[.string em, .int .i64 1]) (by simp [results, Tryd.results7, go_sem]) rfl ⟨rfl, bel HB2.out hb1⟩
end Go.Proofs.YthpeimdjcibmgaaDoor
