/- The walks of IpPrint and IpParse: numbers and their texts, cutting at points, and the reference read sign by sign is the program read piece by piece. -/
import Derived.Test.YthpeimdjcibmgaaDoorIp
import Derived.Laws.DeepStrings4
namespace Go.Proofs.YthpeimdjcibmgaaDoor
open Go.RowKit
theorem dec_len18 : ∀ (k u : Nat), 1 ≤ k → u < 10 ^ k → (Lib.decDigits u).length ≤ k := by
  intro k
  induction k with
  | zero => intro u h _; omega
  | succ k ih =>
    intro u _ hu
    by_cases h : u < 10
    · rw [dec_small h]; simp
    · have hk : 1 ≤ k := by
        rcases Nat.eq_zero_or_pos k with rfl | h'
        · simp at hu; omega
        · exact h'
      have := ih (u / 10) hk (by rw [Nat.pow_succ] at hu; omega)
      rw [dec_big h, List.length_append, List.length_singleton]
      omega
theorem digit_conv (n : Int) (w : World) (h0 : 0 ≤ n) (h1 : n < 10) :
    (convert 68 9 (.slice (some ⟨w.heap.size, 0, none⟩) 1 1)).run Tryd.prog (w.alloc (.cells #[.int .u8 (48 + n)] 5)) = .ok (.string ⟨(Lib.decDigits n.toNat).toArray⟩) (w.alloc (.cells #[.int .u8 (48 + n)] 5)) := by
  have e : Lib.decDigits n.toNat = [UInt8.ofNat (48 + n.toNat)] := dec_small (by omega)
  have hb : ((UInt8.ofNat (48 + n.toNat)).toNat : Int) = 48 + n := by rw [UInt8.toNat_ofNat']; omega
  have hc := run_convert_bytes_back (P := Tryd.prog) (w.alloc (.cells #[.int .u8 (48 + n)] 5)) 68 9 5 ⟨w.heap.size, 0, none⟩ 1 [UInt8.ofNat (48 + n.toNat)] Tryd.underlying68 Tryd.underlying5 Tryd.underlying9 (fun j hj => by
    match j, hj with
    | 0, _ =>
      simp only [List.getElem_cons_zero, hb]
      simp [Addr.add])
  rw [e]
  exact hc
set_option maxHeartbeats 1000000 in
theorem num_small (n : Int) (w : World) (h0 : 0 ≤ n) (h1 : n < 10) :
    Calls Tryd.prog 56 #[.int .i64 n] w fun e w' => e = .returned (.string ⟨(Lib.decDigits n.toNat).toArray⟩) ∧ Below w.heap.size w w' := by
  have d0 : decide (n < 10) = true := by simpa using h1
  have hcv := digit_conv n w h0 h1
  go_enter Tryd.func56, Tryd.ntmps56
  go_wp2_with fail
  go_ret
  exact ⟨rfl, (Below.refl _ _).alloc (Nat.le_refl _) _⟩
theorem mk_append (a b : List UInt8) : (⟨a.toArray⟩ : ByteArray) ++ ⟨b.toArray⟩ = ⟨(a ++ b).toArray⟩ := by
  apply ByteArray.ext
  simp
theorem toNat_div10 (n : Int) (h : 0 ≤ n) : (n / 10).toNat = n.toNat / 10 := by omega
theorem toNat_mod10 (n : Int) (h : 0 ≤ n) : (n % 10).toNat = n.toNat % 10 := by omega
set_option maxHeartbeats 1000000 in
theorem num_any : ∀ (k : Nat) (n : Int) (w : World), 0 ≤ n → n.toNat < 10 ^ k → k ≤ 12 → 1 ≤ k →
    Calls Tryd.prog 56 #[.int .i64 n] w fun e w' => e = .returned (.string ⟨(Lib.decDigits n.toNat).toArray⟩) ∧ Below w.heap.size w w' := by
  intro k
  induction k with
  | zero => intro n w h0 h1 _ h2; omega
  | succ k ih =>
    intro n w h0 h1 hk _
    by_cases hlt : n < 10
    · exact num_small n w h0 hlt
    · have hk1 : 1 ≤ k := by
        rcases Nat.eq_zero_or_pos k with rfl | h'
        · simp at h1; omega
        · exact h'
      have hdiv : (n / 10).toNat < 10 ^ k := by rw [Nat.pow_succ] at h1; omega
      have i1 := Lib.hid (fun w => ih (n / 10) w (by omega) hdiv (by omega) hk1)
      have hn12 : n < 1000000000000 := by
        have : (10 : Nat) ^ (k + 1) ≤ 10 ^ 12 := Nat.pow_le_pow_right (by omega) (by omega)
        omega
      have hl := dec_len18 k (n / 10).toNat hk1 hdiv
      have d0 : decide (n < 10) = false := by simpa using hlt
      have hl3 : (Lib.decDigits (n % 10).toNat).length ≤ 1 := by rw [dec_small (by omega)]; simp
      have hm0 : 0 ≤ n % 10 := by omega
      have hm1 : n % 10 < 10 := by omega
      have HV : Hid (Lib.decDigits n.toNat = Lib.decDigits (n / 10).toNat ++ Lib.decDigits (n % 10).toNat) := Lib.hid (by
        rw [toNat_div10 n h0, toNat_mod10 n h0, dec_big (u := n.toNat) (by omega), dec_small (u := n.toNat % 10) (by omega)])
      clear ih h1 hdiv
      go_enter Tryd.func56, Tryd.ntmps56
      go_wp2_with fail
      refine (i1.out _).mono ?_; rintro e w1 ⟨rfl, hb1⟩
      go_wp2_with fail
      refine (num_small (n % 10) _ hm0 hm1).mono ?_; rintro e w2 ⟨rfl, hb2⟩
      go_wp2_with fail
      go_ret
      exact ⟨congrArg (fun s => Ending.returned (.string s)) ((mk_append _ _).trans (by rw [HV.out])), hb1.trans (hb2.mono hb1.size)⟩
theorem num255 (n : Int) (w : World) (h0 : 0 ≤ n) (h1 : n ≤ 99999) :
    Calls Tryd.prog 56 #[.int .i64 n] w fun e w' => e = .returned (.string ⟨(Lib.decDigits n.toNat).toArray⟩) ∧ Below w.heap.size w w' :=
  num_any 5 n w h0 (by omega) (by omega) (by omega)
theorem size_dec (n : Int) (h0 : 0 ≤ n) (h1 : n ≤ 255) : (Lib.decDigits n.toNat).length ≤ 3 := dec_len _ (by omega)
theorem ipTxt_eq (a : Int) : ipTxt a = Lib.decDigits (a / 16777216).toNat ++ [46] ++ Lib.decDigits (a / 65536 % 256).toNat ++ [46] ++ Lib.decDigits (a / 256 % 256).toNat ++ [46] ++ Lib.decDigits (a % 256).toNat := by
  unfold ipTxt
  rw [txt_step, txt_step, txt_step, txt, if_pos rfl]
  rfl
set_option maxHeartbeats 4000000 in
theorem refPrint_any (a : Int) (ha : 0 ≤ a) (ha' : a < 4294967296) (w : World) :
    Calls Tryd.prog 42 #[.int .u32 a] w fun e w' => e = .returned (.string ⟨(ipTxt a).toArray⟩) ∧ Below w.heap.size w w' := by
  have q0 := size_dec (a / 16777216) (by omega) (by omega)
  have q1 := size_dec (a / 65536 % 256) (by omega) (by omega)
  have q2 := size_dec (a / 256 % 256) (by omega) (by omega)
  have q3 := size_dec (a % 256) (by omega) (by omega)
  go_enter Tryd.func42, Tryd.ntmps42
  go_wp2_with fail
  refine (refByte0 a ha ha' _).mono ?_; rintro e w' ⟨rfl, rfl⟩
  go_wp2_with fail
  refine (num255 _ _ (by omega) (by omega)).mono ?_; rintro e w1 ⟨rfl, hb1⟩
  go_wp2_with fail
  refine (refByte1 a ha ha' _).mono ?_; rintro e w' ⟨rfl, rfl⟩
  go_wp2_with fail
  refine (num255 _ _ (by omega) (by omega)).mono ?_; rintro e w2 ⟨rfl, hb2⟩
  go_wp2_with fail
  refine (refByte2 a ha ha' _).mono ?_; rintro e w' ⟨rfl, rfl⟩
  go_wp2_with fail
  refine (num255 _ _ (by omega) (by omega)).mono ?_; rintro e w3 ⟨rfl, hb3⟩
  go_wp2_with fail
  refine (refByte3 a ha ha' _).mono ?_; rintro e w' ⟨rfl, rfl⟩
  go_wp2_with fail
  refine (num255 _ _ (by omega) (by omega)).mono ?_; rintro e w4 ⟨rfl, hb4⟩
  go_wp2_with fail
  go_ret
  refine ⟨congrArg (fun s => Ending.returned (.string s)) ?_, ((hb1.trans (hb2.mono hb1.size)).trans (hb3.mono ?_)).trans (hb4.mono ?_)⟩
  · show (_ : ByteArray) = _
    rw [ipTxt_eq, show (⟨#[46]⟩ : ByteArray) = ⟨[46].toArray⟩ from rfl]
    simp only [mk_append]
  · exact Nat.le_trans hb1.size hb2.size
  · exact Nat.le_trans (Nat.le_trans hb1.size hb2.size) hb3.size
open Go
/-! Numbers and their texts. -/
theorem num10_dec (u : Nat) : num10 (Lib.decDigits u) = u := by
  induction u using Nat.strongRecOn with
  | _ u ih =>
    by_cases h : u < 10
    · rw [dec_small h]
      have : ((UInt8.ofNat (48 + u)).toNat : Int) = 48 + u := by rw [UInt8.toNat_ofNat']; omega
      simp only [num10, List.foldl_cons, List.foldl_nil, this]
      omega
    · rw [dec_big h, num10_snoc, ih (u / 10) (by omega)]
      have : ((UInt8.ofNat (48 + u % 10)).toNat : Int) = 48 + (u % 10 : Nat) := by rw [UInt8.toNat_ofNat']; omega
      rw [this]
      omega
theorem dec_all (u : Nat) : (Lib.decDigits u).all isDig = true := by
  induction u using Nat.strongRecOn with
  | _ u ih =>
    by_cases h : u < 10
    · rw [dec_small h]
      simp only [List.all_cons, List.all_nil, Bool.and_true]
      refine isDig_of ?_ ?_ <;> rw [UInt8.toNat_ofNat'] <;> omega
    · rw [dec_big h, List.all_append, ih (u / 10) (by omega)]
      simp only [List.all_cons, List.all_nil, Bool.and_true, Bool.true_and]
      refine isDig_of ?_ ?_ <;> rw [UInt8.toNat_ofNat'] <;> omega
theorem dec_ne (u : Nat) : Lib.decDigits u ≠ [] := by
  by_cases h : u < 10
  · rw [dec_small h]; simp
  · rw [dec_big h]; simp
/-- The first digit: no nought, but of 0. -/
theorem dec_head (u : Nat) (hu : 0 < u) : (Lib.decDigits u).getD 0 0 ≠ 48 := by
  induction u using Nat.strongRecOn with
  | _ u ih =>
    by_cases h : u < 10
    · rw [dec_small h]
      simp only [List.getD_cons_zero]
      rw [show (48 : UInt8) = UInt8.ofNat 48 from rfl, Ne, byte_eq (by omega), UInt8.toNat_ofNat']
      omega
    · have := ih (u / 10) (by omega) (by omega)
      rw [dec_big h]
      have hl : 0 < (Lib.decDigits (u / 10)).length := List.length_pos_iff.2 (dec_ne _)
      rwa [List.getD_eq_getElem?_getD, List.getElem?_append_left hl, ← List.getD_eq_getElem?_getD]
/-- A text of digits, no nought ahead of others. -/
def canon (w : List UInt8) : Bool := !w.isEmpty && (w.all isDig && !(decide (1 < w.length) && (w.getD 0 0 == 48)))
theorem canon_iff (w : List UInt8) : canon w = true ↔ w ≠ [] ∧ w.all isDig = true ∧ ¬ (1 < w.length ∧ w.getD 0 0 = 48) := by
  unfold canon
  simp only [Bool.and_eq_true, Bool.not_eq_true', List.isEmpty_eq_false_iff, Bool.and_eq_false_iff, decide_eq_false_iff_not, beq_eq_false_iff_ne]
  constructor
  · rintro ⟨a, b, c⟩
    exact ⟨a, b, fun ⟨d, e⟩ => c.elim (fun h => h d) (fun h => h e)⟩
  · rintro ⟨a, b, c⟩
    refine ⟨a, b, ?_⟩
    by_cases h : 1 < w.length
    · exact .inr fun e => c ⟨h, e⟩
    · exact .inl h
theorem head_snoc {l : List UInt8} {c : UInt8} (h : l ≠ []) : (l ++ [c]).getD 0 0 = l.getD 0 0 := by
  have hl : 0 < l.length := List.length_pos_iff.2 h
  rw [List.getD_eq_getElem?_getD, List.getElem?_append_left hl, ← List.getD_eq_getElem?_getD]
theorem num10_pos {l : List UInt8} (h : canon l = true) (h1 : 1 < l.length ∨ l.getD 0 0 ≠ 48) : 0 < num10 l := by
  refine snocInd (P := fun l => canon l = true → (1 < l.length ∨ l.getD 0 0 ≠ 48) → 0 < num10 l) ?_ ?_ l h h1
  · intro h; simp [canon] at h
  · intro l c ih h h1
    rw [canon_iff] at h
    obtain ⟨_, ha, hz⟩ := h
    rw [List.all_append, Bool.and_eq_true] at ha
    have hc := isDig_bounds (c := c) (by simpa using ha.2)
    rw [num10_snoc]
    by_cases hl : l = []
    · subst hl
      have h48 : c ≠ 48 := by
        rcases h1 with h1 | h1
        · simp at h1
        · simpa using h1
      have : (c.toNat : Int) ≠ 48 := fun e => h48 ((byte_eq (n := 48) (by omega)).2 e)
      simp only [num10, List.foldl_nil]
      omega
    · have hh : l.getD 0 0 ≠ 48 := by
        rw [head_snoc hl] at hz
        intro e
        have hlen : 0 < l.length := List.length_pos_iff.2 hl
        exact hz ⟨by rw [List.length_append, List.length_singleton]; omega, e⟩
      have := ih ((canon_iff l).2 ⟨hl, ha.1, fun ⟨_, e⟩ => hh e⟩) (.inr hh)
      omega
/-- Such a text is its number's. -/
theorem dec_num10 (w : List UInt8) (h : canon w = true) : Lib.decDigits (num10 w).toNat = w := by
  refine snocInd (P := fun w => canon w = true → Lib.decDigits (num10 w).toNat = w) ?_ ?_ w h
  · intro h; simp [canon] at h
  · intro l c ih h
    have h' := h
    rw [canon_iff] at h
    obtain ⟨_, ha, hz⟩ := h
    rw [List.all_append, Bool.and_eq_true] at ha
    have hc := isDig_bounds (c := c) (by simpa using ha.2)
    by_cases hl : l = []
    · subst hl
      have e : num10 ([] ++ [c]) = (c.toNat : Int) - 48 := by rw [num10_snoc]; simp [num10]
      rw [e, dec_small (by omega)]
      have : UInt8.ofNat (48 + ((c.toNat : Int) - 48).toNat) = c := by
        symm
        rw [byte_eq (by omega)]
        omega
      rw [this]; rfl
    · have hh : l.getD 0 0 ≠ 48 := by
        rw [head_snoc hl] at hz
        intro e
        have hlen : 0 < l.length := List.length_pos_iff.2 hl
        exact hz ⟨by rw [List.length_append, List.length_singleton]; omega, e⟩
      have hcl : canon l = true := (canon_iff l).2 ⟨hl, ha.1, fun ⟨_, e⟩ => hh e⟩
      have hp := num10_pos hcl (.inr hh)
      rw [num10_snoc, dec_big (by omega), show (num10 l * 10 + ((c.toNat : Int) - 48)).toNat / 10 = (num10 l).toNat by omega, ih hcl]
      have : UInt8.ofNat (48 + (num10 l * 10 + ((c.toNat : Int) - 48)).toNat % 10) = c := by
        symm
        rw [byte_eq (by omega)]
        omega
      rw [this]
theorem canon_dec (u : Nat) : canon (Lib.decDigits u) = true := by
  rw [canon_iff]
  refine ⟨dec_ne u, dec_all u, ?_⟩
  rintro ⟨h1, h2⟩
  rcases Nat.eq_zero_or_pos u with rfl | hu
  · rw [dec_small (by omega)] at h1; simp at h1
  · exact dec_head u hu h2
theorem canon_of_eq (w : List UInt8) (h : Lib.decDigits (num10 w).toNat = w) : canon w = true := by rw [← h]; exact canon_dec _
/-- More digits make no less. -/
theorem num10_take_le (w : List UInt8) (h : w.all isDig = true) (k : Nat) : num10 (w.take k) ≤ num10 w := by
  refine snocInd (P := fun w => w.all isDig = true → num10 (w.take k) ≤ num10 w) ?_ ?_ w h
  · intro _; simp
  · intro l c ih h
    rw [List.all_append, Bool.and_eq_true] at h
    have hc := isDig_bounds (c := c) (by simpa using h.2)
    have hb := num10_bounds l h.1
    have := ih h.1
    rw [num10_snoc]
    rcases Nat.lt_or_ge l.length k with hk | hk
    · rw [List.take_of_length_le (by rw [List.length_append, List.length_singleton]; omega), num10_snoc]; omega
    · rw [List.take_append_of_le_length hk]; omega
theorem num10_ge_pow (w : List UInt8) (h : canon w = true) (k : Nat) (hk : k < w.length) (h1 : 1 ≤ k) : 10 ^ k ≤ num10 w := by
  refine snocInd (P := fun w => ∀ k, canon w = true → k < w.length → 1 ≤ k → 10 ^ k ≤ num10 w) ?_ ?_ w k h hk h1
  · intro k _ hk; simp at hk
  · intro l c ih k h hk h1
    rw [canon_iff] at h
    obtain ⟨_, ha, hz⟩ := h
    rw [List.all_append, Bool.and_eq_true] at ha
    have hc := isDig_bounds (c := c) (by simpa using ha.2)
    rw [List.length_append, List.length_singleton] at hk
    have hl : l ≠ [] := by rintro rfl; simp at hk; omega
    have hh : l.getD 0 0 ≠ 48 := by
      rw [head_snoc hl] at hz
      intro e
      have hlen : 0 < l.length := List.length_pos_iff.2 hl
      exact hz ⟨by rw [List.length_append, List.length_singleton]; omega, e⟩
    have hcl : canon l = true := (canon_iff l).2 ⟨hl, ha.1, fun ⟨_, e⟩ => hh e⟩
    rw [num10_snoc]
    obtain ⟨j, rfl⟩ : ∃ j, k = j + 1 := ⟨k - 1, by omega⟩
    rcases Nat.eq_zero_or_pos j with rfl | hj
    · have := num10_pos hcl (.inr hh); simp; omega
    · have := ih j hcl (by omega) hj
      rw [Int.pow_succ]; omega
/-- A number up to a greatest one, as a text. -/
def valOk (most : Int) (w : List UInt8) : Bool := canon w && decide (num10 w ≤ most)
theorem pbOk_val (w : List UInt8) : pbOk w = valOk 255 w := by
  rw [Bool.eq_iff_iff]
  unfold pbOk valOk
  rw [Bool.and_eq_true, Bool.and_eq_true, numOk_iff, canon_iff, decide_eq_true_eq]
  constructor
  · rintro ⟨⟨⟨a, b, c⟩, d⟩, e⟩
    exact ⟨⟨by rintro rfl; simp at a, d, c⟩, e⟩
  · rintro ⟨⟨a, d, c⟩, e⟩
    have hlen : 0 < w.length := List.length_pos_iff.2 a
    refine ⟨⟨⟨hlen, ?_, c⟩, d⟩, e⟩
    rcases Nat.lt_or_ge 3 w.length with h | h
    · have := num10_ge_pow w ((canon_iff w).2 ⟨a, d, c⟩) 3 h (by omega)
      omega
    · exact h
open Go
/-! Cutting at points. -/
theorem index_nil : Lib.index [] [46] = -1 := rfl
theorem index_cons (c : UInt8) (l : List UInt8) : Lib.index (c :: l) [46] = if c = 46 then 0 else if Lib.index l [46] == -1 then -1 else Lib.index l [46] + 1 := by
  rw [Lib.index]
  by_cases h : c = 46
  · subst h; simp
  · have : ([46] : List UInt8).isPrefixOf (c :: l) = false := by simp [List.isPrefixOf]; exact fun e => h e.symm
    rw [this, if_neg h]; rfl
theorem cutD_nil : cutD [] = ([], [], false) := rfl
theorem cutD_cons (c : UInt8) (l : List UInt8) : cutD (c :: l) = if c = 46 then ([], l, true) else (c :: (cutD l).1, (cutD l).2.1, (cutD l).2.2) := by
  unfold cutD Lib.cut
  rw [index_cons]
  have hg := Lib.index_ge l [46]
  by_cases h : c = 46
  · simp [h]
  · rw [if_neg h, if_neg h]
    by_cases h2 : Lib.index l [46] = -1
    · simp [h2]
    · have h3 : 0 ≤ Lib.index l [46] := by omega
      have h4 : (Lib.index l [46] == -1) = false := by simpa using h2
      rw [h4]
      simp only [Bool.false_eq_true, if_false]
      rw [if_pos (by omega), if_pos h3]
      obtain ⟨n, hn⟩ := Int.eq_ofNat_of_zero_le h3
      rw [hn, show ((n : Int) + 1).toNat = n + 1 from by omega, Int.toNat_natCast]
      simp
theorem cutD_app (w r : List UInt8) (hw : (46 : UInt8) ∉ w) : cutD (w ++ 46 :: r) = (w, r, true) := by
  induction w with
  | nil => rw [List.nil_append, cutD_cons, if_pos rfl]
  | cons c w ih =>
    simp only [List.mem_cons, not_or] at hw
    rw [List.cons_append, cutD_cons, if_neg (fun e => hw.1 e.symm), ih hw.2]
theorem cutD_none (w : List UInt8) (hw : (46 : UInt8) ∉ w) : cutD w = (w, [], false) := by
  induction w with
  | nil => rfl
  | cons c w ih =>
    simp only [List.mem_cons, not_or] at hw
    rw [cutD_cons, if_neg (fun e => hw.1 e.symm), ih hw.2]
theorem no_dot (w : List UInt8) (h : w.all isDig = true) : (46 : UInt8) ∉ w := fun hm => by
  have := isDig_bounds (List.all_eq_true.1 h _ hm)
  simp at this
/-- The text, sign by sign: w is the piece so far, v the number, n how many pieces are done. -/
def rg : List UInt8 → List UInt8 → Int → Nat → Option Int
  | [], w, v, n => if pbOk w = true ∧ n + 1 = 4 then some (256 * v + num10 w) else none
  | c :: r, w, v, n => if c = 46 then (if pbOk w = true ∧ n + 1 ≤ 4 then rg r [] (256 * v + num10 w) (n + 1) else none) else rg r (w ++ [c]) v n
theorem rg_many (r : List UInt8) : ∀ (w : List UInt8) (v : Int) (n : Nat), 4 ≤ n → rg r w v n = none := by
  induction r with
  | nil => intro w v n h; rw [rg, if_neg (by omega)]
  | cons c r ih =>
    intro w v n h
    rw [rg]
    split
    · rw [if_neg (by omega)]
    · exact ih _ _ _ h
/-- Numbers, put together. -/
def put (v : Int) (l : List Int) : Int := l.foldl (fun v x => 256 * v + x) v
theorem rg_pl (r : List UInt8) : ∀ (w : List UInt8) (v : Int) (n m : Nat), (46 : UInt8) ∉ w → n + (m + 1) = 4 → rg r w v n = (pl (m + 1) (w ++ r)).map (put v) := by
  induction r with
  | nil =>
    intro w v n m hw hn
    rw [rg, List.append_nil, pl, cutD_none w hw]
    by_cases h1 : pbOk w = true
    · by_cases h2 : m = 0
      · subst h2
        rw [if_pos ⟨h1, by omega⟩]
        simp [h1, pl, put]
      · rw [if_neg (by omega)]
        simp [h2]
    · rw [if_neg (fun h => h1 h.1)]
      simp [h1]
  | cons c r ih =>
    intro w v n m hw hn
    rw [rg]
    by_cases hc : c = 46
    · subst hc
      rw [if_pos rfl, pl, cutD_app w r hw]
      by_cases h1 : pbOk w = true
      · rw [if_pos ⟨h1, by omega⟩]
        by_cases h2 : m = 0
        · subst h2
          rw [rg_many _ _ _ _ (by omega)]
          simp
        · obtain ⟨m, rfl⟩ : ∃ j, m = j + 1 := ⟨m - 1, by omega⟩
          rw [ih [] _ (n + 1) m (by simp) (by omega)]
          simp only [h1, Bool.true_and, List.nil_append]
          rw [if_pos (by simp), Option.map_map]
          rfl
      · rw [if_neg (fun h => h1 h.1)]
        simp [h1]
    · rw [if_neg hc, ih (w ++ [c]) v n m (by simp; exact ⟨hw, fun e => hc e.symm⟩) hn]
      simp
theorem pl_len : ∀ (n : Nat) (r : List UInt8) (l : List Int), pl n r = some l → l.length = n := by
  intro n
  induction n with
  | zero => intro r l h; simp [pl] at h; subst h; rfl
  | succ n ih =>
    intro r l h
    rw [pl] at h
    split at h
    · cases hp : pl n (cutD r).2.1 with
      | none => rw [hp] at h; simp at h
      | some t => rw [hp] at h; simp at h; subst h; simp [ih _ _ hp]
    · simp at h
/-- Both readings are one. -/
theorem rg_is (l : List UInt8) : rg l [] 0 0 = ipOf l := by
  rw [rg_pl l [] 0 0 3 (by simp) rfl, List.nil_append]
  unfold ipOf
  cases h : pl 4 l with
  | none => rfl
  | some t =>
    have := pl_len 4 l t h
    match t, this with
    | [a, b, c, d], _ =>
      simp only [Option.map_some, ipNum, put, List.foldl_cons, List.foldl_nil]
      congr 1
      omega
theorem pbOk_dec (u : Nat) (h : u ≤ 255) : pbOk (Lib.decDigits u) = true := by
  rw [pbOk_val]
  unfold valOk
  rw [canon_dec, num10_dec]
  simp; omega
/-- An address's text is read as the address. -/
theorem ipOf_txt (a : Int) (ha : 0 ≤ a) (ha' : a < 4294967296) : ipOf (ipTxt a) = some a := by
  have key : ∀ (u : Int) (n : Nat) (r : List UInt8), 0 ≤ u → u ≤ 255 → pl (n + 2) (Lib.decDigits u.toNat ++ 46 :: r) = (pl (n + 1) r).map (u :: ·) := by
    intro u n r h0 h1
    rw [pl, cutD_app _ _ (no_dot _ (dec_all _))]
    rw [if_pos (by simp [pbOk_dec u.toNat (by omega)]), num10_dec, Int.toNat_of_nonneg h0]
  have last : ∀ (u : Int), 0 ≤ u → u ≤ 255 → pl 1 (Lib.decDigits u.toNat) = some [u] := by
    intro u h0 h1
    rw [pl, cutD_none _ (no_dot _ (dec_all _)), if_pos (by simp [pbOk_dec u.toNat (by omega)]), num10_dec, Int.toNat_of_nonneg h0]
    rfl
  have e : ipTxt a = Lib.decDigits (a / 16777216).toNat ++ 46 :: (Lib.decDigits (a / 65536 % 256).toNat ++ 46 :: (Lib.decDigits (a / 256 % 256).toNat ++ 46 :: Lib.decDigits (a % 256).toNat)) := by
    unfold ipTxt
    rw [txt_step, txt_step, txt_step, txt, if_pos rfl]
    simp [byteAt]
  unfold ipOf
  rw [e, key _ _ _ (by omega) (by omega), key _ _ _ (by omega) (by omega), key _ _ _ (by omega) (by omega), last _ (by omega) (by omega)]
  simp only [Option.map_some, ipNum]
  congr 1
  omega
open Go.RowKit
theorem str_eq (b : ByteArray) : (b.toList == b.toList) = true := by simp
theorem ba_mk (b : ByteArray) : (⟨b.data.toList.toArray⟩ : ByteArray) = b := by cases b; simp
/-- What a number's text comes to. -/
def valVal (most : Int) (l : List UInt8) : Value := if valOk most l = true then .tuple #[.int .i64 (num10 l), .bool true] else .tuple #[.int .i64 0, .bool false]
theorem val_no {most : Int} {l : List UInt8} (h : ¬ valOk most l = true) : valVal most l = .tuple #[.int .i64 0, .bool false] := if_neg h
theorem val_yes {most : Int} {l : List UInt8} (h : valOk most l = true) : valVal most l = .tuple #[.int .i64 (num10 l), .bool true] := if_pos h
theorem valOk_iff (most : Int) (l : List UInt8) : valOk most l = true ↔ canon l = true ∧ num10 l ≤ most := by unfold valOk; rw [Bool.and_eq_true, decide_eq_true_eq]
open Go.RowKit
/-- What the reference's reading comes to. -/
def refVal (o : Option Int) : Value := match o with
  | some n => .tuple #[.int .u32 n, .bool true]
  | none => .tuple #[.int .u32 0, .bool false]
theorem rg_dot {r w : List UInt8} {v : Int} {n : Nat} (h : pbOk w = true) (hn : n + 1 ≤ 4) : rg (46 :: r) w v n = rg r [] (256 * v + num10 w) (n + 1) := by
  rw [rg, if_pos rfl, if_pos ⟨h, hn⟩]
theorem rg_fail {r w : List UInt8} {v : Int} {n : Nat} (h : pbOk w = false ∨ 4 ≤ n) : rg (46 :: r) w v n = none ∧ rg [] w v n = none := by
  constructor
  · rw [rg, if_pos rfl, if_neg]
    rintro ⟨a, b⟩
    rcases h with h | h
    · simp [h] at a
    · omega
  · rw [rg, if_neg]
    rintro ⟨a, b⟩
    rcases h with h | h
    · simp [h] at a
    · omega
theorem rg_next {c : UInt8} {r w : List UInt8} {v : Int} {n : Nat} (h : c ≠ 46) : rg (c :: r) w v n = rg r (w ++ [c]) v n := by rw [rg, if_neg h]
theorem drop_cons (s : ByteArray) (k : Nat) (h : k < s.size) : s.data.toList.drop k = s[k] :: s.data.toList.drop (k + 1) := by
  rw [List.drop_eq_getElem_cons (by simpa using h)]; rfl
theorem one_extract (s : ByteArray) (k : Nat) (h : k < s.size) : (s.extract k (k + 1)).data.toList = [s[k]] := by
  rw [Lib.extract_data, drop_cons s k h, show k + 1 - k = 1 from by omega]; rfl
theorem app_list (t x : ByteArray) : (t ++ x).data.toList = t.data.toList ++ x.data.toList := by simp
theorem pow256 {m : Nat} {u x : Int} (hu : u < 256 ^ m) (hx : x ≤ 255) : 256 * u + x < 256 ^ (m + 1) := by
  rw [Int.pow_succ]; omega
theorem pow256_le {m : Nat} (h : m ≤ 4) : (256 : Int) ^ m ≤ 4294967296 := by
  match m, h with
  | 0, _ => decide
  | 1, _ => decide
  | 2, _ => decide
  | 3, _ => decide
  | 4, _ => decide
theorem slice1 (s : ByteArray) (k : Nat) (hk : k < s.size) (W : World) : (Instr.slice 9 (.string s) (some (.int .i64 (k : Int))) (some (.int .i64 ((k : Int) + 1))) none).run Tryd.prog W = .ok (.string (s.extract k (k + 1))) W := by
  rw [run_slice_string_if W 9 s .i64 .i64 k (k + 1) Tryd.underlying9, if_pos ⟨by omega, by omega⟩, if_pos ⟨by omega, by omega⟩, show ((k : Int) + 1).toNat = k + 1 from by omega, Int.toNat_natCast]
open Go.RowKit
theorem ip_some {o : Option Int} {n : Int} (h : o = some n) : ipVal o = .tuple #[.int .u32 n, .int .i64 0] ∧ refVal o = .tuple #[.int .u32 n, .bool true] := by subst h; exact ⟨rfl, rfl⟩
theorem ip_none {o : Option Int} (h : o = none) : ipVal o = .tuple #[.int .u32 0, .int .i64 3] ∧ refVal o = .tuple #[.int .u32 0, .bool false] := by subst h; exact ⟨rfl, rfl⟩
theorem sliceTo40 (s : ByteArray) (hs : 40 ≤ s.size) (W : World) : (Instr.slice 9 (.string s) none (some (.int .i64 40)) none).run Tryd.prog W = .ok (.string (s.extract 0 40)) W := by
  rw [run_slice_string_h W 9 s Tryd.underlying9 .i64 40 (by omega) (by omega)]; rfl
end Go.Proofs.YthpeimdjcibmgaaDoor
