/- What the functions of packages ip and of its reference come to: for each a contract (what it returns; it makes memory at most). The text of an address, and which address a text is, as plain functions on lists of bytes. -/
import Derived.Test.YthpeimdjcibmgaaDoorPre
import Derived.Test.YthpeimdjcibmgaaDoorPlain
import Derived.BigQuiet
import Derived.Lib.Hide
import Derived.Deep.QuietTactic
import Derived.LoopN
import Derived.Test.YthpeimdjcibmgaaDoorShelf
import Derived.Lib.UnsafeStr
import Derived.Laws.IdiomStrings
import Derived.OwnWalk
import Derived.BigCall
namespace Go.Proofs.YthpeimdjcibmgaaDoor
open Go.RowKit
def pbVal (l : List UInt8) : Value := if numOk 3 l = true ∧ num10 l ≤ 255 then .tuple #[.int .u8 (num10 l), .bool true] else .tuple #[.int .u8 0, .bool false]
theorem take_snoc (s : ByteArray) (k : Nat) (h : k < s.size) : s.data.toList.take (k + 1) = s.data.toList.take k ++ [s[k]] := by
  rw [List.take_succ_eq_append_getElem (by simpa using h)]; rfl
theorem isDig_of {c : UInt8} (h1 : ¬ (c.toNat : Int) < 48) (h2 : ¬ 57 < (c.toNat : Int)) : isDig c = true := by unfold isDig; exact decide_eq_true ⟨by omega, by omega⟩
theorem take_dig {s : ByteArray} {k : Nat} (h : k < s.size) (hd : (s.data.toList.take k).all isDig = true) (hc : isDig s[k] = true) : (s.data.toList.take (k + 1)).all isDig = true := by
  rw [take_snoc s k h, List.all_append, hd]; simp [hc]
theorem not_all {s : ByteArray} {k : Nat} (h : k < s.size) (hc : ¬ isDig s[k] = true) : ¬ s.data.toList.all isDig = true := fun ha => by
  have hk : k < s.data.toList.length := by simpa using h
  exact hc (List.all_eq_true.1 ha _ (List.getElem_mem hk))
theorem isDig_not {c : UInt8} (h : (c.toNat : Int) < 48 ∨ 57 < (c.toNat : Int)) : ¬ isDig c = true := fun hd => by
  have := isDig_bounds hd; omega
theorem pow10_le3 {k : Nat} (h : k ≤ 3) : (10 : Int) ^ k ≤ 1000 := by
  match k, h with
  | 0, _ => decide
  | 1, _ => decide
  | 2, _ => decide
  | 3, _ => decide
theorem len_of (s : ByteArray) : s.data.toList.length = s.size := rfl
theorem numOk_iff (k : Nat) (l : List UInt8) : numOk k l = true ↔ (1 ≤ l.length ∧ l.length ≤ k ∧ ¬ (1 < l.length ∧ l.getD 0 0 = 48)) ∧ l.all isDig = true := by
  unfold numOk
  simp only [Bool.and_eq_true, decide_eq_true_eq, Bool.not_eq_true', Bool.and_eq_false_iff, decide_eq_false_iff_not, beq_eq_false_iff_ne, ne_eq]
  constructor
  · rintro ⟨⟨⟨a, b⟩, c⟩, d⟩
    exact ⟨⟨a, b, fun ⟨e, f⟩ => by rcases c with c | c <;> contradiction⟩, d⟩
  · rintro ⟨⟨a, b, c⟩, d⟩
    refine ⟨⟨⟨a, b⟩, ?_⟩, d⟩
    by_cases h : 1 < l.length
    · exact .inr fun e => c ⟨h, e⟩
    · exact .inl h
theorem pb_no {l : List UInt8} (h : ¬ (numOk 3 l = true ∧ num10 l ≤ 255)) : pbVal l = .tuple #[.int .u8 0, .bool false] := if_neg h
theorem pb_yes {l : List UInt8} (h : numOk 3 l = true ∧ num10 l ≤ 255) : pbVal l = .tuple #[.int .u8 (num10 l), .bool true] := if_pos h
theorem byte0 {s : ByteArray} (h : 0 < s.size) : s.data.toList.getD 0 0 = s[0] := by
  have hk : 0 < s.data.toList.length := by simpa using h
  rw [List.getD_eq_getElem?_getD, List.getElem?_eq_getElem hk]; rfl
theorem byte_eq {c : UInt8} {n : Nat} (hn : n < 256) : c = UInt8.ofNat n ↔ (c.toNat : Int) = n := by
  constructor
  · rintro rfl; simp [UInt8.toNat_ofNat']; omega
  · intro h; apply UInt8.toNat_inj.1; simp [UInt8.toNat_ofNat']; omega
theorem all_of_take {l : List UInt8} {k : Nat} (h : (l.take k).all isDig = true) (hk : l.length ≤ k) : l.all isDig = true := by rwa [List.take_of_length_le hk] at h
/-- The loop over the digits, whatever stood ahead of it. -/
theorem pb_in (s : ByteArray) (h1 : 1 ≤ s.size) (h3 : s.size ≤ 3) (h0 : ¬ (1 < s.size ∧ (s.data.toList.getD 0 0) = 48)) (hd : s.data.toList.all isDig = true) : numOk 3 s.data.toList = true :=
  (numOk_iff 3 _).2 ⟨⟨h1, h3, h0⟩, hd⟩
set_option maxHeartbeats 400000 in
theorem parseByte_loop (s : ByteArray) (w : World) (h1 : 1 ≤ s.size) (h3 : s.size ≤ 3) (hz : (1 < s.size ∧ ((s[0].toNat : Int) == 48) = false) ∨ s.size = 1) :
    Calls Tryd.prog 70 #[.string s] w fun e w' => e = .returned (pbVal s.data.toList) ∧ w = w' := by
  have d1 : decide ((s.size : Int) < 1) = false := by simp; omega
  have d3 : decide (3 < (s.size : Int)) = false := by simp; omega
  have hn0 : ¬ (1 < s.size ∧ (s.data.toList.getD 0 0) = 48) := by
    rintro ⟨ha, hb⟩
    rcases hz with ⟨_, h⟩ | h
    · rw [byte0 (by omega), show (48 : UInt8) = UInt8.ofNat 48 from rfl, byte_eq (by omega)] at hb
      simp [hb] at h
    · omega
  have HN := Lib.hid hn0
  clear hn0
  rcases hz with ⟨hz, h0⟩ | hz
  case' inl => have dz : decide (1 < (s.size : Int)) = true := by simp; omega
  case' inr =>
    have dz : decide (1 < (s.size : Int)) = false := by simp; omega
    have hz' : s.size ≤ 1 := by omega
    clear hz
  all_goals
    go_enter Tryd.func70, Tryd.ntmps70
    go_wp2
    go_loop [4, 5, 26] (fun n _ i => ∃ k : Nat, k ≤ s.size ∧ i = .int .i64 k ∧ n = .int .i64 (num10 (s.data.toList.take k)) ∧ (s.data.toList.take k).all isDig = true) (fun _ _ i => s.size - (intOf i).toNat)
    case atStart => exact ⟨0, Nat.zero_le _, rfl, rfl, rfl⟩
    case round =>
      obtain ⟨k, hk, rfl, rfl, hd⟩ := hrel
      have hb := num10_bounds _ hd
      have hp := pow10_le3 (k := (s.data.toList.take k).length) (by have := List.length_take_le k s.data.toList; omega)
      have hb1 : 0 ≤ num10 (s.data.toList.take k) := hb.1
      have hb2 : num10 (s.data.toList.take k) < 1000 := by omega
      have HD := Lib.hid hd
      clear hd hb hp
      by_cases hlt : k < s.size
      · by_cases ha : (s[k].toNat : Int) < 48
        · have da : decide ((s[k].toNat : Int) < 48) = true := by simpa using ha
          have HV := Lib.hid (pb_no (l := s.data.toList) (fun h => not_all hlt (isDig_not (.inl ha)) ((numOk_iff _ _).1 h.1).2))
          go_wp2
          go_ret2
          exact ⟨congrArg Ending.returned HV.out.symm, rfl⟩
        · by_cases hc : 57 < (s[k].toNat : Int)
          · have da : decide ((s[k].toNat : Int) < 48) = false := by simpa using ha
            have dc : decide (57 < (s[k].toNat : Int)) = true := by simpa using hc
            have HV := Lib.hid (pb_no (l := s.data.toList) (fun h => not_all hlt (isDig_not (.inr hc)) ((numOk_iff _ _).1 h.1).2))
            go_wp2
            go_ret2
            exact ⟨congrArg Ending.returned HV.out.symm, rfl⟩
          · have da : decide ((s[k].toNat : Int) < 48) = false := by simpa using ha
            have dc : decide (57 < (s[k].toNat : Int)) = false := by simpa using hc
            go_wp2
            go_round
            case rel => exact ⟨k + 1, by omega, by go_num, by rw [take_snoc s k hlt, num10_snoc], take_dig hlt HD.out (isDig_of ha hc)⟩
            case measure => simp [intOf]; omega
      · have ek : s.data.toList.take k = s.data.toList := List.take_of_length_le (by rw [len_of]; omega)
        by_cases h255 : num10 (s.data.toList.take k) ≤ 255
        · have HV : Hid (pbVal s.data.toList = .tuple #[.int .u8 (num10 (s.data.toList.take k)), .bool true]) := by
            refine Lib.hid ?_
            have h' := h255
            have hall := HD.out
            rw [ek] at h' hall ⊢
            exact pb_yes ⟨pb_in s h1 h3 HN.out hall, h'⟩
          clear ek
          go_wp2
          go_ret2
          exact ⟨congrArg Ending.returned HV.out.symm, rfl⟩
        · have HV := Lib.hid (pb_no (l := s.data.toList) (fun h => h255 (by rw [ek]; exact h.2)))
          clear ek
          go_wp2
          go_ret2
          exact ⟨congrArg Ending.returned HV.out.symm, rfl⟩
theorem parseByte_any (s : ByteArray) (w : World) (hs : s.size ≤ 1000) :
    Calls Tryd.prog 70 #[.string s] w fun e w' => e = .returned (pbVal s.data.toList) ∧ w = w' := by
  by_cases h1 : 1 ≤ s.size
  · by_cases h3 : s.size ≤ 3
    · by_cases hz : 1 < s.size
      · by_cases h0 : ((s[0].toNat : Int) == 48) = true
        · have d1 : decide ((s.size : Int) < 1) = false := by simp; omega
          have d3 : decide (3 < (s.size : Int)) = false := by simp; omega
          have dz : decide (1 < (s.size : Int)) = true := by simp; omega
          have HV := Lib.hid (pb_no (l := s.data.toList) (fun h => ((numOk_iff _ _).1 h.1).1.2.2 ⟨by rw [len_of]; exact hz, by
            rw [byte0 (by omega), show (48 : UInt8) = UInt8.ofNat 48 from rfl, byte_eq (by omega)]; exact eq_of_beq h0⟩))
          go_enter Tryd.func70, Tryd.ntmps70
          go_wp2
          go_ret2
          exact ⟨congrArg Ending.returned HV.out.symm, rfl⟩
        · exact parseByte_loop s w h1 h3 (.inl ⟨hz, by simpa using h0⟩)
      · exact parseByte_loop s w h1 h3 (.inr (by omega))
    · have d1 : decide ((s.size : Int) < 1) = false := by simp; omega
      have d3 : decide (3 < (s.size : Int)) = true := by simp; omega
      have HV := Lib.hid (pb_no (l := s.data.toList) (fun h => h3 (by have := ((numOk_iff _ _).1 h.1).1.2.1; rwa [len_of] at this)))
      go_enter Tryd.func70, Tryd.ntmps70
      go_wp2
      go_ret2
      exact ⟨congrArg Ending.returned HV.out.symm, rfl⟩
  · have d1 : decide ((s.size : Int) < 1) = true := by simp; omega
    have HV := Lib.hid (pb_no (l := s.data.toList) (fun h => h1 (by have := ((numOk_iff _ _).1 h.1).1.1; rwa [len_of] at this)))
    go_enter Tryd.func70, Tryd.ntmps70
    go_wp2
    go_ret2
    exact ⟨congrArg Ending.returned HV.out.symm, rfl⟩
open Go.RowKit
theorem or256 (x y : Int) (hx : 0 ≤ x) (hx' : x < 16777216) (hy : 0 ≤ y) (hy' : y ≤ 255) : bits .or .u32 (x * 256 % 4294967296) y = x * 256 + y := by
  rw [show x * 256 % 4294967296 = x * 256 from by omega, u32_or _ _ (by omega) (by omega) hy (by omega), nat_join 8 _ _ (by omega) (by omega)]
  omega
theorem or0 (y : Int) (hy : 0 ≤ y) (hy' : y ≤ 255) : bits .or .u32 0 y = y := by
  have := or256 0 y (by omega) (by omega) hy hy'
  simpa using this
theorem of_eq (a b c d : Int) (ha : 0 ≤ a) (ha' : a ≤ 255) (hb : 0 ≤ b) (hb' : b ≤ 255) (hc : 0 ≤ c) (hc' : c ≤ 255) (hd : 0 ≤ d) (hd' : d ≤ 255) :
    bits .or .u32 (bits .or .u32 (bits .or .u32 (bits .or .u32 0 a * 256 % 4294967296) b * 256 % 4294967296) c * 256 % 4294967296) d = ((a * 256 + b) * 256 + c) * 256 + d := by
  rw [or0 a ha ha', or256 a b ha (by omega) hb hb', or256 _ c (by omega) (by omega) hc hc', or256 _ d (by omega) (by omega) hd hd']
set_option maxHeartbeats 400000 in
theorem of_any (a b c d : Int) (ha : 0 ≤ a) (ha' : a ≤ 255) (hb : 0 ≤ b) (hb' : b ≤ 255) (hc : 0 ≤ c) (hc' : c ≤ 255) (hd : 0 ≤ d) (hd' : d ≤ 255) (w : World) :
    Calls Tryd.prog 71 #[.agg #[.int .u8 a, .int .u8 b, .int .u8 c, .int .u8 d]] w fun e w' => e = .returned (.int .u32 (((a * 256 + b) * 256 + c) * 256 + d)) ∧ Below w.heap.size w w' := by
  have HV := Lib.hid (of_eq a b c d ha ha' hb hb' hc hc' hd hd')
  go_enter Tryd.func71, Tryd.ntmps71
  go_wp2
  refine wp_loop_rounds 5 ?_
  rw [rounds_succ]
  go_wp2
  rw [rounds_succ]
  go_wp2
  rw [rounds_succ]
  go_wp2
  rw [rounds_succ]
  go_wp2
  rw [rounds_succ]
  go_wp2
  go_ret
  exact ⟨congrArg (fun x => Ending.returned (.int .u32 x)) HV.out, (Below.refl _ _).alloc (Nat.le_refl _) _⟩
set_option maxHeartbeats 400000 in
theorem bytes_any (a : Int) (ha : 0 ≤ a) (ha' : a < 4294967296) (w : World) :
    Calls Tryd.prog 67 #[.int .u32 a] w fun e w' => e = .returned (.agg #[.int .u8 (a / 16777216), .int .u8 (a / 65536 % 256), .int .u8 (a / 256 % 256), .int .u8 (a % 256)]) ∧ Below w.heap.size w w' := by
  go_enter Tryd.func67, Tryd.ntmps67
  go_wp2
  refine wp_loop_rounds 5 ?_
  rw [rounds_succ]
  go_wp2
  rw [rounds_succ]
  go_wp2
  rw [rounds_succ]
  go_wp2
  rw [rounds_succ]
  go_wp2
  rw [rounds_succ]
  go_wp2
  refine bodyPost_ret (v := .agg #[.int .u8 (a / 16777216), .int .u8 (a / 65536 % 256), .int .u8 (a / 256 % 256), .int .u8 (a % 256)]) ?_ rfl ⟨rfl, ?_⟩
  · simp [results, Tryd.results67, go_sem]
  · exact ((Below.refl _ _).alloc (Nat.le_refl _) _).alloc (by simp) _
set_option maxHeartbeats 400000 in
theorem refByte0 (a : Int) (ha : 0 ≤ a) (ha' : a < 4294967296) (w : World) :
    Calls Tryd.prog 57 #[.int .u32 a, .int .i64 0] w fun e w' => e = .returned (.int .i64 (a / 16777216)) ∧ w = w' := by
  go_enter Tryd.func57, Tryd.ntmps57
  go_wp2
  refine wp_loop_rounds 4 ?_
  rw [rounds_succ]
  go_wp2
  rw [rounds_succ]
  go_wp2
  rw [rounds_succ]
  go_wp2
  rw [rounds_succ]
  go_wp2
  go_ret
  exact ⟨congrArg (fun x => Ending.returned (.int .i64 x)) (show a / 256 / 256 / 256 % 256 = _ by omega), rfl⟩
set_option maxHeartbeats 400000 in
theorem refByte1 (a : Int) (ha : 0 ≤ a) (ha' : a < 4294967296) (w : World) :
    Calls Tryd.prog 57 #[.int .u32 a, .int .i64 1] w fun e w' => e = .returned (.int .i64 (a / 65536 % 256)) ∧ w = w' := by
  go_enter Tryd.func57, Tryd.ntmps57
  go_wp2
  refine wp_loop_rounds 3 ?_
  rw [rounds_succ]
  go_wp2
  rw [rounds_succ]
  go_wp2
  rw [rounds_succ]
  go_wp2
  go_ret
  exact ⟨congrArg (fun x => Ending.returned (.int .i64 x)) (show a / 256 / 256 % 256 = _ by omega), rfl⟩
set_option maxHeartbeats 400000 in
theorem refByte2 (a : Int) (ha : 0 ≤ a) (ha' : a < 4294967296) (w : World) :
    Calls Tryd.prog 57 #[.int .u32 a, .int .i64 2] w fun e w' => e = .returned (.int .i64 (a / 256 % 256)) ∧ w = w' := by
  go_enter Tryd.func57, Tryd.ntmps57
  go_wp2
  refine wp_loop_rounds 2 ?_
  rw [rounds_succ]
  go_wp2
  rw [rounds_succ]
  go_wp2
  go_ret
  exact ⟨rfl, rfl⟩
set_option maxHeartbeats 400000 in
theorem refByte3 (a : Int) (ha : 0 ≤ a) (ha' : a < 4294967296) (w : World) :
    Calls Tryd.prog 57 #[.int .u32 a, .int .i64 3] w fun e w' => e = .returned (.int .i64 (a % 256)) ∧ w = w' := by
  go_enter Tryd.func57, Tryd.ntmps57
  go_wp2
  refine wp_loop_rounds 1 ?_
  rw [rounds_succ]
  go_wp2
  go_ret
  exact ⟨rfl, rfl⟩
open Go.RowKit
def cutD (l : List UInt8) : List UInt8 × List UInt8 × Bool := Lib.cut l [46]
/-- Is a text a byte's? -/
def pbOk (l : List UInt8) : Bool := numOk 3 l && decide (num10 l ≤ 255)
/-- n numbers, with points between. -/
def pl : Nat → List UInt8 → Option (List Int)
  | 0, _ => some []
  | n + 1, r => if (pbOk (cutD r).1 && ((cutD r).2.2 != decide (n = 0))) = true then (pl n (cutD r).2.1).map (num10 (cutD r).1 :: ·) else none
def ipNum : Option (List Int) → Option Int
  | some [a, b, c, d] => some (((a * 256 + b) * 256 + c) * 256 + d)
  | _ => none
def ipVal (o : Option Int) : Value := match o with
  | some n => .tuple #[.int .u32 n, .int .i64 0]
  | none => .tuple #[.int .u32 0, .int .i64 3]
/-- Which address a text is. -/
def ipOf (l : List UInt8) : Option Int := ipNum (pl 4 l)
theorem parseByte_yes (l : List UInt8) (h : pbOk l = true) (hl : l.length ≤ 1000) (w : World) :
    Calls Tryd.prog 70 #[.string ⟨l.toArray⟩] w fun e w' => e = .returned (.tuple #[.int .u8 (num10 l), .bool true]) ∧ w = w' := by
  have := parseByte_any ⟨l.toArray⟩ w (by simpa [ByteArray.size] using hl)
  rwa [pb_yes (by unfold pbOk at h; simpa using h)] at this
theorem parseByte_no (l : List UInt8) (h : pbOk l = false) (hl : l.length ≤ 1000) (w : World) :
    Calls Tryd.prog 70 #[.string ⟨l.toArray⟩] w fun e w' => e = .returned (.tuple #[.int .u8 0, .bool false]) ∧ w = w' := by
  have := parseByte_any ⟨l.toArray⟩ w (by simpa [ByteArray.size] using hl)
  rwa [pb_no (fun h' => by unfold pbOk at h; simp [h'.1, h'.2] at h)] at this
theorem cutD_len (l : List UInt8) : (cutD l).1.length ≤ l.length ∧ (cutD l).2.1.length ≤ l.length := by
  unfold cutD Lib.cut
  split
  · simp only [List.length_take, List.length_drop]; omega
  · simp
theorem pbOk_bounds {l : List UInt8} (h : pbOk l = true) : 0 ≤ num10 l ∧ num10 l ≤ 255 := by
  unfold pbOk at h
  rw [Bool.and_eq_true, decide_eq_true_eq] at h
  exact ⟨(num10_bounds l ((numOk_iff _ _).1 h.1).2).1, h.2⟩
theorem Env.maxAll {w : World} (hE : Env w) : ∃ m : Int, ∀ W : World, Below w.heap.size w W → W.cell? ⟨0, 0, none⟩ = some (.int .i64 m) := by
  obtain ⟨m, hm⟩ := hE.max
  exact ⟨m, fun W hb => (hb.cell (p := ⟨0, 0, none⟩) hE.lt1).trans hm⟩
theorem drewN_below (w W : World) (n : Nat) (h : Below w.heap.size w W) : Below w.heap.size w (W.drewN n) := below_drewN h n
theorem pl_none {n : Nat} {r : List UInt8} (h : pbOk (cutD r).1 = false ∨ (cutD r).2.2 = decide (n = 0)) : pl (n + 1) r = none := by
  rw [pl, if_neg]
  rcases h with h | h <;> simp [h]
theorem pl_some {n : Nat} {r : List UInt8} (h1 : pbOk (cutD r).1 = true) (h2 : (cutD r).2.2 = !decide (n = 0)) : pl (n + 1) r = (pl n (cutD r).2.1).map (num10 (cutD r).1 :: ·) := by
  rw [pl, if_pos]
  simp [h1, h2]
theorem pl_step {S r : List UInt8} {n : Nat} {pre : List Int} (hP : pl 4 S = (pl (n + 1) r).map (fun t => pre ++ t)) (h1 : pbOk (cutD r).1 = true) (h2 : (cutD r).2.2 = !decide (n = 0)) :
    pl 4 S = (pl n (cutD r).2.1).map (fun t => (pre ++ [num10 (cutD r).1]) ++ t) := by
  rw [hP, pl_some h1 h2, Option.map_map]
  congr 1
  funext t
  simp
theorem pl_fail {S r : List UInt8} {n : Nat} {pre : List Int} (hP : pl 4 S = (pl (n + 1) r).map (fun t => pre ++ t)) (h : pbOk (cutD r).1 = false ∨ (cutD r).2.2 = decide (n = 0)) :
    ipVal (ipOf S) = .tuple #[.int .u32 0, .int .i64 3] := by
  unfold ipOf
  rw [hP, pl_none h]; rfl
theorem pl_done {S r : List UInt8} {a b c d : Int} (hP : pl 4 S = (pl 0 r).map (fun t => [a, b, c, d] ++ t)) : ipVal (ipOf S) = .tuple #[.int .u32 (((a * 256 + b) * 256 + c) * 256 + d), .int .i64 0] := by
  unfold ipOf
  rw [hP]; rfl
theorem size_mk (l : List UInt8) : (⟨l.toArray⟩ : ByteArray).size = l.length := by simp [ByteArray.size]
theorem set4 (w : World) (cs : Array Value) (n i : Nat) (v : Value) : ((w.alloc (.cells cs 88)).drewN n).setCell ⟨w.heap.size, i, none⟩ v = (w.alloc (.cells (cs.setIfInBounds i v) 88)).drewN n := by
  rw [show ((w.alloc (.cells cs 88)).drewN n).setCell ⟨w.heap.size, i, none⟩ v = ((w.alloc (.cells cs 88)).setCell ⟨w.heap.size, i, none⟩ v).drewN n from rfl, World.setCell_alloc_at _ _ _ _ _ rfl]
set_option maxHeartbeats 4000000 in
theorem parse_any (s : ByteArray) (w : World) (hE : Env w) (hs : s.size ≤ 1000) :
    Calls Tryd.prog 59 #[.string s] w fun e w' => e = .returned (ipVal (ipOf s.data.toList)) ∧ Below w.heap.size w w' := by
  obtain ⟨m, hm⟩ := hE.maxAll
  have HM := Lib.hid hm
  clear hm hE
  go_enter Tryd.func59, Tryd.ntmps59
  go_wp2
  go_loopw [5, 14] (fun r i wr => ∃ (k : Nat) (rest : ByteArray) (a0 a1 a2 a3 : Int) (n : Nat), k ≤ 4 ∧ i = .int .i64 k ∧ r = .string rest ∧ rest.size ≤ 1000 ∧ wr = (w.alloc (.cells #[.int .u8 a0, .int .u8 a1, .int .u8 a2, .int .u8 a3] 88)).drewN n ∧
      Hid (pl 4 s.data.toList = (pl (4 - k) rest.data.toList).map (fun t => [a0, a1, a2, a3].take k ++ t)) ∧ 0 ≤ a0 ∧ a0 ≤ 255 ∧ 0 ≤ a1 ∧ a1 ≤ 255 ∧ 0 ≤ a2 ∧ a2 ≤ 255 ∧ 0 ≤ a3 ∧ a3 ≤ 255)
    (fun _ i _ => 4 - (intOf i).toNat)
  case atStart =>
    refine ⟨0, s, 0, 0, 0, 0, 0, by omega, rfl, rfl, hs, rfl, Lib.hid ?_, by omega⟩
    simp
  case round =>
    obtain ⟨k, rest, a0, a1, a2, a3, n, hk, rfl, rfl, hr, rfl, HP, h00, h01, h10, h11, h20, h21, h30, h31⟩ := hrel
    have hl := cutD_len rest.data.toList
    rw [len_of] at hl
    rcases (show k = 0 ∨ k = 1 ∨ k = 2 ∨ k = 3 ∨ k = 4 by omega) with rfl | rfl | rfl | rfl | rfl
    case inr.inr.inr.inr =>
      have HV := Lib.hid (pl_done HP.out)
      clear HP
      go_wp2_with (go_at_call 71; refine (of_any a0 a1 a2 a3 h00 h01 h10 h11 h20 h21 h30 h31 _).mono ?_; rintro e w' ⟨rfl, hb⟩)
      go_ret2
      exact ⟨congrArg Ending.returned HV.out.symm, ((drewN_below _ _ _ ((Below.refl _ _).alloc (Nat.le_refl _) _))).trans (hb.mono (by simp))⟩
    all_goals
      by_cases hok : pbOk (cutD rest.data.toList).1 = true
      · obtain ⟨q1, q2⟩ := pbOk_bounds hok
        have HF := Lib.hid (fun h => pl_fail HP.out (.inr h))
        have HG := Lib.hid (fun h => pl_step HP.out hok h)
        clear HP
        go_wp2_with (first
          | (go_at_call 35; refine (Tryd.strings_Cut rest ⟨#[46]⟩ m _ (by omega) (HM.out _ (drewN_below _ _ _ ((Below.refl _ _).alloc (Nat.le_refl _) _)))).mono ?_; rintro e w' ⟨rfl, n1, rfl⟩)
          | (go_at_call 70; refine (parseByte_yes _ hok (by omega) _).mono ?_; rintro e w' ⟨rfl, rfl⟩))
        · go_ret2
          refine ⟨congrArg Ending.returned (HF.out ?_).symm, drewN_below _ _ _ ((Below.refl _ _).alloc (Nat.le_refl _) _)⟩
          first
            | (have t : (!(Lib.cut rest.data.toList [46]).snd.snd) = true := by assumption
               simpa [cutD] using t)
            | (have t : (Lib.cut rest.data.toList [46]).snd.snd = true := by assumption
               simpa [cutD] using t)
        · have HT : Hid (pl 4 s.data.toList = _) := Lib.hid (HG.out (by
            first
              | (have t : (!(Lib.cut rest.data.toList [46]).snd.snd) = false := by assumption
                 simpa [cutD] using t)
              | (have t : (Lib.cut rest.data.toList [46]).snd.snd = false := by assumption
                 simpa [cutD] using t)))
          go_roundw
          case rel =>
            first
              | exact ⟨1, _, _, _, _, _, _, by omega, rfl, rfl, by rw [size_mk]; exact Nat.le_trans hl.2 hr, set4 w _ _ _ _, HT, q1, q2, h10, h11, h20, h21, h30, h31⟩
              | exact ⟨2, _, _, _, _, _, _, by omega, rfl, rfl, by rw [size_mk]; exact Nat.le_trans hl.2 hr, set4 w _ _ _ _, HT, h00, h01, q1, q2, h20, h21, h30, h31⟩
              | exact ⟨3, _, _, _, _, _, _, by omega, rfl, rfl, by rw [size_mk]; exact Nat.le_trans hl.2 hr, set4 w _ _ _ _, HT, h00, h01, h10, h11, q1, q2, h30, h31⟩
              | exact ⟨4, _, _, _, _, _, _, by omega, rfl, rfl, by rw [size_mk]; exact Nat.le_trans hl.2 hr, set4 w _ _ _ _, HT, h00, h01, h10, h11, h20, h21, q1, q2⟩
          case measure => simp [intOf]
      · have hno : pbOk (cutD rest.data.toList).1 = false := by simpa using hok
        have HF := Lib.hid (pl_fail HP.out (.inl hno))
        clear HP
        go_wp2_with (first
          | (go_at_call 35; refine (Tryd.strings_Cut rest ⟨#[46]⟩ m _ (by omega) (HM.out _ (drewN_below _ _ _ ((Below.refl _ _).alloc (Nat.le_refl _) _)))).mono ?_; rintro e w' ⟨rfl, n1, rfl⟩)
          | (go_at_call 70; refine (parseByte_no _ hno (by omega) _).mono ?_; rintro e w' ⟨rfl, rfl⟩))
        go_ret2
        exact ⟨congrArg Ending.returned HF.out.symm, drewN_below _ _ _ ((Below.refl _ _).alloc (Nat.le_refl _) _)⟩
open Go.RowKit
theorem dec_len (u : Nat) (h : u ≤ 255) : (Lib.decDigits u).length ≤ 3 := by
  rw [Lib.decDigits_length]
  by_cases h1 : u < 10
  · rw [Lib.nDigits_small h1]; omega
  · rw [Lib.nDigits_big h1]
    by_cases h2 : u / 10 < 10
    · rw [Lib.nDigits_small h2]; omega
    · rw [Lib.nDigits_big h2, Lib.nDigits_small (by omega)]; omega
theorem auint_in (B n u : Nat) (hu : u ≤ 255) (sv : Value) (xs : List Value) (w : World) (hown : w.ownsRow B 5 1 sv n xs) (hBw : B ≤ w.heap.size) (hlim : n ≤ 1000) (htab : Lib.TabIs Tryd.prog w "internal/strconv.uint64pow10" .u64 Lib.pow10Tab) :
    Calls Tryd.prog 78 #[sv, .int .u64 u, .int .i64 10] w fun e w' => ∃ v', e = .returned v' ∧ w'.ownsRow B 5 1 v' (n + (Lib.decDigits u).length) (xs ++ Lib.byteCells (Lib.decDigits u)) ∧ Below B w w' := by
  by_cases h : u < 100
  · exact (Tryd.internal_strconv_AppendUint_10_small B n u h sv xs w hown hBw (by omega)).mono fun e w' ⟨v', h1, h2, h3, _⟩ => ⟨v', h1, h2, h3⟩
  · exact (Tryd.internal_strconv_AppendUint_10_big B n u (by omega) (by omega) sv xs w hown hBw (by omega) htab).mono fun e w' ⟨v', h1, h2, h3, _⟩ => ⟨v', h1, h2, h3⟩
/-- What an append leaves. -/
def Owned (B n : Nat) (xs : List Value) (w : World) (e : Ending) (w' : World) : Prop := ∃ v', e = .returned v' ∧ w'.ownsRow B 5 1 v' n xs ∧ Below B w w'
theorem auint_any (B n : Nat) (u : Int) (hu0 : 0 ≤ u) (hu : u ≤ 255) (sv : Value) (xs : List Value) (w : World) (hown : w.ownsRow B 5 1 sv n xs) (hBw : B ≤ w.heap.size) (hlim : n ≤ 1000) (htab : Lib.TabIs Tryd.prog w "internal/strconv.uint64pow10" .u64 Lib.pow10Tab) :
    Calls Tryd.prog 68 #[sv, .int .u64 u, .int .i64 10] w (Owned B (n + (Lib.decDigits u.toNat).length) (xs ++ Lib.byteCells (Lib.decDigits u.toNat)) w) := by
  obtain ⟨u, rfl⟩ := Int.eq_ofNat_of_zero_le hu0
  rw [Int.toNat_natCast]
  go_enter Tryd.func68, Tryd.ntmps68
  go_wp2_with (go_at_call 78; refine (auint_in B n u (by omega) sv xs _ hown hBw hlim htab).mono ?_; rintro e w' ⟨v', rfl, h1, h2⟩)
  go_ret
  exact ⟨_, rfl, h1, h2⟩
open Go.RowKit
/-- Byte k of an address, 0 the highest one. -/
def byteAt (a : Int) (k : Nat) : Int := match k with
  | 0 => a / 16777216
  | 1 => a / 65536 % 256
  | 2 => a / 256 % 256
  | _ => a % 256
theorem byteAt_bounds (a : Int) (ha : 0 ≤ a) (ha' : a < 4294967296) (k : Nat) : 0 ≤ byteAt a k ∧ byteAt a k ≤ 255 := by
  unfold byteAt; split <;> omega
/-- The text of the first k bytes. -/
def txt (a : Int) : Nat → List UInt8
  | 0 => []
  | k + 1 => (if k = 0 then [] else txt a k ++ [46]) ++ Lib.decDigits (byteAt a k).toNat
/-- An address's text. -/
def ipTxt (a : Int) : List UInt8 := txt a 4
theorem txt_len (a : Int) (ha : 0 ≤ a) (ha' : a < 4294967296) (k : Nat) : (txt a k).length ≤ 4 * k := by
  induction k with
  | zero => simp [txt]
  | succ k ih =>
    have := dec_len (byteAt a k).toNat (by have := byteAt_bounds a ha ha' k; omega)
    unfold txt
    split <;> simp only [List.length_append, List.length_nil, List.length_singleton] <;> omega
theorem byteInfo : (Tryd.prog.info? 5).map (fun i => (i.zero, i.size, i.bytes)) = some (some (.int .u8 0), 1, 1) := by kernel_rfl
theorem cellsOne (w : World) (b : UInt8) : ∀ (j : Nat) (u : Value), [Value.int .u8 (b.toNat : Int)][j]? = some u → (w.alloc (.cells #[.int .u8 (b.toNat : Int)] 5)).cell? ((⟨w.heap.size, 0, none⟩ : Addr).add j) = some u := by
  intro j u hj
  match j, hj with
  | 0, hj => simp at hj; subst hj; simp [Addr.add]
theorem byteCells_app (l r : List UInt8) : Lib.byteCells l ++ Lib.byteCells r = Lib.byteCells (l ++ r) := by simp [Lib.byteCells]
theorem byteCells_dot (l : List UInt8) : Lib.byteCells l ++ [Value.int .u8 46] = Lib.byteCells (l ++ [46]) := by simp [Lib.byteCells]
/-- The array of an address's bytes. -/
def arr4 (a : Int) : Obj := .cells #[.int .u8 (a / 16777216), .int .u8 (a / 65536 % 256), .int .u8 (a / 256 % 256), .int .u8 (a % 256)] 88
theorem arr4_cell (a : Int) (w W : World) (hb : Below (w.heap.size + 1) (w.alloc (arr4 a)) W) (k : Nat) (hk : k < 4) : W.cell? ⟨w.heap.size, k, none⟩ = some (.int .u8 (byteAt a k)) := by
  rw [hb.cell (p := ⟨w.heap.size, k, none⟩) (Nat.lt_succ_self _)]
  match k, hk with
  | 0, _ => unfold arr4; simp [byteAt]
  | 1, _ => unfold arr4; simp [byteAt]
  | 2, _ => unfold arr4; simp [byteAt]
  | 3, _ => unfold arr4; simp [byteAt]
theorem txt_step (a : Int) (k : Nat) : txt a (k + 2) = (txt a (k + 1) ++ [46]) ++ Lib.decDigits (byteAt a (k + 1)).toNat := by
  rw [txt, if_neg (by omega)]
theorem own_step {a : Int} {k B : Nat} {v : Value} {w : World} (h : w.ownsRow B 5 1 v ((txt a (k + 1)).length + 1 + (Lib.decDigits (byteAt a (k + 1)).toNat).length) (Lib.byteCells ((txt a (k + 1) ++ [46]) ++ Lib.decDigits (byteAt a (k + 1)).toNat))) :
    w.ownsRow B 5 1 v (txt a (k + 2)).length (Lib.byteCells (txt a (k + 2))) := by
  rw [txt_step, List.length_append, List.length_append, List.length_singleton]
  exact h
set_option maxHeartbeats 4000000 in
theorem print_any (a : Int) (ha : 0 ≤ a) (ha' : a < 4294967296) (w : World) (hE : Env w) :
    Calls Tryd.prog 54 #[.int .u32 a] w fun e w' => e = .returned (.string ⟨(ipTxt a).toArray⟩) ∧ Below w.heap.size w w' := by
  obtain ⟨i0, hi, hz0, hz1, hz2⟩ := info_parts byteInfo
  have hB := Lib.hid (byteAt_bounds a ha ha')
  have hL := Lib.hid (txt_len a ha ha')
  go_enter Tryd.func54, Tryd.ntmps54
  go_wp2_with (go_at_call 67; refine (bytes_any a ha ha' _).mono ?_; rintro e w1 ⟨rfl, hb1⟩)
  have hz := hb1.size
  go_loopw [4, 8] (fun v i wr => ∃ k : Nat, k ≤ 4 ∧ i = .int .i64 k ∧ wr.ownsRow (w1.heap.size + 1) 5 1 v (txt a k).length (Lib.byteCells (txt a k)) ∧ Below (w1.heap.size + 1) (w1.alloc (arr4 a)) wr) (fun _ i _ => 4 - (intOf i).toNat)
  case atStart => exact ⟨0, by omega, rfl, World.ownsRow_nil _ _ _ _, Below.refl _ _⟩
  case round =>
    obtain ⟨k, hk, rfl, hown, hbr⟩ := hrel
    have hE' : Env wr := hE.below (hb1.trans ((((Below.refl w.heap.size w1).alloc (by omega) _).trans (hbr.mono (by omega)))))
    have hsz := hbr.size
    simp only [World.size_alloc] at hsz
    have hLk := hL.out k
    rcases (show k = 4 ∨ k = 0 ∨ k = 1 ∨ k = 2 ∨ k = 3 by omega) with rfl | rfl | rfl | rfl | rfl
    · have hpos : 0 < (txt a 4).length := by rw [txt, if_neg (by omega)]; simp; omega
      rcases hown.2 with ⟨_, h0⟩ | ⟨g, cap, cur, rfl, _, _, _, _, _, _⟩
      · omega
      · have hcv := run_convert_bytes_back (P := Tryd.prog) wr 68 9 5 ⟨g, 0, none⟩ cap (txt a 4) Tryd.underlying68 Tryd.underlying5 Tryd.underlying9 (fun j hj => hown.cells (g := g) rfl j _ (by simp [Lib.byteCells, hj]))
        clear hown
        go_wp2
        go_ret
        exact ⟨rfl, hb1.trans ((((Below.refl w.heap.size w1).alloc (by omega) _).trans (hbr.mono (by omega))))⟩
    · have hc := arr4_cell a w1 wr hbr 0 (by omega)
      obtain ⟨q1, q2⟩ := hB.out 0
      go_wp2_with (go_at_call 68; refine (auint_any (w1.heap.size + 1) _ (byteAt a 0) q1 q2 _ _ _ hown (by omega) (by omega) hE'.tab).mono ?_; rintro e w2 ⟨v2, rfl, hown2, hb2⟩)
      rw [byteCells_app] at hown2
      go_roundw
      case rel => exact ⟨1, by omega, rfl, by simpa [txt] using hown2, hbr.trans hb2⟩
      case measure => simp [intOf]
    all_goals
      obtain ⟨q1, q2⟩ := hB.out 1
      obtain ⟨q3, q4⟩ := hB.out 2
      obtain ⟨q5, q6⟩ := hB.out 3
      go_wp2_with (at_builtin; refine wpList_append_own _ rfl _ _ 68 rfl (w1.heap.size + 1) 5 i0 (.int .u8 0) 1 1 Tryd.underlying68 hi hz0 hz1 hz2 rfl (by decide) _ _ _ rfl (hown.alloc _) ⟨wr.heap.size, 0, none⟩ 1 1 [Value.int .u8 46] rfl rfl ?c1 ?c2 ?c3 ?c4 ?c5 ?_)
      case c1 => exact cellsOne wr 46
      case c2 => intro u hu; simp at hu; subst hu; rfl
      case c3 => unfold maxLen; omega
      case c4 => omega
      case c5 => simp; omega
      intro v2 w2 hown2 hgrow _
      have hb2 : Below (w1.heap.size + 1) (w1.alloc (arr4 a)) w2 := (hbr.alloc (by omega) _).grown hgrow (by simp; omega) (fun k hk => (hown.lt k hk).1)
      have hE2 : Env w2 := hE.below (hb1.trans ((((Below.refl w.heap.size w1).alloc (by omega) _).trans (hb2.mono (by omega)))))
      have hc1 := arr4_cell a w1 w2 hb2 1 (by omega)
      have hc2 := arr4_cell a w1 w2 hb2 2 (by omega)
      have hc3 := arr4_cell a w1 w2 hb2 3 (by omega)
      have hz2' := hb2.size
      simp only [World.size_alloc] at hz2'
      rw [byteCells_dot] at hown2
      clear hgrow hbr hown
      go_wp2_with (go_at_call 68; refine (auint_any (w1.heap.size + 1) _ _ (by omega) (by omega) _ _ _ hown2 (by omega) (by omega) hE2.tab).mono ?_; rintro e w3 ⟨v3, rfl, hown3, hb3⟩)
      rw [byteCells_app] at hown3
      go_roundw
      case rel =>
        first
          | exact ⟨2, by omega, rfl, own_step hown3, hb2.trans hb3⟩
          | exact ⟨3, by omega, rfl, own_step hown3, hb2.trans hb3⟩
          | exact ⟨4, by omega, rfl, own_step hown3, hb2.trans hb3⟩
      case measure => simp [intOf]
open Go.RowKit
theorem dec_small {u : Nat} (h : u < 10) : Lib.decDigits u = [UInt8.ofNat (48 + u)] := by
  rw [Lib.decDigits, dif_pos h]
theorem dec_big {u : Nat} (h : ¬ u < 10) : Lib.decDigits u = Lib.decDigits (u / 10) ++ [UInt8.ofNat (48 + u % 10)] := by
  rw [Lib.decDigits, dif_neg h]
theorem awake_parse : ipOf [49, 48, 46, 48, 46, 48, 46, 49] = some 167772161 := by kernel_rfl
theorem awake_print : ipTxt 167772161 = [49, 48, 46, 48, 46, 48, 46, 49] := by
  have h10 : Lib.decDigits 10 = [49, 48] := by rw [dec_big (by omega), show 10 / 10 = 1 from rfl, dec_small (by omega)]; rfl
  have h0 : Lib.decDigits 0 = [48] := dec_small (by omega)
  have h1 : Lib.decDigits 1 = [49] := dec_small (by omega)
  have e0 : (byteAt 167772161 0).toNat = 10 := rfl
  have e1 : (byteAt 167772161 1).toNat = 0 := rfl
  have e2 : (byteAt 167772161 2).toNat = 0 := rfl
  have e3 : (byteAt 167772161 3).toNat = 1 := rfl
  unfold ipTxt
  rw [txt_step, txt_step, txt_step, txt, e0, e1, e2, e3, h10, h0, h1]
  rfl
end Go.Proofs.YthpeimdjcibmgaaDoor
