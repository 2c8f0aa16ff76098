/- Joined: Cidr CidrPrintW CidrParseW. -/
import Derived.Test.YtkldglhihfjclaaGreatDoorNMa
import Derived.Deep.RegionHeld3
import Derived.IntWalk
import Derived.Laws.StructEq
namespace Go.Proofs.YtkldglhihfjclaaGreatDoor.NM
section
open Go.RowKit
/-! Nets: plain. -/
/-- 2^(32-b), for b of 0 to 32. -/
def hole (b : Int) : Int := 2 ^ (32 - b).toNat
theorem hole_pos (b : Int) : 0 < hole b := Int.pow_pos (by omega)
theorem hole_le (b : Int) (h : 0 ≤ b) : hole b ≤ 4294967296 := by
  unfold hole
  have : (2 : Nat) ^ (32 - b).toNat ≤ 2 ^ 32 := Nat.pow_le_pow_right (by omega) (by omega)
  have h2 : ((2 ^ (32 - b).toNat : Nat) : Int) ≤ ((2 ^ 32 : Nat) : Int) := Int.ofNat_le.2 this
  simpa using h2
def bitsOk (b : Int) : Bool := decide (0 ≤ b ∧ b ≤ 32)
/-- May a net be? -/
def mayB (a b : Int) : Bool := bitsOk b && decide (a % hole b = 0)
def clampB (b : Int) : Int := min (max b 0) 32
/-- A mask's number. -/
def maskI (b : Int) : Int := 4294967296 - hole (clampB b)
theorem clampB_in {b : Int} (h0 : 0 ≤ b) (h1 : b ≤ 32) : clampB b = b := by unfold clampB; omega
theorem clampB_bd (b : Int) : 0 ≤ clampB b ∧ clampB b ≤ 32 := by unfold clampB; omega
theorem shl_mask (k : Nat) (hk : k ≤ 32) : (4294967295 * 2 ^ k : Int) % 4294967296 = 4294967296 - 2 ^ k := by
  have h : ∀ k : Fin 33, (4294967295 * 2 ^ k.val : Int) % 4294967296 = 4294967296 - 2 ^ k.val := by decide
  exact h ⟨k, by omega⟩
theorem maskI_bd (b : Int) : 0 ≤ maskI b ∧ maskI b < 4294967296 := by
  unfold maskI
  have h1 := hole_pos (clampB b)
  have h2 := hole_le (clampB b) (clampB_bd b).1
  omega
/-- What is not under a mask: the rest by the net's size. -/
theorem andNot_mask (a b : Int) (ha : 0 ≤ a) (ha' : a < 4294967296) (h0 : 0 ≤ b) (h1 : b ≤ 32) : bits .andNot .u32 a (maskI b) = a % hole b := by
  obtain ⟨m0, m1⟩ := maskI_bd b
  rw [u32_andNot a _ ha ha' m0 m1]
  have hh : 4294967295 - (maskI b).toNat = 2 ^ (32 - b).toNat - 1 := by
    have hp := hole_pos b
    have hl := hole_le b h0
    have hc : ((2 ^ (32 - b).toNat : Nat) : Int) = hole b := by unfold hole; simp
    unfold maskI
    rw [clampB_in h0 h1]
    omega
  rw [hh, Nat.and_two_pow_sub_one_eq_mod]
  unfold hole
  obtain ⟨n, rfl⟩ := Int.eq_ofNat_of_zero_le ha
  simp
theorem and_high (x k : Nat) (hx : x < 2 ^ 32) (hk : k ≤ 32) : x &&& (2 ^ 32 - 2 ^ k) = x - x % 2 ^ k := by
  have hp := Nat.two_pow_pos k
  have hle : 2 ^ k ≤ 2 ^ 32 := Nat.pow_le_pow_right (by omega) hk
  have e : x - x % 2 ^ k = x / 2 ^ k * 2 ^ k := by have := Nat.div_add_mod x (2 ^ k); rw [Nat.mul_comm] at this; omega
  rw [e]
  apply Nat.eq_of_testBit_eq
  intro i
  rw [Nat.testBit_and, show 2 ^ 32 - 2 ^ k = 2 ^ 32 - ((2 ^ k - 1) + 1) from by omega, Nat.testBit_two_pow_sub_succ (by omega), Nat.testBit_two_pow_sub_one, ← Nat.shiftLeft_eq, Nat.testBit_shiftLeft, Nat.testBit_div_two_pow]
  by_cases h : i < k
  · simp [h, show ¬ k ≤ i from by omega]
  · have h2 : k ≤ i := by omega
    rw [show i - k + k = i from by omega]
    by_cases h3 : i < 32
    · simp [h, h2, h3]
    · have : x.testBit i = false := Nat.testBit_lt_two_pow (Nat.lt_of_lt_of_le hx (Nat.pow_le_pow_right (by omega) (by omega)))
      simp [this]
theorem hole_nat (b : Int) : hole b = ((2 ^ (32 - b).toNat : Nat) : Int) := by unfold hole; simp
theorem and_mask (a b : Int) (ha : 0 ≤ a) (ha' : a < 4294967296) (h0 : 0 ≤ b) (h1 : b ≤ 32) : bits .and .u32 a (maskI b) = a - a % hole b := by
  obtain ⟨m0, m1⟩ := maskI_bd b
  rw [u32_and a _ ha ha' m0 m1]
  have hm : (maskI b).toNat = 2 ^ 32 - 2 ^ (32 - b).toNat := by
    unfold maskI
    rw [clampB_in h0 h1, hole_nat]
    omega
  rw [hm, and_high _ _ (by omega) (by omega), hole_nat]
  obtain ⟨n, rfl⟩ := Int.eq_ofNat_of_zero_le ha
  rw [Int.toNat_natCast]
  have := Nat.mod_le n (2 ^ (32 - b).toNat)
  omega
set_option maxHeartbeats 400000 in
theorem mayBits_any (b : Int) (w : World) :
    Calls Tryz.prog 118 #[.int .i64 b] w fun e w' => e = .returned (.bool (bitsOk b)) ∧ w = w' := by
  by_cases h0 : 0 ≤ b
  · have d0 : decide (0 ≤ b) = true := by simpa using h0
    have HV : Hid (decide (b ≤ 32) = bitsOk b) := Lib.hid (by unfold bitsOk; rw [Bool.eq_iff_iff]; simp [h0])
    go_enter Tryz.func118, Tryz.ntmps118
    go_wp2
    go_ret
    exact ⟨congrArg (fun b => Ending.returned (.bool b)) HV.out, rfl⟩
  · have d0 : decide (0 ≤ b) = false := by simpa using h0
    have HV : Hid (false = bitsOk b) := Lib.hid (by unfold bitsOk; simp [h0])
    go_enter Tryz.func118, Tryz.ntmps118
    go_wp2
    go_ret
    exact ⟨congrArg (fun b => Ending.returned (.bool b)) HV.out, rfl⟩
set_option maxHeartbeats 400000 in
theorem mask_any (b : Int) (w : World) :
    Calls Tryz.prog 119 #[.int .i64 b] w fun e w' => e = .returned (.int .u32 (maskI b)) ∧ w = w' := by
  have HV : Hid (4294967295 * 2 ^ (32 - min (max b 0) 32).toNat % 4294967296 = maskI b) := Lib.hid (shl_mask _ (by omega))
  go_enter Tryz.func119, Tryz.ntmps119
  go_wp2
  go_ret
  exact ⟨congrArg (fun b => Ending.returned (.int .u32 b)) HV.out, rfl⟩
set_option maxHeartbeats 400000 in
theorem refPow_any (k : Int) (h0 : 0 ≤ k) (h1 : k ≤ 32) (w : World) :
    Calls Tryz.prog 132 #[.int .i64 k] w fun e w' => e = .returned (.int .i64 (2 ^ k.toNat)) ∧ w = w' := by
  go_enter Tryz.func132, Tryz.ntmps132
  go_wp2
  go_loop [3, 4] (fun v j => ∃ i : Nat, (i : Int) ≤ k ∧ j = .int .i64 i ∧ v = .int .i64 (2 ^ i)) (fun _ j => (k - intOf j).toNat)
  case atStart => exact ⟨0, by omega, rfl, rfl⟩
  case round =>
    obtain ⟨i, hi, rfl, rfl⟩ := hrel
    have hp : (0 : Int) < 2 ^ i := Int.pow_pos (by omega)
    have hq : (2 : Int) ^ i ≤ 4294967296 := by
      have : (2 : Nat) ^ i ≤ 2 ^ 32 := Nat.pow_le_pow_right (by omega) (by omega)
      have h2 : ((2 ^ i : Nat) : Int) ≤ ((2 ^ 32 : Nat) : Int) := Int.ofNat_le.2 this
      simpa using h2
    by_cases hlt : (i : Int) < k
    · go_wp2
      go_round
      case rel => exact ⟨i + 1, by omega, by go_num, by rw [Int.pow_succ, Int.mul_comm]⟩
      case measure => simp [intOf]; omega
    · have HV : Hid ((2 : Int) ^ i = 2 ^ k.toNat) := Lib.hid (by rw [show k.toNat = i from by omega])
      go_wp2
      go_ret
      exact ⟨congrArg (fun b => Ending.returned (.int .i64 b)) HV.out, rfl⟩
theorem quietL {P : Program} {f : FuncId} {args : Array Value} {w : World} {v : Value} (h : Calls P f args w fun e w' => e = .returned v ∧ w = w') : Calls P f args w fun e w'' => e = .returned v ∧ ∃ m, w'' = w.drewN m :=
  h.mono fun _ _ ⟨he, hm⟩ => ⟨he, 0, hm.symm⟩
theorem quietN {P : Program} {f : FuncId} {args : Array Value} {w : World} {n : Nat} {v : Value} (h : Calls P f args (w.drewN n) fun e w' => e = .returned v ∧ w.drewN n = w') :
    Calls P f args (w.drewN n) fun e w'' => e = .returned v ∧ ∃ m, w'' = w.drewN m :=
  h.mono fun _ _ ⟨he, hm⟩ => ⟨he, n, hm.symm⟩
theorem quietAL {P : Program} {f : FuncId} {args : Array Value} {w : World} {a n : Nat} {v : Value} (h : Calls P f args (w.drewN (a + n)) fun e w' => e = .returned v ∧ w.drewN (a + n) = w') :
    Calls P f args (w.drewN (a + n)) fun e w'' => e = .returned v ∧ ∃ m, w'' = w.drewN (a + m) :=
  h.mono fun _ _ ⟨he, hm⟩ => ⟨he, n, hm.symm⟩
theorem may_of {a b : Int} (h : bitsOk b = true) : mayB a b = (a % hole b == 0) := by
  unfold mayB; rw [h, Bool.true_and]; rw [Bool.eq_iff_iff]; simp
theorem bitsOk_iff {b : Int} : bitsOk b = true ↔ 0 ≤ b ∧ b ≤ 32 := by unfold bitsOk; exact decide_eq_true_iff
set_option maxHeartbeats 1000000 in
theorem may_any (a b : Int) (ha : 0 ≤ a) (ha' : a < 4294967296) (w : World) :
    Calls Tryz.prog 161 #[.agg #[.int .u32 a, .int .i64 b]] w fun e w' => e = .returned (.bool (mayB a b)) ∧ Below w.heap.size w w' := by
  by_cases hb : bitsOk b = true
  · obtain ⟨b0, b1⟩ := bitsOk_iff.1 hb
    have HV : Hid ((bits .andNot .u32 a (maskI b) == 0) = mayB a b) := Lib.hid (by rw [andNot_mask a b ha ha' b0 b1, may_of hb])
    have H1 : Hid (∀ w, Calls Tryz.prog 118 #[.int .i64 b] w fun e w' => e = .returned (.bool true) ∧ w = w') := Lib.hid (fun w => by rw [← hb]; exact mayBits_any b w)
    clear hb
    go_enter Tryz.func161, Tryz.ntmps161
    go_wp2_with fail
    go_quiet ((first | (go_at_call 118; exact quietN (H1.out _)) | (go_at_call 119; exact quietN (mask_any b _))))
    go_wp2
    go_ret
    exact ⟨congrArg (fun b => Ending.returned (.bool b)) HV.out, below_drewN ((Below.refl _ _).alloc (Nat.le_refl _) _) _⟩
  · have hb' : bitsOk b = false := by simpa using hb
    have HV : Hid (false = mayB a b) := Lib.hid (by unfold mayB; rw [hb', Bool.false_and])
    have H1 : Hid (∀ w, Calls Tryz.prog 118 #[.int .i64 b] w fun e w' => e = .returned (.bool false) ∧ w = w') := Lib.hid (fun w => by rw [← hb']; exact mayBits_any b w)
    clear hb hb'
    go_enter Tryz.func161, Tryz.ntmps161
    go_wp2_with fail
    go_quiet ((go_at_call 118; exact quietN (H1.out _)))
    go_wp2
    go_ret
    exact ⟨congrArg (fun b => Ending.returned (.bool b)) HV.out, below_drewN ((Below.refl _ _).alloc (Nat.le_refl _) _) _⟩
set_option maxHeartbeats 1000000 in
theorem refMay_any (a b : Int) (ha : 0 ≤ a) (ha' : a < 4294967296) (hb : -9223372036854775808 ≤ b) (hb' : b ≤ 9223372036854775807) (w : World) :
    Calls Tryz.prog 102 #[.agg #[.int .u32 a, .int .i64 b]] w fun e w' => e = .returned (.bool (mayB a b)) ∧ Below w.heap.size w w' := by
  by_cases h0 : 0 ≤ b
  · have d0 : decide (0 ≤ b) = true := by simpa using h0
    by_cases h1 : b ≤ 32
    · have d1 : decide (b ≤ 32) = true := by simpa using h1
      have hp := hole_pos b
      have hl := hole_le b h0
      have HV : Hid ((a % hole b == 0) = mayB a b) := Lib.hid (may_of (bitsOk_iff.2 ⟨h0, h1⟩)).symm
      have H1 : Hid (∀ w, Calls Tryz.prog 132 #[.int .i64 (32 - b)] w fun e w' => e = .returned (.int .i64 (hole b)) ∧ w = w') := Lib.hid (fun w => refPow_any (32 - b) (by omega) (by omega) w)
      go_enter Tryz.func102, Tryz.ntmps102
      go_wp2_with fail
      go_quiet ((go_at_call 132; exact quietN (H1.out _)))
      go_wp2
      go_ret
      exact ⟨congrArg (fun b => Ending.returned (.bool b)) HV.out, below_drewN ((Below.refl _ _).alloc (Nat.le_refl _) _) _⟩
    · have d1 : decide (b ≤ 32) = false := by simpa using h1
      have HV : Hid (false = mayB a b) := Lib.hid (by unfold mayB bitsOk; simp; omega)
      go_enter Tryz.func102, Tryz.ntmps102
      go_wp2_with fail
      go_quiet (fail)
      go_wp2
      go_ret
      exact ⟨congrArg (fun b => Ending.returned (.bool b)) HV.out, below_drewN ((Below.refl _ _).alloc (Nat.le_refl _) _) _⟩
  · have d0 : decide (0 ≤ b) = false := by simpa using h0
    have HV : Hid (false = mayB a b) := Lib.hid (by unfold mayB bitsOk; simp; omega)
    go_enter Tryz.func102, Tryz.ntmps102
    go_wp2_with fail
    go_quiet (fail)
    go_wp2
    go_ret
    exact ⟨congrArg (fun b => Ending.returned (.bool b)) HV.out, below_drewN ((Below.refl _ _).alloc (Nat.le_refl _) _) _⟩
open Go.RowKit
/-- A net in block g. -/
def Cell2 (g : Nat) (a b : Int) (W : World) : Prop := W.cell? ⟨g, 0, none⟩ = some (.int .u32 a) ∧ W.cell? ⟨g, 1, none⟩ = some (.int .i64 b) ∧ g < W.heap.size
theorem Cell2.keep {g : Nat} {a b : Int} {W W' : World} (h : Cell2 g a b W) (hb : Below W.heap.size W W') : Cell2 g a b W' :=
  ⟨(hb.cell (p := ⟨g, 0, none⟩) h.2.2).trans h.1, (hb.cell (p := ⟨g, 1, none⟩) h.2.2).trans h.2.1, Nat.lt_of_lt_of_le h.2.2 hb.size⟩
theorem Cell2.drewN {g : Nat} {a b : Int} {W : World} (h : Cell2 g a b W) (n : Nat) : Cell2 g a b (W.drewN n) := h
theorem Cell2.new (w : World) (a b : Int) (t : TypeId) : Cell2 w.heap.size a b (w.alloc (.cells #[.int .u32 a, .int .i64 b] t)) := by
  refine ⟨?_, ?_, ?_⟩ <;> simp
theorem Cell2.alloc {g : Nat} {a b : Int} {W : World} (h : Cell2 g a b W) (o : Obj) : Cell2 g a b (W.alloc o) := h.keep ((Below.refl _ _).alloc (Nat.le_refl _) _)
theorem bel {w a b : World} (h : Below w.heap.size w a) (k : Below a.heap.size a b) : Below w.heap.size w b := h.trans (k.mono h.size)
theorem belD {w a b : World} {n : Nat} (h : Below w.heap.size w a) (k : Below (a.drewN n).heap.size (a.drewN n) b) : Below w.heap.size w b := (below_drewN h n).trans (k.mono h.size)
theorem belNew (w : World) (o : Obj) : Below w.heap.size w (w.alloc o) := (Below.refl _ _).alloc (Nat.le_refl _) _
theorem belAlloc {w a : World} (h : Below w.heap.size w a) (o : Obj) : Below w.heap.size w (a.alloc o) := h.alloc h.size _
/-- A net's text. -/
def netTxt (a b : Int) : List UInt8 := ipTxt a ++ 47 :: Lib.decDigits b.toNat
theorem netTxt_eq (a b : Int) : netTxt a b = ipTxt a ++ [47] ++ Lib.decDigits b.toNat := by unfold netTxt; simp
theorem itoa_bits (b : Int) (h0 : 0 ≤ b) (h1 : b ≤ 32) (w : World) : Calls Tryz.prog 163 #[.int .i64 b] w fun e w' => e = .returned (.string ⟨(Lib.decDigits b.toNat).toArray⟩) ∧ Below w.heap.size w w' := by
  obtain ⟨n, rfl⟩ := Int.eq_ofNat_of_zero_le h0
  exact (Tryz.strconv_Itoa_small n (by omega) w).mono fun e w' ⟨he, hw⟩ => ⟨he, hw ▸ Below.refl _ _⟩
def netText (a b : Int) : List UInt8 := if mayB a b = true then netTxt a b else []
theorem sD {w W : World} {g : Nat} {a b : Int} (h : W.cell? ⟨g, 0, none⟩ = some (.int .u32 a) ∧ W.cell? ⟨g, 1, none⟩ = some (.int .i64 b) ∧ g < W.heap.size ∧ Below w.heap.size w W) :
    W.drew.cell? ⟨g, 0, none⟩ = some (.int .u32 a) ∧ W.drew.cell? ⟨g, 1, none⟩ = some (.int .i64 b) ∧ g < W.drew.heap.size ∧ Below w.heap.size w W.drew := ⟨h.1, h.2.1, h.2.2.1, h.2.2.2.drew⟩
theorem sK {w W W' : World} {g : Nat} {a b : Int} (h : W.cell? ⟨g, 0, none⟩ = some (.int .u32 a) ∧ W.cell? ⟨g, 1, none⟩ = some (.int .i64 b) ∧ g < W.heap.size ∧ Below w.heap.size w W) (hb : Below W.heap.size W W') :
    W'.cell? ⟨g, 0, none⟩ = some (.int .u32 a) ∧ W'.cell? ⟨g, 1, none⟩ = some (.int .i64 b) ∧ g < W'.heap.size ∧ Below w.heap.size w W' :=
  have k := Cell2.keep (⟨h.1, h.2.1, h.2.2.1⟩ : Cell2 g a b W) hb
  ⟨k.1, k.2.1, k.2.2, bel h.2.2.2 hb⟩
theorem sB {w W : World} {g : Nat} {a b : Int} (h : W.cell? ⟨g, 0, none⟩ = some (.int .u32 a) ∧ W.cell? ⟨g, 1, none⟩ = some (.int .i64 b) ∧ g < W.heap.size ∧ Below w.heap.size w W) : Below w.heap.size w W := h.2.2.2
set_option maxHeartbeats 400000 in
theorem refNum_any (n : Int) (h0 : 0 ≤ n) (h1 : n ≤ 99999) (w : World) :
    Calls Tryz.prog 110 #[.int .i64 n] w fun e w' => e = .returned (.string ⟨(Lib.decDigits n.toNat).toArray⟩) ∧ Below w.heap.size w w' := by
  go_enter Tryz.func110, Tryz.ntmps110
  go_wp2_with fail
  refine (num255 n _ h0 h1).mono ?_; rintro e w1 ⟨rfl, hb⟩
  go_wp2
  go_ret
  exact ⟨rfl, hb⟩
set_option maxHeartbeats 4000000 in
theorem netPrint_any (a b : Int) (ha : 0 ≤ a) (ha' : a < 4294967296) (w : World) (hE : Env w) :
    Calls Tryz.prog 121 #[.agg #[.int .u32 a, .int .i64 b]] w fun e w' => e = .returned (.string ⟨(netText a b).toArray⟩) ∧ Below w.heap.size w w' := by
  have H1 := Lib.hid (may_any a b ha ha')
  by_cases hm : mayB a b = true
  · have hl1 : (ipTxt a).length ≤ 16 := txt_len a ha ha' 4
    have hb0 : 0 ≤ b ∧ b ≤ 32 := bitsOk_iff.1 (by unfold mayB at hm; rw [Bool.and_eq_true] at hm; exact hm.1)
    obtain ⟨b0, b1⟩ := hb0
    have hl2 := size_dec b b0 (by omega)
    have HV : Hid (netText a b = ipTxt a ++ [47] ++ Lib.decDigits b.toNat) := Lib.hid (by unfold netText; rw [if_pos hm, netTxt_eq])
    rw [hm] at H1
    clear hm
    go_enter Tryz.func121, Tryz.ntmps121
    go_wp2_with fail
    refine (H1.out _).mono ?_; rintro e w1 ⟨rfl, hb1⟩
    have hB := bel (belNew _ _) hb1
    have hC := (Cell2.new w a b 176).keep hb1
    obtain ⟨c0, c1, c2⟩ := id hC
    go_wp2_with fail
    have hS : w1.cell? ⟨w.heap.size, 0, none⟩ = some (.int .u32 a) ∧ w1.cell? ⟨w.heap.size, 1, none⟩ = some (.int .i64 b) ∧ w.heap.size < w1.heap.size ∧ Below w.heap.size w w1 := ⟨c0, c1, c2, hB⟩
    have q1 : ¬ 9223372036854775807 < (ipTxt a).length + 1 := by omega
    have q2 : ¬ 9223372036854775807 < (ipTxt a).length + 1 + (Lib.decDigits b.toNat).length := by omega
    go_region_held3 (fun W => W.cell? ⟨w.heap.size, 0, none⟩ = some (.int .u32 a) ∧ W.cell? ⟨w.heap.size, 1, none⟩ = some (.int .i64 b) ∧ w.heap.size < W.heap.size ∧ Below w.heap.size w W)
      (first | (refine sD ?_; assumption) | (apply sK; rotate_left; assumption; first | assumption | (refine sD ?_; assumption)))
      (first
      | (go_at_call 162; refine (print_any a ha ha' _ (hE.below (by first | assumption | (refine sB (g := w.heap.size) (a := a) (b := b) ?_; assumption) | (refine sB (g := w.heap.size) (a := a) (b := b) (sD ?_); assumption)))).mono ?_; rintro e w2 ⟨rfl, hb2⟩)
      | (go_at_call 163; refine (itoa_bits b b0 b1 _).mono ?_; rintro e w3 ⟨rfl, hb3⟩))
    go_wp2
    go_ret
    refine ⟨congrArg (fun s => Ending.returned (.string s)) ?_, ?_⟩
    · show (_ : ByteArray) = _
      rw [HV.out, show (⟨#[47]⟩ : ByteArray) = ⟨[47].toArray⟩ from rfl]
      simp only [mk_append]
    · first | assumption | (refine sB (g := w.heap.size) (a := a) (b := b) ?_; assumption)
  · have hm' : mayB a b = false := by simpa using hm
    have HV : Hid (netText a b = []) := Lib.hid (by unfold netText; rw [if_neg hm])
    rw [hm'] at H1
    clear hm hm'
    go_enter Tryz.func121, Tryz.ntmps121
    go_wp2_with fail
    refine (H1.out _).mono ?_; rintro e w1 ⟨rfl, hb1⟩
    go_wp2_with fail
    go_ret
    exact ⟨congrArg (fun l : List UInt8 => Ending.returned (.string ⟨l.toArray⟩)) HV.out.symm, bel (belNew _ _) hb1⟩
open Go.RowKit
def bitVal (l : List UInt8) : Value := if numOk 2 l = true then .tuple #[.int .i64 (num10 l), .bool true] else .tuple #[.int .i64 0, .bool false]
theorem bit_no {l : List UInt8} (h : ¬ numOk 2 l = true) : bitVal l = .tuple #[.int .i64 0, .bool false] := if_neg h
theorem bit_yes {l : List UInt8} (h : numOk 2 l = true) : bitVal l = .tuple #[.int .i64 (num10 l), .bool true] := if_pos h
theorem bit_in2 (s : ByteArray) (h1 : 1 ≤ s.size) (h3 : s.size ≤ 2) (h0 : ¬ (1 < s.size ∧ (s.data.toList.getD 0 0) = 48)) (hd : s.data.toList.all isDig = true) : numOk 2 s.data.toList = true :=
  (numOk_iff 2 _).2 ⟨⟨h1, h3, h0⟩, hd⟩
open Go.RowKit
def cutS (l : List UInt8) : List UInt8 × List UInt8 × Bool := Lib.cut l [47]
/-- Which net a text is. -/
def netOf (l : List UInt8) : Option (Int × Int) :=
  match ipOf (cutS l).1 with
  | some a => if ((cutS l).2.2 && (numOk 2 (cutS l).2.1 && mayB a (num10 (cutS l).2.1))) = true then some (a, num10 (cutS l).2.1) else none
  | none => none
def netVal (o : Option (Int × Int)) : Value := match o with
  | some p => .tuple #[.agg #[.int .u32 p.1, .int .i64 p.2], .int .i64 0]
  | none => .tuple #[.agg #[.int .u32 0, .int .i64 0], .int .i64 3]
theorem cutS_len (l : List UInt8) : (cutS l).1.length ≤ l.length ∧ (cutS l).2.1.length ≤ l.length := by
  unfold cutS Lib.cut
  split
  · simp only [List.length_take, List.length_drop]; omega
  · simp
theorem pl_bd : ∀ (n : Nat) (r : List UInt8) (l : List Int), pl n r = some l → ∀ x ∈ l, 0 ≤ x ∧ x ≤ 255 := by
  intro n
  induction n with
  | zero => intro r l h x hx; simp [pl] at h; subst h; simp at hx
  | succ n ih =>
    intro r l h x hx
    rw [pl] at h
    split at h
    · rename_i hc
      cases hp : pl n (cutD r).2.1 with
      | none => rw [hp] at h; simp at h
      | some t =>
        rw [hp] at h
        simp at h
        subst h
        rcases List.mem_cons.1 hx with rfl | hx
        · rw [Bool.and_eq_true] at hc
          exact pbOk_bounds hc.1
        · exact ih _ _ hp x hx
    · simp at h
theorem ipOf_bd {l : List UInt8} {a : Int} (h : ipOf l = some a) : 0 ≤ a ∧ a < 4294967296 := by
  unfold ipOf at h
  cases hp : pl 4 l with
  | none => rw [hp] at h; simp [ipNum] at h
  | some t =>
    have hb := pl_bd 4 l t hp
    have hl := pl_len 4 l t hp
    match t, hl with
    | [x, y, z, u], _ =>
      rw [hp] at h
      simp only [ipNum, Option.some.injEq] at h
      have h1 := hb x (by simp)
      have h2 := hb y (by simp)
      have h3 := hb z (by simp)
      have h4 := hb u (by simp)
      omega
/-- A net in a block of the call's own. -/
def Own2 (g : Nat) (a b : Int) (W : World) : Prop := Cell2 g a b W ∧ W.frozen? ⟨g, 0, none⟩ = false ∧ W.frozen? ⟨g, 1, none⟩ = false
theorem Own2.keep {g : Nat} {a b : Int} {W W' : World} (h : Own2 g a b W) (hb : Below W.heap.size W W') : Own2 g a b W' :=
  ⟨h.1.keep hb, (hb.frozen (p := ⟨g, 0, none⟩) h.1.2.2).trans h.2.1, (hb.frozen (p := ⟨g, 1, none⟩) h.1.2.2).trans h.2.2⟩
theorem Own2.drewN {g : Nat} {a b : Int} {W : World} (h : Own2 g a b W) (n : Nat) : Own2 g a b (W.drewN n) := h
theorem Own2.new (w : World) (a b : Int) (t : TypeId) : Own2 w.heap.size a b (w.alloc (.cells #[.int .u32 a, .int .i64 b] t)) := by
  refine ⟨Cell2.new w a b t, ?_, ?_⟩ <;> simp [go_sem]
theorem res2 {w1 : World} {g : Nat} {x y : Int} (h : Cell2 g x y w1) (a b : Int) (o : Obj) :
    (((w1.setCell ⟨g, 0, none⟩ (.int .u32 a)).setCell ⟨g, 1, none⟩ (.int .i64 b)).alloc o).cell? ⟨g, 0, none⟩ = some (.int .u32 a) ∧
    (((w1.setCell ⟨g, 0, none⟩ (.int .u32 a)).setCell ⟨g, 1, none⟩ (.int .i64 b)).alloc o).cell? ⟨g, 1, none⟩ = some (.int .i64 b) := by
  have hl : g < ((w1.setCell ⟨g, 0, none⟩ (.int .u32 a)).setCell ⟨g, 1, none⟩ (.int .i64 b)).heap.size := by simpa [World.setCell] using h.2.2
  have n1 : (w1.setCell ⟨g, 0, none⟩ (.int .u32 a)).cell? ⟨g, 1, none⟩ = some (.int .i64 y) := by
    rw [World.cell?_setCell_other _ _ _ _ (by simp)]; exact h.2.1
  constructor
  · rw [World.cell?_alloc_lt _ _ _ (by exact hl), World.cell?_setCell_other _ _ _ _ (by simp)]
    exact World.cell?_setCell_same _ _ _ h.1
  · rw [World.cell?_alloc_lt _ _ _ (by exact hl)]
    exact World.cell?_setCell_same _ _ _ n1
open Go.RowKit
/-- How many nets of c bits a net covers. -/
def countI (a b c : Int) : Int := if mayB a b = true ∧ bitsOk c = true ∧ b ≤ c then 2 ^ (c - b).toNat else 0
theorem may_bits {a b : Int} (h : mayB a b = true) : 0 ≤ b ∧ b ≤ 32 := bitsOk_iff.1 (by unfold mayB at h; rw [Bool.and_eq_true] at h; exact h.1)
theorem pow_bd (k : Nat) (h : k ≤ 32) : (0 : Int) < 2 ^ k ∧ (2 : Int) ^ k ≤ 4294967296 := by
  refine ⟨Int.pow_pos (by omega), ?_⟩
  have : (2 : Nat) ^ k ≤ 2 ^ 32 := Nat.pow_le_pow_right (by omega) h
  have h2 : ((2 ^ k : Nat) : Int) ≤ ((2 ^ 32 : Nat) : Int) := Int.ofNat_le.2 this
  simpa using h2
open Go.RowKit
theorem hole_mul {b c : Int} (h0 : 0 ≤ b) (h1 : b ≤ c) (h2 : c ≤ 32) : 2 ^ (c - b).toNat * hole c = hole b := by
  unfold hole
  rw [← Int.pow_add, show (c - b).toNat + (32 - c).toNat = (32 - b).toNat from by omega]
theorem may_mod {a b : Int} (h : mayB a b = true) : a % hole b = 0 := by
  unfold mayB at h
  rw [Bool.and_eq_true, decide_eq_true_eq] at h
  exact h.2
theorem hole_dvd (b : Int) (h0 : 0 ≤ b) (h1 : b ≤ 32) : 4294967296 % hole b = 0 := by
  have h := hole_mul (b := 0) (c := b) (by omega) h0 h1
  have e : hole 0 = 4294967296 := rfl
  rw [← e, ← h]
  exact Int.mul_emod_left _ _
/-- A net's last address is one. -/
theorem net_fits {a b : Int} (ha : 0 ≤ a) (ha' : a < 4294967296) (h : mayB a b = true) : a + hole b ≤ 4294967296 := by
  obtain ⟨b0, b1⟩ := may_bits h
  have h1 := may_mod h
  have h2 := hole_dvd b b0 b1
  have hp := hole_pos b
  have e1 := Int.mul_ediv_add_emod a (hole b)
  have e2 := Int.mul_ediv_add_emod 4294967296 (hole b)
  rw [h1] at e1
  rw [h2] at e2
  have hlt : a / hole b < 4294967296 / hole b := by
    rcases Int.lt_or_le (a / hole b) (4294967296 / hole b) with hh | hh
    · exact hh
    · have := Int.mul_le_mul_of_nonneg_left hh (Int.le_of_lt hp)
      omega
  have := Int.mul_le_mul_of_nonneg_left (show a / hole b + 1 ≤ 4294967296 / hole b from hlt) (Int.le_of_lt hp)
  rw [Int.mul_add, Int.mul_one] at this
  omega
theorem nth_bd {a b c k : Int} (ha : 0 ≤ a) (ha' : a < 4294967296) (hk : 0 ≤ k) (hk' : k < countI a b c) :
    mayB a b = true ∧ bitsOk c = true ∧ b ≤ c ∧ 0 ≤ k * hole c ∧ k * hole c + hole c ≤ hole b ∧ a + k * hole c < 4294967296 := by
  unfold countI at hk'
  split at hk'
  · rename_i h
    obtain ⟨hm, hc, hle⟩ := h
    obtain ⟨b0, b1⟩ := may_bits hm
    obtain ⟨c0, c1⟩ := bitsOk_iff.1 hc
    have hp := hole_pos c
    have e := hole_mul b0 hle c1
    have h1 : (k + 1) * hole c ≤ 2 ^ (c - b).toNat * hole c := Int.mul_le_mul_of_nonneg_right (by omega) (Int.le_of_lt hp)
    rw [e, Int.add_mul, Int.one_mul] at h1
    have h2 := net_fits ha ha' hm
    have h3 : 0 ≤ k * hole c := Int.mul_nonneg hk (Int.le_of_lt hp)
    exact ⟨hm, hc, hle, h3, h1, by omega⟩
  · omega
theorem hole_le32 (c : Int) (h : 0 ≤ c) : hole c ≤ 4294967296 := hole_le c h
def nthVal (a b c k : Int) : Value := if 0 ≤ k ∧ k < countI a b c then .tuple #[.agg #[.int .u32 (a + k * hole c), .int .i64 c], .int .i64 0] else .tuple #[.agg #[.int .u32 0, .int .i64 0], .int .i64 1]
open Go.RowKit
theorem aw_net : netOf [49, 48, 46, 48, 46, 48, 46, 48, 47, 50, 52] = some (167772160, 24) := by kernel_rfl
theorem aw_count : countI 167772160 24 26 = 4 := by kernel_rfl
theorem aw_nth : (167772160 : Int) + 3 * hole 26 = 167772352 := by kernel_rfl
theorem aw_may : mayB 167772352 26 = true := by kernel_rfl
theorem aw_print : netText 167772352 26 = [49, 48, 46, 48, 46, 48, 46, 49, 57, 50, 47, 50, 54] := by
  have h10 : Lib.decDigits 10 = [49, 48] := by rw [dec_big (by omega), show 10 / 10 = 1 from rfl, dec_small (by omega)]; rfl
  have h0 : Lib.decDigits 0 = [48] := dec_small (by omega)
  have h19 : Lib.decDigits 19 = [49, 57] := by rw [dec_big (by omega), show 19 / 10 = 1 from rfl, dec_small (by omega)]; rfl
  have h192 : Lib.decDigits 192 = [49, 57, 50] := by rw [dec_big (by omega), show 192 / 10 = 19 from rfl, h19]; rfl
  have h26 : Lib.decDigits 26 = [50, 54] := by rw [dec_big (by omega), show 26 / 10 = 2 from rfl, dec_small (by omega)]; rfl
  unfold netText
  rw [if_pos aw_may]
  unfold netTxt
  rw [ipTxt_eq, show ((167772352 : Int) / 16777216).toNat = 10 from rfl, show ((167772352 : Int) / 65536 % 256).toNat = 0 from rfl, show ((167772352 : Int) / 256 % 256).toNat = 0 from rfl, show ((167772352 : Int) % 256).toNat = 192 from rfl, show (26 : Int).toNat = 26 from rfl, h10, h0, h192, h26]
  rfl
open Go.RowKit
set_option maxHeartbeats 4000000 in
theorem block_yes (a c : Int) (ha : 0 ≤ a) (ha' : a < 4294967296) (c0 : 0 ≤ c) (c1 : c ≤ 32) (w : World) :
    Calls Tryz.prog 91 #[.int .u32 a, .int .i64 c] w fun e w' => e = .returned (.tuple #[.agg #[.int .u32 (a - a % hole c), .int .i64 c], .int .i64 0]) ∧ Below w.heap.size w w' := by
  have HB : Hid (∀ w, Calls Tryz.prog 118 #[.int .i64 c] w fun e w' => e = .returned (.bool true) ∧ w = w') := Lib.hid (fun w => by rw [← bitsOk_iff.2 ⟨c0, c1⟩]; exact mayBits_any c w)
  have HM := Lib.hid (and_mask a c ha ha' c0 c1)
  go_enter Tryz.func91, Tryz.ntmps91
  go_wp2_with fail
  refine (HB.out _).mono ?_; rintro e w' ⟨rfl, rfl⟩
  go_wp2_with fail
  refine (mask_any c _).mono ?_; rintro e w' ⟨rfl, rfl⟩
  go_wp2_with fail
  refine bodyPost_ret (v := .tuple #[.agg #[.int .u32 (bits .and .u32 a (maskI c)), .int .i64 c], .int .i64 0]) ?_ rfl ⟨by rw [HM.out], ?_⟩
  · simp [results, Tryz.results91, go_sem]
  · exact belNew w _
set_option maxHeartbeats 4000000 in
theorem block_no (a c : Int) (h : ¬ (0 ≤ c ∧ c ≤ 32)) (w : World) :
    Calls Tryz.prog 91 #[.int .u32 a, .int .i64 c] w fun e w' => e = .returned (.tuple #[.agg #[.int .u32 0, .int .i64 0], .int .i64 1]) ∧ Below w.heap.size w w' := by
  have hcf : bitsOk c = false := by unfold bitsOk; exact decide_eq_false h
  have HB : Hid (∀ w, Calls Tryz.prog 118 #[.int .i64 c] w fun e w' => e = .returned (.bool false) ∧ w = w') := Lib.hid (fun w => by rw [← hcf]; exact mayBits_any c w)
  clear hcf
  go_enter Tryz.func91, Tryz.ntmps91
  go_wp2_with fail
  refine (HB.out _).mono ?_; rintro e w' ⟨rfl, rfl⟩
  go_wp2_with fail
  refine bodyPost_ret (v := .tuple #[.agg #[.int .u32 0, .int .i64 0], .int .i64 1]) ?_ rfl ⟨rfl, ?_⟩
  · simp [results, Tryz.results91, go_sem]
  · exact belNew w _
open Go.RowKit
def sizeI (a b : Int) : Int := if mayB a b = true then hole b else 0
/-- Has a net an address? -/
def hasB (a b x : Int) : Bool := mayB a b && (decide (a ≤ x) && decide (x - a < hole b))
end
section
open Go.RowKit
/-- Two nets in two blocks, and what was there before is as it was. -/
theorem pD {w W : World} {g h : Nat} {a b c d : Int} (H : W.cell? ⟨g, 0, none⟩ = some (.int .u32 a) ∧ W.cell? ⟨g, 1, none⟩ = some (.int .i64 b) ∧ W.cell? ⟨h, 0, none⟩ = some (.int .u32 c) ∧ W.cell? ⟨h, 1, none⟩ = some (.int .i64 d) ∧ g < W.heap.size ∧ h < W.heap.size ∧ Below w.heap.size w W) :
    W.drew.cell? ⟨g, 0, none⟩ = some (.int .u32 a) ∧ W.drew.cell? ⟨g, 1, none⟩ = some (.int .i64 b) ∧ W.drew.cell? ⟨h, 0, none⟩ = some (.int .u32 c) ∧ W.drew.cell? ⟨h, 1, none⟩ = some (.int .i64 d) ∧ g < W.drew.heap.size ∧ h < W.drew.heap.size ∧ Below w.heap.size w W.drew :=
  ⟨H.1, H.2.1, H.2.2.1, H.2.2.2.1, H.2.2.2.2.1, H.2.2.2.2.2.1, H.2.2.2.2.2.2.drew⟩
theorem pK {w W W' : World} {g h : Nat} {a b c d : Int} (H : W.cell? ⟨g, 0, none⟩ = some (.int .u32 a) ∧ W.cell? ⟨g, 1, none⟩ = some (.int .i64 b) ∧ W.cell? ⟨h, 0, none⟩ = some (.int .u32 c) ∧ W.cell? ⟨h, 1, none⟩ = some (.int .i64 d) ∧ g < W.heap.size ∧ h < W.heap.size ∧ Below w.heap.size w W) (hb : Below W.heap.size W W') :
    W'.cell? ⟨g, 0, none⟩ = some (.int .u32 a) ∧ W'.cell? ⟨g, 1, none⟩ = some (.int .i64 b) ∧ W'.cell? ⟨h, 0, none⟩ = some (.int .u32 c) ∧ W'.cell? ⟨h, 1, none⟩ = some (.int .i64 d) ∧ g < W'.heap.size ∧ h < W'.heap.size ∧ Below w.heap.size w W' :=
  have k := Cell2.keep (⟨H.1, H.2.1, H.2.2.2.2.1⟩ : Cell2 g a b W) hb
  have l := Cell2.keep (⟨H.2.2.1, H.2.2.2.1, H.2.2.2.2.2.1⟩ : Cell2 h c d W) hb
  ⟨k.1, k.2.1, l.1, l.2.1, k.2.2, l.2.2, bel H.2.2.2.2.2.2 hb⟩
theorem pB {w W : World} {g h : Nat} {a b c d : Int} (H : W.cell? ⟨g, 0, none⟩ = some (.int .u32 a) ∧ W.cell? ⟨g, 1, none⟩ = some (.int .i64 b) ∧ W.cell? ⟨h, 0, none⟩ = some (.int .u32 c) ∧ W.cell? ⟨h, 1, none⟩ = some (.int .i64 d) ∧ g < W.heap.size ∧ h < W.heap.size ∧ Below w.heap.size w W) : Below w.heap.size w W := H.2.2.2.2.2.2
theorem index_cons47 (c : UInt8) (l : List UInt8) : Lib.index (c :: l) [47] = if c = 47 then 0 else if Lib.index l [47] == -1 then -1 else Lib.index l [47] + 1 := by
  rw [Lib.index]
  by_cases h : c = 47
  · subst h; simp
  · have : ([47] : List UInt8).isPrefixOf (c :: l) = false := by simp [List.isPrefixOf]; exact fun e => h e.symm
    rw [this, if_neg h]; rfl
theorem cutS_nil : cutS [] = ([], [], false) := rfl
theorem cutS_cons (c : UInt8) (l : List UInt8) : cutS (c :: l) = if c = 47 then ([], l, true) else (c :: (cutS l).1, (cutS l).2.1, (cutS l).2.2) := by
  unfold cutS Lib.cut
  rw [index_cons47]
  have hg := Lib.index_ge l [47]
  by_cases h : c = 47
  · simp [h]
  · rw [if_neg h, if_neg h]
    by_cases h2 : Lib.index l [47] = -1
    · simp [h2]
    · have h3 : 0 ≤ Lib.index l [47] := by omega
      have h4 : (Lib.index l [47] == -1) = false := by simpa using h2
      rw [h4]
      simp only [Bool.false_eq_true, if_false]
      rw [if_pos (by omega), if_pos h3]
      obtain ⟨n, hn⟩ := Int.eq_ofNat_of_zero_le h3
      rw [hn, show ((n : Int) + 1).toNat = n + 1 from by omega, Int.toNat_natCast]
      simp
theorem cutS_app (w r : List UInt8) (hw : (47 : UInt8) ∉ w) : cutS (w ++ 47 :: r) = (w, r, true) := by
  induction w with
  | nil => rw [List.nil_append, cutS_cons, if_pos rfl]
  | cons c w ih =>
    simp only [List.mem_cons, not_or] at hw
    rw [List.cons_append, cutS_cons, if_neg (fun e => hw.1 e.symm), ih hw.2]
theorem no_slash (w : List UInt8) (h : w.all isDig = true) : (47 : UInt8) ∉ w := fun hm => by
  have := isDig_bounds (List.all_eq_true.1 h _ hm)
  simp at this
theorem no_slash_ip (a : Int) : (47 : UInt8) ∉ ipTxt a := by
  rw [ipTxt_eq]
  simp only [List.mem_append, List.mem_singleton, not_or]
  refine ⟨⟨⟨⟨⟨⟨no_slash _ (dec_all _), by decide⟩, no_slash _ (dec_all _)⟩, by decide⟩, no_slash _ (dec_all _)⟩, by decide⟩, no_slash _ (dec_all _)⟩
theorem numOk2_dec (b : Int) (h0 : 0 ≤ b) (h1 : b ≤ 32) : numOk 2 (Lib.decDigits b.toNat) = true := by
  have h := (canon_iff _).1 (canon_dec b.toNat)
  refine (numOk_iff 2 _).2 ⟨⟨?_, dec_len18 2 _ (by omega) (by omega), h.2.2⟩, h.2.1⟩
  have := List.length_pos_iff.2 h.1
  omega
/-- A net's text is read as it was. -/
theorem netOf_txt {a b : Int} (ha : 0 ≤ a) (ha' : a < 4294967296) (hm : mayB a b = true) : netOf (netText a b) = some (a, b) := by
  obtain ⟨b0, b1⟩ := may_bits hm
  have hc : cutS (netText a b) = (ipTxt a, Lib.decDigits b.toNat, true) := by
    unfold netText
    rw [if_pos hm]
    exact cutS_app _ _ (no_slash_ip a)
  have hn : num10 (Lib.decDigits b.toNat) = b := by rw [num10_dec]; omega
  unfold netOf
  rw [hc]
  simp only []
  rw [ipOf_txt a ha ha']
  simp only []
  rw [hn, numOk2_dec b b0 b1, hm]
  rfl
end
section
open Go.RowKit
def refNetVal (o : Option (Int × Int)) : Value := match o with
  | some p => .tuple #[.agg #[.int .u32 p.1, .int .i64 p.2], .bool true]
  | none => .tuple #[.agg #[.int .u32 0, .int .i64 0], .bool false]
theorem cutS_none (w : List UInt8) (hw : (47 : UInt8) ∉ w) : cutS w = (w, [], false) := by
  induction w with
  | nil => rfl
  | cons c w ih =>
    simp only [List.mem_cons, not_or] at hw
    rw [cutS_cons, if_neg (fun e => hw.1 e.symm), ih hw.2]
/-- A number of bits, as the program reads it and as the document does: one, where a net may be. -/
theorem bits_eq (l : List UInt8) (a : Int) : (numOk 2 l && mayB a (num10 l)) = (valOk 32 l && mayB a (num10 l)) := by
  cases hm : mayB a (num10 l) with
  | false => simp
  | true =>
    obtain ⟨b0, b1⟩ := may_bits hm
    rw [Bool.and_true, Bool.and_true, Bool.eq_iff_iff, numOk_iff, valOk_iff, canon_iff]
    constructor
    · rintro ⟨⟨h1, h2, h3⟩, h4⟩
      exact ⟨⟨fun e => by rw [e] at h1; simp at h1, h4, h3⟩, b1⟩
    · rintro ⟨⟨h1, h2, h3⟩, h4⟩
      have hp := List.length_pos_iff.2 h1
      refine ⟨⟨by omega, ?_, h3⟩, h2⟩
      rcases Nat.lt_or_ge 2 l.length with hh | hh
      · exfalso
        have := num10_ge_pow l ((canon_iff _).2 ⟨h1, h2, h3⟩) 2 hh (by omega)
        omega
      · exact hh
/-- The reading, where the first '/' stands behind i signs. -/
theorem netOf_at (l : List UInt8) (i : Nat) (hi : i < l.length) (h47 : l.getD i 0 = 47) (hno : (47 : UInt8) ∉ l.take i) :
    netOf l = match ipOf (l.take i) with
      | some a => if (valOk 32 (l.drop (i + 1)) && mayB a (num10 (l.drop (i + 1)))) = true then some (a, num10 (l.drop (i + 1))) else none
      | none => none := by
  have e : l = l.take i ++ 47 :: l.drop (i + 1) := by
    have h1 : l.drop i = 47 :: l.drop (i + 1) := by
      rw [List.drop_eq_getElem_cons hi]
      congr 1
      rw [← h47]; simp [List.getD, List.getElem?_eq_getElem hi]
    rw [← h1, List.take_append_drop]
  have hc : cutS l = (l.take i, l.drop (i + 1), true) := by
    conv => lhs; rw [e]
    exact cutS_app _ _ hno
  unfold netOf
  rw [hc]
  simp only [Bool.true_and]
  cases ipOf (l.take i) with
  | none => rfl
  | some a => simp only []; rw [bits_eq]
theorem netOf_no (l : List UInt8) (hno : (47 : UInt8) ∉ l) : netOf l = none := by
  unfold netOf
  rw [cutS_none l hno]
  cases ipOf l with
  | none => rfl
  | some a => simp
theorem ext_take (s : ByteArray) (i : Nat) : (s.extract 0 i).data.toList = s.data.toList.take i := by
  rw [Lib.extract_data, List.drop_zero, Nat.sub_zero]
theorem ext_drop (s : ByteArray) (i : Nat) : (s.extract i s.size).data.toList = s.data.toList.drop i := by
  rw [Lib.extract_data, List.take_of_length_le (by rw [List.length_drop, len_of]; omega)]
theorem byte0x (s : ByteArray) (i : Nat) (h : i < s.size) : s.data.toList.getD i 0 = s[i] := by
  have h2 : i < s.data.toList.length := by rw [len_of]; exact h
  rw [List.getD_eq_getElem?_getD, List.getElem?_eq_getElem h2, Option.getD_some]
  rfl
theorem ext_size (s : ByteArray) (i j : Nat) : (s.extract i j).size ≤ s.size := by
  rw [ByteArray.size_extract]; omega
set_option maxHeartbeats 8000000 in
theorem refNetParse_any (s : ByteArray) (w : World) (hs : s.size ≤ 600) :
    Calls Tryz.prog 101 #[.string s] w fun e w' => e = .returned (refNetVal (netOf s.data.toList)) ∧ Below w.heap.size w w' := by
  have hO := Own2.new w 0 0 103
  go_enter Tryz.func101, Tryz.ntmps101
  go_wp2_with fail
  go_loop [4] (fun j => ∃ i : Nat, i ≤ s.size ∧ j = .int .i64 i ∧ (47 : UInt8) ∉ s.data.toList.take i) (fun j => s.size - (intOf j).toNat)
  case atStart => exact ⟨0, Nat.zero_le _, rfl, by simp⟩
  case round =>
    obtain ⟨i, hi, rfl, hno⟩ := hrel
    by_cases hlt : i < s.size
    · by_cases h47 : (s[i].toNat : Int) = 47
      · have d47 : ((s[i].toNat : Int) == 47) = true := by simpa using h47
        have h48 : s.data.toList.getD i 0 = 47 := by
          have := h47
          rw [byte0x s i hlt]
          exact UInt8.toNat_inj.1 (by simpa using (by omega : s[i].toNat = 47))
        have hAt := netOf_at s.data.toList i (by rw [len_of]; exact hlt) h48 hno
        obtain ⟨D, hD⟩ : ∃ D, D = s.data.toList.drop (i + 1) := ⟨_, rfl⟩
        rw [← hD] at hAt
        have HV2a : ∀ w, Calls Tryz.prog 131 #[.string (s.extract (i + 1) s.size), .int .i64 32] w fun e w' => e = .returned (valVal 32 D) ∧ Below w.heap.size w w' := fun w => by
          have h := value_any (s.extract (i + 1) s.size) 32 (by decide) (by decide) w (Nat.le_trans (ext_size _ _ _) (by omega))
          rwa [ext_drop, ← hD] at h
        have HIa : ∀ w, Calls Tryz.prog 130 #[.string (s.extract 0 i)] w fun e w' => e = .returned (refVal (ipOf (s.data.toList.take i))) ∧ Below w.heap.size w w' := fun w => by
          have h := refParse_any (s.extract 0 i) (Nat.le_trans (ext_size _ _ _) hs) w
          rwa [ext_take s i] at h
        have b1 : (i : Int) + 1 ≤ s.size := by omega
        clear hno h47 h48 hD
        cases hip : ipOf (s.data.toList.take i) with
        | none =>
          rw [hip] at hAt HIa
          have HV : Hid (refNetVal (netOf s.data.toList) = .tuple #[.agg #[.int .u32 0, .int .i64 0], .bool false]) := Lib.hid (by rw [hAt]; rfl)
          have HI : Hid (∀ w, Calls Tryz.prog 130 #[.string (s.extract 0 i)] w fun e w' => e = .returned (.tuple #[.int .u32 0, .bool false]) ∧ Below w.heap.size w w') := Lib.hid HIa
          clear hAt hip HIa
          by_cases hv : valOk 32 D = true
          · have HV2 := Lib.hid HV2a
            rw [val_yes hv] at HV2
            clear HV2a hv
            go_wp2_with fail
            refine (HI.out _).mono ?_; rintro e w1 ⟨rfl, hb1⟩
            have hB1 := bel (belNew w _) hb1
            have hO1 := hO.keep hb1
            go_wp2_with fail
            refine (HV2.out _).mono ?_; rintro e w2 ⟨rfl, hb2⟩
            have hB2 := bel hB1 hb2
            have hO2 := hO1.keep hb2
            obtain ⟨⟨k0, k1, k2⟩, k3, k4⟩ := id hO2
            go_wp2_with fail
            refine bodyPost_ret (v := .tuple #[.agg #[.int .u32 0, .int .i64 0], .bool false]) ?_ rfl ⟨congrArg Ending.returned HV.out.symm, ?_⟩
            · simp [results, Tryz.results101, go_sem, k0, k1, (res2 hO2.1 0 0 _).1, (res2 hO2.1 0 0 _).2]
            · first | exact belAlloc ((hB2.setCell (p := ⟨w.heap.size, 0, none⟩) (Nat.le_refl _) _).setCell (p := ⟨w.heap.size, 1, none⟩) (Nat.le_refl _) _) _ | exact ((belAlloc hB2 _).setCell (p := ⟨w.heap.size, 0, none⟩) (Nat.le_refl _) _).setCell (p := ⟨w.heap.size, 1, none⟩) (Nat.le_refl _) _
          · have HV2 := Lib.hid HV2a
            rw [val_no hv] at HV2
            clear HV2a hv
            go_wp2_with fail
            refine (HI.out _).mono ?_; rintro e w1 ⟨rfl, hb1⟩
            have hB1 := bel (belNew w _) hb1
            have hO1 := hO.keep hb1
            go_wp2_with fail
            refine (HV2.out _).mono ?_; rintro e w2 ⟨rfl, hb2⟩
            have hB2 := bel hB1 hb2
            have hO2 := hO1.keep hb2
            obtain ⟨⟨k0, k1, k2⟩, k3, k4⟩ := id hO2
            go_wp2_with fail
            refine bodyPost_ret (v := .tuple #[.agg #[.int .u32 0, .int .i64 0], .bool false]) ?_ rfl ⟨congrArg Ending.returned HV.out.symm, ?_⟩
            · simp [results, Tryz.results101, go_sem, k0, k1, (res2 hO2.1 0 0 _).1, (res2 hO2.1 0 0 _).2]
            · first | exact belAlloc ((hB2.setCell (p := ⟨w.heap.size, 0, none⟩) (Nat.le_refl _) _).setCell (p := ⟨w.heap.size, 1, none⟩) (Nat.le_refl _) _) _ | exact ((belAlloc hB2 _).setCell (p := ⟨w.heap.size, 0, none⟩) (Nat.le_refl _) _).setCell (p := ⟨w.heap.size, 1, none⟩) (Nat.le_refl _) _
        | some a =>
          rw [hip] at hAt HIa
          obtain ⟨a0, a1⟩ := ipOf_bd hip
          have HI : Hid (∀ w, Calls Tryz.prog 130 #[.string (s.extract 0 i)] w fun e w' => e = .returned (.tuple #[.int .u32 a, .bool true]) ∧ Below w.heap.size w w') := Lib.hid HIa
          clear hip HIa
          by_cases hv : valOk 32 D = true
          · obtain ⟨hcn, hle⟩ := (valOk_iff 32 D).1 hv
            have hn0 : 0 ≤ num10 D := (num10_bounds D ((canon_iff D).1 hcn).2.1).1
            have HV2 := Lib.hid HV2a
            rw [val_yes hv] at HV2
            clear HV2a hcn
            obtain ⟨n, hn⟩ : ∃ n, n = num10 D := ⟨_, rfl⟩
            rw [← hn] at HV2 hAt hle hn0
            by_cases hmy : mayB a n = true
            · have HV : Hid (refNetVal (netOf s.data.toList) = .tuple #[.agg #[.int .u32 a, .int .i64 n], .bool true]) := Lib.hid (by
                rw [hAt]; simp only []; rw [if_pos (by rw [hv, hmy]; rfl)]; rfl)
              have HY : Hid (∀ w, Calls Tryz.prog 102 #[.agg #[.int .u32 a, .int .i64 n]] w fun e w' => e = .returned (.bool true) ∧ Below w.heap.size w w') := Lib.hid (fun w => by rw [← hmy]; exact refMay_any a n a0 a1 (by omega) (by omega) w)
              clear hAt hv hmy hn
              go_wp2_with fail
              refine (HI.out _).mono ?_; rintro e w1 ⟨rfl, hb1⟩
              have hB1 := bel (belNew w _) hb1
              have hO1 := hO.keep hb1
              go_wp2_with fail
              refine (HV2.out _).mono ?_; rintro e w2 ⟨rfl, hb2⟩
              have hB2 := bel hB1 hb2
              have hO2 := hO1.keep hb2
              obtain ⟨⟨k0, k1, k2⟩, k3, k4⟩ := id hO2
              go_wp2_with fail
              have hP := Cell2.new w2 a n 103
              have hO3 := hO2.keep (belNew w2 (.cells #[.int .u32 a, .int .i64 n] 103))
              clear k0 k1 k2 k3 k4
              refine (HY.out _).mono ?_; rintro e w3 ⟨rfl, hb3⟩
              obtain ⟨⟨k0, k1, k2⟩, k3, k4⟩ := hO3.keep hb3
              obtain ⟨j0, j1, j2⟩ := hP.keep hb3
              have hB3 := bel (belAlloc hB2 _) hb3
              go_wp2_with fail
              refine bodyPost_ret (v := .tuple #[.agg #[.int .u32 a, .int .i64 n], .bool true]) ?_ rfl ⟨congrArg Ending.returned HV.out.symm, (hB3.setCell (Nat.le_refl _) _).setCell (Nat.le_refl _) _⟩
              simp [results, Tryz.results101, go_sem, k0, k1]
            · have hmf : mayB a n = false := by simpa using hmy
              have HV : Hid (refNetVal (netOf s.data.toList) = .tuple #[.agg #[.int .u32 0, .int .i64 0], .bool false]) := Lib.hid (by
                rw [hAt]; simp only []; rw [if_neg (by rw [hmf]; simp)]; rfl)
              have HY : Hid (∀ w, Calls Tryz.prog 102 #[.agg #[.int .u32 a, .int .i64 n]] w fun e w' => e = .returned (.bool false) ∧ Below w.heap.size w w') := Lib.hid (fun w => by rw [← hmf]; exact refMay_any a n a0 a1 (by omega) (by omega) w)
              clear hAt hv hmy hmf hn
              go_wp2_with fail
              refine (HI.out _).mono ?_; rintro e w1 ⟨rfl, hb1⟩
              have hB1 := bel (belNew w _) hb1
              have hO1 := hO.keep hb1
              go_wp2_with fail
              refine (HV2.out _).mono ?_; rintro e w2 ⟨rfl, hb2⟩
              have hB2 := bel hB1 hb2
              have hO2 := hO1.keep hb2
              obtain ⟨⟨k0, k1, k2⟩, k3, k4⟩ := id hO2
              go_wp2_with fail
              have hP := Cell2.new w2 a n 103
              have hO3 := hO2.keep (belNew w2 (.cells #[.int .u32 a, .int .i64 n] 103))
              clear k0 k1 k2 k3 k4
              refine (HY.out _).mono ?_; rintro e w3 ⟨rfl, hb3⟩
              obtain ⟨⟨k0, k1, k2⟩, k3, k4⟩ := hO3.keep hb3
              obtain ⟨j0, j1, j2⟩ := hP.keep hb3
              have hB3 := bel (belAlloc hB2 _) hb3
              go_wp2_with fail
              refine bodyPost_ret (v := .tuple #[.agg #[.int .u32 0, .int .i64 0], .bool false]) ?_ rfl ⟨congrArg Ending.returned HV.out.symm, (hB3.setCell (Nat.le_refl _) _).setCell (Nat.le_refl _) _⟩
              simp [results, Tryz.results101, go_sem, k0, k1]
          · have HV : Hid (refNetVal (netOf s.data.toList) = .tuple #[.agg #[.int .u32 0, .int .i64 0], .bool false]) := Lib.hid (by
              rw [hAt]; simp only []; rw [if_neg (by rw [Bool.and_eq_true]; exact fun h => hv h.1)]; rfl)
            have HV2 := Lib.hid HV2a
            rw [val_no hv] at HV2
            clear HV2a hv hAt
            go_wp2_with fail
            refine (HI.out _).mono ?_; rintro e w1 ⟨rfl, hb1⟩
            have hB1 := bel (belNew w _) hb1
            have hO1 := hO.keep hb1
            go_wp2_with fail
            refine (HV2.out _).mono ?_; rintro e w2 ⟨rfl, hb2⟩
            have hB2 := bel hB1 hb2
            have hO2 := hO1.keep hb2
            obtain ⟨⟨k0, k1, k2⟩, k3, k4⟩ := id hO2
            go_wp2_with fail
            refine bodyPost_ret (v := .tuple #[.agg #[.int .u32 0, .int .i64 0], .bool false]) ?_ rfl ⟨congrArg Ending.returned HV.out.symm, ?_⟩
            · simp [results, Tryz.results101, go_sem, k0, k1, (res2 hO2.1 0 0 _).1, (res2 hO2.1 0 0 _).2]
            · first | exact belAlloc ((hB2.setCell (p := ⟨w.heap.size, 0, none⟩) (Nat.le_refl _) _).setCell (p := ⟨w.heap.size, 1, none⟩) (Nat.le_refl _) _) _ | exact ((belAlloc hB2 _).setCell (p := ⟨w.heap.size, 0, none⟩) (Nat.le_refl _) _).setCell (p := ⟨w.heap.size, 1, none⟩) (Nat.le_refl _) _
      · have d47 : ((s[i].toNat : Int) == 47) = false := by simpa using h47
        go_wp2_with fail
        go_round
        case rel =>
          refine ⟨i + 1, by omega, by go_num, ?_⟩
          rw [take_snoc s i hlt, List.mem_append, List.mem_singleton, not_or]
          exact ⟨hno, fun e => h47 (by rw [← e]; rfl)⟩
        case measure => simp [intOf]; omega
    · have HV : Hid (refNetVal (netOf s.data.toList) = .tuple #[.agg #[.int .u32 0, .int .i64 0], .bool false]) := Lib.hid (by
        rw [netOf_no _ (by rwa [List.take_of_length_le (by rw [len_of]; omega)] at hno)]; rfl)
      clear hno
      obtain ⟨⟨k0, k1, k2⟩, k3, k4⟩ := id hO
      go_wp2_with fail
      refine bodyPost_ret (v := .tuple #[.agg #[.int .u32 0, .int .i64 0], .bool false]) ?_ rfl ⟨congrArg Ending.returned HV.out.symm, ?_⟩
      · simp [results, Tryz.results101, go_sem]
      · first | exact belNew w _ | exact ((belNew w _).setCell (p := ⟨w.heap.size, 0, none⟩) (Nat.le_refl _) _).setCell (p := ⟨w.heap.size, 1, none⟩) (Nat.le_refl _) _
theorem sliceTo40n (s : ByteArray) (hs : 40 ≤ s.size) (W : World) : (Instr.slice 9 (.string s) none (some (.int .i64 40)) none).run Tryz.prog W = .ok (.string (s.extract 0 40)) W := sliceTo40 s hs W
end
end Go.Proofs.YtkldglhihfjclaaGreatDoor.NM
