/- Package cidr, as package recs calls it: nets that may be, their counts, the k-th one of them. -/
import Derived.Deep.Cut
import Derived.Laws.CopyOwn
import Derived.Laws.CopyRow
import Derived.Lib.SliceRun
import Derived.Lib.AppendZeros
import Derived.Lib.AppendZerosOnto
import Derived.Laws.IdiomCopy
import Derived.Laws.NewBlocks
import Derived.Maps.AppendAt
import Derived.Test.YtiifbhiodegipaaGreatDoorJPk
import Derived.Deep.RegionHeld3
import Derived.IntWalk
import Derived.BigQuiet
import Derived.BigCall
import Derived.LoopN
import Derived.OwnWalk
import Derived.Laws.StructEq
namespace Go.Proofs.YtiifbhiodegipaaGreatDoor
open Go.RowKit
/-- 2^(32-b), for b of 0 to 32. -/
def hole (b : Int) : Int := 2 ^ (32 - b).toNat
theorem hole_pos (b : Int) : 0 < hole b := Int.pow_pos (by omega)
theorem hole_le (b : Int) (h : 0 ≤ b) : hole b ≤ 4294967296 := by
  unfold hole
  have : (2 : Nat) ^ (32 - b).toNat ≤ 2 ^ 32 := Nat.pow_le_pow_right (by omega) (by omega)
  have h2 : ((2 ^ (32 - b).toNat : Nat) : Int) ≤ ((2 ^ 32 : Nat) : Int) := Int.ofNat_le.2 this
  simpa using h2
def bitsOk (b : Int) : Bool := decide (0 ≤ b ∧ b ≤ 32)
/-- May a net be? -/
def mayB (a b : Int) : Bool := bitsOk b && decide (a % hole b = 0)
def clampB (b : Int) : Int := min (max b 0) 32
/-- A mask's number. -/
def maskI (b : Int) : Int := 4294967296 - hole (clampB b)
theorem clampB_in {b : Int} (h0 : 0 ≤ b) (h1 : b ≤ 32) : clampB b = b := by unfold clampB; omega
theorem clampB_bd (b : Int) : 0 ≤ clampB b ∧ clampB b ≤ 32 := by unfold clampB; omega
theorem shl_mask (k : Nat) (hk : k ≤ 32) : (4294967295 * 2 ^ k : Int) % 4294967296 = 4294967296 - 2 ^ k := by
  have h : ∀ k : Fin 33, (4294967295 * 2 ^ k.val : Int) % 4294967296 = 4294967296 - 2 ^ k.val := by decide
  exact h ⟨k, by omega⟩
theorem maskI_bd (b : Int) : 0 ≤ maskI b ∧ maskI b < 4294967296 := by
  unfold maskI
  have h1 := hole_pos (clampB b)
  have h2 := hole_le (clampB b) (clampB_bd b).1
  omega
/-- What is not under a mask: the rest by the net's size. -/
theorem andNot_mask (a b : Int) (ha : 0 ≤ a) (ha' : a < 4294967296) (h0 : 0 ≤ b) (h1 : b ≤ 32) : bits .andNot .u32 a (maskI b) = a % hole b := by
  obtain ⟨m0, m1⟩ := maskI_bd b
  rw [u32_andNot a _ ha ha' m0 m1]
  have hh : 4294967295 - (maskI b).toNat = 2 ^ (32 - b).toNat - 1 := by
    have hp := hole_pos b
    have hl := hole_le b h0
    have hc : ((2 ^ (32 - b).toNat : Nat) : Int) = hole b := by unfold hole; simp
    unfold maskI
    rw [clampB_in h0 h1]
    omega
  rw [hh, Nat.and_two_pow_sub_one_eq_mod]
  unfold hole
  obtain ⟨n, rfl⟩ := Int.eq_ofNat_of_zero_le ha
  simp
theorem and_high (x k : Nat) (hx : x < 2 ^ 32) (hk : k ≤ 32) : x &&& (2 ^ 32 - 2 ^ k) = x - x % 2 ^ k := by
  have hp := Nat.two_pow_pos k
  have hle : 2 ^ k ≤ 2 ^ 32 := Nat.pow_le_pow_right (by omega) hk
  have e : x - x % 2 ^ k = x / 2 ^ k * 2 ^ k := by have := Nat.div_add_mod x (2 ^ k); rw [Nat.mul_comm] at this; omega
  rw [e]
  apply Nat.eq_of_testBit_eq
  intro i
  rw [Nat.testBit_and, show 2 ^ 32 - 2 ^ k = 2 ^ 32 - ((2 ^ k - 1) + 1) from by omega, Nat.testBit_two_pow_sub_succ (by omega), Nat.testBit_two_pow_sub_one, ← Nat.shiftLeft_eq, Nat.testBit_shiftLeft, Nat.testBit_div_two_pow]
  by_cases h : i < k
  · simp [h, show ¬ k ≤ i from by omega]
  · have h2 : k ≤ i := by omega
    rw [show i - k + k = i from by omega]
    by_cases h3 : i < 32
    · simp [h, h2, h3]
    · have : x.testBit i = false := Nat.testBit_lt_two_pow (Nat.lt_of_lt_of_le hx (Nat.pow_le_pow_right (by omega) (by omega)))
      simp [this]
theorem hole_nat (b : Int) : hole b = ((2 ^ (32 - b).toNat : Nat) : Int) := by unfold hole; simp
theorem and_mask (a b : Int) (ha : 0 ≤ a) (ha' : a < 4294967296) (h0 : 0 ≤ b) (h1 : b ≤ 32) : bits .and .u32 a (maskI b) = a - a % hole b := by
  obtain ⟨m0, m1⟩ := maskI_bd b
  rw [u32_and a _ ha ha' m0 m1]
  have hm : (maskI b).toNat = 2 ^ 32 - 2 ^ (32 - b).toNat := by
    unfold maskI
    rw [clampB_in h0 h1, hole_nat]
    omega
  rw [hm, and_high _ _ (by omega) (by omega), hole_nat]
  obtain ⟨n, rfl⟩ := Int.eq_ofNat_of_zero_le ha
  rw [Int.toNat_natCast]
  have := Nat.mod_le n (2 ^ (32 - b).toNat)
  omega
set_option maxHeartbeats 400000 in
theorem mayBits_any (b : Int) (w : World) :
    Calls Tryz.prog 61 #[.int .i64 b] w fun e w' => e = .returned (.bool (bitsOk b)) ∧ w = w' := by
  by_cases h0 : 0 ≤ b
  · have d0 : decide (0 ≤ b) = true := by simpa using h0
    have HV : Hid (decide (b ≤ 32) = bitsOk b) := Lib.hid (by unfold bitsOk; rw [Bool.eq_iff_iff]; simp [h0])
    go_enter Tryz.func61, Tryz.ntmps61
    go_wp2
    go_ret
    exact ⟨congrArg (fun b => Ending.returned (.bool b)) HV.out, rfl⟩
  · have d0 : decide (0 ≤ b) = false := by simpa using h0
    have HV : Hid (false = bitsOk b) := Lib.hid (by unfold bitsOk; simp [h0])
    go_enter Tryz.func61, Tryz.ntmps61
    go_wp2
    go_ret
    exact ⟨congrArg (fun b => Ending.returned (.bool b)) HV.out, rfl⟩
set_option maxHeartbeats 400000 in
theorem mask_any (b : Int) (w : World) :
    Calls Tryz.prog 62 #[.int .i64 b] w fun e w' => e = .returned (.int .u32 (maskI b)) ∧ w = w' := by
  have HV : Hid (4294967295 * 2 ^ (32 - min (max b 0) 32).toNat % 4294967296 = maskI b) := Lib.hid (shl_mask _ (by omega))
  go_enter Tryz.func62, Tryz.ntmps62
  go_wp2
  go_ret
  exact ⟨congrArg (fun b => Ending.returned (.int .u32 b)) HV.out, rfl⟩
set_option maxHeartbeats 400000 in
theorem refPow_any (k : Int) (h0 : 0 ≤ k) (h1 : k ≤ 32) (w : World) :
    Calls Tryz.prog 68 #[.int .i64 k] w fun e w' => e = .returned (.int .i64 (2 ^ k.toNat)) ∧ w = w' := by
  go_enter Tryz.func68, Tryz.ntmps68
  go_wp2
  go_loop [3, 4] (fun v j => ∃ i : Nat, (i : Int) ≤ k ∧ j = .int .i64 i ∧ v = .int .i64 (2 ^ i)) (fun _ j => (k - intOf j).toNat)
  case atStart => exact ⟨0, by omega, rfl, rfl⟩
  case round =>
    obtain ⟨i, hi, rfl, rfl⟩ := hrel
    have hp : (0 : Int) < 2 ^ i := Int.pow_pos (by omega)
    have hq : (2 : Int) ^ i ≤ 4294967296 := by
      have : (2 : Nat) ^ i ≤ 2 ^ 32 := Nat.pow_le_pow_right (by omega) (by omega)
      have h2 : ((2 ^ i : Nat) : Int) ≤ ((2 ^ 32 : Nat) : Int) := Int.ofNat_le.2 this
      simpa using h2
    by_cases hlt : (i : Int) < k
    · go_wp2
      go_round
      case rel => exact ⟨i + 1, by omega, by go_num, by rw [Int.pow_succ, Int.mul_comm]⟩
      case measure => simp [intOf]; omega
    · have HV : Hid ((2 : Int) ^ i = 2 ^ k.toNat) := Lib.hid (by rw [show k.toNat = i from by omega])
      go_wp2
      go_ret
      exact ⟨congrArg (fun b => Ending.returned (.int .i64 b)) HV.out, rfl⟩
theorem quietN {P : Program} {f : FuncId} {args : Array Value} {w : World} {n : Nat} {v : Value} (h : Calls P f args (w.drewN n) fun e w' => e = .returned v ∧ w.drewN n = w') :
    Calls P f args (w.drewN n) fun e w'' => e = .returned v ∧ ∃ m, w'' = w.drewN m :=
  h.mono fun _ _ ⟨he, hm⟩ => ⟨he, n, hm.symm⟩
theorem may_of {a b : Int} (h : bitsOk b = true) : mayB a b = (a % hole b == 0) := by
  unfold mayB; rw [h, Bool.true_and]; rw [Bool.eq_iff_iff]; simp
theorem bitsOk_iff {b : Int} : bitsOk b = true ↔ 0 ≤ b ∧ b ≤ 32 := by unfold bitsOk; exact decide_eq_true_iff
set_option maxHeartbeats 1000000 in
theorem may_any (a b : Int) (ha : 0 ≤ a) (ha' : a < 4294967296) (w : World) :
    Calls Tryz.prog 63 #[.agg #[.int .u32 a, .int .i64 b]] w fun e w' => e = .returned (.bool (mayB a b)) ∧ Below w.heap.size w w' := by
  by_cases hb : bitsOk b = true
  · obtain ⟨b0, b1⟩ := bitsOk_iff.1 hb
    have HV : Hid ((bits .andNot .u32 a (maskI b) == 0) = mayB a b) := Lib.hid (by rw [andNot_mask a b ha ha' b0 b1, may_of hb])
    have H1 : Hid (∀ w, Calls Tryz.prog 61 #[.int .i64 b] w fun e w' => e = .returned (.bool true) ∧ w = w') := Lib.hid (fun w => by rw [← hb]; exact mayBits_any b w)
    clear hb
    go_enter Tryz.func63, Tryz.ntmps63
    go_wp2_with fail
    go_quiet ((first | (go_at_call 61; exact quietN (H1.out _)) | (go_at_call 62; exact quietN (mask_any b _))))
    go_wp2
    go_ret
    exact ⟨congrArg (fun b => Ending.returned (.bool b)) HV.out, below_drewN ((Below.refl _ _).alloc (Nat.le_refl _) _) _⟩
  · have hb' : bitsOk b = false := by simpa using hb
    have HV : Hid (false = mayB a b) := Lib.hid (by unfold mayB; rw [hb', Bool.false_and])
    have H1 : Hid (∀ w, Calls Tryz.prog 61 #[.int .i64 b] w fun e w' => e = .returned (.bool false) ∧ w = w') := Lib.hid (fun w => by rw [← hb']; exact mayBits_any b w)
    clear hb hb'
    go_enter Tryz.func63, Tryz.ntmps63
    go_wp2_with fail
    go_quiet ((go_at_call 61; exact quietN (H1.out _)))
    go_wp2
    go_ret
    exact ⟨congrArg (fun b => Ending.returned (.bool b)) HV.out, below_drewN ((Below.refl _ _).alloc (Nat.le_refl _) _) _⟩
set_option maxHeartbeats 1000000 in
theorem refMay_any (a b : Int) (ha : 0 ≤ a) (ha' : a < 4294967296) (hb : -9223372036854775808 ≤ b) (hb' : b ≤ 9223372036854775807) (w : World) :
    Calls Tryz.prog 40 #[.agg #[.int .u32 a, .int .i64 b]] w fun e w' => e = .returned (.bool (mayB a b)) ∧ Below w.heap.size w w' := by
  by_cases h0 : 0 ≤ b
  · have d0 : decide (0 ≤ b) = true := by simpa using h0
    by_cases h1 : b ≤ 32
    · have d1 : decide (b ≤ 32) = true := by simpa using h1
      have hp := hole_pos b
      have hl := hole_le b h0
      have HV : Hid ((a % hole b == 0) = mayB a b) := Lib.hid (may_of (bitsOk_iff.2 ⟨h0, h1⟩)).symm
      have H1 : Hid (∀ w, Calls Tryz.prog 68 #[.int .i64 (32 - b)] w fun e w' => e = .returned (.int .i64 (hole b)) ∧ w = w') := Lib.hid (fun w => refPow_any (32 - b) (by omega) (by omega) w)
      go_enter Tryz.func40, Tryz.ntmps40
      go_wp2_with fail
      go_quiet ((go_at_call 68; exact quietN (H1.out _)))
      go_wp2
      go_ret
      exact ⟨congrArg (fun b => Ending.returned (.bool b)) HV.out, below_drewN ((Below.refl _ _).alloc (Nat.le_refl _) _) _⟩
    · have d1 : decide (b ≤ 32) = false := by simpa using h1
      have HV : Hid (false = mayB a b) := Lib.hid (by unfold mayB bitsOk; simp; omega)
      go_enter Tryz.func40, Tryz.ntmps40
      go_wp2_with fail
      go_quiet (fail)
      go_wp2
      go_ret
      exact ⟨congrArg (fun b => Ending.returned (.bool b)) HV.out, below_drewN ((Below.refl _ _).alloc (Nat.le_refl _) _) _⟩
  · have d0 : decide (0 ≤ b) = false := by simpa using h0
    have HV : Hid (false = mayB a b) := Lib.hid (by unfold mayB bitsOk; simp; omega)
    go_enter Tryz.func40, Tryz.ntmps40
    go_wp2_with fail
    go_quiet (fail)
    go_wp2
    go_ret
    exact ⟨congrArg (fun b => Ending.returned (.bool b)) HV.out, below_drewN ((Below.refl _ _).alloc (Nat.le_refl _) _) _⟩
/-- A net in block g. -/
def Cell2 (g : Nat) (a b : Int) (W : World) : Prop := W.cell? ⟨g, 0, none⟩ = some (.int .u32 a) ∧ W.cell? ⟨g, 1, none⟩ = some (.int .i64 b) ∧ g < W.heap.size
theorem Cell2.keep {g : Nat} {a b : Int} {W W' : World} (h : Cell2 g a b W) (hb : Below W.heap.size W W') : Cell2 g a b W' :=
  ⟨(hb.cell (p := ⟨g, 0, none⟩) h.2.2).trans h.1, (hb.cell (p := ⟨g, 1, none⟩) h.2.2).trans h.2.1, Nat.lt_of_lt_of_le h.2.2 hb.size⟩
theorem Cell2.drewN {g : Nat} {a b : Int} {W : World} (h : Cell2 g a b W) (n : Nat) : Cell2 g a b (W.drewN n) := h
theorem Cell2.new (w : World) (a b : Int) (t : TypeId) : Cell2 w.heap.size a b (w.alloc (.cells #[.int .u32 a, .int .i64 b] t)) := by
  refine ⟨?_, ?_, ?_⟩ <;> simp
theorem Cell2.alloc {g : Nat} {a b : Int} {W : World} (h : Cell2 g a b W) (o : Obj) : Cell2 g a b (W.alloc o) := h.keep ((Below.refl _ _).alloc (Nat.le_refl _) _)
theorem belD {w a b : World} {n : Nat} (h : Below w.heap.size w a) (k : Below (a.drewN n).heap.size (a.drewN n) b) : Below w.heap.size w b := (below_drewN h n).trans (k.mono h.size)
/-- A net in a block of the call's own. -/
def Own2 (g : Nat) (a b : Int) (W : World) : Prop := Cell2 g a b W ∧ W.frozen? ⟨g, 0, none⟩ = false ∧ W.frozen? ⟨g, 1, none⟩ = false
theorem Own2.keep {g : Nat} {a b : Int} {W W' : World} (h : Own2 g a b W) (hb : Below W.heap.size W W') : Own2 g a b W' :=
  ⟨h.1.keep hb, (hb.frozen (p := ⟨g, 0, none⟩) h.1.2.2).trans h.2.1, (hb.frozen (p := ⟨g, 1, none⟩) h.1.2.2).trans h.2.2⟩
theorem Own2.drewN {g : Nat} {a b : Int} {W : World} (h : Own2 g a b W) (n : Nat) : Own2 g a b (W.drewN n) := h
theorem Own2.new (w : World) (a b : Int) (t : TypeId) : Own2 w.heap.size a b (w.alloc (.cells #[.int .u32 a, .int .i64 b] t)) := by
  refine ⟨Cell2.new w a b t, ?_, ?_⟩ <;> simp [go_sem]
theorem res2 {w1 : World} {g : Nat} {x y : Int} (h : Cell2 g x y w1) (a b : Int) (o : Obj) :
    (((w1.setCell ⟨g, 0, none⟩ (.int .u32 a)).setCell ⟨g, 1, none⟩ (.int .i64 b)).alloc o).cell? ⟨g, 0, none⟩ = some (.int .u32 a) ∧
    (((w1.setCell ⟨g, 0, none⟩ (.int .u32 a)).setCell ⟨g, 1, none⟩ (.int .i64 b)).alloc o).cell? ⟨g, 1, none⟩ = some (.int .i64 b) := by
  have hl : g < ((w1.setCell ⟨g, 0, none⟩ (.int .u32 a)).setCell ⟨g, 1, none⟩ (.int .i64 b)).heap.size := by simpa [World.setCell] using h.2.2
  have n1 : (w1.setCell ⟨g, 0, none⟩ (.int .u32 a)).cell? ⟨g, 1, none⟩ = some (.int .i64 y) := by
    rw [World.cell?_setCell_other _ _ _ _ (by simp)]; exact h.2.1
  constructor
  · rw [World.cell?_alloc_lt _ _ _ (by exact hl), World.cell?_setCell_other _ _ _ _ (by simp)]
    exact World.cell?_setCell_same _ _ _ h.1
  · rw [World.cell?_alloc_lt _ _ _ (by exact hl)]
    exact World.cell?_setCell_same _ _ _ n1
/-- How many nets of c bits a net covers. -/
def countI (a b c : Int) : Int := if mayB a b = true ∧ bitsOk c = true ∧ b ≤ c then 2 ^ (c - b).toNat else 0
theorem may_bits {a b : Int} (h : mayB a b = true) : 0 ≤ b ∧ b ≤ 32 := bitsOk_iff.1 (by unfold mayB at h; rw [Bool.and_eq_true] at h; exact h.1)
theorem pow_bd (k : Nat) (h : k ≤ 32) : (0 : Int) < 2 ^ k ∧ (2 : Int) ^ k ≤ 4294967296 := by
  refine ⟨Int.pow_pos (by omega), ?_⟩
  have : (2 : Nat) ^ k ≤ 2 ^ 32 := Nat.pow_le_pow_right (by omega) h
  have h2 : ((2 ^ k : Nat) : Int) ≤ ((2 ^ 32 : Nat) : Int) := Int.ofNat_le.2 this
  simpa using h2
set_option maxHeartbeats 4000000 in
theorem count_any (a b c : Int) (ha : 0 ≤ a) (ha' : a < 4294967296) (w : World) :
    Calls Tryz.prog 72 #[.agg #[.int .u32 a, .int .i64 b], .int .i64 c] w fun e w' => e = .returned (.int .i64 (countI a b c)) ∧ Below w.heap.size w w' := by
  have hC0 := Cell2.new w a b 62
  by_cases hm : mayB a b = true
  · obtain ⟨b0, b1⟩ := may_bits hm
    have HY : Hid (∀ w, Calls Tryz.prog 63 #[.agg #[.int .u32 a, .int .i64 b]] w fun e w' => e = .returned (.bool true) ∧ Below w.heap.size w w') := Lib.hid (fun w => by rw [← hm]; exact may_any _ _ ha ha' w)
    by_cases hc : bitsOk c = true
    · obtain ⟨c0, c1⟩ := bitsOk_iff.1 hc
      have HB : Hid (∀ w, Calls Tryz.prog 61 #[.int .i64 c] w fun e w' => e = .returned (.bool true) ∧ w = w') := Lib.hid (fun w => by rw [← hc]; exact mayBits_any c w)
      by_cases hle : c < b
      · have HV : Hid (countI a b c = 0) := Lib.hid (by unfold countI; rw [if_neg (by rintro ⟨_, _, h⟩; omega)])
        have d0 : decide (c < b) = true := by simpa using hle
        clear hm hc
        go_enter Tryz.func72, Tryz.ntmps72
        go_wp2_with fail
        refine (HY.out _).mono ?_; rintro e w1 ⟨rfl, hb1⟩
        obtain ⟨k0, k1, k2⟩ := hC0.keep hb1
        have hB := bel (belNew _ _) hb1
        go_wp2_with fail
        refine (HB.out _).mono ?_; rintro e w' ⟨rfl, rfl⟩
        go_wp2_with fail
        go_ret
        exact ⟨congrArg (fun n => Ending.returned (.int .i64 n)) HV.out.symm, hB⟩
      · have HV : Hid (countI a b c = 2 ^ (c - b).toNat) := Lib.hid (by unfold countI; rw [if_pos ⟨hm, hc, by omega⟩])
        have d0 : decide (c < b) = false := by simpa using hle
        obtain ⟨p0, p1⟩ := pow_bd (c - b).toNat (by omega)
        clear hm hc
        go_enter Tryz.func72, Tryz.ntmps72
        go_wp2_with fail
        refine (HY.out _).mono ?_; rintro e w1 ⟨rfl, hb1⟩
        obtain ⟨k0, k1, k2⟩ := hC0.keep hb1
        have hB := bel (belNew _ _) hb1
        go_wp2_with fail
        refine (HB.out _).mono ?_; rintro e w' ⟨rfl, rfl⟩
        go_wp2_with fail
        go_ret
        exact ⟨congrArg (fun n => Ending.returned (.int .i64 n)) HV.out.symm, hB⟩
    · have hcf : bitsOk c = false := by simpa using hc
      have HB : Hid (∀ w, Calls Tryz.prog 61 #[.int .i64 c] w fun e w' => e = .returned (.bool false) ∧ w = w') := Lib.hid (fun w => by rw [← hcf]; exact mayBits_any c w)
      have HV : Hid (countI a b c = 0) := Lib.hid (by unfold countI; rw [if_neg (by rintro ⟨_, h, _⟩; exact hc h)])
      clear hm hc hcf
      go_enter Tryz.func72, Tryz.ntmps72
      go_wp2_with fail
      refine (HY.out _).mono ?_; rintro e w1 ⟨rfl, hb1⟩
      obtain ⟨k0, k1, k2⟩ := hC0.keep hb1
      have hB := bel (belNew _ _) hb1
      go_wp2_with fail
      refine (HB.out _).mono ?_; rintro e w' ⟨rfl, rfl⟩
      go_wp2_with fail
      go_ret
      exact ⟨congrArg (fun n => Ending.returned (.int .i64 n)) HV.out.symm, hB⟩
  · have hmf : mayB a b = false := by simpa using hm
    have HY : Hid (∀ w, Calls Tryz.prog 63 #[.agg #[.int .u32 a, .int .i64 b]] w fun e w' => e = .returned (.bool false) ∧ Below w.heap.size w w') := Lib.hid (fun w => by rw [← hmf]; exact may_any _ _ ha ha' w)
    have HV : Hid (countI a b c = 0) := Lib.hid (by unfold countI; rw [if_neg (by rintro ⟨h, _, _⟩; exact hm h)])
    clear hm hmf
    go_enter Tryz.func72, Tryz.ntmps72
    go_wp2_with fail
    refine (HY.out _).mono ?_; rintro e w1 ⟨rfl, hb1⟩
    have hB := bel (belNew _ _) hb1
    go_wp2_with fail
    go_ret
    exact ⟨congrArg (fun n => Ending.returned (.int .i64 n)) HV.out.symm, hB⟩
def sizeI (a b : Int) : Int := if mayB a b = true then hole b else 0
end Go.Proofs.YtiifbhiodegipaaGreatDoor
namespace Go.Proofs.YtiifbhiodegipaaGreatDoor.HN
open Go.RowKit
theorem add0 (g n : Nat) : (⟨g, 0, none⟩ : Addr).add n = ⟨g, n, none⟩ := by
  unfold Addr.add
  by_cases h : n = 0
  · subst h; rfl
  · simp [h]
abbrev encC (p : Int × Int) : List Value := [.int .u32 p.1, .int .i64 p.2]
def zeroC : Value := .agg #[.int .u32 0, .int .i64 0]
theorem flat_atC : ∀ (L : List (Int × Int)) (i j : Nat) (f : Int × Int), L[i]? = some f → j < 2 → (L.flatMap encC)[i * 2 + j]? = (encC f)[j]?
  | [], i, j, f, h, _ => by simp at h
  | a :: L, 0, j, f, h, hj => by
    obtain rfl : a = f := by simpa using h
    rw [List.flatMap_cons, Nat.zero_mul, Nat.zero_add, List.getElem?_append_left (by simp; omega)]
  | a :: L, i + 1, j, f, h, hj => by
    rw [List.flatMap_cons, List.getElem?_append_right (by simp; omega)]
    have e : (i + 1) * 2 + j - (encC a).length = i * 2 + j := by simp; omega
    rw [e]
    exact flat_atC L i j f (by simpa using h) hj
/-- What is read of a row of counts. -/
def SeesC (w : World) (v : Value) (L : List (Int × Int)) : Prop :=
  ∃ (ao : Option Addr) (c : Nat), v = .slice ao L.length c ∧ L.length ≤ c ∧ (ao = none → L = []) ∧ ∀ a, ao = some a → ∀ i p, L[i]? = some p →
    w.cell? (a.add (i * 2)) = some (.int .u32 p.1) ∧ w.cell? ((a.add (i * 2)).add 1) = some (.int .i64 p.2)
abbrev RowE (E : TypeId) (w : World) (B : Nat) (v : Value) (L : List (Int × Int)) : Prop := w.ownsRow B E 2 v L.length (L.flatMap encC)
theorem RowE.sees {E : TypeId} {w : World} {B : Nat} {v : Value} {L : List (Int × Int)} (h : RowE E w B v L) : SeesC w v L := by
  rcases h.2 with ⟨e, h0⟩ | ⟨g, cap, cur, e, _, hb, hn, _⟩
  · have h1 : L = [] := List.eq_nil_of_length_eq_zero h0
    subst h1
    exact ⟨none, 0, e, Nat.le_refl _, (fun _ => rfl), (fun a ha => by cases ha)⟩
  · refine ⟨_, _, e, hn, (fun h => by cases h), fun a ha i f hf => ?_⟩
    cases ha
    have hc := World.ownsRow.cells h (g := g) (by rw [e]; rfl)
    have h0 := hc (i * 2 + 0) _ ((flat_atC L i 0 f hf (by omega)).trans rfl)
    have h1 := hc (i * 2 + 1) _ ((flat_atC L i 1 f hf (by omega)).trans rfl)
    rw [Addr.add_add]
    exact ⟨h0, h1⟩
theorem SeesC.keep {w w' : World} {v : Value} {L : List (Int × Int)} (h : SeesC w v L) (hb : ∀ d, v.ownBlock = some d → d < w.heap.size → w'.heap[d]? = w.heap[d]?) : SeesC w' v L := by
  obtain ⟨ao, c, rfl, h1, h2, h3⟩ := h
  refine ⟨ao, c, rfl, h1, h2, fun a ha i f hf => ?_⟩
  obtain ⟨q1, q2⟩ := h3 a ha i f hf
  subst ha
  have hl : a.block < w.heap.size := by have := cell_lt8 q1; rwa [add_block] at this
  have e := hb a.block rfl hl
  exact ⟨(World.cell?_of_block (by rw [add_block]; exact e)).trans q1, (World.cell?_of_block (by rw [add_block, add_block]; exact e)).trans q2⟩
theorem SeesC.below {w w' : World} {v : Value} {L : List (Int × Int)} (h : SeesC w v L) (hb : Below w.heap.size w w') : SeesC w' v L := h.keep (fun d _ hd => hb.block d hd)
theorem SeesC.nil (w : World) : SeesC w (.slice none 0 0) [] := ⟨none, 0, rfl, Nat.le_refl _, fun _ => rfl, fun _ h => by cases h⟩
theorem row_leE {E : TypeId} {w : World} {B B' : Nat} {v : Value} {L : List (Int × Int)} (h : RowE E w B v L) (hb : B' ≤ B) : RowE E w B' v L := ⟨h.1, h.2.imp id fun ⟨g, cap, cur, e, b, r⟩ => ⟨g, cap, cur, e, Nat.le_trans hb b, r⟩⟩
theorem row_keep {E : TypeId} {w w' : World} {B : Nat} {v : Value} {L : List (Int × Int)} (h : RowE E w B v L) (hb : Below w.heap.size w w') : RowE E w' B v L :=
  ⟨h.1, h.2.imp id fun ⟨g, cap, cur, e, b, hg, r⟩ => ⟨g, cap, cur, e, b, (hb.block g (heap_lt hg)).trans hg, r⟩⟩
theorem infoC : (Tryz.prog.info? 140).map (fun i => (i.zero, i.size, i.bytes)) = some (some zeroC, 2, 16) := by kernel_rfl
theorem infoR : (Tryz.prog.info? 139).map (fun i => (i.zero, i.size, i.bytes)) = some (some zeroC, 2, 16) := by kernel_rfl
theorem ccells {w : World} {g : Nat} {x y : Value} {t : TypeId} {fr : Nat × Nat} (h : w.heap[g]? = some (.cells #[x, y] t fr)) : w.cell? ⟨g, 0, none⟩ = some x ∧ w.cell? ⟨g, 1, none⟩ = some y := by simp [World.cell?, h]
theorem bcell {w W : World} {a : Addr} {v : Value} (hb : Below w.heap.size w W) (h : w.cell? a = some v) : W.cell? a = some v := (hb.cell (cell_lt8 h)).trans h
theorem ofs1 {w : World} {a : Addr} {i : Nat} {v : Value} (h : w.cell? ((a.add i).add 1) = some v) : w.cell? { block := (a.add i).block, off := (a.add i).off + 1 } = some v := by
  have e : ({ block := (a.add i).block, off := (a.add i).off + 1 } : Addr) = (a.add i).add 1 := by
    unfold Addr.add
    simp
  rw [e]; exact h
abbrev cntO (p : Int × Int) (t : TypeId) : Obj := .cells #[.int .u32 p.1, .int .i64 p.2] t
/-- append of one count to a row of the call's own. -/
theorem wpList_push {T E : TypeId} (hTE : Tryz.prog.underlying T = some (.slice E)) (hI : (Tryz.prog.info? E).map (fun i => (i.zero, i.size, i.bytes)) = some (some zeroC, 2, 16)) {w0 : World} {ops : Array Oper} {rest : List Oper} {o : Oper} {a : Act} {Q : Exit → Act → World → Prop} (hgd : o.guard = none) (s x : Operand)
    (ho : o.op = .call { callee := .builtin .append, args := #[s, x], argTypes := #[T, T] }) (B : Nat) (v : Value) (L : List (Int × Int)) (u : Int × Int)
    (k : Nat) (hk : k = w0.heap.size) (hs : a.eval s = v) (hx : a.eval x = .slice (some ⟨k, 0, none⟩) 1 1) (hrow : RowE E w0 B v L) (hlen : L.length ≤ 1000001) (hB : B ≤ w0.heap.size)
    (h : ∀ v' w', RowE E w' B v' (L ++ [u]) → Below B w0 w' → w0.grownBy w' v.ownBlock → wpList Tryz.prog ops Q rest (a.put o.dst v') w') :
    wpList Tryz.prog ops Q (o :: rest) a (w0.alloc (cntO u E)) := by
  subst hk
  obtain ⟨i0, hi, hz0, hz1, hz2⟩ := info_parts hI
  have hbk : (w0.alloc (cntO u E)).heap[w0.heap.size]? = some (cntO u E) := heap_alloc_new w0 _
  refine wpList_append_own _ hgd s x T ho B E i0 zeroC 2 16 hTE hi hz0 hz1 hz2 rfl (by decide) v _ _ hs (hrow.alloc _) ⟨w0.heap.size, 0, none⟩ 1 1 [.int .u32 u.1, .int .i64 u.2] hx rfl (fun j y hj => ?_) ?_ (by unfold maxLen; omega) (by omega) (by simp; omega) ?_
  · rw [add0]
    rcases j with _ | _ | j
    · obtain rfl : Value.int .u32 u.1 = y := by simpa using hj
      exact (ccells hbk).1
    · obtain rfl : Value.int .i64 u.2 = y := by simpa using hj
      exact (ccells hbk).2
    · simp at hj
  · intro y hy
    simp only [List.mem_cons, List.not_mem_nil, or_false] at hy
    rcases hy with rfl | rfl <;> rfl
  · intro v' w' hown' hgrow _
    have hg0 : w0.grownBy w' v.ownBlock := World.grownBy.trans (b := w0.alloc (cntO u E)) ⟨rfl, rfl, rfl, by simp, fun k hk _ => Below.heap_alloc w0 _ k hk⟩ hgrow
    refine h v' w' ?_ ((Below.refl B w0).grown hg0 hB (fun k hk => (hrow.lt k hk).1)) hg0
    have e1 : (L ++ [u]).length = L.length + 1 := by simp
    have e2 : (L ++ [u]).flatMap encC = L.flatMap encC ++ [.int .u32 u.1, .int .i64 u.2] := by simp [List.flatMap_append]
    show w'.ownsRow _ _ _ _ _ _
    rw [e1, e2]
    exact hown'
end Go.Proofs.YtiifbhiodegipaaGreatDoor.HN
namespace Go.Proofs.YtiifbhiodegipaaGreatDoor.HN
abbrev CntL := List (Int × Int)
def at2 (L : CntL) (k : Nat) : Int × Int := L.getD k (0, 0)
theorem at2_get {L : CntL} {k : Nat} (h : k < L.length) : L[k]? = some (at2 L k) := by
  unfold at2
  rw [List.getD_eq_getElem?_getD, List.getElem?_eq_getElem h]; rfl
/-- Is the k-th of a row of counts right? -/
def okAt (L : CntL) (k : Nat) : Bool :=
  (decide (k = 0) || decide ((at2 L (k - 1)).1 < (at2 L k).1)) && decide ((at2 L k).1 % 64 = 0) && decide (1 ≤ (at2 L k).2) && decide ((at2 L k).2 ≤ 65535)
def okTo (L : CntL) : Nat → Bool
  | 0 => true
  | k + 1 => okTo L k && okAt L k
/-- May counts be a handle's? -/
def rightH (L : CntL) : Bool := okTo L L.length
theorem okTo_no {L : CntL} {i n : Nat} (h : okTo L i = false) (hn : i ≤ n) : okTo L n = false := by
  induction n with
  | zero => rwa [Nat.le_zero.1 hn] at h
  | succ n ih =>
    by_cases e : i = n + 1
    · rwa [← e]
    · unfold okTo
      rw [ih (by omega)]
      rfl
theorem okTo_iff (L : CntL) : ∀ n, okTo L n = true ↔ ∀ k, k < n → okAt L k = true
  | 0 => by simp [okTo]
  | n + 1 => by
    unfold okTo
    rw [Bool.and_eq_true, okTo_iff L n]
    constructor
    · rintro ⟨h1, h2⟩ k hk
      by_cases e : k = n
      · rw [e]; exact h2
      · exact h1 k (by omega)
    · intro h
      exact ⟨fun k hk => h k (by omega), h n (by omega)⟩
/-- The counts are right: each by itself, and they rise. -/
def CntOk (p : Int × Int) : Prop := p.1 % 64 = 0 ∧ 1 ≤ p.2 ∧ p.2 ≤ 65535
theorem right_iff (L : CntL) : rightH L = true ↔ (∀ p ∈ L, CntOk p) ∧ L.Pairwise (fun p q => p.1 < q.1) := by
  have key : rightH L = true ↔ (∀ p ∈ L, CntOk p) ∧ (∀ k, k + 1 < L.length → (at2 L k).1 < (at2 L (k + 1)).1) := by
    unfold rightH
    rw [okTo_iff]
    unfold okAt
    simp only [Bool.and_eq_true, Bool.or_eq_true, decide_eq_true_eq]
    constructor
    · intro h
      refine ⟨fun p hp => ?_, fun k hk => ?_⟩
      · obtain ⟨i, hi, rfl⟩ := List.getElem_of_mem hp
        have e : at2 L i = L[i] := by
          have := at2_get hi
          rw [List.getElem?_eq_getElem hi] at this
          exact (Option.some.inj this).symm
        have := h i hi
        rw [e] at this
        exact ⟨this.1.1.2, this.1.2, this.2⟩
      · have := (h (k + 1) hk).1.1.1
        rcases this with h0 | h0
        · omega
        · exact h0
    · rintro ⟨h1, h2⟩ k hk
      have hm : at2 L k ∈ L := List.mem_of_getElem? (at2_get hk)
      obtain ⟨q1, q2, q3⟩ := h1 _ hm
      refine ⟨⟨⟨?_, q1⟩, q2⟩, q3⟩
      cases k with
      | zero => exact Or.inl rfl
      | succ k => exact Or.inr (h2 k hk)
  rw [key]
  refine and_congr_right fun _ => ?_
  constructor
  · intro h
    rw [List.pairwise_iff_getElem]
    intro i j hi hj hij
    have e : ∀ k (hk : k < L.length), L[k] = at2 L k := fun k hk => by
      have := at2_get hk
      rw [List.getElem?_eq_getElem hk] at this
      exact Option.some.inj this
    rw [e i hi, e j hj]
    obtain ⟨d, rfl⟩ : ∃ d, j = i + 1 + d := ⟨j - i - 1, by omega⟩
    clear hij
    induction d with
    | zero => exact h i hj
    | succ d ih =>
      have h1 := ih (by omega)
      have h2 := h (i + 1 + d) (by omega)
      rw [show i + 1 + (d + 1) = i + 1 + d + 1 from by omega]
      omega
  · intro h k hk
    rw [List.pairwise_iff_getElem] at h
    have := h k (k + 1) (by omega) hk (by omega)
    have e : ∀ k (hk : k < L.length), L[k] = at2 L k := fun k hk => by
      have := at2_get hk
      rw [List.getElem?_eq_getElem hk] at this
      exact Option.some.inj this
    rw [e, e] at this
    exact this
/-- How many stand ahead of a block. -/
def cntB (L : CntL) (b : Int) : Nat := (L.takeWhile (fun p => decide (p.1 < b))).length
def thereB (L : CntL) (b : Int) : Bool := decide (cntB L b < L.length) && decide ((at2 L (cntB L b)).1 = b)
end Go.Proofs.YtiifbhiodegipaaGreatDoor.HN
namespace Go.Proofs.YtiifbhiodegipaaGreatDoor.HN
open Go.RowKit
theorem hole26 : hole 26 = 64 := by decide
theorem block26 (a : Int) (ha : 0 ≤ a) (ha' : a < 4294967296) (w : World) :
    Calls Tryz.prog 31 #[.int .u32 a, .int .i64 26] w fun e w' => e = .returned (.tuple #[.agg #[.int .u32 (a - a % 64), .int .i64 26], .int .i64 0]) ∧ Below w.heap.size w w' := by
  have HB : Hid (∀ w, Calls Tryz.prog 61 #[.int .i64 26] w fun e w' => e = .returned (.bool true) ∧ w = w') := Lib.hid (fun w => mayBits_any 26 w)
  have HM := Lib.hid (and_mask a 26 ha ha' (by omega) (by omega))
  rw [hole26] at HM
  go_enter Tryz.func31, Tryz.ntmps31
  go_wp2_with fail
  refine (HB.out _).mono ?_; rintro e w' ⟨rfl, rfl⟩
  go_wp2_with fail
  refine (mask_any 26 _).mono ?_; rintro e w' ⟨rfl, rfl⟩
  go_wp2_with fail
  refine bodyPost_ret (v := .tuple #[.agg #[.int .u32 (bits .and .u32 a (maskI 26)), .int .i64 26], .int .i64 0]) ?_ rfl ⟨by rw [HM.out], ?_⟩
  · simp [results, Tryz.results31, go_sem]
  · exact belNew w _
theorem first_any (a : Int) (ha : 0 ≤ a) (ha' : a < 4294967296) (w : World) :
    Calls Tryz.prog 165 #[.int .u32 a] w fun e w' => e = .returned (.int .u32 (a - a % 64)) ∧ Below w.heap.size w w' := by
  have HB := Lib.hid (block26 a ha ha' w)
  go_enter Tryz.func165, Tryz.ntmps165
  go_wp2_with fail
  refine HB.out.mono ?_; rintro e w1 ⟨rfl, hb1⟩
  have HB1 := Lib.hid (belAlloc hb1 (.cells #[.int .u32 (a - a % 64), .int .i64 26] 62))
  clear hb1
  go_wp2_with fail
  go_ret
  exact ⟨rfl, HB1.out⟩
def mayC (n : Int) : Bool := decide (0 ≤ n ∧ n ≤ 65535)
theorem mayCount_any (n : Int) (w : World) :
    Calls Tryz.prog 166 #[.int .i64 n] w fun e w' => e = .returned (.bool (mayC n)) ∧ w = w' := by
  by_cases h0 : 0 ≤ n
  · have d0 : decide (0 ≤ n) = true := by simpa using h0
    have HV : Hid (decide (n ≤ 65535) = mayC n) := Lib.hid (by unfold mayC; rw [Bool.eq_iff_iff]; simp [h0])
    go_enter Tryz.func166, Tryz.ntmps166
    go_wp2
    go_ret
    exact ⟨congrArg (fun b => Ending.returned (.bool b)) HV.out, rfl⟩
  · have d0 : decide (0 ≤ n) = false := by simpa using h0
    have HV : Hid (false = mayC n) := Lib.hid (by unfold mayC; simp; omega)
    go_enter Tryz.func166, Tryz.ntmps166
    go_wp2
    go_ret
    exact ⟨congrArg (fun b => Ending.returned (.bool b)) HV.out, rfl⟩
abbrev hnO (v : Value) : Obj := .cells #[v] 101
abbrev hnV (v : Value) : Value := .agg #[v]
theorem hcell {w : World} {g : Nat} {x : Value} {t : TypeId} {fr : Nat × Nat} (h : w.heap[g]? = some (.cells #[x] t fr)) : w.cell? ⟨g, 0, none⟩ = some x := by simp [World.cell?, h]
theorem hfroz {w : World} {g : Nat} {x : Value} {t : TypeId} (h : w.heap[g]? = some (.cells #[x] t (0, 0))) : w.frozen? ⟨g, 0, none⟩ = false := by simp [World.frozen?, h]
theorem heap_new (w : World) (o : Obj) : (w.alloc o).heap[w.heap.size]? = some o := by
  show (w.heap.push o)[w.heap.size]? = some o
  simp
def CntBd (L : CntL) : Prop := ∀ p ∈ L, (0 ≤ p.1 ∧ p.1 < 4294967296) ∧ -9223372036854775808 ≤ p.2 ∧ p.2 ≤ 9223372036854775807
theorem at2_bd {L : CntL} (h : CntBd L) (k : Nat) : (0 ≤ (at2 L k).1 ∧ (at2 L k).1 < 4294967296) ∧ -9223372036854775808 ≤ (at2 L k).2 ∧ (at2 L k).2 ≤ 9223372036854775807 := by
  by_cases hk : k < L.length
  · exact h _ (List.mem_of_getElem? (at2_get hk))
  · unfold at2
    rw [List.getD_eq_getElem?_getD, List.getElem?_eq_none (by omega)]
    simp
end Go.Proofs.YtiifbhiodegipaaGreatDoor.HN
namespace Go.Proofs.YtiifbhiodegipaaGreatDoor.HN
open Go.RowKit Go.Lib
abbrev EC : TypeId := 140
end Go.Proofs.YtiifbhiodegipaaGreatDoor.HN
