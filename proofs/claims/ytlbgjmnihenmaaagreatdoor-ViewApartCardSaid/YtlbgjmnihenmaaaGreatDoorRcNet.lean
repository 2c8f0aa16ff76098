/- Package cidr, as package recs calls it: nets that may be, their counts, the k-th one of them. -/
import Derived.Test.YtlbgjmnihenmaaaGreatDoorJPk
import Derived.Deep.RegionHeld3
import Derived.IntWalk
import Derived.BigQuiet
import Derived.BigCall
import Derived.LoopN
import Derived.OwnWalk
import Derived.Laws.StructEq
namespace Go.Proofs.YtlbgjmnihenmaaaGreatDoor
open Go.RowKit
/-- 2^(32-b), for b of 0 to 32. -/
def hole (b : Int) : Int := 2 ^ (32 - b).toNat
theorem hole_pos (b : Int) : 0 < hole b := Int.pow_pos (by omega)
theorem hole_le (b : Int) (h : 0 ≤ b) : hole b ≤ 4294967296 := by
  unfold hole
  have : (2 : Nat) ^ (32 - b).toNat ≤ 2 ^ 32 := Nat.pow_le_pow_right (by omega) (by omega)
  have h2 : ((2 ^ (32 - b).toNat : Nat) : Int) ≤ ((2 ^ 32 : Nat) : Int) := Int.ofNat_le.2 this
  simpa using h2
def bitsOk (b : Int) : Bool := decide (0 ≤ b ∧ b ≤ 32)
/-- May a net be? -/
def mayB (a b : Int) : Bool := bitsOk b && decide (a % hole b = 0)
def clampB (b : Int) : Int := min (max b 0) 32
/-- A mask's number. -/
def maskI (b : Int) : Int := 4294967296 - hole (clampB b)
theorem clampB_in {b : Int} (h0 : 0 ≤ b) (h1 : b ≤ 32) : clampB b = b := by unfold clampB; omega
theorem clampB_bd (b : Int) : 0 ≤ clampB b ∧ clampB b ≤ 32 := by unfold clampB; omega
theorem shl_mask (k : Nat) (hk : k ≤ 32) : (4294967295 * 2 ^ k : Int) % 4294967296 = 4294967296 - 2 ^ k := by
  have h : ∀ k : Fin 33, (4294967295 * 2 ^ k.val : Int) % 4294967296 = 4294967296 - 2 ^ k.val := by decide
  exact h ⟨k, by omega⟩
theorem maskI_bd (b : Int) : 0 ≤ maskI b ∧ maskI b < 4294967296 := by
  unfold maskI
  have h1 := hole_pos (clampB b)
  have h2 := hole_le (clampB b) (clampB_bd b).1
  omega
/-- What is not under a mask: the rest by the net's size. -/
theorem andNot_mask (a b : Int) (ha : 0 ≤ a) (ha' : a < 4294967296) (h0 : 0 ≤ b) (h1 : b ≤ 32) : bits .andNot .u32 a (maskI b) = a % hole b := by
  obtain ⟨m0, m1⟩ := maskI_bd b
  rw [u32_andNot a _ ha ha' m0 m1]
  have hh : 4294967295 - (maskI b).toNat = 2 ^ (32 - b).toNat - 1 := by
    have hp := hole_pos b
    have hl := hole_le b h0
    have hc : ((2 ^ (32 - b).toNat : Nat) : Int) = hole b := by unfold hole; simp
    unfold maskI
    rw [clampB_in h0 h1]
    omega
  rw [hh, Nat.and_two_pow_sub_one_eq_mod]
  unfold hole
  obtain ⟨n, rfl⟩ := Int.eq_ofNat_of_zero_le ha
  simp
theorem and_high (x k : Nat) (hx : x < 2 ^ 32) (hk : k ≤ 32) : x &&& (2 ^ 32 - 2 ^ k) = x - x % 2 ^ k := by
  have hp := Nat.two_pow_pos k
  have hle : 2 ^ k ≤ 2 ^ 32 := Nat.pow_le_pow_right (by omega) hk
  have e : x - x % 2 ^ k = x / 2 ^ k * 2 ^ k := by have := Nat.div_add_mod x (2 ^ k); rw [Nat.mul_comm] at this; omega
  rw [e]
  apply Nat.eq_of_testBit_eq
  intro i
  rw [Nat.testBit_and, show 2 ^ 32 - 2 ^ k = 2 ^ 32 - ((2 ^ k - 1) + 1) from by omega, Nat.testBit_two_pow_sub_succ (by omega), Nat.testBit_two_pow_sub_one, ← Nat.shiftLeft_eq, Nat.testBit_shiftLeft, Nat.testBit_div_two_pow]
  by_cases h : i < k
  · simp [h, show ¬ k ≤ i from by omega]
  · have h2 : k ≤ i := by omega
    rw [show i - k + k = i from by omega]
    by_cases h3 : i < 32
    · simp [h, h2, h3]
    · have : x.testBit i = false := Nat.testBit_lt_two_pow (Nat.lt_of_lt_of_le hx (Nat.pow_le_pow_right (by omega) (by omega)))
      simp [this]
theorem hole_nat (b : Int) : hole b = ((2 ^ (32 - b).toNat : Nat) : Int) := by unfold hole; simp
theorem and_mask (a b : Int) (ha : 0 ≤ a) (ha' : a < 4294967296) (h0 : 0 ≤ b) (h1 : b ≤ 32) : bits .and .u32 a (maskI b) = a - a % hole b := by
  obtain ⟨m0, m1⟩ := maskI_bd b
  rw [u32_and a _ ha ha' m0 m1]
  have hm : (maskI b).toNat = 2 ^ 32 - 2 ^ (32 - b).toNat := by
    unfold maskI
    rw [clampB_in h0 h1, hole_nat]
    omega
  rw [hm, and_high _ _ (by omega) (by omega), hole_nat]
  obtain ⟨n, rfl⟩ := Int.eq_ofNat_of_zero_le ha
  rw [Int.toNat_natCast]
  have := Nat.mod_le n (2 ^ (32 - b).toNat)
  omega
set_option maxHeartbeats 400000 in
theorem mayBits_any (b : Int) (w : World) :
    Calls Tryz.prog 61 #[.int .i64 b] w fun e w' => e = .returned (.bool (bitsOk b)) ∧ w = w' := by
  by_cases h0 : 0 ≤ b
  · have d0 : decide (0 ≤ b) = true := by simpa using h0
    have HV : Hid (decide (b ≤ 32) = bitsOk b) := Lib.hid (by unfold bitsOk; rw [Bool.eq_iff_iff]; simp [h0])
    go_enter Tryz.func61, Tryz.ntmps61
    go_wp2
    go_ret
    exact ⟨congrArg (fun b => Ending.returned (.bool b)) HV.out, rfl⟩
  · have d0 : decide (0 ≤ b) = false := by simpa using h0
    have HV : Hid (false = bitsOk b) := Lib.hid (by unfold bitsOk; simp [h0])
    go_enter Tryz.func61, Tryz.ntmps61
    go_wp2
    go_ret
    exact ⟨congrArg (fun b => Ending.returned (.bool b)) HV.out, rfl⟩
set_option maxHeartbeats 400000 in
theorem mask_any (b : Int) (w : World) :
    Calls Tryz.prog 62 #[.int .i64 b] w fun e w' => e = .returned (.int .u32 (maskI b)) ∧ w = w' := by
  have HV : Hid (4294967295 * 2 ^ (32 - min (max b 0) 32).toNat % 4294967296 = maskI b) := Lib.hid (shl_mask _ (by omega))
  go_enter Tryz.func62, Tryz.ntmps62
  go_wp2
  go_ret
  exact ⟨congrArg (fun b => Ending.returned (.int .u32 b)) HV.out, rfl⟩
set_option maxHeartbeats 400000 in
theorem refPow_any (k : Int) (h0 : 0 ≤ k) (h1 : k ≤ 32) (w : World) :
    Calls Tryz.prog 68 #[.int .i64 k] w fun e w' => e = .returned (.int .i64 (2 ^ k.toNat)) ∧ w = w' := by
  go_enter Tryz.func68, Tryz.ntmps68
  go_wp2
  go_loop [3, 4] (fun v j => ∃ i : Nat, (i : Int) ≤ k ∧ j = .int .i64 i ∧ v = .int .i64 (2 ^ i)) (fun _ j => (k - intOf j).toNat)
  case atStart => exact ⟨0, by omega, rfl, rfl⟩
  case round =>
    obtain ⟨i, hi, rfl, rfl⟩ := hrel
    have hp : (0 : Int) < 2 ^ i := Int.pow_pos (by omega)
    have hq : (2 : Int) ^ i ≤ 4294967296 := by
      have : (2 : Nat) ^ i ≤ 2 ^ 32 := Nat.pow_le_pow_right (by omega) (by omega)
      have h2 : ((2 ^ i : Nat) : Int) ≤ ((2 ^ 32 : Nat) : Int) := Int.ofNat_le.2 this
      simpa using h2
    by_cases hlt : (i : Int) < k
    · go_wp2
      go_round
      case rel => exact ⟨i + 1, by omega, by go_num, by rw [Int.pow_succ, Int.mul_comm]⟩
      case measure => simp [intOf]; omega
    · have HV : Hid ((2 : Int) ^ i = 2 ^ k.toNat) := Lib.hid (by rw [show k.toNat = i from by omega])
      go_wp2
      go_ret
      exact ⟨congrArg (fun b => Ending.returned (.int .i64 b)) HV.out, rfl⟩
theorem quietN {P : Program} {f : FuncId} {args : Array Value} {w : World} {n : Nat} {v : Value} (h : Calls P f args (w.drewN n) fun e w' => e = .returned v ∧ w.drewN n = w') :
    Calls P f args (w.drewN n) fun e w'' => e = .returned v ∧ ∃ m, w'' = w.drewN m :=
  h.mono fun _ _ ⟨he, hm⟩ => ⟨he, n, hm.symm⟩
theorem may_of {a b : Int} (h : bitsOk b = true) : mayB a b = (a % hole b == 0) := by
  unfold mayB; rw [h, Bool.true_and]; rw [Bool.eq_iff_iff]; simp
theorem bitsOk_iff {b : Int} : bitsOk b = true ↔ 0 ≤ b ∧ b ≤ 32 := by unfold bitsOk; exact decide_eq_true_iff
set_option maxHeartbeats 1000000 in
theorem may_any (a b : Int) (ha : 0 ≤ a) (ha' : a < 4294967296) (w : World) :
    Calls Tryz.prog 63 #[.agg #[.int .u32 a, .int .i64 b]] w fun e w' => e = .returned (.bool (mayB a b)) ∧ Below w.heap.size w w' := by
  by_cases hb : bitsOk b = true
  · obtain ⟨b0, b1⟩ := bitsOk_iff.1 hb
    have HV : Hid ((bits .andNot .u32 a (maskI b) == 0) = mayB a b) := Lib.hid (by rw [andNot_mask a b ha ha' b0 b1, may_of hb])
    have H1 : Hid (∀ w, Calls Tryz.prog 61 #[.int .i64 b] w fun e w' => e = .returned (.bool true) ∧ w = w') := Lib.hid (fun w => by rw [← hb]; exact mayBits_any b w)
    clear hb
    go_enter Tryz.func63, Tryz.ntmps63
    go_wp2_with fail
    go_quiet ((first | (go_at_call 61; exact quietN (H1.out _)) | (go_at_call 62; exact quietN (mask_any b _))))
    go_wp2
    go_ret
    exact ⟨congrArg (fun b => Ending.returned (.bool b)) HV.out, below_drewN ((Below.refl _ _).alloc (Nat.le_refl _) _) _⟩
  · have hb' : bitsOk b = false := by simpa using hb
    have HV : Hid (false = mayB a b) := Lib.hid (by unfold mayB; rw [hb', Bool.false_and])
    have H1 : Hid (∀ w, Calls Tryz.prog 61 #[.int .i64 b] w fun e w' => e = .returned (.bool false) ∧ w = w') := Lib.hid (fun w => by rw [← hb']; exact mayBits_any b w)
    clear hb hb'
    go_enter Tryz.func63, Tryz.ntmps63
    go_wp2_with fail
    go_quiet ((go_at_call 61; exact quietN (H1.out _)))
    go_wp2
    go_ret
    exact ⟨congrArg (fun b => Ending.returned (.bool b)) HV.out, below_drewN ((Below.refl _ _).alloc (Nat.le_refl _) _) _⟩
set_option maxHeartbeats 1000000 in
theorem refMay_any (a b : Int) (ha : 0 ≤ a) (ha' : a < 4294967296) (hb : -9223372036854775808 ≤ b) (hb' : b ≤ 9223372036854775807) (w : World) :
    Calls Tryz.prog 40 #[.agg #[.int .u32 a, .int .i64 b]] w fun e w' => e = .returned (.bool (mayB a b)) ∧ Below w.heap.size w w' := by
  by_cases h0 : 0 ≤ b
  · have d0 : decide (0 ≤ b) = true := by simpa using h0
    by_cases h1 : b ≤ 32
    · have d1 : decide (b ≤ 32) = true := by simpa using h1
      have hp := hole_pos b
      have hl := hole_le b h0
      have HV : Hid ((a % hole b == 0) = mayB a b) := Lib.hid (may_of (bitsOk_iff.2 ⟨h0, h1⟩)).symm
      have H1 : Hid (∀ w, Calls Tryz.prog 68 #[.int .i64 (32 - b)] w fun e w' => e = .returned (.int .i64 (hole b)) ∧ w = w') := Lib.hid (fun w => refPow_any (32 - b) (by omega) (by omega) w)
      go_enter Tryz.func40, Tryz.ntmps40
      go_wp2_with fail
      go_quiet ((go_at_call 68; exact quietN (H1.out _)))
      go_wp2
      go_ret
      exact ⟨congrArg (fun b => Ending.returned (.bool b)) HV.out, below_drewN ((Below.refl _ _).alloc (Nat.le_refl _) _) _⟩
    · have d1 : decide (b ≤ 32) = false := by simpa using h1
      have HV : Hid (false = mayB a b) := Lib.hid (by unfold mayB bitsOk; simp; omega)
      go_enter Tryz.func40, Tryz.ntmps40
      go_wp2_with fail
      go_quiet (fail)
      go_wp2
      go_ret
      exact ⟨congrArg (fun b => Ending.returned (.bool b)) HV.out, below_drewN ((Below.refl _ _).alloc (Nat.le_refl _) _) _⟩
  · have d0 : decide (0 ≤ b) = false := by simpa using h0
    have HV : Hid (false = mayB a b) := Lib.hid (by unfold mayB bitsOk; simp; omega)
    go_enter Tryz.func40, Tryz.ntmps40
    go_wp2_with fail
    go_quiet (fail)
    go_wp2
    go_ret
    exact ⟨congrArg (fun b => Ending.returned (.bool b)) HV.out, below_drewN ((Below.refl _ _).alloc (Nat.le_refl _) _) _⟩
/-- A net in block g. -/
def Cell2 (g : Nat) (a b : Int) (W : World) : Prop := W.cell? ⟨g, 0, none⟩ = some (.int .u32 a) ∧ W.cell? ⟨g, 1, none⟩ = some (.int .i64 b) ∧ g < W.heap.size
theorem Cell2.keep {g : Nat} {a b : Int} {W W' : World} (h : Cell2 g a b W) (hb : Below W.heap.size W W') : Cell2 g a b W' :=
  ⟨(hb.cell (p := ⟨g, 0, none⟩) h.2.2).trans h.1, (hb.cell (p := ⟨g, 1, none⟩) h.2.2).trans h.2.1, Nat.lt_of_lt_of_le h.2.2 hb.size⟩
theorem Cell2.drewN {g : Nat} {a b : Int} {W : World} (h : Cell2 g a b W) (n : Nat) : Cell2 g a b (W.drewN n) := h
theorem Cell2.new (w : World) (a b : Int) (t : TypeId) : Cell2 w.heap.size a b (w.alloc (.cells #[.int .u32 a, .int .i64 b] t)) := by
  refine ⟨?_, ?_, ?_⟩ <;> simp
theorem Cell2.alloc {g : Nat} {a b : Int} {W : World} (h : Cell2 g a b W) (o : Obj) : Cell2 g a b (W.alloc o) := h.keep ((Below.refl _ _).alloc (Nat.le_refl _) _)
theorem belD {w a b : World} {n : Nat} (h : Below w.heap.size w a) (k : Below (a.drewN n).heap.size (a.drewN n) b) : Below w.heap.size w b := (below_drewN h n).trans (k.mono h.size)
/-- A net in a block of the call's own. -/
def Own2 (g : Nat) (a b : Int) (W : World) : Prop := Cell2 g a b W ∧ W.frozen? ⟨g, 0, none⟩ = false ∧ W.frozen? ⟨g, 1, none⟩ = false
theorem Own2.keep {g : Nat} {a b : Int} {W W' : World} (h : Own2 g a b W) (hb : Below W.heap.size W W') : Own2 g a b W' :=
  ⟨h.1.keep hb, (hb.frozen (p := ⟨g, 0, none⟩) h.1.2.2).trans h.2.1, (hb.frozen (p := ⟨g, 1, none⟩) h.1.2.2).trans h.2.2⟩
theorem Own2.drewN {g : Nat} {a b : Int} {W : World} (h : Own2 g a b W) (n : Nat) : Own2 g a b (W.drewN n) := h
theorem Own2.new (w : World) (a b : Int) (t : TypeId) : Own2 w.heap.size a b (w.alloc (.cells #[.int .u32 a, .int .i64 b] t)) := by
  refine ⟨Cell2.new w a b t, ?_, ?_⟩ <;> simp [go_sem]
theorem res2 {w1 : World} {g : Nat} {x y : Int} (h : Cell2 g x y w1) (a b : Int) (o : Obj) :
    (((w1.setCell ⟨g, 0, none⟩ (.int .u32 a)).setCell ⟨g, 1, none⟩ (.int .i64 b)).alloc o).cell? ⟨g, 0, none⟩ = some (.int .u32 a) ∧
    (((w1.setCell ⟨g, 0, none⟩ (.int .u32 a)).setCell ⟨g, 1, none⟩ (.int .i64 b)).alloc o).cell? ⟨g, 1, none⟩ = some (.int .i64 b) := by
  have hl : g < ((w1.setCell ⟨g, 0, none⟩ (.int .u32 a)).setCell ⟨g, 1, none⟩ (.int .i64 b)).heap.size := by simpa [World.setCell] using h.2.2
  have n1 : (w1.setCell ⟨g, 0, none⟩ (.int .u32 a)).cell? ⟨g, 1, none⟩ = some (.int .i64 y) := by
    rw [World.cell?_setCell_other _ _ _ _ (by simp)]; exact h.2.1
  constructor
  · rw [World.cell?_alloc_lt _ _ _ (by exact hl), World.cell?_setCell_other _ _ _ _ (by simp)]
    exact World.cell?_setCell_same _ _ _ h.1
  · rw [World.cell?_alloc_lt _ _ _ (by exact hl)]
    exact World.cell?_setCell_same _ _ _ n1
/-- How many nets of c bits a net covers. -/
def countI (a b c : Int) : Int := if mayB a b = true ∧ bitsOk c = true ∧ b ≤ c then 2 ^ (c - b).toNat else 0
theorem may_bits {a b : Int} (h : mayB a b = true) : 0 ≤ b ∧ b ≤ 32 := bitsOk_iff.1 (by unfold mayB at h; rw [Bool.and_eq_true] at h; exact h.1)
theorem pow_bd (k : Nat) (h : k ≤ 32) : (0 : Int) < 2 ^ k ∧ (2 : Int) ^ k ≤ 4294967296 := by
  refine ⟨Int.pow_pos (by omega), ?_⟩
  have : (2 : Nat) ^ k ≤ 2 ^ 32 := Nat.pow_le_pow_right (by omega) h
  have h2 : ((2 ^ k : Nat) : Int) ≤ ((2 ^ 32 : Nat) : Int) := Int.ofNat_le.2 this
  simpa using h2
set_option maxHeartbeats 4000000 in
theorem count_any (a b c : Int) (ha : 0 ≤ a) (ha' : a < 4294967296) (w : World) :
    Calls Tryz.prog 72 #[.agg #[.int .u32 a, .int .i64 b], .int .i64 c] w fun e w' => e = .returned (.int .i64 (countI a b c)) ∧ Below w.heap.size w w' := by
  have hC0 := Cell2.new w a b 62
  by_cases hm : mayB a b = true
  · obtain ⟨b0, b1⟩ := may_bits hm
    have HY : Hid (∀ w, Calls Tryz.prog 63 #[.agg #[.int .u32 a, .int .i64 b]] w fun e w' => e = .returned (.bool true) ∧ Below w.heap.size w w') := Lib.hid (fun w => by rw [← hm]; exact may_any _ _ ha ha' w)
    by_cases hc : bitsOk c = true
    · obtain ⟨c0, c1⟩ := bitsOk_iff.1 hc
      have HB : Hid (∀ w, Calls Tryz.prog 61 #[.int .i64 c] w fun e w' => e = .returned (.bool true) ∧ w = w') := Lib.hid (fun w => by rw [← hc]; exact mayBits_any c w)
      by_cases hle : c < b
      · have HV : Hid (countI a b c = 0) := Lib.hid (by unfold countI; rw [if_neg (by rintro ⟨_, _, h⟩; omega)])
        have d0 : decide (c < b) = true := by simpa using hle
        clear hm hc
        go_enter Tryz.func72, Tryz.ntmps72
        go_wp2_with fail
        refine (HY.out _).mono ?_; rintro e w1 ⟨rfl, hb1⟩
        obtain ⟨k0, k1, k2⟩ := hC0.keep hb1
        have hB := bel (belNew _ _) hb1
        go_wp2_with fail
        refine (HB.out _).mono ?_; rintro e w' ⟨rfl, rfl⟩
        go_wp2_with fail
        go_ret
        exact ⟨congrArg (fun n => Ending.returned (.int .i64 n)) HV.out.symm, hB⟩
      · have HV : Hid (countI a b c = 2 ^ (c - b).toNat) := Lib.hid (by unfold countI; rw [if_pos ⟨hm, hc, by omega⟩])
        have d0 : decide (c < b) = false := by simpa using hle
        obtain ⟨p0, p1⟩ := pow_bd (c - b).toNat (by omega)
        clear hm hc
        go_enter Tryz.func72, Tryz.ntmps72
        go_wp2_with fail
        refine (HY.out _).mono ?_; rintro e w1 ⟨rfl, hb1⟩
        obtain ⟨k0, k1, k2⟩ := hC0.keep hb1
        have hB := bel (belNew _ _) hb1
        go_wp2_with fail
        refine (HB.out _).mono ?_; rintro e w' ⟨rfl, rfl⟩
        go_wp2_with fail
        go_ret
        exact ⟨congrArg (fun n => Ending.returned (.int .i64 n)) HV.out.symm, hB⟩
    · have hcf : bitsOk c = false := by simpa using hc
      have HB : Hid (∀ w, Calls Tryz.prog 61 #[.int .i64 c] w fun e w' => e = .returned (.bool false) ∧ w = w') := Lib.hid (fun w => by rw [← hcf]; exact mayBits_any c w)
      have HV : Hid (countI a b c = 0) := Lib.hid (by unfold countI; rw [if_neg (by rintro ⟨_, h, _⟩; exact hc h)])
      clear hm hc hcf
      go_enter Tryz.func72, Tryz.ntmps72
      go_wp2_with fail
      refine (HY.out _).mono ?_; rintro e w1 ⟨rfl, hb1⟩
      obtain ⟨k0, k1, k2⟩ := hC0.keep hb1
      have hB := bel (belNew _ _) hb1
      go_wp2_with fail
      refine (HB.out _).mono ?_; rintro e w' ⟨rfl, rfl⟩
      go_wp2_with fail
      go_ret
      exact ⟨congrArg (fun n => Ending.returned (.int .i64 n)) HV.out.symm, hB⟩
  · have hmf : mayB a b = false := by simpa using hm
    have HY : Hid (∀ w, Calls Tryz.prog 63 #[.agg #[.int .u32 a, .int .i64 b]] w fun e w' => e = .returned (.bool false) ∧ Below w.heap.size w w') := Lib.hid (fun w => by rw [← hmf]; exact may_any _ _ ha ha' w)
    have HV : Hid (countI a b c = 0) := Lib.hid (by unfold countI; rw [if_neg (by rintro ⟨h, _, _⟩; exact hm h)])
    clear hm hmf
    go_enter Tryz.func72, Tryz.ntmps72
    go_wp2_with fail
    refine (HY.out _).mono ?_; rintro e w1 ⟨rfl, hb1⟩
    have hB := bel (belNew _ _) hb1
    go_wp2_with fail
    go_ret
    exact ⟨congrArg (fun n => Ending.returned (.int .i64 n)) HV.out.symm, hB⟩
def sizeI (a b : Int) : Int := if mayB a b = true then hole b else 0
end Go.Proofs.YtlbgjmnihenmaaaGreatDoor
