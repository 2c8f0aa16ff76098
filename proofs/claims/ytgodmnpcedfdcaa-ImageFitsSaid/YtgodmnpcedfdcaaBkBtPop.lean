/- Package bits: how many slots are in a set: the library's count by halves of halves. -/
import Derived.Test.YtgodmnpcedfdcaaBkBtOps
import Derived.KernelRfl
namespace Go.Proofs.Ytgodmnpcedfdcaa
open Go.RowKit
/-- The slots in a set, rising. -/
def mem (x : Nat) : List Nat := (List.range 64).filter (fun i => x.testBit i)
def val : List Nat → Nat
  | [] => 0
  | b :: l => b + 256 * val l
theorem split8 {a c : Nat} (y z : Nat) (ha : a < 256) (hc : c < 256) : (a + 256 * y) &&& (c + 256 * z) = (a &&& c) + 256 * (y &&& z) := by
  have hac : a &&& c < 2 ^ 8 := Nat.lt_of_le_of_lt Nat.and_le_left ha
  apply Nat.eq_of_testBit_eq
  intro j
  rw [Nat.testBit_and, show a + 256 * y = 2 ^ 8 * y + a by omega, show c + 256 * z = 2 ^ 8 * z + c by omega, show (a &&& c) + 256 * (y &&& z) = 2 ^ 8 * (y &&& z) + (a &&& c) by omega, Nat.testBit_two_pow_mul_add y ha, Nat.testBit_two_pow_mul_add z hc, Nat.testBit_two_pow_mul_add (y &&& z) hac]
  split
  · rw [Nat.testBit_and]
  · rw [Nat.testBit_and]
abbrev msk (m : Nat) (l : List Nat) : Nat := val (l.map fun _ => m)
theorem and_val (m : Nat) (hm : m < 256) : ∀ l : List Nat, (∀ b ∈ l, b < 256) → val l &&& msk m l = val (l.map (· &&& m))
  | [], _ => by simp [val]
  | b :: l, h => by
    have hb := h b (by simp)
    have ih := and_val m hm l (fun x hx => h x (by simp [hx]))
    show (b + 256 * val l) &&& (m + 256 * msk m l) = (b &&& m) + 256 * val (l.map (· &&& m))
    rw [split8 _ _ hb hm, ih]
theorem b55 : ∀ b : Fin 256, ∀ q : Fin 2, (b.val / 2 + 128 * q.val) &&& 85 = (b.val / 2) &&& 85 := by decide +kernel
theorem b33 : ∀ b : Fin 256, ∀ q : Fin 4, (b.val / 4 + 64 * q.val) &&& 51 = (b.val / 4) &&& 51 := by decide +kernel
theorem shr1_val : ∀ l : List Nat, (∀ b ∈ l, b < 256) → (val l / 2) &&& msk 85 l = val (l.map (fun b => (b / 2) &&& 85))
  | [], _ => rfl
  | b :: l, h => by
    have hb := h b (by simp)
    have ih := shr1_val l (fun x hx => h x (by simp [hx]))
    show ((b + 256 * val l) / 2) &&& (85 + 256 * msk 85 l) = ((b / 2) &&& 85) + 256 * val (l.map (fun b => (b / 2) &&& 85))
    have hq : val l % 2 < 2 := Nat.mod_lt _ (by omega)
    rw [show (b + 256 * val l) / 2 = (b / 2 + 128 * (val l % 2)) + 256 * (val l / 2) by omega, split8 _ _ (by omega) (by omega), ih]
    have := b55 ⟨b, hb⟩ ⟨val l % 2, hq⟩
    simp only [] at this
    rw [this]
theorem shr2_val : ∀ l : List Nat, (∀ b ∈ l, b < 256) → (val l / 4) &&& msk 51 l = val (l.map (fun b => (b / 4) &&& 51))
  | [], _ => rfl
  | b :: l, h => by
    have hb := h b (by simp)
    have ih := shr2_val l (fun x hx => h x (by simp [hx]))
    show ((b + 256 * val l) / 4) &&& (51 + 256 * msk 51 l) = ((b / 4) &&& 51) + 256 * val (l.map (fun b => (b / 4) &&& 51))
    have hq : val l % 4 < 4 := Nat.mod_lt _ (by omega)
    rw [show (b + 256 * val l) / 4 = (b / 4 + 64 * (val l % 4)) + 256 * (val l / 4) by omega, split8 _ _ (by omega) (by omega), ih]
    have := b33 ⟨b, hb⟩ ⟨val l % 4, hq⟩
    simp only [] at this
    rw [this]
theorem add_val (f g : Nat → Nat) : ∀ l : List Nat, val (l.map f) + val (l.map g) = val (l.map fun b => f b + g b)
  | [] => rfl
  | b :: l => by
    have ih := add_val f g l
    show (f b + 256 * val (l.map f)) + (g b + 256 * val (l.map g)) = (f b + g b) + 256 * val (l.map fun b => f b + g b)
    omega
def t1 (b : Nat) : Nat := ((b / 2) &&& 85) + (b &&& 85)
def t2 (b : Nat) : Nat := ((b / 4) &&& 51) + (b &&& 51)
def t3 (b : Nat) : Nat := (b / 16 + b) &&& 15
theorem t12_bd : ∀ b : Fin 256, t1 b.val < 256 ∧ t2 (t1 b.val) < 256 ∧ t2 (t1 b.val) % 16 ≤ 4 ∧ t2 (t1 b.val) / 16 ≤ 4 := by decide +kernel
/-- What a byte of two nibbles, each at most four, may be. -/
def Nib (b : Nat) : Prop := b % 16 ≤ 4 ∧ b / 16 ≤ 4
theorem nib_and : ∀ d : Fin 69, ∀ q : Fin 5, (d.val / 16 + 16 * q.val + d.val) &&& 15 = (d.val / 16 + d.val) &&& 15 := by decide +kernel
theorem val_mod (l : List Nat) (h : ∀ b ∈ l, Nib b) : val l % 16 ≤ 4 := by
  cases l with
  | nil => exact Nat.zero_le _
  | cons b l =>
    have := (h b (by simp)).1
    show (b + 256 * val l) % 16 ≤ 4
    omega
theorem shr4_val : ∀ l : List Nat, (∀ b ∈ l, Nib b) → (val l / 16 + val l) &&& msk 15 l = val (l.map t3)
  | [], _ => rfl
  | b :: l, h => by
    have hb := h b (by simp)
    have hl : ∀ x ∈ l, Nib x := fun x hx => h x (by simp [hx])
    have ih := shr4_val l hl
    have hm := val_mod l hl
    obtain ⟨b0, b1⟩ := hb
    show ((b + 256 * val l) / 16 + (b + 256 * val l)) &&& (15 + 256 * msk 15 l) = t3 b + 256 * val (l.map t3)
    rw [show (b + 256 * val l) / 16 + (b + 256 * val l) = (b / 16 + 16 * (val l % 16) + b) + 256 * (val l / 16 + val l) by omega, split8 _ _ (by omega) (by omega), ih]
    have := nib_and ⟨b, by omega⟩ ⟨val l % 16, by omega⟩
    simp only [] at this
    rw [this]
    rfl
/-- Eight bytes of a number. -/
def by8 (x : Nat) : List Nat := [x % 256, x / 256 % 256, x / 65536 % 256, x / 16777216 % 256, x / 4294967296 % 256, x / 1099511627776 % 256, x / 281474976710656 % 256, x / 72057594037927936]
theorem by8_val (x : Nat) : val (by8 x) = x := by
  simp only [by8, val]
  omega
theorem by8_bd {x : Nat} (hx : x < M64) : ∀ b ∈ by8 x, b < 256 := by
  have hx' : x < 18446744073709551616 := hx
  intro b hb
  simp only [by8, List.mem_cons, List.not_mem_nil, or_false] at hb
  omega
def pop8 (b : Nat) : Nat := ((List.range 8).filter (fun i => b.testBit i)).length
theorem pop8_t : ∀ b : Fin 256, t3 (t2 (t1 b.val)) = pop8 b.val ∧ pop8 b.val ≤ 8 := by decide +kernel
theorem cnt_split (m b y : Nat) (hb : b < 256) : ((List.range (8 + m)).filter (fun i => (b + 256 * y).testBit i)).length = pop8 b + ((List.range m).filter (fun i => y.testBit i)).length := by
  rw [List.range_add, List.filter_append, List.length_append]
  have hb' : b < 2 ^ 8 := hb
  have h1 : (List.range 8).filter (fun i => (b + 256 * y).testBit i) = (List.range 8).filter (fun i => b.testBit i) := by
    apply List.filter_congr
    intro i hi
    have hi8 : i < 8 := List.mem_range.1 hi
    rw [show b + 256 * y = 2 ^ 8 * y + b by omega, Nat.testBit_two_pow_mul_add y hb', if_pos hi8]
  have h2 : ((List.range m).map (8 + ·)).filter (fun i => (b + 256 * y).testBit i) = ((List.range m).filter (fun i => y.testBit i)).map (8 + ·) := by
    rw [List.filter_map]
    congr 1
    apply List.filter_congr
    intro i _
    show (b + 256 * y).testBit (8 + i) = y.testBit i
    rw [show b + 256 * y = 2 ^ 8 * y + b by omega, Nat.testBit_two_pow_mul_add y hb', if_neg (by omega), show 8 + i - 8 = i by omega]
  rw [h1, h2, List.length_map]
  rfl
theorem pop_sum : ∀ l : List Nat, (∀ b ∈ l, b < 256) → ((List.range (8 * l.length)).filter (fun i => (val l).testBit i)).length = (l.map pop8).sum
  | [], _ => rfl
  | b :: l, h => by
    have hb := h b (by simp)
    have ih := pop_sum l (fun x hx => h x (by simp [hx]))
    rw [List.length_cons, show 8 * (l.length + 1) = 8 + 8 * l.length by omega, List.map_cons, List.sum_cons, ← ih]
    exact cnt_split _ _ _ hb
theorem mem_length {x : Nat} (hx : x < M64) : (mem x).length = ((by8 x).map pop8).sum := by
  have h := pop_sum (by8 x) (by8_bd hx)
  rw [by8_val] at h
  exact h
theorem msk8 (m : Nat) (l : List Nat) (h : l.length = 8) : msk m l = m * 72340172838076673 := by
  match l, h with
  | [a, b, c, d, e, f, g, i], _ =>
    show m + 256 * (m + 256 * (m + 256 * (m + 256 * (m + 256 * (m + 256 * (m + 256 * (m + 256 * 0))))))) = _
    omega
theorem m55 : ∀ x : Nat, msk 85 (by8 x) = 6148914691236517205 := fun x => by rw [msk8 _ _ rfl]
theorem m33 : ∀ x : Nat, msk 51 (by8 x) = 3689348814741910323 := fun x => by rw [msk8 _ _ rfl]
theorem m0f : ∀ x : Nat, msk 15 (by8 x) = 1085102592571150095 := fun x => by rw [msk8 _ _ rfl]
def w1 (x : Nat) : Nat := val ((by8 x).map t1)
def w2 (x : Nat) : Nat := val ((by8 x).map fun b => t2 (t1 b))
def w3 (x : Nat) : Nat := val ((by8 x).map pop8)
theorem map_bd {x : Nat} (hx : x < M64) {f : Nat → Nat} (hf : ∀ b : Fin 256, f b.val < 256) : ∀ b ∈ (by8 x).map f, b < 256 := by
  intro b hb
  obtain ⟨a, ha, rfl⟩ := List.mem_map.1 hb
  exact hf ⟨a, by8_bd hx a ha⟩
theorem step1 {x : Nat} (hx : x < M64) : ((x / 2) &&& 6148914691236517205) + (x &&& 6148914691236517205) = w1 x := by
  have h1 := shr1_val (by8 x) (by8_bd hx)
  have h2 := and_val 85 (by omega) (by8 x) (by8_bd hx)
  rw [m55, by8_val] at h1 h2
  rw [h1, h2, add_val]
  rfl
theorem step2 {x : Nat} (hx : x < M64) : ((w1 x / 4) &&& 3689348814741910323) + (w1 x &&& 3689348814741910323) = w2 x := by
  have hb := map_bd hx (f := t1) (fun b => (t12_bd b).1)
  have h1 := shr2_val ((by8 x).map t1) hb
  have h2 := and_val 51 (by omega) ((by8 x).map t1) hb
  have hm : msk 51 ((by8 x).map t1) = 3689348814741910323 := by rw [msk8 _ _ rfl]
  rw [hm] at h1 h2
  unfold w1
  rw [h1, h2, add_val]
  show val (((by8 x).map t1).map fun b => t2 b) = _
  rw [List.map_map]
  rfl
theorem step3 {x : Nat} (hx : x < M64) : (w2 x / 16 + w2 x) &&& 1085102592571150095 = w3 x := by
  have hb : ∀ b ∈ (by8 x).map (fun b => t2 (t1 b)), Nib b := by
    intro b hb
    obtain ⟨a, ha, rfl⟩ := List.mem_map.1 hb
    exact (t12_bd ⟨a, by8_bd hx a ha⟩).2.2
  have h1 := shr4_val ((by8 x).map fun b => t2 (t1 b)) hb
  have hm : msk 15 ((by8 x).map fun b => t2 (t1 b)) = 1085102592571150095 := by rw [msk8 _ _ rfl]
  rw [hm] at h1
  unfold w2
  rw [h1, List.map_map]
  unfold w3
  congr 1
  apply List.map_congr_left
  intro a ha
  exact (pop8_t ⟨a, by8_bd hx a ha⟩).1
end Go.Proofs.Ytgodmnpcedfdcaa
