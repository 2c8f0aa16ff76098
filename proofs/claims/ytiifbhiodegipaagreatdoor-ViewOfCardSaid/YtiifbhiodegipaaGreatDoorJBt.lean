/- Joined: BkBt BkBtOps BkBtPop BkBtLen BkBtOnes. -/
import Derived.Test.YtiifbhiodegipaaGreatDoorJPk
import Derived.Test.YtiifbhiodegipaaGreatDoorShelf
import Derived.WalkKit
import Derived.WalkSmall
import Derived.IntWalk
import Derived.Laws.BitsAllLaws
import Derived.Lib.Hide
import Derived.KernelRfl
namespace Go.Proofs.YtiifbhiodegipaaGreatDoor
section
open Go.RowKit
def slotB (i : Int) : Bool := decide (0 ≤ i) && decide (i < 64)
/-- The set of a slot alone. -/
def oneN (i : Int) : Nat := if slotB i = true then 2 ^ i.toNat else 0
theorem isSlot_any (i : Int) (w : World) : Calls Tryz.prog 169 #[.int .i64 i] w fun e w' => e = .returned (.bool (slotB i)) ∧ w = w' := by
  by_cases h1 : 0 ≤ i
  · have d1 : decide (0 ≤ i) = true := decide_eq_true h1
    unfold slotB
    rw [d1, Bool.true_and]
    generalize hq : decide (i < 64) = q
    go_enter Tryz.func169, Tryz.ntmps169
    go_wp2
    go_ret
    exact ⟨rfl, rfl⟩
  · have d1 : decide (0 ≤ i) = false := decide_eq_false h1
    unfold slotB
    rw [d1, Bool.false_and]
    go_enter Tryz.func169, Tryz.ntmps169
    go_wp2
    go_ret
    exact ⟨rfl, rfl⟩
theorem pow_lt64 {k : Nat} (h : k < 64) : 2 ^ k < 18446744073709551616 := by
  have : 2 ^ k < 2 ^ 64 := Nat.pow_lt_pow_right (by omega) h
  simpa using this
theorem oneN_lt (i : Int) : oneN i < 18446744073709551616 := by
  unfold oneN slotB
  split
  · rename_i h
    simp only [Bool.and_eq_true, decide_eq_true_eq] at h
    exact pow_lt64 (by omega)
  · omega
theorem one_any (i : Int) (w : World) : Calls Tryz.prog 141 #[.int .i64 i] w fun e w' => e = .returned (.int .u64 (oneN i)) ∧ w = w' := by
  have HS := Lib.hid (isSlot_any i w)
  cases hs : slotB i with
  | false =>
    have hv : oneN i = 0 := by unfold oneN; rw [hs]; rfl
    rw [hs] at HS
    rw [hv]
    clear hs hv
    go_enter Tryz.func141, Tryz.ntmps141
    go_wp2_with fail
    refine HS.out.mono ?_; rintro e w1 ⟨rfl, rfl⟩
    go_wp2_with fail
    go_ret
    exact ⟨rfl, rfl⟩
  | true =>
    have hb : 0 ≤ i ∧ i < 64 := by
      unfold slotB at hs
      simpa only [Bool.and_eq_true, decide_eq_true_eq] using hs
    have hv : oneN i = 2 ^ i.toNat := by unfold oneN; rw [hs]; rfl
    have hl := pow_lt64 (k := i.toNat) (by omega)
    rw [hs] at HS
    have HV : Hid ((oneN i : Int) = (2 : Int) ^ i.toNat) := Lib.hid (by rw [hv]; simp)
    have hm : (2 : Int) ^ i.toNat % 18446744073709551616 = 2 ^ i.toNat := by
      have h2 : ((2 ^ i.toNat : Nat) : Int) < 18446744073709551616 := by omega
      rw [Int.natCast_pow] at h2
      exact Int.emod_eq_of_lt (Int.le_of_lt (Int.pow_pos (by omega))) h2
    have d0 : decide (i < 0) = false := decide_eq_false (by omega)
    clear hs hv hl
    go_enter Tryz.func141, Tryz.ntmps141
    go_wp2_with fail
    refine HS.out.mono ?_; rintro e w1 ⟨rfl, rfl⟩
    go_wp2_with fail
    go_ret
    exact ⟨by rw [HV.out]; rfl, rfl⟩
end
section
open Go.RowKit
abbrev M64 : Nat := 18446744073709551616
theorem or_lt {x y : Nat} (hx : x < M64) (hy : y < M64) : x ||| y < M64 := Nat.or_lt_two_pow (n := 64) hx hy
theorem with_any (x : Nat) (i : Int) (hx : x < M64) (w : World) : Calls Tryz.prog 104 #[.int .u64 x, .int .i64 i] w fun e w' => e = .returned (.int .u64 ((x ||| oneN i : Nat) : Int)) ∧ w = w' := by
  have HO := Lib.hid (one_any i w)
  have hb := u64_or_nat x (oneN i) hx (oneN_lt i)
  generalize x ||| oneN i = r at *
  generalize oneN i = o at *
  go_enter Tryz.func104, Tryz.ntmps104
  go_wp2_with fail
  refine HO.out.mono ?_; rintro e w1 ⟨rfl, rfl⟩
  go_wp2_with fail
  go_ret
  exact ⟨rfl, rfl⟩
def allM (n : Int) : Nat := (min (max n 0) 64).toNat
theorem all_any (n : Int) (w : World) : Calls Tryz.prog 139 #[.int .i64 n] w fun e w' => e = .returned (.int .u64 ((2 ^ allM n - 1 : Nat) : Int)) ∧ w = w' := by
  have hm : min (max n 0) 64 = (allM n : Int) := by unfold allM; omega
  have hk : allM n ≤ 64 := by unfold allM; omega
  have hp : 2 ^ allM n ≤ 2 ^ 64 := Nat.pow_le_pow_right (by omega) hk
  have hp0 : 0 < 2 ^ allM n := Nat.pow_pos (by omega)
  have hv : IntKind.u64.wrap (IntKind.u64.wrap ((2 : Int) ^ allM n) - 1) = ((2 ^ allM n - 1 : Nat) : Int) := by
    rw [show ((2 : Int) ^ allM n) = ((2 ^ allM n : Nat) : Int) by simp, IntKind.wrap_u64, IntKind.wrap_u64]
    omega
  clear hp hp0
  generalize allM n = m at *
  have d0 : decide ((m : Int) < 0) = false := decide_eq_false (by omega)
  have HV := Lib.hid hv
  clear hv
  go_enter Tryz.func139, Tryz.ntmps139
  go_wp2
  go_ret
  exact ⟨by rw [← HV.out]; rfl, rfl⟩
end
section
open Go.RowKit
/-- The slots in a set, rising. -/
def mem (x : Nat) : List Nat := (List.range 64).filter (fun i => x.testBit i)
def val : List Nat → Nat
  | [] => 0
  | b :: l => b + 256 * val l
theorem split8 {a c : Nat} (y z : Nat) (ha : a < 256) (hc : c < 256) : (a + 256 * y) &&& (c + 256 * z) = (a &&& c) + 256 * (y &&& z) := by
  have hac : a &&& c < 2 ^ 8 := Nat.lt_of_le_of_lt Nat.and_le_left ha
  apply Nat.eq_of_testBit_eq
  intro j
  rw [Nat.testBit_and, show a + 256 * y = 2 ^ 8 * y + a by omega, show c + 256 * z = 2 ^ 8 * z + c by omega, show (a &&& c) + 256 * (y &&& z) = 2 ^ 8 * (y &&& z) + (a &&& c) by omega, Nat.testBit_two_pow_mul_add y ha, Nat.testBit_two_pow_mul_add z hc, Nat.testBit_two_pow_mul_add (y &&& z) hac]
  split
  · rw [Nat.testBit_and]
  · rw [Nat.testBit_and]
abbrev msk (m : Nat) (l : List Nat) : Nat := val (l.map fun _ => m)
theorem and_val (m : Nat) (hm : m < 256) : ∀ l : List Nat, (∀ b ∈ l, b < 256) → val l &&& msk m l = val (l.map (· &&& m))
  | [], _ => by simp [val]
  | b :: l, h => by
    have hb := h b (by simp)
    have ih := and_val m hm l (fun x hx => h x (by simp [hx]))
    show (b + 256 * val l) &&& (m + 256 * msk m l) = (b &&& m) + 256 * val (l.map (· &&& m))
    rw [split8 _ _ hb hm, ih]
theorem b55 : ∀ b : Fin 256, ∀ q : Fin 2, (b.val / 2 + 128 * q.val) &&& 85 = (b.val / 2) &&& 85 := by decide +kernel
theorem b33 : ∀ b : Fin 256, ∀ q : Fin 4, (b.val / 4 + 64 * q.val) &&& 51 = (b.val / 4) &&& 51 := by decide +kernel
theorem shr1_val : ∀ l : List Nat, (∀ b ∈ l, b < 256) → (val l / 2) &&& msk 85 l = val (l.map (fun b => (b / 2) &&& 85))
  | [], _ => rfl
  | b :: l, h => by
    have hb := h b (by simp)
    have ih := shr1_val l (fun x hx => h x (by simp [hx]))
    show ((b + 256 * val l) / 2) &&& (85 + 256 * msk 85 l) = ((b / 2) &&& 85) + 256 * val (l.map (fun b => (b / 2) &&& 85))
    have hq : val l % 2 < 2 := Nat.mod_lt _ (by omega)
    rw [show (b + 256 * val l) / 2 = (b / 2 + 128 * (val l % 2)) + 256 * (val l / 2) by omega, split8 _ _ (by omega) (by omega), ih]
    have := b55 ⟨b, hb⟩ ⟨val l % 2, hq⟩
    simp only [] at this
    rw [this]
theorem shr2_val : ∀ l : List Nat, (∀ b ∈ l, b < 256) → (val l / 4) &&& msk 51 l = val (l.map (fun b => (b / 4) &&& 51))
  | [], _ => rfl
  | b :: l, h => by
    have hb := h b (by simp)
    have ih := shr2_val l (fun x hx => h x (by simp [hx]))
    show ((b + 256 * val l) / 4) &&& (51 + 256 * msk 51 l) = ((b / 4) &&& 51) + 256 * val (l.map (fun b => (b / 4) &&& 51))
    have hq : val l % 4 < 4 := Nat.mod_lt _ (by omega)
    rw [show (b + 256 * val l) / 4 = (b / 4 + 64 * (val l % 4)) + 256 * (val l / 4) by omega, split8 _ _ (by omega) (by omega), ih]
    have := b33 ⟨b, hb⟩ ⟨val l % 4, hq⟩
    simp only [] at this
    rw [this]
theorem add_val (f g : Nat → Nat) : ∀ l : List Nat, val (l.map f) + val (l.map g) = val (l.map fun b => f b + g b)
  | [] => rfl
  | b :: l => by
    have ih := add_val f g l
    show (f b + 256 * val (l.map f)) + (g b + 256 * val (l.map g)) = (f b + g b) + 256 * val (l.map fun b => f b + g b)
    omega
def t1 (b : Nat) : Nat := ((b / 2) &&& 85) + (b &&& 85)
def t2 (b : Nat) : Nat := ((b / 4) &&& 51) + (b &&& 51)
def t3 (b : Nat) : Nat := (b / 16 + b) &&& 15
theorem t12_bd : ∀ b : Fin 256, t1 b.val < 256 ∧ t2 (t1 b.val) < 256 ∧ t2 (t1 b.val) % 16 ≤ 4 ∧ t2 (t1 b.val) / 16 ≤ 4 := by decide +kernel
/-- What a byte of two nibbles, each at most four, may be. -/
def Nib (b : Nat) : Prop := b % 16 ≤ 4 ∧ b / 16 ≤ 4
theorem nib_and : ∀ d : Fin 69, ∀ q : Fin 5, (d.val / 16 + 16 * q.val + d.val) &&& 15 = (d.val / 16 + d.val) &&& 15 := by decide +kernel
theorem val_mod (l : List Nat) (h : ∀ b ∈ l, Nib b) : val l % 16 ≤ 4 := by
  cases l with
  | nil => exact Nat.zero_le _
  | cons b l =>
    have := (h b (by simp)).1
    show (b + 256 * val l) % 16 ≤ 4
    omega
theorem shr4_val : ∀ l : List Nat, (∀ b ∈ l, Nib b) → (val l / 16 + val l) &&& msk 15 l = val (l.map t3)
  | [], _ => rfl
  | b :: l, h => by
    have hb := h b (by simp)
    have hl : ∀ x ∈ l, Nib x := fun x hx => h x (by simp [hx])
    have ih := shr4_val l hl
    have hm := val_mod l hl
    obtain ⟨b0, b1⟩ := hb
    show ((b + 256 * val l) / 16 + (b + 256 * val l)) &&& (15 + 256 * msk 15 l) = t3 b + 256 * val (l.map t3)
    rw [show (b + 256 * val l) / 16 + (b + 256 * val l) = (b / 16 + 16 * (val l % 16) + b) + 256 * (val l / 16 + val l) by omega, split8 _ _ (by omega) (by omega), ih]
    have := nib_and ⟨b, by omega⟩ ⟨val l % 16, by omega⟩
    simp only [] at this
    rw [this]
    rfl
/-- Eight bytes of a number. -/
def by8 (x : Nat) : List Nat := [x % 256, x / 256 % 256, x / 65536 % 256, x / 16777216 % 256, x / 4294967296 % 256, x / 1099511627776 % 256, x / 281474976710656 % 256, x / 72057594037927936]
theorem by8_val (x : Nat) : val (by8 x) = x := by
  simp only [by8, val]
  omega
theorem by8_bd {x : Nat} (hx : x < M64) : ∀ b ∈ by8 x, b < 256 := by
  have hx' : x < 18446744073709551616 := hx
  intro b hb
  simp only [by8, List.mem_cons, List.not_mem_nil, or_false] at hb
  omega
def pop8 (b : Nat) : Nat := ((List.range 8).filter (fun i => b.testBit i)).length
theorem pop8_t : ∀ b : Fin 256, t3 (t2 (t1 b.val)) = pop8 b.val ∧ pop8 b.val ≤ 8 := by decide +kernel
theorem cnt_split (m b y : Nat) (hb : b < 256) : ((List.range (8 + m)).filter (fun i => (b + 256 * y).testBit i)).length = pop8 b + ((List.range m).filter (fun i => y.testBit i)).length := by
  rw [List.range_add, List.filter_append, List.length_append]
  have hb' : b < 2 ^ 8 := hb
  have h1 : (List.range 8).filter (fun i => (b + 256 * y).testBit i) = (List.range 8).filter (fun i => b.testBit i) := by
    apply List.filter_congr
    intro i hi
    have hi8 : i < 8 := List.mem_range.1 hi
    rw [show b + 256 * y = 2 ^ 8 * y + b by omega, Nat.testBit_two_pow_mul_add y hb', if_pos hi8]
  have h2 : ((List.range m).map (8 + ·)).filter (fun i => (b + 256 * y).testBit i) = ((List.range m).filter (fun i => y.testBit i)).map (8 + ·) := by
    rw [List.filter_map]
    congr 1
    apply List.filter_congr
    intro i _
    show (b + 256 * y).testBit (8 + i) = y.testBit i
    rw [show b + 256 * y = 2 ^ 8 * y + b by omega, Nat.testBit_two_pow_mul_add y hb', if_neg (by omega), show 8 + i - 8 = i by omega]
  rw [h1, h2, List.length_map]
  rfl
theorem pop_sum : ∀ l : List Nat, (∀ b ∈ l, b < 256) → ((List.range (8 * l.length)).filter (fun i => (val l).testBit i)).length = (l.map pop8).sum
  | [], _ => rfl
  | b :: l, h => by
    have hb := h b (by simp)
    have ih := pop_sum l (fun x hx => h x (by simp [hx]))
    rw [List.length_cons, show 8 * (l.length + 1) = 8 + 8 * l.length by omega, List.map_cons, List.sum_cons, ← ih]
    exact cnt_split _ _ _ hb
theorem mem_length {x : Nat} (hx : x < M64) : (mem x).length = ((by8 x).map pop8).sum := by
  have h := pop_sum (by8 x) (by8_bd hx)
  rw [by8_val] at h
  exact h
theorem msk8 (m : Nat) (l : List Nat) (h : l.length = 8) : msk m l = m * 72340172838076673 := by
  match l, h with
  | [a, b, c, d, e, f, g, i], _ =>
    show m + 256 * (m + 256 * (m + 256 * (m + 256 * (m + 256 * (m + 256 * (m + 256 * (m + 256 * 0))))))) = _
    omega
theorem m55 : ∀ x : Nat, msk 85 (by8 x) = 6148914691236517205 := fun x => by rw [msk8 _ _ rfl]
def w1 (x : Nat) : Nat := val ((by8 x).map t1)
def w2 (x : Nat) : Nat := val ((by8 x).map fun b => t2 (t1 b))
def w3 (x : Nat) : Nat := val ((by8 x).map pop8)
theorem map_bd {x : Nat} (hx : x < M64) {f : Nat → Nat} (hf : ∀ b : Fin 256, f b.val < 256) : ∀ b ∈ (by8 x).map f, b < 256 := by
  intro b hb
  obtain ⟨a, ha, rfl⟩ := List.mem_map.1 hb
  exact hf ⟨a, by8_bd hx a ha⟩
theorem step1 {x : Nat} (hx : x < M64) : ((x / 2) &&& 6148914691236517205) + (x &&& 6148914691236517205) = w1 x := by
  have h1 := shr1_val (by8 x) (by8_bd hx)
  have h2 := and_val 85 (by omega) (by8 x) (by8_bd hx)
  rw [m55, by8_val] at h1 h2
  rw [h1, h2, add_val]
  rfl
theorem step2 {x : Nat} (hx : x < M64) : ((w1 x / 4) &&& 3689348814741910323) + (w1 x &&& 3689348814741910323) = w2 x := by
  have hb := map_bd hx (f := t1) (fun b => (t12_bd b).1)
  have h1 := shr2_val ((by8 x).map t1) hb
  have h2 := and_val 51 (by omega) ((by8 x).map t1) hb
  have hm : msk 51 ((by8 x).map t1) = 3689348814741910323 := by rw [msk8 _ _ rfl]
  rw [hm] at h1 h2
  unfold w1
  rw [h1, h2, add_val]
  show val (((by8 x).map t1).map fun b => t2 b) = _
  rw [List.map_map]
  rfl
theorem step3 {x : Nat} (hx : x < M64) : (w2 x / 16 + w2 x) &&& 1085102592571150095 = w3 x := by
  have hb : ∀ b ∈ (by8 x).map (fun b => t2 (t1 b)), Nib b := by
    intro b hb
    obtain ⟨a, ha, rfl⟩ := List.mem_map.1 hb
    exact (t12_bd ⟨a, by8_bd hx a ha⟩).2.2
  have h1 := shr4_val ((by8 x).map fun b => t2 (t1 b)) hb
  have hm : msk 15 ((by8 x).map fun b => t2 (t1 b)) = 1085102592571150095 := by rw [msk8 _ _ rfl]
  rw [hm] at h1
  unfold w2
  rw [h1, List.map_map]
  unfold w3
  congr 1
  apply List.map_congr_left
  intro a ha
  exact (pop8_t ⟨a, by8_bd hx a ha⟩).1
end
section
open Go.RowKit
theorem byte8_bd (x : Nat) (hx : x < M64) : ∃ p0 p1 p2 p3 p4 p5 p6 p7 : Nat, (by8 x).map pop8 = [p0, p1, p2, p3, p4, p5, p6, p7] ∧ p0 ≤ 8 ∧ p1 ≤ 8 ∧ p2 ≤ 8 ∧ p3 ≤ 8 ∧ p4 ≤ 8 ∧ p5 ≤ 8 ∧ p6 ≤ 8 ∧ p7 ≤ 8 := by
  have h := by8_bd hx
  have hp : ∀ b ∈ by8 x, pop8 b ≤ 8 := fun b hb => (pop8_t ⟨b, h b hb⟩).2
  unfold by8 at hp ⊢
  refine ⟨_, _, _, _, _, _, _, _, rfl, ?_, ?_, ?_, ?_, ?_, ?_, ?_, ?_⟩ <;> exact hp _ (by simp)
theorem d1 {p T : Nat} (h : p < 256) : (p + 256 * T) / 256 = T := by omega
theorem d2 {a b T : Nat} (h : a < 256) (k : b < 256) : (a + 256 * (b + 256 * T)) / 65536 = T := by omega
theorem d4 {a b c d T : Nat} (h : a < 256) (k : b < 256) (l : c < 256) (m : d < 256) : (a + 256 * (b + 256 * (c + 256 * (d + 256 * T)))) / 4294967296 = T := by omega
theorem r1 {p T : Nat} (h : p < 128) : (p + 256 * T) % 128 = p := by omega
theorem val_add : ∀ (l m : List Nat), l.length = m.length → val l + val m = val (List.zipWith (· + ·) l m)
  | [], [], _ => rfl
  | a :: l, b :: m, h => by
    have ih := val_add l m (by simpa using h)
    show (a + 256 * val l) + (b + 256 * val m) = (a + b) + 256 * val (List.zipWith (· + ·) l m)
    omega
theorem val_snoc0 : ∀ l : List Nat, val (l ++ [0]) = val l
  | [] => rfl
  | a :: l => by
    have ih := val_snoc0 l
    show a + 256 * val (l ++ [0]) = a + 256 * val l
    rw [ih]
theorem val_le (k : Nat) : ∀ l : List Nat, (∀ b ∈ l, b ≤ k) → val l ≤ k * msk 1 l
  | [], _ => Nat.zero_le _
  | b :: l, h => by
    have ih := val_le k l (fun x hx => h x (by simp [hx]))
    have hb := h b (by simp)
    show b + 256 * val l ≤ k * (1 + 256 * msk 1 l)
    rw [Nat.mul_add, Nat.mul_one, show k * (256 * msk 1 l) = 256 * (k * msk 1 l) by rw [Nat.mul_left_comm]]
    omega
theorem val8_le (k : Nat) (l : List Nat) (hl : l.length = 8) (h : ∀ b ∈ l, b ≤ k) : val l ≤ k * 72340172838076673 := by
  have := val_le k l h
  rw [msk8 1 l hl, Nat.one_mul] at this
  exact this
theorem lt63 {l : List Nat} (hl : l.length = 8) (h : ∀ b ∈ l, b ≤ 127) : val l < 9223372036854775808 := by
  have := val8_le 127 l hl h
  omega
theorem mem8 {a b c d e f g i k : Nat} (h : a ≤ k ∧ b ≤ k ∧ c ≤ k ∧ d ≤ k ∧ e ≤ k ∧ f ≤ k ∧ g ≤ k ∧ i ≤ k) : ∀ x ∈ [a, b, c, d, e, f, g, i], x ≤ k := by
  intro x hx
  simp only [List.mem_cons, List.not_mem_nil, or_false] at hx
  obtain ⟨h0, h1, h2, h3, h4, h5, h6, h7⟩ := h
  rcases hx with rfl | rfl | rfl | rfl | rfl | rfl | rfl | rfl <;> assumption
/-- The last three sums: the eight counts together. -/
theorem fold8 {p0 p1 p2 p3 p4 p5 p6 p7 : Nat} (h0 : p0 ≤ 8) (h1 : p1 ≤ 8) (h2 : p2 ≤ 8) (h3 : p3 ≤ 8) (h4 : p4 ≤ 8) (h5 : p5 ≤ 8) (h6 : p6 ≤ 8) (h7 : p7 ≤ 8) :
    ∃ X Y Z V : Nat, val [p0, p1, p2, p3, p4, p5, p6, p7] = X ∧ X + X / 256 = Y ∧ Y + Y / 65536 = Z ∧ Z + Z / 4294967296 = V ∧ V < 9223372036854775808 ∧ Y < 9223372036854775808 ∧ Z < 9223372036854775808 ∧ X < 9223372036854775808 ∧ V % 128 = p0 + p1 + p2 + p3 + p4 + p5 + p6 + p7 := by
  have f1 : val [p0, p1, p2, p3, p4, p5, p6, p7] + val [p0, p1, p2, p3, p4, p5, p6, p7] / 256 = val [p0 + p1, p1 + p2, p2 + p3, p3 + p4, p4 + p5, p5 + p6, p6 + p7, p7 + 0] := by
    rw [show val [p0, p1, p2, p3, p4, p5, p6, p7] / 256 = val [p1, p2, p3, p4, p5, p6, p7] from d1 (by omega), ← val_snoc0 [p1, p2, p3, p4, p5, p6, p7]]
    exact val_add _ _ rfl
  have f2 : val [p0 + p1, p1 + p2, p2 + p3, p3 + p4, p4 + p5, p5 + p6, p6 + p7, p7 + 0] + val [p0 + p1, p1 + p2, p2 + p3, p3 + p4, p4 + p5, p5 + p6, p6 + p7, p7 + 0] / 65536 = val [p0 + p1 + (p2 + p3), p1 + p2 + (p3 + p4), p2 + p3 + (p4 + p5), p3 + p4 + (p5 + p6), p4 + p5 + (p6 + p7), p5 + p6 + (p7 + 0), p6 + p7 + 0, p7 + 0 + 0] := by
    rw [show val [p0 + p1, p1 + p2, p2 + p3, p3 + p4, p4 + p5, p5 + p6, p6 + p7, p7 + 0] / 65536 = val [p2 + p3, p3 + p4, p4 + p5, p5 + p6, p6 + p7, p7 + 0] from d2 (by omega) (by omega), ← val_snoc0 [p2 + p3, p3 + p4, p4 + p5, p5 + p6, p6 + p7, p7 + 0], ← val_snoc0 ([p2 + p3, p3 + p4, p4 + p5, p5 + p6, p6 + p7, p7 + 0] ++ [0])]
    exact val_add _ _ rfl
  have f3 : val [p0 + p1 + (p2 + p3), p1 + p2 + (p3 + p4), p2 + p3 + (p4 + p5), p3 + p4 + (p5 + p6), p4 + p5 + (p6 + p7), p5 + p6 + (p7 + 0), p6 + p7 + 0, p7 + 0 + 0] + val [p0 + p1 + (p2 + p3), p1 + p2 + (p3 + p4), p2 + p3 + (p4 + p5), p3 + p4 + (p5 + p6), p4 + p5 + (p6 + p7), p5 + p6 + (p7 + 0), p6 + p7 + 0, p7 + 0 + 0] / 4294967296 =
      val [p0 + p1 + (p2 + p3) + (p4 + p5 + (p6 + p7)), p1 + p2 + (p3 + p4) + (p5 + p6 + (p7 + 0)), p2 + p3 + (p4 + p5) + (p6 + p7 + 0), p3 + p4 + (p5 + p6) + (p7 + 0 + 0), p4 + p5 + (p6 + p7) + 0, p5 + p6 + (p7 + 0) + 0, p6 + p7 + 0 + 0, p7 + 0 + 0 + 0] := by
    rw [show val [p0 + p1 + (p2 + p3), p1 + p2 + (p3 + p4), p2 + p3 + (p4 + p5), p3 + p4 + (p5 + p6), p4 + p5 + (p6 + p7), p5 + p6 + (p7 + 0), p6 + p7 + 0, p7 + 0 + 0] / 4294967296 = val [p4 + p5 + (p6 + p7), p5 + p6 + (p7 + 0), p6 + p7 + 0, p7 + 0 + 0] from d4 (by omega) (by omega) (by omega) (by omega),
      ← val_snoc0 [p4 + p5 + (p6 + p7), p5 + p6 + (p7 + 0), p6 + p7 + 0, p7 + 0 + 0], ← val_snoc0 ([p4 + p5 + (p6 + p7), p5 + p6 + (p7 + 0), p6 + p7 + 0, p7 + 0 + 0] ++ [0]), ← val_snoc0 ([p4 + p5 + (p6 + p7), p5 + p6 + (p7 + 0), p6 + p7 + 0, p7 + 0 + 0] ++ [0] ++ [0]), ← val_snoc0 ([p4 + p5 + (p6 + p7), p5 + p6 + (p7 + 0), p6 + p7 + 0, p7 + 0 + 0] ++ [0] ++ [0] ++ [0])]
    exact val_add _ _ rfl
  refine ⟨_, _, _, _, rfl, f1, f2, f3, lt63 rfl (mem8 ?_), lt63 rfl (mem8 ?_), lt63 rfl (mem8 ?_), lt63 rfl (mem8 ?_), ?_⟩
  · omega
  · omega
  · omega
  · omega
  · have h := r1 (p := p0 + p1 + (p2 + p3) + (p4 + p5 + (p6 + p7))) (T := val [p1 + p2 + (p3 + p4) + (p5 + p6 + (p7 + 0)), p2 + p3 + (p4 + p5) + (p6 + p7 + 0), p3 + p4 + (p5 + p6) + (p7 + 0 + 0), p4 + p5 + (p6 + p7) + 0, p5 + p6 + (p7 + 0) + 0, p6 + p7 + 0 + 0, p7 + 0 + 0 + 0]) (by omega)
    refine h.trans (by omega)
theorem t1sum : ∀ b : Fin 256, t1 b.val ≤ 170 ∧ t2 (t1 b.val) ≤ 68 := by decide +kernel
theorem w12_lt {x : Nat} (hx : x < M64) : w1 x < 12297829382473034412 ∧ w2 x < 4919131752989213765 := by
  have a := val8_le 170 ((by8 x).map t1) rfl (fun b hb => by
    obtain ⟨y, hy, rfl⟩ := List.mem_map.1 hb
    exact (t1sum ⟨y, by8_bd hx y hy⟩).1)
  have b := val8_le 68 ((by8 x).map fun b => t2 (t1 b)) rfl (fun b hb => by
    obtain ⟨y, hy, rfl⟩ := List.mem_map.1 hb
    exact (t1sum ⟨y, by8_bd hx y hy⟩).2)
  exact ⟨Nat.lt_of_le_of_lt a (by decide), Nat.lt_of_le_of_lt b (by decide)⟩
end
section
open Go.RowKit
theorem i64_and127 (v : Nat) (hv : v < 9223372036854775808) : bits .and .i64 (v : Int) 127 = ((v % 128 : Nat) : Int) := by
  have h1 : (BitVec.ofInt 64 (v : Int)).toNat = v := ofInt_u64 v (by omega)
  have h2 : (BitVec.ofInt 64 (127 : Int)).toNat = 127 := ofInt_u64 127 (by omega)
  show IntKind.i64.wrap ((BitVec.ofInt 64 (v : Int) &&& BitVec.ofInt 64 (127 : Int)).toNat : Int) = _
  rw [BitVec.toNat_and, h1, h2, show (127 : Nat) = 2 ^ 7 - 1 from rfl, Nat.and_two_pow_sub_one_eq_mod]
  exact IntWalk.i64_in _ (by omega)
theorem and_nat (a m : Nat) (ha : a < M64) (hm : m < M64) : bits .and .u64 (a : Int) (m : Int) = ((a &&& m : Nat) : Int) := u64_and_nat a m ha hm
theorem wrap_nat (a : Nat) (h : a < M64) : IntKind.u64.wrap (a : Int) = (a : Int) := IntWalk.u64_in _ (by have h' : a < 18446744073709551616 := h; omega)
set_option maxRecDepth 10000 in
set_option maxHeartbeats 1000000 in
theorem ones_core (x A B y1 C D y2 E y3 Y Z V R : Nat) (w : World)
    (a1 : bits .and .u64 ((x : Int) / 2) 6148914691236517205 = (A : Int)) (a2 : bits .and .u64 (x : Int) 6148914691236517205 = (B : Int)) (a3 : IntKind.u64.wrap ((A : Int) + (B : Int)) = (y1 : Int))
    (b1 : bits .and .u64 ((y1 : Int) / 4) 3689348814741910323 = (C : Int)) (b2 : bits .and .u64 (y1 : Int) 3689348814741910323 = (D : Int)) (b3 : IntKind.u64.wrap ((C : Int) + (D : Int)) = (y2 : Int))
    (c1 : IntKind.u64.wrap ((y2 : Int) / 16 + (y2 : Int)) = (E : Int)) (c2 : bits .and .u64 (E : Int) 1085102592571150095 = (y3 : Int))
    (d1 : IntKind.u64.wrap ((y3 : Int) + (y3 : Int) / 256) = (Y : Int)) (d2 : IntKind.u64.wrap ((Y : Int) + (Y : Int) / 65536) = (Z : Int)) (d3 : IntKind.u64.wrap ((Z : Int) + (Z : Int) / 4294967296) = (V : Int))
    (hV : (V : Int) ≤ 9223372036854775807) (e1 : bits .and .i64 (V : Int) 127 = (R : Int)) :
    Calls Tryz.prog 168 #[.int .u64 x] w fun e w' => e = .returned (.int .i64 R) ∧ w = w' := by
  go_enter Tryz.func168, Tryz.ntmps168
  go_wp2
  go_ret
  exact ⟨rfl, rfl⟩
theorem ones_any (x : Nat) (hx : x < M64) (w : World) :
    Calls Tryz.prog 168 #[.int .u64 x] w fun e w' => e = .returned (.int .i64 ((mem x).length : Int)) ∧ w = w' := by
  have hx' : x < 18446744073709551616 := hx
  obtain ⟨l1, l2⟩ := w12_lt hx
  have s1 := step1 hx
  have s2 := step2 hx
  have s3 := step3 hx
  obtain ⟨p0, p1, p2, p3, p4, p5, p6, p7, hp, k0, k1, k2, k3, k4, k5, k6, k7⟩ := byte8_bd x hx
  obtain ⟨X, Y, Z, V, hX, hY, hZ, hV, v1, v2, v3, v4, v5⟩ := fold8 k0 k1 k2 k3 k4 k5 k6 k7
  have hw3 : w3 x = X := by unfold w3; rw [hp, hX]
  have hlen : (mem x).length = V % 128 := by
    rw [mem_length hx, hp, v5]
    simp only [List.sum_cons, List.sum_nil]
    omega
  rw [hw3] at s3
  rw [hlen]
  have e1 : x / 2 < M64 := by show x / 2 < 18446744073709551616; omega
  have e2 : w1 x < M64 := by show w1 x < 18446744073709551616; omega
  have e3 : w1 x / 4 < M64 := by show w1 x / 4 < 18446744073709551616; omega
  have e4 : w2 x / 16 + w2 x < M64 := by show _ < 18446744073709551616; omega
  have q (a b : Nat) (h : a = b) : (a : Int) = (b : Int) := by rw [h]
  refine ones_core x (x / 2 &&& 6148914691236517205) (x &&& 6148914691236517205) (w1 x) (w1 x / 4 &&& 3689348814741910323) (w1 x &&& 3689348814741910323) (w2 x) (w2 x / 16 + w2 x) X Y Z V (V % 128) w
    (and_nat _ 6148914691236517205 e1 (by decide)) (and_nat _ 6148914691236517205 hx (by decide)) ?_ (and_nat _ 3689348814741910323 e3 (by decide)) (and_nat _ 3689348814741910323 e2 (by decide)) ?_ ?_ ?_ ?_ ?_ ?_ (by omega) (i64_and127 V v1)
  · have h := wrap_nat (w1 x) e2
    rw [← s1, Int.natCast_add] at h
    rw [← s1, Int.natCast_add]
    exact h
  · have h := wrap_nat (w2 x) (by show _ < 18446744073709551616; omega)
    rw [← s2, Int.natCast_add] at h
    rw [← s2, Int.natCast_add]
    exact h
  · have h := wrap_nat (w2 x / 16 + w2 x) e4
    rw [Int.natCast_add] at h
    rw [Int.natCast_add]
    exact h
  · rw [← s3]
    exact and_nat _ 1085102592571150095 e4 (by decide)
  · have h := wrap_nat Y (by show _ < 18446744073709551616; omega)
    rw [← hY, Int.natCast_add] at h
    rw [← hY, Int.natCast_add]
    exact h
  · have h := wrap_nat Z (by show _ < 18446744073709551616; omega)
    rw [← hZ, Int.natCast_add] at h
    rw [← hZ, Int.natCast_add]
    exact h
  · have h := wrap_nat V (by show _ < 18446744073709551616; omega)
    rw [← hV, Int.natCast_add] at h
    rw [← hV, Int.natCast_add]
    exact h
theorem len_any (x : Nat) (hx : x < M64) (w : World) :
    Calls Tryz.prog 140 #[.int .u64 x] w fun e w' => e = .returned (.int .i64 ((mem x).length : Int)) ∧ w = w' := by
  have HO := Lib.hid (ones_any x hx w)
  generalize (mem x).length = n at *
  go_enter Tryz.func140, Tryz.ntmps140
  go_wp2_with fail
  refine HO.out.mono ?_; rintro e w1 ⟨rfl, rfl⟩
  go_wp2_with fail
  go_ret
  exact ⟨rfl, rfl⟩
end
end Go.Proofs.YtiifbhiodegipaaGreatDoor
