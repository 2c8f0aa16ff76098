/- Cyclic sums as numbers, plain: no program is named. -/
import Derived.WalkKit
namespace Go.Proofs.YtkjdfelmjanpcaaDoor
/-- One halving. -/
def halveN (s : Nat) : Nat := if s % 2 = 1 then s / 2 ^^^ 2197175160 else s / 2
def halvesN : Nat → Nat → Nat
  | 0, s => s
  | n + 1, s => halvesN n (halveN s)
def moreN (s : Nat) (l : List Int) : Nat := l.foldl (fun s c => halvesN 8 (s ^^^ c.toNat)) s
def numLE : List Int → Nat
  | [] => 0
  | c :: l => c.toNat ^^^ 256 * numLE l
theorem xor_div2 (a b : Nat) : (a ^^^ b) / 2 = a / 2 ^^^ b / 2 := by
  have := Nat.shiftRight_xor_distrib (a := a) (b := b) (i := 1)
  simpa [Nat.shiftRight_eq_div_pow] using this
theorem xor_mod2 (a b : Nat) : (a ^^^ b) % 2 = (a % 2 + b % 2) % 2 := by
  have := Nat.testBit_xor a b 0
  simp only [Nat.testBit_zero] at this
  rcases Nat.mod_two_eq_zero_or_one a with ha | ha <;> rcases Nat.mod_two_eq_zero_or_one b with hb | hb <;> rcases Nat.mod_two_eq_zero_or_one (a ^^^ b) with h | h <;> simp [ha, hb, h] at this ⊢
theorem halveN_xor (a b : Nat) : halveN (a ^^^ b) = halveN a ^^^ halveN b := by
  unfold halveN
  rw [xor_mod2, xor_div2]
  rcases Nat.mod_two_eq_zero_or_one a with ha | ha <;> rcases Nat.mod_two_eq_zero_or_one b with hb | hb <;> simp [ha, hb]
  · rw [Nat.xor_assoc]
  · rw [Nat.xor_assoc, Nat.xor_assoc, Nat.xor_comm (b / 2)]
  · rw [Nat.xor_assoc, ← Nat.xor_assoc 2197175160, Nat.xor_comm 2197175160, Nat.xor_assoc, Nat.xor_self, Nat.xor_zero]
theorem halvesN_xor : ∀ (n a b : Nat), halvesN n (a ^^^ b) = halvesN n a ^^^ halvesN n b
  | 0, _, _ => rfl
  | n + 1, a, b => by simp only [halvesN]; rw [halveN_xor, halvesN_xor n]
theorem halveN_two (x : Nat) : halveN (2 * x) = x := by unfold halveN; rw [if_neg (by omega)]; omega
theorem halvesN_pow : ∀ (n x : Nat), halvesN n (2 ^ n * x) = x
  | 0, x => by simp [halvesN]
  | n + 1, x => by
    simp only [halvesN]
    rw [show 2 ^ (n + 1) * x = 2 * (2 ^ n * x) by rw [Nat.pow_succ, Nat.mul_comm (2 ^ n) 2, Nat.mul_assoc], halveN_two, halvesN_pow n x]
theorem halvesN_add : ∀ (m n x : Nat), halvesN (m + n) x = halvesN n (halvesN m x)
  | 0, n, x => by simp [halvesN]
  | m + 1, n, x => by rw [Nat.add_right_comm]; simp only [halvesN]; exact halvesN_add m n _
theorem halveN_lt {x : Nat} (h : x < 2 ^ 32) : halveN x < 2 ^ 32 := by
  unfold halveN
  split
  · exact Nat.xor_lt_two_pow (by omega) (by omega)
  · omega
theorem halvesN_lt : ∀ (n : Nat) {x : Nat}, x < 2 ^ 32 → halvesN n x < 2 ^ 32
  | 0, _, h => h
  | n + 1, _, h => halvesN_lt n (halveN_lt h)
theorem xor_zero_iff {a b : Nat} : a ^^^ b = 0 ↔ a = b := by
  constructor
  · intro h
    have := congrArg (fun y => y ^^^ b) h
    rwa [Nat.xor_assoc, Nat.xor_self, Nat.xor_zero, Nat.zero_xor] at this
  · rintro rfl; exact Nat.xor_self _
theorem halveN_ne {x : Nat} (h : x < 2 ^ 32) (h0 : x ≠ 0) : halveN x ≠ 0 := by
  unfold halveN
  split
  · intro hx
    have := xor_zero_iff.1 hx
    omega
  · omega
theorem halvesN_ne : ∀ (n : Nat) {x : Nat}, x < 2 ^ 32 → x ≠ 0 → halvesN n x ≠ 0
  | 0, _, _, h0 => h0
  | n + 1, _, h, h0 => halvesN_ne n (halveN_lt h) (halveN_ne h h0)
theorem halvesN_inj {n x y : Nat} (hx : x < 2 ^ 32) (hy : y < 2 ^ 32) (h : halvesN n x = halvesN n y) : x = y := by
  by_cases e : x ^^^ y = 0
  · exact xor_zero_iff.1 e
  · refine absurd ?_ (halvesN_ne n (Nat.xor_lt_two_pow hx hy) e)
    rw [halvesN_xor, h, Nat.xor_self]
theorem moreN_eq : ∀ (l : List Int) (s : Nat), moreN s l = halvesN (8 * l.length) (s ^^^ numLE l)
  | [], s => by simp [moreN, numLE, halvesN]
  | c :: l, s => by
    have ih := moreN_eq l (halvesN 8 (s ^^^ c.toNat))
    have e : moreN s (c :: l) = moreN (halvesN 8 (s ^^^ c.toNat)) l := rfl
    rw [e, ih, numLE, List.length_cons, show 8 * (l.length + 1) = 8 + 8 * l.length by omega, halvesN_add, ← Nat.xor_assoc, halvesN_xor 8 _ (256 * _), show 256 * numLE l = 2 ^ 8 * numLE l from rfl, halvesN_pow]
theorem moreN_append (s : Nat) (a b : List Int) : moreN s (a ++ b) = moreN (moreN s a) b := by simp [moreN]
theorem moreN_lt {s : Nat} (hs : s < 2 ^ 32) : ∀ {l : List Int}, (∀ c ∈ l, c.toNat < 2 ^ 32) → moreN s l < 2 ^ 32 := by
  intro l
  induction l generalizing s with
  | nil => intro _; exact hs
  | cons c l ih => intro h; exact ih (halvesN_lt 8 (Nat.xor_lt_two_pow hs (h c (by simp)))) fun d hd => h d (by simp [hd])
/-- Is the last four bytes' number the sum of what is ahead? -/
def wholeN (l : List Int) : Prop := moreN 4294967295 l = halvesN 32 4294967295
theorem whole_iff (a t : List Int) (ha : ∀ c ∈ a, c.toNat < 2 ^ 32) (ht : t.length = 4) (hn : numLE t < 2 ^ 32) :
    numLE t = 4294967295 ^^^ moreN 4294967295 a ↔ wholeN (a ++ t) := by
  unfold wholeN
  rw [moreN_append, moreN_eq t, ht]
  have h1 : moreN 4294967295 a < 2 ^ 32 := moreN_lt (by decide) ha
  constructor
  · intro h; rw [h, Nat.xor_comm 4294967295, ← Nat.xor_assoc, Nat.xor_self, Nat.zero_xor]
  · intro h
    have := halvesN_inj (Nat.xor_lt_two_pow h1 hn) (by decide) h
    have h2 := congrArg (fun y => moreN 4294967295 a ^^^ y) this
    rw [← Nat.xor_assoc, Nat.xor_self, Nat.zero_xor] at h2
    rw [h2, Nat.xor_comm]
/-- A burst is found. -/
theorem burst (s s' : List Int) (p x : Nat) (hl : s'.length = s.length) (hn : numLE s' = numLE s ^^^ x * 2 ^ p) (hp : p ≤ 8 * s.length) (hx : x < 2 ^ 32) (h0 : x ≠ 0) (hw : wholeN s) : ¬ wholeN s' := by
  unfold wholeN at *
  rw [moreN_eq] at *
  rw [hl, hn, ← Nat.xor_assoc, halvesN_xor, hw]
  have h1 : halvesN (8 * s.length) (x * 2 ^ p) ≠ 0 := by
    rw [show 8 * s.length = p + (8 * s.length - p) by omega, halvesN_add, Nat.mul_comm x, halvesN_pow]
    exact halvesN_ne _ hx h0
  intro h
  apply h1
  have := congrArg (fun y => halvesN 32 4294967295 ^^^ y) h
  rwa [← Nat.xor_assoc, Nat.xor_self, Nat.zero_xor] at this
/-- Four halvings at once, by a table. -/
def tabN : List Nat := [0x00000000, 0x105EC76F, 0x20BD8EDE, 0x30E349B1, 0x417B1DBC, 0x5125DAD3, 0x61C69362, 0x7198540D, 0x82F63B78, 0x92A8FC17, 0xA24BB5A6, 0xB21572C9, 0xC38D26C4, 0xD3D3E1AB, 0xE330A81A, 0xF36E6F75]
theorem halves4 (x : Nat) : halvesN 4 x = x / 16 ^^^ tabN.getD (x % 16) 0 := by
  have e : x = 2 ^ 4 * (x / 16) ^^^ x % 16 := by
    apply Nat.eq_of_testBit_eq
    intro i
    rw [Nat.testBit_xor, show x / 16 = x / 2 ^ 4 from rfl, show x % 16 = x % 2 ^ 4 from rfl, Nat.mul_comm, ← Nat.shiftLeft_eq, Nat.testBit_shiftLeft, Nat.testBit_div_two_pow, Nat.testBit_mod_two_pow]
    by_cases h : i < 4
    · simp [h, show ¬ 4 ≤ i from by omega]
    · simp [h, show 4 ≤ i from by omega, show i - 4 + 4 = i from by omega]
  conv => lhs; rw [e]
  rw [halvesN_xor, halvesN_pow]
  congr 1
  have h : ∀ r : Fin 16, halvesN 4 r.val = tabN.getD r.val 0 := by decide
  exact h ⟨x % 16, Nat.mod_lt _ (by decide)⟩
end Go.Proofs.YtkjdfelmjanpcaaDoor
