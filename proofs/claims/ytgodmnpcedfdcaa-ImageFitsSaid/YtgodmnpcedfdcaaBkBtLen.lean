/- Package bits: Len: the library's OnesCount64. -/
import Derived.Test.YtgodmnpcedfdcaaBkBtPop
namespace Go.Proofs.Ytgodmnpcedfdcaa
open Go.RowKit
theorem byte8_bd (x : Nat) (hx : x < M64) : ∃ p0 p1 p2 p3 p4 p5 p6 p7 : Nat, (by8 x).map pop8 = [p0, p1, p2, p3, p4, p5, p6, p7] ∧ p0 ≤ 8 ∧ p1 ≤ 8 ∧ p2 ≤ 8 ∧ p3 ≤ 8 ∧ p4 ≤ 8 ∧ p5 ≤ 8 ∧ p6 ≤ 8 ∧ p7 ≤ 8 := by
  have h := by8_bd hx
  have hp : ∀ b ∈ by8 x, pop8 b ≤ 8 := fun b hb => (pop8_t ⟨b, h b hb⟩).2
  unfold by8 at hp ⊢
  refine ⟨_, _, _, _, _, _, _, _, rfl, ?_, ?_, ?_, ?_, ?_, ?_, ?_, ?_⟩ <;> exact hp _ (by simp)
theorem d1 {p T : Nat} (h : p < 256) : (p + 256 * T) / 256 = T := by omega
theorem d2 {a b T : Nat} (h : a < 256) (k : b < 256) : (a + 256 * (b + 256 * T)) / 65536 = T := by omega
theorem d4 {a b c d T : Nat} (h : a < 256) (k : b < 256) (l : c < 256) (m : d < 256) : (a + 256 * (b + 256 * (c + 256 * (d + 256 * T)))) / 4294967296 = T := by omega
theorem r1 {p T : Nat} (h : p < 128) : (p + 256 * T) % 128 = p := by omega
theorem val_add : ∀ (l m : List Nat), l.length = m.length → val l + val m = val (List.zipWith (· + ·) l m)
  | [], [], _ => rfl
  | a :: l, b :: m, h => by
    have ih := val_add l m (by simpa using h)
    show (a + 256 * val l) + (b + 256 * val m) = (a + b) + 256 * val (List.zipWith (· + ·) l m)
    omega
theorem val_snoc0 : ∀ l : List Nat, val (l ++ [0]) = val l
  | [] => rfl
  | a :: l => by
    have ih := val_snoc0 l
    show a + 256 * val (l ++ [0]) = a + 256 * val l
    rw [ih]
theorem val_le (k : Nat) : ∀ l : List Nat, (∀ b ∈ l, b ≤ k) → val l ≤ k * msk 1 l
  | [], _ => Nat.zero_le _
  | b :: l, h => by
    have ih := val_le k l (fun x hx => h x (by simp [hx]))
    have hb := h b (by simp)
    show b + 256 * val l ≤ k * (1 + 256 * msk 1 l)
    rw [Nat.mul_add, Nat.mul_one, show k * (256 * msk 1 l) = 256 * (k * msk 1 l) by rw [Nat.mul_left_comm]]
    omega
theorem val8_le (k : Nat) (l : List Nat) (hl : l.length = 8) (h : ∀ b ∈ l, b ≤ k) : val l ≤ k * 72340172838076673 := by
  have := val_le k l h
  rw [msk8 1 l hl, Nat.one_mul] at this
  exact this
theorem lt63 {l : List Nat} (hl : l.length = 8) (h : ∀ b ∈ l, b ≤ 127) : val l < 9223372036854775808 := by
  have := val8_le 127 l hl h
  omega
theorem mem8 {a b c d e f g i k : Nat} (h : a ≤ k ∧ b ≤ k ∧ c ≤ k ∧ d ≤ k ∧ e ≤ k ∧ f ≤ k ∧ g ≤ k ∧ i ≤ k) : ∀ x ∈ [a, b, c, d, e, f, g, i], x ≤ k := by
  intro x hx
  simp only [List.mem_cons, List.not_mem_nil, or_false] at hx
  obtain ⟨h0, h1, h2, h3, h4, h5, h6, h7⟩ := h
  rcases hx with rfl | rfl | rfl | rfl | rfl | rfl | rfl | rfl <;> assumption
/-- The last three sums: the eight counts together. -/
theorem fold8 {p0 p1 p2 p3 p4 p5 p6 p7 : Nat} (h0 : p0 ≤ 8) (h1 : p1 ≤ 8) (h2 : p2 ≤ 8) (h3 : p3 ≤ 8) (h4 : p4 ≤ 8) (h5 : p5 ≤ 8) (h6 : p6 ≤ 8) (h7 : p7 ≤ 8) :
    ∃ X Y Z V : Nat, val [p0, p1, p2, p3, p4, p5, p6, p7] = X ∧ X + X / 256 = Y ∧ Y + Y / 65536 = Z ∧ Z + Z / 4294967296 = V ∧ V < 9223372036854775808 ∧ Y < 9223372036854775808 ∧ Z < 9223372036854775808 ∧ X < 9223372036854775808 ∧ V % 128 = p0 + p1 + p2 + p3 + p4 + p5 + p6 + p7 := by
  have f1 : val [p0, p1, p2, p3, p4, p5, p6, p7] + val [p0, p1, p2, p3, p4, p5, p6, p7] / 256 = val [p0 + p1, p1 + p2, p2 + p3, p3 + p4, p4 + p5, p5 + p6, p6 + p7, p7 + 0] := by
    rw [show val [p0, p1, p2, p3, p4, p5, p6, p7] / 256 = val [p1, p2, p3, p4, p5, p6, p7] from d1 (by omega), ← val_snoc0 [p1, p2, p3, p4, p5, p6, p7]]
    exact val_add _ _ rfl
  have f2 : val [p0 + p1, p1 + p2, p2 + p3, p3 + p4, p4 + p5, p5 + p6, p6 + p7, p7 + 0] + val [p0 + p1, p1 + p2, p2 + p3, p3 + p4, p4 + p5, p5 + p6, p6 + p7, p7 + 0] / 65536 = val [p0 + p1 + (p2 + p3), p1 + p2 + (p3 + p4), p2 + p3 + (p4 + p5), p3 + p4 + (p5 + p6), p4 + p5 + (p6 + p7), p5 + p6 + (p7 + 0), p6 + p7 + 0, p7 + 0 + 0] := by
    rw [show val [p0 + p1, p1 + p2, p2 + p3, p3 + p4, p4 + p5, p5 + p6, p6 + p7, p7 + 0] / 65536 = val [p2 + p3, p3 + p4, p4 + p5, p5 + p6, p6 + p7, p7 + 0] from d2 (by omega) (by omega), ← val_snoc0 [p2 + p3, p3 + p4, p4 + p5, p5 + p6, p6 + p7, p7 + 0], ← val_snoc0 ([p2 + p3, p3 + p4, p4 + p5, p5 + p6, p6 + p7, p7 + 0] ++ [0])]
    exact val_add _ _ rfl
  have f3 : val [p0 + p1 + (p2 + p3), p1 + p2 + (p3 + p4), p2 + p3 + (p4 + p5), p3 + p4 + (p5 + p6), p4 + p5 + (p6 + p7), p5 + p6 + (p7 + 0), p6 + p7 + 0, p7 + 0 + 0] + val [p0 + p1 + (p2 + p3), p1 + p2 + (p3 + p4), p2 + p3 + (p4 + p5), p3 + p4 + (p5 + p6), p4 + p5 + (p6 + p7), p5 + p6 + (p7 + 0), p6 + p7 + 0, p7 + 0 + 0] / 4294967296 =
      val [p0 + p1 + (p2 + p3) + (p4 + p5 + (p6 + p7)), p1 + p2 + (p3 + p4) + (p5 + p6 + (p7 + 0)), p2 + p3 + (p4 + p5) + (p6 + p7 + 0), p3 + p4 + (p5 + p6) + (p7 + 0 + 0), p4 + p5 + (p6 + p7) + 0, p5 + p6 + (p7 + 0) + 0, p6 + p7 + 0 + 0, p7 + 0 + 0 + 0] := by
    rw [show val [p0 + p1 + (p2 + p3), p1 + p2 + (p3 + p4), p2 + p3 + (p4 + p5), p3 + p4 + (p5 + p6), p4 + p5 + (p6 + p7), p5 + p6 + (p7 + 0), p6 + p7 + 0, p7 + 0 + 0] / 4294967296 = val [p4 + p5 + (p6 + p7), p5 + p6 + (p7 + 0), p6 + p7 + 0, p7 + 0 + 0] from d4 (by omega) (by omega) (by omega) (by omega),
      ← val_snoc0 [p4 + p5 + (p6 + p7), p5 + p6 + (p7 + 0), p6 + p7 + 0, p7 + 0 + 0], ← val_snoc0 ([p4 + p5 + (p6 + p7), p5 + p6 + (p7 + 0), p6 + p7 + 0, p7 + 0 + 0] ++ [0]), ← val_snoc0 ([p4 + p5 + (p6 + p7), p5 + p6 + (p7 + 0), p6 + p7 + 0, p7 + 0 + 0] ++ [0] ++ [0]), ← val_snoc0 ([p4 + p5 + (p6 + p7), p5 + p6 + (p7 + 0), p6 + p7 + 0, p7 + 0 + 0] ++ [0] ++ [0] ++ [0])]
    exact val_add _ _ rfl
  refine ⟨_, _, _, _, rfl, f1, f2, f3, lt63 rfl (mem8 ?_), lt63 rfl (mem8 ?_), lt63 rfl (mem8 ?_), lt63 rfl (mem8 ?_), ?_⟩
  · omega
  · omega
  · omega
  · omega
  · have h := r1 (p := p0 + p1 + (p2 + p3) + (p4 + p5 + (p6 + p7))) (T := val [p1 + p2 + (p3 + p4) + (p5 + p6 + (p7 + 0)), p2 + p3 + (p4 + p5) + (p6 + p7 + 0), p3 + p4 + (p5 + p6) + (p7 + 0 + 0), p4 + p5 + (p6 + p7) + 0, p5 + p6 + (p7 + 0) + 0, p6 + p7 + 0 + 0, p7 + 0 + 0 + 0]) (by omega)
    refine h.trans (by omega)
theorem t1sum : ∀ b : Fin 256, t1 b.val ≤ 170 ∧ t2 (t1 b.val) ≤ 68 := by decide +kernel
theorem w12_lt {x : Nat} (hx : x < M64) : w1 x < 12297829382473034412 ∧ w2 x < 4919131752989213765 := by
  have a := val8_le 170 ((by8 x).map t1) rfl (fun b hb => by
    obtain ⟨y, hy, rfl⟩ := List.mem_map.1 hb
    exact (t1sum ⟨y, by8_bd hx y hy⟩).1)
  have b := val8_le 68 ((by8 x).map fun b => t2 (t1 b)) rfl (fun b hb => by
    obtain ⟨y, hy, rfl⟩ := List.mem_map.1 hb
    exact (t1sum ⟨y, by8_bd hx y hy⟩).2)
  exact ⟨Nat.lt_of_le_of_lt a (by decide), Nat.lt_of_le_of_lt b (by decide)⟩
end Go.Proofs.Ytgodmnpcedfdcaa
