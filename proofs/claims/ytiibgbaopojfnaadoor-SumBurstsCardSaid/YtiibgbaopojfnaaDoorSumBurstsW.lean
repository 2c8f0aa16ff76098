/- The walk of SumBursts: a burst within 32 bits is always found. -/
import Derived.Test.YtiibgbaopojfnaaDoorSumW
namespace Go.Proofs.YtiibgbaopojfnaaDoor
open Go.RowKit
theorem mul_xor (k a b : Nat) : 2 ^ k * (a ^^^ b) = 2 ^ k * a ^^^ 2 ^ k * b := by
  apply Nat.eq_of_testBit_eq
  intro i
  rw [Nat.testBit_xor, Nat.mul_comm, Nat.mul_comm _ a, Nat.mul_comm _ b, ← Nat.shiftLeft_eq, ← Nat.shiftLeft_eq, ← Nat.shiftLeft_eq, Nat.testBit_shiftLeft, Nat.testBit_shiftLeft, Nat.testBit_shiftLeft, Nat.testBit_xor]
  by_cases h : i ≥ k <;> simp [h]
theorem numLE_set (m : Nat) : ∀ (l : List Int) (j : Nat), j < l.length → numLE (l.set j ((((l.getD j 0).toNat ^^^ m : Nat)) : Int)) = numLE l ^^^ m * 2 ^ (8 * j)
  | c :: l, 0, _ => by
    simp only [List.set_cons_zero, numLE, List.getD_cons_zero, Int.toNat_natCast, Nat.mul_zero, Nat.pow_zero, Nat.mul_one]
    rw [Nat.xor_assoc, Nat.xor_comm m, Nat.xor_assoc]
  | c :: l, j + 1, h => by
    have ih := numLE_set m l j (by simpa using h)
    simp only [List.set_cons_succ, numLE, List.getD_cons_succ]
    rw [ih, show (256 : Nat) = 2 ^ 8 from rfl, mul_xor, ← Nat.xor_assoc, Nat.mul_left_comm, ← Nat.pow_add, show 8 + 8 * j = 8 * (j + 1) from by omega]
theorem okB_set {l : List Int} (h : okB l) (j m : Nat) (hm : m < 256) : okB (l.set j ((((l.getD j 0).toNat ^^^ m : Nat)) : Int)) := fun x hx => by
  rcases List.mem_or_eq_of_mem_set hx with hx | rfl
  · exact h x hx
  · have h1 : (l.getD j 0).toNat < 256 := by
      rcases Nat.lt_or_ge j l.length with hj | hj
      · have := getD_ok h hj; omega
      · simp [List.getD, List.getElem?_eq_none hj]
    have := Nat.xor_lt_two_pow (n := 8) h1 hm
    omega
/-- The next bit of the burst. -/
theorem burst_step {b k from' N : Nat} (hodd : b / 2 ^ k % 2 = 1) : N ^^^ (b % 2 ^ k) * 2 ^ from' ^^^ 2 ^ (from' + k) = N ^^^ (b % 2 ^ (k + 1)) * 2 ^ from' := by
  have e : b % 2 ^ (k + 1) = 2 ^ k * 1 + b % 2 ^ k := by
    rw [Nat.pow_succ, Nat.mod_mul, hodd, Nat.add_comm]
  have hx := xor_low 1 (b % 2 ^ k) k (Nat.mod_lt _ (Nat.two_pow_pos k))
  rw [e, ← hx, Nat.xor_assoc, Nat.mul_one, Nat.mul_comm _ (2 ^ from'), Nat.mul_comm _ (2 ^ from'), mul_xor, ← Nat.pow_add]
theorem burst_skip {b k : Nat} (heven : b / 2 ^ k % 2 ≠ 1) : b % 2 ^ (k + 1) = b % 2 ^ k := by
  rw [Nat.pow_succ, Nat.mod_mul, show b / 2 ^ k % 2 = 0 from by omega, Nat.mul_zero, Nat.add_zero]
/-- k bits of the burst are turned. -/
def Turned (Z : List Int) (X F k : Nat) (Y : List Int) : Prop := okB Y ∧ Y.length = Z.length ∧ numLE Y = numLE Z ^^^ (X % 2 ^ k) * 2 ^ F
def bitAt (X k : Nat) : Bool := X / 2 ^ k % 2 == 1
set_option maxRecDepth 20000 in
set_option maxHeartbeats 4000000 in
theorem lawBursts (w : World) (b : Value) (xs : List Int) (p x : Int) (h : Sees w b xs) (hok : okB xs) (hm : xs.length ≤ maxLen) (p0 : 0 ≤ p) (p1 : p < 65536) (x0 : 0 ≤ x) (x1 : x < 4294967296) (hE : Env w) :
    Calls Tryd.prog 6 #[b, .int .u16 p, .int .u32 x] w fun e w' => e = .returned (.bool true) ∧ Below w.heap.size w w' := by
  obtain ⟨P, rfl⟩ := Int.eq_ofNat_of_zero_le p0
  obtain ⟨X, rfl⟩ := Int.eq_ofNat_of_zero_le x0
  have HF := Lib.hid (few_any b xs w h hm)
  obtain ⟨L, hL⟩ : ∃ L, L = xs.take 300 := ⟨_, rfl⟩
  have hLl : L.length ≤ 300 := by rw [hL, List.length_take]; omega
  have HO := Lib.hid (show okB L by rw [hL]; exact hok.take _)
  rw [← hL] at HF
  clear hL h hok hm
  obtain ⟨Z, hZ⟩ : ∃ Z, Z = sealL L := ⟨_, rfl⟩
  have hZl : Z.length = L.length + 4 := by rw [hZ]; unfold sealL; rw [List.length_append]; rfl
  have HZo : Hid (okB Z) := Lib.hid (by rw [hZ]; exact fun x hx => (List.mem_append.1 hx).elim (HO.out x) (okB_leB (ofN_lt HO.out) x))
  have HZw : Hid (wholeN Z) := Lib.hid ((wholeB_iff HZo.out (by omega)).1 (by rw [hZ]; exact whole_seal HO.out))
  have hn4 : 4 ≤ Z.length := by omega
  have hn3 : Z.length ≤ 304 := by omega
  have hZ0 : Z ≠ [] := fun hh => by rw [hh] at hn4; simp at hn4
  have HS := Lib.hid (fun v h => seal_any v L w h HO.out (by omega) hE)
  rw [← hZ] at HS
  clear hZ hZl hLl
  by_cases hx0 : X = 0
  · subst hx0
    have d4 : decide (4 ≤ (Z.length : Int)) = true := by simp; omega
    go_enter Tryd.func6, Tryd.ntmps6
    go_wp2_with fail
    refine HF.out.mono ?_; rintro e w0 ⟨v0, rfl, hs0, rfl⟩
    go_wp2_with fail
    refine (HS.out _ hs0).mono ?_; rintro e w1 ⟨vs, rfl, ho1, hb1⟩
    obtain ⟨g, c, rfl, hB, -, -, -, -⟩ := ho1.at hZ0
    go_wp2_with fail
    refine (awakeS_any _ (hE.below hb1)).mono ?_; rintro e w' ⟨rfl, hb2⟩
    go_wp2_with fail
    go_ret
    exact ⟨rfl, bel hb1 hb2⟩
  · have dX : ((X : Int) == 0) = false := by simp; omega
    have d4 : decide ((Z.length : Int) < 4) = false := by simp; omega
    have sP : IntKind.i64.wrap (P : Int) = P := IntWalk.i64_in _ (by omega)
    have s8 : IntKind.i64.wrap (8 * (Z.length : Int)) = 8 * Z.length := IntWalk.i64_in _ (by omega)
    obtain ⟨M, hM⟩ : ∃ M : Nat, M = 8 * Z.length - 31 := ⟨_, rfl⟩
    have hMz : (8 * (Z.length : Int) - 31) = (M : Int) := by omega
    have hMp : ((M : Int) == 0) = false := by simp; omega
    obtain ⟨F, hF⟩ : ∃ F : Nat, F = P % M := ⟨_, rfl⟩
    have hFl : F < M := by rw [hF]; exact Nat.mod_lt _ (by omega)
    have sF : (P : Int) % (M : Int) = (F : Int) := by rw [hF]; rfl
    have hFb : F + 32 ≤ 8 * Z.length := by omega
    have HM := Lib.hid hM
    clear hF hFl hM
    go_enter Tryd.func6, Tryd.ntmps6
    go_wp2_with fail
    refine HF.out.mono ?_; rintro e w0 ⟨v0, rfl, hs0, rfl⟩
    go_wp2_with fail
    refine (HS.out _ hs0).mono ?_; rintro e w1 ⟨vs, rfl, ho1, hb1⟩
    obtain ⟨g, c, rfl, hB, -, -, -, -⟩ := ho1.at hZ0
    go_wp2_with fail
    rw [sF]
    have HX0 := Lib.hid hx0
    have HBu : Hid (∀ Y, Turned Z X F 32 Y → wholeB Y = false) := Lib.hid fun Y ⟨hYo, hYl, hYn⟩ => by
      rw [Nat.mod_eq_of_lt (show X < 2 ^ 32 by omega)] at hYn
      have hw := burst Z Y F X hYl hYn (by omega) (by omega) hx0 HZw.out
      cases hb : wholeB Y with
      | false => rfl
      | true => exact absurd ((wholeB_iff hYo (by omega)).1 hb) hw
    have HAnd : Hid (∀ k : Nat, bits .and .u32 ((X : Int) / 2 ^ k) 1 = ((X / 2 ^ k % 2 : Nat) : Int)) := Lib.hid fun k => by
      have e : (X : Int) / 2 ^ k = ((X / 2 ^ k : Nat) : Int) := by simp
      have hlt : X / 2 ^ k < 4294967296 := Nat.lt_of_le_of_lt (Nat.div_le_self _ _) (by omega)
      rw [e, show (1 : Int) = ((1 : Nat) : Int) from rfl, u32_and_nat _ 1 hlt (by decide)]
      exact congrArg Nat.cast (Nat.and_two_pow_sub_one_eq_mod _ 1)
    have HN4 := Lib.hid hn4
    have HN3 := Lib.hid hn3
    clear hMz hMp sF s8 sP dX d4 p0 p1 hx0 x0 x1 hn4 hn3
    go_loopw [9] (fun j wr => ∃ k : Nat, k ≤ 32 ∧ j = .int .i64 k ∧ ∃ Y : List Int, Turned Z X F k Y ∧ wr.ownsRow w.heap.size 5 1 (.slice (some ⟨g, 0, none⟩) Z.length c) Z.length (cells8 Y) ∧ Below w.heap.size w wr)
      (fun j _ => 32 - (intOf j).toNat)
    case atStart => exact ⟨0, by omega, rfl, Z, ⟨HZo.out, rfl, by simp [Nat.mod_one]⟩, ho1, hb1⟩
    case round =>
      obtain ⟨k, hk, rfl, Y, ⟨hYo, hYl, hYn⟩, hown, hbel⟩ := hrel
      by_cases hlt : k < 32
      · have hn3 := HN3.out
        have hn4 := HN4.out
        have s1 : IntKind.u64.wrap (k : Int) = k := IntWalk.u64_in _ (by omega)
        have s2 : IntKind.i64.wrap ((F : Int) + k) = F + k := IntWalk.i64_in _ (by omega)
        obtain ⟨J, hJ⟩ : ∃ J : Nat, J = (F + k) / 8 := ⟨_, rfl⟩
        obtain ⟨r, hr⟩ : ∃ r : Nat, r = (F + k) % 8 := ⟨_, rfl⟩
        have hJl : J < Z.length := by omega
        have hr8 : r < 8 := by omega
        have eJ : ((F : Int) + k) / 8 = (J : Int) := by omega
        have er : ((F : Int) + k) % 8 = (r : Int) := by omega
        have hFk : (0 : Int) ≤ (F : Int) + k := by omega
        have hJb : -9223372036854775808 ≤ (J : Int) ∧ (J : Int) ≤ 9223372036854775807 := by omega
        have hrb : (0 : Int) ≤ (r : Int) ∧ (r : Int) ≤ 18446744073709551615 := by omega
        have HJ : Hid (8 * J + r = F + k) := Lib.hid (by omega)
        clear hJ hr
        have c0 : wr.cell? ⟨g, J, none⟩ = some (.int .u8 (Y.getD J 0)) := by
          rw [World.ownsRow.cellAt hown J (by omega), getD_cells (by omega)]
        have f0 := World.ownsRow.frozenAt hown J
        obtain ⟨y, hy⟩ : ∃ y, y = Y.getD J 0 := ⟨_, rfl⟩
        rw [← hy] at c0
        have hyb : 0 ≤ y ∧ y ≤ 255 := by rw [hy]; exact getD_ok hYo (by omega)
        have HY := Lib.hid hy
        clear hy hn3 hn4
        have HYn := Lib.hid hYn
        clear hYn
        have eJ3 : wrap64 (((F : Int) + k).tdiv 8) = (J : Int) := by rw [Int.tdiv_eq_ediv_of_nonneg hFk, eJ]; have h3 := IntWalk.i64_in (J : Int) hJb; exact (IntWalk.i64_left _).symm.trans h3
        have er2 : ((F : Int) + k).tmod 8 = (r : Int) := by rw [Int.tmod_eq_emod_of_nonneg hFk]; exact er
        have er4 : IntKind.u64.wrap (r : Int) = r := IntWalk.u64_in _ hrb
        clear hFk hJb hrb
        by_cases hodd : X / 2 ^ k % 2 = 1
        · have hA := HAnd.out k
          rw [hodd] at hA
          have HB := Lib.hid hodd
          clear hodd
          go_wp2
          go_roundw
          case rel =>
            clear eJ3 er2 er4 eJ er hA s1 s2
            have hJY : J < Y.length := by rw [hYl]; exact hJl
            have hv : bits .xor .u8 y (2 ^ r % 256) = (((Y.getD J 0).toNat ^^^ 2 ^ r : Nat) : Int) := by
              rw [← HY.out]
              have h2 : (2 : Nat) ^ r < 256 := Nat.lt_of_le_of_lt (Nat.pow_le_pow_right (by omega) (show r ≤ 7 by omega)) (by decide)
              have e : ((2 ^ r : Nat) : Int) = (2 : Int) ^ r := by simp
              rw [← e, Int.emod_eq_of_lt (Int.natCast_nonneg _) (show ((2 ^ r : Nat) : Int) < 256 from Int.ofNat_lt.2 h2), u8_xor _ _ hyb.1 (by omega) (Int.natCast_nonneg _) (show ((2 ^ r : Nat) : Int) < 256 from Int.ofNat_lt.2 h2), Int.toNat_natCast]
            have h2 : (2 : Nat) ^ r < 256 := Nat.lt_of_le_of_lt (Nat.pow_le_pow_right (by omega) (show r ≤ 7 by omega)) (by decide)
            have hst := World.ownsRow.stored hown J (.int .u8 (((Y.getD J 0).toNat ^^^ 2 ^ r : Nat) : Int))
            refine ⟨k + 1, hlt, by go_num, Y.set J (((Y.getD J 0).toNat ^^^ 2 ^ r : Nat) : Int), ⟨okB_set hYo J _ h2, by rw [List.length_set]; exact hYl, ?_⟩, ?_, ?_⟩
            · rw [numLE_set _ _ _ hJY, HYn.out, ← Nat.pow_add, Nat.add_comm r, HJ.out]
              exact burst_step HB.out
            · have h3 := hst.1
              rw [cells8, ← List.map_set] at h3
              rw [hv]
              exact h3
            · exact hbel.setCell (p := ⟨g, J, none⟩) hB _
          case measure => clear eJ3 er2 er4 eJ er hA s1 s2; simp [intOf]; omega
        · have hA := HAnd.out k
          rw [show X / 2 ^ k % 2 = 0 from (Nat.mod_two_eq_zero_or_one _).resolve_right hodd] at hA
          have HB := Lib.hid hodd
          clear hodd
          go_wp2
          go_roundw
          case rel => clear eJ3 er2 er4 eJ er hA s1 s2; exact ⟨k + 1, hlt, by go_num, Y, ⟨hYo, hYl, by rw [HYn.out, burst_skip HB.out]⟩, hown, hbel⟩
          case measure => clear eJ3 er2 er4 eJ er hA s1 s2; simp [intOf]; omega
      · obtain rfl : k = 32 := by omega
        have hW := HBu.out Y ⟨hYo, hYl, hYn⟩
        have hs : Sees wr (.slice (some ⟨g, 0, none⟩) Z.length c) Y := by
          have ho2 : Owns wr w.heap.size (.slice (some ⟨g, 0, none⟩) Z.length c) Y := by unfold Owns; rw [hYl]; exact hown
          exact ho2.sees
        have HQ := Lib.hid (whole_any _ Y wr hs hYo (by rw [hYl]; exact Nat.le_trans HN3.out (by decide)) (hE.below hbel))
        rw [hW] at HQ
        have HEb := Lib.hid (hE.below hbel)
        clear hYn hs hown hW hYo
        go_wp2_with fail
        refine HQ.out.mono ?_; rintro e w2 ⟨rfl, hb2⟩
        go_wp2_with fail
        refine (awakeS_any _ (HEb.out.below hb2)).mono ?_; rintro e w3 ⟨rfl, hb3⟩
        go_wp2_with fail
        go_ret
        exact ⟨rfl, bel (bel hbel hb2) hb3⟩
end Go.Proofs.YtiibgbaopojfnaaDoor
