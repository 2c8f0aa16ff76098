/- Whole; and the laws' example. -/
import Derived.Test.YtkjdfelmjanpcaaDoorSum
import Derived.Lib.SlBytesConst
namespace Go.Proofs.YtkjdfelmjanpcaaDoor
open Go.RowKit
theorem quietN {P : Program} {f : FuncId} {args : Array Value} {w : World} {n : Nat} {v : Value} (h : Calls P f args (w.drewN n) fun e w' => e = .returned v ∧ w.drewN n = w') :
    Calls P f args (w.drewN n) fun e w'' => e = .returned v ∧ ∃ m, w'' = w.drewN m :=
  h.mono fun _ _ ⟨he, hm⟩ => ⟨he, n, hm.symm⟩
theorem xor_low (a b k : Nat) (hb : b < 2 ^ k) : b ^^^ 2 ^ k * a = 2 ^ k * a + b := by
  apply Nat.eq_of_testBit_eq
  intro i
  rw [Nat.testBit_xor, Nat.testBit_two_pow_mul_add _ hb, Nat.mul_comm, ← Nat.shiftLeft_eq, Nat.testBit_shiftLeft]
  by_cases h : i < k
  · simp [h, show ¬ k ≤ i from by omega]
  · have : b.testBit i = false := Nat.testBit_lt_two_pow (Nat.lt_of_lt_of_le hb (Nat.pow_le_pow_right (by omega) (by omega)))
    simp [h, this, show k ≤ i from by omega]
theorem numLE_cons (c : Int) (l : List Int) (h0 : 0 ≤ c) (h1 : c ≤ 255) : numLE (c :: l) = 256 * numLE l + c.toNat := by
  rw [numLE]
  exact xor_low _ _ 8 (by omega)
theorem four_of {l : List Int} (h : l.length = 4) (ho : okB l) : ∃ a b c d : Nat, a < 256 ∧ b < 256 ∧ c < 256 ∧ d < 256 ∧ l = [(a : Int), (b : Int), (c : Int), (d : Int)] := by
  match l, h with
  | [a, b, c, d], _ =>
    have h1 := ho a (by simp)
    have h2 := ho b (by simp)
    have h3 := ho c (by simp)
    have h4 := ho d (by simp)
    refine ⟨a.toNat, b.toNat, c.toNat, d.toNat, by omega, by omega, by omega, by omega, ?_⟩
    rw [Int.toNat_of_nonneg h1.1, Int.toNat_of_nonneg h2.1, Int.toNat_of_nonneg h3.1, Int.toNat_of_nonneg h4.1]
theorem numLE_four {a b c d : Nat} (ha : a < 256) (hb : b < 256) (hc : c < 256) (hd : d < 256) : numLE [(a : Int), (b : Int), (c : Int), (d : Int)] = a + 256 * b + 65536 * c + 16777216 * d := by
  rw [numLE_cons _ _ (by omega) (by omega), numLE_cons _ _ (by omega) (by omega), numLE_cons _ _ (by omega) (by omega), numLE_cons _ _ (by omega) (by omega), numLE]
  simp only [Int.toNat_natCast]
  omega
theorem numBE_four (a b c d : Nat) : numBE [(a : Int), (b : Int), (c : Int), (d : Int)] = ((a * 16777216 + b * 65536 + c * 256 + d : Nat) : Int) := by
  simp only [numBE, List.foldl_cons, List.foldl_nil]
  omega
theorem leB_four {a b c d : Nat} (ha : a < 256) (hb : b < 256) (hc : c < 256) (_ : d < 256) : leB (a + 256 * b + 65536 * c + 16777216 * d) = [(a : Int), (b : Int), (c : Int), (d : Int)] := by
  obtain ⟨r1, r2, r3, r4⟩ := bytes4 ha hb hc (x := a + 256 * b + 65536 * c + 16777216 * d) rfl
  unfold leB
  rw [r1, r2, r3, r4]
theorem rev_last {l : List Int} (h : l.length = 4) (ho : okB l) : revN (numBE l).toNat = numLE l ∧ (numBE l).toNat < 4294967296 ∧ numBE l = (((numBE l).toNat : Nat) : Int) ∧ numLE l < 4294967296 ∧ leB (numLE l) = l := by
  obtain ⟨a, b, c, d, ha, hb, hc, hd, rfl⟩ := four_of h ho
  rw [numBE_four, numLE_four ha hb hc hd, Int.toNat_natCast, leB_four ha hb hc hd]
  obtain ⟨r1, r2, r3, r4⟩ := bytes4 (a := d) (b := c) (c := b) (d := a) hd hc hb (x := a * 16777216 + b * 65536 + c * 256 + d) (by omega)
  refine ⟨?_, by omega, rfl, by omega, rfl⟩
  unfold revN
  rw [r1, r2, r3, r4]
  omega
theorem numLE_leB (x : Nat) (hx : x < 4294967296) : numLE (leB x) = x := by
  obtain ⟨a, b, c, d, ha, hb, hc, hd, hxe⟩ : ∃ a b c d : Nat, a < 256 ∧ b < 256 ∧ c < 256 ∧ d < 256 ∧ x = a + 256 * b + 65536 * c + 16777216 * d :=
    ⟨x % 256, x / 256 % 256, x / 65536 % 256, x / 16777216, by omega, by omega, by omega, by omega, by omega⟩
  rw [hxe, leB_four ha hb hc hd, numLE_four ha hb hc hd]
/-- Whole bytes. -/
def wholeB (t : List Int) : Bool := decide (4 ≤ t.length) && (numLE (t.drop (t.length - 4)) == ofN (t.take (t.length - 4)))
theorem wholeB_iff {t : List Int} (ho : okB t) (hl : 4 ≤ t.length) : wholeB t = true ↔ wholeN t := by
  have h4 : (t.drop (t.length - 4)).length = 4 := by rw [List.length_drop]; omega
  have h := whole_iff (t.take (t.length - 4)) (t.drop (t.length - 4)) (okB_lt (ho.take _)) h4 (rev_last h4 (ho.drop _)).2.2.2.1
  rw [List.take_append_drop] at h
  rw [← h]
  unfold wholeB ofN
  simp [hl]
theorem whole_seal {l : List Int} (ho : okB l) : wholeB (sealL l) = true := by
  have h4 : (leB (ofN l)).length = 4 := rfl
  have e : (sealL l).length - 4 = l.length := by unfold sealL; rw [List.length_append, h4]; omega
  unfold wholeB
  rw [e]
  unfold sealL
  rw [List.take_left', List.drop_left', numLE_leB _ (ofN_lt ho)] <;> simp [h4]
theorem Env.drewN {w : World} (h : Env w) (n : Nat) : Env (w.drewN n) := ⟨h.lt, h.tab⟩
set_option maxHeartbeats 2000000 in
theorem whole_any (v : Value) (t : List Int) (w : World) (h : Sees w v t) (hok : okB t) (hl : t.length ≤ 100000000000000) (hE : Env w) :
    Calls Tryd.prog 74 #[v] w fun e w' => e = .returned (.bool (wholeB t)) ∧ Below w.heap.size w w' := by
  by_cases h4 : 4 ≤ t.length
  · obtain ⟨k, hk⟩ : ∃ k, t.length = k + 4 := ⟨t.length - 4, by omega⟩
    have ht4 : (t.drop k).length = 4 := by rw [List.length_drop]; omega
    obtain ⟨q1, q2, q3, -, -⟩ := rev_last ht4 (hok.drop k)
    have HV : Hid ((((revN (numBE (t.drop k)).toNat : Nat) : Int) == ((ofN (t.take k) : Nat) : Int)) = wholeB t) := Lib.hid (by
      rw [q1]
      unfold wholeB
      rw [show t.length - 4 = k from by omega, Bool.eq_iff_iff]
      simp only [beq_iff_eq, h4, decide_true, Bool.true_and]
      omega)
    have HU : Hid (rdU (some (t.drop k)) 4 = (((((numBE (t.drop k)).toNat : Nat) : Int)), some [])) := Lib.hid (by
      have e1 : (t.drop k).take 4 = t.drop k := List.take_of_length_le (by omega)
      have e2 : (t.drop k).drop 4 = [] := List.drop_eq_nil_of_le (by omega)
      have h2 : rdB (some (t.drop k)) 4 = (t.drop k, some []) := by
        have h3 := rdB_yes (l := t.drop k) (n := 4) (by omega)
        rw [e1, e2] at h3
        exact h3
      unfold rdU
      rw [if_pos (by decide), h2, ← q3])
    have HT := Lib.hid (hok.take k)
    have HD := Lib.hid (hok.drop k)
    obtain ⟨ao, c, rfl, hlc, hnil, hc⟩ := h
    obtain ⟨a, rfl⟩ : ∃ a, ao = some a := by
      cases ao with
      | none => rw [hnil rfl] at h4; simp at h4
      | some a => exact ⟨a, rfl⟩
    rw [hk] at hlc hc ⊢
    have S1 : Hid (Sees w (.slice (some a) k c) (t.take k)) := Lib.hid (by
      have e : (t.take k).length = k := by rw [List.length_take]; omega
      refine ⟨some a, c, by rw [e], by omega, (fun h => by cases h), fun b hb i hi => ?_⟩
      cases hb
      rw [e] at hi
      rw [hc a rfl i (by omega)]
      simp only [List.getD, List.getElem?_take, if_pos hi])
    have S2 : Hid (Sees w (.slice (some (a.add k)) 4 (c - k)) (t.drop k)) := Lib.hid (by
      refine ⟨some (a.add k), c - k, by rw [ht4], by omega, (fun h => by cases h), fun b hb i hi => ?_⟩
      cases hb
      rw [ht4] at hi
      rw [Addr.add_add, hc a rfl (k + i) (by omega)]
      simp [List.getD, List.getElem?_drop])
    have HN := Lib.hid (new_any (.slice (some (a.add k)) 4 (c - k)) (t.drop k) w S2.out HD.out (by omega))
    have q4 : (numBE (t.drop k)).toNat < 4294967296 := q2
    obtain ⟨M, hM⟩ : ∃ M, M = (numBE (t.drop k)).toNat := ⟨_, rfl⟩
    rw [← hM] at q4 HV HU
    have HR := Lib.hid (fun w => rev_any M q4 w)
    have s0 : IntKind.i64.wrap (((k + 4 : Nat) : Int) - 4) = k := by rw [show ((k + 4 : Nat) : Int) - 4 = k from by omega]; exact IntWalk.i64_in _ (by omega)
    have s1 : IntKind.u32.wrap (M : Int) = M := IntWalk.u32_in _ (by omega)
    have d0 : decide ((k : Int) < 0) = false := by simp
    have hne : ¬ c = k := by omega
    clear hM q1 q2 q3 hc hok h4
    go_enter Tryd.func74, Tryd.ntmps74
    go_wp2_with fail
    refine HN.out.mono ?_; rintro e w1 ⟨g, rfl, hr1, hg1, hb1⟩
    go_wp2_with fail
    refine (u_any g g _ 4 _ hr1).mono ?_; rintro e w2 ⟨rfl, -, hg2⟩
    rw [HU.out]
    have hb2 := hb1.grown hg2 hb1.size (fun j hj => by cases hj; exact hg1)
    have hs2 := S1.out.keep hb2
    have hE2 := hE.below hb2
    have HQ := Lib.hid (fun n => of_any _ _ (w2.drewN n) hs2 HT.out (by rw [List.length_take]; omega) (hE2.drewN n))
    clear hs2
    have b1 : k ≤ c := by omega
    have b2 : ¬ c < k := by omega
    have b3 : (k : Int) ≤ (c : Int) := by omega
    have b4 : ¬ (c : Int) < (k : Int) := by omega
    go_wp2_with fail
    go_quiet ((first | (go_at_call 86; exact quietN (HR.out _)) | (go_at_call 83; exact quietN (HQ.out _))))
    go_wp2
    go_ret
    exact ⟨congrArg (fun b => Ending.returned (.bool b)) HV.out, below_drewN hb2 _⟩
  · have HV : Hid (false = wholeB t) := Lib.hid (by unfold wholeB; simp [h4])
    have s0 : IntKind.i64.wrap ((t.length : Int) - 4) = t.length - 4 := IntWalk.i64_in _ (by omega)
    have d0 : decide ((t.length : Int) - 4 < 0) = true := by simp; omega
    obtain ⟨ao, c, rfl, _⟩ := h
    go_enter Tryd.func74, Tryd.ntmps74
    go_wp2_with fail
    go_ret
    exact ⟨congrArg (fun b => Ending.returned (.bool b)) HV.out, Below.refl _ _⟩
theorem of9 : ofN [49, 50, 51, 52, 53, 54, 55, 56, 57] = 3808858755 := by decide +kernel
end Go.Proofs.YtkjdfelmjanpcaaDoor
