/- Package recs: a pool, a node, an affinity, read out of any bytes. -/
import Derived.Test.YtcfmknocpjjklaaRcPut
import Derived.Deep.Cut
namespace Go.Proofs.Ytcfmknocpjjklaa
open Go.RowKit
abbrev pP : ByteArray := ⟨#[80]⟩
abbrev pN : ByteArray := ⟨#[78]⟩
abbrev pA : ByteArray := ⟨#[65]⟩
theorem three {w : World} {g : Nat} {a b : Int} {o : Bool} {t : TypeId} (h : w.heap[g]? = some (poolO a b o t)) : w.cell? ⟨g, 0, none⟩ = some (.int .u32 a) ∧ w.cell? ⟨g, 1, none⟩ = some (.int .i64 b) ∧ w.cell? ⟨g, 2, none⟩ = some (.bool o) ∧ w.frozen? ⟨g, 0, none⟩ = false ∧ w.frozen? ⟨g, 1, none⟩ = false ∧ w.frozen? ⟨g, 2, none⟩ = false := by simp [World.cell?, World.frozen?, h]
theorem pool_set {w : World} {g : Nat} {a b : Int} {o : Bool} {t : TypeId} (h : w.heap[g]? = some (poolO a b o t)) (x y : Int) (z : Bool) : (((w.setCell ⟨g, 0, none⟩ (.int .u32 x)).setCell ⟨g, 1, none⟩ (.int .i64 y)).setCell ⟨g, 2, none⟩ (.bool z)).heap[g]? = some (poolO x y z t) := by
  simp [World.setCell, Array.getElem?_modify]
  simp [h]
theorem heap_new (w : World) (o : Obj) : (w.alloc o).heap[w.heap.size]? = some o := by
  show (w.heap.push o)[w.heap.size]? = some o
  simp
theorem below_grown {w a b : World} {g : Nat} (h : Below w.heap.size w a) (k : a.grownBy b (some g)) (hg : w.heap.size ≤ g) : Below w.heap.size w b :=
  h.grown k h.size (fun d e => by have := Option.some.inj e; omega)
set_option maxRecDepth 100000 in
set_option maxHeartbeats 8000000 in
theorem readPool_core (s : ByteArray) (w : World) (x1 x2 x3 : Int) (st0 st1 st2 st3 : Option (List Int)) (S D R : Bool) (h1 : 0 ≤ x1) (h1' : x1 < 4294967296) (h2 : 0 ≤ x2) (h2' : x2 ≤ 255)
    (HB : Hid (∀ w, Calls Try.prog 30 #[.string pP, .string s] w fun e w' => ∃ g, e = .returned (.tuple #[.pointer (some ⟨g, 0, none⟩), .bool S]) ∧ RdP g g st0 w' ∧ w.heap.size ≤ g ∧ Below w.heap.size w w'))
    (HU1 : Hid (∀ g w, RdP g g st0 w → Calls Try.prog 31 #[.pointer (some ⟨g, 0, none⟩), .int .i64 4] w fun e w' => e = .returned (.int .u64 x1) ∧ RdP g g st1 w' ∧ w.grownBy w' (some g)))
    (HU2 : Hid (∀ g w, RdP g g st1 w → Calls Try.prog 31 #[.pointer (some ⟨g, 0, none⟩), .int .i64 1] w fun e w' => e = .returned (.int .u64 x2) ∧ RdP g g st2 w' ∧ w.grownBy w' (some g)))
    (HF : Hid (∀ g w, RdP g g st2 w → Calls Try.prog 32 #[.pointer (some ⟨g, 0, none⟩)] w fun e w' => e = .returned (.tuple #[.bool (x3 == 1), .bool (decide (x3 ≤ 1))]) ∧ RdP g g st3 w' ∧ w.grownBy w' (some g)))
    (HD : Hid (∀ g w, RdP g g st3 w → Calls Try.prog 33 #[.pointer (some ⟨g, 0, none⟩)] w fun e w' => e = .returned (.bool D) ∧ w = w'))
    (HR : Hid (∀ w, Calls Try.prog 9 #[.agg #[.int .u32 x1, .int .i64 x2, .bool (x3 == 1)]] w fun e w' => e = .returned (.bool R) ∧ Below w.heap.size w w')) :
    Calls Try.prog 12 #[.string s] w fun e w' => e = .returned (if (S && (decide (x3 ≤ 1) && (D && R))) = true then .tuple #[.agg #[.int .u32 x1, .int .i64 x2, .bool (x3 == 1)], .int .i64 0] else .tuple #[.agg #[.int .u32 0, .int .i64 0, .bool false], .int .i64 3]) ∧ Below w.heap.size w w' := by
  obtain ⟨W, hW⟩ : ∃ W, W = w.alloc (poolO 0 0 false 32) := ⟨_, rfl⟩
  have hb0 : Below w.heap.size w W := by rw [hW]; exact belNew _ _
  have hA : W.heap[w.heap.size]? = some (poolO 0 0 false 32) := by rw [hW]; exact heap_new w _
  have hs0 : w.heap.size < W.heap.size := heap_lt hA
  have m1 : x1 % 4294967296 = x1 := Int.emod_eq_of_lt h1 h1'
  generalize ho : (x3 == 1) = o at *
  generalize hf : decide (x3 ≤ 1) = F at *
  generalize hRV : (if (S && (F && (D && R))) = true then (.tuple #[.agg #[.int .u32 x1, .int .i64 x2, .bool o], .int .i64 0] : Value) else .tuple #[.agg #[.int .u32 0, .int .i64 0, .bool false], .int .i64 3]) = RV
  have HV := Lib.hid hRV.symm
  have HW := Lib.hid hW
  clear hW ho hf hRV
  go_enter Try.func12, Try.ntmps12
  go_upto_region 1 with fail
  change Code.wp _ _ _ _ (w.alloc (poolO 0 0 false 32))
  rw [← HW.out]
  clear HW
  go_wp2_with fail
  refine (HB.out _).mono ?_; rintro e w1 ⟨g, rfl, hR1, hg1, hb1⟩
  go_wp2_with fail
  refine (HU1.out _ _ hR1).mono ?_; rintro e w2 ⟨rfl, hR2, hg2⟩
  go_wp2_with fail
  refine (HU2.out _ _ hR2).mono ?_; rintro e w3 ⟨rfl, hR3, hg3⟩
  go_wp2_with fail
  refine (HF.out _ _ hR3).mono ?_; rintro e w4 ⟨rfl, hR4, hg4⟩
  go_upto_region 6 with fail
  obtain ⟨W5, hW5⟩ : ∃ W5, W5 = w4.alloc (poolO x1 x2 o 32) := ⟨_, rfl⟩
  have hg := grown_trans (grown_trans hg2 hg3) hg4
  have hx1 := (hb1.block w.heap.size hs0).trans hA
  have hx4 := (hg.block w.heap.size (heap_lt hx1) (fun e => absurd (Option.some.inj e) (by omega))).trans hx1
  have hb5 : Below w4.heap.size w4 W5 := by rw [hW5]; exact belNew _ _
  have hx5 := (hb5.block w.heap.size (heap_lt hx4)).trans hx4
  have hp5 : W5.heap[w4.heap.size]? = some (poolO x1 x2 o 32) := by rw [hW5]; exact heap_new w4 _
  have hB4 : Below w.heap.size w w4 := below_grown (hb0.trans (hb1.mono hb0.size)) hg (by omega)
  have hB5 : Below w.heap.size w W5 := hB4.trans (hb5.mono hB4.size)
  have hR5 := hR4.below hb5
  change Code.wp _ _ _ _ (w4.alloc (poolO x1 x2 o 32))
  rw [← hW5]
  have hne : w.heap.size < w4.heap.size := heap_lt hx4
  clear hR1 hR2 hR3 hR4 hg1 hb1 hg2 hg3 hg4 hg hx1 hx4 hW5 hb5 hB4 hA hs0 hb0 HB HU1 HU2 HF
  obtain ⟨p0, p1, p2, -, -, -⟩ := three hp5
  cases S with
  | false =>
    obtain ⟨c0, c1, c2, f0, f1, f2⟩ := three hx5
    have HE := Lib.hid (pool_set hx5 0 0 false)
    go_wp2_with fail
    have hE := HE.out
    refine bodyPost_ret (v := .tuple #[.agg #[.int .u32 0, .int .i64 0, .bool false], .int .i64 3]) (by simp [results, Try.results12, go_sem, World.cell?, hE]) rfl ⟨by rw [HV.out]; simp, ((hB5.setCell (p := ⟨w.heap.size, 0, none⟩) (Nat.le_refl _) _).setCell (p := ⟨w.heap.size, 1, none⟩) (Nat.le_refl _) _).setCell (p := ⟨w.heap.size, 2, none⟩) (Nat.le_refl _) _⟩
  | true =>
    cases F with
    | false =>
      obtain ⟨c0, c1, c2, f0, f1, f2⟩ := three hx5
      have HE := Lib.hid (pool_set hx5 0 0 false)
      go_wp2_with fail
      have hE := HE.out
      refine bodyPost_ret (v := .tuple #[.agg #[.int .u32 0, .int .i64 0, .bool false], .int .i64 3]) (by simp [results, Try.results12, go_sem, World.cell?, hE]) rfl ⟨by rw [HV.out]; simp, ((hB5.setCell (p := ⟨w.heap.size, 0, none⟩) (Nat.le_refl _) _).setCell (p := ⟨w.heap.size, 1, none⟩) (Nat.le_refl _) _).setCell (p := ⟨w.heap.size, 2, none⟩) (Nat.le_refl _) _⟩
    | true =>
      cases D with
      | false =>
        obtain ⟨c0, c1, c2, f0, f1, f2⟩ := three hx5
        have HE := Lib.hid (pool_set hx5 0 0 false)
        go_wp2_with fail
        refine (HD.out _ _ hR5).mono ?_; rintro e w6 ⟨rfl, rfl⟩
        go_wp2_with fail
        have hE := HE.out
        refine bodyPost_ret (v := .tuple #[.agg #[.int .u32 0, .int .i64 0, .bool false], .int .i64 3]) (by simp [results, Try.results12, go_sem, World.cell?, hE]) rfl ⟨by rw [HV.out]; simp, ((hB5.setCell (p := ⟨w.heap.size, 0, none⟩) (Nat.le_refl _) _).setCell (p := ⟨w.heap.size, 1, none⟩) (Nat.le_refl _) _).setCell (p := ⟨w.heap.size, 2, none⟩) (Nat.le_refl _) _⟩
      | true =>
        cases R with
        | false =>
          go_wp2_with fail
          refine (HD.out _ _ hR5).mono ?_; rintro e w6 ⟨rfl, rfl⟩
          go_wp2_with fail
          refine (HR.out _).mono ?_; rintro e w7 ⟨rfl, hb7⟩
          have hx7 := (hb7.block w.heap.size (heap_lt hx5)).trans hx5
          have hp7 := (hb7.block w4.heap.size (heap_lt hp5)).trans hp5
          have hB7 : Below w.heap.size w w7 := hB5.trans (hb7.mono hB5.size)
          clear p0 p1 p2
          obtain ⟨c0, c1, c2, f0, f1, f2⟩ := three hx7
          have HE := Lib.hid (pool_set hx7 0 0 false)
          go_wp2_with fail
          have hE := HE.out
          refine bodyPost_ret (v := .tuple #[.agg #[.int .u32 0, .int .i64 0, .bool false], .int .i64 3]) (by simp [results, Try.results12, go_sem, World.cell?, hE]) rfl ⟨by rw [HV.out]; simp, ((hB7.setCell (p := ⟨w.heap.size, 0, none⟩) (Nat.le_refl _) _).setCell (p := ⟨w.heap.size, 1, none⟩) (Nat.le_refl _) _).setCell (p := ⟨w.heap.size, 2, none⟩) (Nat.le_refl _) _⟩
        | true =>
          go_wp2_with fail
          refine (HD.out _ _ hR5).mono ?_; rintro e w6 ⟨rfl, rfl⟩
          go_wp2_with fail
          refine (HR.out _).mono ?_; rintro e w7 ⟨rfl, hb7⟩
          have hx7 := (hb7.block w.heap.size (heap_lt hx5)).trans hx5
          have hp7 := (hb7.block w4.heap.size (heap_lt hp5)).trans hp5
          have hB7 : Below w.heap.size w w7 := hB5.trans (hb7.mono hB5.size)
          clear p0 p1 p2
          obtain ⟨c0, c1, c2, f0, f1, f2⟩ := three hx7
          obtain ⟨q0, q1, q2, -, -, -⟩ := three hp7
          have HE := Lib.hid (pool_set hx7 x1 x2 o)
          go_wp2_with fail
          have hE := HE.out
          refine bodyPost_ret (v := .tuple #[.agg #[.int .u32 x1, .int .i64 x2, .bool o], .int .i64 0]) (by simp [results, Try.results12, go_sem, World.cell?, hE]) rfl ⟨by rw [HV.out]; simp, ((hB7.setCell (p := ⟨w.heap.size, 0, none⟩) (Nat.le_refl _) _).setCell (p := ⟨w.heap.size, 1, none⟩) (Nat.le_refl _) _).setCell (p := ⟨w.heap.size, 2, none⟩) (Nat.le_refl _) _⟩
def u1 (s : ByteArray) : Int × Option (List Int) := rdU (some (strI (rest s pP))) 4
def u2 (s : ByteArray) : Int × Option (List Int) := rdU (u1 s).2 1
def u3 (s : ByteArray) : Int × Option (List Int) := rdU (u2 s).2 1
def poolB (s : ByteArray) : Bool := starts s pP && (decide ((u3 s).1 ≤ 1) && (doneB (u3 s).2 && rightB (u1 s).1 (u2 s).1))
theorem rdU_bd (st : Option (List Int)) (hst : okB (st.getD [])) (k : Int) (_ : 0 ≤ k) : 0 ≤ (rdU st k).1 ∧ (rdU st k).1 < 256 ^ k.toNat ∧ okB ((rdU st k).2.getD []) := by
  unfold rdU
  split
  · have h1 := numBE_bd _ (rdB_ok hst k)
    have h2 := rdB_len st k
    refine ⟨h1.1, Int.lt_of_lt_of_le h1.2 ?_, ?_⟩
    · have h3 : (rdB st k).1.length ≤ k.toNat := by omega
      have h4 : (256 : Nat) ^ (rdB st k).1.length ≤ 256 ^ k.toNat := Nat.pow_le_pow_right (by omega) h3
      have h5 : ((256 ^ (rdB st k).1.length : Nat) : Int) ≤ ((256 ^ k.toNat : Nat) : Int) := Int.ofNat_le.2 h4
      rw [Int.natCast_pow, Int.natCast_pow] at h5
      exact h5
    · unfold rdB
      cases st with
      | none => intro x hx; cases hx
      | some l =>
        simp only []
        split
        · exact okB.drop hst _
        · intro x hx; cases hx
  · refine ⟨Int.le_refl _, Int.pow_pos (by omega), ?_⟩
    intro x hx; cases hx
theorem u_bd (s : ByteArray) : (0 ≤ (u1 s).1 ∧ (u1 s).1 < 4294967296) ∧ (0 ≤ (u2 s).1 ∧ (u2 s).1 ≤ 255) ∧ (0 ≤ (u3 s).1 ∧ (u3 s).1 ≤ 255) := by
  have h0 : okB ((some (strI (rest s pP)) : Option (List Int)).getD []) := okB_strI _
  have h1 := rdU_bd _ h0 4 (by decide)
  have h2 := rdU_bd _ h1.2.2 1 (by decide)
  have h3 := rdU_bd _ h2.2.2 1 (by decide)
  have e4 : (256 : Int) ^ (4 : Int).toNat = 4294967296 := by decide
  have e1 : (256 : Int) ^ (1 : Int).toNat = 256 := by decide
  rw [e4] at h1
  rw [e1] at h2 h3
  exact ⟨⟨h1.1, h1.2.1⟩, ⟨h2.1, Int.le_of_lt_add_one h2.2.1⟩, ⟨h3.1, Int.le_of_lt_add_one h3.2.1⟩⟩
theorem readPool_any (s : ByteArray) (w : World) (hs : s.size ≤ 1000) :
    Calls Try.prog 12 #[.string s] w fun e w' => e = .returned (if poolB s = true then .tuple #[.agg #[.int .u32 (u1 s).1, .int .i64 (u2 s).1, .bool ((u3 s).1 == 1)], .int .i64 0] else .tuple #[.agg #[.int .u32 0, .int .i64 0, .bool false], .int .i64 3]) ∧ Below w.heap.size w w' := by
  obtain ⟨⟨a0, a1⟩, ⟨b0, b1⟩, _⟩ := u_bd s
  exact readPool_core s w (u1 s).1 (u2 s).1 (u3 s).1 (some (strI (rest s pP))) (u1 s).2 (u2 s).2 (u3 s).2 (starts s pP) (doneB (u3 s).2) (rightB (u1 s).1 (u2 s).1) a0 a1 b0 b1
    (Lib.hid (fun w => behind_any pP s hs w))
    (Lib.hid (fun g w h => u_any g g _ 4 w h))
    (Lib.hid (fun g w h => u_any g g _ 1 w h))
    (Lib.hid (fun g w h => readFlag_any g g _ w h))
    (Lib.hid (fun g w h => done_any g g _ w h))
    (Lib.hid (fun w => rightPool_any _ _ _ a0 a1 w))
end Go.Proofs.Ytcfmknocpjjklaa
