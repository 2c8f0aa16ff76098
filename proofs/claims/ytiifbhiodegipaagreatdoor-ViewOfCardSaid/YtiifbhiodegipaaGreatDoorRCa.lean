/- Joined: Rc RcPool RcPut RcRead. -/
import Derived.Test.YtiifbhiodegipaaGreatDoorJPk
import Derived.Lib.ConvBytes
import Derived.Lib.SlBytesConst
import Derived.Test.YtiifbhiodegipaaGreatDoorRcNet
import Derived.Deep.Cut
namespace Go.Proofs.YtiifbhiodegipaaGreatDoor.RC
section
open Go.RowKit
abbrev rest (s p : ByteArray) : ByteArray := ⟨(Lib.trimPrefix s.data.toList p.data.toList).toArray⟩
abbrev starts (s p : ByteArray) : Bool := Lib.hasPrefix s.data.toList p.data.toList
abbrev em : ByteArray := ⟨#[]⟩
theorem rest_size (s p : ByteArray) : (rest s p).size ≤ s.size := by
  have h : (Lib.trimPrefix s.data.toList p.data.toList).length ≤ s.data.toList.length := by
    unfold Lib.trimPrefix
    split
    · rw [List.length_drop]; omega
    · exact Nat.le_refl _
  have e1 : (rest s p).size = (Lib.trimPrefix s.data.toList p.data.toList).length := List.size_toArray
  have e2 : s.data.toList.length = s.size := Array.length_toList
  rw [e1]; omega
theorem add0 (g n : Nat) : (⟨g, 0, none⟩ : Addr).add n = ⟨g, n, none⟩ := by
  unfold Addr.add
  by_cases h : n = 0
  · subst h; rfl
  · simp [h]
theorem bytes_below (w : World) (e : TypeId) (s : ByteArray) : Below w.heap.size w (Lib.bytesWorld w e s) :=
  ⟨rfl, rfl, rfl, by rw [Lib.bytesWorld_size]; omega, fun k hk => Lib.bytesWorld_at_old w e s k hk⟩
theorem bytes_sees (w : World) (s : ByteArray) : Sees (Lib.bytesWorld w 5 s) (.slice (some ⟨w.heap.size, 0, none⟩) s.size (grownCap w s.size 0 5)) (strI s) := by
  refine ⟨some ⟨w.heap.size, 0, none⟩, grownCap w s.size 0 5, by rw [strI_length], by rw [strI_length]; exact grownCap_ge w s.size 0 5, (fun h => by cases h), fun a ha i hi => ?_⟩
  cases ha
  rw [strI_length] at hi
  rw [add0, Lib.bytesWorld_cell w _ s i hi]
  have hl : i < s.data.toList.length := by rw [Array.length_toList]; exact hi
  unfold strI
  simp [List.getD, List.getElem?_eq_getElem hl]
theorem okB_strI (s : ByteArray) : okB (strI s) := fun x hx => by
  unfold strI at hx
  obtain ⟨b, _, rfl⟩ := List.mem_map.1 hx
  have := b.toNat_lt
  omega
def stB (x : Int) : Bool := decide (1 ≤ x ∧ x ≤ 3)
theorem mayStand_any (x : Int) (w : World) : Calls Tryz.prog 132 #[.int .i64 x] w fun e w' => e = .returned (.bool (stB x)) ∧ w = w' := by
  by_cases h1 : 1 ≤ x
  · have d1 : decide (1 ≤ x) = true := decide_eq_true h1
    by_cases h3 : x ≤ 3
    · have d3 : decide (x ≤ 3) = true := decide_eq_true h3
      have hv : stB x = true := decide_eq_true ⟨h1, h3⟩
      rw [hv]; clear hv
      go_enter Tryz.func132, Tryz.ntmps132
      go_wp2
      go_ret
      exact ⟨rfl, rfl⟩
    · have d3 : decide (x ≤ 3) = false := decide_eq_false h3
      have hv : stB x = false := decide_eq_false (fun h => h3 h.2)
      rw [hv]; clear hv
      go_enter Tryz.func132, Tryz.ntmps132
      go_wp2
      go_ret
      exact ⟨rfl, rfl⟩
  · have d1 : decide (1 ≤ x) = false := decide_eq_false h1
    have hv : stB x = false := decide_eq_false (fun h => h1 h.1)
    rw [hv]; clear hv
    go_enter Tryz.func132, Tryz.ntmps132
    go_wp2
    go_ret
    exact ⟨rfl, rfl⟩
def flagI (o : Bool) : Int := if o = true then 1 else 0
theorem behind_any (p s : ByteArray) (hs : s.size ≤ 1000) (w : World) :
    Calls Tryz.prog 120 #[.string p, .string s] w fun e w' => ∃ g, e = .returned (.tuple #[.pointer (some ⟨g, 0, none⟩), .bool (starts s p)]) ∧ RdP g g (some (strI (rest s p))) w' ∧ w.heap.size ≤ g ∧ Below w.heap.size w w' := by
  have HC := Lib.hid (Tryz.strings_CutPrefix s p w)
  have hr : (⟨(Lib.trimPrefix s.data.toList p.data.toList).toArray⟩ : ByteArray) = rest s p := rfl
  rw [hr] at HC
  have hz : (Lib.hasPrefix s.data.toList p.data.toList) = starts s p := rfl
  rw [hz] at HC
  have hsz : (rest s p).size ≤ 1000 := Nat.le_trans (rest_size s p) hs
  clear hr hz hs
  generalize starts s p = S at *
  generalize rest s p = r at *
  have hcv := Lib.run_convert_string_bytes (P := Tryz.prog) w 9 56 5 r Tryz.underlying9 Tryz.underlying56 Tryz.underlying5
  have hbz := bytes_below w 5 r
  have hse := bytes_sees w r
  obtain ⟨wz, hwz⟩ : ∃ wz, wz = Lib.bytesWorld w 5 r := ⟨_, rfl⟩
  rw [← hwz] at hcv hbz hse
  have HN := Lib.hid (new_any _ (strI r) wz hse (okB_strI r) (by rw [strI_length]; omega))
  have HB := Lib.hid hbz
  clear hwz hbz hse hsz
  go_enter Tryz.func120, Tryz.ntmps120
  go_wp2_with (first
    | (go_at_call 118; refine HC.out.mono ?_; rintro e w1 ⟨rfl, rfl⟩)
    | (go_at_call 126; refine HN.out.mono ?_; rintro e w2 ⟨g, rfl, hR, hg, hb⟩)
    | go_in)
  go_ret2
  exact ⟨g, rfl, hR, by have := HB.out.size; omega, bel HB.out hb⟩
theorem readFlag_any (g B : Nat) (st : Option (List Int)) (w : World) (h : RdP g B st w) :
    Calls Tryz.prog 122 #[.pointer (some ⟨g, 0, none⟩)] w fun e w' => e = .returned (.tuple #[.bool ((rdU st 1).1 == 1), .bool (decide ((rdU st 1).1 ≤ 1))]) ∧ RdP g B (rdU st 1).2 w' ∧ w.grownBy w' (some g) := by
  have HU := Lib.hid (u_any g B st 1 w h)
  generalize rdU st 1 = u at *
  go_enter Tryz.func122, Tryz.ntmps122
  go_wp2_with (first
    | (go_at_call 121; refine HU.out.mono ?_; rintro e w1 ⟨rfl, hR, hg⟩)
    | go_in)
  go_ret2
  exact ⟨rfl, hR, hg⟩
end
section
open Go.RowKit
def rightB (a b : Int) : Bool := mayB a b && (decide (16 ≤ b) && decide (b ≤ 26))
abbrev poolO (a b : Int) (o : Bool) (t : TypeId) : Obj := .cells #[.int .u32 a, .int .i64 b, .bool o] t
def Cell3 (g : Nat) (a b : Int) (o : Bool) (W : World) : Prop := W.cell? ⟨g, 0, none⟩ = some (.int .u32 a) ∧ W.cell? ⟨g, 1, none⟩ = some (.int .i64 b) ∧ W.cell? ⟨g, 2, none⟩ = some (.bool o) ∧ g < W.heap.size
theorem Cell3.keep {g : Nat} {a b : Int} {o : Bool} {W W' : World} (h : Cell3 g a b o W) (hb : Below W.heap.size W W') : Cell3 g a b o W' :=
  ⟨by rw [hb.cell (p := ⟨g, 0, none⟩) h.2.2.2]; exact h.1, by rw [hb.cell (p := ⟨g, 1, none⟩) h.2.2.2]; exact h.2.1, by rw [hb.cell (p := ⟨g, 2, none⟩) h.2.2.2]; exact h.2.2.1, Nat.lt_of_lt_of_le h.2.2.2 hb.size⟩
theorem Cell3.new (w : World) (a b : Int) (o : Bool) (t : TypeId) : Cell3 w.heap.size a b o (w.alloc (poolO a b o t)) := by
  refine ⟨?_, ?_, ?_, ?_⟩ <;> simp
theorem rightB_of {a b : Int} (h : mayB a b = true) : rightB a b = (decide (16 ≤ b) && decide (b ≤ 26)) := by unfold rightB; rw [h]; rfl
set_option maxHeartbeats 4000000 in
theorem rightPool_any (a b : Int) (o : Bool) (ha : 0 ≤ a) (ha' : a < 4294967296) (w : World) :
    Calls Tryz.prog 124 #[.agg #[.int .u32 a, .int .i64 b, .bool o]] w fun e w' => e = .returned (.bool (rightB a b)) ∧ Below w.heap.size w w' := by
  have HM := Lib.hid (fun w => may_any a b ha ha' w)
  have hc := Cell3.new w a b o 64
  have hb0 := belNew w (poolO a b o 64)
  cases hm : mayB a b with
  | false =>
    have hv : rightB a b = false := by unfold rightB; rw [hm]; rfl
    rw [hv]; rw [hm] at HM
    clear hv hm
    go_enter Tryz.func124, Tryz.ntmps124
    obtain ⟨c0, c1, c2, c3⟩ := id hc
    go_wp2_with fail
    refine (HM.out _).mono ?_; rintro e w1 ⟨rfl, hb1⟩
    go_wp2_with fail
    go_ret
    exact ⟨rfl, bel hb0 hb1⟩
  | true =>
    rw [rightB_of hm]; rw [hm] at HM
    clear hm
    by_cases h1 : 16 ≤ b
    · have d1 : decide (16 ≤ b) = true := decide_eq_true h1
      have hv : (decide (16 ≤ b) && decide (b ≤ 26)) = decide (b ≤ 26) := by rw [d1]; rfl
      rw [hv]; clear hv
      generalize hq : decide (b ≤ 26) = q
      go_enter Tryz.func124, Tryz.ntmps124
      obtain ⟨c0, c1, c2, c3⟩ := id hc
      go_wp2_with fail
      refine (HM.out _).mono ?_; rintro e w1 ⟨rfl, hb1⟩
      obtain ⟨x0, x1, x2, x3⟩ := hc.keep hb1
      go_wp2_with fail
      go_ret
      exact ⟨rfl, bel hb0 hb1⟩
    · have d1 : decide (16 ≤ b) = false := decide_eq_false h1
      have hv : (decide (16 ≤ b) && decide (b ≤ 26)) = false := by rw [d1]; rfl
      rw [hv]; clear hv
      go_enter Tryz.func124, Tryz.ntmps124
      obtain ⟨c0, c1, c2, c3⟩ := id hc
      go_wp2_with fail
      refine (HM.out _).mono ?_; rintro e w1 ⟨rfl, hb1⟩
      obtain ⟨x0, x1, x2, x3⟩ := hc.keep hb1
      go_wp2_with fail
      go_ret
      exact ⟨rfl, bel hb0 hb1⟩
end
section
open Go.RowKit
theorem putL_length (n k : Int) : (putL n k).length ≤ 8 := by
  unfold putL
  split
  · rename_i h
    have h2 : 1 ≤ k ∧ k ≤ 8 := of_decide_eq_true h
    rw [numBytes_length]; omega
  · exact Nat.zero_le _
theorem putL_small (b : Int) (h0 : 0 ≤ b) (h1 : b ≤ 255) : putL b 1 = [b] := by
  have h : wOk 1 = true := rfl
  unfold putL
  rw [if_pos h]
  show [b / 256 ^ 0 % 256] = [b]
  rw [Int.pow_zero, Int.ediv_one, Int.emod_eq_of_lt h0 (by omega)]
def poolL (a b : Int) (o : Bool) : List Int := 80 :: putL a 4 ++ [b] ++ [flagI o]
end
section
open Go.RowKit
abbrev pP : ByteArray := ⟨#[80]⟩
abbrev pN : ByteArray := ⟨#[78]⟩
abbrev pA : ByteArray := ⟨#[65]⟩
theorem three {w : World} {g : Nat} {a b : Int} {o : Bool} {t : TypeId} (h : w.heap[g]? = some (poolO a b o t)) : w.cell? ⟨g, 0, none⟩ = some (.int .u32 a) ∧ w.cell? ⟨g, 1, none⟩ = some (.int .i64 b) ∧ w.cell? ⟨g, 2, none⟩ = some (.bool o) ∧ w.frozen? ⟨g, 0, none⟩ = false ∧ w.frozen? ⟨g, 1, none⟩ = false ∧ w.frozen? ⟨g, 2, none⟩ = false := by simp [World.cell?, World.frozen?, h]
theorem pool_set {w : World} {g : Nat} {a b : Int} {o : Bool} {t : TypeId} (h : w.heap[g]? = some (poolO a b o t)) (x y : Int) (z : Bool) : (((w.setCell ⟨g, 0, none⟩ (.int .u32 x)).setCell ⟨g, 1, none⟩ (.int .i64 y)).setCell ⟨g, 2, none⟩ (.bool z)).heap[g]? = some (poolO x y z t) := by
  simp [World.setCell, Array.getElem?_modify]
  simp [h]
theorem heap_new (w : World) (o : Obj) : (w.alloc o).heap[w.heap.size]? = some o := by
  show (w.heap.push o)[w.heap.size]? = some o
  simp
theorem below_grown {w a b : World} {g : Nat} (h : Below w.heap.size w a) (k : a.grownBy b (some g)) (hg : w.heap.size ≤ g) : Below w.heap.size w b :=
  h.grown k h.size (fun d e => by have := Option.some.inj e; omega)
set_option maxRecDepth 100000 in
set_option maxHeartbeats 8000000 in
theorem readPool_core (s : ByteArray) (w : World) (x1 x2 x3 : Int) (st0 st1 st2 st3 : Option (List Int)) (S D R : Bool) (h1 : 0 ≤ x1) (h1' : x1 < 4294967296) (h2 : 0 ≤ x2) (h2' : x2 ≤ 255)
    (HB : Hid (∀ w, Calls Tryz.prog 120 #[.string pP, .string s] w fun e w' => ∃ g, e = .returned (.tuple #[.pointer (some ⟨g, 0, none⟩), .bool S]) ∧ RdP g g st0 w' ∧ w.heap.size ≤ g ∧ Below w.heap.size w w'))
    (HU1 : Hid (∀ g w, RdP g g st0 w → Calls Tryz.prog 121 #[.pointer (some ⟨g, 0, none⟩), .int .i64 4] w fun e w' => e = .returned (.int .u64 x1) ∧ RdP g g st1 w' ∧ w.grownBy w' (some g)))
    (HU2 : Hid (∀ g w, RdP g g st1 w → Calls Tryz.prog 121 #[.pointer (some ⟨g, 0, none⟩), .int .i64 1] w fun e w' => e = .returned (.int .u64 x2) ∧ RdP g g st2 w' ∧ w.grownBy w' (some g)))
    (HF : Hid (∀ g w, RdP g g st2 w → Calls Tryz.prog 122 #[.pointer (some ⟨g, 0, none⟩)] w fun e w' => e = .returned (.tuple #[.bool (x3 == 1), .bool (decide (x3 ≤ 1))]) ∧ RdP g g st3 w' ∧ w.grownBy w' (some g)))
    (HD : Hid (∀ g w, RdP g g st3 w → Calls Tryz.prog 123 #[.pointer (some ⟨g, 0, none⟩)] w fun e w' => e = .returned (.bool D) ∧ w = w'))
    (HR : Hid (∀ w, Calls Tryz.prog 124 #[.agg #[.int .u32 x1, .int .i64 x2, .bool (x3 == 1)]] w fun e w' => e = .returned (.bool R) ∧ Below w.heap.size w w')) :
    Calls Tryz.prog 90 #[.string s] w fun e w' => e = .returned (if (S && (decide (x3 ≤ 1) && (D && R))) = true then .tuple #[.agg #[.int .u32 x1, .int .i64 x2, .bool (x3 == 1)], .int .i64 0] else .tuple #[.agg #[.int .u32 0, .int .i64 0, .bool false], .int .i64 3]) ∧ Below w.heap.size w w' := by
  obtain ⟨W, hW⟩ : ∃ W, W = w.alloc (poolO 0 0 false 64) := ⟨_, rfl⟩
  have hb0 : Below w.heap.size w W := by rw [hW]; exact belNew _ _
  have hA : W.heap[w.heap.size]? = some (poolO 0 0 false 64) := by rw [hW]; exact heap_new w _
  have hs0 : w.heap.size < W.heap.size := heap_lt hA
  have m1 : x1 % 4294967296 = x1 := Int.emod_eq_of_lt h1 h1'
  generalize ho : (x3 == 1) = o at *
  generalize hf : decide (x3 ≤ 1) = F at *
  generalize hRV : (if (S && (F && (D && R))) = true then (.tuple #[.agg #[.int .u32 x1, .int .i64 x2, .bool o], .int .i64 0] : Value) else .tuple #[.agg #[.int .u32 0, .int .i64 0, .bool false], .int .i64 3]) = RV
  have HV := Lib.hid hRV.symm
  have HW := Lib.hid hW
  clear hW ho hf hRV
  go_enter Tryz.func90, Tryz.ntmps90
  go_upto_region 1 with fail
  change Code.wp _ _ _ _ (w.alloc (poolO 0 0 false 64))
  rw [← HW.out]
  clear HW
  go_wp2_with fail
  refine (HB.out _).mono ?_; rintro e w1 ⟨g, rfl, hR1, hg1, hb1⟩
  go_wp2_with fail
  refine (HU1.out _ _ hR1).mono ?_; rintro e w2 ⟨rfl, hR2, hg2⟩
  go_wp2_with fail
  refine (HU2.out _ _ hR2).mono ?_; rintro e w3 ⟨rfl, hR3, hg3⟩
  go_wp2_with fail
  refine (HF.out _ _ hR3).mono ?_; rintro e w4 ⟨rfl, hR4, hg4⟩
  go_upto_region 6 with fail
  obtain ⟨W5, hW5⟩ : ∃ W5, W5 = w4.alloc (poolO x1 x2 o 64) := ⟨_, rfl⟩
  have hg := grown_trans (grown_trans hg2 hg3) hg4
  have hx1 := (hb1.block w.heap.size hs0).trans hA
  have hx4 := (hg.block w.heap.size (heap_lt hx1) (fun e => absurd (Option.some.inj e) (by omega))).trans hx1
  have hb5 : Below w4.heap.size w4 W5 := by rw [hW5]; exact belNew _ _
  have hx5 := (hb5.block w.heap.size (heap_lt hx4)).trans hx4
  have hp5 : W5.heap[w4.heap.size]? = some (poolO x1 x2 o 64) := by rw [hW5]; exact heap_new w4 _
  have hB4 : Below w.heap.size w w4 := below_grown (hb0.trans (hb1.mono hb0.size)) hg (by omega)
  have hB5 : Below w.heap.size w W5 := hB4.trans (hb5.mono hB4.size)
  have hR5 := hR4.below hb5
  change Code.wp _ _ _ _ (w4.alloc (poolO x1 x2 o 64))
  rw [← hW5]
  have hne : w.heap.size < w4.heap.size := heap_lt hx4
  clear hR1 hR2 hR3 hR4 hg1 hb1 hg2 hg3 hg4 hg hx1 hx4 hW5 hb5 hB4 hA hs0 hb0 HB HU1 HU2 HF
  obtain ⟨p0, p1, p2, -, -, -⟩ := three hp5
  cases S with
  | false =>
    obtain ⟨c0, c1, c2, f0, f1, f2⟩ := three hx5
    have HE := Lib.hid (pool_set hx5 0 0 false)
    go_wp2_with fail
    have hE := HE.out
    refine bodyPost_ret (v := .tuple #[.agg #[.int .u32 0, .int .i64 0, .bool false], .int .i64 3]) (by simp [results, Tryz.results90, go_sem, World.cell?, hE]) rfl ⟨by rw [HV.out]; simp, ((hB5.setCell (p := ⟨w.heap.size, 0, none⟩) (Nat.le_refl _) _).setCell (p := ⟨w.heap.size, 1, none⟩) (Nat.le_refl _) _).setCell (p := ⟨w.heap.size, 2, none⟩) (Nat.le_refl _) _⟩
  | true =>
    cases F with
    | false =>
      obtain ⟨c0, c1, c2, f0, f1, f2⟩ := three hx5
      have HE := Lib.hid (pool_set hx5 0 0 false)
      go_wp2_with fail
      have hE := HE.out
      refine bodyPost_ret (v := .tuple #[.agg #[.int .u32 0, .int .i64 0, .bool false], .int .i64 3]) (by simp [results, Tryz.results90, go_sem, World.cell?, hE]) rfl ⟨by rw [HV.out]; simp, ((hB5.setCell (p := ⟨w.heap.size, 0, none⟩) (Nat.le_refl _) _).setCell (p := ⟨w.heap.size, 1, none⟩) (Nat.le_refl _) _).setCell (p := ⟨w.heap.size, 2, none⟩) (Nat.le_refl _) _⟩
    | true =>
      cases D with
      | false =>
        obtain ⟨c0, c1, c2, f0, f1, f2⟩ := three hx5
        have HE := Lib.hid (pool_set hx5 0 0 false)
        go_wp2_with fail
        refine (HD.out _ _ hR5).mono ?_; rintro e w6 ⟨rfl, rfl⟩
        go_wp2_with fail
        have hE := HE.out
        refine bodyPost_ret (v := .tuple #[.agg #[.int .u32 0, .int .i64 0, .bool false], .int .i64 3]) (by simp [results, Tryz.results90, go_sem, World.cell?, hE]) rfl ⟨by rw [HV.out]; simp, ((hB5.setCell (p := ⟨w.heap.size, 0, none⟩) (Nat.le_refl _) _).setCell (p := ⟨w.heap.size, 1, none⟩) (Nat.le_refl _) _).setCell (p := ⟨w.heap.size, 2, none⟩) (Nat.le_refl _) _⟩
      | true =>
        cases R with
        | false =>
          go_wp2_with fail
          refine (HD.out _ _ hR5).mono ?_; rintro e w6 ⟨rfl, rfl⟩
          go_wp2_with fail
          refine (HR.out _).mono ?_; rintro e w7 ⟨rfl, hb7⟩
          have hx7 := (hb7.block w.heap.size (heap_lt hx5)).trans hx5
          have hp7 := (hb7.block w4.heap.size (heap_lt hp5)).trans hp5
          have hB7 : Below w.heap.size w w7 := hB5.trans (hb7.mono hB5.size)
          clear p0 p1 p2
          obtain ⟨c0, c1, c2, f0, f1, f2⟩ := three hx7
          have HE := Lib.hid (pool_set hx7 0 0 false)
          go_wp2_with fail
          have hE := HE.out
          refine bodyPost_ret (v := .tuple #[.agg #[.int .u32 0, .int .i64 0, .bool false], .int .i64 3]) (by simp [results, Tryz.results90, go_sem, World.cell?, hE]) rfl ⟨by rw [HV.out]; simp, ((hB7.setCell (p := ⟨w.heap.size, 0, none⟩) (Nat.le_refl _) _).setCell (p := ⟨w.heap.size, 1, none⟩) (Nat.le_refl _) _).setCell (p := ⟨w.heap.size, 2, none⟩) (Nat.le_refl _) _⟩
        | true =>
          go_wp2_with fail
          refine (HD.out _ _ hR5).mono ?_; rintro e w6 ⟨rfl, rfl⟩
          go_wp2_with fail
          refine (HR.out _).mono ?_; rintro e w7 ⟨rfl, hb7⟩
          have hx7 := (hb7.block w.heap.size (heap_lt hx5)).trans hx5
          have hp7 := (hb7.block w4.heap.size (heap_lt hp5)).trans hp5
          have hB7 : Below w.heap.size w w7 := hB5.trans (hb7.mono hB5.size)
          clear p0 p1 p2
          obtain ⟨c0, c1, c2, f0, f1, f2⟩ := three hx7
          obtain ⟨q0, q1, q2, -, -, -⟩ := three hp7
          have HE := Lib.hid (pool_set hx7 x1 x2 o)
          go_wp2_with fail
          have hE := HE.out
          refine bodyPost_ret (v := .tuple #[.agg #[.int .u32 x1, .int .i64 x2, .bool o], .int .i64 0]) (by simp [results, Tryz.results90, go_sem, World.cell?, hE]) rfl ⟨by rw [HV.out]; simp, ((hB7.setCell (p := ⟨w.heap.size, 0, none⟩) (Nat.le_refl _) _).setCell (p := ⟨w.heap.size, 1, none⟩) (Nat.le_refl _) _).setCell (p := ⟨w.heap.size, 2, none⟩) (Nat.le_refl _) _⟩
def u1 (s : ByteArray) : Int × Option (List Int) := rdU (some (strI (rest s pP))) 4
def u2 (s : ByteArray) : Int × Option (List Int) := rdU (u1 s).2 1
def u3 (s : ByteArray) : Int × Option (List Int) := rdU (u2 s).2 1
def poolB (s : ByteArray) : Bool := starts s pP && (decide ((u3 s).1 ≤ 1) && (doneB (u3 s).2 && rightB (u1 s).1 (u2 s).1))
theorem rdU_bd (st : Option (List Int)) (hst : okB (st.getD [])) (k : Int) (_ : 0 ≤ k) : 0 ≤ (rdU st k).1 ∧ (rdU st k).1 < 256 ^ k.toNat ∧ okB ((rdU st k).2.getD []) := by
  unfold rdU
  split
  · have h1 := numBE_bd _ (rdB_ok hst k)
    have h2 := rdB_len st k
    refine ⟨h1.1, Int.lt_of_lt_of_le h1.2 ?_, ?_⟩
    · have h3 : (rdB st k).1.length ≤ k.toNat := by omega
      have h4 : (256 : Nat) ^ (rdB st k).1.length ≤ 256 ^ k.toNat := Nat.pow_le_pow_right (by omega) h3
      have h5 : ((256 ^ (rdB st k).1.length : Nat) : Int) ≤ ((256 ^ k.toNat : Nat) : Int) := Int.ofNat_le.2 h4
      rw [Int.natCast_pow, Int.natCast_pow] at h5
      exact h5
    · unfold rdB
      cases st with
      | none => intro x hx; cases hx
      | some l =>
        simp only []
        split
        · exact okB.drop hst _
        · intro x hx; cases hx
  · refine ⟨Int.le_refl _, Int.pow_pos (by omega), ?_⟩
    intro x hx; cases hx
theorem u_bd (s : ByteArray) : (0 ≤ (u1 s).1 ∧ (u1 s).1 < 4294967296) ∧ (0 ≤ (u2 s).1 ∧ (u2 s).1 ≤ 255) ∧ (0 ≤ (u3 s).1 ∧ (u3 s).1 ≤ 255) := by
  have h0 : okB ((some (strI (rest s pP)) : Option (List Int)).getD []) := okB_strI _
  have h1 := rdU_bd _ h0 4 (by decide)
  have h2 := rdU_bd _ h1.2.2 1 (by decide)
  have h3 := rdU_bd _ h2.2.2 1 (by decide)
  have e4 : (256 : Int) ^ (4 : Int).toNat = 4294967296 := by decide
  have e1 : (256 : Int) ^ (1 : Int).toNat = 256 := by decide
  rw [e4] at h1
  rw [e1] at h2 h3
  exact ⟨⟨h1.1, h1.2.1⟩, ⟨h2.1, Int.le_of_lt_add_one h2.2.1⟩, ⟨h3.1, Int.le_of_lt_add_one h3.2.1⟩⟩
theorem readPool_any (s : ByteArray) (w : World) (hs : s.size ≤ 1000) :
    Calls Tryz.prog 90 #[.string s] w fun e w' => e = .returned (if poolB s = true then .tuple #[.agg #[.int .u32 (u1 s).1, .int .i64 (u2 s).1, .bool ((u3 s).1 == 1)], .int .i64 0] else .tuple #[.agg #[.int .u32 0, .int .i64 0, .bool false], .int .i64 3]) ∧ Below w.heap.size w w' := by
  obtain ⟨⟨a0, a1⟩, ⟨b0, b1⟩, _⟩ := u_bd s
  exact readPool_core s w (u1 s).1 (u2 s).1 (u3 s).1 (some (strI (rest s pP))) (u1 s).2 (u2 s).2 (u3 s).2 (starts s pP) (doneB (u3 s).2) (rightB (u1 s).1 (u2 s).1) a0 a1 b0 b1
    (Lib.hid (fun w => behind_any pP s hs w))
    (Lib.hid (fun g w h => u_any g g _ 4 w h))
    (Lib.hid (fun g w h => u_any g g _ 1 w h))
    (Lib.hid (fun g w h => readFlag_any g g _ w h))
    (Lib.hid (fun g w h => done_any g g _ w h))
    (Lib.hid (fun w => rightPool_any _ _ _ a0 a1 w))
end
end Go.Proofs.YtiifbhiodegipaaGreatDoor.RC
