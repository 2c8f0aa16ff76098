/- Package block: Right. -/
import Derived.Test.YtlbgjmnihenmaaaGreatDoorBkD
namespace Go.Proofs.YtlbgjmnihenmaaaGreatDoor
open Go.RowKit Go.Maps
theorem BlkAt.below {w w' : World} {g : Nat} {b : BlkS} {fv av : Value} (h : BlkAt w g b fv av) (hb : Below w.heap.size w w') : BlkAt w' g b fv av :=
  (hb.block g (heap_lt (show w.heap[g]? = some (.cells (blkL b fv av).toArray 59 (0, 0)) from h))).trans h
theorem ldBIf {ops : Array Oper} {S : World → Prop} {op : Oper} {a : Act} (hw : Region.wanted op (yielded ops a.tmps) = true) (x : Operand) (ho : op.op = .load 59 x) {g : Nat} (hx : a.eval x = .pointer (some ⟨g, 0, none⟩)) {b : BlkS} {fv av : Value} (hS : ∀ W, S W → BlkAt W g b fv av) (hl : b.sl.length = 64) :
    YieldsIf Tryz.prog ops S op (.agg (blkL b fv av).toArray) a :=
  yieldsIf_load_mid hw _ x ho g 0 hx _ _ (fun W hW => (hS W hW).whole) Tryz.underlying59 rfl (by rw [infoB, blkL_len b hl])
/-- No slot below n has a number above m. -/
def slotsLe (sl : List Int) (m : Nat) : Nat → Bool
  | 0 => true
  | n + 1 => slotsLe sl m n && decide (sl.getD n 0 ≤ (m : Int))
theorem slotsLe_no {sl : List Int} {m i n : Nat} (h : slotsLe sl m i = false) (hn : i ≤ n) : slotsLe sl m n = false := by
  induction n with
  | zero => rwa [Nat.le_zero.1 hn] at h
  | succ n ih =>
    by_cases e : i = n + 1
    · rwa [← e]
    · unfold slotsLe
      rw [ih (by omega)]
      rfl
def rightS (b : BlkS) : Bool := slotsLe b.sl b.attrs.length 64 && (((usedN b.sl 64 : Nat) : Int) == ((2 ^ allM (b.attrs.length : Int) - 1 : Nat) : Int))
def rightF (b : BlkS) : Bool := (((mem (rowN b.free b.free.length)).length : Int) == (b.free.length : Int)) && (((rowN b.free b.free.length : Nat) : Int) == ((18446744073709551615 &&& (18446744073709551615 - takeN b.sl 64) : Nat) : Int))
set_option maxRecDepth 100000 in
set_option maxHeartbeats 4000000 in
theorem rightSlots_any (b : BlkS) (fv av : Value) (w : World) (hl : b.sl.length = 64) (hok : okB b.sl) (hat : SeesA w av b.attrs) (hal : b.attrs.length ≤ maxLen) :
    Calls Tryz.prog 102 #[.agg (blkL b fv av).toArray] w fun e w' => e = .returned (.bool (rightS b)) ∧ Below w.heap.size w w' := by
  obtain ⟨w1, hw1⟩ : ∃ w1, w1 = w.alloc (.cells (blkL b fv av).toArray 59) := ⟨_, rfl⟩
  have hx : BlkAt w1 w.heap.size b fv av := by rw [hw1]; exact BlkAt.new w b fv av
  have hb : Below w.heap.size w w1 := by rw [hw1]; exact belNew w _
  have c67 := hx.attrs hl
  have HX := Lib.hid hx
  have HB := Lib.hid hb
  obtain ⟨ao, ac, hav, -⟩ := hat
  have hall : b.attrs.length ≤ 9223372036854775807 := by unfold maxLen at hal; omega
  have HI := Lib.hid (fun (i : Nat) (hi : i < 64) (w : World) => index64 (get64 hl hi) hl w)
  have HUS := Lib.hid (fun w => used_any b fv av hl hok w)
  have HAL := Lib.hid (fun w => all_any (b.attrs.length : Int) w)
  have HO := Lib.hid hok
  obtain ⟨R, hR⟩ : ∃ R, R = rightS b := ⟨_, rfl⟩
  rw [← hR]
  have HRR := Lib.hid hR
  unfold rightS at hR
  rw [hav] at c67
  have HAV := Lib.hid hav
  clear hx hb hok hal hR hav
  go_enter Tryz.func102, Tryz.ntmps102
  go_upto_region 1 with fail
  change Code.wp _ _ _ _ (w.alloc (.cells (blkL b fv av).toArray 59))
  rw [← hw1]
  clear hw1
  go_wp2_with (refine wpLd64 rfl _ rfl rfl HX.out hl ?_)
  go_loop [7] (fun j => ∃ i : Nat, i ≤ 64 ∧ j = .int .i64 i ∧ Hid (slotsLe b.sl b.attrs.length i = true)) (fun j => 64 - (intOf j).toNat)
  case atStart => exact ⟨0, by omega, rfl, Lib.hid rfl⟩
  case round =>
    obtain ⟨i, hi, rfl, HJ⟩ := hrel
    by_cases hlt : i < 64
    · have d1 : decide ((i : Int) < 64) = true := by simp; omega
      have hix := HI.out i hlt w1
      have hbx := okB_get HO.out i
      have HSU : Hid (slotsLe b.sl b.attrs.length (i + 1) = decide (b.sl.getD i 0 ≤ (b.attrs.length : Int))) := Lib.hid (by rw [slotsLe, HJ.out]; rfl)
      generalize b.sl.getD i 0 = x at hix HSU hbx
      have s1 : IntKind.i64.wrap x = x := IntWalk.i64_in _ (by omega)
      by_cases hle : x ≤ (b.attrs.length : Int)
      · have d2 : decide ((b.attrs.length : Int) < x) = false := by simp; omega
        have HS2 : Hid (slotsLe b.sl b.attrs.length (i + 1) = true) := Lib.hid (by rw [HSU.out, decide_eq_true hle])
        clear hle
        go_wp2_with fail
        go_round
        case rel => exact ⟨i + 1, by omega, by go_num, HS2⟩
        case measure => simp [intOf]; omega
      · have d2 : decide ((b.attrs.length : Int) < x) = true := by simp; omega
        have HS2 : Hid (R = false) := Lib.hid (by
          rw [HRR.out]
          unfold rightS
          rw [slotsLe_no (i := i + 1) (by rw [HSU.out, decide_eq_false hle]) (by omega)]
          rfl)
        clear hle
        go_wp2_with fail
        go_ret
        exact ⟨by rw [HS2.out]; rfl, HB.out⟩
    · obtain rfl : i = 64 := by omega
      have HS2 : Hid (R = (((usedN b.sl 64 : Nat) : Int) == ((2 ^ allM (b.attrs.length : Int) - 1 : Nat) : Int))) := Lib.hid (by
        rw [HRR.out]
        unfold rightS
        rw [HJ.out]
        rfl)
      generalize ((usedN b.sl 64 : Nat) : Int) = x at HUS HS2
      generalize ((2 ^ allM (b.attrs.length : Int) - 1 : Nat) : Int) = y at HAL HS2
      go_upto_region 7 with fail
      refine wp_region_held_drew (S := (fun W => Below w1.heap.size w1 W)) (by kernel_rfl) ?_ (fun r0 => ?_)
      · exact ⟨rfl, rfl, rfl, Nat.le_refl _, fun _ _ => rfl⟩
      refine wpAnyH_take (i := 0) (v := _) rfl (by kernel_rfl) (by kernel_rfl) (by kernel_rfl) (fun _ _ _ h => h) (ldBIf (by rfl) _ rfl rfl (fun W hW => HX.out.below hW) hl) (by assumption) ?_
      try simp only [Act.put, List.getElem_toArray, List.getElem_cons_zero, List.setIfInBounds_toArray, List.set_cons_zero, List.set_cons_succ]
      refine wpAnyH_take (i := 2) (v := ?_) rfl (by kernel_rfl) (by kernel_rfl) (by kernel_rfl) (fun _ _ _ h => h) (Or.inl ⟨by rfl, ?_⟩) (by assumption) ?_
      rotate_left
      · intro wS hSw
        (try dsimp only at hSw)
        go_simp
        first | done | with_reducible rfl
      try simp only [Act.put, List.getElem_toArray, List.getElem_cons_succ, List.getElem_cons_zero, List.setIfInBounds_toArray, List.set_cons_zero, List.set_cons_succ]
      refine wpAnyH_take (i := 3) (v := ?_) rfl (by kernel_rfl) (by kernel_rfl) (by kernel_rfl) (fun _ _ _ h => h) (Or.inl ⟨by rfl, ?_⟩) (by assumption) ?_
      rotate_left
      · intro wS hSw
        (try dsimp only at hSw)
        have c67 := bcellB hSw c67
        go_simp
        first | done | with_reducible rfl
      try simp only [Act.put, List.getElem_toArray, List.getElem_cons_succ, List.getElem_cons_zero, List.setIfInBounds_toArray, List.set_cons_zero, List.set_cons_succ]
      refine wpAnyH_take (i := 4) (v := ?_) rfl (by kernel_rfl) (by kernel_rfl) (by kernel_rfl) (fun _ _ _ h => h) (Or.inl ⟨by rfl, ?_⟩) (by assumption) ?_
      rotate_left
      · intro wS hSw
        (try dsimp only at hSw)
        go_simp
        first | done | with_reducible rfl
      try simp only [Act.put, List.getElem_toArray, List.getElem_cons_succ, List.getElem_cons_zero, List.setIfInBounds_toArray, List.set_cons_zero, List.set_cons_succ]
      refine wpAnyH_ready (rs := [1]) (by kernel_rfl) (by simp) ?_
      refine AllReadyH.cons rfl (fun K hK => ?_) AllReadyH.nil
      go_simp
      refine (HUS.out _).mono ?_; rintro x wu ⟨rfl, hbu⟩
      refine hK.out _ _ ?_ (fun r1 => ?_)
      · exact bel r0 hbu
      try simp only [Act.put, List.getElem_toArray, List.getElem_cons_succ, List.getElem_cons_zero, List.setIfInBounds_toArray, List.set_cons_zero, List.set_cons_succ]
      refine wpAnyH_ready (rs := [5]) (by kernel_rfl) (by simp) ?_
      refine AllReadyH.cons rfl (fun K hK => ?_) AllReadyH.nil
      go_simp
      refine (HAL.out _).mono ?_; rintro x wz ⟨rfl, rfl⟩
      refine hK.out _ _ ?_ (fun r2 => ?_)
      · exact r1
      try simp only [Act.put, List.getElem_toArray, List.getElem_cons_succ, List.getElem_cons_zero, List.setIfInBounds_toArray, List.set_cons_zero, List.set_cons_succ]
      refine wpAnyH_take (i := 6) (v := ?_) rfl (by kernel_rfl) (by kernel_rfl) (by kernel_rfl) (fun _ _ _ h => h) (Or.inl ⟨by rfl, ?_⟩) (by assumption) ?_
      rotate_left
      · intro wS hSw
        (try dsimp only at hSw)
        go_simp
        first | done | with_reducible rfl
      try simp only [Act.put, List.getElem_toArray, List.getElem_cons_succ, List.getElem_cons_zero, List.setIfInBounds_toArray, List.set_cons_zero, List.set_cons_succ]
      refine wpAnyH_take (i := 7) (v := ?_) rfl (by kernel_rfl) (by kernel_rfl) (by kernel_rfl) (fun _ _ _ h => h) (Or.inl ⟨by rfl, ?_⟩) (by assumption) ?_
      rotate_left
      · intro wS hSw
        (try dsimp only at hSw)
        go_simp
        first | done | with_reducible rfl
      try simp only [Act.put, List.getElem_toArray, List.getElem_cons_succ, List.getElem_cons_zero, List.setIfInBounds_toArray, List.set_cons_zero, List.set_cons_succ]
      refine wpAnyH_done (by kernel_rfl) ?_ _
      have HBE := Lib.hid (HB.out.trans (r2.mono HB.out.size))
      clear r0 c67
      go_wp2_with fail
      go_ret
      exact ⟨by rw [HS2.out]; rfl, HBE.out⟩
theorem all64 : allM 64 = 64 := rfl
set_option maxRecDepth 100000 in
set_option maxHeartbeats 4000000 in
theorem rightFree_any (b : BlkS) (fv av : Value) (w : World) (hl : b.sl.length = 64) (hfr : Sees w fv b.free) (hfo : okB b.free) (hfl : b.free.length ≤ maxLen) :
    Calls Tryz.prog 103 #[.agg (blkL b fv av).toArray] w fun e w' => e = .returned (.bool (rightF b)) ∧ Below w.heap.size w w' := by
  obtain ⟨w1, hw1⟩ : ∃ w1, w1 = w.alloc (.cells (blkL b fv av).toArray 59) := ⟨_, rfl⟩
  have hx : BlkAt w1 w.heap.size b fv av := by rw [hw1]; exact BlkAt.new w b fv av
  have hb : Below w.heap.size w w1 := by rw [hw1]; exact belNew w _
  have c66 := hx.free hl
  have HX := Lib.hid hx
  have HB := Lib.hid hb
  obtain ⟨fo, fc, hfv, hfc, hfn, hcell⟩ := hfr.keep hb
  have HC := Lib.hid (And.intro hfn hcell)
  have hfl2 : b.free.length ≤ 9223372036854775807 := by unfold maxLen at hfl; omega
  have HLN := Lib.hid (fun w => len_any (rowN b.free b.free.length) (rowN_lt _ _) w)
  have HAL := Lib.hid (fun w => all_any 64 w)
  rw [all64] at HAL
  have HTK := Lib.hid (fun w => taken_any b fv av hl w)
  have HW := Lib.hid (fun (x : Nat) (i : Int) (h : x < M64) (w : World) => with_any x i h w)
  have HO := Lib.hid hfo
  have HAN : Hid (bits .andNot .u64 (((2 ^ 64 - 1 : Nat) : Int)) (((takeN b.sl 64 : Nat) : Int)) = ((18446744073709551615 &&& (18446744073709551615 - takeN b.sl 64) : Nat) : Int)) := Lib.hid (by
    have h1 := takeN_lt b.sl 64
    rw [show (2 ^ 64 - 1 : Nat) = 18446744073709551615 from rfl]
    generalize takeN b.sl 64 = t at h1
    exact u64_andNot_nat 18446744073709551615 t (by decide) h1)
  obtain ⟨R, hR⟩ : ∃ R, R = rightF b := ⟨_, rfl⟩
  rw [← hR]
  have HRR := Lib.hid hR
  rw [hfv] at c66
  clear hx hb hfo hfl hR hfn hcell hfr hfv
  go_enter Tryz.func103, Tryz.ntmps103
  go_upto_region 1 with fail
  change Code.wp _ _ _ _ (w.alloc (.cells (blkL b fv av).toArray 59))
  rw [← hw1]
  clear hw1
  go_wp2_with fail
  go_loop [3, 9] (fun s j => ∃ i : Nat, i ≤ b.free.length ∧ s = .int .u64 ((rowN b.free i : Nat) : Int) ∧ j = .int .i64 i) (fun _ j => b.free.length - (intOf j).toNat)
  case atStart => exact ⟨0, Nat.zero_le _, rfl, rfl⟩
  case round =>
    obtain ⟨i, hi, rfl, rfl⟩ := hrel
    by_cases hlt : i < b.free.length
    · obtain ⟨a, rfl⟩ : ∃ a, fo = some a := by
        cases fo with
        | none => rw [HC.out.1 rfl] at hlt; simp at hlt
        | some a => exact ⟨a, rfl⟩
      have hcl := HC.out.2 a rfl i hlt
      have hbx := okB_get HO.out i
      have HT : Hid (rowN b.free (i + 1) = rowN b.free i ||| oneN (b.free.getD i 0)) := Lib.hid rfl
      have HN := Lib.hid (HW.out (rowN b.free i) (b.free.getD i 0) (rowN_lt _ _))
      generalize b.free.getD i 0 = x at hcl HT HN hbx
      have s1 : IntKind.i64.wrap x = x := IntWalk.i64_in _ (by omega)
      have b0 : (0 : Int) ≤ (i : Int) := by omega
      have b1 : (i : Int) < (b.free.length : Int) := by omega
      go_wp2_with fail
      refine (HN.out _).mono ?_; rintro e w2 ⟨rfl, rfl⟩
      go_wp2_with fail
      go_round
      case rel => exact ⟨i + 1, by omega, by rw [HT.out], by go_num⟩
      case measure => simp [intOf]; omega
    · obtain rfl : i = b.free.length := by omega
      have HFD : Hid (R = ((((mem (rowN b.free b.free.length)).length : Int) == (b.free.length : Int)) && (((rowN b.free b.free.length : Nat) : Int) == ((18446744073709551615 &&& (18446744073709551615 - takeN b.sl 64) : Nat) : Int)))) := HRR
      generalize ((18446744073709551615 &&& (18446744073709551615 - takeN b.sl 64) : Nat) : Int) = z at HFD HAN
      generalize (((2 ^ 64 - 1 : Nat) : Int)) = f at HAL HAN
      generalize ((takeN b.sl 64 : Nat) : Int) = t at HTK HAN
      generalize ((mem (rowN b.free b.free.length)).length : Int) = m at HLN HFD
      generalize ((rowN b.free b.free.length : Nat) : Int) = q at HLN HFD ⊢
      have han := HAN.out
      go_upto_region 7 with fail
      cases hd : (m == (b.free.length : Int)) with
      | false =>
        rw [hd] at HFD
        refine wp_region_held_drew (S := (fun W => Below w1.heap.size w1 W)) (by kernel_rfl) ?_ (fun r0 => ?_)
        · exact ⟨rfl, rfl, rfl, Nat.le_refl _, fun _ _ => rfl⟩
        refine wpAnyH_take (i := 0) (v := ?_) rfl (by kernel_rfl) (by kernel_rfl) (by kernel_rfl) (fun _ _ _ h => h) (Or.inl ⟨by rfl, ?_⟩) (by assumption) ?_
        rotate_left
        · intro wS hSw
          (try dsimp only at hSw)
          go_simp
          first | done | with_reducible rfl
        try simp only [Act.put, List.getElem_toArray, List.getElem_cons_zero, List.setIfInBounds_toArray, List.set_cons_zero, List.set_cons_succ]
        refine wpAnyH_take (i := 2) (v := ?_) rfl (by kernel_rfl) (by kernel_rfl) (by kernel_rfl) (fun _ _ _ h => h) (Or.inl ⟨by rfl, ?_⟩) (by assumption) ?_
        rotate_left
        · intro wS hSw
          (try dsimp only at hSw)
          go_simp
          first | done | with_reducible rfl
        try simp only [Act.put, List.getElem_toArray, List.getElem_cons_succ, List.getElem_cons_zero, List.setIfInBounds_toArray, List.set_cons_zero, List.set_cons_succ]
        refine wpAnyH_take (i := 3) (v := ?_) rfl (by kernel_rfl) (by kernel_rfl) (by kernel_rfl) (fun _ _ _ h => h) (Or.inl ⟨by rfl, ?_⟩) (by assumption) ?_
        rotate_left
        · intro wS hSw
          (try dsimp only at hSw)
          have c66 := bcellB hSw c66
          go_simp
          first | done | with_reducible rfl
        try simp only [Act.put, List.getElem_toArray, List.getElem_cons_succ, List.getElem_cons_zero, List.setIfInBounds_toArray, List.set_cons_zero, List.set_cons_succ]
        refine wpAnyH_take (i := 4) (v := ?_) rfl (by kernel_rfl) (by kernel_rfl) (by kernel_rfl) (fun _ _ _ h => h) (Or.inl ⟨by rfl, ?_⟩) (by assumption) ?_
        rotate_left
        · intro wS hSw
          (try dsimp only at hSw)
          go_simp
          first | done | with_reducible rfl
        try simp only [Act.put, List.getElem_toArray, List.getElem_cons_succ, List.getElem_cons_zero, List.setIfInBounds_toArray, List.set_cons_zero, List.set_cons_succ]
        refine wpAnyH_ready (rs := [1]) (by kernel_rfl) (by simp) ?_
        refine AllReadyH.cons rfl (fun K hK => ?_) AllReadyH.nil
        go_simp
        refine (HLN.out _).mono ?_; rintro x wz ⟨rfl, rfl⟩
        refine hK.out _ _ ?_ (fun r1 => ?_)
        · exact r0
        try simp only [Act.put, List.getElem_toArray, List.getElem_cons_succ, List.getElem_cons_zero, List.setIfInBounds_toArray, List.set_cons_zero, List.set_cons_succ]
        refine wpAnyH_take (i := 5) (v := ?_) rfl (by kernel_rfl) (by kernel_rfl) (by kernel_rfl) (fun _ _ _ h => h) (Or.inl ⟨by rfl, ?_⟩) (by assumption) ?_
        rotate_left
        · intro wS hSw
          (try dsimp only at hSw)
          go_simp
          first | done | with_reducible rfl
        try simp only [Act.put, List.getElem_toArray, List.getElem_cons_succ, List.getElem_cons_zero, List.setIfInBounds_toArray, List.set_cons_zero, List.set_cons_succ]
        refine wpAnyH_take (i := 6) (v := ?_) rfl (by kernel_rfl) (by kernel_rfl) (by kernel_rfl) (fun _ _ _ h => h) (Or.inl ⟨by rfl, ?_⟩) (by assumption) ?_
        rotate_left
        · intro wS hSw
          (try dsimp only at hSw)
          go_simp
          first | done | with_reducible rfl
        try simp only [Act.put, List.getElem_toArray, List.getElem_cons_succ, List.getElem_cons_zero, List.setIfInBounds_toArray, List.set_cons_zero, List.set_cons_succ]
        refine wpAnyH_take (i := 7) (v := undef) rfl (by kernel_rfl) (by kernel_rfl) (by kernel_rfl) (fun _ _ _ h => h) (Or.inr ⟨by rfl, rfl⟩) (by assumption) ?_
        try simp only [Act.put, List.getElem_toArray, List.getElem_cons_succ, List.getElem_cons_zero, List.setIfInBounds_toArray, List.set_cons_zero, List.set_cons_succ]
        refine wpAnyH_take (i := 8) (v := undef) rfl (by kernel_rfl) (by kernel_rfl) (by kernel_rfl) (fun _ _ _ h => h) (Or.inr ⟨by rfl, rfl⟩) (by assumption) ?_
        try simp only [Act.put, List.getElem_toArray, List.getElem_cons_succ, List.getElem_cons_zero, List.setIfInBounds_toArray, List.set_cons_zero, List.set_cons_succ]
        refine wpAnyH_take (i := 9) (v := undef) rfl (by kernel_rfl) (by kernel_rfl) (by kernel_rfl) (fun _ _ _ h => h) (Or.inr ⟨by rfl, rfl⟩) (by assumption) ?_
        try simp only [Act.put, List.getElem_toArray, List.getElem_cons_succ, List.getElem_cons_zero, List.setIfInBounds_toArray, List.set_cons_zero, List.set_cons_succ]
        refine wpAnyH_take (i := 10) (v := undef) rfl (by kernel_rfl) (by kernel_rfl) (by kernel_rfl) (fun _ _ _ h => h) (Or.inr ⟨by rfl, rfl⟩) (by assumption) ?_
        try simp only [Act.put, List.getElem_toArray, List.getElem_cons_succ, List.getElem_cons_zero, List.setIfInBounds_toArray, List.set_cons_zero, List.set_cons_succ]
        refine wpAnyH_take (i := 11) (v := undef) rfl (by kernel_rfl) (by kernel_rfl) (by kernel_rfl) (fun _ _ _ h => h) (Or.inr ⟨by rfl, rfl⟩) (by assumption) ?_
        try simp only [Act.put, List.getElem_toArray, List.getElem_cons_succ, List.getElem_cons_zero, List.setIfInBounds_toArray, List.set_cons_zero, List.set_cons_succ]
        refine wpAnyH_take (i := 12) (v := undef) rfl (by kernel_rfl) (by kernel_rfl) (by kernel_rfl) (fun _ _ _ h => h) (Or.inr ⟨by rfl, rfl⟩) (by assumption) ?_
        try simp only [Act.put, List.getElem_toArray, List.getElem_cons_succ, List.getElem_cons_zero, List.setIfInBounds_toArray, List.set_cons_zero, List.set_cons_succ]
        refine wpAnyH_take (i := 13) (v := ?_) rfl (by kernel_rfl) (by kernel_rfl) (by kernel_rfl) (fun _ _ _ h => h) (Or.inl ⟨by rfl, ?_⟩) (by assumption) ?_
        rotate_left
        · intro wS hSw
          (try dsimp only at hSw)
          go_simp
          first | done | with_reducible rfl
        try simp only [Act.put, List.getElem_toArray, List.getElem_cons_succ, List.getElem_cons_zero, List.setIfInBounds_toArray, List.set_cons_zero, List.set_cons_succ]
        refine wpAnyH_take (i := 14) (v := ?_) rfl (by kernel_rfl) (by kernel_rfl) (by kernel_rfl) (fun _ _ _ h => h) (Or.inl ⟨by rfl, ?_⟩) (by assumption) ?_
        rotate_left
        · intro wS hSw
          (try dsimp only at hSw)
          go_simp
          first | done | with_reducible rfl
        try simp only [Act.put, List.getElem_toArray, List.getElem_cons_succ, List.getElem_cons_zero, List.setIfInBounds_toArray, List.set_cons_zero, List.set_cons_succ]
        refine wpAnyH_done (by kernel_rfl) ?_ _
        have HBE := Lib.hid (HB.out.trans (r1.mono HB.out.size))
        clear r0 c66
        go_wp2_with fail
        go_ret
        exact ⟨by rw [HFD.out]; rfl, HBE.out⟩
      | true =>
        rw [hd] at HFD
        refine wp_region_held_drew (S := (fun W => Below w1.heap.size w1 W)) (by kernel_rfl) ?_ (fun r0 => ?_)
        · exact ⟨rfl, rfl, rfl, Nat.le_refl _, fun _ _ => rfl⟩
        refine wpAnyH_take (i := 0) (v := ?_) rfl (by kernel_rfl) (by kernel_rfl) (by kernel_rfl) (fun _ _ _ h => h) (Or.inl ⟨by rfl, ?_⟩) (by assumption) ?_
        rotate_left
        · intro wS hSw
          (try dsimp only at hSw)
          go_simp
          first | done | with_reducible rfl
        try simp only [Act.put, List.getElem_toArray, List.getElem_cons_zero, List.setIfInBounds_toArray, List.set_cons_zero, List.set_cons_succ]
        refine wpAnyH_take (i := 2) (v := ?_) rfl (by kernel_rfl) (by kernel_rfl) (by kernel_rfl) (fun _ _ _ h => h) (Or.inl ⟨by rfl, ?_⟩) (by assumption) ?_
        rotate_left
        · intro wS hSw
          (try dsimp only at hSw)
          go_simp
          first | done | with_reducible rfl
        try simp only [Act.put, List.getElem_toArray, List.getElem_cons_succ, List.getElem_cons_zero, List.setIfInBounds_toArray, List.set_cons_zero, List.set_cons_succ]
        refine wpAnyH_take (i := 3) (v := ?_) rfl (by kernel_rfl) (by kernel_rfl) (by kernel_rfl) (fun _ _ _ h => h) (Or.inl ⟨by rfl, ?_⟩) (by assumption) ?_
        rotate_left
        · intro wS hSw
          (try dsimp only at hSw)
          have c66 := bcellB hSw c66
          go_simp
          first | done | with_reducible rfl
        try simp only [Act.put, List.getElem_toArray, List.getElem_cons_succ, List.getElem_cons_zero, List.setIfInBounds_toArray, List.set_cons_zero, List.set_cons_succ]
        refine wpAnyH_take (i := 4) (v := ?_) rfl (by kernel_rfl) (by kernel_rfl) (by kernel_rfl) (fun _ _ _ h => h) (Or.inl ⟨by rfl, ?_⟩) (by assumption) ?_
        rotate_left
        · intro wS hSw
          (try dsimp only at hSw)
          go_simp
          first | done | with_reducible rfl
        try simp only [Act.put, List.getElem_toArray, List.getElem_cons_succ, List.getElem_cons_zero, List.setIfInBounds_toArray, List.set_cons_zero, List.set_cons_succ]
        refine wpAnyH_ready (rs := [1]) (by kernel_rfl) (by simp) ?_
        refine AllReadyH.cons rfl (fun K hK => ?_) AllReadyH.nil
        go_simp
        refine (HLN.out _).mono ?_; rintro x wz ⟨rfl, rfl⟩
        refine hK.out _ _ ?_ (fun r1 => ?_)
        · exact r0
        try simp only [Act.put, List.getElem_toArray, List.getElem_cons_succ, List.getElem_cons_zero, List.setIfInBounds_toArray, List.set_cons_zero, List.set_cons_succ]
        refine wpAnyH_take (i := 5) (v := ?_) rfl (by kernel_rfl) (by kernel_rfl) (by kernel_rfl) (fun _ _ _ h => h) (Or.inl ⟨by rfl, ?_⟩) (by assumption) ?_
        rotate_left
        · intro wS hSw
          (try dsimp only at hSw)
          go_simp
          first | done | with_reducible rfl
        try simp only [Act.put, List.getElem_toArray, List.getElem_cons_succ, List.getElem_cons_zero, List.setIfInBounds_toArray, List.set_cons_zero, List.set_cons_succ]
        refine wpAnyH_take (i := 6) (v := ?_) rfl (by kernel_rfl) (by kernel_rfl) (by kernel_rfl) (fun _ _ _ h => h) (Or.inl ⟨by rfl, ?_⟩) (by assumption) ?_
        rotate_left
        · intro wS hSw
          (try dsimp only at hSw)
          go_simp
          first | done | with_reducible rfl
        try simp only [Act.put, List.getElem_toArray, List.getElem_cons_succ, List.getElem_cons_zero, List.setIfInBounds_toArray, List.set_cons_zero, List.set_cons_succ]
        refine wpAnyH_take (i := 7) (v := ?_) rfl (by kernel_rfl) (by kernel_rfl) (by kernel_rfl) (fun _ _ _ h => h) (Or.inl ⟨by rfl, ?_⟩) (by assumption) ?_
        rotate_left
        · intro wS hSw
          (try dsimp only at hSw)
          go_simp
          first | done | with_reducible rfl
        try simp only [Act.put, List.getElem_toArray, List.getElem_cons_succ, List.getElem_cons_zero, List.setIfInBounds_toArray, List.set_cons_zero, List.set_cons_succ]
        refine wpAnyH_take (i := 9) (v := _) rfl (by kernel_rfl) (by kernel_rfl) (by kernel_rfl) (fun _ _ _ h => h) (ldBIf (by rfl) _ rfl rfl (fun W hW => HX.out.below hW) hl) (by assumption) ?_
        try simp only [Act.put, List.getElem_toArray, List.getElem_cons_succ, List.getElem_cons_zero, List.setIfInBounds_toArray, List.set_cons_zero, List.set_cons_succ]
        refine wpAnyH_ready (rs := [8]) (by kernel_rfl) (by simp) ?_
        refine AllReadyH.cons rfl (fun K hK => ?_) AllReadyH.nil
        go_simp
        refine (HAL.out _).mono ?_; rintro x wz2 ⟨rfl, rfl⟩
        refine hK.out _ _ ?_ (fun r2 => ?_)
        · exact r1
        try simp only [Act.put, List.getElem_toArray, List.getElem_cons_succ, List.getElem_cons_zero, List.setIfInBounds_toArray, List.set_cons_zero, List.set_cons_succ]
        refine wpAnyH_ready (rs := [10]) (by kernel_rfl) (by simp) ?_
        refine AllReadyH.cons rfl (fun K hK => ?_) AllReadyH.nil
        go_simp
        refine (HTK.out _).mono ?_; rintro x wt ⟨rfl, hbt⟩
        refine hK.out _ _ ?_ (fun r3 => ?_)
        · exact bel r2 hbt
        try simp only [Act.put, List.getElem_toArray, List.getElem_cons_succ, List.getElem_cons_zero, List.setIfInBounds_toArray, List.set_cons_zero, List.set_cons_succ]
        refine wpAnyH_take (i := 11) (v := ?_) rfl (by kernel_rfl) (by kernel_rfl) (by kernel_rfl) (fun _ _ _ h => h) (Or.inl ⟨by rfl, ?_⟩) (by assumption) ?_
        rotate_left
        · intro wS hSw
          (try dsimp only at hSw)
          go_simp
          first | done | with_reducible rfl
        try simp only [Act.put, List.getElem_toArray, List.getElem_cons_succ, List.getElem_cons_zero, List.setIfInBounds_toArray, List.set_cons_zero, List.set_cons_succ]
        refine wpAnyH_take (i := 12) (v := ?_) rfl (by kernel_rfl) (by kernel_rfl) (by kernel_rfl) (fun _ _ _ h => h) (Or.inl ⟨by rfl, ?_⟩) (by assumption) ?_
        rotate_left
        · intro wS hSw
          (try dsimp only at hSw)
          go_simp
          first | done | with_reducible rfl
        try simp only [Act.put, List.getElem_toArray, List.getElem_cons_succ, List.getElem_cons_zero, List.setIfInBounds_toArray, List.set_cons_zero, List.set_cons_succ]
        refine wpAnyH_take (i := 13) (v := ?_) rfl (by kernel_rfl) (by kernel_rfl) (by kernel_rfl) (fun _ _ _ h => h) (Or.inl ⟨by rfl, ?_⟩) (by assumption) ?_
        rotate_left
        · intro wS hSw
          (try dsimp only at hSw)
          go_simp
          first | done | with_reducible rfl
        try simp only [Act.put, List.getElem_toArray, List.getElem_cons_succ, List.getElem_cons_zero, List.setIfInBounds_toArray, List.set_cons_zero, List.set_cons_succ]
        refine wpAnyH_take (i := 14) (v := ?_) rfl (by kernel_rfl) (by kernel_rfl) (by kernel_rfl) (fun _ _ _ h => h) (Or.inl ⟨by rfl, ?_⟩) (by assumption) ?_
        rotate_left
        · intro wS hSw
          (try dsimp only at hSw)
          go_simp
          first | done | with_reducible rfl
        try simp only [Act.put, List.getElem_toArray, List.getElem_cons_succ, List.getElem_cons_zero, List.setIfInBounds_toArray, List.set_cons_zero, List.set_cons_succ]
        refine wpAnyH_done (by kernel_rfl) ?_ _
        have HBE := Lib.hid (HB.out.trans (r3.mono HB.out.size))
        clear r0 c66
        go_wp2_with fail
        go_ret
        exact ⟨by rw [HFD.out]; rfl, HBE.out⟩
end Go.Proofs.YtlbgjmnihenmaaaGreatDoor
