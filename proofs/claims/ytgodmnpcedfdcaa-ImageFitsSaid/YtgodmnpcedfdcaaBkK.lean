/- Package block: under which attribute an address is given. -/
import Derived.Test.YtgodmnpcedfdcaaBkJ
namespace Go.Proofs.Ytgodmnpcedfdcaa
open Go.RowKit
abbrev em : ByteArray := ⟨#[]⟩
theorem atO_froz {w : World} {g : Nat} {p : PA} {t : TypeId} (h : w.heap[g]? = some (.cells #[.string p.1, .string p.2] t (0, 0))) (i : Nat) : w.frozen? ⟨g, i, none⟩ = false := by simp [World.frozen?, h]
theorem atO_set2 {w : World} {g : Nat} {p : PA} {t : TypeId} (h : w.heap[g]? = some (.cells #[.string p.1, .string p.2] t (0, 0))) (x y : ByteArray) : ((w.setCell ⟨g, 0, none⟩ (.string x)).setCell ⟨g, 1, none⟩ (.string y)).heap[g]? = some (.cells #[.string x, .string y] t (0, 0)) := by
  simp [World.setCell, Array.getElem?_modify]
  simp [h]
/-- Under which attribute an address is given, if it is. -/
def undP (b : BlkS) (x : Int) : PA × Bool := if inB b.addr x = true ∧ b.sl.getD (x - b.addr).toNat 0 ≠ 0 then (atA b.attrs (b.sl.getD (x - b.addr).toNat 0 - 1).toNat, true) else ((em, em), false)
set_option maxRecDepth 100000 in
set_option maxHeartbeats 8000000 in
theorem under_any (b : BlkS) (fv av : Value) (x : Int) (w : World) (ha : SeesA w av b.attrs) (hl : b.sl.length = 64) (hb : 0 ≤ b.addr ∧ b.addr < 4294967296) (hx : 0 ≤ x) (hx' : x < 4294967296) (hsl : ∀ i, 0 ≤ b.sl.getD i 0 ∧ b.sl.getD i 0 ≤ b.attrs.length) (hal : b.attrs.length ≤ 64) :
    Calls Try.prog 57 #[.agg (blkL b fv av).toArray, .int .u32 x] w fun e w' => e = .returned (.tuple #[atV (undP b x).1, .bool (undP b x).2]) ∧ Below w.heap.size w w' := by
  obtain ⟨W, hW⟩ : ∃ W, W = (w.alloc (blkO b fv av)).alloc (atO (em, em)) := ⟨_, rfl⟩
  obtain ⟨hb0, hA, hR, hsz⟩ := two_newB w (blkO b fv av) (atO (em, em))
  rw [← hW] at hb0 hA hR hsz
  have HXc : Hid (BlkAt W w.heap.size b fv av) := Lib.hid hA
  have HRc := Lib.hid hR
  have HBc := Lib.hid hb0
  have HS := Lib.hid (slotOf_any b fv av hb x hx hx' W)
  have HW := Lib.hid hW
  have HSA := Lib.hid ha
  have hin : inB b.addr x = true → 0 ≤ x - b.addr ∧ x - b.addr < 64 := fun h => by
    unfold inB at h
    have := of_decide_eq_true h
    omega
  have hud : undP b x = if inB b.addr x = true ∧ b.sl.getD (x - b.addr).toNat 0 ≠ 0 then (atA b.attrs (b.sl.getD (x - b.addr).toNat 0 - 1).toNat, true) else ((em, em), false) := rfl
  generalize undP b x = U at *
  cases hq : inB b.addr x with
  | false =>
    rw [hq] at HS hud
    rw [if_neg (by simp)] at hud
    rw [if_neg (by simp)] at HS
    have HU := Lib.hid hud
    clear hW hb0 hA hR hsz ha hin hud hq hsl hb
    go_enter Try.func57, Try.ntmps57
    go_upto_region 1 with fail
    change Code.wp _ _ _ _ ((w.alloc (blkO b fv av)).alloc (atO (em, em)))
    rw [← HW.out]
    clear HW
    go_wp2_with (refine wpLdB rfl _ rfl rfl HXc.out hl ?_)
    refine HS.out.mono ?_; rintro e w1 ⟨rfl, hb1⟩
    have HB1 := Lib.hid (HBc.out.trans (hb1.mono HBc.out.size))
    have hr1 := (hb1.block _ (heap_lt HRc.out)).trans HRc.out
    have k0 := (cells2 hr1).1
    have k1 := (cells2 hr1).2
    have f0 := atO_froz hr1 0
    have f1 := atO_froz hr1 1
    have c0 := (cells2 (atO_set2 hr1 em em)).1
    have c1 := (cells2 (atO_set2 hr1 em em)).2
    clear hb1 hr1
    go_wp2_with fail
    refine bodyPost_ret (v := .tuple #[atV (em, em), .bool false]) ?_ rfl ⟨by rw [HU.out], (HB1.out.setCell (p := ⟨w.heap.size + 1, 0, none⟩) (Nat.le_succ _) _).setCell (p := ⟨w.heap.size + 1, 1, none⟩) (Nat.le_succ _) _⟩
    simp [results, Try.results57, go_sem, c0, c1]
  | true =>
    obtain ⟨i0, i1⟩ := hin hq
    rw [hq] at HS hud
    rw [if_pos rfl] at HS
    obtain ⟨i, hi⟩ := Int.eq_ofNat_of_zero_le i0
    have hi2 : i < 64 := by omega
    rw [hi] at HS hud
    rw [Int.toNat_natCast] at hud
    have hsi := hsl i
    have hgi := get64 hl hi2
    generalize b.sl.getD i 0 = k at *
    have b0 : (0 : Int) ≤ (i : Int) := by omega
    have b1 : (i : Int) < 64 := by omega
    by_cases hk : k = 0
    · subst hk
      rw [if_neg (by simp)] at hud
      have HU := Lib.hid hud
      clear hW hb0 hA hR hsz ha hin hud hq hsl hb i0 i1 hi hsi
      go_enter Try.func57, Try.ntmps57
      go_upto_region 1 with fail
      change Code.wp _ _ _ _ ((w.alloc (blkO b fv av)).alloc (atO (em, em)))
      rw [← HW.out]
      clear HW
      go_wp2_with (refine wpLdB rfl _ rfl rfl HXc.out hl ?_)
      refine HS.out.mono ?_; rintro e w1 ⟨rfl, hb1⟩
      have HB1 := Lib.hid (HBc.out.trans (hb1.mono HBc.out.size))
      have hr1 := (hb1.block _ (heap_lt HRc.out)).trans HRc.out
      have ks := (HXc.out.below hb1).slot hgi
      rw [Nat.add_comm] at ks
      have k0 := (cells2 hr1).1
      have k1 := (cells2 hr1).2
      have f0 := atO_froz hr1 0
      have f1 := atO_froz hr1 1
      have c0 := (cells2 (atO_set2 hr1 em em)).1
      have c1 := (cells2 (atO_set2 hr1 em em)).2
      clear hb1 hr1 hgi
      go_wp2_with fail
      refine bodyPost_ret (v := .tuple #[atV (em, em), .bool false]) ?_ rfl ⟨by rw [HU.out], (HB1.out.setCell (p := ⟨w.heap.size + 1, 0, none⟩) (Nat.le_succ _) _).setCell (p := ⟨w.heap.size + 1, 1, none⟩) (Nat.le_succ _) _⟩
      simp [results, Try.results57, go_sem, c0, c1]
    · rw [if_pos ⟨rfl, hk⟩] at hud
      obtain ⟨j, hj⟩ := Int.eq_ofNat_of_zero_le (show 0 ≤ k - 1 by omega)
      have hjl : j < b.attrs.length := by omega
      rw [hj, Int.toNat_natCast] at hud
      have HU := Lib.hid hud
      have dk : (k == 0) = false := by simpa using hk
      have hw1 : IntKind.u8.wrap (k - 1) = (j : Int) := by rw [IntKind.wrap_u8]; omega
      have j0 : (0 : Int) ≤ (j : Int) := by omega
      have j1 : (j : Int) < (b.attrs.length : Int) := by omega
      have HSL := Lib.hid hgi
      obtain ⟨ao, ac, rfl, -, hnil, -⟩ := id ha
      obtain ⟨ad, rfl⟩ : ∃ ad, ao = some ad := by
        cases ao with
        | none => rw [hnil rfl] at hjl; simp at hjl
        | some ad => exact ⟨ad, rfl⟩
      generalize hp : atA b.attrs j = p at *
      have HAT : Hid (∀ X, Below w.heap.size w X → X.cell? (ad.add (j * 2)) = some (.string p.1) ∧ X.cell? ((ad.add (j * 2)).add 1) = some (.string p.2)) := Lib.hid (fun X hX => by
        obtain ⟨ao', c', e, -, -, hc⟩ := HSA.out.below hX
        obtain rfl : ao' = some ad := by cases e; rfl
        exact hc ad rfl j p (by rw [← hp]; exact atA_get hjl))
      clear hW hb0 hA hR hsz ha hin hud hq hsl hb i0 i1 hi hsi hk hj hjl hp hnil
      go_enter Try.func57, Try.ntmps57
      go_upto_region 1 with fail
      change Code.wp _ _ _ _ ((w.alloc (blkO b _ _)).alloc (atO (em, em)))
      rw [← HW.out]
      clear HW
      go_wp2_with (refine wpLdB rfl _ rfl rfl HXc.out hl ?_)
      refine HS.out.mono ?_; rintro e w1 ⟨rfl, hb1⟩
      have HBc : Hid (Below w.heap.size w w1.drew) := Lib.hid (by
        have h := HBc.out.trans (hb1.mono HBc.out.size)
        exact ⟨h.os, h.tape, h.output, h.size, h.block⟩)
      have hr1 := (hb1.block _ (heap_lt HRc.out)).trans HRc.out
      have ks := (HXc.out.below hb1).slot hgi
      rw [Nat.add_comm] at ks
      have HXc : Hid (BlkAt w1.drew w.heap.size b fv _) := Lib.hid (show BlkAt w1 w.heap.size b fv _ from HXc.out.below hb1)
      have HRw := Lib.hid hr1
      have HRc : Hid (w1.drew.heap[w.heap.size + 1]? = some (atO (em, em))) := Lib.hid hr1
      clear hb1 hr1 hgi
      go_upto_region 4 with fail
      refine wp_region_held_drew (S := (fun X => Below w.heap.size w X ∧ BlkAt X w.heap.size b fv (.slice (some ad) b.attrs.length ac))) (by kernel_rfl) ?_ (fun r0 => ?_)
      · exact ⟨HBc.out, HXc.out⟩
      refine wpAnyH_take (i := 0) (v := ?_) rfl (by kernel_rfl) (by kernel_rfl) (by kernel_rfl) (fun _ _ _ h => h) (Or.inl ⟨by rfl, ?_⟩) (by assumption) ?_
      rotate_left
      · intro wS hSw
        (try dsimp only at hSw)
        go_simp
        first | done | with_reducible rfl
      try simp only [Act.put, List.getElem_toArray, List.getElem_cons_succ, List.getElem_cons_zero, List.setIfInBounds_toArray, List.set_cons_zero, List.set_cons_succ]
      refine wpAnyH_take (i := 1) (v := ?_) rfl (by kernel_rfl) (by kernel_rfl) (by kernel_rfl) (fun _ _ _ h => h) (Or.inl ⟨by rfl, ?_⟩) (by assumption) ?_
      rotate_left
      · intro wS hSw
        (try dsimp only at hSw)
        have k := hSw.2.attrs hl
        go_simp
        first | done | with_reducible rfl
      try simp only [Act.put, List.getElem_toArray, List.getElem_cons_succ, List.getElem_cons_zero, List.setIfInBounds_toArray, List.set_cons_zero, List.set_cons_succ]
      refine wpAnyH_take (i := 2) (v := ?_) rfl (by kernel_rfl) (by kernel_rfl) (by kernel_rfl) (fun _ _ _ h => h) (Or.inl ⟨by rfl, ?_⟩) (by assumption) ?_
      rotate_left
      · intro wS hSw
        (try dsimp only at hSw)
        go_simp
        first | done | with_reducible rfl
      try simp only [Act.put, List.getElem_toArray, List.getElem_cons_succ, List.getElem_cons_zero, List.setIfInBounds_toArray, List.set_cons_zero, List.set_cons_succ]
      refine wpAnyH_take (i := 3) (v := ?_) rfl (by kernel_rfl) (by kernel_rfl) (by kernel_rfl) (fun _ _ _ h => h) (Or.inl ⟨by rfl, ?_⟩) (by assumption) ?_
      rotate_left
      · intro wS hSw
        (try dsimp only at hSw)
        go_simp
        first | done | with_reducible rfl
      try simp only [Act.put, List.getElem_toArray, List.getElem_cons_succ, List.getElem_cons_zero, List.setIfInBounds_toArray, List.set_cons_zero, List.set_cons_succ]
      refine wpAnyH_take (i := 4) (v := ?_) rfl (by kernel_rfl) (by kernel_rfl) (by kernel_rfl) (fun _ _ _ h => h) (Or.inl ⟨by rfl, ?_⟩) (by assumption) ?_
      rotate_left
      · intro wS hSw
        (try dsimp only at hSw)
        go_simp
        first | done | with_reducible rfl
      try simp only [Act.put, List.getElem_toArray, List.getElem_cons_succ, List.getElem_cons_zero, List.setIfInBounds_toArray, List.set_cons_zero, List.set_cons_succ]
      refine wpAnyH_take (i := 5) (v := ?_) rfl (by kernel_rfl) (by kernel_rfl) (by kernel_rfl) (fun _ _ _ h => h) (Or.inl ⟨by rfl, ?_⟩) (by assumption) ?_
      rotate_left
      · intro wS hSw
        (try dsimp only at hSw)
        have k := hSw.2.slot HSL.out
        rw [Nat.add_comm] at k
        go_simp
        first | done | with_reducible rfl
      try simp only [Act.put, List.getElem_toArray, List.getElem_cons_succ, List.getElem_cons_zero, List.setIfInBounds_toArray, List.set_cons_zero, List.set_cons_succ]
      refine wpAnyH_take (i := 6) (v := ?_) rfl (by kernel_rfl) (by kernel_rfl) (by kernel_rfl) (fun _ _ _ h => h) (Or.inl ⟨by rfl, ?_⟩) (by assumption) ?_
      rotate_left
      · intro wS hSw
        (try dsimp only at hSw)
        go_simp
        first | done | with_reducible rfl
      try simp only [Act.put, List.getElem_toArray, List.getElem_cons_succ, List.getElem_cons_zero, List.setIfInBounds_toArray, List.set_cons_zero, List.set_cons_succ]
      refine wpAnyH_take (i := 7) (v := ?_) rfl (by kernel_rfl) (by kernel_rfl) (by kernel_rfl) (fun _ _ _ h => h) (Or.inl ⟨by rfl, ?_⟩) (by assumption) ?_
      rotate_left
      · intro wS hSw
        (try dsimp only at hSw)
        go_simp
        first | done | with_reducible rfl
      try simp only [Act.put, List.getElem_toArray, List.getElem_cons_succ, List.getElem_cons_zero, List.setIfInBounds_toArray, List.set_cons_zero, List.set_cons_succ]
      refine wpAnyH_take (i := 8) (v := ?_) rfl (by kernel_rfl) (by kernel_rfl) (by kernel_rfl) (fun _ _ _ h => h) (Or.inl ⟨by rfl, ?_⟩) (by assumption) ?_
      rotate_left
      · intro wS hSw
        (try dsimp only at hSw)
        have k0 := HAT.out wS hSw.1
        obtain ⟨k0, k1⟩ := k0
        have k1 := ofsA k1
        go_simp
        first | done | with_reducible rfl
      try simp only [Act.put, List.getElem_toArray, List.getElem_cons_succ, List.getElem_cons_zero, List.setIfInBounds_toArray, List.set_cons_zero, List.set_cons_succ]
      refine wpAnyH_ready (rs := [9]) (by kernel_rfl) (by simp) ?_
      refine AllReadyH.cons rfl (fun K hK => ?_) AllReadyH.nil
      have k0 := (cells2 HRw.out).1
      have k1 := (cells2 HRw.out).2
      have f0 := atO_froz HRw.out 0
      have f1 := atO_froz HRw.out 1
      go_simp
      refine hK.out _ _ ?_ (fun rN => ?_)
      · exact ⟨(HBc.out.setCell (p := ⟨w.heap.size + 1, 0, none⟩) (Nat.le_succ _) _).setCell (p := ⟨w.heap.size + 1, 1, none⟩) (Nat.le_succ _) _, blk_setO (blk_setO HXc.out (a := ⟨w.heap.size + 1, 0, none⟩) (Nat.ne_of_lt (Nat.lt_succ_self _)) _) (a := ⟨w.heap.size + 1, 1, none⟩) (Nat.ne_of_lt (Nat.lt_succ_self _)) _⟩
      try simp only [Act.put, List.getElem_toArray, List.getElem_cons_succ, List.getElem_cons_zero, List.setIfInBounds_toArray, List.set_cons_zero, List.set_cons_succ]
      refine wpAnyH_take (i := 10) (v := ?_) rfl (by kernel_rfl) (by kernel_rfl) (by kernel_rfl) (fun _ _ _ h => h) (Or.inl ⟨by rfl, ?_⟩) (by assumption) ?_
      rotate_left
      · intro wS hSw
        (try dsimp only at hSw)
        go_simp
        first | done | with_reducible rfl
      try simp only [Act.put, List.getElem_toArray, List.getElem_cons_succ, List.getElem_cons_zero, List.setIfInBounds_toArray, List.set_cons_zero, List.set_cons_succ]
      refine wpAnyH_done (by kernel_rfl) ?_ _
      have HRn := Lib.hid (atO_set2 HRw.out p.1 p.2)
      have HBn := Lib.hid rN.1
      go_wp2_with fail
      have c0 := (cells2 HRn.out).1
      have c1 := (cells2 HRn.out).2
      refine bodyPost_ret (v := .tuple #[atV p, .bool true]) ?_ rfl ⟨by rw [HU.out], HBn.out⟩
      simp [results, Try.results57, go_sem, c0, c1]
end Go.Proofs.Ytgodmnpcedfdcaa
