/- Joined: BkK BkL. -/
import Derived.Test.YtgodmnpcedfdcaaGreatJR
namespace Go.Proofs.YtgodmnpcedfdcaaGreat
section
open Go.RowKit
abbrev em : ByteArray := ⟨#[]⟩
theorem atO_froz {w : World} {g : Nat} {p : PA} {t : TypeId} (h : w.heap[g]? = some (.cells #[.string p.1, .string p.2] t (0, 0))) (i : Nat) : w.frozen? ⟨g, i, none⟩ = false := by simp [World.frozen?, h]
theorem atO_set2 {w : World} {g : Nat} {p : PA} {t : TypeId} (h : w.heap[g]? = some (.cells #[.string p.1, .string p.2] t (0, 0))) (x y : ByteArray) : ((w.setCell ⟨g, 0, none⟩ (.string x)).setCell ⟨g, 1, none⟩ (.string y)).heap[g]? = some (.cells #[.string x, .string y] t (0, 0)) := by
  simp [World.setCell, Array.getElem?_modify]
  simp [h]
/-- Under which attribute an address is given, if it is. -/
def undP (b : BlkS) (x : Int) : PA × Bool := if inB b.addr x = true ∧ b.sl.getD (x - b.addr).toNat 0 ≠ 0 then (atA b.attrs (b.sl.getD (x - b.addr).toNat 0 - 1).toNat, true) else ((em, em), false)
set_option maxRecDepth 100000 in
set_option maxHeartbeats 8000000 in
theorem under_any (b : BlkS) (fv av : Value) (x : Int) (w : World) (ha : SeesA w av b.attrs) (hl : b.sl.length = 64) (hb : 0 ≤ b.addr ∧ b.addr < 4294967296) (hx : 0 ≤ x) (hx' : x < 4294967296) (hsl : ∀ i, 0 ≤ b.sl.getD i 0 ∧ b.sl.getD i 0 ≤ b.attrs.length) (hal : b.attrs.length ≤ 64) :
    Calls Tryz.prog 82 #[.agg (blkL b fv av).toArray, .int .u32 x] w fun e w' => e = .returned (.tuple #[atV (undP b x).1, .bool (undP b x).2]) ∧ Below w.heap.size w w' := by
  obtain ⟨W, hW⟩ : ∃ W, W = (w.alloc (blkO b fv av)).alloc (atO (em, em)) := ⟨_, rfl⟩
  obtain ⟨hb0, hA, hR, hsz⟩ := two_newB w (blkO b fv av) (atO (em, em))
  rw [← hW] at hb0 hA hR hsz
  have HXc : Hid (BlkAt W w.heap.size b fv av) := Lib.hid hA
  have HRc := Lib.hid hR
  have HBc := Lib.hid hb0
  have HS := Lib.hid (slotOf_any b fv av hb x hx hx' W)
  have HW := Lib.hid hW
  have HSA := Lib.hid ha
  have hin : inB b.addr x = true → 0 ≤ x - b.addr ∧ x - b.addr < 64 := fun h => by
    unfold inB at h
    have := of_decide_eq_true h
    omega
  have hud : undP b x = if inB b.addr x = true ∧ b.sl.getD (x - b.addr).toNat 0 ≠ 0 then (atA b.attrs (b.sl.getD (x - b.addr).toNat 0 - 1).toNat, true) else ((em, em), false) := rfl
  generalize undP b x = U at *
  cases hq : inB b.addr x with
  | false =>
    rw [hq] at HS hud
    rw [if_neg (by simp)] at hud
    rw [if_neg (by simp)] at HS
    have HU := Lib.hid hud
    clear hW hb0 hA hR hsz ha hin hud hq hsl hb
    go_enter Tryz.func82, Tryz.ntmps82
    go_upto_region 1 with fail
    change Code.wp _ _ _ _ ((w.alloc (blkO b fv av)).alloc (atO (em, em)))
    rw [← HW.out]
    clear HW
    go_wp2_with (refine wpLdB rfl _ rfl rfl HXc.out hl ?_)
    refine HS.out.mono ?_; rintro e w1 ⟨rfl, hb1⟩
    have HB1 := Lib.hid (HBc.out.trans (hb1.mono HBc.out.size))
    have hr1 := (hb1.block _ (heap_lt HRc.out)).trans HRc.out
    have k0 := (cells2 hr1).1
    have k1 := (cells2 hr1).2
    have f0 := atO_froz hr1 0
    have f1 := atO_froz hr1 1
    have c0 := (cells2 (atO_set2 hr1 em em)).1
    have c1 := (cells2 (atO_set2 hr1 em em)).2
    clear hb1 hr1
    go_wp2_with fail
    refine bodyPost_ret (v := .tuple #[atV (em, em), .bool false]) ?_ rfl ⟨by rw [HU.out], (HB1.out.setCell (p := ⟨w.heap.size + 1, 0, none⟩) (Nat.le_succ _) _).setCell (p := ⟨w.heap.size + 1, 1, none⟩) (Nat.le_succ _) _⟩
    simp [results, Tryz.results82, go_sem, c0, c1]
  | true =>
    obtain ⟨i0, i1⟩ := hin hq
    rw [hq] at HS hud
    rw [if_pos rfl] at HS
    obtain ⟨i, hi⟩ := Int.eq_ofNat_of_zero_le i0
    have hi2 : i < 64 := by omega
    rw [hi] at HS hud
    rw [Int.toNat_natCast] at hud
    have hsi := hsl i
    have hgi := get64 hl hi2
    generalize b.sl.getD i 0 = k at *
    have b0 : (0 : Int) ≤ (i : Int) := by omega
    have b1 : (i : Int) < 64 := by omega
    by_cases hk : k = 0
    · subst hk
      rw [if_neg (by simp)] at hud
      have HU := Lib.hid hud
      clear hW hb0 hA hR hsz ha hin hud hq hsl hb i0 i1 hi hsi
      go_enter Tryz.func82, Tryz.ntmps82
      go_upto_region 1 with fail
      change Code.wp _ _ _ _ ((w.alloc (blkO b fv av)).alloc (atO (em, em)))
      rw [← HW.out]
      clear HW
      go_wp2_with (refine wpLdB rfl _ rfl rfl HXc.out hl ?_)
      refine HS.out.mono ?_; rintro e w1 ⟨rfl, hb1⟩
      have HB1 := Lib.hid (HBc.out.trans (hb1.mono HBc.out.size))
      have hr1 := (hb1.block _ (heap_lt HRc.out)).trans HRc.out
      have ks := (HXc.out.below hb1).slot hgi
      rw [Nat.add_comm] at ks
      have k0 := (cells2 hr1).1
      have k1 := (cells2 hr1).2
      have f0 := atO_froz hr1 0
      have f1 := atO_froz hr1 1
      have c0 := (cells2 (atO_set2 hr1 em em)).1
      have c1 := (cells2 (atO_set2 hr1 em em)).2
      clear hb1 hr1 hgi
      go_wp2_with fail
      refine bodyPost_ret (v := .tuple #[atV (em, em), .bool false]) ?_ rfl ⟨by rw [HU.out], (HB1.out.setCell (p := ⟨w.heap.size + 1, 0, none⟩) (Nat.le_succ _) _).setCell (p := ⟨w.heap.size + 1, 1, none⟩) (Nat.le_succ _) _⟩
      simp [results, Tryz.results82, go_sem, c0, c1]
    · rw [if_pos ⟨rfl, hk⟩] at hud
      obtain ⟨j, hj⟩ := Int.eq_ofNat_of_zero_le (show 0 ≤ k - 1 by omega)
      have hjl : j < b.attrs.length := by omega
      rw [hj, Int.toNat_natCast] at hud
      have HU := Lib.hid hud
      have dk : (k == 0) = false := by simpa using hk
      have hw1 : IntKind.u8.wrap (k - 1) = (j : Int) := by rw [IntKind.wrap_u8]; omega
      have j0 : (0 : Int) ≤ (j : Int) := by omega
      have j1 : (j : Int) < (b.attrs.length : Int) := by omega
      have HSL := Lib.hid hgi
      obtain ⟨ao, ac, rfl, -, hnil, -⟩ := id ha
      obtain ⟨ad, rfl⟩ : ∃ ad, ao = some ad := by
        cases ao with
        | none => rw [hnil rfl] at hjl; simp at hjl
        | some ad => exact ⟨ad, rfl⟩
      generalize hp : atA b.attrs j = p at *
      have HAT : Hid (∀ X, Below w.heap.size w X → X.cell? (ad.add (j * 2)) = some (.string p.1) ∧ X.cell? ((ad.add (j * 2)).add 1) = some (.string p.2)) := Lib.hid (fun X hX => by
        obtain ⟨ao', c', e, -, -, hc⟩ := HSA.out.below hX
        obtain rfl : ao' = some ad := by cases e; rfl
        exact hc ad rfl j p (by rw [← hp]; exact atA_get hjl))
      clear hW hb0 hA hR hsz ha hin hud hq hsl hb i0 i1 hi hsi hk hj hjl hp hnil
      go_enter Tryz.func82, Tryz.ntmps82
      go_upto_region 1 with fail
      change Code.wp _ _ _ _ ((w.alloc (blkO b _ _)).alloc (atO (em, em)))
      rw [← HW.out]
      clear HW
      go_wp2_with (refine wpLdB rfl _ rfl rfl HXc.out hl ?_)
      refine HS.out.mono ?_; rintro e w1 ⟨rfl, hb1⟩
      have HBc : Hid (Below w.heap.size w w1.drew) := Lib.hid (by
        have h := HBc.out.trans (hb1.mono HBc.out.size)
        exact ⟨h.os, h.tape, h.output, h.size, h.block⟩)
      have hr1 := (hb1.block _ (heap_lt HRc.out)).trans HRc.out
      have ks := (HXc.out.below hb1).slot hgi
      rw [Nat.add_comm] at ks
      have HXc : Hid (BlkAt w1.drew w.heap.size b fv _) := Lib.hid (show BlkAt w1 w.heap.size b fv _ from HXc.out.below hb1)
      have HRw := Lib.hid hr1
      have HRc : Hid (w1.drew.heap[w.heap.size + 1]? = some (atO (em, em))) := Lib.hid hr1
      clear hb1 hr1 hgi
      go_upto_region 4 with fail
      refine wp_region_held_drew (S := (fun X => Below w.heap.size w X ∧ BlkAt X w.heap.size b fv (.slice (some ad) b.attrs.length ac))) (by kernel_rfl) ?_ (fun r0 => ?_)
      · exact ⟨HBc.out, HXc.out⟩
      refine wpAnyH_take (i := 0) (v := ?_) rfl (by kernel_rfl) (by kernel_rfl) (by kernel_rfl) (fun _ _ _ h => h) (Or.inl ⟨by rfl, ?_⟩) (by assumption) ?_
      rotate_left
      · intro wS hSw
        (try dsimp only at hSw)
        go_simp
        first | done | with_reducible rfl
      try simp only [Act.put, List.getElem_toArray, List.getElem_cons_zero, List.setIfInBounds_toArray, List.set_cons_zero, List.set_cons_succ]
      refine wpAnyH_take (i := 1) (v := ?_) rfl (by kernel_rfl) (by kernel_rfl) (by kernel_rfl) (fun _ _ _ h => h) (Or.inl ⟨by rfl, ?_⟩) (by assumption) ?_
      rotate_left
      · intro wS hSw
        (try dsimp only at hSw)
        have k := hSw.2.attrs hl
        go_simp
        first | done | with_reducible rfl
      try simp only [Act.put, List.getElem_toArray, List.getElem_cons_succ, List.getElem_cons_zero, List.setIfInBounds_toArray, List.set_cons_zero, List.set_cons_succ]
      refine wpAnyH_take (i := 2) (v := ?_) rfl (by kernel_rfl) (by kernel_rfl) (by kernel_rfl) (fun _ _ _ h => h) (Or.inl ⟨by rfl, ?_⟩) (by assumption) ?_
      rotate_left
      · intro wS hSw
        (try dsimp only at hSw)
        go_simp
        first | done | with_reducible rfl
      try simp only [Act.put, List.getElem_toArray, List.getElem_cons_succ, List.getElem_cons_zero, List.setIfInBounds_toArray, List.set_cons_zero, List.set_cons_succ]
      refine wpAnyH_take (i := 3) (v := ?_) rfl (by kernel_rfl) (by kernel_rfl) (by kernel_rfl) (fun _ _ _ h => h) (Or.inl ⟨by rfl, ?_⟩) (by assumption) ?_
      rotate_left
      · intro wS hSw
        (try dsimp only at hSw)
        go_simp
        first | done | with_reducible rfl
      try simp only [Act.put, List.getElem_toArray, List.getElem_cons_succ, List.getElem_cons_zero, List.setIfInBounds_toArray, List.set_cons_zero, List.set_cons_succ]
      refine wpAnyH_take (i := 4) (v := ?_) rfl (by kernel_rfl) (by kernel_rfl) (by kernel_rfl) (fun _ _ _ h => h) (Or.inl ⟨by rfl, ?_⟩) (by assumption) ?_
      rotate_left
      · intro wS hSw
        (try dsimp only at hSw)
        go_simp
        first | done | with_reducible rfl
      try simp only [Act.put, List.getElem_toArray, List.getElem_cons_succ, List.getElem_cons_zero, List.setIfInBounds_toArray, List.set_cons_zero, List.set_cons_succ]
      refine wpAnyH_take (i := 5) (v := ?_) rfl (by kernel_rfl) (by kernel_rfl) (by kernel_rfl) (fun _ _ _ h => h) (Or.inl ⟨by rfl, ?_⟩) (by assumption) ?_
      rotate_left
      · intro wS hSw
        (try dsimp only at hSw)
        have k := hSw.2.slot HSL.out
        rw [Nat.add_comm] at k
        go_simp
        first | done | with_reducible rfl
      try simp only [Act.put, List.getElem_toArray, List.getElem_cons_succ, List.getElem_cons_zero, List.setIfInBounds_toArray, List.set_cons_zero, List.set_cons_succ]
      refine wpAnyH_take (i := 6) (v := ?_) rfl (by kernel_rfl) (by kernel_rfl) (by kernel_rfl) (fun _ _ _ h => h) (Or.inl ⟨by rfl, ?_⟩) (by assumption) ?_
      rotate_left
      · intro wS hSw
        (try dsimp only at hSw)
        go_simp
        first | done | with_reducible rfl
      try simp only [Act.put, List.getElem_toArray, List.getElem_cons_succ, List.getElem_cons_zero, List.setIfInBounds_toArray, List.set_cons_zero, List.set_cons_succ]
      refine wpAnyH_take (i := 7) (v := ?_) rfl (by kernel_rfl) (by kernel_rfl) (by kernel_rfl) (fun _ _ _ h => h) (Or.inl ⟨by rfl, ?_⟩) (by assumption) ?_
      rotate_left
      · intro wS hSw
        (try dsimp only at hSw)
        go_simp
        first | done | with_reducible rfl
      try simp only [Act.put, List.getElem_toArray, List.getElem_cons_succ, List.getElem_cons_zero, List.setIfInBounds_toArray, List.set_cons_zero, List.set_cons_succ]
      refine wpAnyH_take (i := 8) (v := ?_) rfl (by kernel_rfl) (by kernel_rfl) (by kernel_rfl) (fun _ _ _ h => h) (Or.inl ⟨by rfl, ?_⟩) (by assumption) ?_
      rotate_left
      · intro wS hSw
        (try dsimp only at hSw)
        have k0 := HAT.out wS hSw.1
        obtain ⟨k0, k1⟩ := k0
        have k1 := ofsA k1
        go_simp
        first | done | with_reducible rfl
      try simp only [Act.put, List.getElem_toArray, List.getElem_cons_succ, List.getElem_cons_zero, List.setIfInBounds_toArray, List.set_cons_zero, List.set_cons_succ]
      refine wpAnyH_ready (rs := [9]) (by kernel_rfl) (by simp) ?_
      refine AllReadyH.cons rfl (fun K hK => ?_) AllReadyH.nil
      have k0 := (cells2 HRw.out).1
      have k1 := (cells2 HRw.out).2
      have f0 := atO_froz HRw.out 0
      have f1 := atO_froz HRw.out 1
      go_simp
      refine hK.out _ _ ?_ (fun rN => ?_)
      · exact ⟨(HBc.out.setCell (p := ⟨w.heap.size + 1, 0, none⟩) (Nat.le_succ _) _).setCell (p := ⟨w.heap.size + 1, 1, none⟩) (Nat.le_succ _) _, blk_setO (blk_setO HXc.out (a := ⟨w.heap.size + 1, 0, none⟩) (Nat.ne_of_lt (Nat.lt_succ_self _)) _) (a := ⟨w.heap.size + 1, 1, none⟩) (Nat.ne_of_lt (Nat.lt_succ_self _)) _⟩
      try simp only [Act.put, List.getElem_toArray, List.getElem_cons_succ, List.getElem_cons_zero, List.setIfInBounds_toArray, List.set_cons_zero, List.set_cons_succ]
      refine wpAnyH_take (i := 10) (v := ?_) rfl (by kernel_rfl) (by kernel_rfl) (by kernel_rfl) (fun _ _ _ h => h) (Or.inl ⟨by rfl, ?_⟩) (by assumption) ?_
      rotate_left
      · intro wS hSw
        (try dsimp only at hSw)
        go_simp
        first | done | with_reducible rfl
      try simp only [Act.put, List.getElem_toArray, List.getElem_cons_succ, List.getElem_cons_zero, List.setIfInBounds_toArray, List.set_cons_zero, List.set_cons_succ]
      refine wpAnyH_done (by kernel_rfl) ?_ _
      have HRn := Lib.hid (atO_set2 HRw.out p.1 p.2)
      have HBn := Lib.hid rN.1
      go_wp2_with fail
      have c0 := (cells2 HRn.out).1
      have c1 := (cells2 HRn.out).2
      refine bodyPost_ret (v := .tuple #[atV p, .bool true]) ?_ rfl ⟨by rw [HU.out], HBn.out⟩
      simp [results, Tryz.results82, go_sem, c0, c1]
end
section
open Go.RowKit
theorem getD_mem_or {l : List Int} (i : Nat) : l.getD i 0 = 0 ∨ l.getD i 0 ∈ l := by
  by_cases h : i < l.length
  · right
    rw [List.getD_eq_getElem?_getD, List.getElem?_eq_getElem h]
    exact List.getElem_mem h
  · left
    rw [List.getD_eq_getElem?_getD, List.getElem?_eq_none (by omega)]; rfl
theorem slotsLe_iff (sl : List Int) (m : Nat) : ∀ n, slotsLe sl m n = true → ∀ i, i < n → sl.getD i 0 ≤ m
  | 0, _, i, hi => by omega
  | n + 1, h, i, hi => by
    unfold slotsLe at h
    simp only [Bool.and_eq_true] at h
    by_cases e : i = n
    · subst e
      have := h.2
      simpa using this
    · exact slotsLe_iff sl m n h.1 i (by omega)
/-- What is so of a block that is right. -/
theorem right_bd {b : BlkS} (hw : BWf b) (h : rightB b = true) : b.addr % 64 = 0 ∧ ownB b.aff = true ∧ b.attrs.length ≤ 64 ∧ ∀ i, 0 ≤ b.sl.getD i 0 ∧ b.sl.getD i 0 ≤ b.attrs.length := by
  obtain ⟨_, hl, hok, _⟩ := hw
  unfold rightB at h
  simp only [Bool.and_eq_true, decide_eq_true_eq] at h
  obtain ⟨h1, h2, h3, h4, h5⟩ := h
  unfold rightA at h3
  simp only [Bool.and_eq_true, decide_eq_true_eq] at h3
  unfold rightS at h4
  simp only [Bool.and_eq_true] at h4
  refine ⟨h1, h2, h3.1, fun i => ⟨(okB_get hok i).1, ?_⟩⟩
  by_cases hi : i < 64
  · exact slotsLe_iff _ _ 64 h4.1 i hi
  · rw [List.getD_eq_getElem?_getD, List.getElem?_eq_none (by omega)]
    simp
/-- Under which attribute an address of a block is given. -/
def ofP (b : BlkS) (x : Int) : PA × Bool := if rightB b = true then undP b x else ((em, em), false)
/-! Own. -/
set_option maxRecDepth 100000 in
set_option maxHeartbeats 8000000 in
theorem own_bad (b : BlkS) (fv av : Value) (s : ByteArray) (w : World) (hf : Sees w fv b.free) (ha : SeesA w av b.attrs) (hw : BWf b) (hs : s.size ≤ maxLen) (hno : rightB b = false ∨ ownB s = false) :
    Calls Tryz.prog 26 #[.agg (blkL b fv av).toArray, .string s] w fun e w' => e = .returned (.tuple #[.agg (blkL zB NS NS).toArray, .int .i64 1]) ∧ Below w.heap.size w w' := by
  obtain ⟨W, hW⟩ : ∃ W, W = (w.alloc (blkO b fv av)).alloc (blkO zB NS NS) := ⟨_, rfl⟩
  obtain ⟨hb0, hA, hR, hsz⟩ := two_newB w (blkO b fv av) (blkO zB NS NS)
  rw [← hW] at hb0 hA hR hsz
  have HXc : Hid (BlkAt W w.heap.size b fv av) := Lib.hid hA
  have HZc : Hid (BlkAt W (w.heap.size + 1) zB NS NS) := Lib.hid hR
  have HBc := Lib.hid hb0
  have HW := Lib.hid hW
  have HRB := Lib.hid (rightBlk_any (blkL b fv av).toArray b W ⟨fv, av, rfl, hf.keep hb0, ha.below hb0, hw⟩)
  have HMO := Lib.hid (fun w => mayOwn_any s hs w)
  have hl := hw.2.1
  cases hr : rightB b with
  | false =>
    rw [hr] at HRB
    clear hW hb0 hA hR hsz hf ha hw hr hno HMO
    go_enter Tryz.func26, Tryz.ntmps26
    go_upto_region 1 with fail
    change Code.wp _ _ _ _ ((w.alloc (blkO b fv av)).alloc (blkO zB NS NS))
    rw [← HW.out]
    clear HW
    go_wp2_with (refine wpLdB rfl _ rfl rfl HXc.out hl ?_)
    refine HRB.out.mono ?_; rintro e w1 ⟨rfl, hb1⟩
    have HZ1 := Lib.hid (HZc.out.below hb1)
    have HB1 := Lib.hid (HBc.out.trans (hb1.mono HBc.out.size))
    clear hb1
    go_wp2_with (refine wpStB (b := zB) (fv := NS) (av := NS) rfl _ _ rfl rfl rfl HZ1.out zB_len zB_len rfl rfl ?_; intro w7 hx7 hg7)
    exact bodyPost_ret (resB2 Tryz.results26 rfl (loadVarB hx7 zB_len)) rfl ⟨rfl, HB1.out.grown hg7 HB1.out.size (fun k hk => by cases hk; omega)⟩
  | true =>
    have hm : ownB s = false := by
      rcases hno with e | e
      · rw [hr] at e; cases e
      · exact e
    rw [hr] at HRB
    rw [hm] at HMO
    clear hW hb0 hA hR hsz hf ha hw hr hno hm
    go_enter Tryz.func26, Tryz.ntmps26
    go_upto_region 1 with fail
    change Code.wp _ _ _ _ ((w.alloc (blkO b fv av)).alloc (blkO zB NS NS))
    rw [← HW.out]
    clear HW
    go_wp2_with (refine wpLdB rfl _ rfl rfl HXc.out hl ?_)
    refine HRB.out.mono ?_; rintro e w1 ⟨rfl, hb1⟩
    have HB1 := Lib.hid hb1
    clear hb1
    go_wp2_with fail
    refine (HMO.out _).mono ?_; rintro e w2 ⟨rfl, hb2⟩
    have hbb := bel HB1.out hb2
    have HZ1 := Lib.hid (HZc.out.below hbb)
    have HB2 := Lib.hid (HBc.out.trans (hbb.mono HBc.out.size))
    clear hb2 hbb
    go_wp2_with (refine wpStB (b := zB) (fv := NS) (av := NS) rfl _ _ rfl rfl rfl HZ1.out zB_len zB_len rfl rfl ?_; intro w7 hx7 hg7)
    exact bodyPost_ret (resB2 Tryz.results26 rfl (loadVarB hx7 zB_len)) rfl ⟨rfl, HB2.out.grown hg7 HB2.out.size (fun k hk => by cases hk; omega)⟩
/-- A row that is the call's own is so to who called it. -/
theorem BlkRet.mono {w0 w w' : World} {b : BlkS} {fv av : Value} (h : BlkRet w w' b fv av) (hb : Below w0.heap.size w0 w) : BlkRet w0 w' b fv av :=
  ⟨own_le h.free hb.size, own_le h.attrs hb.size, hb.trans (h.below.mono hb.size)⟩
def ownS (b : BlkS) (s : ByteArray) : BlkS := { b with aff := s }
set_option maxRecDepth 100000 in
set_option maxHeartbeats 8000000 in
theorem own15_any (b : BlkS) (fv av : Value) (s : ByteArray) (w : World) (hf : Sees w fv b.free) (ha : SeesA w av b.attrs) (hw : BWf b) (hfl : b.free.length ≤ 1000) (hs : s.size ≤ maxLen) (hr : rightB b = true) (hm : ownB s = true) :
    Calls Tryz.prog 26 #[.agg (blkL b fv av).toArray, .string s] w fun e w' => ∃ fv' av', e = .returned (.tuple #[.agg (blkL (ownS b s) fv' av').toArray, .int .i64 0]) ∧ BlkRet w w' (ownS b s) fv' av' := by
  obtain ⟨_, _, hal, _⟩ := right_bd hw hr
  obtain ⟨W, hW⟩ : ∃ W, W = (w.alloc (blkO b fv av)).alloc (blkO zB NS NS) := ⟨_, rfl⟩
  obtain ⟨hb0, hA, hR, hsz⟩ := two_newB w (blkO b fv av) (blkO zB NS NS)
  rw [← hW] at hb0 hA hR hsz
  have HXc : Hid (BlkAt W w.heap.size b fv av) := Lib.hid hA
  have HZc : Hid (BlkAt W (w.heap.size + 1) zB NS NS) := Lib.hid hR
  have HBc := Lib.hid hb0
  have HSZ := Lib.hid hsz
  have HW := Lib.hid hW
  have HRB := Lib.hid (rightBlk_any (blkL b fv av).toArray b W ⟨fv, av, rfl, hf.keep hb0, ha.below hb0, hw⟩)
  have HMO := Lib.hid (fun w => mayOwn_any s hs w)
  have hl := hw.2.1
  have HCO := Lib.hid (fun w1 (hb : Below W.heap.size W w1) => copied_any b fv av w1 ((hf.keep hb0).keep hb) ((ha.below hb0).below hb) hl (by omega) (by omega))
  rw [hr] at HRB
  rw [hm] at HMO
  have hlo : (ownS b s).sl.length = 64 := hl
  clear hW hb0 hA hR hsz hf ha hw hr hm hal
  go_enter Tryz.func26, Tryz.ntmps26
  go_upto_region 1 with fail
  change Code.wp _ _ _ _ ((w.alloc (blkO b fv av)).alloc (blkO zB NS NS))
  rw [← HW.out]
  clear HW
  go_wp2_with (refine wpLdB rfl _ rfl rfl HXc.out hl ?_)
  refine HRB.out.mono ?_; rintro e w1 ⟨rfl, hb1⟩
  have HB1 := Lib.hid hb1
  clear hb1
  go_wp2_with fail
  refine (HMO.out _).mono ?_; rintro e w2 ⟨rfl, hb2⟩
  have HB2 := Lib.hid (bel HB1.out hb2)
  have HX2 := Lib.hid (HXc.out.below (bel HB1.out hb2))
  clear hb2
  go_wp2_with (refine wpLdB rfl _ rfl rfl HX2.out hl ?_)
  refine (HCO.out _ HB2.out).mono ?_; rintro e w3 ⟨fv3, av3, rfl, hof, hoa, hb3⟩
  have HB3 := Lib.hid (bel HB2.out hb3)
  have HX3 := Lib.hid (HX2.out.below hb3)
  have HZ3 := Lib.hid (HZc.out.below (bel HB2.out hb3))
  have HOF := Lib.hid hof
  have HOA := Lib.hid hoa
  have HSW : Hid (w.heap.size + 2 ≤ w2.heap.size) := Lib.hid (by have := HSZ.out; have := HB2.out.size; omega)
  obtain ⟨fo, fn, fc, rfl⟩ := own_form hof
  obtain ⟨ao, an, ac, rfl⟩ := own_form hoa
  clear hof hoa hb3
  go_upto_region 5 with (refine wpStB rfl _ _ rfl rfl rfl HX3.out hl hl rfl rfl ?_; intro w4 hx4 hg4; have HX4 := Lib.hid hx4; have HG4 := Lib.hid hg4; have k1 := hx4.aff; have k2 := hx4.froz 1; clear hx4 hg4)
  have HX5 : Hid (BlkAt (w4.setCell ⟨w.heap.size, 1, none⟩ (.string s)) w.heap.size (ownS b s) (.slice fo fn fc) (.slice ao an ac)) := Lib.hid (HX4.out.setAff s)
  have HZ5 := Lib.hid (blk_setO (show BlkAt w4 (w.heap.size + 1) zB NS NS from (HG4.out.block _ (heap_lt HZ3.out) (fun e => by have := Option.some.inj e; omega)).trans HZ3.out) (a := ⟨w.heap.size, 1, none⟩) (Nat.succ_ne_self _) (.string s))
  have HOF5 := Lib.hid (own_set (own_grown HOF.out HG4.out (by have := HSW.out; omega)) (a := ⟨w.heap.size, 1, none⟩) (by have := HSW.out; show w.heap.size < _; omega) (.string s))
  have HOA5 := Lib.hid (own_set (own_grown HOA.out HG4.out (by have := HSW.out; omega)) (a := ⟨w.heap.size, 1, none⟩) (by have := HSW.out; show w.heap.size < _; omega) (.string s))
  have HB5 : Hid (Below w.heap.size w (w4.setCell ⟨w.heap.size, 1, none⟩ (.string s))) := Lib.hid (by
    have h3 := HBc.out.trans (HB3.out.mono HBc.out.size)
    exact (h3.grown HG4.out h3.size (fun k hk => by cases hk; exact Nat.le_refl _)).setCell (p := ⟨w.heap.size, 1, none⟩) (Nat.le_refl _) _)
  obtain ⟨w5, hw5⟩ : ∃ w5, w5 = w4.setCell ⟨w.heap.size, 1, none⟩ (.string s) := ⟨_, rfl⟩
  rw [← hw5] at HX5 HZ5 HOF5 HOA5 HB5 ⊢
  clear hw5
  go_wp2_with (first
    | (refine wpLdB rfl _ rfl rfl HX5.out hlo ?_)
    | (refine wpStB rfl _ _ rfl rfl rfl HZ5.out zB_len hlo rfl rfl ?_; intro w7 hx7 hg7))
  refine bodyPost_ret (resB2 Tryz.results26 rfl (loadVarB hx7 hlo)) rfl ⟨_, _, rfl, ?_, ?_, HB5.out.grown hg7 HB5.out.size (fun k hk => by cases hk; omega)⟩
  · exact own_le (own_grown HOF5.out hg7 (by have := HSW.out; omega)) (by have := HSW.out; omega)
  · exact own_le (own_grown HOA5.out hg7 (by have := HSW.out; omega)) (by have := HSW.out; omega)
end
end Go.Proofs.YtgodmnpcedfdcaaGreat
