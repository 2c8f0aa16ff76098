/- Package block: a copy. -/
import Derived.Test.YtgodmnpcedfdcaaBkRow
namespace Go.Proofs.Ytgodmnpcedfdcaa
open Go.RowKit
theorem own_grown {E : TypeId} {s B n g : Nat} {w w' : World} {v : Value} {xs : List Value} (h : w.ownsRow B E s v n xs) (hg : w.grownBy w' (some g)) (hB : g < B) : w'.ownsRow B E s v n xs :=
  ⟨h.1, h.2.imp id fun ⟨b, cap, cur, e, hb, hh, r⟩ => ⟨b, cap, cur, e, hb, (hg.block b (heap_lt hh) (fun e => by have := Option.some.inj e; omega)).trans hh, r⟩⟩
theorem own_set {E : TypeId} {s B n : Nat} {w : World} {v : Value} {xs : List Value} (h : w.ownsRow B E s v n xs) {a : Addr} (ha : a.block < B) (u : Value) : (w.setCell a u).ownsRow B E s v n xs :=
  ownsRow_setCell_other h (fun e => by have := (h.lt _ e).1; omega) u
theorem blk_setO {w : World} {g : Nat} {b : BlkS} {fv av : Value} (h : BlkAt w g b fv av) {a : Addr} (ha : g ≠ a.block) (u : Value) : BlkAt (w.setCell a u) g b fv av := by
  show (w.setCell a u).heap[g]? = _
  rw [Below.heap_setCell _ _ _ _ ha]
  exact h
theorem size_set {n : Nat} {w : World} (h : n ≤ w.heap.size) (a : Addr) (u : Value) : n ≤ (w.setCell a u).heap.size := by simpa [World.setCell] using h
theorem two_newB (w : World) (o p : Obj) : Below w.heap.size w ((w.alloc o).alloc p) ∧ ((w.alloc o).alloc p).heap[w.heap.size]? = some o ∧ ((w.alloc o).alloc p).heap[w.heap.size + 1]? = some p ∧ ((w.alloc o).alloc p).heap.size = w.heap.size + 2 := by
  have hs : (w.alloc o).heap.size = w.heap.size + 1 := by show (w.heap.push _).size = _; simp
  refine ⟨belAlloc (belNew _ _) _, ?_, ?_, ?_⟩
  · exact (Below.heap_alloc (w.alloc o) _ _ (by omega)).trans (heap_new w _)
  · have := heap_new (w.alloc o) p
    rwa [hs] at this
  · show ((w.alloc o).heap.push _).size = _
    simp [hs]
set_option maxRecDepth 100000 in
set_option maxHeartbeats 8000000 in
theorem copied_any (b : BlkS) (fv av : Value) (w : World) (hf : Sees w fv b.free) (ha : SeesA w av b.attrs) (hl : b.sl.length = 64) (hfl : b.free.length ≤ 1000000) (hal : b.attrs.length ≤ 1000000) :
    Calls Try.prog 56 #[.agg (blkL b fv av).toArray] w fun e w' => ∃ fv' av', e = .returned (.agg (blkL b fv' av').toArray) ∧ Owns w' w.heap.size fv' b.free ∧ RowA EAt w' w.heap.size av' b.attrs ∧ Below w.heap.size w w' := by
  obtain ⟨W, hW⟩ : ∃ W, W = (w.alloc (blkO b fv av)).alloc (blkO zB NS NS) := ⟨_, rfl⟩
  obtain ⟨hb0, hA, hR, hsz⟩ := two_newB w (blkO b fv av) (blkO zB NS NS)
  rw [← hW] at hb0 hA hR hsz
  have HCU := Lib.hid (fun w1 (h : Sees w1 fv b.free) => cloneU_any fv b.free w1 h hfl)
  have HCA := Lib.hid (fun w1 (h : SeesA w1 av b.attrs) => cloneA_any av b.attrs w1 h hal)
  have HSF := Lib.hid hf
  have HSA := Lib.hid ha
  have HXc : Hid (BlkAt W.drew w.heap.size b fv av) := Lib.hid hA
  have HZc : Hid (BlkAt W.drew (w.heap.size + 1) zB NS NS) := Lib.hid hR
  have HBc : Hid (Below w.heap.size w W.drew) := Lib.hid ⟨hb0.os, hb0.tape, hb0.output, hb0.size, hb0.block⟩
  have HSC : Hid (w.heap.size + 2 ≤ W.drew.heap.size) := Lib.hid (Nat.le_of_eq hsz.symm)
  have HW := Lib.hid hW
  clear hW hb0 hA hR hsz hf ha
  go_enter Try.func56, Try.ntmps56
  go_upto_region 1 with fail
  change Code.wp _ _ _ _ ((w.alloc (blkO b fv av)).alloc (blkO zB NS NS))
  rw [← HW.out]
  clear HW
  refine wp_region_held_drew (S := (fun X => Below w.heap.size w X)) (by kernel_rfl) ?_ (fun r0 => ?_)
  · exact HBc.out
  refine wpAnyH_take (i := 0) (v := ?_) rfl (by kernel_rfl) (by kernel_rfl) (by kernel_rfl) (fun _ _ _ h => h) (Or.inl ⟨by rfl, ?_⟩) (by assumption) ?_
  rotate_left
  · intro wS hSw
    (try dsimp only at hSw)
    go_simp
    first | done | with_reducible rfl
  try simp only [Act.put, List.getElem_toArray, List.getElem_cons_succ, List.getElem_cons_zero, List.setIfInBounds_toArray, List.set_cons_zero, List.set_cons_succ]
  refine wpAnyH_take (i := 3) (v := ?_) rfl (by kernel_rfl) (by kernel_rfl) (by kernel_rfl) (fun _ _ _ h => h) (Or.inl ⟨by rfl, ?_⟩) (by assumption) ?_
  rotate_left
  · intro wS hSw
    (try dsimp only at hSw)
    go_simp
    first | done | with_reducible rfl
  try simp only [Act.put, List.getElem_toArray, List.getElem_cons_succ, List.getElem_cons_zero, List.setIfInBounds_toArray, List.set_cons_zero, List.set_cons_succ]
  refine wpAnyH_ready (rs := [1, 4]) (by kernel_rfl) (by simp) ?_
  refine AllReadyH.cons rfl (fun K hK => ?_) (AllReadyH.cons rfl (fun K hK => ?_) AllReadyH.nil)
  · have k0 := HXc.out.free hl
    go_simp
    refine hK.out _ _ ?_ (fun rN => ?_)
    · exact HBc.out
    try simp only [Act.put, List.getElem_toArray, List.getElem_cons_succ, List.getElem_cons_zero, List.setIfInBounds_toArray, List.set_cons_zero, List.set_cons_succ]
    refine wpAnyH_ready (rs := [2, 4]) (by kernel_rfl) (by simp) ?_
    refine AllReadyH.cons rfl (fun K hK => ?_) (AllReadyH.cons rfl (fun K hK => ?_) AllReadyH.nil)
    · go_simp
      refine (HCU.out _ (HSF.out.keep HBc.out)).mono ?_; rintro x wn ⟨fvn, rfl, hof, hbn⟩
      have hBn := HBc.out.trans (hbn.mono HBc.out.size)
      refine hK.out _ _ ?_ (fun rN => ?_)
      · exact hBn
      try simp only [Act.put, List.getElem_toArray, List.getElem_cons_succ, List.getElem_cons_zero, List.setIfInBounds_toArray, List.set_cons_zero, List.set_cons_succ]
      have HBc := Lib.hid hBn
      have HXc := Lib.hid (HXc.out.below hbn)
      have HZc := Lib.hid (HZc.out.below hbn)
      have HOF : Hid (Owns wn (w.heap.size + 2) fvn b.free) := Lib.hid ⟨hof.1, hof.2.imp id fun ⟨g, cap, cur, e, hb, r⟩ => ⟨g, cap, cur, e, Nat.le_trans HSC.out hb, r⟩⟩
      have HSC := Lib.hid (Nat.le_trans HSC.out hbn.size)
      obtain ⟨fo, fc, rfl, -⟩ := HOF.out.sees
      clear hof hbn hBn
      refine wpAnyH_ready (rs := [4]) (by kernel_rfl) (by simp) ?_
      refine AllReadyH.cons rfl (fun K hK => ?_) AllReadyH.nil
      have k0 := HXc.out.attrs hl
      go_simp
      refine hK.out _ _ ?_ (fun rN => ?_)
      · exact HBc.out
      try simp only [Act.put, List.getElem_toArray, List.getElem_cons_succ, List.getElem_cons_zero, List.setIfInBounds_toArray, List.set_cons_zero, List.set_cons_succ]
      refine wpAnyH_take (i := 6) (v := ?_) rfl (by kernel_rfl) (by kernel_rfl) (by kernel_rfl) (fun _ _ _ h => h) (Or.inl ⟨by rfl, ?_⟩) (by assumption) ?_
      rotate_left
      · intro wS hSw
        (try dsimp only at hSw)
        go_simp
        first | done | with_reducible rfl
      try simp only [Act.put, List.getElem_toArray, List.getElem_cons_succ, List.getElem_cons_zero, List.setIfInBounds_toArray, List.set_cons_zero, List.set_cons_succ]
      refine wpAnyH_ready (rs := [5]) (by kernel_rfl) (by simp) ?_
      refine AllReadyH.cons rfl (fun K hK => ?_) AllReadyH.nil
      go_simp
      refine (HCA.out _ (HSA.out.below HBc.out)).mono ?_; rintro x wn ⟨avn, rfl, hoa, hbn⟩
      have hBn := HBc.out.trans (hbn.mono HBc.out.size)
      refine hK.out _ _ ?_ (fun rN => ?_)
      · exact hBn
      try simp only [Act.put, List.getElem_toArray, List.getElem_cons_succ, List.getElem_cons_zero, List.setIfInBounds_toArray, List.set_cons_zero, List.set_cons_succ]
      have HBc := Lib.hid hBn
      have HXc := Lib.hid (HXc.out.below hbn)
      have HZc := Lib.hid (HZc.out.below hbn)
      have HOF := Lib.hid (HOF.out.keep hbn)
      have HOA : Hid (RowA EAt wn (w.heap.size + 2) avn b.attrs) := Lib.hid (row_leA hoa HSC.out)
      have HSC := Lib.hid (Nat.le_trans HSC.out hbn.size)
      obtain ⟨ao, ac, rfl, -⟩ := hoa.sees
      clear hoa hbn hBn
      refine wpAnyH_ready (rs := [7]) (by kernel_rfl) (by simp) ?_
      refine AllReadyH.cons rfl (fun K hK => ?_) AllReadyH.nil
      have k1 := HXc.out.free hl
      have k2 := HXc.out.froz 66
      go_simp
      have hBn := HBc.out.setCell (p := ⟨w.heap.size, 66, none⟩) (Nat.le_refl _) (.slice fo b.free.length fc)
      refine hK.out _ _ ?_ (fun rN => ?_)
      · exact hBn
      try simp only [Act.put, List.getElem_toArray, List.getElem_cons_succ, List.getElem_cons_zero, List.setIfInBounds_toArray, List.set_cons_zero, List.set_cons_succ]
      have HXc := Lib.hid (HXc.out.setFree hl (.slice fo b.free.length fc))
      have HZc := Lib.hid (blk_setO HZc.out (a := ⟨w.heap.size, 66, none⟩) (by simp) (.slice fo b.free.length fc))
      have HOF := Lib.hid (own_set HOF.out (a := ⟨w.heap.size, 66, none⟩) (by show w.heap.size < w.heap.size + 2; omega) (.slice fo b.free.length fc))
      first | have HOA := Lib.hid (own_set HOA.out (a := ⟨w.heap.size, 66, none⟩) (by show w.heap.size < w.heap.size + 2; omega) (.slice fo b.free.length fc)) | skip
      have HSC := Lib.hid (size_set HSC.out ⟨w.heap.size, 66, none⟩ (.slice fo b.free.length fc))
      have HBc := Lib.hid hBn
      clear hBn k1 k2
      refine wpAnyH_take (i := 8) (v := ?_) rfl (by kernel_rfl) (by kernel_rfl) (by kernel_rfl) (fun _ _ _ h => h) (Or.inl ⟨by rfl, ?_⟩) (by assumption) ?_
      rotate_left
      · intro wS hSw
        (try dsimp only at hSw)
        go_simp
        first | done | with_reducible rfl
      try simp only [Act.put, List.getElem_toArray, List.getElem_cons_succ, List.getElem_cons_zero, List.setIfInBounds_toArray, List.set_cons_zero, List.set_cons_succ]
      refine wpAnyH_ready (rs := [9]) (by kernel_rfl) (by simp) ?_
      refine AllReadyH.cons rfl (fun K hK => ?_) AllReadyH.nil
      have k1 := HXc.out.attrs hl
      have k2 := HXc.out.froz 67
      go_simp
      have hBn := HBc.out.setCell (p := ⟨w.heap.size, 67, none⟩) (Nat.le_refl _) (.slice ao b.attrs.length ac)
      refine hK.out _ _ ?_ (fun rN => ?_)
      · exact hBn
      try simp only [Act.put, List.getElem_toArray, List.getElem_cons_succ, List.getElem_cons_zero, List.setIfInBounds_toArray, List.set_cons_zero, List.set_cons_succ]
      have HXc := Lib.hid (HXc.out.setAttrs hl (.slice ao b.attrs.length ac))
      have HZc := Lib.hid (blk_setO HZc.out (a := ⟨w.heap.size, 67, none⟩) (by simp) (.slice ao b.attrs.length ac))
      have HOF := Lib.hid (own_set HOF.out (a := ⟨w.heap.size, 67, none⟩) (by show w.heap.size < w.heap.size + 2; omega) (.slice ao b.attrs.length ac))
      have HOA := Lib.hid (own_set HOA.out (a := ⟨w.heap.size, 67, none⟩) (by show w.heap.size < w.heap.size + 2; omega) (.slice ao b.attrs.length ac))
      have HBc := Lib.hid hBn
      clear hBn k1 k2
      refine wpAnyH_done (by kernel_rfl) ?_ _
      go_wp2_with (first
        | (refine wpLdB rfl _ rfl rfl HXc.out hl ?_)
        | (refine wpStB rfl _ _ rfl rfl rfl HZc.out zB_len hl rfl rfl ?_; intro w7 hx7 hg7))
      have HN := Lib.hid (loadVarB hx7 hl)
      have HBN := Lib.hid (HBc.out.grown hg7 HBc.out.size (fun k hk => by cases hk; omega))
      refine bodyPost_ret (resB1 Try.results56 rfl HN.out) rfl ⟨_, _, rfl, ?_, ?_, HBN.out⟩
      · have := own_grown HOF.out hg7 (by omega)
        exact ⟨this.1, this.2.imp id fun ⟨g, cap, cur, e, hb, r⟩ => ⟨g, cap, cur, e, by omega, r⟩⟩
      · exact row_leA (own_grown HOA.out hg7 (by omega)) (by omega)
    · have k0 := HXc.out.attrs hl
      go_simp
      refine hK.out _ _ ?_ (fun rN => ?_)
      · exact HBc.out
      try simp only [Act.put, List.getElem_toArray, List.getElem_cons_succ, List.getElem_cons_zero, List.setIfInBounds_toArray, List.set_cons_zero, List.set_cons_succ]
      refine wpAnyH_ready (rs := [2]) (by kernel_rfl) (by simp) ?_
      refine AllReadyH.cons rfl (fun K hK => ?_) AllReadyH.nil
      go_simp
      refine (HCU.out _ (HSF.out.keep HBc.out)).mono ?_; rintro x wn ⟨fvn, rfl, hof, hbn⟩
      have hBn := HBc.out.trans (hbn.mono HBc.out.size)
      refine hK.out _ _ ?_ (fun rN => ?_)
      · exact hBn
      try simp only [Act.put, List.getElem_toArray, List.getElem_cons_succ, List.getElem_cons_zero, List.setIfInBounds_toArray, List.set_cons_zero, List.set_cons_succ]
      have HBc := Lib.hid hBn
      have HXc := Lib.hid (HXc.out.below hbn)
      have HZc := Lib.hid (HZc.out.below hbn)
      have HOF : Hid (Owns wn (w.heap.size + 2) fvn b.free) := Lib.hid ⟨hof.1, hof.2.imp id fun ⟨g, cap, cur, e, hb, r⟩ => ⟨g, cap, cur, e, Nat.le_trans HSC.out hb, r⟩⟩
      have HSC := Lib.hid (Nat.le_trans HSC.out hbn.size)
      obtain ⟨fo, fc, rfl, -⟩ := HOF.out.sees
      clear hof hbn hBn
      refine wpAnyH_take (i := 6) (v := ?_) rfl (by kernel_rfl) (by kernel_rfl) (by kernel_rfl) (fun _ _ _ h => h) (Or.inl ⟨by rfl, ?_⟩) (by assumption) ?_
      rotate_left
      · intro wS hSw
        (try dsimp only at hSw)
        go_simp
        first | done | with_reducible rfl
      try simp only [Act.put, List.getElem_toArray, List.getElem_cons_succ, List.getElem_cons_zero, List.setIfInBounds_toArray, List.set_cons_zero, List.set_cons_succ]
      refine wpAnyH_ready (rs := [5]) (by kernel_rfl) (by simp) ?_
      refine AllReadyH.cons rfl (fun K hK => ?_) AllReadyH.nil
      go_simp
      refine (HCA.out _ (HSA.out.below HBc.out)).mono ?_; rintro x wn ⟨avn, rfl, hoa, hbn⟩
      have hBn := HBc.out.trans (hbn.mono HBc.out.size)
      refine hK.out _ _ ?_ (fun rN => ?_)
      · exact hBn
      try simp only [Act.put, List.getElem_toArray, List.getElem_cons_succ, List.getElem_cons_zero, List.setIfInBounds_toArray, List.set_cons_zero, List.set_cons_succ]
      have HBc := Lib.hid hBn
      have HXc := Lib.hid (HXc.out.below hbn)
      have HZc := Lib.hid (HZc.out.below hbn)
      have HOF := Lib.hid (HOF.out.keep hbn)
      have HOA : Hid (RowA EAt wn (w.heap.size + 2) avn b.attrs) := Lib.hid (row_leA hoa HSC.out)
      have HSC := Lib.hid (Nat.le_trans HSC.out hbn.size)
      obtain ⟨ao, ac, rfl, -⟩ := hoa.sees
      clear hoa hbn hBn
      refine wpAnyH_ready (rs := [7]) (by kernel_rfl) (by simp) ?_
      refine AllReadyH.cons rfl (fun K hK => ?_) AllReadyH.nil
      have k1 := HXc.out.free hl
      have k2 := HXc.out.froz 66
      go_simp
      have hBn := HBc.out.setCell (p := ⟨w.heap.size, 66, none⟩) (Nat.le_refl _) (.slice fo b.free.length fc)
      refine hK.out _ _ ?_ (fun rN => ?_)
      · exact hBn
      try simp only [Act.put, List.getElem_toArray, List.getElem_cons_succ, List.getElem_cons_zero, List.setIfInBounds_toArray, List.set_cons_zero, List.set_cons_succ]
      have HXc := Lib.hid (HXc.out.setFree hl (.slice fo b.free.length fc))
      have HZc := Lib.hid (blk_setO HZc.out (a := ⟨w.heap.size, 66, none⟩) (by simp) (.slice fo b.free.length fc))
      have HOF := Lib.hid (own_set HOF.out (a := ⟨w.heap.size, 66, none⟩) (by show w.heap.size < w.heap.size + 2; omega) (.slice fo b.free.length fc))
      first | have HOA := Lib.hid (own_set HOA.out (a := ⟨w.heap.size, 66, none⟩) (by show w.heap.size < w.heap.size + 2; omega) (.slice fo b.free.length fc)) | skip
      have HSC := Lib.hid (size_set HSC.out ⟨w.heap.size, 66, none⟩ (.slice fo b.free.length fc))
      have HBc := Lib.hid hBn
      clear hBn k1 k2
      refine wpAnyH_take (i := 8) (v := ?_) rfl (by kernel_rfl) (by kernel_rfl) (by kernel_rfl) (fun _ _ _ h => h) (Or.inl ⟨by rfl, ?_⟩) (by assumption) ?_
      rotate_left
      · intro wS hSw
        (try dsimp only at hSw)
        go_simp
        first | done | with_reducible rfl
      try simp only [Act.put, List.getElem_toArray, List.getElem_cons_succ, List.getElem_cons_zero, List.setIfInBounds_toArray, List.set_cons_zero, List.set_cons_succ]
      refine wpAnyH_ready (rs := [9]) (by kernel_rfl) (by simp) ?_
      refine AllReadyH.cons rfl (fun K hK => ?_) AllReadyH.nil
      have k1 := HXc.out.attrs hl
      have k2 := HXc.out.froz 67
      go_simp
      have hBn := HBc.out.setCell (p := ⟨w.heap.size, 67, none⟩) (Nat.le_refl _) (.slice ao b.attrs.length ac)
      refine hK.out _ _ ?_ (fun rN => ?_)
      · exact hBn
      try simp only [Act.put, List.getElem_toArray, List.getElem_cons_succ, List.getElem_cons_zero, List.setIfInBounds_toArray, List.set_cons_zero, List.set_cons_succ]
      have HXc := Lib.hid (HXc.out.setAttrs hl (.slice ao b.attrs.length ac))
      have HZc := Lib.hid (blk_setO HZc.out (a := ⟨w.heap.size, 67, none⟩) (by simp) (.slice ao b.attrs.length ac))
      have HOF := Lib.hid (own_set HOF.out (a := ⟨w.heap.size, 67, none⟩) (by show w.heap.size < w.heap.size + 2; omega) (.slice ao b.attrs.length ac))
      have HOA := Lib.hid (own_set HOA.out (a := ⟨w.heap.size, 67, none⟩) (by show w.heap.size < w.heap.size + 2; omega) (.slice ao b.attrs.length ac))
      have HBc := Lib.hid hBn
      clear hBn k1 k2
      refine wpAnyH_done (by kernel_rfl) ?_ _
      go_wp2_with (first
        | (refine wpLdB rfl _ rfl rfl HXc.out hl ?_)
        | (refine wpStB rfl _ _ rfl rfl rfl HZc.out zB_len hl rfl rfl ?_; intro w7 hx7 hg7))
      have HN := Lib.hid (loadVarB hx7 hl)
      have HBN := Lib.hid (HBc.out.grown hg7 HBc.out.size (fun k hk => by cases hk; omega))
      refine bodyPost_ret (resB1 Try.results56 rfl HN.out) rfl ⟨_, _, rfl, ?_, ?_, HBN.out⟩
      · have := own_grown HOF.out hg7 (by omega)
        exact ⟨this.1, this.2.imp id fun ⟨g, cap, cur, e, hb, r⟩ => ⟨g, cap, cur, e, by omega, r⟩⟩
      · exact row_leA (own_grown HOA.out hg7 (by omega)) (by omega)
  · have k0 := HXc.out.attrs hl
    go_simp
    refine hK.out _ _ ?_ (fun rN => ?_)
    · exact HBc.out
    try simp only [Act.put, List.getElem_toArray, List.getElem_cons_succ, List.getElem_cons_zero, List.setIfInBounds_toArray, List.set_cons_zero, List.set_cons_succ]
    refine wpAnyH_ready (rs := [1]) (by kernel_rfl) (by simp) ?_
    refine AllReadyH.cons rfl (fun K hK => ?_) AllReadyH.nil
    have k0 := HXc.out.free hl
    go_simp
    refine hK.out _ _ ?_ (fun rN => ?_)
    · exact HBc.out
    try simp only [Act.put, List.getElem_toArray, List.getElem_cons_succ, List.getElem_cons_zero, List.setIfInBounds_toArray, List.set_cons_zero, List.set_cons_succ]
    refine wpAnyH_ready (rs := [2]) (by kernel_rfl) (by simp) ?_
    refine AllReadyH.cons rfl (fun K hK => ?_) AllReadyH.nil
    go_simp
    refine (HCU.out _ (HSF.out.keep HBc.out)).mono ?_; rintro x wn ⟨fvn, rfl, hof, hbn⟩
    have hBn := HBc.out.trans (hbn.mono HBc.out.size)
    refine hK.out _ _ ?_ (fun rN => ?_)
    · exact hBn
    try simp only [Act.put, List.getElem_toArray, List.getElem_cons_succ, List.getElem_cons_zero, List.setIfInBounds_toArray, List.set_cons_zero, List.set_cons_succ]
    have HBc := Lib.hid hBn
    have HXc := Lib.hid (HXc.out.below hbn)
    have HZc := Lib.hid (HZc.out.below hbn)
    have HOF : Hid (Owns wn (w.heap.size + 2) fvn b.free) := Lib.hid ⟨hof.1, hof.2.imp id fun ⟨g, cap, cur, e, hb, r⟩ => ⟨g, cap, cur, e, Nat.le_trans HSC.out hb, r⟩⟩
    have HSC := Lib.hid (Nat.le_trans HSC.out hbn.size)
    obtain ⟨fo, fc, rfl, -⟩ := HOF.out.sees
    clear hof hbn hBn
    refine wpAnyH_take (i := 6) (v := ?_) rfl (by kernel_rfl) (by kernel_rfl) (by kernel_rfl) (fun _ _ _ h => h) (Or.inl ⟨by rfl, ?_⟩) (by assumption) ?_
    rotate_left
    · intro wS hSw
      (try dsimp only at hSw)
      go_simp
      first | done | with_reducible rfl
    try simp only [Act.put, List.getElem_toArray, List.getElem_cons_succ, List.getElem_cons_zero, List.setIfInBounds_toArray, List.set_cons_zero, List.set_cons_succ]
    refine wpAnyH_ready (rs := [5]) (by kernel_rfl) (by simp) ?_
    refine AllReadyH.cons rfl (fun K hK => ?_) AllReadyH.nil
    go_simp
    refine (HCA.out _ (HSA.out.below HBc.out)).mono ?_; rintro x wn ⟨avn, rfl, hoa, hbn⟩
    have hBn := HBc.out.trans (hbn.mono HBc.out.size)
    refine hK.out _ _ ?_ (fun rN => ?_)
    · exact hBn
    try simp only [Act.put, List.getElem_toArray, List.getElem_cons_succ, List.getElem_cons_zero, List.setIfInBounds_toArray, List.set_cons_zero, List.set_cons_succ]
    have HBc := Lib.hid hBn
    have HXc := Lib.hid (HXc.out.below hbn)
    have HZc := Lib.hid (HZc.out.below hbn)
    have HOF := Lib.hid (HOF.out.keep hbn)
    have HOA : Hid (RowA EAt wn (w.heap.size + 2) avn b.attrs) := Lib.hid (row_leA hoa HSC.out)
    have HSC := Lib.hid (Nat.le_trans HSC.out hbn.size)
    obtain ⟨ao, ac, rfl, -⟩ := hoa.sees
    clear hoa hbn hBn
    refine wpAnyH_ready (rs := [7]) (by kernel_rfl) (by simp) ?_
    refine AllReadyH.cons rfl (fun K hK => ?_) AllReadyH.nil
    have k1 := HXc.out.free hl
    have k2 := HXc.out.froz 66
    go_simp
    have hBn := HBc.out.setCell (p := ⟨w.heap.size, 66, none⟩) (Nat.le_refl _) (.slice fo b.free.length fc)
    refine hK.out _ _ ?_ (fun rN => ?_)
    · exact hBn
    try simp only [Act.put, List.getElem_toArray, List.getElem_cons_succ, List.getElem_cons_zero, List.setIfInBounds_toArray, List.set_cons_zero, List.set_cons_succ]
    have HXc := Lib.hid (HXc.out.setFree hl (.slice fo b.free.length fc))
    have HZc := Lib.hid (blk_setO HZc.out (a := ⟨w.heap.size, 66, none⟩) (by simp) (.slice fo b.free.length fc))
    have HOF := Lib.hid (own_set HOF.out (a := ⟨w.heap.size, 66, none⟩) (by show w.heap.size < w.heap.size + 2; omega) (.slice fo b.free.length fc))
    first | have HOA := Lib.hid (own_set HOA.out (a := ⟨w.heap.size, 66, none⟩) (by show w.heap.size < w.heap.size + 2; omega) (.slice fo b.free.length fc)) | skip
    have HSC := Lib.hid (size_set HSC.out ⟨w.heap.size, 66, none⟩ (.slice fo b.free.length fc))
    have HBc := Lib.hid hBn
    clear hBn k1 k2
    refine wpAnyH_take (i := 8) (v := ?_) rfl (by kernel_rfl) (by kernel_rfl) (by kernel_rfl) (fun _ _ _ h => h) (Or.inl ⟨by rfl, ?_⟩) (by assumption) ?_
    rotate_left
    · intro wS hSw
      (try dsimp only at hSw)
      go_simp
      first | done | with_reducible rfl
    try simp only [Act.put, List.getElem_toArray, List.getElem_cons_succ, List.getElem_cons_zero, List.setIfInBounds_toArray, List.set_cons_zero, List.set_cons_succ]
    refine wpAnyH_ready (rs := [9]) (by kernel_rfl) (by simp) ?_
    refine AllReadyH.cons rfl (fun K hK => ?_) AllReadyH.nil
    have k1 := HXc.out.attrs hl
    have k2 := HXc.out.froz 67
    go_simp
    have hBn := HBc.out.setCell (p := ⟨w.heap.size, 67, none⟩) (Nat.le_refl _) (.slice ao b.attrs.length ac)
    refine hK.out _ _ ?_ (fun rN => ?_)
    · exact hBn
    try simp only [Act.put, List.getElem_toArray, List.getElem_cons_succ, List.getElem_cons_zero, List.setIfInBounds_toArray, List.set_cons_zero, List.set_cons_succ]
    have HXc := Lib.hid (HXc.out.setAttrs hl (.slice ao b.attrs.length ac))
    have HZc := Lib.hid (blk_setO HZc.out (a := ⟨w.heap.size, 67, none⟩) (by simp) (.slice ao b.attrs.length ac))
    have HOF := Lib.hid (own_set HOF.out (a := ⟨w.heap.size, 67, none⟩) (by show w.heap.size < w.heap.size + 2; omega) (.slice ao b.attrs.length ac))
    have HOA := Lib.hid (own_set HOA.out (a := ⟨w.heap.size, 67, none⟩) (by show w.heap.size < w.heap.size + 2; omega) (.slice ao b.attrs.length ac))
    have HBc := Lib.hid hBn
    clear hBn k1 k2
    refine wpAnyH_done (by kernel_rfl) ?_ _
    go_wp2_with (first
      | (refine wpLdB rfl _ rfl rfl HXc.out hl ?_)
      | (refine wpStB rfl _ _ rfl rfl rfl HZc.out zB_len hl rfl rfl ?_; intro w7 hx7 hg7))
    have HN := Lib.hid (loadVarB hx7 hl)
    have HBN := Lib.hid (HBc.out.grown hg7 HBc.out.size (fun k hk => by cases hk; omega))
    refine bodyPost_ret (resB1 Try.results56 rfl HN.out) rfl ⟨_, _, rfl, ?_, ?_, HBN.out⟩
    · have := own_grown HOF.out hg7 (by omega)
      exact ⟨this.1, this.2.imp id fun ⟨g, cap, cur, e, hb, r⟩ => ⟨g, cap, cur, e, by omega, r⟩⟩
    · exact row_leA (own_grown HOA.out hg7 (by omega)) (by omega)
end Go.Proofs.Ytgodmnpcedfdcaa
