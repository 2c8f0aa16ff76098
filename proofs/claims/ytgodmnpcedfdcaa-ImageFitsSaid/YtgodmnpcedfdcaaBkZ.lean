/- Package block: ReleaseHandle and ReleaseNode of a block that is not right. -/
import Derived.Test.YtgodmnpcedfdcaaBkY
namespace Go.Proofs.Ytgodmnpcedfdcaa
open Go.RowKit
set_option maxRecDepth 100000 in
set_option maxHeartbeats 8000000 in
theorem releaseH_no (b : BlkS) (fv av : Value) (s : ByteArray) (w : World) (hf : Sees w fv b.free) (ha : SeesA w av b.attrs) (hw : BWf b) (hr : rightB b = false) :
    Calls Try.prog 19 #[.agg (blkL b fv av).toArray, .string s] w fun e w' => e = .returned (.tuple #[.agg (blkL zB NS NS).toArray, NS, .int .i64 1]) ∧ Below w.heap.size w w' := by
  obtain ⟨W, hW⟩ : ∃ W, W = ((w.alloc (blkO b fv av)).alloc (sO s)).alloc (blkO zB NS NS) := ⟨_, rfl⟩
  obtain ⟨hb0, hA, hT, hR, hsz⟩ := three_newB w (blkO b fv av) (sO s) (blkO zB NS NS)
  rw [← hW] at hb0 hA hT hR hsz
  have hBd : Below w.heap.size w W.drew := ⟨hb0.os, hb0.tape, hb0.output, hb0.size, hb0.block⟩
  have HS0 : Hid (Below w.heap.size w W.drew ∧ BlkAt W.drew w.heap.size b fv av ∧ W.drew.heap[w.heap.size + 1]? = some (sO s)) := Lib.hid ⟨hBd, hA, hT⟩
  have HZc : Hid (BlkAt W.drew (w.heap.size + 2) zB NS NS) := Lib.hid hR
  have HW := Lib.hid hW
  have hl := hw.2.1
  have HGV := Lib.hid (given15_bad b fv av W.drew (hf.keep hBd) (ha.below hBd) hw hr)
  have HRE := Lib.hid (fun (W1 : World) (hS : Below w.heap.size w W1 ∧ BlkAt W1 w.heap.size b fv av ∧ W1.heap[w.heap.size + 1]? = some (sO s)) => release_badH (w.heap.size + 1) b fv av NS [] W1 (hf.keep hS.1) (ha.below hS.1) hw hr)
  clear hW hb0 hA hT hR hsz hf ha hw hr hBd
  go_enter Try.func19, Try.ntmps19
  go_upto_region 1 with fail
  change Code.wp _ _ _ _ (((w.alloc (blkO b fv av)).alloc (sO s)).alloc (blkO zB NS NS))
  rw [← HW.out]
  clear HW
  refine wp_region_held_drew (S := (fun X => Below w.heap.size w X ∧ BlkAt X w.heap.size b fv av ∧ X.heap[w.heap.size + 1]? = some (sO s))) (by kernel_rfl) ?_ (fun rN => ?_)
  · exact HS0.out
  refine wpAnyH_take (i := 0) (v := _) rfl (by kernel_rfl) (by kernel_rfl) (by kernel_rfl) (fun _ _ _ h => h) (ldBIf (by rfl) _ rfl rfl (fun W hW => hW.2.1) hl) (by assumption) ?_
  try simp only [Act.put, List.getElem_toArray, List.getElem_cons_succ, List.getElem_cons_zero, List.setIfInBounds_toArray, List.set_cons_zero, List.set_cons_succ]
  refine wpAnyH_take (i := 1) (v := _) rfl (by kernel_rfl) (by kernel_rfl) (by kernel_rfl) (fun _ _ _ h => h) (ldBIf (by rfl) _ rfl rfl (fun W hW => hW.2.1) hl) (by assumption) ?_
  try simp only [Act.put, List.getElem_toArray, List.getElem_cons_succ, List.getElem_cons_zero, List.setIfInBounds_toArray, List.set_cons_zero, List.set_cons_succ]
  refine wpAnyH_take (i := 3) (v := ?_) rfl (by kernel_rfl) (by kernel_rfl) (by kernel_rfl) (fun _ _ _ h => h) (Or.inl ⟨by rfl, ?_⟩) (by assumption) ?_
  rotate_left
  · intro wS hSw
    (try dsimp only at hSw)
    go_simp
    first | done | with_reducible rfl
  try simp only [Act.put, List.getElem_toArray, List.getElem_cons_succ, List.getElem_cons_zero, List.setIfInBounds_toArray, List.set_cons_zero, List.set_cons_succ]
  refine wpAnyH_ready (rs := [2]) (by kernel_rfl) (by simp) ?_
  refine AllReadyH.cons rfl (fun K hK => ?_) AllReadyH.nil
  go_simp
  refine HGV.out.mono ?_; rintro x wn ⟨rfl, hbn⟩
  have hSn : Below w.heap.size w wn ∧ BlkAt wn w.heap.size b fv av ∧ wn.heap[w.heap.size + 1]? = some (sO s) := ⟨rN.1.trans (hbn.mono rN.1.size), rN.2.1.below hbn, (hbn.block _ (heap_lt rN.2.2)).trans rN.2.2⟩
  refine hK.out _ _ ?_ (fun rN => ?_)
  · exact hSn
  try simp only [Act.put, List.getElem_toArray, List.getElem_cons_succ, List.getElem_cons_zero, List.setIfInBounds_toArray, List.set_cons_zero, List.set_cons_succ]
  have HZc := Lib.hid (HZc.out.below hbn)
  have HRQ := Lib.hid (HRE.out _ hSn)
  clear hbn hSn
  refine wpAnyH_ready (rs := [4]) (by kernel_rfl) (by simp) ?_
  refine AllReadyH.cons rfl (fun K hK => ?_) AllReadyH.nil
  go_simp
  refine HRQ.out.mono ?_; rintro x wn ⟨rfl, gb⟩
  have hSn : Below w.heap.size w wn ∧ BlkAt wn w.heap.size b fv av ∧ wn.heap[w.heap.size + 1]? = some (sO s) := ⟨rN.1.trans (gb.mono rN.1.size), rN.2.1.below gb, (gb.block _ (heap_lt rN.2.2)).trans rN.2.2⟩
  refine hK.out _ _ ?_ (fun rN => ?_)
  · exact hSn
  try simp only [Act.put, List.getElem_toArray, List.getElem_cons_succ, List.getElem_cons_zero, List.setIfInBounds_toArray, List.set_cons_zero, List.set_cons_succ]
  have HZc := Lib.hid (HZc.out.below gb)
  clear gb hSn
  refine wpAnyH_take (i := 5) (v := ?_) rfl (by kernel_rfl) (by kernel_rfl) (by kernel_rfl) (fun _ _ _ h => h) (Or.inl ⟨by rfl, ?_⟩) (by assumption) ?_
  rotate_left
  · intro wS hSw
    (try dsimp only at hSw)
    go_simp
    first | done | with_reducible rfl
  try simp only [Act.put, List.getElem_toArray, List.getElem_cons_succ, List.getElem_cons_zero, List.setIfInBounds_toArray, List.set_cons_zero, List.set_cons_succ]
  refine wpAnyH_take (i := 6) (v := ?_) rfl (by kernel_rfl) (by kernel_rfl) (by kernel_rfl) (fun _ _ _ h => h) (Or.inl ⟨by rfl, ?_⟩) (by assumption) ?_
  rotate_left
  · intro wS hSw
    (try dsimp only at hSw)
    go_simp
    first | done | with_reducible rfl
  try simp only [Act.put, List.getElem_toArray, List.getElem_cons_succ, List.getElem_cons_zero, List.setIfInBounds_toArray, List.set_cons_zero, List.set_cons_succ]
  refine wpAnyH_take (i := 7) (v := ?_) rfl (by kernel_rfl) (by kernel_rfl) (by kernel_rfl) (fun _ _ _ h => h) (Or.inl ⟨by rfl, ?_⟩) (by assumption) ?_
  rotate_left
  · intro wS hSw
    (try dsimp only at hSw)
    go_simp
    first | done | with_reducible rfl
  try simp only [Act.put, List.getElem_toArray, List.getElem_cons_succ, List.getElem_cons_zero, List.setIfInBounds_toArray, List.set_cons_zero, List.set_cons_succ]
  refine wpAnyH_ready (rs := [8]) (by kernel_rfl) (by simp) ?_
  refine AllReadyH.cons rfl (fun K hK => ?_) AllReadyH.nil
  rw [if_pos (by kernel_rfl)]
  refine wpStBK (b := zB) (fv := NS) (av := NS) _ _ rfl rfl rfl HZc.out zB_len zB_len rfl rfl ?_; intro wn hxn hgn
  refine hK.out _ _ ?_ (fun rN => ?_)
  · exact ⟨rN.1.grown hgn rN.1.size (fun k hk => by cases hk; omega), (hgn.block _ (heap_lt rN.2.1) (fun e => by have := Option.some.inj e; omega)).trans rN.2.1, (hgn.block _ (heap_lt rN.2.2) (fun e => by have := Option.some.inj e; omega)).trans rN.2.2⟩
  try simp only [Act.put, List.getElem_toArray, List.getElem_cons_succ, List.getElem_cons_zero, List.setIfInBounds_toArray, List.set_cons_zero, List.set_cons_succ]
  refine wpAnyH_take (i := 9) (v := ?_) rfl (by kernel_rfl) (by kernel_rfl) (by kernel_rfl) (fun _ _ _ h => h) (Or.inl ⟨by rfl, ?_⟩) (by assumption) ?_
  rotate_left
  · intro wS hSw
    (try dsimp only at hSw)
    go_simp
    first | done | with_reducible rfl
  try simp only [Act.put, List.getElem_toArray, List.getElem_cons_succ, List.getElem_cons_zero, List.setIfInBounds_toArray, List.set_cons_zero, List.set_cons_succ]
  refine wpAnyH_take (i := 10) (v := ?_) rfl (by kernel_rfl) (by kernel_rfl) (by kernel_rfl) (fun _ _ _ h => h) (Or.inl ⟨by rfl, ?_⟩) (by assumption) ?_
  rotate_left
  · intro wS hSw
    (try dsimp only at hSw)
    go_simp
    first | done | with_reducible rfl
  try simp only [Act.put, List.getElem_toArray, List.getElem_cons_succ, List.getElem_cons_zero, List.setIfInBounds_toArray, List.set_cons_zero, List.set_cons_succ]
  refine wpAnyH_done (by kernel_rfl) ?_ _
  go_wp2_with fail
  exact bodyPost_ret (resB3 Try.results19 rfl (loadVarB hxn zB_len)) rfl ⟨rfl, rN.1⟩
set_option maxRecDepth 100000 in
set_option maxHeartbeats 8000000 in
theorem releaseN_no (b : BlkS) (fv av : Value) (s : ByteArray) (w : World) (hf : Sees w fv b.free) (ha : SeesA w av b.attrs) (hw : BWf b) (hr : rightB b = false) :
    Calls Try.prog 20 #[.agg (blkL b fv av).toArray, .string s] w fun e w' => e = .returned (.tuple #[.agg (blkL zB NS NS).toArray, NS, .int .i64 1]) ∧ Below w.heap.size w w' := by
  obtain ⟨W, hW⟩ : ∃ W, W = ((w.alloc (blkO b fv av)).alloc (sO s)).alloc (blkO zB NS NS) := ⟨_, rfl⟩
  obtain ⟨hb0, hA, hT, hR, hsz⟩ := three_newB w (blkO b fv av) (sO s) (blkO zB NS NS)
  rw [← hW] at hb0 hA hT hR hsz
  have hBd : Below w.heap.size w W.drew := ⟨hb0.os, hb0.tape, hb0.output, hb0.size, hb0.block⟩
  have HS0 : Hid (Below w.heap.size w W.drew ∧ BlkAt W.drew w.heap.size b fv av ∧ W.drew.heap[w.heap.size + 1]? = some (sO s)) := Lib.hid ⟨hBd, hA, hT⟩
  have HZc : Hid (BlkAt W.drew (w.heap.size + 2) zB NS NS) := Lib.hid hR
  have HW := Lib.hid hW
  have hl := hw.2.1
  have HGV := Lib.hid (given15_bad b fv av W.drew (hf.keep hBd) (ha.below hBd) hw hr)
  have HRE := Lib.hid (fun (W1 : World) (hS : Below w.heap.size w W1 ∧ BlkAt W1 w.heap.size b fv av ∧ W1.heap[w.heap.size + 1]? = some (sO s)) => release_badN (w.heap.size + 1) b fv av NS [] W1 (hf.keep hS.1) (ha.below hS.1) hw hr)
  clear hW hb0 hA hT hR hsz hf ha hw hr hBd
  go_enter Try.func20, Try.ntmps20
  go_upto_region 1 with fail
  change Code.wp _ _ _ _ (((w.alloc (blkO b fv av)).alloc (sO s)).alloc (blkO zB NS NS))
  rw [← HW.out]
  clear HW
  refine wp_region_held_drew (S := (fun X => Below w.heap.size w X ∧ BlkAt X w.heap.size b fv av ∧ X.heap[w.heap.size + 1]? = some (sO s))) (by kernel_rfl) ?_ (fun rN => ?_)
  · exact HS0.out
  refine wpAnyH_take (i := 0) (v := _) rfl (by kernel_rfl) (by kernel_rfl) (by kernel_rfl) (fun _ _ _ h => h) (ldBIf (by rfl) _ rfl rfl (fun W hW => hW.2.1) hl) (by assumption) ?_
  try simp only [Act.put, List.getElem_toArray, List.getElem_cons_succ, List.getElem_cons_zero, List.setIfInBounds_toArray, List.set_cons_zero, List.set_cons_succ]
  refine wpAnyH_take (i := 1) (v := _) rfl (by kernel_rfl) (by kernel_rfl) (by kernel_rfl) (fun _ _ _ h => h) (ldBIf (by rfl) _ rfl rfl (fun W hW => hW.2.1) hl) (by assumption) ?_
  try simp only [Act.put, List.getElem_toArray, List.getElem_cons_succ, List.getElem_cons_zero, List.setIfInBounds_toArray, List.set_cons_zero, List.set_cons_succ]
  refine wpAnyH_take (i := 3) (v := ?_) rfl (by kernel_rfl) (by kernel_rfl) (by kernel_rfl) (fun _ _ _ h => h) (Or.inl ⟨by rfl, ?_⟩) (by assumption) ?_
  rotate_left
  · intro wS hSw
    (try dsimp only at hSw)
    go_simp
    first | done | with_reducible rfl
  try simp only [Act.put, List.getElem_toArray, List.getElem_cons_succ, List.getElem_cons_zero, List.setIfInBounds_toArray, List.set_cons_zero, List.set_cons_succ]
  refine wpAnyH_ready (rs := [2]) (by kernel_rfl) (by simp) ?_
  refine AllReadyH.cons rfl (fun K hK => ?_) AllReadyH.nil
  go_simp
  refine HGV.out.mono ?_; rintro x wn ⟨rfl, hbn⟩
  have hSn : Below w.heap.size w wn ∧ BlkAt wn w.heap.size b fv av ∧ wn.heap[w.heap.size + 1]? = some (sO s) := ⟨rN.1.trans (hbn.mono rN.1.size), rN.2.1.below hbn, (hbn.block _ (heap_lt rN.2.2)).trans rN.2.2⟩
  refine hK.out _ _ ?_ (fun rN => ?_)
  · exact hSn
  try simp only [Act.put, List.getElem_toArray, List.getElem_cons_succ, List.getElem_cons_zero, List.setIfInBounds_toArray, List.set_cons_zero, List.set_cons_succ]
  have HZc := Lib.hid (HZc.out.below hbn)
  have HRQ := Lib.hid (HRE.out _ hSn)
  clear hbn hSn
  refine wpAnyH_ready (rs := [4]) (by kernel_rfl) (by simp) ?_
  refine AllReadyH.cons rfl (fun K hK => ?_) AllReadyH.nil
  go_simp
  refine HRQ.out.mono ?_; rintro x wn ⟨rfl, gb⟩
  have hSn : Below w.heap.size w wn ∧ BlkAt wn w.heap.size b fv av ∧ wn.heap[w.heap.size + 1]? = some (sO s) := ⟨rN.1.trans (gb.mono rN.1.size), rN.2.1.below gb, (gb.block _ (heap_lt rN.2.2)).trans rN.2.2⟩
  refine hK.out _ _ ?_ (fun rN => ?_)
  · exact hSn
  try simp only [Act.put, List.getElem_toArray, List.getElem_cons_succ, List.getElem_cons_zero, List.setIfInBounds_toArray, List.set_cons_zero, List.set_cons_succ]
  have HZc := Lib.hid (HZc.out.below gb)
  clear gb hSn
  refine wpAnyH_take (i := 5) (v := ?_) rfl (by kernel_rfl) (by kernel_rfl) (by kernel_rfl) (fun _ _ _ h => h) (Or.inl ⟨by rfl, ?_⟩) (by assumption) ?_
  rotate_left
  · intro wS hSw
    (try dsimp only at hSw)
    go_simp
    first | done | with_reducible rfl
  try simp only [Act.put, List.getElem_toArray, List.getElem_cons_succ, List.getElem_cons_zero, List.setIfInBounds_toArray, List.set_cons_zero, List.set_cons_succ]
  refine wpAnyH_take (i := 6) (v := ?_) rfl (by kernel_rfl) (by kernel_rfl) (by kernel_rfl) (fun _ _ _ h => h) (Or.inl ⟨by rfl, ?_⟩) (by assumption) ?_
  rotate_left
  · intro wS hSw
    (try dsimp only at hSw)
    go_simp
    first | done | with_reducible rfl
  try simp only [Act.put, List.getElem_toArray, List.getElem_cons_succ, List.getElem_cons_zero, List.setIfInBounds_toArray, List.set_cons_zero, List.set_cons_succ]
  refine wpAnyH_take (i := 7) (v := ?_) rfl (by kernel_rfl) (by kernel_rfl) (by kernel_rfl) (fun _ _ _ h => h) (Or.inl ⟨by rfl, ?_⟩) (by assumption) ?_
  rotate_left
  · intro wS hSw
    (try dsimp only at hSw)
    go_simp
    first | done | with_reducible rfl
  try simp only [Act.put, List.getElem_toArray, List.getElem_cons_succ, List.getElem_cons_zero, List.setIfInBounds_toArray, List.set_cons_zero, List.set_cons_succ]
  refine wpAnyH_ready (rs := [8]) (by kernel_rfl) (by simp) ?_
  refine AllReadyH.cons rfl (fun K hK => ?_) AllReadyH.nil
  rw [if_pos (by kernel_rfl)]
  refine wpStBK (b := zB) (fv := NS) (av := NS) _ _ rfl rfl rfl HZc.out zB_len zB_len rfl rfl ?_; intro wn hxn hgn
  refine hK.out _ _ ?_ (fun rN => ?_)
  · exact ⟨rN.1.grown hgn rN.1.size (fun k hk => by cases hk; omega), (hgn.block _ (heap_lt rN.2.1) (fun e => by have := Option.some.inj e; omega)).trans rN.2.1, (hgn.block _ (heap_lt rN.2.2) (fun e => by have := Option.some.inj e; omega)).trans rN.2.2⟩
  try simp only [Act.put, List.getElem_toArray, List.getElem_cons_succ, List.getElem_cons_zero, List.setIfInBounds_toArray, List.set_cons_zero, List.set_cons_succ]
  refine wpAnyH_take (i := 9) (v := ?_) rfl (by kernel_rfl) (by kernel_rfl) (by kernel_rfl) (fun _ _ _ h => h) (Or.inl ⟨by rfl, ?_⟩) (by assumption) ?_
  rotate_left
  · intro wS hSw
    (try dsimp only at hSw)
    go_simp
    first | done | with_reducible rfl
  try simp only [Act.put, List.getElem_toArray, List.getElem_cons_succ, List.getElem_cons_zero, List.setIfInBounds_toArray, List.set_cons_zero, List.set_cons_succ]
  refine wpAnyH_take (i := 10) (v := ?_) rfl (by kernel_rfl) (by kernel_rfl) (by kernel_rfl) (fun _ _ _ h => h) (Or.inl ⟨by rfl, ?_⟩) (by assumption) ?_
  rotate_left
  · intro wS hSw
    (try dsimp only at hSw)
    go_simp
    first | done | with_reducible rfl
  try simp only [Act.put, List.getElem_toArray, List.getElem_cons_succ, List.getElem_cons_zero, List.setIfInBounds_toArray, List.set_cons_zero, List.set_cons_succ]
  refine wpAnyH_done (by kernel_rfl) ?_ _
  go_wp2_with fail
  exact bodyPost_ret (resB3 Try.results20 rfl (loadVarB hxn zB_len)) rfl ⟨rfl, rN.1⟩
end Go.Proofs.Ytgodmnpcedfdcaa
