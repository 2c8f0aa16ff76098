/- Joined: BkY BkZ. -/
import Derived.Test.YtgodmnpcedfdcaaBkX
namespace Go.Proofs.Ytgodmnpcedfdcaa
section
open Go.RowKit
def emptyS (b : BlkS) : Bool := rightB b && decide (b.sl = zB.sl)
set_option maxRecDepth 100000 in
set_option maxHeartbeats 8000000 in
theorem empty15_any (b : BlkS) (fv av : Value) (w : World) (hf : Sees w fv b.free) (ha : SeesA w av b.attrs) (hw : BWf b) :
    Calls Try.prog 23 #[.agg (blkL b fv av).toArray] w fun e w' => e = .returned (.bool (emptyS b)) ∧ Below w.heap.size w w' := by
  obtain ⟨W, hW⟩ : ∃ W, W = w.alloc (blkO b fv av) := ⟨_, rfl⟩
  have hb0 := belNew w (blkO b fv av)
  have hA := heap_new w (blkO b fv av)
  rw [← hW] at hb0 hA
  have HX0 : Hid (BlkAt W w.heap.size b fv av) := Lib.hid hA
  have HB0 := Lib.hid hb0
  have HW := Lib.hid hW
  have HRB := Lib.hid (rightBlk_any (blkL b fv av).toArray b W ⟨fv, av, rfl, hf.keep hb0, ha.below hb0, hw⟩)
  have hl := hw.2.1
  have q2 := fun w => eql64 b.sl zB.sl hl zB_len w
  have q3 : ∀ w, (binOp .eql 23 (.agg (b.sl.map (Value.int .u8)).toArray) (.agg #[Value.int .u8 0, Value.int .u8 0, Value.int .u8 0, Value.int .u8 0, Value.int .u8 0, Value.int .u8 0, Value.int .u8 0, Value.int .u8 0, Value.int .u8 0, Value.int .u8 0, Value.int .u8 0, Value.int .u8 0, Value.int .u8 0, Value.int .u8 0, Value.int .u8 0, Value.int .u8 0, Value.int .u8 0, Value.int .u8 0, Value.int .u8 0, Value.int .u8 0, Value.int .u8 0, Value.int .u8 0, Value.int .u8 0, Value.int .u8 0, Value.int .u8 0, Value.int .u8 0, Value.int .u8 0, Value.int .u8 0, Value.int .u8 0, Value.int .u8 0, Value.int .u8 0, Value.int .u8 0, Value.int .u8 0, Value.int .u8 0, Value.int .u8 0, Value.int .u8 0, Value.int .u8 0, Value.int .u8 0, Value.int .u8 0, Value.int .u8 0, Value.int .u8 0, Value.int .u8 0, Value.int .u8 0, Value.int .u8 0, Value.int .u8 0, Value.int .u8 0, Value.int .u8 0, Value.int .u8 0, Value.int .u8 0, Value.int .u8 0, Value.int .u8 0, Value.int .u8 0, Value.int .u8 0, Value.int .u8 0, Value.int .u8 0, Value.int .u8 0, Value.int .u8 0, Value.int .u8 0, Value.int .u8 0, Value.int .u8 0, Value.int .u8 0, Value.int .u8 0, Value.int .u8 0, Value.int .u8 0])).run Try.prog w = .ok (.bool (decide (b.sl = zB.sl))) w := q2
  have q4 : ∀ w, (Op.equalIn 10000 23 (.agg (b.sl.map (Value.int .u8)).toArray) (.agg #[Value.int .u8 0, Value.int .u8 0, Value.int .u8 0, Value.int .u8 0, Value.int .u8 0, Value.int .u8 0, Value.int .u8 0, Value.int .u8 0, Value.int .u8 0, Value.int .u8 0, Value.int .u8 0, Value.int .u8 0, Value.int .u8 0, Value.int .u8 0, Value.int .u8 0, Value.int .u8 0, Value.int .u8 0, Value.int .u8 0, Value.int .u8 0, Value.int .u8 0, Value.int .u8 0, Value.int .u8 0, Value.int .u8 0, Value.int .u8 0, Value.int .u8 0, Value.int .u8 0, Value.int .u8 0, Value.int .u8 0, Value.int .u8 0, Value.int .u8 0, Value.int .u8 0, Value.int .u8 0, Value.int .u8 0, Value.int .u8 0, Value.int .u8 0, Value.int .u8 0, Value.int .u8 0, Value.int .u8 0, Value.int .u8 0, Value.int .u8 0, Value.int .u8 0, Value.int .u8 0, Value.int .u8 0, Value.int .u8 0, Value.int .u8 0, Value.int .u8 0, Value.int .u8 0, Value.int .u8 0, Value.int .u8 0, Value.int .u8 0, Value.int .u8 0, Value.int .u8 0, Value.int .u8 0, Value.int .u8 0, Value.int .u8 0, Value.int .u8 0, Value.int .u8 0, Value.int .u8 0, Value.int .u8 0, Value.int .u8 0, Value.int .u8 0, Value.int .u8 0, Value.int .u8 0, Value.int .u8 0])).run Try.prog w = .ok (decide (b.sl = zB.sl)) w := fun w => by
    have h1 := eqItems_u8 9998 b.sl zB.sl w (by rw [hl, zB_len]) 64 0 (by omega)
    rw [List.drop_zero, List.drop_zero, ← List.range_eq_range'] at h1
    obtain ⟨i0, hi, hz0, hz1, hz2⟩ := info_parts info8
    have h2 := run_equalIn_array (P := Try.prog) w 9999 (t := 23) (b.sl.map (Value.int .u8)).toArray (zB.sl.map (Value.int .u8)).toArray Try.underlying23 hi
    rw [cells5, h1] at h2
    exact h2
  clear q2
  have HV : Hid (emptyS b = (rightB b && decide (b.sl = zB.sl))) := Lib.hid rfl
  generalize emptyS b = R at *
  generalize decide (b.sl = zB.sl) = r at *
  generalize rightB b = q at *
  clear hW hb0 hA hf ha hw
  cases q with
  | false =>
    go_enter Try.func23, Try.ntmps23
    go_upto_region 1 with fail
    change Code.wp _ _ _ _ (w.alloc (blkO b fv av))
    rw [← HW.out]
    clear HW
    go_wp2_with (refine wpLdB rfl _ rfl rfl HX0.out hl ?_)
    refine HRB.out.mono ?_; rintro e w1 ⟨rfl, hb1⟩
    go_wp2_with fail
    go_ret
    exact ⟨by rw [HV.out]; rfl, HB0.out.trans (hb1.mono HB0.out.size)⟩
  | true =>
    go_enter Try.func23, Try.ntmps23
    go_upto_region 1 with fail
    change Code.wp _ _ _ _ (w.alloc (blkO b fv av))
    rw [← HW.out]
    clear HW
    go_wp2_with (refine wpLdB rfl _ rfl rfl HX0.out hl ?_)
    refine HRB.out.mono ?_; rintro e w1 ⟨rfl, hb1⟩
    have HX1 := Lib.hid (HX0.out.below hb1)
    have HB1 := Lib.hid (HB0.out.trans (hb1.mono HB0.out.size))
    clear hb1
    go_wp2_with (refine wpLd64g (by rfl) _ rfl rfl HX1.out hl ?_)
    go_ret
    exact ⟨by rw [HV.out]; rfl, HB1.out⟩
end
section
open Go.RowKit
set_option maxRecDepth 100000 in
set_option maxHeartbeats 8000000 in
theorem releaseH_no (b : BlkS) (fv av : Value) (s : ByteArray) (w : World) (hf : Sees w fv b.free) (ha : SeesA w av b.attrs) (hw : BWf b) (hr : rightB b = false) :
    Calls Try.prog 19 #[.agg (blkL b fv av).toArray, .string s] w fun e w' => e = .returned (.tuple #[.agg (blkL zB NS NS).toArray, NS, .int .i64 1]) ∧ Below w.heap.size w w' := by
  obtain ⟨W, hW⟩ : ∃ W, W = ((w.alloc (blkO b fv av)).alloc (sO s)).alloc (blkO zB NS NS) := ⟨_, rfl⟩
  obtain ⟨hb0, hA, hT, hR, hsz⟩ := three_newB w (blkO b fv av) (sO s) (blkO zB NS NS)
  rw [← hW] at hb0 hA hT hR hsz
  have hBd : Below w.heap.size w W.drew := ⟨hb0.os, hb0.tape, hb0.output, hb0.size, hb0.block⟩
  have HS0 : Hid (Below w.heap.size w W.drew ∧ BlkAt W.drew w.heap.size b fv av ∧ W.drew.heap[w.heap.size + 1]? = some (sO s)) := Lib.hid ⟨hBd, hA, hT⟩
  have HZc : Hid (BlkAt W.drew (w.heap.size + 2) zB NS NS) := Lib.hid hR
  have HW := Lib.hid hW
  have hl := hw.2.1
  have HGV := Lib.hid (given15_bad b fv av W.drew (hf.keep hBd) (ha.below hBd) hw hr)
  have HRE := Lib.hid (fun (W1 : World) (hS : Below w.heap.size w W1 ∧ BlkAt W1 w.heap.size b fv av ∧ W1.heap[w.heap.size + 1]? = some (sO s)) => release_badH (w.heap.size + 1) b fv av NS [] W1 (hf.keep hS.1) (ha.below hS.1) hw hr)
  clear hW hb0 hA hT hR hsz hf ha hw hr hBd
  go_enter Try.func19, Try.ntmps19
  go_upto_region 1 with fail
  change Code.wp _ _ _ _ (((w.alloc (blkO b fv av)).alloc (sO s)).alloc (blkO zB NS NS))
  rw [← HW.out]
  clear HW
  refine wp_region_held_drew (S := (fun X => Below w.heap.size w X ∧ BlkAt X w.heap.size b fv av ∧ X.heap[w.heap.size + 1]? = some (sO s))) (by kernel_rfl) ?_ (fun rN => ?_)
  · exact HS0.out
  refine wpAnyH_take (i := 0) (v := _) rfl (by kernel_rfl) (by kernel_rfl) (by kernel_rfl) (fun _ _ _ h => h) (ldBIf (by rfl) _ rfl rfl (fun W hW => hW.2.1) hl) (by assumption) ?_
  try simp only [Act.put, List.getElem_toArray, List.getElem_cons_zero, List.setIfInBounds_toArray, List.set_cons_zero, List.set_cons_succ]
  refine wpAnyH_take (i := 1) (v := _) rfl (by kernel_rfl) (by kernel_rfl) (by kernel_rfl) (fun _ _ _ h => h) (ldBIf (by rfl) _ rfl rfl (fun W hW => hW.2.1) hl) (by assumption) ?_
  try simp only [Act.put, List.getElem_toArray, List.getElem_cons_succ, List.getElem_cons_zero, List.setIfInBounds_toArray, List.set_cons_zero, List.set_cons_succ]
  refine wpAnyH_take (i := 3) (v := ?_) rfl (by kernel_rfl) (by kernel_rfl) (by kernel_rfl) (fun _ _ _ h => h) (Or.inl ⟨by rfl, ?_⟩) (by assumption) ?_
  rotate_left
  · intro wS hSw
    (try dsimp only at hSw)
    go_simp
    first | done | with_reducible rfl
  try simp only [Act.put, List.getElem_toArray, List.getElem_cons_succ, List.getElem_cons_zero, List.setIfInBounds_toArray, List.set_cons_zero, List.set_cons_succ]
  refine wpAnyH_ready (rs := [2]) (by kernel_rfl) (by simp) ?_
  refine AllReadyH.cons rfl (fun K hK => ?_) AllReadyH.nil
  go_simp
  refine HGV.out.mono ?_; rintro x wn ⟨rfl, hbn⟩
  have hSn : Below w.heap.size w wn ∧ BlkAt wn w.heap.size b fv av ∧ wn.heap[w.heap.size + 1]? = some (sO s) := ⟨rN.1.trans (hbn.mono rN.1.size), rN.2.1.below hbn, (hbn.block _ (heap_lt rN.2.2)).trans rN.2.2⟩
  refine hK.out _ _ ?_ (fun rN => ?_)
  · exact hSn
  try simp only [Act.put, List.getElem_toArray, List.getElem_cons_succ, List.getElem_cons_zero, List.setIfInBounds_toArray, List.set_cons_zero, List.set_cons_succ]
  have HZc := Lib.hid (HZc.out.below hbn)
  have HRQ := Lib.hid (HRE.out _ hSn)
  clear hbn hSn
  refine wpAnyH_ready (rs := [4]) (by kernel_rfl) (by simp) ?_
  refine AllReadyH.cons rfl (fun K hK => ?_) AllReadyH.nil
  go_simp
  refine HRQ.out.mono ?_; rintro x wn ⟨rfl, gb⟩
  have hSn : Below w.heap.size w wn ∧ BlkAt wn w.heap.size b fv av ∧ wn.heap[w.heap.size + 1]? = some (sO s) := ⟨rN.1.trans (gb.mono rN.1.size), rN.2.1.below gb, (gb.block _ (heap_lt rN.2.2)).trans rN.2.2⟩
  refine hK.out _ _ ?_ (fun rN => ?_)
  · exact hSn
  try simp only [Act.put, List.getElem_toArray, List.getElem_cons_succ, List.getElem_cons_zero, List.setIfInBounds_toArray, List.set_cons_zero, List.set_cons_succ]
  have HZc := Lib.hid (HZc.out.below gb)
  clear gb hSn
  refine wpAnyH_take (i := 5) (v := ?_) rfl (by kernel_rfl) (by kernel_rfl) (by kernel_rfl) (fun _ _ _ h => h) (Or.inl ⟨by rfl, ?_⟩) (by assumption) ?_
  rotate_left
  · intro wS hSw
    (try dsimp only at hSw)
    go_simp
    first | done | with_reducible rfl
  try simp only [Act.put, List.getElem_toArray, List.getElem_cons_succ, List.getElem_cons_zero, List.setIfInBounds_toArray, List.set_cons_zero, List.set_cons_succ]
  refine wpAnyH_take (i := 6) (v := ?_) rfl (by kernel_rfl) (by kernel_rfl) (by kernel_rfl) (fun _ _ _ h => h) (Or.inl ⟨by rfl, ?_⟩) (by assumption) ?_
  rotate_left
  · intro wS hSw
    (try dsimp only at hSw)
    go_simp
    first | done | with_reducible rfl
  try simp only [Act.put, List.getElem_toArray, List.getElem_cons_succ, List.getElem_cons_zero, List.setIfInBounds_toArray, List.set_cons_zero, List.set_cons_succ]
  refine wpAnyH_take (i := 7) (v := ?_) rfl (by kernel_rfl) (by kernel_rfl) (by kernel_rfl) (fun _ _ _ h => h) (Or.inl ⟨by rfl, ?_⟩) (by assumption) ?_
  rotate_left
  · intro wS hSw
    (try dsimp only at hSw)
    go_simp
    first | done | with_reducible rfl
  try simp only [Act.put, List.getElem_toArray, List.getElem_cons_succ, List.getElem_cons_zero, List.setIfInBounds_toArray, List.set_cons_zero, List.set_cons_succ]
  refine wpAnyH_ready (rs := [8]) (by kernel_rfl) (by simp) ?_
  refine AllReadyH.cons rfl (fun K hK => ?_) AllReadyH.nil
  rw [if_pos (by kernel_rfl)]
  refine wpStBK (b := zB) (fv := NS) (av := NS) _ _ rfl rfl rfl HZc.out zB_len zB_len rfl rfl ?_; intro wn hxn hgn
  refine hK.out _ _ ?_ (fun rN => ?_)
  · exact ⟨rN.1.grown hgn rN.1.size (fun k hk => by cases hk; omega), (hgn.block _ (heap_lt rN.2.1) (fun e => by have := Option.some.inj e; omega)).trans rN.2.1, (hgn.block _ (heap_lt rN.2.2) (fun e => by have := Option.some.inj e; omega)).trans rN.2.2⟩
  try simp only [Act.put, List.getElem_toArray, List.getElem_cons_succ, List.getElem_cons_zero]
  refine wpAnyH_take (i := 9) (v := ?_) rfl (by kernel_rfl) (by kernel_rfl) (by kernel_rfl) (fun _ _ _ h => h) (Or.inl ⟨by rfl, ?_⟩) (by assumption) ?_
  rotate_left
  · intro wS hSw
    (try dsimp only at hSw)
    go_simp
    first | done | with_reducible rfl
  try simp only [Act.put, List.getElem_toArray, List.getElem_cons_succ, List.getElem_cons_zero, List.setIfInBounds_toArray, List.set_cons_zero, List.set_cons_succ]
  refine wpAnyH_take (i := 10) (v := ?_) rfl (by kernel_rfl) (by kernel_rfl) (by kernel_rfl) (fun _ _ _ h => h) (Or.inl ⟨by rfl, ?_⟩) (by assumption) ?_
  rotate_left
  · intro wS hSw
    (try dsimp only at hSw)
    go_simp
    first | done | with_reducible rfl
  try simp only [Act.put, List.getElem_toArray, List.getElem_cons_succ, List.getElem_cons_zero, List.setIfInBounds_toArray, List.set_cons_zero, List.set_cons_succ]
  refine wpAnyH_done (by kernel_rfl) ?_ _
  go_wp2_with fail
  exact bodyPost_ret (resB3 Try.results19 rfl (loadVarB hxn zB_len)) rfl ⟨rfl, rN.1⟩
set_option maxRecDepth 100000 in
set_option maxHeartbeats 8000000 in
theorem releaseN_no (b : BlkS) (fv av : Value) (s : ByteArray) (w : World) (hf : Sees w fv b.free) (ha : SeesA w av b.attrs) (hw : BWf b) (hr : rightB b = false) :
    Calls Try.prog 20 #[.agg (blkL b fv av).toArray, .string s] w fun e w' => e = .returned (.tuple #[.agg (blkL zB NS NS).toArray, NS, .int .i64 1]) ∧ Below w.heap.size w w' := by
  obtain ⟨W, hW⟩ : ∃ W, W = ((w.alloc (blkO b fv av)).alloc (sO s)).alloc (blkO zB NS NS) := ⟨_, rfl⟩
  obtain ⟨hb0, hA, hT, hR, hsz⟩ := three_newB w (blkO b fv av) (sO s) (blkO zB NS NS)
  rw [← hW] at hb0 hA hT hR hsz
  have hBd : Below w.heap.size w W.drew := ⟨hb0.os, hb0.tape, hb0.output, hb0.size, hb0.block⟩
  have HS0 : Hid (Below w.heap.size w W.drew ∧ BlkAt W.drew w.heap.size b fv av ∧ W.drew.heap[w.heap.size + 1]? = some (sO s)) := Lib.hid ⟨hBd, hA, hT⟩
  have HZc : Hid (BlkAt W.drew (w.heap.size + 2) zB NS NS) := Lib.hid hR
  have HW := Lib.hid hW
  have hl := hw.2.1
  have HGV := Lib.hid (given15_bad b fv av W.drew (hf.keep hBd) (ha.below hBd) hw hr)
  have HRE := Lib.hid (fun (W1 : World) (hS : Below w.heap.size w W1 ∧ BlkAt W1 w.heap.size b fv av ∧ W1.heap[w.heap.size + 1]? = some (sO s)) => release_badN (w.heap.size + 1) b fv av NS [] W1 (hf.keep hS.1) (ha.below hS.1) hw hr)
  clear hW hb0 hA hT hR hsz hf ha hw hr hBd
  go_enter Try.func20, Try.ntmps20
  go_upto_region 1 with fail
  change Code.wp _ _ _ _ (((w.alloc (blkO b fv av)).alloc (sO s)).alloc (blkO zB NS NS))
  rw [← HW.out]
  clear HW
  refine wp_region_held_drew (S := (fun X => Below w.heap.size w X ∧ BlkAt X w.heap.size b fv av ∧ X.heap[w.heap.size + 1]? = some (sO s))) (by kernel_rfl) ?_ (fun rN => ?_)
  · exact HS0.out
  refine wpAnyH_take (i := 0) (v := _) rfl (by kernel_rfl) (by kernel_rfl) (by kernel_rfl) (fun _ _ _ h => h) (ldBIf (by rfl) _ rfl rfl (fun W hW => hW.2.1) hl) (by assumption) ?_
  try simp only [Act.put, List.getElem_toArray, List.getElem_cons_zero, List.setIfInBounds_toArray, List.set_cons_zero, List.set_cons_succ]
  refine wpAnyH_take (i := 1) (v := _) rfl (by kernel_rfl) (by kernel_rfl) (by kernel_rfl) (fun _ _ _ h => h) (ldBIf (by rfl) _ rfl rfl (fun W hW => hW.2.1) hl) (by assumption) ?_
  try simp only [Act.put, List.getElem_toArray, List.getElem_cons_succ, List.getElem_cons_zero, List.setIfInBounds_toArray, List.set_cons_zero, List.set_cons_succ]
  refine wpAnyH_take (i := 3) (v := ?_) rfl (by kernel_rfl) (by kernel_rfl) (by kernel_rfl) (fun _ _ _ h => h) (Or.inl ⟨by rfl, ?_⟩) (by assumption) ?_
  rotate_left
  · intro wS hSw
    (try dsimp only at hSw)
    go_simp
    first | done | with_reducible rfl
  try simp only [Act.put, List.getElem_toArray, List.getElem_cons_succ, List.getElem_cons_zero, List.setIfInBounds_toArray, List.set_cons_zero, List.set_cons_succ]
  refine wpAnyH_ready (rs := [2]) (by kernel_rfl) (by simp) ?_
  refine AllReadyH.cons rfl (fun K hK => ?_) AllReadyH.nil
  go_simp
  refine HGV.out.mono ?_; rintro x wn ⟨rfl, hbn⟩
  have hSn : Below w.heap.size w wn ∧ BlkAt wn w.heap.size b fv av ∧ wn.heap[w.heap.size + 1]? = some (sO s) := ⟨rN.1.trans (hbn.mono rN.1.size), rN.2.1.below hbn, (hbn.block _ (heap_lt rN.2.2)).trans rN.2.2⟩
  refine hK.out _ _ ?_ (fun rN => ?_)
  · exact hSn
  try simp only [Act.put, List.getElem_toArray, List.getElem_cons_succ, List.getElem_cons_zero, List.setIfInBounds_toArray, List.set_cons_zero, List.set_cons_succ]
  have HZc := Lib.hid (HZc.out.below hbn)
  have HRQ := Lib.hid (HRE.out _ hSn)
  clear hbn hSn
  refine wpAnyH_ready (rs := [4]) (by kernel_rfl) (by simp) ?_
  refine AllReadyH.cons rfl (fun K hK => ?_) AllReadyH.nil
  go_simp
  refine HRQ.out.mono ?_; rintro x wn ⟨rfl, gb⟩
  have hSn : Below w.heap.size w wn ∧ BlkAt wn w.heap.size b fv av ∧ wn.heap[w.heap.size + 1]? = some (sO s) := ⟨rN.1.trans (gb.mono rN.1.size), rN.2.1.below gb, (gb.block _ (heap_lt rN.2.2)).trans rN.2.2⟩
  refine hK.out _ _ ?_ (fun rN => ?_)
  · exact hSn
  try simp only [Act.put, List.getElem_toArray, List.getElem_cons_succ, List.getElem_cons_zero, List.setIfInBounds_toArray, List.set_cons_zero, List.set_cons_succ]
  have HZc := Lib.hid (HZc.out.below gb)
  clear gb hSn
  refine wpAnyH_take (i := 5) (v := ?_) rfl (by kernel_rfl) (by kernel_rfl) (by kernel_rfl) (fun _ _ _ h => h) (Or.inl ⟨by rfl, ?_⟩) (by assumption) ?_
  rotate_left
  · intro wS hSw
    (try dsimp only at hSw)
    go_simp
    first | done | with_reducible rfl
  try simp only [Act.put, List.getElem_toArray, List.getElem_cons_succ, List.getElem_cons_zero, List.setIfInBounds_toArray, List.set_cons_zero, List.set_cons_succ]
  refine wpAnyH_take (i := 6) (v := ?_) rfl (by kernel_rfl) (by kernel_rfl) (by kernel_rfl) (fun _ _ _ h => h) (Or.inl ⟨by rfl, ?_⟩) (by assumption) ?_
  rotate_left
  · intro wS hSw
    (try dsimp only at hSw)
    go_simp
    first | done | with_reducible rfl
  try simp only [Act.put, List.getElem_toArray, List.getElem_cons_succ, List.getElem_cons_zero, List.setIfInBounds_toArray, List.set_cons_zero, List.set_cons_succ]
  refine wpAnyH_take (i := 7) (v := ?_) rfl (by kernel_rfl) (by kernel_rfl) (by kernel_rfl) (fun _ _ _ h => h) (Or.inl ⟨by rfl, ?_⟩) (by assumption) ?_
  rotate_left
  · intro wS hSw
    (try dsimp only at hSw)
    go_simp
    first | done | with_reducible rfl
  try simp only [Act.put, List.getElem_toArray, List.getElem_cons_succ, List.getElem_cons_zero, List.setIfInBounds_toArray, List.set_cons_zero, List.set_cons_succ]
  refine wpAnyH_ready (rs := [8]) (by kernel_rfl) (by simp) ?_
  refine AllReadyH.cons rfl (fun K hK => ?_) AllReadyH.nil
  rw [if_pos (by kernel_rfl)]
  refine wpStBK (b := zB) (fv := NS) (av := NS) _ _ rfl rfl rfl HZc.out zB_len zB_len rfl rfl ?_; intro wn hxn hgn
  refine hK.out _ _ ?_ (fun rN => ?_)
  · exact ⟨rN.1.grown hgn rN.1.size (fun k hk => by cases hk; omega), (hgn.block _ (heap_lt rN.2.1) (fun e => by have := Option.some.inj e; omega)).trans rN.2.1, (hgn.block _ (heap_lt rN.2.2) (fun e => by have := Option.some.inj e; omega)).trans rN.2.2⟩
  try simp only [Act.put, List.getElem_toArray, List.getElem_cons_succ, List.getElem_cons_zero]
  refine wpAnyH_take (i := 9) (v := ?_) rfl (by kernel_rfl) (by kernel_rfl) (by kernel_rfl) (fun _ _ _ h => h) (Or.inl ⟨by rfl, ?_⟩) (by assumption) ?_
  rotate_left
  · intro wS hSw
    (try dsimp only at hSw)
    go_simp
    first | done | with_reducible rfl
  try simp only [Act.put, List.getElem_toArray, List.getElem_cons_succ, List.getElem_cons_zero, List.setIfInBounds_toArray, List.set_cons_zero, List.set_cons_succ]
  refine wpAnyH_take (i := 10) (v := ?_) rfl (by kernel_rfl) (by kernel_rfl) (by kernel_rfl) (fun _ _ _ h => h) (Or.inl ⟨by rfl, ?_⟩) (by assumption) ?_
  rotate_left
  · intro wS hSw
    (try dsimp only at hSw)
    go_simp
    first | done | with_reducible rfl
  try simp only [Act.put, List.getElem_toArray, List.getElem_cons_succ, List.getElem_cons_zero, List.setIfInBounds_toArray, List.set_cons_zero, List.set_cons_succ]
  refine wpAnyH_done (by kernel_rfl) ?_ _
  go_wp2_with fail
  exact bodyPost_ret (resB3 Try.results20 rfl (loadVarB hxn zB_len)) rfl ⟨rfl, rN.1⟩
end
end Go.Proofs.Ytgodmnpcedfdcaa
