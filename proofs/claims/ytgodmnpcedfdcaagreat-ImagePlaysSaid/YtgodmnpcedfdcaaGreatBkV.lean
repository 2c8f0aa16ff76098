/- Package block: Release, ReleaseHandle, ReleaseNode. -/
import Derived.Test.YtgodmnpcedfdcaaGreatBkU
namespace Go.Proofs.YtgodmnpcedfdcaaGreat
open Go.RowKit
theorem rel1_any (p : PA) (W : World) : Calls Tryz.prog 56 #[atV p] W fun e w' => e = .returned (.bool true) ∧ Below W.heap.size W w' := by
  go_enter Tryz.func56, Tryz.ntmps56
  go_wp2_with fail
  go_ret
  exact ⟨rfl, belNew _ _⟩
theorem relH_any (p : PA) (s : ByteArray) (g0 : Nat) (W : World) (hc : W.cell? ⟨g0, 0, none⟩ = some (.string s)) : Calls Tryz.prog 60 #[atV p, .pointer (some ⟨g0, 0, none⟩)] W fun e w' => e = .returned (.bool (decide (p.1 = s))) ∧ Below W.heap.size W w' := by
  obtain ⟨a, c⟩ := p
  have hc1 := bcellB (belNew W (atO (a, c))) hc
  clear hc
  go_enter Tryz.func60, Tryz.ntmps60
  go_wp2_with fail
  go_ret
  refine ⟨?_, belNew _ _⟩
  by_cases h : a.toList = s.toList
  · simp [klB_inj h]
  · have h2 : ¬ a = s := fun e => h (by rw [e])
    simp [h, h2]
theorem relN_any (p : PA) (s : ByteArray) (g0 : Nat) (W : World) (hc : W.cell? ⟨g0, 0, none⟩ = some (.string s)) : Calls Tryz.prog 61 #[atV p, .pointer (some ⟨g0, 0, none⟩)] W fun e w' => e = .returned (.bool (decide (p.2 = s))) ∧ Below W.heap.size W w' := by
  obtain ⟨a, c⟩ := p
  have hc1 := bcellB (belNew W (atO (a, c))) hc
  clear hc
  go_enter Tryz.func61, Tryz.ntmps61
  go_wp2_with fail
  go_ret
  refine ⟨?_, belNew _ _⟩
  by_cases h : c.toList = s.toList
  · simp [klB_inj h]
  · have h2 : ¬ c = s := fun e => h (by rw [e])
    simp [h, h2]
theorem relN_len {M : PA → Bool} {b : BlkS} {l : List Int} (hw : BWf b) (hr : rightB b = true) : (tidS (relN M b l l.length).1).sl.length = 64 := by
  show (List.map _ _).length = 64
  rw [List.length_map]
  exact (relN_inv M b l hw.2.1 (right_bd hw hr).2.2.2 l.length).2.2.2.1
theorem adrs_bd {b : BlkS} {l : List Int} (hb : 0 ≤ b.addr ∧ b.addr < 4294967296) (h64 : b.addr % 64 = 0) (hl : ∀ x ∈ l, 0 ≤ x ∧ x < 64) : ∀ x ∈ adrs b l, 0 ≤ x ∧ x < 4294967296 := fun x hx => by
  obtain ⟨i, hi, rfl⟩ := List.mem_map.1 hx
  have := hl i hi
  omega
theorem wpStBK {o : Oper} {a : Act} {w : World} {K : Act → World → Prop} {Q : Exit → Act → World → Prop} {g : Nat} {b0 b : BlkS} {fv0 av0 fv av : Value} (x y : Operand) (ho : o.op = .store TB x y) (hx : a.eval x = .pointer (some ⟨g, 0, none⟩)) (hy : a.eval y = .agg (blkL b fv av).toArray)
    (h : BlkAt w g b0 fv0 av0) (hl0 : b0.sl.length = 64) (hl : b.sl.length = 64) (h1 : fv.oneCell' = true) (h2 : av.oneCell' = true)
    (hK : ∀ w', BlkAt w' g b fv av → w.grownBy w' (some g) → K (a.put o.dst undef) w') : o.wp Tryz.prog a w K Q := by
  have hs : (blkL b fv av).toArray.size = 68 := by rw [List.size_toArray, blkL_len b hl]
  refine wp_store_mid TB x y ho g 0 (blkL b fv av).toArray hx hy (by rw [hs]; exact thereB h hl0) (by rw [hs]; exact infoB) (all_oneCell_toArray (one_blk h1 h2)) ?_
  obtain ⟨k1, k2⟩ := setB (b := b) (fv := fv) (av := av) h hl0 hl
  exact hK _ k1 k2
set_option maxRecDepth 100000 in
set_option maxHeartbeats 8000000 in
theorem release15_any (b : BlkS) (fv av lv : Value) (l : List Int) (w : World) (hf : Sees w fv b.free) (ha : SeesA w av b.attrs) (hw : BWf b) (hls : SeesU w lv l) (hlx : ∀ x ∈ l, 0 ≤ x ∧ x < 4294967296) (hll : l.length ≤ maxLen) (hr : rightB b = true) :
    Calls Tryz.prog 21 #[.agg (blkL b fv av).toArray, lv] w fun e w' => ∃ fv' av' tv, e = .returned (.tuple #[.agg (blkL (tidS (relN (fun _ => true) b l l.length).1) fv' av').toArray, tv, .int .i64 0]) ∧ BlkRet w w' (tidS (relN (fun _ => true) b l l.length).1) fv' av' ∧ OwnsU w' w.heap.size tv (relN (fun _ => true) b l l.length).2 := by
  obtain ⟨W, hW⟩ : ∃ W, W = (w.alloc (blkO b fv av)).alloc (blkO zB NS NS) := ⟨_, rfl⟩
  obtain ⟨hb0, hA, hR, hsz⟩ := two_newB w (blkO b fv av) (blkO zB NS NS)
  rw [← hW] at hb0 hA hR hsz
  have HXc : Hid (BlkAt W w.heap.size b fv av) := Lib.hid hA
  have HZc : Hid (BlkAt W (w.heap.size + 1) zB NS NS) := Lib.hid hR
  have HBc := Lib.hid hb0
  have HSZ := Lib.hid hsz
  have HW := Lib.hid hW
  have hl := hw.2.1
  have HRE := Lib.hid (release_any b fv av lv l W (hf.keep hb0) (ha.below hb0) hw (fun _ => true) (hls.keep hb0) hlx hll hr (fun p W1 _ => rel1_any p W1))
  have hlT := relN_len (M := fun _ => true) (l := l) hw hr
  generalize tidS (relN (fun _ => true) b l l.length).1 = D at *
  generalize (relN (fun _ => true) b l l.length).2 = U at *
  obtain ⟨lo, lc, rfl, -⟩ := id hls
  clear hW hb0 hA hR hsz hf ha hw hr hls hlx hll
  go_enter Tryz.func21, Tryz.ntmps21
  go_upto_region 1 with fail
  change Code.wp _ _ _ _ ((w.alloc (blkO b fv av)).alloc (blkO zB NS NS))
  rw [← HW.out]
  clear HW
  go_wp2_with (refine wpLdB rfl _ rfl rfl HXc.out hl ?_)
  refine HRE.out.mono ?_; rintro e w1 ⟨fv1, av1, tv, rfl, ⟨gf, ga, gb⟩, gt⟩
  have HF1 := Lib.hid gf
  have HG1 := Lib.hid ga
  have HT1 := Lib.hid gt
  have HZ1 := Lib.hid (HZc.out.below gb)
  have HB1 := Lib.hid (HBc.out.trans (gb.mono HBc.out.size))
  obtain ⟨f5, n5, c5, rfl⟩ := own_form gf
  obtain ⟨a5, m5, d5, rfl⟩ := own_form ga
  obtain ⟨t5, q5, e5, rfl⟩ := own_form gt
  clear gf ga gb gt
  go_wp2_with (refine wpStB rfl _ _ rfl rfl rfl HZ1.out zB_len hlT rfl rfl ?_; intro w7 hx7 hg7)
  refine bodyPost_ret (resB3 Tryz.results21 rfl (loadVarB hx7 hlT)) rfl ⟨_, _, _, rfl, ⟨?_, ?_, HB1.out.grown hg7 HB1.out.size (fun k hk => by cases hk; omega)⟩, ?_⟩
  · exact own_le (own_grown HF1.out hg7 (by have := HSZ.out; omega)) (by have := HSZ.out; omega)
  · exact own_le (own_grown HG1.out hg7 (by have := HSZ.out; omega)) (by have := HSZ.out; omega)
  · exact own_le (own_grown HT1.out hg7 (by have := HSZ.out; omega)) (by have := HSZ.out; omega)
abbrev sO (s : ByteArray) : Obj := .cells #[.string s] 9
set_option maxRecDepth 100000 in
set_option maxHeartbeats 8000000 in
theorem releaseH_ok (b : BlkS) (fv av : Value) (s : ByteArray) (w : World) (hf : Sees w fv b.free) (ha : SeesA w av b.attrs) (hw : BWf b) (hr : rightB b = true) :
    Calls Tryz.prog 23 #[.agg (blkL b fv av).toArray, .string s] w fun e w' => ∃ fv' av' tv, e = .returned (.tuple #[.agg (blkL (tidS (relN (fun p : PA => decide (p.1 = s)) b (adrs b (takeZ b)) (adrs b (takeZ b)).length).1) fv' av').toArray, tv, .int .i64 0]) ∧ BlkRet w w' (tidS (relN (fun p : PA => decide (p.1 = s)) b (adrs b (takeZ b)) (adrs b (takeZ b)).length).1) fv' av' ∧ OwnsU w' w.heap.size tv (relN (fun p : PA => decide (p.1 = s)) b (adrs b (takeZ b)) (adrs b (takeZ b)).length).2 := by
  obtain ⟨W, hW⟩ : ∃ W, W = ((w.alloc (blkO b fv av)).alloc (sO s)).alloc (blkO zB NS NS) := ⟨_, rfl⟩
  obtain ⟨hb0, hA, hT, hR, hsz⟩ := three_newB w (blkO b fv av) (sO s) (blkO zB NS NS)
  rw [← hW] at hb0 hA hT hR hsz
  have hBd : Below w.heap.size w W.drew := ⟨hb0.os, hb0.tape, hb0.output, hb0.size, hb0.block⟩
  have HS0 : Hid (Below w.heap.size w W.drew ∧ BlkAt W.drew w.heap.size b fv av ∧ W.drew.heap[w.heap.size + 1]? = some (sO s)) := Lib.hid ⟨hBd, hA, hT⟩
  have HZc : Hid (BlkAt W.drew (w.heap.size + 2) zB NS NS) := Lib.hid hR
  have HSZ : Hid (w.heap.size + 3 ≤ W.drew.heap.size) := Lib.hid (Nat.le_of_eq hsz.symm)
  have HW := Lib.hid hW
  have hl := hw.2.1
  obtain ⟨h64, _, _, _⟩ := right_bd hw hr
  have hll : (adrs b (takeZ b)).length ≤ maxLen := by rw [adrs_len]; have := memZ_len (takeN b.sl 64) 64; unfold takeZ maxLen; omega
  have hlx := adrs_bd hw.1 h64 (l := takeZ b) (memZ_in _)
  have hlT := relN_len (M := (fun p : PA => decide (p.1 = s))) (l := (adrs b (takeZ b))) hw hr
  have HGV := Lib.hid (given15_any b fv av W.drew (hf.keep hBd) (ha.below hBd) hw hr)
  have HRE := Lib.hid (fun (W1 : World) (tv : Value) (hS : Below w.heap.size w W1 ∧ BlkAt W1 w.heap.size b fv av ∧ W1.heap[w.heap.size + 1]? = some (sO s)) (hs : SeesU W1 tv (adrs b (takeZ b))) => release_anyH (w.heap.size + 1) b fv av tv (adrs b (takeZ b)) W1 (hf.keep hS.1) (ha.below hS.1) hw (fun p : PA => decide (p.1 = s)) hs hlx hll hr (fun p W2 hb2 => relH_any p s (w.heap.size + 1) W2 (cell_of_one ((hb2.block _ (heap_lt hS.2.2)).trans hS.2.2))))
  generalize tidS (relN (fun p : PA => decide (p.1 = s)) b (adrs b (takeZ b)) (adrs b (takeZ b)).length).1 = D at *
  generalize (relN (fun p : PA => decide (p.1 = s)) b (adrs b (takeZ b)) (adrs b (takeZ b)).length).2 = U at *
  generalize adrs b (takeZ b) = L at *
  clear hW hb0 hA hT hR hsz hf ha hw hr hll hlx h64 hBd
  go_enter Tryz.func23, Tryz.ntmps23
  go_upto_region 1 with fail
  change Code.wp _ _ _ _ (((w.alloc (blkO b fv av)).alloc (sO s)).alloc (blkO zB NS NS))
  rw [← HW.out]
  clear HW
  refine wp_region_held_drew (S := (fun X => Below w.heap.size w X ∧ BlkAt X w.heap.size b fv av ∧ X.heap[w.heap.size + 1]? = some (sO s))) (by kernel_rfl) ?_ (fun rN => ?_)
  · exact HS0.out
  refine wpAnyH_take (i := 0) (v := _) rfl (by kernel_rfl) (by kernel_rfl) (by kernel_rfl) (fun _ _ _ h => h) (ldBIf (by rfl) _ rfl rfl (fun W hW => hW.2.1) hl) (by assumption) ?_
  try simp only [Act.put, List.getElem_toArray, List.getElem_cons_zero, List.setIfInBounds_toArray, List.set_cons_zero, List.set_cons_succ]
  refine wpAnyH_take (i := 1) (v := _) rfl (by kernel_rfl) (by kernel_rfl) (by kernel_rfl) (fun _ _ _ h => h) (ldBIf (by rfl) _ rfl rfl (fun W hW => hW.2.1) hl) (by assumption) ?_
  try simp only [Act.put, List.getElem_toArray, List.getElem_cons_succ, List.getElem_cons_zero, List.setIfInBounds_toArray, List.set_cons_zero, List.set_cons_succ]
  refine wpAnyH_take (i := 3) (v := ?_) rfl (by kernel_rfl) (by kernel_rfl) (by kernel_rfl) (fun _ _ _ h => h) (Or.inl ⟨by rfl, ?_⟩) (by assumption) ?_
  rotate_left
  · intro wS hSw
    (try dsimp only at hSw)
    go_simp
    first | done | with_reducible rfl
  try simp only [Act.put, List.getElem_toArray, List.getElem_cons_succ, List.getElem_cons_zero, List.setIfInBounds_toArray, List.set_cons_zero, List.set_cons_succ]
  refine wpAnyH_ready (rs := [2]) (by kernel_rfl) (by simp) ?_
  refine AllReadyH.cons rfl (fun K hK => ?_) AllReadyH.nil
  go_simp
  refine HGV.out.mono ?_; rintro x wn ⟨tv, rfl, htv, hbn⟩
  have hSn : Below w.heap.size w wn ∧ BlkAt wn w.heap.size b fv av ∧ wn.heap[w.heap.size + 1]? = some (sO s) := ⟨rN.1.trans (hbn.mono rN.1.size), rN.2.1.below hbn, (hbn.block _ (heap_lt rN.2.2)).trans rN.2.2⟩
  refine hK.out _ _ ?_ (fun rN => ?_)
  · exact hSn
  try simp only [Act.put, List.getElem_toArray, List.getElem_cons_succ, List.getElem_cons_zero, List.setIfInBounds_toArray, List.set_cons_zero, List.set_cons_succ]
  have HZc := Lib.hid (HZc.out.below hbn)
  have HSZ := Lib.hid (Nat.le_trans HSZ.out hbn.size)
  have HRQ := Lib.hid (HRE.out _ tv hSn htv.sees)
  obtain ⟨to0, tn0, tc0, rfl⟩ := own_form htv
  clear htv hbn hSn
  refine wpAnyH_ready (rs := [4]) (by kernel_rfl) (by simp) ?_
  refine AllReadyH.cons rfl (fun K hK => ?_) AllReadyH.nil
  go_simp
  refine HRQ.out.mono ?_; rintro x wn ⟨fv1, av1, tv1, rfl, ⟨gf, ga, gb⟩, gt⟩
  have hSn : Below w.heap.size w wn ∧ BlkAt wn w.heap.size b fv av ∧ wn.heap[w.heap.size + 1]? = some (sO s) := ⟨rN.1.trans (gb.mono rN.1.size), rN.2.1.below gb, (gb.block _ (heap_lt rN.2.2)).trans rN.2.2⟩
  refine hK.out _ _ ?_ (fun rN => ?_)
  · exact hSn
  try simp only [Act.put, List.getElem_toArray, List.getElem_cons_succ, List.getElem_cons_zero, List.setIfInBounds_toArray, List.set_cons_zero, List.set_cons_succ]
  have HF1 := Lib.hid (own_le gf HSZ.out)
  have HG1 := Lib.hid (own_le ga HSZ.out)
  have HT1 := Lib.hid (own_le gt HSZ.out)
  have HZc := Lib.hid (HZc.out.below gb)
  obtain ⟨f5, n5, c5, rfl⟩ := own_form gf
  obtain ⟨a5, m5, d5, rfl⟩ := own_form ga
  obtain ⟨t5, q5, e5, rfl⟩ := own_form gt
  clear gf ga gb gt hSn
  refine wpAnyH_take (i := 5) (v := ?_) rfl (by kernel_rfl) (by kernel_rfl) (by kernel_rfl) (fun _ _ _ h => h) (Or.inl ⟨by rfl, ?_⟩) (by assumption) ?_
  rotate_left
  · intro wS hSw
    (try dsimp only at hSw)
    go_simp
    first | done | with_reducible rfl
  try simp only [Act.put, List.getElem_toArray, List.getElem_cons_succ, List.getElem_cons_zero, List.setIfInBounds_toArray, List.set_cons_zero, List.set_cons_succ]
  refine wpAnyH_take (i := 6) (v := ?_) rfl (by kernel_rfl) (by kernel_rfl) (by kernel_rfl) (fun _ _ _ h => h) (Or.inl ⟨by rfl, ?_⟩) (by assumption) ?_
  rotate_left
  · intro wS hSw
    (try dsimp only at hSw)
    go_simp
    first | done | with_reducible rfl
  try simp only [Act.put, List.getElem_toArray, List.getElem_cons_succ, List.getElem_cons_zero, List.setIfInBounds_toArray, List.set_cons_zero, List.set_cons_succ]
  refine wpAnyH_take (i := 7) (v := ?_) rfl (by kernel_rfl) (by kernel_rfl) (by kernel_rfl) (fun _ _ _ h => h) (Or.inl ⟨by rfl, ?_⟩) (by assumption) ?_
  rotate_left
  · intro wS hSw
    (try dsimp only at hSw)
    go_simp
    first | done | with_reducible rfl
  try simp only [Act.put, List.getElem_toArray, List.getElem_cons_succ, List.getElem_cons_zero, List.setIfInBounds_toArray, List.set_cons_zero, List.set_cons_succ]
  refine wpAnyH_ready (rs := [8]) (by kernel_rfl) (by simp) ?_
  refine AllReadyH.cons rfl (fun K hK => ?_) AllReadyH.nil
  rw [if_pos (by kernel_rfl)]
  refine wpStBK _ _ rfl rfl rfl HZc.out zB_len hlT rfl rfl ?_; intro wn hxn hgn
  refine hK.out _ _ ?_ (fun rN => ?_)
  · exact ⟨rN.1.grown hgn rN.1.size (fun k hk => by cases hk; omega), (hgn.block _ (heap_lt rN.2.1) (fun e => by have := Option.some.inj e; omega)).trans rN.2.1, (hgn.block _ (heap_lt rN.2.2) (fun e => by have := Option.some.inj e; omega)).trans rN.2.2⟩
  try simp only [Act.put, List.getElem_toArray, List.getElem_cons_succ, List.getElem_cons_zero]
  refine wpAnyH_take (i := 9) (v := ?_) rfl (by kernel_rfl) (by kernel_rfl) (by kernel_rfl) (fun _ _ _ h => h) (Or.inl ⟨by rfl, ?_⟩) (by assumption) ?_
  rotate_left
  · intro wS hSw
    (try dsimp only at hSw)
    go_simp
    first | done | with_reducible rfl
  try simp only [Act.put, List.getElem_toArray, List.getElem_cons_succ, List.getElem_cons_zero, List.setIfInBounds_toArray, List.set_cons_zero, List.set_cons_succ]
  refine wpAnyH_take (i := 10) (v := ?_) rfl (by kernel_rfl) (by kernel_rfl) (by kernel_rfl) (fun _ _ _ h => h) (Or.inl ⟨by rfl, ?_⟩) (by assumption) ?_
  rotate_left
  · intro wS hSw
    (try dsimp only at hSw)
    go_simp
    first | done | with_reducible rfl
  try simp only [Act.put, List.getElem_toArray, List.getElem_cons_succ, List.getElem_cons_zero, List.setIfInBounds_toArray, List.set_cons_zero, List.set_cons_succ]
  refine wpAnyH_done (by kernel_rfl) ?_ _
  go_wp2_with fail
  refine bodyPost_ret (resB3 Tryz.results23 rfl (loadVarB hxn hlT)) rfl ⟨_, _, _, rfl, ⟨?_, ?_, rN.1⟩, ?_⟩
  · exact own_le (own_grown HF1.out hgn (by omega)) (by omega)
  · exact own_le (own_grown HG1.out hgn (by omega)) (by omega)
  · exact own_le (own_grown HT1.out hgn (by omega)) (by omega)
set_option maxRecDepth 100000 in
set_option maxHeartbeats 8000000 in
theorem releaseN_ok (b : BlkS) (fv av : Value) (s : ByteArray) (w : World) (hf : Sees w fv b.free) (ha : SeesA w av b.attrs) (hw : BWf b) (hr : rightB b = true) :
    Calls Tryz.prog 25 #[.agg (blkL b fv av).toArray, .string s] w fun e w' => ∃ fv' av' tv, e = .returned (.tuple #[.agg (blkL (tidS (relN (fun p : PA => decide (p.2 = s)) b (adrs b (takeZ b)) (adrs b (takeZ b)).length).1) fv' av').toArray, tv, .int .i64 0]) ∧ BlkRet w w' (tidS (relN (fun p : PA => decide (p.2 = s)) b (adrs b (takeZ b)) (adrs b (takeZ b)).length).1) fv' av' ∧ OwnsU w' w.heap.size tv (relN (fun p : PA => decide (p.2 = s)) b (adrs b (takeZ b)) (adrs b (takeZ b)).length).2 := by
  obtain ⟨W, hW⟩ : ∃ W, W = ((w.alloc (blkO b fv av)).alloc (sO s)).alloc (blkO zB NS NS) := ⟨_, rfl⟩
  obtain ⟨hb0, hA, hT, hR, hsz⟩ := three_newB w (blkO b fv av) (sO s) (blkO zB NS NS)
  rw [← hW] at hb0 hA hT hR hsz
  have hBd : Below w.heap.size w W.drew := ⟨hb0.os, hb0.tape, hb0.output, hb0.size, hb0.block⟩
  have HS0 : Hid (Below w.heap.size w W.drew ∧ BlkAt W.drew w.heap.size b fv av ∧ W.drew.heap[w.heap.size + 1]? = some (sO s)) := Lib.hid ⟨hBd, hA, hT⟩
  have HZc : Hid (BlkAt W.drew (w.heap.size + 2) zB NS NS) := Lib.hid hR
  have HSZ : Hid (w.heap.size + 3 ≤ W.drew.heap.size) := Lib.hid (Nat.le_of_eq hsz.symm)
  have HW := Lib.hid hW
  have hl := hw.2.1
  obtain ⟨h64, _, _, _⟩ := right_bd hw hr
  have hll : (adrs b (takeZ b)).length ≤ maxLen := by rw [adrs_len]; have := memZ_len (takeN b.sl 64) 64; unfold takeZ maxLen; omega
  have hlx := adrs_bd hw.1 h64 (l := takeZ b) (memZ_in _)
  have hlT := relN_len (M := (fun p : PA => decide (p.2 = s))) (l := (adrs b (takeZ b))) hw hr
  have HGV := Lib.hid (given15_any b fv av W.drew (hf.keep hBd) (ha.below hBd) hw hr)
  have HRE := Lib.hid (fun (W1 : World) (tv : Value) (hS : Below w.heap.size w W1 ∧ BlkAt W1 w.heap.size b fv av ∧ W1.heap[w.heap.size + 1]? = some (sO s)) (hs : SeesU W1 tv (adrs b (takeZ b))) => release_anyN (w.heap.size + 1) b fv av tv (adrs b (takeZ b)) W1 (hf.keep hS.1) (ha.below hS.1) hw (fun p : PA => decide (p.2 = s)) hs hlx hll hr (fun p W2 hb2 => relN_any p s (w.heap.size + 1) W2 (cell_of_one ((hb2.block _ (heap_lt hS.2.2)).trans hS.2.2))))
  generalize tidS (relN (fun p : PA => decide (p.2 = s)) b (adrs b (takeZ b)) (adrs b (takeZ b)).length).1 = D at *
  generalize (relN (fun p : PA => decide (p.2 = s)) b (adrs b (takeZ b)) (adrs b (takeZ b)).length).2 = U at *
  generalize adrs b (takeZ b) = L at *
  clear hW hb0 hA hT hR hsz hf ha hw hr hll hlx h64 hBd
  go_enter Tryz.func25, Tryz.ntmps25
  go_upto_region 1 with fail
  change Code.wp _ _ _ _ (((w.alloc (blkO b fv av)).alloc (sO s)).alloc (blkO zB NS NS))
  rw [← HW.out]
  clear HW
  refine wp_region_held_drew (S := (fun X => Below w.heap.size w X ∧ BlkAt X w.heap.size b fv av ∧ X.heap[w.heap.size + 1]? = some (sO s))) (by kernel_rfl) ?_ (fun rN => ?_)
  · exact HS0.out
  refine wpAnyH_take (i := 0) (v := _) rfl (by kernel_rfl) (by kernel_rfl) (by kernel_rfl) (fun _ _ _ h => h) (ldBIf (by rfl) _ rfl rfl (fun W hW => hW.2.1) hl) (by assumption) ?_
  try simp only [Act.put, List.getElem_toArray, List.getElem_cons_zero, List.setIfInBounds_toArray, List.set_cons_zero, List.set_cons_succ]
  refine wpAnyH_take (i := 1) (v := _) rfl (by kernel_rfl) (by kernel_rfl) (by kernel_rfl) (fun _ _ _ h => h) (ldBIf (by rfl) _ rfl rfl (fun W hW => hW.2.1) hl) (by assumption) ?_
  try simp only [Act.put, List.getElem_toArray, List.getElem_cons_succ, List.getElem_cons_zero, List.setIfInBounds_toArray, List.set_cons_zero, List.set_cons_succ]
  refine wpAnyH_take (i := 3) (v := ?_) rfl (by kernel_rfl) (by kernel_rfl) (by kernel_rfl) (fun _ _ _ h => h) (Or.inl ⟨by rfl, ?_⟩) (by assumption) ?_
  rotate_left
  · intro wS hSw
    (try dsimp only at hSw)
    go_simp
    first | done | with_reducible rfl
  try simp only [Act.put, List.getElem_toArray, List.getElem_cons_succ, List.getElem_cons_zero, List.setIfInBounds_toArray, List.set_cons_zero, List.set_cons_succ]
  refine wpAnyH_ready (rs := [2]) (by kernel_rfl) (by simp) ?_
  refine AllReadyH.cons rfl (fun K hK => ?_) AllReadyH.nil
  go_simp
  refine HGV.out.mono ?_; rintro x wn ⟨tv, rfl, htv, hbn⟩
  have hSn : Below w.heap.size w wn ∧ BlkAt wn w.heap.size b fv av ∧ wn.heap[w.heap.size + 1]? = some (sO s) := ⟨rN.1.trans (hbn.mono rN.1.size), rN.2.1.below hbn, (hbn.block _ (heap_lt rN.2.2)).trans rN.2.2⟩
  refine hK.out _ _ ?_ (fun rN => ?_)
  · exact hSn
  try simp only [Act.put, List.getElem_toArray, List.getElem_cons_succ, List.getElem_cons_zero, List.setIfInBounds_toArray, List.set_cons_zero, List.set_cons_succ]
  have HZc := Lib.hid (HZc.out.below hbn)
  have HSZ := Lib.hid (Nat.le_trans HSZ.out hbn.size)
  have HRQ := Lib.hid (HRE.out _ tv hSn htv.sees)
  obtain ⟨to0, tn0, tc0, rfl⟩ := own_form htv
  clear htv hbn hSn
  refine wpAnyH_ready (rs := [4]) (by kernel_rfl) (by simp) ?_
  refine AllReadyH.cons rfl (fun K hK => ?_) AllReadyH.nil
  go_simp
  refine HRQ.out.mono ?_; rintro x wn ⟨fv1, av1, tv1, rfl, ⟨gf, ga, gb⟩, gt⟩
  have hSn : Below w.heap.size w wn ∧ BlkAt wn w.heap.size b fv av ∧ wn.heap[w.heap.size + 1]? = some (sO s) := ⟨rN.1.trans (gb.mono rN.1.size), rN.2.1.below gb, (gb.block _ (heap_lt rN.2.2)).trans rN.2.2⟩
  refine hK.out _ _ ?_ (fun rN => ?_)
  · exact hSn
  try simp only [Act.put, List.getElem_toArray, List.getElem_cons_succ, List.getElem_cons_zero, List.setIfInBounds_toArray, List.set_cons_zero, List.set_cons_succ]
  have HF1 := Lib.hid (own_le gf HSZ.out)
  have HG1 := Lib.hid (own_le ga HSZ.out)
  have HT1 := Lib.hid (own_le gt HSZ.out)
  have HZc := Lib.hid (HZc.out.below gb)
  obtain ⟨f5, n5, c5, rfl⟩ := own_form gf
  obtain ⟨a5, m5, d5, rfl⟩ := own_form ga
  obtain ⟨t5, q5, e5, rfl⟩ := own_form gt
  clear gf ga gb gt hSn
  refine wpAnyH_take (i := 5) (v := ?_) rfl (by kernel_rfl) (by kernel_rfl) (by kernel_rfl) (fun _ _ _ h => h) (Or.inl ⟨by rfl, ?_⟩) (by assumption) ?_
  rotate_left
  · intro wS hSw
    (try dsimp only at hSw)
    go_simp
    first | done | with_reducible rfl
  try simp only [Act.put, List.getElem_toArray, List.getElem_cons_succ, List.getElem_cons_zero, List.setIfInBounds_toArray, List.set_cons_zero, List.set_cons_succ]
  refine wpAnyH_take (i := 6) (v := ?_) rfl (by kernel_rfl) (by kernel_rfl) (by kernel_rfl) (fun _ _ _ h => h) (Or.inl ⟨by rfl, ?_⟩) (by assumption) ?_
  rotate_left
  · intro wS hSw
    (try dsimp only at hSw)
    go_simp
    first | done | with_reducible rfl
  try simp only [Act.put, List.getElem_toArray, List.getElem_cons_succ, List.getElem_cons_zero, List.setIfInBounds_toArray, List.set_cons_zero, List.set_cons_succ]
  refine wpAnyH_take (i := 7) (v := ?_) rfl (by kernel_rfl) (by kernel_rfl) (by kernel_rfl) (fun _ _ _ h => h) (Or.inl ⟨by rfl, ?_⟩) (by assumption) ?_
  rotate_left
  · intro wS hSw
    (try dsimp only at hSw)
    go_simp
    first | done | with_reducible rfl
  try simp only [Act.put, List.getElem_toArray, List.getElem_cons_succ, List.getElem_cons_zero, List.setIfInBounds_toArray, List.set_cons_zero, List.set_cons_succ]
  refine wpAnyH_ready (rs := [8]) (by kernel_rfl) (by simp) ?_
  refine AllReadyH.cons rfl (fun K hK => ?_) AllReadyH.nil
  rw [if_pos (by kernel_rfl)]
  refine wpStBK _ _ rfl rfl rfl HZc.out zB_len hlT rfl rfl ?_; intro wn hxn hgn
  refine hK.out _ _ ?_ (fun rN => ?_)
  · exact ⟨rN.1.grown hgn rN.1.size (fun k hk => by cases hk; omega), (hgn.block _ (heap_lt rN.2.1) (fun e => by have := Option.some.inj e; omega)).trans rN.2.1, (hgn.block _ (heap_lt rN.2.2) (fun e => by have := Option.some.inj e; omega)).trans rN.2.2⟩
  try simp only [Act.put, List.getElem_toArray, List.getElem_cons_succ, List.getElem_cons_zero]
  refine wpAnyH_take (i := 9) (v := ?_) rfl (by kernel_rfl) (by kernel_rfl) (by kernel_rfl) (fun _ _ _ h => h) (Or.inl ⟨by rfl, ?_⟩) (by assumption) ?_
  rotate_left
  · intro wS hSw
    (try dsimp only at hSw)
    go_simp
    first | done | with_reducible rfl
  try simp only [Act.put, List.getElem_toArray, List.getElem_cons_succ, List.getElem_cons_zero, List.setIfInBounds_toArray, List.set_cons_zero, List.set_cons_succ]
  refine wpAnyH_take (i := 10) (v := ?_) rfl (by kernel_rfl) (by kernel_rfl) (by kernel_rfl) (fun _ _ _ h => h) (Or.inl ⟨by rfl, ?_⟩) (by assumption) ?_
  rotate_left
  · intro wS hSw
    (try dsimp only at hSw)
    go_simp
    first | done | with_reducible rfl
  try simp only [Act.put, List.getElem_toArray, List.getElem_cons_succ, List.getElem_cons_zero, List.setIfInBounds_toArray, List.set_cons_zero, List.set_cons_succ]
  refine wpAnyH_done (by kernel_rfl) ?_ _
  go_wp2_with fail
  refine bodyPost_ret (resB3 Tryz.results25 rfl (loadVarB hxn hlT)) rfl ⟨_, _, _, rfl, ⟨?_, ?_, rN.1⟩, ?_⟩
  · exact own_le (own_grown HF1.out hgn (by omega)) (by omega)
  · exact own_le (own_grown HG1.out hgn (by omega)) (by omega)
  · exact own_le (own_grown HT1.out hgn (by omega)) (by omega)
end Go.Proofs.YtgodmnpcedfdcaaGreat
