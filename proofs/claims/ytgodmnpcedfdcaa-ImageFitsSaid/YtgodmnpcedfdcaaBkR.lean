/- Package block: AssignAt. -/
import Derived.Test.YtgodmnpcedfdcaaBkQ
namespace Go.Proofs.Ytgodmnpcedfdcaa
open Go.RowKit
set_option maxRecDepth 100000 in
set_option maxHeartbeats 8000000 in
theorem assignAt_bad (b : BlkS) (fv av : Value) (x : Int) (a : PA) (w : World) (hf : Sees w fv b.free) (ha : SeesA w av b.attrs) (hw : BWf b) (hx : 0 ≤ x) (hx' : x < 4294967296) (h1 : a.1.size ≤ maxLen) (h2 : a.2.size ≤ maxLen) (hno : (rightB b && (mayP a && inB b.addr x)) = false) :
    Calls Try.prog 17 #[.agg (blkL b fv av).toArray, .int .u32 x, atV a] w fun e w' => e = .returned (.tuple #[.agg (blkL zB NS NS).toArray, .int .i64 1]) ∧ Below w.heap.size w w' := by
  obtain ⟨W, hW⟩ : ∃ W, W = ((w.alloc (blkO b fv av)).alloc (atO a)).alloc (blkO zB NS NS) := ⟨_, rfl⟩
  obtain ⟨hb0, hA, hT, hR, hsz⟩ := three_newB w (blkO b fv av) (atO a) (blkO zB NS NS)
  rw [← hW] at hb0 hA hT hR hsz
  have HX0 : Hid (BlkAt W w.heap.size b fv av) := Lib.hid hA
  have HA0 := Lib.hid hT
  have HZ0 : Hid (BlkAt W (w.heap.size + 2) zB NS NS) := Lib.hid hR
  have HB0 := Lib.hid hb0
  have HSZ := Lib.hid hsz
  have HW := Lib.hid hW
  have HSO := Lib.hid (slotOf_any b fv av hw.1 x hx hx' W)
  have HRB := Lib.hid (fun W1 (hb : Below W.heap.size W W1) => rightBlk_any (blkL b fv av).toArray b W1 ⟨fv, av, rfl, (hf.keep hb0).keep hb, (ha.below hb0).below hb, hw⟩)
  have HMB := Lib.hid (fun w => mayBe_any a h1 h2 w)
  have hl := hw.2.1
  generalize (if inB b.addr x = true then x - b.addr else 0) = I at *
  cases hr : rightB b with
  | false =>
    rw [hr] at HRB
    clear hW hb0 hA hT hR hsz hf ha hw hno
    go_enter Try.func17, Try.ntmps17
    go_upto_region 1 with fail
    change Code.wp _ _ _ _ (((w.alloc (blkO b fv av)).alloc (atO a)).alloc (blkO zB NS NS))
    rw [← HW.out]
    clear HW
    go_wp2_with (refine wpLdB rfl _ rfl rfl HX0.out hl ?_)
    refine HSO.out.mono ?_; rintro e w1 ⟨rfl, hb1⟩
    have HX1 := Lib.hid (HX0.out.below hb1)
    have HZ1 := Lib.hid (HZ0.out.below hb1)
    have HA1 := Lib.hid ((hb1.block _ (heap_lt HA0.out)).trans HA0.out)
    have HB1 := Lib.hid (HB0.out.trans (hb1.mono HB0.out.size))
    have HS1 := Lib.hid (Nat.le_trans (Nat.le_of_eq HSZ.out.symm) hb1.size)
    have HR1 := Lib.hid (HRB.out _ hb1)
    clear hb1
    go_wp2_with (refine wpLdB rfl _ rfl rfl HX1.out hl ?_)
    refine HR1.out.mono ?_; rintro e w2 ⟨rfl, hb2⟩
    have HX2 := Lib.hid (HX1.out.below hb2)
    have HZ2 := Lib.hid (HZ1.out.below hb2)
    have HA2 := Lib.hid ((hb2.block _ (heap_lt HA1.out)).trans HA1.out)
    have HB2 := Lib.hid (HB1.out.trans (hb2.mono HB1.out.size))
    have HS2 := Lib.hid (Nat.le_trans HS1.out hb2.size)
    clear hb2
    go_wp2_with (refine wpStB (b := zB) (fv := NS) (av := NS) rfl _ _ rfl rfl rfl HZ2.out zB_len zB_len rfl rfl ?_; intro w7 hx7 hg7)
    exact bodyPost_ret (resB2 Try.results17 rfl (loadVarB hx7 zB_len)) rfl ⟨rfl, HB2.out.grown hg7 HB2.out.size (fun k hk => by cases hk; omega)⟩
  | true =>
    rw [hr] at HRB
    cases hm : mayP a with
    | false =>
      rw [hm] at HMB
      clear hW hb0 hA hT hR hsz hf ha hw hno
      go_enter Try.func17, Try.ntmps17
      go_upto_region 1 with fail
      change Code.wp _ _ _ _ (((w.alloc (blkO b fv av)).alloc (atO a)).alloc (blkO zB NS NS))
      rw [← HW.out]
      clear HW
      go_wp2_with (refine wpLdB rfl _ rfl rfl HX0.out hl ?_)
      refine HSO.out.mono ?_; rintro e w1 ⟨rfl, hb1⟩
      have HX1 := Lib.hid (HX0.out.below hb1)
      have HZ1 := Lib.hid (HZ0.out.below hb1)
      have HA1 := Lib.hid ((hb1.block _ (heap_lt HA0.out)).trans HA0.out)
      have HB1 := Lib.hid (HB0.out.trans (hb1.mono HB0.out.size))
      have HS1 := Lib.hid (Nat.le_trans (Nat.le_of_eq HSZ.out.symm) hb1.size)
      have HR1 := Lib.hid (HRB.out _ hb1)
      clear hb1
      go_wp2_with (refine wpLdB rfl _ rfl rfl HX1.out hl ?_)
      refine HR1.out.mono ?_; rintro e w2 ⟨rfl, hb2⟩
      have HX2 := Lib.hid (HX1.out.below hb2)
      have HZ2 := Lib.hid (HZ1.out.below hb2)
      have HA2 := Lib.hid ((hb2.block _ (heap_lt HA1.out)).trans HA1.out)
      have HB2 := Lib.hid (HB1.out.trans (hb2.mono HB1.out.size))
      have HS2 := Lib.hid (Nat.le_trans HS1.out hb2.size)
      clear hb2
      have k0 := (cells2 HA2.out).1
      have k1 := (cells2 HA2.out).2
      go_wp2_with fail
      refine (HMB.out _).mono ?_; rintro e w3 ⟨rfl, hb3⟩
      have HX3 := Lib.hid (HX2.out.below hb3)
      have HZ3 := Lib.hid (HZ2.out.below hb3)
      have HA3 := Lib.hid ((hb3.block _ (heap_lt HA2.out)).trans HA2.out)
      have HB3 := Lib.hid (HB2.out.trans (hb3.mono HB2.out.size))
      have HS3 := Lib.hid (Nat.le_trans HS2.out hb3.size)
      clear hb3 k0 k1
      go_wp2_with (refine wpStB (b := zB) (fv := NS) (av := NS) rfl _ _ rfl rfl rfl HZ3.out zB_len zB_len rfl rfl ?_; intro w7 hx7 hg7)
      exact bodyPost_ret (resB2 Try.results17 rfl (loadVarB hx7 zB_len)) rfl ⟨rfl, HB3.out.grown hg7 HB3.out.size (fun k hk => by cases hk; omega)⟩
    | true =>
      have hn : inB b.addr x = false := by
        rw [hr, hm] at hno
        simpa using hno
      rw [hn] at HSO
      rw [hm] at HMB
      clear hW hb0 hA hT hR hsz hf ha hw hno
      go_enter Try.func17, Try.ntmps17
      go_upto_region 1 with fail
      change Code.wp _ _ _ _ (((w.alloc (blkO b fv av)).alloc (atO a)).alloc (blkO zB NS NS))
      rw [← HW.out]
      clear HW
      go_wp2_with (refine wpLdB rfl _ rfl rfl HX0.out hl ?_)
      refine HSO.out.mono ?_; rintro e w1 ⟨rfl, hb1⟩
      have HX1 := Lib.hid (HX0.out.below hb1)
      have HZ1 := Lib.hid (HZ0.out.below hb1)
      have HA1 := Lib.hid ((hb1.block _ (heap_lt HA0.out)).trans HA0.out)
      have HB1 := Lib.hid (HB0.out.trans (hb1.mono HB0.out.size))
      have HS1 := Lib.hid (Nat.le_trans (Nat.le_of_eq HSZ.out.symm) hb1.size)
      have HR1 := Lib.hid (HRB.out _ hb1)
      clear hb1
      go_wp2_with (refine wpLdB rfl _ rfl rfl HX1.out hl ?_)
      refine HR1.out.mono ?_; rintro e w2 ⟨rfl, hb2⟩
      have HX2 := Lib.hid (HX1.out.below hb2)
      have HZ2 := Lib.hid (HZ1.out.below hb2)
      have HA2 := Lib.hid ((hb2.block _ (heap_lt HA1.out)).trans HA1.out)
      have HB2 := Lib.hid (HB1.out.trans (hb2.mono HB1.out.size))
      have HS2 := Lib.hid (Nat.le_trans HS1.out hb2.size)
      clear hb2
      have k0 := (cells2 HA2.out).1
      have k1 := (cells2 HA2.out).2
      go_wp2_with fail
      refine (HMB.out _).mono ?_; rintro e w3 ⟨rfl, hb3⟩
      have HX3 := Lib.hid (HX2.out.below hb3)
      have HZ3 := Lib.hid (HZ2.out.below hb3)
      have HA3 := Lib.hid ((hb3.block _ (heap_lt HA2.out)).trans HA2.out)
      have HB3 := Lib.hid (HB2.out.trans (hb3.mono HB2.out.size))
      have HS3 := Lib.hid (Nat.le_trans HS2.out hb3.size)
      clear hb3 k0 k1
      go_wp2_with (refine wpStB (b := zB) (fv := NS) (av := NS) rfl _ _ rfl rfl rfl HZ3.out zB_len zB_len rfl rfl ?_; intro w7 hx7 hg7)
      exact bodyPost_ret (resB2 Try.results17 rfl (loadVarB hx7 zB_len)) rfl ⟨rfl, HB3.out.grown hg7 HB3.out.size (fun k hk => by cases hk; omega)⟩
set_option maxRecDepth 100000 in
set_option maxHeartbeats 8000000 in
theorem assignAt_taken (b : BlkS) (fv av : Value) (x : Int) (a : PA) (w : World) (hf : Sees w fv b.free) (ha : SeesA w av b.attrs) (hw : BWf b) (hx : 0 ≤ x) (hx' : x < 4294967296) (h1 : a.1.size ≤ maxLen) (h2 : a.2.size ≤ maxLen) (hr : rightB b = true) (hm : mayP a = true) (hi : inB b.addr x = true) (hq : b.sl.getD (x - b.addr).toNat 0 ≠ 0) :
    Calls Try.prog 17 #[.agg (blkL b fv av).toArray, .int .u32 x, atV a] w fun e w' => e = .returned (.tuple #[.agg (blkL zB NS NS).toArray, .int .i64 11]) ∧ Below w.heap.size w w' := by
  have HQ := Lib.hid hq
  obtain ⟨W, hW⟩ : ∃ W, W = ((w.alloc (blkO b fv av)).alloc (atO a)).alloc (blkO zB NS NS) := ⟨_, rfl⟩
  obtain ⟨hb0, hA, hT, hR, hsz⟩ := three_newB w (blkO b fv av) (atO a) (blkO zB NS NS)
  rw [← hW] at hb0 hA hT hR hsz
  have HX0 : Hid (BlkAt W w.heap.size b fv av) := Lib.hid hA
  have HA0 := Lib.hid hT
  have HZ0 : Hid (BlkAt W (w.heap.size + 2) zB NS NS) := Lib.hid hR
  have HB0 := Lib.hid hb0
  have HSZ := Lib.hid hsz
  have HW := Lib.hid hW
  have HSO := Lib.hid (slotOf_any b fv av hw.1 x hx hx' W)
  have HRB := Lib.hid (fun W1 (hb : Below W.heap.size W W1) => rightBlk_any (blkL b fv av).toArray b W1 ⟨fv, av, rfl, (hf.keep hb0).keep hb, (ha.below hb0).below hb, hw⟩)
  have HMB := Lib.hid (fun w => mayBe_any a h1 h2 w)
  have hl := hw.2.1
  obtain ⟨h64, _, hal, hsl⟩ := right_bd hw hr
  obtain ⟨hfo, _, hfl⟩ := right_free hr
  obtain ⟨y, hy, hyx⟩ : ∃ y : Nat, y < 64 ∧ x - b.addr = (y : Int) := by
    have hi' : x - x % 64 = b.addr := by unfold inB at hi; simpa using hi
    refine ⟨(x - b.addr).toNat, by omega, by omega⟩
  rw [hi, if_pos rfl, hyx] at HSO
  rw [hyx, Int.toNat_natCast] at HQ
  have y0 : (0 : Int) ≤ (y : Int) := by omega
  have y1 : (y : Int) < 64 := by omega
  have hw8 : IntKind.u8.wrap (y : Int) = y := by rw [IntKind.wrap_u8]; omega
  rw [hr] at HRB
  rw [hm] at HMB
  have HY := Lib.hid (get64 hl hy)
  have hz : (b.sl.getD y 0 == 0) = false := by have := HQ.out; simpa using this
  have hz' : decide (b.sl.getD y 0 = 0) = false := by have := HQ.out; simpa using this
  generalize b.sl.getD y 0 = q at *
  clear hW hb0 hA hT hR hsz hf ha hw hr hm hi hfo hfl hal h64 hyx hq hsl hy
  go_enter Try.func17, Try.ntmps17
  go_upto_region 1 with fail
  change Code.wp _ _ _ _ (((w.alloc (blkO b fv av)).alloc (atO a)).alloc (blkO zB NS NS))
  rw [← HW.out]
  clear HW
  go_wp2_with (refine wpLdB rfl _ rfl rfl HX0.out hl ?_)
  refine HSO.out.mono ?_; rintro e w1 ⟨rfl, hb1⟩
  have HX1 := Lib.hid (HX0.out.below hb1)
  have HZ1 := Lib.hid (HZ0.out.below hb1)
  have HA1 := Lib.hid ((hb1.block _ (heap_lt HA0.out)).trans HA0.out)
  have HB1 := Lib.hid (HB0.out.trans (hb1.mono HB0.out.size))
  have HS1 := Lib.hid (Nat.le_trans (Nat.le_of_eq HSZ.out.symm) hb1.size)
  have HR1 := Lib.hid (HRB.out _ hb1)
  clear hb1
  go_wp2_with (refine wpLdB rfl _ rfl rfl HX1.out hl ?_)
  refine HR1.out.mono ?_; rintro e w2 ⟨rfl, hb2⟩
  have HX2 := Lib.hid (HX1.out.below hb2)
  have HZ2 := Lib.hid (HZ1.out.below hb2)
  have HA2 := Lib.hid ((hb2.block _ (heap_lt HA1.out)).trans HA1.out)
  have HB2 := Lib.hid (HB1.out.trans (hb2.mono HB1.out.size))
  have HS2 := Lib.hid (Nat.le_trans HS1.out hb2.size)
  clear hb2
  have k0 := (cells2 HA2.out).1
  have k1 := (cells2 HA2.out).2
  go_wp2_with fail
  refine (HMB.out _).mono ?_; rintro e w3 ⟨rfl, hb3⟩
  have HX3 := Lib.hid (HX2.out.below hb3)
  have HZ3 := Lib.hid (HZ2.out.below hb3)
  have HA3 := Lib.hid ((hb3.block _ (heap_lt HA2.out)).trans HA2.out)
  have HB3 := Lib.hid (HB2.out.trans (hb3.mono HB2.out.size))
  have HS3 := Lib.hid (Nat.le_trans HS2.out hb3.size)
  clear hb3 k0 k1
  have c1 := HX3.out.slot HY.out
  rw [Nat.add_comm] at c1
  go_upto_region 5 with fail
  clear c1
  go_wp2_with (refine wpStB (b := zB) (fv := NS) (av := NS) rfl _ _ rfl rfl rfl HZ3.out zB_len zB_len rfl rfl ?_; intro w7 hx7 hg7)
  exact bodyPost_ret (resB2 Try.results17 rfl (loadVarB hx7 zB_len)) rfl ⟨rfl, HB3.out.grown hg7 HB3.out.size (fun k hk => by cases hk; omega)⟩
set_option maxRecDepth 100000 in
set_option maxHeartbeats 8000000 in
theorem assignAt_any (b : BlkS) (fv av : Value) (x : Int) (a : PA) (w : World) (hf : Sees w fv b.free) (ha : SeesA w av b.attrs) (hw : BWf b) (hx : 0 ≤ x) (hx' : x < 4294967296) (h1 : a.1.size ≤ maxLen) (h2 : a.2.size ≤ maxLen) (hr : rightB b = true) (hm : mayP a = true) (hi : inB b.addr x = true) (hq : b.sl.getD (x - b.addr).toNat 0 = 0) :
    Calls Try.prog 17 #[.agg (blkL b fv av).toArray, .int .u32 x, atV a] w fun e w' => ∃ fv' av', e = .returned (.tuple #[.agg (blkL (givS b [x - b.addr] a) fv' av').toArray, .int .i64 0]) ∧ BlkRet w w' (givS b [x - b.addr] a) fv' av' := by
  have HQ := Lib.hid hq
  obtain ⟨W, hW⟩ : ∃ W, W = ((w.alloc (blkO b fv av)).alloc (atO a)).alloc (blkO zB NS NS) := ⟨_, rfl⟩
  obtain ⟨hb0, hA, hT, hR, hsz⟩ := three_newB w (blkO b fv av) (atO a) (blkO zB NS NS)
  rw [← hW] at hb0 hA hT hR hsz
  have HX0 : Hid (BlkAt W w.heap.size b fv av) := Lib.hid hA
  have HA0 := Lib.hid hT
  have HZ0 : Hid (BlkAt W (w.heap.size + 2) zB NS NS) := Lib.hid hR
  have HB0 := Lib.hid hb0
  have HSZ := Lib.hid hsz
  have HW := Lib.hid hW
  have HSO := Lib.hid (slotOf_any b fv av hw.1 x hx hx' W)
  have HRB := Lib.hid (fun W1 (hb : Below W.heap.size W W1) => rightBlk_any (blkL b fv av).toArray b W1 ⟨fv, av, rfl, (hf.keep hb0).keep hb, (ha.below hb0).below hb, hw⟩)
  have HMB := Lib.hid (fun w => mayBe_any a h1 h2 w)
  have hl := hw.2.1
  obtain ⟨h64, _, hal, hsl⟩ := right_bd hw hr
  obtain ⟨hfo, _, hfl⟩ := right_free hr
  obtain ⟨y, hy, hyx⟩ : ∃ y : Nat, y < 64 ∧ x - b.addr = (y : Int) := by
    have hi' : x - x % 64 = b.addr := by unfold inB at hi; simpa using hi
    refine ⟨(x - b.addr).toNat, by omega, by omega⟩
  rw [hi, if_pos rfl, hyx] at HSO
  rw [hyx, Int.toNat_natCast] at HQ
  have y0 : (0 : Int) ≤ (y : Int) := by omega
  have y1 : (y : Int) < 64 := by omega
  have hw8 : IntKind.u8.wrap (y : Int) = y := by rw [IntKind.wrap_u8]; omega
  rw [hr] at HRB
  rw [hm] at HMB
  have HY := Lib.hid (get64 hl hy)
  rw [HQ.out] at HY
  rw [hyx]
  have HGV : Hid (∀ W lv, Below w.heap.size w W → Sees W lv [(y : Int)] → _) := Lib.hid (fun W lv hb hs => given_any b fv av lv [(y : Int)] a W (hf.keep hb) (ha.below hb) hl hal (by omega) hs (fun x hx => by simp only [List.mem_cons, List.not_mem_nil, or_false] at hx; subst hx; exact ⟨y0, y1⟩) hfo (by simp))
  have hlG : (givS b [(y : Int)] a).sl.length = 64 := (givSl_len' _ _ _).trans hl
  clear hW hb0 hA hT hR hsz hf ha hw hr hm hi hfo hfl hal h64 hyx hq hsl hy
  go_enter Try.func17, Try.ntmps17
  go_upto_region 1 with fail
  change Code.wp _ _ _ _ (((w.alloc (blkO b fv av)).alloc (atO a)).alloc (blkO zB NS NS))
  rw [← HW.out]
  clear HW
  go_wp2_with (refine wpLdB rfl _ rfl rfl HX0.out hl ?_)
  refine HSO.out.mono ?_; rintro e w1 ⟨rfl, hb1⟩
  have HX1 := Lib.hid (HX0.out.below hb1)
  have HZ1 := Lib.hid (HZ0.out.below hb1)
  have HA1 := Lib.hid ((hb1.block _ (heap_lt HA0.out)).trans HA0.out)
  have HB1 := Lib.hid (HB0.out.trans (hb1.mono HB0.out.size))
  have HS1 := Lib.hid (Nat.le_trans (Nat.le_of_eq HSZ.out.symm) hb1.size)
  have HR1 := Lib.hid (HRB.out _ hb1)
  clear hb1
  go_wp2_with (refine wpLdB rfl _ rfl rfl HX1.out hl ?_)
  refine HR1.out.mono ?_; rintro e w2 ⟨rfl, hb2⟩
  have HX2 := Lib.hid (HX1.out.below hb2)
  have HZ2 := Lib.hid (HZ1.out.below hb2)
  have HA2 := Lib.hid ((hb2.block _ (heap_lt HA1.out)).trans HA1.out)
  have HB2 := Lib.hid (HB1.out.trans (hb2.mono HB1.out.size))
  have HS2 := Lib.hid (Nat.le_trans HS1.out hb2.size)
  clear hb2
  have k0 := (cells2 HA2.out).1
  have k1 := (cells2 HA2.out).2
  go_wp2_with fail
  refine (HMB.out _).mono ?_; rintro e w3 ⟨rfl, hb3⟩
  have HX3 := Lib.hid (HX2.out.below hb3)
  have HZ3 := Lib.hid (HZ2.out.below hb3)
  have HA3 := Lib.hid ((hb3.block _ (heap_lt HA2.out)).trans HA2.out)
  have HB3 := Lib.hid (HB2.out.trans (hb3.mono HB2.out.size))
  have HS3 := Lib.hid (Nat.le_trans HS2.out hb3.size)
  clear hb3 k0 k1
  have c1 := HX3.out.slot HY.out
  rw [Nat.add_comm] at c1
  go_upto_region 6 with fail
  clear c1
  have HA4 := Lib.hid (((belNew w3 (.cells #[.int .u8 (y : Int)] 5)).block _ (heap_lt HA3.out)).trans HA3.out)
  have k0 := (cells2 HA4.out).1
  have k1 := (cells2 HA4.out).2
  have HX4 := Lib.hid (HX3.out.below (belNew w3 (.cells #[.int .u8 (y : Int)] 5)))
  have HZ4 := Lib.hid (HZ3.out.below (belNew w3 (.cells #[.int .u8 (y : Int)] 5)))
  have HB4 := Lib.hid (belAlloc HB3.out (.cells #[.int .u8 (y : Int)] 5))
  have HS4 : Hid (w.heap.size + 3 ≤ (w3.alloc (.cells #[.int .u8 (y : Int)] 5)).heap.size) := Lib.hid (Nat.le_trans HS3.out (belNew w3 _).size)
  have HG4 := Lib.hid (HGV.out _ (.slice (some ⟨w3.heap.size, 0, none⟩) 1 1) HB4.out ⟨some ⟨w3.heap.size, 0, none⟩, 1, rfl, Nat.le_refl _, (fun h => by cases h), fun a ha i hi => by
    cases ha
    obtain rfl : i = 0 := by simp at hi; omega
    rw [add0]
    exact cell_of_one (heap_alloc_new w3 _)⟩)
  go_wp2_with (first
    | (refine wpLdB rfl _ rfl rfl HX3.out hl ?_)
    | (refine wpLdB rfl _ rfl rfl HX4.out hl ?_))
  refine HG4.out.mono ?_; rintro e w5 ⟨fv', av', rfl, HR⟩
  obtain ⟨gf, ga, gb⟩ := HR
  have HF5 := Lib.hid gf
  have HGA5 := Lib.hid ga
  have HB5 := Lib.hid gb
  have HZ5 := Lib.hid (HZ4.out.below gb)
  obtain ⟨f5, n5, c5, rfl⟩ := own_form gf
  obtain ⟨a5, m5, d5, rfl⟩ := own_form ga
  clear gf ga gb
  go_wp2_with (refine wpStB rfl _ _ rfl rfl rfl HZ5.out zB_len hlG rfl rfl ?_; intro w7 hx7 hg7)
  refine bodyPost_ret (resB2 Try.results17 rfl (loadVarB hx7 hlG)) rfl ⟨_, _, rfl, ?_, ?_, ?_⟩
  · exact own_le (own_grown HF5.out hg7 (by have := HS4.out; omega)) (by have := HS4.out; omega)
  · exact own_le (own_grown HGA5.out hg7 (by have := HS4.out; omega)) (by have := HS4.out; omega)
  · have h5 := HB4.out.trans (HB5.out.mono HB4.out.size)
    exact h5.grown hg7 h5.size (fun k hk => by cases hk; omega)
end Go.Proofs.Ytgodmnpcedfdcaa
