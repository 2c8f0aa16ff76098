/- Package view: the record of a pool is taken. Made by g_vwp.py. -/
import Derived.Test.YtiifbhiodegipaaGreatDoorRcNet
import Derived.Test.YtiifbhiodegipaaGreatDoorSq
import Derived.Test.YtiifbhiodegipaaGreatDoorVwB
import Derived.Test.YtiifbhiodegipaaGreatDoorNMd
import Derived.Test.YtiifbhiodegipaaGreatDoorRCa
namespace Go.Proofs.YtiifbhiodegipaaGreatDoor
open Go.RowKit
def plOf (k : ByteArray) : Option (Int × Int) := match NM.rnet (NM.rest k NM.pPool).data.toList with
  | some p => if NM.starts k NM.pPool && decide (p.2 ≤ 26) then some p else none
  | none => none
def plOfV (o : Option (Int × Int)) : Value := match o with
  | some p => .tuple #[.agg #[.int .u32 p.1, .int .i64 p.2], .bool true]
  | none => .tuple #[.agg #[.int .u32 0, .int .i64 0], .bool false]
theorem plOf_poolV (k : ByteArray) : NM.poolV (NM.starts k NM.pPool) (NM.rnet (NM.rest k NM.pPool).data.toList) = plOfV (plOf k) := by
  unfold plOf NM.poolV
  cases NM.rnet (NM.rest k NM.pPool).data.toList with
  | none => rfl
  | some p =>
    simp only []
    split <;> rfl
def plRd (v : ByteArray) : Option P3 := if RC.poolB v = true then some ((RC.u1 v).1, (RC.u2 v).1, (RC.u3 v).1 == 1) else none
def plRdV (o : Option P3) : Value := match o with
  | some p => .tuple #[.agg #[.int .u32 p.1, .int .i64 p.2.1, .bool p.2.2], .int .i64 0]
  | none => .tuple #[.agg #[.int .u32 0, .int .i64 0, .bool false], .int .i64 3]
theorem plRd_V (v : ByteArray) : (if RC.poolB v = true then (.tuple #[.agg #[.int .u32 (RC.u1 v).1, .int .i64 (RC.u2 v).1, .bool ((RC.u3 v).1 == 1)], .int .i64 0] : Value) else .tuple #[.agg #[.int .u32 0, .int .i64 0, .bool false], .int .i64 3]) = plRdV (plRd v) := by
  unfold plRd
  split <;> rfl
def tkP (k v : ByteArray) (s : VwS) : Option VwS := match plOf k with
  | none => none
  | some n => match plRd v with
    | none => none
    | some q => if q.1 = n.1 ∧ q.2.1 = n.2 then some { s with pools := s.pools ++ [q] } else none
theorem infoP : (Tryz.prog.info? 64).map (fun i => (i.zero, i.size, i.bytes)) = some (some (.agg #[.int .u32 0, .int .i64 0, .bool false]), 3, 24) := by kernel_rfl
theorem encP_len (p : P3) : (encP p).length = 3 := rfl
theorem encP_one (p : P3) : ∀ u ∈ encP p, u.oneCell' = true := fun u hu => by simp [encP] at hu; rcases hu with rfl | rfl | rfl <;> rfl
abbrev netO (a b : Int) : Obj := .cells #[.int .u32 a, .int .i64 b] 62
abbrev polO (q : P3) : Obj := .cells #[.int .u32 q.1, .int .i64 q.2.1, .bool q.2.2] 64
theorem cells3 {w : World} {g : Nat} {x y z : Value} {t : TypeId} (h : w.heap[g]? = some (.cells #[x, y, z] t (0, 0))) : w.cell? ⟨g, 0, none⟩ = some x ∧ w.cell? ⟨g, 1, none⟩ = some y ∧ w.cell? ⟨g, 2, none⟩ = some z := by
  refine ⟨?_, ?_, ?_⟩ <;> simp [World.cell?, h]
theorem eqlN (a b c d : Int) (w : World) : (binOp .eql 62 (.agg #[.int .u32 a, .int .i64 b]) (.agg #[.int .u32 c, .int .i64 d])).run Tryz.prog w = .ok (.bool (decide (a = c ∧ b = d))) w := by
  have hS : Tryz.prog.underlying 62 = some (.struct (Tryz.prog.fieldsOf 62)) := by kernel_rfl
  have hp : Tryz.prog.stoodInHeld 62 = false := by kernel_rfl
  have u3 := Tryz.underlying41
  have a3 := Tryz.isAgg41
  have z3 := Tryz.sizeOf41
  have u4 := Tryz.underlying3
  have a4 := Tryz.isAgg3
  have z4 := Tryz.sizeOf3
  rw [run_eql_struct, show (10000 : Nat) = 9999 + 1 from rfl, run_equalIn_agg w 9999 62 _ _ hS hp]
  simp only [Program.fieldsOf, Tryz.underlying62]
  go_simp
  by_cases h1 : a = c <;> by_cases h2 : b = d <;> simp [h1, h2]
theorem neqN (a b c d : Int) (w : World) : (binOp .neq 62 (.agg #[.int .u32 a, .int .i64 b]) (.agg #[.int .u32 c, .int .i64 d])).run Tryz.prog w = .ok (.bool (!decide (a = c ∧ b = d))) w := by
  have h1 := eqlN a b c d w
  rw [run_eql_struct] at h1
  rw [run_neq_struct]
  cases h2 : (Op.equalIn 10000 62 (.agg #[.int .u32 a, .int .i64 b]) (.agg #[.int .u32 c, .int .i64 d])).run Tryz.prog w with
  | ok r w1 =>
    rw [h2] at h1
    simp only [Result.andThen_ok, Result.ok.injEq, Value.bool.injEq] at h1 ⊢
    obtain ⟨rfl, rfl⟩ := h1
    exact ⟨rfl, rfl⟩
  | halt x w1 =>
    rw [h2] at h1
    simp [Result.andThen] at h1
set_option maxRecDepth 100000 in
set_option maxHeartbeats 8000000 in
theorem takePool_any (k v : ByteArray) (r : Int) (B g c : Nat) (p : VwP) (s : VwS) (w : World) (h : VwIs w B g c p s) (hE : NM.Env w) (hk : k.size ≤ 900) (hv : v.size ≤ 1000) (hc : c ≤ 1000000) :
    Calls Tryz.prog 56 #[.pointer (some ⟨g, 0, none⟩), itA k v r] w (TkPost w B g c p (tkP k v s)) := by
  obtain ⟨W, hW⟩ : ∃ W, W = w.alloc (itO k v r) := ⟨_, rfl⟩
  have hb0 := belNew w (itO k v r)
  have hI := It3.new w k v r
  rw [← hW] at hb0 hI
  have HO := Lib.hid (NM.ofPool_any k W (hE.below hb0) hk)
  rw [plOf_poolV] at HO
  have HR := Lib.hid (fun w => RC.readPool_any v w hv)
  rw [plRd_V] at HR
  have HW := Lib.hid hW
  have HX := Lib.hid (And.intro h hc)
  clear hW h hE hc
  unfold tkP
  generalize plOf k = o1 at *
  generalize plRd v = o2 at *
  cases o1 with
  | none =>
    simp only [plOfV] at HO ⊢
    clear HR
    go_enter Tryz.func56, Tryz.ntmps56
    go_upto_region 1 with fail
    change Code.wp _ _ _ _ (w.alloc (itO k v r))
    rw [← HW.out]
    obtain ⟨c0, c1, c2, c3⟩ := id hI
    go_wp2_with fail
    refine HO.out.mono ?_; rintro e w1 ⟨rfl, hb1⟩
    go_wp2_with fail
    go_ret
    exact ⟨rfl, bel (bel hb0 hb1) (belNew _ _)⟩
  | some n =>
    simp only [plOfV] at HO ⊢
    cases o2 with
    | none =>
      simp only [plRdV] at HR ⊢
      go_enter Tryz.func56, Tryz.ntmps56
      go_upto_region 1 with fail
      change Code.wp _ _ _ _ (w.alloc (itO k v r))
      rw [← HW.out]
      obtain ⟨c0, c1, c2, c3⟩ := id hI
      go_wp2_with fail
      refine HO.out.mono ?_; rintro e w1 ⟨rfl, hb1⟩
      have hI1 := (hI.keep hb1).keep (belNew w1 (netO n.1 n.2))
      obtain ⟨x0, x1, x2, x3⟩ := id hI1
      have hb2 := bel (bel hb0 hb1) (belNew w1 (netO n.1 n.2))
      clear c0 c1 c2 c3
      go_wp2_with fail
      refine (HR.out _).mono ?_; rintro e w2 ⟨rfl, hb3⟩
      go_wp2_with fail
      go_ret
      exact ⟨rfl, bel (bel hb2 hb3) (belNew _ _)⟩
    | some q =>
      simp only [plRdV] at HR ⊢
      have hE1 := neqN q.1 q.2.1 n.1 n.2
      generalize hD : decide (q.1 = n.1 ∧ q.2.1 = n.2) = D at *
      have hPD : (if q.1 = n.1 ∧ q.2.1 = n.2 then some { s with pools := s.pools ++ [q] } else none : Option VwS) = if D then some { s with pools := s.pools ++ [q] } else none := by
        rw [← hD]; simp
      rw [hPD]
      have HS := Lib.hid (rfl : s.pools ++ [q] = s.pools ++ [q])
      clear hD hPD
      cases D with
      | false =>
        rw [if_neg (by simp)]
        simp only [Bool.not_true, Bool.not_false] at hE1
        go_enter Tryz.func56, Tryz.ntmps56
        go_upto_region 1 with fail
        change Code.wp _ _ _ _ (w.alloc (itO k v r))
        rw [← HW.out]
        obtain ⟨c0, c1, c2, c3⟩ := id hI
        go_wp2_with fail
        refine HO.out.mono ?_; rintro e w1 ⟨rfl, hb1⟩
        obtain ⟨w2, hw2⟩ : ∃ w2, w2 = w1.alloc (netO n.1 n.2) := ⟨_, rfl⟩
        have hb2 := belNew w1 (netO n.1 n.2)
        have hN := heap_alloc_new w1 (netO n.1 n.2)
        go_upto_region 4 with fail
        rw [← hw2]
        rw [← hw2] at hb2 hN
        have hI2 := (hI.keep hb1).keep hb2
        obtain ⟨x0, x1, x2, x3⟩ := id hI2
        have hb2 := bel (bel hb0 hb1) hb2
        clear c0 c1 c2 c3 hw2
        go_wp2_with fail
        refine (HR.out _).mono ?_; rintro e w3 ⟨rfl, hb3⟩
        obtain ⟨w4, hw4⟩ : ∃ w4, w4 = w3.alloc (polO q) := ⟨_, rfl⟩
        have hb4 := belNew w3 (polO q)
        have hQ := heap_alloc_new w3 (polO q)
        go_upto_region 5 with fail
        rw [← hw4]
        rw [← hw4] at hb4 hQ
        have hb5 := bel (bel hb2 hb3) hb4
        have hN5 := (hb4.block _ (Nat.lt_of_lt_of_le (heap_lt hN) hb3.size)).trans ((hb3.block _ (heap_lt hN)).trans hN)
        obtain ⟨y0, y1⟩ := cells2 hN5
        obtain ⟨z0, z1, z2⟩ := cells3 hQ
        clear x0 x1 x2 x3 hw4 hb4 hb3 hN
        go_wp2_with fail
        go_ret
        exact ⟨rfl, hb5⟩
      | true =>
      rw [if_pos rfl]
      simp only [Bool.not_true, Bool.not_false] at hE1
      go_enter Tryz.func56, Tryz.ntmps56
      go_upto_region 1 with fail
      change Code.wp _ _ _ _ (w.alloc (itO k v r))
      rw [← HW.out]
      obtain ⟨c0, c1, c2, c3⟩ := id hI
      go_wp2_with fail
      refine HO.out.mono ?_; rintro e w1 ⟨rfl, hb1⟩
      obtain ⟨w2, hw2⟩ : ∃ w2, w2 = w1.alloc (netO n.1 n.2) := ⟨_, rfl⟩
      have hb2 := belNew w1 (netO n.1 n.2)
      have hN := heap_alloc_new w1 (netO n.1 n.2)
      go_upto_region 4 with fail
      rw [← hw2]
      rw [← hw2] at hb2 hN
      have hI2 := (hI.keep hb1).keep hb2
      obtain ⟨x0, x1, x2, x3⟩ := id hI2
      have hb2 := bel (bel hb0 hb1) hb2
      clear c0 c1 c2 c3 hw2
      go_wp2_with fail
      refine (HR.out _).mono ?_; rintro e w3 ⟨rfl, hb3⟩
      obtain ⟨w4, hw4⟩ : ∃ w4, w4 = w3.alloc (polO q) := ⟨_, rfl⟩
      have hb4 := belNew w3 (polO q)
      have hQ := heap_alloc_new w3 (polO q)
      go_upto_region 5 with fail
      rw [← hw4]
      rw [← hw4] at hb4 hQ
      have hb5 := bel (bel hb2 hb3) hb4
      have hN5 := (hb4.block _ (Nat.lt_of_lt_of_le (heap_lt hN) hb3.size)).trans ((hb3.block _ (heap_lt hN)).trans hN)
      obtain ⟨y0, y1⟩ := cells2 hN5
      obtain ⟨z0, z1, z2⟩ := cells3 hQ
      have hz3 : w.heap.size ≤ w3.heap.size := (bel hb2 hb3).size
      clear x0 x1 x2 x3 hw4 hb4 hb3 hN
      go_wp2_with fail
      have hV4 := HX.out.1.below hb5
      obtain ⟨pv, bv, ma, mh, mn, X, HH⟩ := p
      obtain ⟨ao, cc, rfl⟩ := hV4.pools.slice
      have HV4 := Lib.hid (And.intro hV4 (And.intro hb5 (And.intro HX.out.2 (fun d hd => (HX.out.1.bd d hd).2))))
      clear hV4 HX hb5 z0 z1 z2 y0 y1 hN5 hI2 hb2 hI hb0 HW HO HR hE1
      generalize hNT : s.pools.length = NT at *
      have HNT := Lib.hid hNT
      clear hNT
      refine wp_region_held_drew (S := (fun X => X.heap[w3.heap.size]? = some (.cells #[.int .u32 q.1, .int .i64 q.2.1, .bool q.2.2] 64 (0, 0)))) (by kernel_rfl) ?_ (fun r0 => ?_)
      · exact hQ
      obtain ⟨wd, hwd⟩ : ∃ wd, wd = w4.drew := ⟨_, rfl⟩
      rw [← hwd] at r0 ⊢
      have hbd : Below w4.heap.size w4 wd := by rw [hwd]; exact vdrew _
      have HD := Lib.hid (And.intro (HV4.out.1.below hbd) (bel HV4.out.2.1 hbd))
      have HC := Lib.hid HV4.out.2.2
      have HZ := Lib.hid hz3
      clear hz3  hwd hbd hQ HV4
      refine tk 0 rfl ?_
      try simp only [Act.put, qA, qB, qC, qD, qE, qF]
      refine tk 1 rfl ?_
      try simp only [Act.put, qA, qB, qC, qD, qE, qF]
      refine tk 2 rfl ?_
      try simp only [Act.put, qA, qB, qC, qD, qE, qF]
      refine tk 3 rfl ?_
      try simp only [Act.put, qA, qB, qC, qD, qE, qF]
      refine tq (v := ?_) 5 rfl ?_ ?_
      rotate_left
      · intro wS hSw
        (try dsimp only at hSw)
        obtain ⟨m0, m1, m2⟩ := cells3 hSw
        go_simp
        first | done | with_reducible rfl
      try simp only [Act.put, qA, qB, qC, qD, qE, qF]
      refine wpAnyH_ready (rs := [4, 6]) (by kernel_rfl) (by simp) ?_
      refine AllReadyH.cons rfl (fun K hK => ?_) (AllReadyH.cons rfl (fun K hK => ?_) AllReadyH.nil)
      · obtain ⟨c0, -⟩ := vcells HD.out.1.blk
        go_simp
        refine hK.out _ _ ?_ (fun _ => ?_)
        · exact r0
        try simp only [Act.put, qA, qB, qC, qD, qE, qF]
        clear c0
        refine wpAnyH_ready (rs := [6]) (by kernel_rfl) (by simp) ?_
        refine AllReadyH.cons rfl (fun K hK => ?_) AllReadyH.nil
        go_simp
        refine hK.out _ _ ?_ (fun r1 => ?_)
        · exact ((belNew wd _).block _ (heap_lt r0)).trans r0
        try simp only [Act.put, qA, qB, qC, qD, qE, qF]
        refine wpAnyH_ready (rs := [7]) (by kernel_rfl) (by simp) ?_
        refine AllReadyH.cons rfl (fun K hK => ?_) AllReadyH.nil
        rw [if_pos (by kernel_rfl)]
        refine wp_pushG (w0 := wd) (T := 24) (E := 64) (enc := encP) Tryz.underlying24 infoP rfl (by decide) (by decide) encP_len encP_one (.tmp 35) (.tmp 37) rfl B (.slice ao NT cc) s.pools q wd.heap.size rfl rfl rfl HD.out.1.pools (by rw [HNT.out]; have := HD.out.1.lp; rw [HNT.out] at this; have := HC.out.1; omega) (by have := (HD.out.1.bd g (Or.inl rfl)); omega) (fun v2 w2 hrow2 hb2 hg2 hat2 => ?_)
        have hgc := (hg2.block g (heap_lt HD.out.1.blk) (fun e => (HD.out.1.nd.pv g e.symm).1 rfl)).trans HD.out.1.blk
        have hrb := (hg2.block w3.heap.size (heap_lt r0) (fun e => by have h1 := HC.out.2 _ (Or.inr (Or.inr (Or.inr (Or.inr (Or.inl e.symm))))); have h2 := HZ.out; omega)).trans r0
        refine hK.out _ _ ?_ (fun r2 => ?_)
        · exact hrb
        try simp only [Act.put, qA, qB, qC, qD, qE, qF]
        refine tk 8 rfl ?_
        try simp only [Act.put, qA, qB, qC, qD, qE, qF]
        refine tk 9 rfl ?_
        try simp only [Act.put, qA, qB, qC, qD, qE, qF]
        refine wpAnyH_ready (rs := [10]) (by kernel_rfl) (by simp) ?_
        refine AllReadyH.cons rfl (fun K hK => ?_) AllReadyH.nil
        obtain ⟨c0, -⟩ := vcells hgc
        have z2 := vfroz hgc 0
        obtain ⟨bo, bc, rfl⟩ := hrow2.slice
        go_simp
        have hO := VwIs.pushP HD.out.1 (w' := w2.setCell ⟨g, 0, none⟩ (.slice bo (s.pools ++ [q]).length bc)) (v := .slice bo (s.pools ++ [q]).length bc) (by simpa [vwL] using vset hgc 0 (.slice bo (s.pools ++ [q]).length bc)) (hrow2.keep (fun d hd hl => Below.heap_setCell _ _ _ _ (fun e => hat2.elim (fun x => (HD.out.1.nd.pv d (x.symm.trans hd)).1 e) (fun x => by have h1 := HD.out.1.bd g (Or.inl rfl); have h2 := Option.some.inj (hd.symm.trans x); have h3 : d = g := e; omega)))) ((Tch.of_grown (P := fun d => d = g ∨ (Value.slice ao NT cc).ownBlock = some d) hg2 (fun k hk => Or.inl (Or.inr hk))).trans (Tch.set (fun d => d = g) w2 ⟨g, 0, none⟩ (.slice bo (s.pools ++ [q]).length bc) (Or.inl rfl)) (fun i _ e => Or.inl e)) hat2
        have hrn := (Below.heap_setCell w2 ⟨g, 0, none⟩ (.slice bo (s.pools ++ [q]).length bc) w3.heap.size (fun e => by have h1 := HC.out.2 _ (Or.inl e); have h2 := HZ.out; omega)).trans hrb
        simp only [List.length_append, List.length_cons, List.length_nil, Nat.zero_add] at hO hrn
        generalize w2.setCell ⟨g, 0, none⟩ (.slice bo (s.pools.length + 1) bc) = w5 at *
        have HO5 := Lib.hid hO
        clear hO c0 z2 hgc hrb hb2 hg2 hat2 hrow2
        refine hK.out _ _ ?_ (fun r3 => ?_)
        · exact hrn
        try simp only [Act.put, qA, qB, qC, qD, qE, qF]
        refine wpAnyH_done (by kernel_rfl) ?_ _
        go_wp2_with fail
        go_ret
        exact ⟨rfl, HO5.out.of_below HD.out.2⟩
      · go_simp
        refine hK.out _ _ ?_ (fun r1 => ?_)
        · exact ((belNew wd _).block _ (heap_lt r0)).trans r0
        try simp only [Act.put, qA, qB, qC, qD, qE, qF]
        refine wpAnyH_ready (rs := [4]) (by kernel_rfl) (by simp) ?_
        refine AllReadyH.cons rfl (fun K hK => ?_) AllReadyH.nil
        obtain ⟨c0, -⟩ := vcells (((belNew wd (polO q)).block g (heap_lt HD.out.1.blk)).trans HD.out.1.blk)
        go_simp
        refine hK.out _ _ ?_ (fun _ => ?_)
        · exact r1
        try simp only [Act.put, qA, qB, qC, qD, qE, qF]
        clear c0
        refine wpAnyH_ready (rs := [7]) (by kernel_rfl) (by simp) ?_
        refine AllReadyH.cons rfl (fun K hK => ?_) AllReadyH.nil
        rw [if_pos (by kernel_rfl)]
        refine wp_pushG (w0 := wd) (T := 24) (E := 64) (enc := encP) Tryz.underlying24 infoP rfl (by decide) (by decide) encP_len encP_one (.tmp 35) (.tmp 37) rfl B (.slice ao NT cc) s.pools q wd.heap.size rfl rfl rfl HD.out.1.pools (by rw [HNT.out]; have := HD.out.1.lp; rw [HNT.out] at this; have := HC.out.1; omega) (by have := (HD.out.1.bd g (Or.inl rfl)); omega) (fun v2 w2 hrow2 hb2 hg2 hat2 => ?_)
        have hgc := (hg2.block g (heap_lt HD.out.1.blk) (fun e => (HD.out.1.nd.pv g e.symm).1 rfl)).trans HD.out.1.blk
        have hrb := (hg2.block w3.heap.size (heap_lt r0) (fun e => by have h1 := HC.out.2 _ (Or.inr (Or.inr (Or.inr (Or.inr (Or.inl e.symm))))); have h2 := HZ.out; omega)).trans r0
        refine hK.out _ _ ?_ (fun r2 => ?_)
        · exact hrb
        try simp only [Act.put, qA, qB, qC, qD, qE, qF]
        refine tk 8 rfl ?_
        try simp only [Act.put, qA, qB, qC, qD, qE, qF]
        refine tk 9 rfl ?_
        try simp only [Act.put, qA, qB, qC, qD, qE, qF]
        refine wpAnyH_ready (rs := [10]) (by kernel_rfl) (by simp) ?_
        refine AllReadyH.cons rfl (fun K hK => ?_) AllReadyH.nil
        obtain ⟨c0, -⟩ := vcells hgc
        have z2 := vfroz hgc 0
        obtain ⟨bo, bc, rfl⟩ := hrow2.slice
        go_simp
        have hO := VwIs.pushP HD.out.1 (w' := w2.setCell ⟨g, 0, none⟩ (.slice bo (s.pools ++ [q]).length bc)) (v := .slice bo (s.pools ++ [q]).length bc) (by simpa [vwL] using vset hgc 0 (.slice bo (s.pools ++ [q]).length bc)) (hrow2.keep (fun d hd hl => Below.heap_setCell _ _ _ _ (fun e => hat2.elim (fun x => (HD.out.1.nd.pv d (x.symm.trans hd)).1 e) (fun x => by have h1 := HD.out.1.bd g (Or.inl rfl); have h2 := Option.some.inj (hd.symm.trans x); have h3 : d = g := e; omega)))) ((Tch.of_grown (P := fun d => d = g ∨ (Value.slice ao NT cc).ownBlock = some d) hg2 (fun k hk => Or.inl (Or.inr hk))).trans (Tch.set (fun d => d = g) w2 ⟨g, 0, none⟩ (.slice bo (s.pools ++ [q]).length bc) (Or.inl rfl)) (fun i _ e => Or.inl e)) hat2
        have hrn := (Below.heap_setCell w2 ⟨g, 0, none⟩ (.slice bo (s.pools ++ [q]).length bc) w3.heap.size (fun e => by have h1 := HC.out.2 _ (Or.inl e); have h2 := HZ.out; omega)).trans hrb
        simp only [List.length_append, List.length_cons, List.length_nil, Nat.zero_add] at hO hrn
        generalize w2.setCell ⟨g, 0, none⟩ (.slice bo (s.pools.length + 1) bc) = w5 at *
        have HO5 := Lib.hid hO
        clear hO c0 z2 hgc hrb hb2 hg2 hat2 hrow2
        refine hK.out _ _ ?_ (fun r3 => ?_)
        · exact hrn
        try simp only [Act.put, qA, qB, qC, qD, qE, qF]
        refine wpAnyH_done (by kernel_rfl) ?_ _
        go_wp2_with fail
        go_ret
        exact ⟨rfl, HO5.out.of_below HD.out.2⟩
end Go.Proofs.YtiifbhiodegipaaGreatDoor
namespace Go.Proofs.YtiifbhiodegipaaGreatDoor
open Go.RowKit
set_option maxRecDepth 100000 in
set_option maxHeartbeats 4000000 in
theorem size_any2 (a b : Int) (ha : 0 ≤ a) (ha' : a < 4294967296) (w : World) :
    Calls Tryz.prog 44 #[.agg #[.int .u32 a, .int .i64 b]] w fun e w' => e = .returned (.int .i64 (sizeI a b)) ∧ Below w.heap.size w w' := by
  have HV : Hid (countI a b 32 = sizeI a b) := Lib.hid (by
    unfold countI sizeI
    by_cases hm : mayB a b = true
    · have := may_bits hm
      rw [if_pos hm, if_pos ⟨hm, rfl, this.2⟩]; rfl
    · rw [if_neg hm, if_neg (fun h => hm h.1)])
  have HC := Lib.hid (count_any a b 32 ha ha')
  go_enter Tryz.func44, Tryz.ntmps44
  go_wp2_with fail
  refine (HC.out _).mono ?_; rintro e w1 ⟨rfl, hb1⟩
  go_wp2_with fail
  go_ret
  exact ⟨congrArg (fun n => Ending.returned (.int .i64 n)) HV.out, bel (belNew _ _) hb1⟩
theorem cell_of1 {w : World} {g : Nat} {x : Value} {t : TypeId} (h : w.heap[g]? = some (.cells #[x] t (0, 0))) : w.cell? ⟨g, 0, none⟩ = some x := by simp [World.cell?, h]
theorem searchE (f : Value) (w : World) :
    Calls Tryz.prog 73 #[.int .i64 0, f] w fun e w' => e = .returned (.int .i64 0) ∧ Below w.heap.size w w' := by
  go_enter Tryz.func73, Tryz.ntmps73
  go_wp2_with fail
  refine wp_loop_rounds 1 ?_
  rw [rounds_succ]
  go_wp2_with fail
  go_ret
  exact ⟨rfl, Below.refl _ _⟩
set_option maxRecDepth 100000 in
set_option maxHeartbeats 4000000 in
theorem withinE (a b : Int) (ha : 0 ≤ a) (ha' : a < 4294967296) (w : World) :
    Calls Tryz.prog 45 #[.slice none 0 0, .agg #[.int .u32 a, .int .i64 b]] w fun e w' => e = .returned (.int .i64 0) ∧ Below w.heap.size w w' := by
  have HM := Lib.hid (fun w => may_any a b ha ha' w)
  have HS := Lib.hid (fun f w => searchE f w)
  obtain ⟨W, hW⟩ : ∃ W, W = (w.alloc (.cells #[.slice none 0 0] 67)).alloc (netO a b) := ⟨_, rfl⟩
  have hb0 : Below w.heap.size w W := by rw [hW]; exact belAlloc (belNew w _) _
  have h0 : W.heap[w.heap.size]? = some (.cells #[.slice none 0 0] 67 (0, 0)) := by rw [hW]; exact (Below.heap_alloc _ _ _ (by simp)).trans (heap_alloc_new w _)
  have h1 : W.heap[w.heap.size + 1]? = some (.cells #[.int .u32 a, .int .i64 b] 62 (0, 0)) := by
    rw [hW]
    have := heap_alloc_new (w.alloc (.cells #[.slice none 0 0] 67)) (netO a b)
    simpa using this
  have HW := Lib.hid hW
  clear hW
  generalize mayB a b = m at *
  go_enter Tryz.func45, Tryz.ntmps45
  go_upto_region 1 with fail
  change Code.wp _ _ _ _ ((w.alloc (.cells #[.slice none 0 0] 67)).alloc (netO a b))
  rw [← HW.out]
  obtain ⟨n0, n1⟩ := cells2 h1
  have c0 := cell_of1 h0
  cases m with
  | false =>
    go_wp2_with fail
    refine (HM.out _).mono ?_; rintro e w1 ⟨rfl, hb1⟩
    go_wp2_with fail
    go_ret
    exact ⟨rfl, bel hb0 hb1⟩
  | true =>
    go_wp2_with fail
    refine (HM.out _).mono ?_; rintro e w1 ⟨rfl, hb1⟩
    have c1 := bcell hb1 c0
    clear n0 n1 c0
    go_wp2_with fail
    refine (HS.out _ _).mono ?_; rintro e w2 ⟨rfl, hb2⟩
    have c2 := bcell hb2 c1
    clear c1
    go_wp2_with fail
    refine (HS.out _ _).mono ?_; rintro e w3 ⟨rfl, hb3⟩
    go_wp2_with fail
    go_ret
    exact ⟨rfl, bel (bel (bel hb0 hb1) hb2) hb3⟩
set_option maxRecDepth 100000 in
set_option maxHeartbeats 4000000 in
theorem givenE (x0 : Value) (bo : Option Addr) (bc : Nat) (x2 x3 x4 : Option Nat) (po : Option Addr) (pn pc : Nat) (hx : x0 = .slice po pn pc) (w : World) :
    Calls Tryz.prog 20 #[.agg #[x0, .slice bo 0 bc, .map x2, .map x3, .map x4]] w fun e w' => ∃ m, e = .returned (.map (some m)) ∧ w'.heap[m]? = some (.map #[] 0) ∧ Below w.heap.size w w' := by
  subst hx
  have hm : ∀ w : World, (Instr.makeMap TGm none).run Tryz.prog w = .ok (.map (some w.heap.size)) (w.alloc (.map #[] 0)) := fun w => by
    have u := Tryz.underlying78
    simp [Instr.makeMap, run_underlying u]
  obtain ⟨W, hW⟩ : ∃ W, W = (w.alloc (.cells #[.slice po pn pc, .slice bo 0 bc, .map x2, .map x3, .map x4] 30)).alloc (.map #[] 0) := ⟨_, rfl⟩
  have hb0 : Below w.heap.size w W := by rw [hW]; exact belAlloc (belNew w _) _
  have h0 : W.heap[w.heap.size]? = some (.cells #[.slice po pn pc, .slice bo 0 bc, .map x2, .map x3, .map x4] 30 (0, 0)) := by rw [hW]; exact (Below.heap_alloc _ _ _ (by simp)).trans (heap_alloc_new w _)
  have h1 : W.heap[w.heap.size + 1]? = some (.map #[] 0) := by
    rw [hW]
    have := heap_alloc_new (w.alloc (.cells #[.slice po pn pc, .slice bo 0 bc, .map x2, .map x3, .map x4] 30)) (.map #[] 0)
    simpa using this
  have HW := Lib.hid hW
  have H1 := Lib.hid (And.intro h1 hb0)
  clear hW h1 hb0
  go_enter Tryz.func20, Tryz.ntmps20
  go_upto_region 2 with fail
  change Code.wp _ _ _ _ ((w.alloc (.cells #[.slice po pn pc, .slice bo 0 bc, .map x2, .map x3, .map x4] 30)).alloc (.map #[] 0))
  rw [← HW.out]
  obtain ⟨-, y1, -⟩ := vcells5 h0
  go_wp2_with fail
  refine wp_loop_rounds 1 ?_
  rw [rounds_succ]
  go_wp2_with fail
  go_ret
  exact ⟨_, rfl, H1.out.1, H1.out.2⟩
set_option maxRecDepth 100000 in
set_option maxHeartbeats 8000000 in
theorem freeE (q : P3) (a : Addr) (pc : Nat) (bo : Option Addr) (bc : Nat) (x2 x3 x4 : Option Nat) (w : World) (h0 : 0 ≤ q.1) (h1 : q.1 < 4294967296) (hm : mayB q.1 q.2.1 = true) (ho : q.2.2 = true) (hz : hole q.2.1 = 64)
    (hc : ∀ j u, (encP q)[j]? = some u → w.cell? (a.add j) = some u) :
    Calls Tryz.prog 24 #[.agg #[.slice (some a) 1 pc, .slice bo 0 bc, .map x2, .map x3, .map x4]] w fun e w' => e = .returned (.int .i64 64) ∧ Below w.heap.size w w' := by
  obtain ⟨qa, qb, qo⟩ := q
  simp only [] at h0 h1 hm ho hz
  subst ho
  obtain ⟨W, hW⟩ : ∃ W, W = w.alloc (.cells #[.slice (some a) 1 pc, .slice bo 0 bc, .map x2, .map x3, .map x4] 30) := ⟨_, rfl⟩
  have hb0 : Below w.heap.size w W := by rw [hW]; exact belNew w _
  have hv : W.heap[w.heap.size]? = some (.cells #[.slice (some a) 1 pc, .slice bo 0 bc, .map x2, .map x3, .map x4] 30 (0, 0)) := by rw [hW]; exact heap_alloc_new w _
  have HG := Lib.hid (fun w => givenE (.slice (some a) 1 pc) bo bc x2 x3 x4 _ _ _ rfl w)
  have HK := Lib.hid (fun b w => keysOf_any b w)
  have HS := Lib.hid (fun Bm b clk w hm hb => sortedE Bm b clk w hm hb)
  have HN := Lib.hid (fun w => withinE qa qb h0 h1 w)
  have HZ : Hid (∀ w, Calls Tryz.prog 44 #[.agg #[.int .u32 qa, .int .i64 qb]] w fun e w' => e = .returned (.int .i64 64) ∧ Below w.heap.size w w') := Lib.hid (fun w => by
    have h := size_any2 qa qb h0 h1 w
    have e : sizeI qa qb = 64 := by unfold sizeI; rw [if_pos hm, hz]
    rw [e] at h
    exact h)
  have HC := Lib.hid hc
  have HW := Lib.hid hW
  clear hW hc h0 h1 hm hz
  go_enter Tryz.func24, Tryz.ntmps24
  go_upto_region 1 with fail
  change Code.wp _ _ _ _ (w.alloc (.cells #[.slice (some a) 1 pc, .slice bo 0 bc, .map x2, .map x3, .map x4] 30))
  rw [← HW.out]
  obtain ⟨y0, y1, y2, y3, y4⟩ := vcells5 hv
  go_wp2_with fail
  refine (HG.out _).mono ?_; rintro e w1 ⟨m, rfl, hm1, hb1⟩
  go_wp2_with fail
  refine (HK.out _ _).mono ?_; rintro e w2 ⟨rfl, hk2, hb2⟩
  have hm2 := (hb2.block _ (heap_lt hm1)).trans hm1
  go_wp2_with fail
  refine (HS.out _ _ _ _ hk2 hm2).mono ?_; rintro e w3 ⟨rfl, hb3⟩
  have hB3 := bel (bel hb1 hb2) hb3
  have hv3 := (hB3.block _ (heap_lt hv)).trans hv
  have hB : Below w.heap.size w w3 := bel hb0 hB3
  clear y0 y1 y2 y3 y4 hk2 hm2 hm1
  obtain ⟨y0, -⟩ := vcells5 hv3
  have q0 : w3.cell? a = some (.int .u32 qa) := bcell hB (HC.out 0 _ rfl)
  have q1 : w3.cell? { block := a.block, off := a.off + 1 } = some (.int .i64 qb) := bcell hB (HC.out 1 _ rfl)
  have q2 : w3.cell? { block := a.block, off := a.off + 2 } = some (.bool true) := bcell hB (HC.out 2 _ rfl)
  have HB := Lib.hid hB
  clear hB hb0 hb1 hb2 hb3 hB3
  go_wp2_with fail
  refine wp_loop_rounds 2 ?_
  rw [rounds_succ]
  obtain ⟨w4, hw4⟩ : ∃ w4, w4 = w3.alloc (polO (qa, qb, true)) := ⟨_, rfl⟩
  have hb4 := belNew w3 (polO (qa, qb, true))
  have hp4 := heap_alloc_new w3 (polO (qa, qb, true))
  go_upto_region 7 with fail
  rw [← hw4]
  rw [← hw4] at hb4 hp4
  obtain ⟨n0, n1, -⟩ := cells3 hp4
  have H4 := Lib.hid (bel HB.out hb4)
  clear hw4 q0 q1 q2 y0 hv3 hb4 hp4
  refine wp_region_held_drew (S := (fun W => Below w4.heap.size w4 W)) (by kernel_rfl) ?_ (fun r0 => ?_)
  · exact ⟨rfl, rfl, rfl, Nat.le_refl _, fun _ _ => rfl⟩
  refine tk 0 rfl ?_
  try simp only [Act.put, qA, qB, qC, qD, qE, qF]
  refine tk 1 rfl ?_
  try simp only [Act.put, qA, qB, qC, qD, qE, qF]
  refine tq (v := ?_) 2 rfl ?_ ?_
  rotate_left
  · intro wS hSw
    (try dsimp only at hSw)
    have n0 := bcell hSw n0
    have n1 := bcell hSw n1
    go_simp
    first | done | with_reducible rfl
  try simp only [Act.put, qA, qB, qC, qD, qE, qF]
  refine tk 4 rfl ?_
  try simp only [Act.put, qA, qB, qC, qD, qE, qF]
  refine tk 5 rfl ?_
  try simp only [Act.put, qA, qB, qC, qD, qE, qF]
  refine tq (v := ?_) 6 rfl ?_ ?_
  rotate_left
  · intro wS hSw
    (try dsimp only at hSw)
    have n0 := bcell hSw n0
    have n1 := bcell hSw n1
    go_simp
    first | done | with_reducible rfl
  try simp only [Act.put, qA, qB, qC, qD, qE, qF]
  refine wpAnyH_ready (rs := [3]) (by kernel_rfl) (by simp) ?_
  refine AllReadyH.cons rfl (fun K hK => ?_) AllReadyH.nil
  go_simp
  refine (HZ.out _).mono ?_; rintro x w5 ⟨rfl, hb5⟩
  refine hK.out _ _ ?_ (fun r1 => ?_)
  · exact bel r0 hb5
  try simp only [Act.put, qA, qB, qC, qD, qE, qF]
  refine wpAnyH_ready (rs := [7]) (by kernel_rfl) (by simp) ?_
  refine AllReadyH.cons rfl (fun K hK => ?_) AllReadyH.nil
  go_simp
  refine (HN.out _).mono ?_; rintro x w6 ⟨rfl, hb6⟩
  refine hK.out _ _ ?_ (fun r2 => ?_)
  · exact bel r1 hb6
  try simp only [Act.put, qA, qB, qC, qD, qE, qF]
  refine tk 8 rfl ?_
  try simp only [Act.put, qA, qB, qC, qD, qE, qF]
  refine tk 9 rfl ?_
  try simp only [Act.put, qA, qB, qC, qD, qE, qF]
  refine tk 10 rfl ?_
  try simp only [Act.put, qA, qB, qC, qD, qE, qF]
  refine wpAnyH_done (by kernel_rfl) ?_ _
  have HR := Lib.hid r2
  go_wp2_with fail
  rw [rounds_succ]
  go_wp2_with fail
  go_ret
  exact ⟨rfl, bel H4.out HR.out⟩
end Go.Proofs.YtiifbhiodegipaaGreatDoor
