/- Package view: the record of a block is taken. Made by g_vwb.py. -/
import Derived.Test.YtiifbhiodegipaaGreatDoorSq
import Derived.Test.YtiifbhiodegipaaGreatDoorVwB
import Derived.Test.YtiifbhiodegipaaGreatDoorNMd
import Derived.Test.YtiifbhiodegipaaGreatDoorJIw
import Derived.Test.YtiifbhiodegipaaGreatDoorJQ
import Derived.Great.BuildSlice
namespace Go.Proofs.YtiifbhiodegipaaGreatDoor
open Go.RowKit
def blOf (k : ByteArray) : Option Int := if NM.starts k NM.pBlk = true then NM.rblk (NM.rest k NM.pBlk).data.toList else none
theorem blOf_V (k : ByteArray) : (if NM.starts k NM.pBlk = true then NM.rblkV (NM.rblk (NM.rest k NM.pBlk).data.toList) else (.tuple #[.int .u32 0, .bool false] : Value)) = NM.rblkV (blOf k) := by
  unfold blOf
  split <;> rfl
def tkB (k v : ByteArray) (s : VwS) : Option VwS := match blOf k with
  | none => none
  | some a => if imOk v = true ∧ (imC v).addr = a then some { s with blks := s.blks ++ [imC v] } else none
theorem infoX : (Tryz.prog.info? 59).map (fun i => (i.zero, i.size, i.bytes)) = some (some (.agg (blkL zB NS NS).toArray), 68, 136) := by kernel_rfl
/-- A slice of one block, as one value. -/
theorem wp_bsX {o : Oper} {a : Act} {w : World} {K : Act → World → Prop} {Q : Exit → Act → World → Prop} (x : Operand) (ho : o.op = .buildSlice 25 1 #[(0, x)]) (y : BX) (hx : a.eval x = .agg (encX y).toArray)
    (h : K (a.put o.dst (.slice (some ⟨w.heap.size, 0, none⟩) 1 1)) (w.alloc (.cells (encX y).toArray 59))) : o.wp Tryz.prog a w K Q := by
  obtain ⟨i0, hi, hz0, hz1, hz2⟩ := info_parts infoX
  refine wp_buildSlice 25 59 1 _ ho _ i0 _ Tryz.underlying25 hi hz0 (by rw [hz1]; omega) (by rw [hz1]; omega) ?_ h
  have h1 := Great.fill_whole (s := 68) (by omega) [Value.agg (encX y).toArray] ((Array.range (1 * 68)).map ((Value.agg (blkL zB NS NS).toArray).cells[· % (Value.agg (blkL zB NS NS).toArray).cells.size]!)) (fun v hv => by
    rw [List.mem_singleton.1 hv]
    show (encX y).toArray.size = 68
    rw [List.size_toArray, encX_len]) (by simp)
  rw [hz1]
  simp only [List.map_toArray, List.map_cons, List.map_nil, hx]
  rw [List.flatMap_cons, List.flatMap_nil, List.append_nil] at h1
  exact h1
set_option maxRecDepth 100000 in
set_option maxHeartbeats 8000000 in
theorem takeBlock_any (k v : ByteArray) (r : Int) (B g c : Nat) (p : VwP) (s : VwS) (w : World) (h : VwIs w B g c p s) (hE : NM.Env w) (hk : k.size ≤ 900) (hv : v.size ≤ 100000) (hc : c ≤ 1000000) :
    Calls Tryz.prog 57 #[.pointer (some ⟨g, 0, none⟩), itA k v r] w (TkPost w B g c p (tkB k v s)) := by
  obtain ⟨W, hW⟩ : ∃ W, W = w.alloc (itO k v r) := ⟨_, rfl⟩
  have hb0 := belNew w (itO k v r)
  have hI := It3.new w k v r
  rw [← hW] at hb0 hI
  have HO := Lib.hid (NM.ofBlock_any k W (hE.below hb0) hk)
  rw [blOf_V] at HO
  have HR := Lib.hid (fun w => imRead_any v w hv)
  have HW := Lib.hid hW
  have HX := Lib.hid (And.intro h hc)
  clear hW h hE hc
  unfold tkB
  generalize blOf k = o1 at *
  cases o1 with
  | none =>
    simp only [NM.rblkV] at HO ⊢
    clear HR
    go_enter Tryz.func57, Tryz.ntmps57
    go_upto_region 1 with fail
    change Code.wp _ _ _ _ (w.alloc (itO k v r))
    rw [← HW.out]
    obtain ⟨c0, c1, c2, c3⟩ := id hI
    go_wp2_with fail
    refine HO.out.mono ?_; rintro e w1 ⟨rfl, hb1⟩
    go_wp2_with fail
    go_ret
    exact ⟨rfl, bel hb0 hb1⟩
  | some a =>
    simp only [NM.rblkV] at HO ⊢
    have hl : (imC v).sl.length = 64 := by
      unfold imC
      split
      · exact (imRd_wf (some (strI (rest v pB))) (okB_strI _)).1.2.1
      · exact zB_len
    cases hok : imOk v with
    | false =>
      rw [hok] at HR
      have e3 : (if false = true then (0 : Int) else 3) = 3 := rfl
      rw [e3] at HR
      rw [if_neg (by simp)]
      generalize imC v = q at *
      clear hok e3
      go_enter Tryz.func57, Tryz.ntmps57
      go_upto_region 1 with fail
      change Code.wp _ _ _ _ (w.alloc (itO k v r))
      rw [← HW.out]
      obtain ⟨c0, c1, c2, c3⟩ := id hI
      go_wp2_with fail
      refine HO.out.mono ?_; rintro e w1 ⟨rfl, hb1⟩
      obtain ⟨x0, x1, x2, x3⟩ := id (hI.keep hb1)
      clear c0 c1 c2 c3
      go_wp2_with fail
      refine (HR.out _).mono ?_; rintro e w2 ⟨fv, av, rfl, hret⟩
      obtain ⟨fo, fn, fc, rfl⟩ := own_form hret.free
      obtain ⟨ao, an, ac, rfl⟩ := own_form hret.attrs
      have HX2 : Hid (BlkAt (w2.alloc (blkO zB NS NS)) w2.heap.size zB NS NS) := Lib.hid (heap_new w2 _)
      have HRT := Lib.hid hret
      have HB1 := Lib.hid (bel hb0 hb1)
      clear hret hb1 x0 x1 x2 x3
      go_upto_region 5 with ((change wpList _ _ _ _ _ (w2.alloc (blkO zB NS NS))); refine wpStB (b0 := zB) (fv0 := NS) (av0 := NS) (b := q) rfl _ _ rfl rfl rfl HX2.out zB_len hl rfl rfl ?_; intro w3 hx3 hg3)
      have HX3 := Lib.hid hx3
      have HB5 := Lib.hid (bel (bel HB1.out HRT.out.below) ((belNew w2 (blkO zB NS NS)).grown hg3 (by simp) (fun k hk => by cases hk; exact Nat.le_refl _)))
      have HG3 := Lib.hid hg3
      clear hx3 hg3
      go_wp2_with fail
      go_ret
      exact ⟨rfl, HB5.out⟩
    | true =>
      rw [hok] at HR
      have e3 : (if true = true then (0 : Int) else 3) = 0 := rfl
      rw [e3] at HR
      generalize imC v = q at *
      clear hok e3
      by_cases hq : q.addr = a
      · rw [if_pos ⟨rfl, hq⟩]
        have d1 : (q.addr != a) = false := by simp [hq]
        have d2 : (q.addr == a) = true := by simp [hq]
        clear hq
        go_enter Tryz.func57, Tryz.ntmps57
        go_upto_region 1 with fail
        change Code.wp _ _ _ _ (w.alloc (itO k v r))
        rw [← HW.out]
        obtain ⟨c0, c1, c2, c3⟩ := id hI
        go_wp2_with fail
        refine HO.out.mono ?_; rintro e w1 ⟨rfl, hb1⟩
        obtain ⟨x0, x1, x2, x3⟩ := id (hI.keep hb1)
        clear c0 c1 c2 c3
        go_wp2_with fail
        refine (HR.out _).mono ?_; rintro e w2 ⟨fv, av, rfl, hret⟩
        obtain ⟨fo, fn, fc, rfl⟩ := own_form hret.free
        obtain ⟨ao, an, ac, rfl⟩ := own_form hret.attrs
        have HX2 : Hid (BlkAt (w2.alloc (blkO zB NS NS)) w2.heap.size zB NS NS) := Lib.hid (heap_new w2 _)
        have HRT := Lib.hid hret
        have HB1 := Lib.hid (bel hb0 hb1)
        clear hret hb1 x0 x1 x2 x3
        go_upto_region 5 with ((change wpList _ _ _ _ _ (w2.alloc (blkO zB NS NS))); refine wpStB (b0 := zB) (fv0 := NS) (av0 := NS) (b := q) rfl _ _ rfl rfl rfl HX2.out zB_len hl rfl rfl ?_; intro w3 hx3 hg3)
        have HX3 := Lib.hid hx3
        have HB5 := Lib.hid (bel (bel HB1.out HRT.out.below) ((belNew w2 (blkO zB NS NS)).grown hg3 (by simp) (fun k hk => by cases hk; exact Nat.le_refl _)))
        have HG3 := Lib.hid hg3
        clear hx3 hg3
        have y0 := HX3.out.addr
        go_wp2_with fail
        have hV4 := HX.out.1.below HB5.out
        obtain ⟨pv, bv, ma, mh, mn, X, HH⟩ := p
        obtain ⟨bo, cc, rfl⟩ : ∃ bo cc, bv = .slice bo X.length cc := hV4.blks.slice
        have HXO : Hid (XOk w3 (g + 2) (fun d => w2.heap.size < d ∨ d < w1.heap.size) (q, (fo, fn, fc), (ao, an, ac))) := Lib.hid (by
          have hb3 : Below w2.heap.size w2 w3 := (belNew w2 (blkO zB NS NS)).grown HG3.out (by simp) (fun k hk => by cases hk; exact Nat.le_refl _)
          have hB := HX.out.1.g1
          have hz1 := HB1.out.size
          have hz3 := hb3.size
          refine ⟨hl, HRT.out.free.sees.keep hb3, (RowA.sees HRT.out.attrs).below hb3, fun d hd => ?_, fun d hd => ?_⟩
          · have h1 := World.ownsRow.lt HRT.out.free d hd
            exact ⟨by omega, by omega, fun h => by omega⟩
          · have h1 := World.ownsRow.lt HRT.out.attrs d hd
            exact ⟨by omega, by omega, fun h => by omega⟩)
        have HEN : Hid (encX (q, (fo, fn, fc), (ao, an, ac)) = blkL q (.slice fo fn fc) (.slice ao an ac)) := Lib.hid (encX_eq hl)
        have hz3 : w.heap.size ≤ w1.heap.size ∧ w1.heap.size ≤ w2.heap.size ∧ w2.heap.size < w3.heap.size := ⟨HB1.out.size, HRT.out.below.size, heap_lt HX3.out⟩
        have HV4 := Lib.hid (And.intro hV4 (And.intro HB5.out (And.intro HX.out.2 (fun d hd => (HX.out.1.bd d hd).2))))
        clear hV4 HX HB5 y0 hb0 hI HW HO HR HB1 HRT HX2 HG3 d1 d2
        generalize hNT : X.length = NT at *
        have HNT := Lib.hid hNT
        clear hNT
        refine wp_region_held_drew (S := (fun W => BlkAt W w2.heap.size q (.slice fo fn fc) (.slice ao an ac))) (by kernel_rfl) ?_ (fun r0 => ?_)
        · exact HX3.out
        obtain ⟨wd, hwd⟩ : ∃ wd, wd = w3.drew := ⟨_, rfl⟩
        rw [← hwd] at r0 ⊢
        have hbd : Below w3.heap.size w3 wd := by rw [hwd]; exact vdrew _
        have HD := Lib.hid (And.intro (HV4.out.1.below hbd) (And.intro (bel HV4.out.2.1 hbd) (And.intro (HXO.out.keep hbd.size (fun d hd _ => hbd.block d hd)) hbd.size)))
        have HC := Lib.hid HV4.out.2.2
        have HZ := Lib.hid hz3
        clear hz3 hwd hbd HX3 HV4 HXO
        refine tk 0 rfl ?_
        try simp only [Act.put, qA, qB, qC, qD, qE, qF]
        refine tk 1 rfl ?_
        try simp only [Act.put, qA, qB, qC, qD, qE, qF]
        refine tk 2 rfl ?_
        try simp only [Act.put, qA, qB, qC, qD, qE, qF]
        refine tk 3 rfl ?_
        try simp only [Act.put, qA, qB, qC, qD, qE, qF]
        refine wpAnyH_take (i := 5) (v := _) rfl (by kernel_rfl) (by kernel_rfl) (by kernel_rfl) (fun _ _ _ h => h) (ldBIf (by rfl) _ rfl rfl (fun W hW => hW) hl) (by assumption) ?_
        try simp only [Act.put, qA, qB, qC, qD, qE, qF]
        refine wpAnyH_ready (rs := [4, 6]) (by kernel_rfl) (by simp) ?_
        refine AllReadyH.cons rfl (fun K hK => ?_) (AllReadyH.cons rfl (fun K hK => ?_) AllReadyH.nil)
        · obtain ⟨-, c0, -⟩ := vcells HD.out.1.blk
          go_simp
          refine hK.out _ _ ?_ (fun _ => ?_)
          · exact r0
          try simp only [Act.put, qA, qB, qC, qD, qE, qF]
          clear c0
          refine wpAnyH_ready (rs := [6]) (by kernel_rfl) (by simp) ?_
          refine AllReadyH.cons rfl (fun K hK => ?_) AllReadyH.nil
          refine wp_bsX (.tmp 36) rfl (q, (fo, fn, fc), (ao, an, ac)) (by rw [HEN.out]; rfl) ?_
          refine hK.out _ _ ?_ (fun r1 => ?_)
          · exact ((belNew wd _).block _ (heap_lt r0)).trans r0
          try simp only [Act.put, qA, qB, qC, qD, qE, qF]
          refine wpAnyH_ready (rs := [7]) (by kernel_rfl) (by simp) ?_
          refine AllReadyH.cons rfl (fun K hK => ?_) AllReadyH.nil
          rw [if_pos (by kernel_rfl)]
          refine wp_pushG (w0 := wd) (T := 25) (E := 59) (enc := encX) Tryz.underlying25 infoX (by show (blkL zB NS NS).toArray.size = 68; rw [List.size_toArray]; exact blkL_len zB zB_len NS NS) (by decide) (by decide) encX_len encX_one (.tmp 35) (.tmp 37) rfl B (.slice bo NT cc) X (q, (fo, fn, fc), (ao, an, ac)) wd.heap.size rfl rfl rfl HD.out.1.blks (by rw [HNT.out]; have := HD.out.1.lb; rw [HNT.out] at this; have := HC.out.1; omega) (by have := (HD.out.1.bd g (Or.inl rfl)); omega) (fun v2 wp hrow2 hb2 hg2 hat2 => ?_)
          have hgc := (hg2.block g (heap_lt HD.out.1.blk) (fun e => (HD.out.1.nd.bv g e.symm).1 rfl)).trans HD.out.1.blk
          have hrb := (hg2.block w2.heap.size (heap_lt r0) (fun e => by have h1 := HC.out.2 _ (Or.inr (Or.inr (Or.inr (Or.inr (Or.inr e.symm))))); have h2 := HZ.out; omega)).trans r0
          refine hK.out _ _ ?_ (fun r2 => ?_)
          · exact hrb
          try simp only [Act.put, qA, qB, qC, qD, qE, qF]
          refine tk 8 rfl ?_
          try simp only [Act.put, qA, qB, qC, qD, qE, qF]
          refine tk 9 rfl ?_
          try simp only [Act.put, qA, qB, qC, qD, qE, qF]
          refine wpAnyH_ready (rs := [10]) (by kernel_rfl) (by simp) ?_
          refine AllReadyH.cons rfl (fun K hK => ?_) AllReadyH.nil
          obtain ⟨-, c0, -⟩ := vcells hgc
          have z2 := vfroz hgc 1
          obtain ⟨po, pc, rfl⟩ := hrow2.slice
          go_simp
          have htw : Tch (fun d => d = g ∨ (Value.slice bo NT cc).ownBlock = some d) wd (wp.setCell ⟨g, 1, none⟩ (.slice po (X ++ [(q, (fo, fn, fc), (ao, an, ac))]).length pc)) := (Tch.of_grown (P := fun d => d = g ∨ (Value.slice bo NT cc).ownBlock = some d) hg2 (fun k hk => Or.inl (Or.inr hk))).trans (Tch.set (fun d => d = g) wp ⟨g, 1, none⟩ (.slice po (X ++ [(q, (fo, fn, fc), (ao, an, ac))]).length pc) (Or.inl rfl)) (fun i _ e => Or.inl e)
          have hO := VwIs.pushB HD.out.1 (w' := wp.setCell ⟨g, 1, none⟩ (.slice po (X ++ [(q, (fo, fn, fc), (ao, an, ac))]).length pc)) (v := .slice po (X ++ [(q, (fo, fn, fc), (ao, an, ac))]).length pc) (x := (q, (fo, fn, fc), (ao, an, ac))) (by simpa [vwL] using vset hgc 1 (.slice po (X ++ [(q, (fo, fn, fc), (ao, an, ac))]).length pc)) (hrow2.keep (fun d hd hl => Below.heap_setCell _ _ _ _ (fun e => hat2.elim (fun x => (HD.out.1.nd.bv d (x.symm.trans hd)).1 e) (fun x => by have h1 := HD.out.1.bd g (Or.inl rfl); have h2 := Option.some.inj (hd.symm.trans x); have h3 : d = g := e; omega))))
            (HD.out.2.2.1.keep2 htw.size (fun d hl hn => htw.block d hl (fun x => hn (Or.inr (by have h2 := HZ.out; have h1 := HC.out.2 d (x.elim (fun e => Or.inl e) (fun e => Or.inr (Or.inr (Or.inr (Or.inr (Or.inr e)))))); omega)))) (fun d hd _ => hd.elim (fun e => Or.inr (by have h1 := HC.out.2 d e; have h2 := HZ.out; omega)) (fun e => Or.inl (by have h1 := HD.out.2.2.2; have h2 := HZ.out; omega))))
            htw hat2
          have hrn := (Below.heap_setCell wp ⟨g, 1, none⟩ (.slice po (X ++ [(q, (fo, fn, fc), (ao, an, ac))]).length pc) w2.heap.size (fun e => by have h1 := HC.out.2 _ (Or.inl e); have h2 := HZ.out; omega)).trans hrb
          clear htw
          simp only [List.length_append, List.length_cons, List.length_nil, Nat.zero_add] at hO hrn
          generalize wp.setCell ⟨g, 1, none⟩ (.slice po (X.length + 1) pc) = w5 at *
          have HO5 := Lib.hid hO
          clear hO c0 z2 hgc hrb hb2 hg2 hat2 hrow2
          refine hK.out _ _ ?_ (fun r3 => ?_)
          · exact hrn
          try simp only [Act.put, qA, qB, qC, qD, qE, qF]
          refine wpAnyH_done (by kernel_rfl) ?_ _
          go_wp2_with fail
          go_ret
          exact ⟨rfl, HO5.out.of_below HD.out.2.1⟩
        · refine wp_bsX (.tmp 36) rfl (q, (fo, fn, fc), (ao, an, ac)) (by rw [HEN.out]; rfl) ?_
          refine hK.out _ _ ?_ (fun r1 => ?_)
          · exact ((belNew wd _).block _ (heap_lt r0)).trans r0
          try simp only [Act.put, qA, qB, qC, qD, qE, qF]
          refine wpAnyH_ready (rs := [4]) (by kernel_rfl) (by simp) ?_
          refine AllReadyH.cons rfl (fun K hK => ?_) AllReadyH.nil
          obtain ⟨-, c0, -⟩ := vcells (((belNew wd (.cells (encX (q, (fo, fn, fc), (ao, an, ac))).toArray 59)).block g (heap_lt HD.out.1.blk)).trans HD.out.1.blk)
          go_simp
          refine hK.out _ _ ?_ (fun _ => ?_)
          · exact r1
          try simp only [Act.put, qA, qB, qC, qD, qE, qF]
          clear c0
          refine wpAnyH_ready (rs := [7]) (by kernel_rfl) (by simp) ?_
          refine AllReadyH.cons rfl (fun K hK => ?_) AllReadyH.nil
          rw [if_pos (by kernel_rfl)]
          refine wp_pushG (w0 := wd) (T := 25) (E := 59) (enc := encX) Tryz.underlying25 infoX (by show (blkL zB NS NS).toArray.size = 68; rw [List.size_toArray]; exact blkL_len zB zB_len NS NS) (by decide) (by decide) encX_len encX_one (.tmp 35) (.tmp 37) rfl B (.slice bo NT cc) X (q, (fo, fn, fc), (ao, an, ac)) wd.heap.size rfl rfl rfl HD.out.1.blks (by rw [HNT.out]; have := HD.out.1.lb; rw [HNT.out] at this; have := HC.out.1; omega) (by have := (HD.out.1.bd g (Or.inl rfl)); omega) (fun v2 wp hrow2 hb2 hg2 hat2 => ?_)
          have hgc := (hg2.block g (heap_lt HD.out.1.blk) (fun e => (HD.out.1.nd.bv g e.symm).1 rfl)).trans HD.out.1.blk
          have hrb := (hg2.block w2.heap.size (heap_lt r0) (fun e => by have h1 := HC.out.2 _ (Or.inr (Or.inr (Or.inr (Or.inr (Or.inr e.symm))))); have h2 := HZ.out; omega)).trans r0
          refine hK.out _ _ ?_ (fun r2 => ?_)
          · exact hrb
          try simp only [Act.put, qA, qB, qC, qD, qE, qF]
          refine tk 8 rfl ?_
          try simp only [Act.put, qA, qB, qC, qD, qE, qF]
          refine tk 9 rfl ?_
          try simp only [Act.put, qA, qB, qC, qD, qE, qF]
          refine wpAnyH_ready (rs := [10]) (by kernel_rfl) (by simp) ?_
          refine AllReadyH.cons rfl (fun K hK => ?_) AllReadyH.nil
          obtain ⟨-, c0, -⟩ := vcells hgc
          have z2 := vfroz hgc 1
          obtain ⟨po, pc, rfl⟩ := hrow2.slice
          go_simp
          have htw : Tch (fun d => d = g ∨ (Value.slice bo NT cc).ownBlock = some d) wd (wp.setCell ⟨g, 1, none⟩ (.slice po (X ++ [(q, (fo, fn, fc), (ao, an, ac))]).length pc)) := (Tch.of_grown (P := fun d => d = g ∨ (Value.slice bo NT cc).ownBlock = some d) hg2 (fun k hk => Or.inl (Or.inr hk))).trans (Tch.set (fun d => d = g) wp ⟨g, 1, none⟩ (.slice po (X ++ [(q, (fo, fn, fc), (ao, an, ac))]).length pc) (Or.inl rfl)) (fun i _ e => Or.inl e)
          have hO := VwIs.pushB HD.out.1 (w' := wp.setCell ⟨g, 1, none⟩ (.slice po (X ++ [(q, (fo, fn, fc), (ao, an, ac))]).length pc)) (v := .slice po (X ++ [(q, (fo, fn, fc), (ao, an, ac))]).length pc) (x := (q, (fo, fn, fc), (ao, an, ac))) (by simpa [vwL] using vset hgc 1 (.slice po (X ++ [(q, (fo, fn, fc), (ao, an, ac))]).length pc)) (hrow2.keep (fun d hd hl => Below.heap_setCell _ _ _ _ (fun e => hat2.elim (fun x => (HD.out.1.nd.bv d (x.symm.trans hd)).1 e) (fun x => by have h1 := HD.out.1.bd g (Or.inl rfl); have h2 := Option.some.inj (hd.symm.trans x); have h3 : d = g := e; omega))))
            (HD.out.2.2.1.keep2 htw.size (fun d hl hn => htw.block d hl (fun x => hn (Or.inr (by have h2 := HZ.out; have h1 := HC.out.2 d (x.elim (fun e => Or.inl e) (fun e => Or.inr (Or.inr (Or.inr (Or.inr (Or.inr e)))))); omega)))) (fun d hd _ => hd.elim (fun e => Or.inr (by have h1 := HC.out.2 d e; have h2 := HZ.out; omega)) (fun e => Or.inl (by have h1 := HD.out.2.2.2; have h2 := HZ.out; omega))))
            htw hat2
          have hrn := (Below.heap_setCell wp ⟨g, 1, none⟩ (.slice po (X ++ [(q, (fo, fn, fc), (ao, an, ac))]).length pc) w2.heap.size (fun e => by have h1 := HC.out.2 _ (Or.inl e); have h2 := HZ.out; omega)).trans hrb
          clear htw
          simp only [List.length_append, List.length_cons, List.length_nil, Nat.zero_add] at hO hrn
          generalize wp.setCell ⟨g, 1, none⟩ (.slice po (X.length + 1) pc) = w5 at *
          have HO5 := Lib.hid hO
          clear hO c0 z2 hgc hrb hb2 hg2 hat2 hrow2
          refine hK.out _ _ ?_ (fun r3 => ?_)
          · exact hrn
          try simp only [Act.put, qA, qB, qC, qD, qE, qF]
          refine wpAnyH_done (by kernel_rfl) ?_ _
          go_wp2_with fail
          go_ret
          exact ⟨rfl, HO5.out.of_below HD.out.2.1⟩
      · rw [if_neg (fun h => hq h.2)]
        have d1 : (q.addr != a) = true := by simp [hq]
        have d2 : (q.addr == a) = false := by simp [hq]
        clear hq
        go_enter Tryz.func57, Tryz.ntmps57
        go_upto_region 1 with fail
        change Code.wp _ _ _ _ (w.alloc (itO k v r))
        rw [← HW.out]
        obtain ⟨c0, c1, c2, c3⟩ := id hI
        go_wp2_with fail
        refine HO.out.mono ?_; rintro e w1 ⟨rfl, hb1⟩
        obtain ⟨x0, x1, x2, x3⟩ := id (hI.keep hb1)
        clear c0 c1 c2 c3
        go_wp2_with fail
        refine (HR.out _).mono ?_; rintro e w2 ⟨fv, av, rfl, hret⟩
        obtain ⟨fo, fn, fc, rfl⟩ := own_form hret.free
        obtain ⟨ao, an, ac, rfl⟩ := own_form hret.attrs
        have HX2 : Hid (BlkAt (w2.alloc (blkO zB NS NS)) w2.heap.size zB NS NS) := Lib.hid (heap_new w2 _)
        have HRT := Lib.hid hret
        have HB1 := Lib.hid (bel hb0 hb1)
        clear hret hb1 x0 x1 x2 x3
        go_upto_region 5 with ((change wpList _ _ _ _ _ (w2.alloc (blkO zB NS NS))); refine wpStB (b0 := zB) (fv0 := NS) (av0 := NS) (b := q) rfl _ _ rfl rfl rfl HX2.out zB_len hl rfl rfl ?_; intro w3 hx3 hg3)
        have HX3 := Lib.hid hx3
        have HB5 := Lib.hid (bel (bel HB1.out HRT.out.below) ((belNew w2 (blkO zB NS NS)).grown hg3 (by simp) (fun k hk => by cases hk; exact Nat.le_refl _)))
        have HG3 := Lib.hid hg3
        clear hx3 hg3
        have y0 := HX3.out.addr
        go_wp2_with fail
        go_ret
        exact ⟨rfl, HB5.out⟩
end Go.Proofs.YtiifbhiodegipaaGreatDoor
