/- Joined: BdPa BdPb. -/
import Derived.Test.YtgodmnpcedfdcaaGreatJDm
namespace Go.Proofs.YtgodmnpcedfdcaaGreat
section
open Go.RowKit
set_option maxRecDepth 100000 in
set_option maxHeartbeats 16000000 in
theorem do7_bad (b : BlkS) (f1 a1 p1 q1 r1 : Option Addr) (f2 f3 a2 a3 p2 p3 q2 q3 r2 r3 : Nat) (n : Int) (a : PA) (l1 : Option Addr) (l2 l3 : Nat) (l : List Int) (s : ByteArray) (w : World) (hB : Both w b (.slice f1 f2 f3) (.slice a1 a2 a3) (.slice p1 p2 p3) (.slice q1 q2 q3) (.slice r1 r2 r3)) (_ : a.1.size ≤ maxLen) (_ : a.2.size ≤ maxLen) (hls : SeesU w (.slice l1 l2 l3) l) (hlx : ∀ x ∈ l, 0 ≤ x ∧ x < 4294967296) (hss : s.size ≤ maxLen) (ho : ownB s = false) :
    Calls Tryz.prog 6 #[.agg (blkL b (.slice f1 f2 f3) (.slice a1 a2 a3)).toArray, docV b.addr b.aff (.slice p1 p2 p3) (.slice q1 q2 q3) (.slice r1 r2 r3), stV 7 n a (.slice l1 l2 l3) s] w (DoP w b (.slice f1 f2 f3) (.slice a1 a2 a3) (.slice p1 p2 p3) (.slice q1 q2 q3) (.slice r1 r2 r3)) := by
  have hl := hB.wf.2.1
  have HBo := Lib.hid hB
  obtain ⟨m, hm1, hm2, hm3, hm4, hm5⟩ := cut80 hls
  have HMM := Lib.hid (And.intro hm1 hm2)
  have HLT := Lib.hid (And.intro hm3 (And.intro hm4 hm5))
  have HLX : Hid (∀ x ∈ l.take m, 0 ≤ x ∧ x < 4294967296) := Lib.hid (fun x hx => hlx x (List.mem_of_mem_take hx))
  obtain ⟨C, hC⟩ : ∃ C, C = zB := ⟨_, rfl⟩
  have HCL : Hid (C.sl.length = 64) := Lib.hid (by rw [hC]; exact zB_len)
  have HCZ := Lib.hid hC
  have HC : Hid (∀ Y, Below w.heap.size w Y → Calls Tryz.prog 26 #[.agg (blkL b (.slice f1 f2 f3) (.slice a1 a2 a3)).toArray, .string s] Y fun e Z => ∃ fo fn fc ao an ac, e = .returned (.tuple #[.agg (blkL C (.slice fo fn fc) (.slice ao an ac)).toArray, .int .i64 1]) ∧ Owns Z Y.heap.size (.slice fo fn fc) C.free ∧ RowA EAt Z Y.heap.size (.slice ao an ac) C.attrs ∧ Below Y.heap.size Y Z) := Lib.hid (by
    subst hC
    intro Y hY
    exact (own_bad b _ _ s Y (hB.free.keep hY) (hB.attrs.below hY) hB.wf hss (Or.inr ho)).mono fun e Z h => ⟨none, 0, 0, none, 0, 0, h.1, World.ownsRow_nil _ _ _ _, World.ownsRow_nil _ _ _ _, h.2⟩)
  have HOW := fun w => refOwner_any s hss w
  rw [ho] at HOW
  have HOW := Lib.hid HOW
  have HS := Lib.hid (Lw0.new w b (.slice f1 f2 f3) (.slice a1 a2 a3) (.slice p1 p2 p3) (.slice q1 q2 q3) (.slice r1 r2 r3) (stO 7 n a (.slice l1 l2 l3) s))
  obtain ⟨X, hX⟩ : ∃ X, X = (((((w.alloc (blkO b (.slice f1 f2 f3) (.slice a1 a2 a3))).alloc (docO b.addr b.aff (.slice p1 p2 p3) (.slice q1 q2 q3) (.slice r1 r2 r3))).alloc (stO 7 n a (.slice l1 l2 l3) s)).alloc (blkO zB NS NS)).alloc (docO 0 ⟨#[]⟩ NS NS NS)) := ⟨_, rfl⟩
  rw [← hX] at HS
  have HW := Lib.hid hX
  clear hm1 hm2 hm3 hm4 hm5 hls hlx hX hB
  clear hss ho hC
  go_enter Tryz.func6, Tryz.ntmps6
  go_upto_region 1 with fail
  change Code.wp _ _ _ _ (((((w.alloc (blkO b (.slice f1 f2 f3) (.slice a1 a2 a3))).alloc (docO b.addr b.aff (.slice p1 p2 p3) (.slice q1 q2 q3) (.slice r1 r2 r3))).alloc (stO 7 n a (.slice l1 l2 l3) s)).alloc (blkO zB NS NS)).alloc (docO 0 ⟨#[]⟩ NS NS NS))
  rw [← HW.out]
  clear HW
  obtain ⟨cc0, cc1, cc2, cc3, cc4, cc5⟩ := stcells HS.out.inp.attr
  go_upto_if 37 with fail
  go_cut [9] (fun s9 wx => s9 = .slice l1 m l3 ∧ wx = X)
  case first =>
    by_cases h80 : 80 < l2
    · obtain ⟨rfl, hcap, la, rfl⟩ := HMM.out.1 h80
      have hd : decide (80 < (l2 : Int)) = true := decide_eq_true (by omega)
      have hd' : decide (80 < l2) = true := decide_eq_true h80
      go_wp2_with fail
      go_meet
      exact ⟨rfl, rfl⟩
    · obtain rfl := HMM.out.2 h80
      have hd : decide (80 < (m : Int)) = false := decide_eq_false (by omega)
      have hd' : decide (80 < m) = false := decide_eq_false h80
      go_wp2_with fail
      go_meet
      exact ⟨rfl, rfl⟩
  case rest =>
    obtain ⟨rfl, hwc⟩ := hcut
    subst wc
    go_upto_region 31 with fail
    go_wp2_with (refine wpLdB rfl _ rfl rfl HS.out.inp.blk hl ?_)
    refine (HC.out _ HS.out.inp.below).mono ?_; rintro e w4 ⟨fo, fn, fc, ao, an, ac, rfl, hfr, hat, hb4⟩
    have HS4 := Lib.hid (HS.out.later hb4)
    have HR := Lib.hid (And.intro (own_le hfr HS.out.inp.size) (own_le hat HS.out.inp.size))
    have HB4 := Lib.hid (Nat.le_trans HS.out.inp.size hb4.size)
    have HX2 : Hid (BlkAt (w4.alloc (blkO zB NS NS)) w4.heap.size zB NS NS) := Lib.hid (heap_new w4 _)
    clear hfr hat hb4 HC HS cc0 cc1 cc2 cc3 cc4 cc5
    go_upto_region 32 with ((change wpList _ _ _ _ _ (w4.alloc (blkO zB NS NS))); refine wpStB (b := C) rfl _ _ rfl rfl rfl HX2.out zB_len HCL.out rfl rfl ?_; intro w5 hx5 hg5)
    obtain ⟨hv5, hb5⟩ := varO_new HR.out.1 HR.out.2 hx5 hg5
    have HX : Hid (LwS w b (.slice f1 f2 f3) (.slice a1 a2 a3) (.slice p1 p2 p3) (.slice q1 q2 q3) (.slice r1 r2 r3) (stO 7 n a (.slice l1 l2 l3) s) w4.heap.size C (.slice fo fn fc) (.slice ao an ac) w5) := Lib.hid ((HS4.out.later hb5).toS hv5 HB4.out)
    clear HS4 HR HB4 HX2 hx5 hg5 hv5 hb5
    obtain ⟨g, hg⟩ : ∃ g, g = w4.heap.size := ⟨_, rfl⟩
    rw [← hg] at HX ⊢
    clear hg
    obtain ⟨X, rfl⟩ : ∃ X, X = w5 := ⟨_, rfl⟩
    obtain ⟨cc0, cc1, cc2, cc3, cc4, cc5⟩ := stcells HX.out.inp.attr
    go_wp2_with fail
    refine (HOW.out _).mono ?_; rintro e w6 ⟨rfl, hb6⟩
    have HX := Lib.hid (HX.out.later hb6)
    clear hb6
    obtain ⟨X, rfl⟩ : ∃ X, X = w6 := ⟨_, rfl⟩
    obtain rfl : C = zB := HCZ.out
    have HZR : Hid (∀ Y, LwS w b (.slice f1 f2 f3) (.slice a1 a2 a3) (.slice p1 p2 p3) (.slice q1 q2 q3) (.slice r1 r2 r3) (stO 7 n a (.slice l1 l2 l3) s) g zB (.slice fo fn fc) (.slice ao an ac) Y → Calls Tryz.prog 17 #[.agg (blkL zB (.slice fo fn fc) (.slice ao an ac)).toArray] Y fun e w' => e = .returned (.bool true) ∧ Below Y.heap.size Y w') := Lib.hid (fun Y hY => by
      have := zero15_any zB _ _ Y hY.c.free.sees (RowA.sees hY.c.attrs) zB_len (by decide) (by decide)
      rw [sameZ] at this
      exact this)
    go_upto_region 33 with fail
    clear cc0 cc1 cc2 cc3 cc4 cc5
    refine wp_region_held_drew (S := (fun Y => LwS w b (.slice f1 f2 f3) (.slice a1 a2 a3) (.slice p1 p2 p3) (.slice q1 q2 q3) (.slice r1 r2 r3) (stO 7 n a (.slice l1 l2 l3) s) g zB (.slice fo fn fc) (.slice ao an ac) Y)) (by kernel_rfl) ?_ (fun rN => ?_)
    · exact HX.out.later ⟨rfl, rfl, rfl, Nat.le_refl _, fun _ _ => rfl⟩
    obtain ⟨wn, hwn⟩ : ∃ wn, wn = X.drew := ⟨_, rfl⟩
    rw [← hwn] at rN ⊢
    clear hwn
    have rN : LwS w b (.slice f1 f2 f3) (.slice a1 a2 a3) (.slice p1 p2 p3) (.slice q1 q2 q3) (.slice r1 r2 r3) (stO 7 n a (.slice l1 l2 l3) s) g zB (.slice fo fn fc) (.slice ao an ac) wn := rN
    refine wpAnyH_take (i := 0) (v := _) rfl (by kernel_rfl) (by kernel_rfl) (by kernel_rfl) (fun _ _ _ h => h) (ldBIf (by rfl) _ rfl rfl (fun W hW => hW.inp.blk) hl) (by assumption) ?_
    try simp only [Act.put, List.getElem_toArray, List.getElem_cons_zero, List.setIfInBounds_toArray, List.set_cons_zero, List.set_cons_succ]
    refine wpAnyH_take (i := 1) (v := _) rfl (by kernel_rfl) (by kernel_rfl) (by kernel_rfl) (fun _ _ _ h => h) (ldDIf (by rfl) _ rfl rfl (fun W hW => hW.inp.doc) ) (by assumption) ?_
    try simp only [Act.put, List.getElem_toArray, List.getElem_cons_succ, List.getElem_cons_zero, List.setIfInBounds_toArray, List.set_cons_zero, List.set_cons_succ]
    refine wpAnyH_take (i := 2) (v := ?_) rfl (by kernel_rfl) (by kernel_rfl) (by kernel_rfl) (fun _ _ _ h => h) (Or.inl ⟨by rfl, ?_⟩) (by assumption) ?_
    rotate_left
    · intro wS hSw
      (try dsimp only at hSw)
      go_simp
      first | done | with_reducible rfl
    try simp only [Act.put, List.getElem_toArray, List.getElem_cons_succ, List.getElem_cons_zero, List.setIfInBounds_toArray, List.set_cons_zero, List.set_cons_succ]
    refine wpAnyH_take (i := 3) (v := ?_) rfl (by kernel_rfl) (by kernel_rfl) (by kernel_rfl) (fun _ _ _ h => h) (Or.inl ⟨by rfl, ?_⟩) (by assumption) ?_
    rotate_left
    · intro wS hSw
      (try dsimp only at hSw)
      go_simp
      first | done | with_reducible rfl
    try simp only [Act.put, List.getElem_toArray, List.getElem_cons_succ, List.getElem_cons_zero, List.setIfInBounds_toArray, List.set_cons_zero, List.set_cons_succ]
    refine wpAnyH_take (i := 4) (v := ?_) rfl (by kernel_rfl) (by kernel_rfl) (by kernel_rfl) (fun _ _ _ h => h) (Or.inl ⟨by rfl, ?_⟩) (by assumption) ?_
    rotate_left
    · intro wS hSw
      (try dsimp only at hSw)
      go_simp
      first | done | with_reducible rfl
    try simp only [Act.put, List.getElem_toArray, List.getElem_cons_succ, List.getElem_cons_zero, List.setIfInBounds_toArray, List.set_cons_zero, List.set_cons_succ]
    refine wpAnyH_take (i := 5) (v := _) rfl (by kernel_rfl) (by kernel_rfl) (by kernel_rfl) (fun _ _ _ h => h) (ldBIf (by rfl) _ rfl rfl (fun W hW => hW.c.blk) zB_len) (by assumption) ?_
    try simp only [Act.put, List.getElem_toArray, List.getElem_cons_succ, List.getElem_cons_zero, List.setIfInBounds_toArray, List.set_cons_zero, List.set_cons_succ]
    refine wpAnyH_ready (rs := [6]) (by kernel_rfl) (by simp) ?_
    refine AllReadyH.cons rfl (fun K hK => ?_) AllReadyH.nil
    go_simp
    refine (HZR.out _ rN).mono ?_; rintro z wm ⟨rfl, hbm⟩
    have rM : LwS w b (.slice f1 f2 f3) (.slice a1 a2 a3) (.slice p1 p2 p3) (.slice q1 q2 q3) (.slice r1 r2 r3) (stO 7 n a (.slice l1 l2 l3) s) g zB (.slice fo fn fc) (.slice ao an ac) wm := rN.later hbm
    clear hbm
    refine hK.out _ _ ?_ (fun _ => ?_)
    · exact rM
    try simp only [Act.put, List.getElem_toArray, List.getElem_cons_succ, List.getElem_cons_zero, List.setIfInBounds_toArray, List.set_cons_zero, List.set_cons_succ]
    have rN := rM
    refine wpAnyH_take (i := 7) (v := ?_) rfl (by kernel_rfl) (by kernel_rfl) (by kernel_rfl) (fun _ _ _ h => h) (Or.inl ⟨by rfl, ?_⟩) (by assumption) ?_
    rotate_left
    · intro wS hSw
      (try dsimp only at hSw)
      go_simp
      first | done | with_reducible rfl
    try simp only [Act.put, List.getElem_toArray, List.getElem_cons_succ, List.getElem_cons_zero, List.setIfInBounds_toArray, List.set_cons_zero, List.set_cons_succ]
    refine wpAnyH_ready (rs := [8]) (by kernel_rfl) (by simp) ?_
    refine AllReadyH.cons rfl (fun K hK => ?_) AllReadyH.nil
    rw [if_pos (by kernel_rfl)]
    obtain ⟨b0, f0, a0, hz3, hz3l⟩ := rN.z3
    refine wpStBK (b := b) _ _ rfl rfl rfl hz3 hz3l hl rfl rfl ?_; intro wm hxm hgm
    have rM : LwS w b (.slice f1 f2 f3) (.slice a1 a2 a3) (.slice p1 p2 p3) (.slice q1 q2 q3) (.slice r1 r2 r3) (stO 7 n a (.slice l1 l2 l3) s) g zB (.slice fo fn fc) (.slice ao an ac) wm := rN.st3 hgm hxm hl
    have H3 := Lib.hid hxm
    clear hxm hgm hz3 hz3l
    refine hK.out _ _ ?_ (fun _ => ?_)
    · exact rM
    try simp only [Act.put, List.getElem_toArray, List.getElem_cons_succ, List.getElem_cons_zero]
    have rN := rM
    refine wpAnyH_ready (rs := [9]) (by kernel_rfl) (by simp) ?_
    refine AllReadyH.cons rfl (fun K hK => ?_) AllReadyH.nil
    rw [if_pos (by kernel_rfl)]
    obtain ⟨y0, s0, u01, u02, u03, hz4⟩ := rN.z4
    refine wpStDK (y := b.addr) (s := b.aff) _ _ rfl rfl rfl hz4 rfl rfl rfl ?_; intro wq hxm hgm
    have rM : LwS w b (.slice f1 f2 f3) (.slice a1 a2 a3) (.slice p1 p2 p3) (.slice q1 q2 q3) (.slice r1 r2 r3) (stO 7 n a (.slice l1 l2 l3) s) g zB (.slice fo fn fc) (.slice ao an ac) wq := rN.st4 hgm hxm
    have H3' := Lib.hid (blk_grownO H3.out hgm (fun e => by have := Option.some.inj e; omega))
    have H4 := Lib.hid hxm
    clear hxm hgm hz4
    refine hK.out _ _ ?_ (fun _ => ?_)
    · exact rM
    try simp only [Act.put, List.getElem_toArray, List.getElem_cons_succ, List.getElem_cons_zero]
    have rN := rM
    refine wpAnyH_take (i := 10) (v := ?_) rfl (by kernel_rfl) (by kernel_rfl) (by kernel_rfl) (fun _ _ _ h => h) (Or.inl ⟨by rfl, ?_⟩) (by assumption) ?_
    rotate_left
    · intro wS hSw
      (try dsimp only at hSw)
      go_simp
      first | done | with_reducible rfl
    try simp only [Act.put, List.getElem_toArray, List.getElem_cons_succ, List.getElem_cons_zero, List.setIfInBounds_toArray, List.set_cons_zero, List.set_cons_succ]
    refine wpAnyH_done (by kernel_rfl) ?_ _
    go_wp2_with fail
    exact bodyPost_ret (resC rfl rfl rfl (loadVarB H3'.out hl) (loadVarD H4.out)) rfl ⟨b, _, _, _, _, _, rfl, HBo.out.below rN.inp.below, rN.inp.below, fun g _ h => h⟩
end
section
open Go.RowKit
/-- The document's block copied, in a variable of its own. -/
structure LwE (B gd : Nat) (y : Int) (t : ByteArray) (c : BlkS) (u1 u2 u3 : Value) (Y : World) : Prop where
  doc : DocAt Y gd y t u1 u2 u3
  slots : RowI1 Y B u1 c.sl
  free : RowI1 Y B u2 c.free
  attrs : RowG ERt 2 encA Y B u3 c.attrs
  lo : B ≤ gd
theorem LwE.later {B gd : Nat} {y : Int} {t : ByteArray} {c : BlkS} {u1 u2 u3 : Value} {X Y : World} (h : LwE B gd y t c u1 u2 u3 X) (hb : Below X.heap.size X Y) : LwE B gd y t c u1 u2 u3 Y := ⟨h.doc.below hb, own_keep h.slots hb, own_keep h.free hb, own_keep h.attrs hb, h.lo⟩
theorem LwE.grown {B gd r : Nat} {y : Int} {t : ByteArray} {c : BlkS} {u1 u2 u3 : Value} {X Y : World} (h : LwE B gd y t c u1 u2 u3 X) (hg : X.grownBy Y (some r)) (hr : r < B) : LwE B gd y t c u1 u2 u3 Y :=
  ⟨doc_grownO h.doc hg (fun e => by have := Option.some.inj e; have := h.lo; omega), own_grown h.slots hg hr, own_grown h.free hg hr, own_grown h.attrs hg hr, h.lo⟩
theorem own7 {w : World} {b : BlkS} {fv av v1 v2 v3 : Value} {o : Obj} {g gd : Nat} {c : BlkS} {gv bv : Value} {X : World} (h : LwS w b fv av v1 v2 v3 o g c gv bv X) {y : Int} {t : ByteArray} {u1 u2 u3 : Value} (hd : DocAt X gd y t u1 u2 u3) (hgd : w.heap.size + 5 ≤ gd) (v : Value) : LwS w b fv av v1 v2 v3 o g c gv bv (X.setCell ⟨gd, 1, none⟩ v) := by
  obtain ⟨b0, f0, a0, h1, h2⟩ := h.z3
  obtain ⟨y', s', w1, w2, w3, h3⟩ := h.z4
  have hng : g ≠ gd := fun e => by
    subst e
    have e1 : X.heap[g]? = some (.cells (blkL c gv bv).toArray 28 (0, 0)) := h.c.blk
    have e2 : X.heap[g]? = some (docO y t u1 u2 u3) := hd
    rw [e1] at e2
    injection e2 with e2
    injection e2 with _ e3
    exact absurd e3 (by decide)
  refine ⟨⟨blk_setO h.inp.blk (by show w.heap.size ≠ gd; omega) v, h.inp.doc.setO (by show w.heap.size + 1 ≠ gd; omega) v, ?_, h.inp.below.setCell (by show w.heap.size ≤ gd; omega) v, ?_⟩, ⟨blk_setO h.c.blk hng v, ?_, ?_⟩, h.lo, ⟨b0, f0, a0, blk_setO h1 (by show w.heap.size + 3 ≠ gd; omega) v, h2⟩, ⟨y', s', w1, w2, w3, h3.setO (by show w.heap.size + 4 ≠ gd; omega) v⟩⟩
  · rw [Below.heap_setCell _ _ _ _ (by show w.heap.size + 2 ≠ gd; omega)]
    exact h.inp.attr
  · rw [World.size_setCell]
    exact h.inp.size
  · exact ownsRow_setCell_other h.c.free (own_neD h.c.free hd (by decide)) v
  · exact ownsRow_setCell_other h.c.attrs (own_neD h.c.attrs hd (by decide)) v
set_option maxRecDepth 100000 in
set_option maxHeartbeats 16000000 in
theorem do7_ok (b : BlkS) (f1 a1 p1 q1 r1 : Option Addr) (f2 f3 a2 a3 p2 p3 q2 q3 r2 r3 : Nat) (n : Int) (a : PA) (l1 : Option Addr) (l2 l3 : Nat) (l : List Int) (s : ByteArray) (w : World) (hB : Both w b (.slice f1 f2 f3) (.slice a1 a2 a3) (.slice p1 p2 p3) (.slice q1 q2 q3) (.slice r1 r2 r3)) (_ : a.1.size ≤ maxLen) (_ : a.2.size ≤ maxLen) (hls : SeesU w (.slice l1 l2 l3) l) (hlx : ∀ x ∈ l, 0 ≤ x ∧ x < 4294967296) (hss : s.size ≤ maxLen) (ho : ownB s = true) :
    Calls Tryz.prog 6 #[.agg (blkL b (.slice f1 f2 f3) (.slice a1 a2 a3)).toArray, docV b.addr b.aff (.slice p1 p2 p3) (.slice q1 q2 q3) (.slice r1 r2 r3), stV 7 n a (.slice l1 l2 l3) s] w (DoP w b (.slice f1 f2 f3) (.slice a1 a2 a3) (.slice p1 p2 p3) (.slice q1 q2 q3) (.slice r1 r2 r3)) := by
  have hl := hB.wf.2.1
  have HBo := Lib.hid hB
  obtain ⟨m, hm1, hm2, hm3, hm4, hm5⟩ := cut80 hls
  have HMM := Lib.hid (And.intro hm1 hm2)
  have HLT := Lib.hid (And.intro hm3 (And.intro hm4 hm5))
  have HLX : Hid (∀ x ∈ l.take m, 0 ≤ x ∧ x < 4294967296) := Lib.hid (fun x hx => hlx x (List.mem_of_mem_take hx))
  obtain ⟨C, hC⟩ : ∃ C, C = ownS b s := ⟨_, rfl⟩
  obtain ⟨hok1, hok2⟩ := own_ok hB.wf hB.right hss ho
  rw [← hC] at hok1 hok2
  have HCL : Hid (C.sl.length = 64) := Lib.hid hok2.2.1
  have HCB := Lib.hid (And.intro hok2 hok1)
  have HCA : Hid (C.addr = b.addr ∧ C.aff = s) := Lib.hid (by rw [hC]; exact ⟨rfl, rfl⟩)
  have HCO : Hid (∀ Y, Below w.heap.size w Y → Calls Tryz.prog 28 #[docV b.addr b.aff (.slice p1 p2 p3) (.slice q1 q2 q3) (.slice r1 r2 r3)] Y fun e w' => ∃ u1 u2 u3, e = .returned (docV b.addr b.aff u1 u2 u3) ∧ RowI1 w' Y.heap.size u1 C.sl ∧ RowI1 w' Y.heap.size u2 C.free ∧ RowG ERt 2 encA w' Y.heap.size u3 C.attrs ∧ Below Y.heap.size Y w') := Lib.hid (fun Y hY => by
    refine (copyE_any b.addr b.aff _ _ _ b.sl b.free b.attrs Y (hB.doc.below hY) (by rw [hB.wf.2.1]; decide) (Nat.le_trans (right_free hB.right).2.2 (by decide)) (Nat.le_trans (right_bd hB.wf hB.right).2.2.1 (by decide))).mono ?_
    rintro e Z ⟨u1, u2, u3, rfl, k1, k2, k3, k4, -⟩
    rw [hC]
    exact ⟨u1, u2, u3, rfl, k1, k2, k3, k4⟩)
  have HC : Hid (∀ Y, Below w.heap.size w Y → Calls Tryz.prog 26 #[.agg (blkL b (.slice f1 f2 f3) (.slice a1 a2 a3)).toArray, .string s] Y fun e Z => ∃ fo fn fc ao an ac, e = .returned (.tuple #[.agg (blkL C (.slice fo fn fc) (.slice ao an ac)).toArray, .int .i64 0]) ∧ Owns Z Y.heap.size (.slice fo fn fc) C.free ∧ RowA EAt Z Y.heap.size (.slice ao an ac) C.attrs ∧ Below Y.heap.size Y Z) := Lib.hid (by
    subst hC
    intro Y hY
    refine (own15_any b _ _ s Y (hB.free.keep hY) (hB.attrs.below hY) hB.wf (Nat.le_trans (right_free hB.right).2.2 (by decide)) hss hB.right ho).mono ?_
    rintro e Z ⟨fv, av, rfl, hr⟩
    obtain ⟨fo, fn, fc, rfl⟩ := own_form hr.free
    obtain ⟨ao, an, ac, rfl⟩ := own_form hr.attrs
    exact ⟨fo, fn, fc, ao, an, ac, rfl, hr.free, hr.attrs, hr.below⟩)
  have HOW := fun w => refOwner_any s hss w
  rw [ho] at HOW
  have HOW := Lib.hid HOW
  have HS := Lib.hid (Lw0.new w b (.slice f1 f2 f3) (.slice a1 a2 a3) (.slice p1 p2 p3) (.slice q1 q2 q3) (.slice r1 r2 r3) (stO 7 n a (.slice l1 l2 l3) s))
  obtain ⟨X, hX⟩ : ∃ X, X = (((((w.alloc (blkO b (.slice f1 f2 f3) (.slice a1 a2 a3))).alloc (docO b.addr b.aff (.slice p1 p2 p3) (.slice q1 q2 q3) (.slice r1 r2 r3))).alloc (stO 7 n a (.slice l1 l2 l3) s)).alloc (blkO zB NS NS)).alloc (docO 0 ⟨#[]⟩ NS NS NS)) := ⟨_, rfl⟩
  rw [← hX] at HS
  have HW := Lib.hid hX
  clear hm1 hm2 hm3 hm4 hm5 hls hlx hX hB
  clear hss ho hC hok1 hok2
  go_enter Tryz.func6, Tryz.ntmps6
  go_upto_region 1 with fail
  change Code.wp _ _ _ _ (((((w.alloc (blkO b (.slice f1 f2 f3) (.slice a1 a2 a3))).alloc (docO b.addr b.aff (.slice p1 p2 p3) (.slice q1 q2 q3) (.slice r1 r2 r3))).alloc (stO 7 n a (.slice l1 l2 l3) s)).alloc (blkO zB NS NS)).alloc (docO 0 ⟨#[]⟩ NS NS NS))
  rw [← HW.out]
  clear HW
  obtain ⟨cc0, cc1, cc2, cc3, cc4, cc5⟩ := stcells HS.out.inp.attr
  go_upto_if 37 with fail
  go_cut [9] (fun s9 wx => s9 = .slice l1 m l3 ∧ wx = X)
  case first =>
    by_cases h80 : 80 < l2
    · obtain ⟨rfl, hcap, la, rfl⟩ := HMM.out.1 h80
      have hd : decide (80 < (l2 : Int)) = true := decide_eq_true (by omega)
      have hd' : decide (80 < l2) = true := decide_eq_true h80
      go_wp2_with fail
      go_meet
      exact ⟨rfl, rfl⟩
    · obtain rfl := HMM.out.2 h80
      have hd : decide (80 < (m : Int)) = false := decide_eq_false (by omega)
      have hd' : decide (80 < m) = false := decide_eq_false h80
      go_wp2_with fail
      go_meet
      exact ⟨rfl, rfl⟩
  case rest =>
    obtain ⟨rfl, hwc⟩ := hcut
    subst wc
    go_upto_region 31 with fail
    go_wp2_with (refine wpLdB rfl _ rfl rfl HS.out.inp.blk hl ?_)
    refine (HC.out _ HS.out.inp.below).mono ?_; rintro e w4 ⟨fo, fn, fc, ao, an, ac, rfl, hfr, hat, hb4⟩
    have HS4 := Lib.hid (HS.out.later hb4)
    have HR := Lib.hid (And.intro (own_le hfr HS.out.inp.size) (own_le hat HS.out.inp.size))
    have HB4 := Lib.hid (Nat.le_trans HS.out.inp.size hb4.size)
    have HX2 : Hid (BlkAt (w4.alloc (blkO zB NS NS)) w4.heap.size zB NS NS) := Lib.hid (heap_new w4 _)
    clear hfr hat hb4 HC HS cc0 cc1 cc2 cc3 cc4 cc5
    go_upto_region 32 with ((change wpList _ _ _ _ _ (w4.alloc (blkO zB NS NS))); refine wpStB (b := C) rfl _ _ rfl rfl rfl HX2.out zB_len HCL.out rfl rfl ?_; intro w5 hx5 hg5)
    obtain ⟨hv5, hb5⟩ := varO_new HR.out.1 HR.out.2 hx5 hg5
    have HX : Hid (LwS w b (.slice f1 f2 f3) (.slice a1 a2 a3) (.slice p1 p2 p3) (.slice q1 q2 q3) (.slice r1 r2 r3) (stO 7 n a (.slice l1 l2 l3) s) w4.heap.size C (.slice fo fn fc) (.slice ao an ac) w5) := Lib.hid ((HS4.out.later hb5).toS hv5 HB4.out)
    clear HS4 HR HB4 HX2 hx5 hg5 hv5 hb5
    obtain ⟨g, hg⟩ : ∃ g, g = w4.heap.size := ⟨_, rfl⟩
    rw [← hg] at HX ⊢
    clear hg
    obtain ⟨X, rfl⟩ : ∃ X, X = w5 := ⟨_, rfl⟩
    obtain ⟨cc0, cc1, cc2, cc3, cc4, cc5⟩ := stcells HX.out.inp.attr
    go_wp2_with fail
    refine (HOW.out _).mono ?_; rintro e w6 ⟨rfl, hb6⟩
    have HX := Lib.hid (HX.out.later hb6)
    clear hb6
    obtain ⟨X, rfl⟩ : ∃ X, X = w6 := ⟨_, rfl⟩
    clear cc0 cc1 cc2 cc3 cc4 cc5
    go_upto_region 34 with fail
    go_wp2_with (refine wpLdD rfl _ rfl rfl HX.out.inp.doc ?_)
    refine (HCO.out _ HX.out.inp.below).mono ?_; rintro e w7 ⟨v1, v2, v3, rfl, k1, k2, k3, hb7⟩
    obtain ⟨x1, x2, x3, rfl⟩ := own_form k1
    obtain ⟨y1, y2, y3, rfl⟩ := own_form k2
    obtain ⟨z1, z2, z3, rfl⟩ := own_form k3
    have hsz := HX.out.inp.size
    have HK := Lib.hid (And.intro (And.intro (own_le k1 hsz) (own_le k2 hsz)) (own_le k3 hsz))
    have HX7 := Lib.hid (HX.out.later hb7)
    have HB7 := Lib.hid (Nat.le_trans hsz hb7.size)
    have HZ7 : Hid (DocAt (w7.alloc (docO 0 ⟨#[]⟩ NS NS NS)) w7.heap.size 0 ⟨#[]⟩ NS NS NS) := Lib.hid (heap_new w7 _)
    clear k1 k2 k3 hsz hb7 HX
    go_upto_region 35 with ((change wpList _ _ _ _ _ (w7.alloc (docO 0 ⟨#[]⟩ NS NS NS))); refine wpStD (y := b.addr) (s := b.aff) rfl _ _ rfl rfl rfl HZ7.out rfl rfl rfl ?_; intro w8 hx8 hg8)
    have hb8 := docv_new hg8
    have HX8 := Lib.hid (HX7.out.later hb8)
    have HE8 : Hid (LwE (w.heap.size + 5) w7.heap.size b.addr b.aff C (.slice x1 x2 x3) (.slice y1 y2 y3) (.slice z1 z2 z3) w8) := Lib.hid ⟨hx8, own_keep HK.out.1.1 hb8, own_keep HK.out.1.2 hb8, own_keep HK.out.2 hb8, HB7.out⟩
    clear HX7 HK HB7 HZ7 hx8 hg8 hb8
    obtain ⟨gd, hgd⟩ : ∃ gd, gd = w7.heap.size := ⟨_, rfl⟩
    rw [← hgd] at HE8 ⊢
    clear hgd
    obtain ⟨cc0, cc1, cc2, cc3, cc4, cc5⟩ := stcells HX8.out.inp.attr
    obtain ⟨e0, e1, e2, e3, e4⟩ := HE8.out.doc.cells
    have fz := HE8.out.doc.froz 1
    go_upto_region 36 with fail
    clear cc0 cc1 cc2 cc3 cc4 cc5 e0 e1 e2 e3 e4 fz
    have hne : w.heap.size + 5 ≤ gd := HE8.out.lo
    have HS' : Hid (LwS w b (.slice f1 f2 f3) (.slice a1 a2 a3) (.slice p1 p2 p3) (.slice q1 q2 q3) (.slice r1 r2 r3) (stO 7 n a (.slice l1 l2 l3) s) g C (.slice fo fn fc) (.slice ao an ac) (w8.setCell ⟨gd, 1, none⟩ (.string s))) := Lib.hid (own7 HX8.out HE8.out.doc HE8.out.lo _)
    have HE' : Hid (LwE (w.heap.size + 5) gd b.addr s C (.slice x1 x2 x3) (.slice y1 y2 y3) (.slice z1 z2 z3) (w8.setCell ⟨gd, 1, none⟩ (.string s))) := Lib.hid ⟨HE8.out.doc.set1 s, ownsRow_setCell_other HE8.out.slots (own_neD HE8.out.slots HE8.out.doc (by decide)) _, ownsRow_setCell_other HE8.out.free (own_neD HE8.out.free HE8.out.doc (by decide)) _, ownsRow_setCell_other HE8.out.attrs (own_neD HE8.out.attrs HE8.out.doc (by decide)) _, HE8.out.lo⟩
    clear HX8 HE8 hne
    generalize w8.setCell ⟨gd, 1, none⟩ (.string s) = X at HS' HE' ⊢
    refine wp_region_held_drew (S := (fun Y => LwS w b (.slice f1 f2 f3) (.slice a1 a2 a3) (.slice p1 p2 p3) (.slice q1 q2 q3) (.slice r1 r2 r3) (stO 7 n a (.slice l1 l2 l3) s) g C (.slice fo fn fc) (.slice ao an ac) Y ∧ LwE (w.heap.size + 5) gd b.addr s C (.slice x1 x2 x3) (.slice y1 y2 y3) (.slice z1 z2 z3) Y)) (by kernel_rfl) ?_ (fun rN => ?_)
    · exact ⟨HS'.out.later ⟨rfl, rfl, rfl, Nat.le_refl _, fun _ _ => rfl⟩, HE'.out.later ⟨rfl, rfl, rfl, Nat.le_refl _, fun _ _ => rfl⟩⟩
    obtain ⟨wn, hwn⟩ : ∃ wn, wn = X.drew := ⟨_, rfl⟩
    rw [← hwn] at rN ⊢
    clear hwn
    have rN : LwS w b (.slice f1 f2 f3) (.slice a1 a2 a3) (.slice p1 p2 p3) (.slice q1 q2 q3) (.slice r1 r2 r3) (stO 7 n a (.slice l1 l2 l3) s) g C (.slice fo fn fc) (.slice ao an ac) wn ∧ LwE (w.heap.size + 5) gd b.addr s C (.slice x1 x2 x3) (.slice y1 y2 y3) (.slice z1 z2 z3) wn := rN
    refine wpAnyH_take (i := 0) (v := _) rfl (by kernel_rfl) (by kernel_rfl) (by kernel_rfl) (fun _ _ _ h => h) (ldBIf (by rfl) _ rfl rfl (fun W hW => hW.1.c.blk) HCL.out) (by assumption) ?_
    try simp only [Act.put, List.getElem_toArray, List.getElem_cons_zero, List.setIfInBounds_toArray, List.set_cons_zero, List.set_cons_succ]
    refine wpAnyH_take (i := 1) (v := _) rfl (by kernel_rfl) (by kernel_rfl) (by kernel_rfl) (fun _ _ _ h => h) (ldDIf (by rfl) _ rfl rfl (fun W hW => hW.2.doc) ) (by assumption) ?_
    try simp only [Act.put, List.getElem_toArray, List.getElem_cons_succ, List.getElem_cons_zero, List.setIfInBounds_toArray, List.set_cons_zero, List.set_cons_succ]
    refine wpAnyH_take (i := 2) (v := ?_) rfl (by kernel_rfl) (by kernel_rfl) (by kernel_rfl) (fun _ _ _ h => h) (Or.inl ⟨by rfl, ?_⟩) (by assumption) ?_
    rotate_left
    · intro wS hSw
      (try dsimp only at hSw)
      go_simp
      first | done | with_reducible rfl
    try simp only [Act.put, List.getElem_toArray, List.getElem_cons_succ, List.getElem_cons_zero, List.setIfInBounds_toArray, List.set_cons_zero, List.set_cons_succ]
    refine wpAnyH_take (i := 3) (v := ?_) rfl (by kernel_rfl) (by kernel_rfl) (by kernel_rfl) (fun _ _ _ h => h) (Or.inl ⟨by rfl, ?_⟩) (by assumption) ?_
    rotate_left
    · intro wS hSw
      (try dsimp only at hSw)
      go_simp
      first | done | with_reducible rfl
    try simp only [Act.put, List.getElem_toArray, List.getElem_cons_succ, List.getElem_cons_zero, List.setIfInBounds_toArray, List.set_cons_zero, List.set_cons_succ]
    refine wpAnyH_ready (rs := [4]) (by kernel_rfl) (by simp) ?_
    refine AllReadyH.cons rfl (fun K hK => ?_) AllReadyH.nil
    rw [if_pos (by kernel_rfl)]
    obtain ⟨b0, f0, a0, hz3, hz3l⟩ := rN.1.z3
    refine wpStBK (b := C) _ _ rfl rfl rfl hz3 hz3l HCL.out rfl rfl ?_; intro wq hxm hgm
    have rM : LwS w b (.slice f1 f2 f3) (.slice a1 a2 a3) (.slice p1 p2 p3) (.slice q1 q2 q3) (.slice r1 r2 r3) (stO 7 n a (.slice l1 l2 l3) s) g C (.slice fo fn fc) (.slice ao an ac) wq ∧ LwE (w.heap.size + 5) gd b.addr s C (.slice x1 x2 x3) (.slice y1 y2 y3) (.slice z1 z2 z3) wq := ⟨rN.1.st3 hgm hxm HCL.out, rN.2.grown hgm (by omega)⟩
    have H3 := Lib.hid hxm
    clear hxm hgm hz3 hz3l
    refine hK.out _ _ ?_ (fun _ => ?_)
    · exact rM
    try simp only [Act.put, List.getElem_toArray, List.getElem_cons_succ, List.getElem_cons_zero]
    have rN := rM
    refine wpAnyH_ready (rs := [5]) (by kernel_rfl) (by simp) ?_
    refine AllReadyH.cons rfl (fun K hK => ?_) AllReadyH.nil
    rw [if_pos (by kernel_rfl)]
    obtain ⟨y0, s0, u01, u02, u03, hz4⟩ := rN.1.z4
    refine wpStDK (y := b.addr) (s := s) _ _ rfl rfl rfl hz4 rfl rfl rfl ?_; intro wp hxm hgm
    have rM : LwS w b (.slice f1 f2 f3) (.slice a1 a2 a3) (.slice p1 p2 p3) (.slice q1 q2 q3) (.slice r1 r2 r3) (stO 7 n a (.slice l1 l2 l3) s) g C (.slice fo fn fc) (.slice ao an ac) wp ∧ LwE (w.heap.size + 5) gd b.addr s C (.slice x1 x2 x3) (.slice y1 y2 y3) (.slice z1 z2 z3) wp := ⟨rN.1.st4 hgm hxm, rN.2.grown hgm (by omega)⟩
    have H3' := Lib.hid (blk_grownO H3.out hgm (fun e => by have := Option.some.inj e; omega))
    have H4 := Lib.hid hxm
    clear hxm hgm hz4
    refine hK.out _ _ ?_ (fun _ => ?_)
    · exact rM
    try simp only [Act.put, List.getElem_toArray, List.getElem_cons_succ, List.getElem_cons_zero]
    have rN := rM
    refine wpAnyH_take (i := 6) (v := ?_) rfl (by kernel_rfl) (by kernel_rfl) (by kernel_rfl) (fun _ _ _ h => h) (Or.inl ⟨by rfl, ?_⟩) (by assumption) ?_
    rotate_left
    · intro wS hSw
      (try dsimp only at hSw)
      go_simp
      first | done | with_reducible rfl
    try simp only [Act.put, List.getElem_toArray, List.getElem_cons_succ, List.getElem_cons_zero, List.setIfInBounds_toArray, List.set_cons_zero, List.set_cons_succ]
    refine wpAnyH_done (by kernel_rfl) ?_ _
    go_wp2_with fail
    exact bodyPost_ret (resC rfl rfl rfl (loadVarB H3'.out HCL.out) (loadVarD H4.out)) rfl ⟨C, _, _, _, _, _, by rw [HCA.out.1, HCA.out.2]; rfl, ⟨rN.1.c.free.sees, RowA.sees rN.1.c.attrs, ⟨RowG.sees rN.2.slots (fun _ => rfl), RowG.sees rN.2.free (fun _ => rfl), RowG.sees rN.2.attrs (fun _ => rfl)⟩, HCB.out.1, HCB.out.2⟩, rN.1.inp.below, fun g hg _ => own_apB rN.1.c.free rN.1.c.attrs rN.2.slots rN.2.free rN.2.attrs (by omega)⟩
end
end Go.Proofs.YtgodmnpcedfdcaaGreat
