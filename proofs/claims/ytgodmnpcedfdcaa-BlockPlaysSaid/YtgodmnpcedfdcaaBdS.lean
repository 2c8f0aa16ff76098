/- The walk of BlockPlays. Made by g_bds.py. -/
import Derived.Test.YtgodmnpcedfdcaaJDq
namespace Go.Proofs.Ytgodmnpcedfdcaa
open Go.RowKit
theorem infoS : (Try.prog.info? 64).map (·.size) = some 6 := by kernel_rfl
abbrev stL (k n : Int) (a : PA) (lv : Value) (s : ByteArray) : List Value := [.int .i64 k, .int .i64 n, .string a.1, .string a.2, lv, .string s]
/-- A step alone in block g. -/
def StAt (w : World) (g : Nat) (k n : Int) (a : PA) (lv : Value) (s : ByteArray) : Prop := w.heap[g]? = some (stO k n a lv s)
section
variable {w : World} {g : Nat} {k n k0 n0 : Int} {a a0 : PA} {lv lv0 : Value} {s s0 : ByteArray}
theorem StAt.whole (h : StAt w g k n a lv s) : w.rangeAt g 0 (stL k n a lv s) := fun j v hv => by
  have h' : w.heap[g]? = some (.cells #[.int .i64 k, .int .i64 n, .string a.1, .string a.2, lv, .string s] 64 (0, 0)) := h
  rw [Nat.zero_add]
  have e : (#[Value.int .i64 k, .int .i64 n, .string a.1, .string a.2, lv, .string s] : Array Value)[j]? = some v := by rw [← hv]; exact List.getElem?_toArray ..
  simp only [World.cell?, h']
  exact e
theorem thereS (h : StAt w g k n a lv s) : w.there g 0 6 := fun j hj => by
  have h' : w.heap[g]? = some (.cells #[.int .i64 k, .int .i64 n, .string a.1, .string a.2, lv, .string s] 64 (0, 0)) := h
  constructor
  · simp only [World.cell?, h']
    rw [Array.getElem?_eq_getElem (show 0 + j < (#[Value.int .i64 k, .int .i64 n, .string a.1, .string a.2, lv, .string s] : Array Value).size by simp; omega)]; rfl
  · simp [World.frozen?, h']
theorem setS (h : StAt w g k0 n0 a0 lv0 s0) : StAt (w.setCells g 0 (stL k n a lv s)) g k n a lv s ∧ w.grownBy (w.setCells g 0 (stL k n a lv s)) (some g) := by
  obtain ⟨cur', h1, h2, h3, h4⟩ := setCells_row g 64 (stL k n a lv s) 0 w _ h (by simp)
  refine ⟨?_, h4⟩
  have e : cur' = (stL k n a lv s).toArray := by
    apply Array.toList_inj.1
    have h2 : cur'.size = 6 := h2
    rw [show (0 : Nat) + (stL k n a lv s).length = 6 from rfl, List.take_zero, List.nil_append, List.take_of_length_le (by rw [Array.length_toList, h2]; exact Nat.le_refl _)] at h3
    exact h3
  rw [e] at h1
  exact h1
theorem one_st (h1 : lv.oneCell' = true) : ∀ v ∈ stL k n a lv s, v.oneCell' = true := by
  intro v hv
  simp only [stL, List.mem_cons, List.not_mem_nil, or_false] at hv
  rcases hv with rfl | rfl | rfl | rfl | rfl | rfl
  · rfl
  · rfl
  · rfl
  · rfl
  · exact h1
  · rfl
section
variable {ops : Array Oper} {rest : List Oper} {o : Oper} {t : Act} {Q : Exit → Act → World → Prop} {K : Act → World → Prop}
theorem wpStS (hgd : o.guard = none) (x z : Operand) (ho : o.op = .store 64 x z) (hx : t.eval x = .pointer (some ⟨g, 0, none⟩)) (hy : t.eval z = stV k n a lv s)
    (h : StAt w g k0 n0 a0 lv0 s0) (h1 : lv.oneCell' = true)
    (hK : ∀ w', StAt w' g k n a lv s → w.grownBy w' (some g) → wpList Try.prog ops Q rest (t.put o.dst undef) w') : wpList Try.prog ops Q (o :: rest) t w := by
  refine wpList_store_mid hgd 64 x z ho g 0 (stL k n a lv s).toArray hx hy (thereS h) infoS (all_oneCell_toArray (one_st h1)) ?_
  obtain ⟨k1, k2⟩ := setS (k := k) (n := n) (a := a) (lv := lv) (s := s) h
  exact hK _ k1 k2
theorem wpLdS (hgd : o.guard = none) (x : Operand) (ho : o.op = .load 64 x) (hx : t.eval x = .pointer (some ⟨g, 0, none⟩)) (h : StAt w g k n a lv s)
    (hK : wpList Try.prog ops Q rest (t.put o.dst (stV k n a lv s)) w) : wpList Try.prog ops Q (o :: rest) t w :=
  wpList_load_mid hgd _ x ho g 0 hx _ _ h.whole Try.underlying64 rfl infoS hK
end
end
theorem OwnsI.row1 {w : World} {B : Nat} {v : Value} {xs : List Int} (h : OwnsI w B v xs) : RowI1 w B v xs := by unfold OwnsI at h; rw [← flat_I1] at h; exact h
theorem ofsS {w : World} {a : Addr} {i n : Nat} {v : Value} (hn : n ≠ 0) (h : w.cell? ((a.add i).add n) = some v) : w.cell? { block := (a.add i).block, off := (a.add i).off + n } = some v := by
  have e : ({ block := (a.add i).block, off := (a.add i).off + n } : Addr) = (a.add i).add n := by
    unfold Addr.add
    simp [hn]
  rw [e]
  exact h
/-- The law's variables between two rounds. -/
structure PlI (w : World) (gb gd : Nat) (c : BlkS) (fv av v1 v2 v3 : Value) (X : World) : Prop where
  blk : BlkAt X gb c fv av
  doc : DocAt X gd c.addr c.aff v1 v2 v3
  both : Both X c fv av v1 v2 v3
  ap1 : ApB gb c fv av v1 v2 v3
  ap2 : ApB gd c fv av v1 v2 v3
  below : Below w.heap.size w X
  lo : w.heap.size ≤ gb ∧ w.heap.size ≤ gd ∧ gb ≠ gd
theorem PlI.later {w : World} {gb gd : Nat} {c : BlkS} {fv av v1 v2 v3 : Value} {X Y : World} (h : PlI w gb gd c fv av v1 v2 v3 X) (hb : Below X.heap.size X Y) : PlI w gb gd c fv av v1 v2 v3 Y :=
  ⟨h.blk.below hb, h.doc.below hb, h.both.below hb, h.ap1, h.ap2, h.below.trans (hb.mono h.below.size), h.lo⟩
/-- .. when a step was done: its block, in both forms, beside the elder one. -/
structure PlX (w : World) (gb gd gc ge : Nat) (c : BlkS) (fv av v1 v2 v3 : Value) (Y : World) : Prop where
  cb : BlkAt Y gc c fv av
  cd : DocAt Y ge c.addr c.aff v1 v2 v3
  zb : ∃ b0 f0 a0, BlkAt Y gb b0 f0 a0 ∧ b0.sl.length = 64
  zd : ∃ y s u1 u2 u3, DocAt Y gd y s u1 u2 u3
  both : Both Y c fv av v1 v2 v3
  ap1 : ApB gb c fv av v1 v2 v3
  ap2 : ApB gd c fv av v1 v2 v3
  below : Below w.heap.size w Y
  lo : w.heap.size ≤ gb ∧ w.heap.size ≤ gd ∧ gb ≠ gd
  ne : gb ≠ gc ∧ gb ≠ ge ∧ gd ≠ gc ∧ gd ≠ ge
theorem PlX.later {w : World} {gb gd gc ge : Nat} {c : BlkS} {fv av v1 v2 v3 : Value} {X Y : World} (h : PlX w gb gd gc ge c fv av v1 v2 v3 X) (hb : Below X.heap.size X Y) : PlX w gb gd gc ge c fv av v1 v2 v3 Y := by
  obtain ⟨b0, f0, a0, h1, h2⟩ := h.zb
  obtain ⟨y, s, u1, u2, u3, h3⟩ := h.zd
  exact ⟨h.cb.below hb, h.cd.below hb, ⟨b0, f0, a0, h1.below hb, h2⟩, ⟨y, s, u1, u2, u3, h3.below hb⟩, h.both.below hb, h.ap1, h.ap2, h.below.trans (hb.mono h.below.size), h.lo, h.ne⟩
theorem PlX.stb {w : World} {gb gd gc ge : Nat} {c : BlkS} {fv av v1 v2 v3 : Value} {X Y : World} (h : PlX w gb gd gc ge c fv av v1 v2 v3 X) (hg : X.grownBy Y (some gb)) {d : BlkS} {f1 a1 : Value} (hd : BlkAt Y gb d f1 a1) (hl : d.sl.length = 64) : PlX w gb gd gc ge c fv av v1 v2 v3 Y := by
  obtain ⟨y, s, u1, u2, u3, h3⟩ := h.zd
  exact ⟨blk_grownO h.cb hg (fun e => h.ne.1 (Option.some.inj e)), doc_grownO h.cd hg (fun e => h.ne.2.1 (Option.some.inj e)), ⟨_, _, _, hd, hl⟩, ⟨y, s, u1, u2, u3, doc_grownO h3 hg (fun e => h.lo.2.2 (Option.some.inj e))⟩, h.both.grownA h.ap1 hg, h.ap1, h.ap2, h.below.grown hg h.below.size (fun k hk => by cases hk; exact h.lo.1), h.lo, h.ne⟩
theorem PlX.std {w : World} {gb gd gc ge : Nat} {c : BlkS} {fv av v1 v2 v3 : Value} {X Y : World} (h : PlX w gb gd gc ge c fv av v1 v2 v3 X) (hg : X.grownBy Y (some gd)) {y : Int} {s : ByteArray} {u1 u2 u3 : Value} (hd : DocAt Y gd y s u1 u2 u3) : PlX w gb gd gc ge c fv av v1 v2 v3 Y := by
  obtain ⟨b0, f0, a0, h1, h2⟩ := h.zb
  exact ⟨blk_grownO h.cb hg (fun e => h.ne.2.2.1 (Option.some.inj e)), doc_grownO h.cd hg (fun e => h.ne.2.2.2 (Option.some.inj e)), ⟨b0, f0, a0, blk_grownO h1 hg (fun e => h.lo.2.2 (Option.some.inj e).symm), h2⟩, ⟨_, _, _, _, _, hd⟩, h.both.grownA h.ap2 hg, h.ap1, h.ap2, h.below.grown hg h.below.size (fun k hk => by cases hk; exact h.lo.2.1), h.lo, h.ne⟩
/-- A new block in both forms. -/
theorem new_both {w : World} {x : Int} {t : ByteArray} {fv av v1 v2 : Value} (hx : 0 ≤ x ∧ x < 4294967296) (ht : t.size ≤ maxLen) (ho : ownB t = true) (hf : Sees w fv (newS x t).free) (ha : SeesA w av (newS x t).attrs) (h1 : RowI1 w 0 v1 (List.replicate 64 0)) (h2 : RowI1 w 0 v2 (rangeI 64)) : Both w (newS x t) fv av v1 v2 NS :=
  ⟨hf, ha, ⟨RowG.sees h1 (fun _ => rfl), RowG.sees h2 (fun _ => rfl), ⟨none, 0, rfl, Nat.le_refl _, fun _ => rfl, fun _ h => by cases h⟩⟩, newS_wf x t hx.1 hx.2 ht, newS_right x t ho⟩
theorem plain_any' (b : BlkS) (fv av v1 v2 v3 : Value) (w : World) (h : Both w b fv av v1 v2 v3) : Calls Try.prog 12 #[.agg (blkL b fv av).toArray] w fun e w' => ∃ f1 f2 f3 a1 a2 a3 p1 p2 p3, e = .returned (docV b.addr b.aff (.slice f1 f2 f3) (.slice a1 a2 a3) (.slice p1 p2 p3)) ∧ DocSees w' b.sl b.free b.attrs (.slice f1 f2 f3) (.slice a1 a2 a3) (.slice p1 p2 p3) ∧ Below w.heap.size w w' := by
  refine (plain15_any b _ _ w h.free h.attrs h.wf.2.1 h.wf.2.2.1 h.wf.2.2.2.1 (Nat.le_trans (right_free h.right).2.2 (by decide)) (Nat.le_trans (right_bd h.wf h.right).2.2.1 (by decide))).mono ?_
  rintro e W ⟨u1, u2, u3, rfl, hd⟩
  have hs := hd.sees
  obtain ⟨f1, f2, f3, rfl⟩ := seesG_form hs.slots
  obtain ⟨a1, a2, a3, rfl⟩ := seesG_form hs.free
  obtain ⟨p1, p2, p3, rfl⟩ := seesG_form hs.attrs
  exact ⟨f1, f2, f3, a1, a2, a3, p1, p2, p3, rfl, hs, hd.below⟩
theorem same_any' (b : BlkS) (fv av v1 v2 v3 u1 u2 u3 : Value) (w : World) (h : Both w b fv av v1 v2 v3) (hs : DocSees w b.sl b.free b.attrs u1 u2 u3) : Calls Try.prog 30 #[docV b.addr b.aff u1 u2 u3, docV b.addr b.aff v1 v2 v3] w fun e w' => e = .returned (.bool true) ∧ Below w.heap.size w w' :=
  refSame_yes b.addr b.aff _ _ _ _ _ _ b.sl b.free b.attrs w hs h.doc (by rw [h.wf.2.1]; decide) (Nat.le_trans (right_free h.right).2.2 (by decide)) (Nat.le_trans (right_bd h.wf h.right).2.2.1 (by decide))
theorem rightD_any' (b : BlkS) (fv av v1 v2 v3 : Value) (w : World) (h : Both w b fv av v1 v2 v3) : Calls Try.prog 11 #[docV b.addr b.aff v1 v2 v3] w fun e w' => e = .returned (.bool true) ∧ Below w.heap.size w w' := by
  have := refRight15_any b v1 v2 v3 w h.doc h.wf (Nat.le_trans (right_free h.right).2.2 (by decide))
  rw [h.right] at this
  exact this
theorem rightB_any' (b : BlkS) (fv av v1 v2 v3 : Value) (w : World) (h : Both w b fv av v1 v2 v3) : Calls Try.prog 13 #[.agg (blkL b fv av).toArray] w fun e w' => e = .returned (.bool true) ∧ Below w.heap.size w w' := by
  have := rightBlk_any (blkL b fv av).toArray b w ⟨fv, av, rfl, h.free, h.attrs, h.wf⟩
  rw [h.right] at this
  exact this
set_option maxRecDepth 100000 in
set_option maxHeartbeats 16000000 in
theorem law_plays (w : World) (x : Int) (t : ByteArray) (lv : Value) (L : List StepS) (hx : 0 ≤ x) (hx' : x < 4294967296) (ht : t.size ≤ maxLen) (hL : ArgSt w lv L) :
    Calls Try.prog 4 #[.int .u32 x, .string t, lv] w fun e w' => e = .returned (.bool true) ∧ Below w.heap.size w w' := by
  obtain ⟨⟨lo, lc, rfl, h1, h2, h3⟩, h4, h5⟩ := hL
  have HA := Lib.hid (And.intro h2 (And.intro h3 h4))
  have HAW := Lib.hid (fun w => awake15_any w)
  have HOW := fun w => refOwner_any t ht w
  have HXX := Lib.hid (And.intro hx hx')
  have hlm : L.length ≤ 9223372036854775807 := by unfold maxLen at h5; omega
  clear h1 h2 h3 h4 h5
  cases ho : ownB t with
  | false =>
    rw [ho] at HOW
    have HOW := Lib.hid HOW
    have HN := Lib.hid (newB_bad x t w ht ho)
    have HZR := Lib.hid (fun (Y : World) => by
      have := zero15_any zB NS NS Y (Sees.nil Y) (SeesA.nil Y) zB_len (by decide) (by decide)
      rw [sameZ] at this
      exact this)
    clear ho ht hx hx'
    go_enter Try.func4, Try.ntmps4
    go_wp2_with fail
    refine HN.out.mono ?_; rintro e w1 ⟨rfl, hb1⟩
    have HX2 : Hid (BlkAt (w1.alloc (blkO zB NS NS)) w1.heap.size zB NS NS) := Lib.hid (heap_new w1 _)
    have HB1 := Lib.hid hb1
    clear hb1
    go_upto_region 2 with ((change wpList _ _ _ _ _ (w1.alloc (blkO zB NS NS))); refine wpStB (b := zB) rfl _ _ rfl rfl rfl HX2.out zB_len zB_len rfl rfl ?_; intro w2 hx2 hg2)
    have HB2 := Lib.hid (bel HB1.out (docv_new hg2))
    have HX := Lib.hid hx2
    clear hx2 hg2 HX2 HB1
    go_wp2_with fail
    refine (HOW.out _).mono ?_; rintro e w3 ⟨rfl, hb3⟩
    have HB3 := Lib.hid (bel HB2.out hb3)
    have HX := Lib.hid (HX.out.below hb3)
    clear hb3 HB2
    go_wp2_with (refine wpLdBg (by rfl) _ rfl rfl HX.out zB_len ?_)
    refine (HZR.out _).mono ?_; rintro e w4 ⟨rfl, hb4⟩
    have HB4 := Lib.hid (bel HB3.out hb4)
    clear hb4 HB3 HX
    go_wp2_with fail
    refine (HAW.out _).mono ?_; rintro e wz ⟨rfl, hbz⟩
    have HBZ := Lib.hid (bel HB4.out hbz)
    clear hbz
    go_wp2_with fail
    go_ret
    exact ⟨rfl, HBZ.out⟩
  | true =>
    rw [ho] at HOW
    have HOW := Lib.hid HOW
    have HN := Lib.hid (newB_any x t w hx hx' ht ho)
    have HND := Lib.hid (fun w => newD_any x t w hx hx')
    have HTO := Lib.hid (And.intro ht ho)
    clear ho ht hx hx'
    go_enter Try.func4, Try.ntmps4
    go_wp2_with fail
    refine HN.out.mono ?_; rintro e w1 ⟨fv, av, rfl, hret⟩
    obtain ⟨f1, f2, f3, rfl⟩ := own_form hret.free
    obtain ⟨a1, a2, a3, rfl⟩ := own_form hret.attrs
    have HX2 : Hid (BlkAt (w1.alloc (blkO zB NS NS)) w1.heap.size zB NS NS) := Lib.hid (heap_new w1 _)
    have HR := Lib.hid hret
    have hln : (newS x t).sl.length = 64 := rfl
    clear hret HN
    go_upto_region 2 with ((change wpList _ _ _ _ _ (w1.alloc (blkO zB NS NS))); refine wpStB (b := newS x t) rfl _ _ rfl rfl rfl HX2.out zB_len hln rfl rfl ?_; intro w2 hx2 hg2)
    have HV2 := Lib.hid (var_new HR.out hx2 hg2)
    have HB2 := Lib.hid (bel HR.out.below HV2.out.2)
    obtain ⟨gb, hgb⟩ : ∃ gb, gb = w1.heap.size := ⟨_, rfl⟩
    have HG := Lib.hid (And.intro hgb (Nat.le_trans HR.out.below.size (Nat.le_of_eq hgb.symm)))
    have hvo := varO_new (B := w.heap.size) HR.out.free HR.out.attrs hx2 hg2
    rw [← hgb] at HV2 hvo ⊢
    have HVO := Lib.hid hvo.1
    clear hx2 hg2 hgb HX2 HR hvo
    go_wp2_with fail
    refine (HOW.out _).mono ?_; rintro e w3 ⟨rfl, hb3⟩
    have HB3 := Lib.hid (bel HB2.out hb3)
    have HVO3 := Lib.hid (HVO.out.below hb3)
    clear hb3 HB2 HVO HV2
    go_wp2_with fail
    refine (HND.out _).mono ?_; rintro e w4 ⟨v1, v2, rfl, k1, k2, hb4⟩
    obtain ⟨p1, p2, p3, rfl⟩ := own_form k1
    obtain ⟨q1, q2, q3, rfl⟩ := own_form k2
    have HB4 := Lib.hid (bel HB3.out hb4)
    have HVO4 := Lib.hid (HVO3.out.below hb4)
    have HK := Lib.hid (And.intro (And.intro k1 k2) (And.intro HB3.out.size (heap_lt (show w3.heap[gb]? = some (.cells (blkL (newS x t) (.slice f1 f2 f3) (.slice a1 a2 a3)).toArray 32 (0, 0)) from HVO3.out.blk))))
    have HZ4 : Hid (DocAt (w4.alloc (docO 0 ⟨#[]⟩ NS NS NS)) w4.heap.size 0 ⟨#[]⟩ NS NS NS) := Lib.hid (heap_new w4 _)
    clear k1 k2 HB3 HVO3
    go_upto_region 5 with ((change wpList _ _ _ _ _ (w4.alloc (docO 0 ⟨#[]⟩ NS NS NS))); refine wpStD (y := x - x % 64) (s := t) rfl _ _ rfl rfl rfl HZ4.out rfl rfl rfl ?_; intro w5 hx5 hg5)
    have hb5 := docv_new hg5
    clear hb4
    obtain ⟨X, hX⟩ : ∃ X, X = w5 := ⟨_, rfl⟩
    obtain ⟨gd, hgd⟩ : ∃ gd, gd = w4.heap.size := ⟨_, rfl⟩
    have hI : PlI w gb gd (newS x t) (.slice f1 f2 f3) (.slice a1 a2 a3) (.slice p1 p2 p3) (.slice q1 q2 q3) NS X := by
      rw [hgd, hX]
      have hv5 := HVO4.out.below hb5
      have hbo : Both w5 (newS x t) (.slice f1 f2 f3) (.slice a1 a2 a3) (.slice p1 p2 p3) (.slice q1 q2 q3) NS := new_both HXX.out HTO.out.1 HTO.out.2 hv5.free.sees (RowA.sees hv5.attrs) (RowG.le (own_keep (HK.out.1.1.row1) hb5) (Nat.zero_le _)) (RowG.le (own_keep (HK.out.1.2.row1) hb5) (Nat.zero_le _))
      have hsz : gb < w4.heap.size := heap_lt (show w4.heap[gb]? = some (.cells (blkL (newS x t) (.slice f1 f2 f3) (.slice a1 a2 a3)).toArray 32 (0, 0)) from HVO4.out.blk)
      refine ⟨hv5.blk, hx5, hbo, ?_, ?_, bel HB4.out hb5, HG.out.2, HB4.out.size, by omega⟩
      · exact ⟨fun _ => own_neB hv5.free hv5.blk (by decide), fun h => absurd rfl h, fun _ => own_neB (own_keep (HK.out.1.1.row1) hb5) hv5.blk (by decide), fun _ => own_neB (own_keep (HK.out.1.2.row1) hb5) hv5.blk (by decide), fun h => absurd rfl h⟩
      · exact ⟨fun _ => own_neD hv5.free hx5 (by decide), fun h => absurd rfl h, fun _ => own_neD (own_keep (HK.out.1.1.row1) hb5) hx5 (by decide), fun _ => own_neD (own_keep (HK.out.1.2.row1) hb5) hx5 (by decide), fun h => absurd rfl h⟩
    rw [← hX, ← hgd]
    clear hX hgd hx5 hg5 hb5 HK HZ4 HVO4 HB4 HG HTO HND HOW hln
    obtain ⟨c, r1, r2, r3, hI⟩ : ∃ c r1 r2 r3, PlI w gb gd c (.slice f1 f2 f3) (.slice a1 a2 a3) (.slice p1 p2 p3) (.slice q1 q2 q3) (.slice r1 r2 r3) X := ⟨newS x t, none, 0, 0, hI⟩
    have hlc := hI.both.wf.2.1
    have HI := Lib.hid hI
    clear hI
    refine wp_region_held_drew (S := (fun Y => Below X.heap.size X Y)) (by kernel_rfl) ?_ (fun rN => ?_)
    · exact ⟨rfl, rfl, rfl, Nat.le_refl _, fun _ _ => rfl⟩
    obtain ⟨wn, hwn⟩ : ∃ wn, wn = X.drew := ⟨_, rfl⟩
    rw [← hwn] at rN ⊢
    clear hwn
    have rN : Below X.heap.size X wn := rN
    refine wpAnyH_take (i := 0) (v := ?_) rfl (by kernel_rfl) (by kernel_rfl) (by kernel_rfl) (fun _ _ _ h => h) (Or.inl ⟨by rfl, ?_⟩) (by assumption) ?_
    rotate_left
    · intro wS hSw
      (try dsimp only at hSw)
      go_simp
      first | done | with_reducible rfl
    try simp only [Act.put, List.getElem_toArray, List.getElem_cons_zero, List.setIfInBounds_toArray, List.set_cons_zero, List.set_cons_succ]
    refine wpAnyH_take (i := 1) (v := ?_) rfl (by kernel_rfl) (by kernel_rfl) (by kernel_rfl) (fun _ _ _ h => h) (Or.inl ⟨by rfl, ?_⟩) (by assumption) ?_
    rotate_left
    · intro wS hSw
      (try dsimp only at hSw)
      go_simp
      first | done | with_reducible rfl
    try simp only [Act.put, List.getElem_toArray, List.getElem_cons_succ, List.getElem_cons_zero, List.setIfInBounds_toArray, List.set_cons_zero, List.set_cons_succ]
    refine wpAnyH_take (i := 2) (v := ?_) rfl (by kernel_rfl) (by kernel_rfl) (by kernel_rfl) (fun _ _ _ h => h) (Or.inl ⟨by rfl, ?_⟩) (by assumption) ?_
    rotate_left
    · intro wS hSw
      (try dsimp only at hSw)
      go_simp
      first | done | with_reducible rfl
    try simp only [Act.put, List.getElem_toArray, List.getElem_cons_succ, List.getElem_cons_zero, List.setIfInBounds_toArray, List.set_cons_zero, List.set_cons_succ]
    refine wpAnyH_take (i := 3) (v := _) rfl (by kernel_rfl) (by kernel_rfl) (by kernel_rfl) (fun _ _ _ h => h) (ldBIf (by rfl) _ rfl rfl (fun W hW => (HI.out.later hW).blk) hlc) (by assumption) ?_
    try simp only [Act.put, List.getElem_toArray, List.getElem_cons_succ, List.getElem_cons_zero, List.setIfInBounds_toArray, List.set_cons_zero, List.set_cons_succ]
    refine wpAnyH_take (i := 5) (v := _) rfl (by kernel_rfl) (by kernel_rfl) (by kernel_rfl) (fun _ _ _ h => h) (ldDIf (by rfl) _ rfl rfl (fun W hW => (HI.out.later hW).doc) ) (by assumption) ?_
    try simp only [Act.put, List.getElem_toArray, List.getElem_cons_succ, List.getElem_cons_zero, List.setIfInBounds_toArray, List.set_cons_zero, List.set_cons_succ]
    refine wpAnyH_ready (rs := [4]) (by kernel_rfl) (by simp) ?_
    refine AllReadyH.cons rfl (fun K hK => ?_) AllReadyH.nil
    go_simp
    refine (plain_any' c _ _ _ _ _ _ (HI.out.later rN).both).mono ?_; rintro z wm ⟨x1, x2, x3, y1, y2, y3, z1, z2, z3, rfl, hds, hbm⟩
    have rM : Below X.heap.size X wm := bel rN hbm
    have HDS := Lib.hid hds
    clear hbm hds
    refine hK.out _ _ ?_ (fun _ => ?_)
    · exact rM
    try simp only [Act.put, List.getElem_toArray, List.getElem_cons_succ, List.getElem_cons_zero, List.setIfInBounds_toArray, List.set_cons_zero, List.set_cons_succ]
    have rN := rM
    refine wpAnyH_ready (rs := [6]) (by kernel_rfl) (by simp) ?_
    refine AllReadyH.cons rfl (fun K hK => ?_) AllReadyH.nil
    go_simp
    refine (same_any' c _ _ _ _ _ _ _ _ _ (HI.out.later rN).both HDS.out).mono ?_; rintro z wm ⟨rfl, hbm⟩
    have rM : Below X.heap.size X wm := bel rN hbm
    clear hbm
    refine hK.out _ _ ?_ (fun _ => ?_)
    · exact rM
    try simp only [Act.put, List.getElem_toArray, List.getElem_cons_succ, List.getElem_cons_zero, List.setIfInBounds_toArray, List.set_cons_zero, List.set_cons_succ]
    have rN := rM
    refine wpAnyH_take (i := 7) (v := ?_) rfl (by kernel_rfl) (by kernel_rfl) (by kernel_rfl) (fun _ _ _ h => h) (Or.inl ⟨by rfl, ?_⟩) (by assumption) ?_
    rotate_left
    · intro wS hSw
      (try dsimp only at hSw)
      go_simp
      first | done | with_reducible rfl
    try simp only [Act.put, List.getElem_toArray, List.getElem_cons_succ, List.getElem_cons_zero, List.setIfInBounds_toArray, List.set_cons_zero, List.set_cons_succ]
    refine wpAnyH_take (i := 8) (v := ?_) rfl (by kernel_rfl) (by kernel_rfl) (by kernel_rfl) (fun _ _ _ h => h) (Or.inl ⟨by rfl, ?_⟩) (by assumption) ?_
    rotate_left
    · intro wS hSw
      (try dsimp only at hSw)
      go_simp
      first | done | with_reducible rfl
    try simp only [Act.put, List.getElem_toArray, List.getElem_cons_succ, List.getElem_cons_zero, List.setIfInBounds_toArray, List.set_cons_zero, List.set_cons_succ]
    refine wpAnyH_done (by kernel_rfl) ?_ _
    go_wp2_with fail
    go_loopw [47] (fun i wr => ∃ (k : Nat) (c : BlkS) (f1 a1 p1 q1 r1 : Option Addr) (f2 f3 a2 a3 p2 p3 q2 q3 r2 r3 : Nat), k ≤ L.length ∧ i = .int .i64 k ∧ Hid (PlI w gb gd c (.slice f1 f2 f3) (.slice a1 a2 a3) (.slice p1 p2 p3) (.slice q1 q2 q3) (.slice r1 r2 r3) wr)) (fun i _ => L.length - (intOf i).toNat)
    case atStart => exact ⟨0, c, f1, a1, p1, q1, r1, f2, f3, a2, a3, p2, p3, q2, q3, r2, r3, Nat.zero_le _, rfl, Lib.hid (HI.out.later rN)⟩
    case round =>
      clear HI rN hlc
      obtain ⟨k, c, f1, a1, p1, q1, r1, f2, f3, a2, a3, p2, p3, q2, q3, r2, r3, hk, rfl, HI⟩ := hrel
      have hlc := HI.out.both.wf.2.1
      by_cases hlt : k < L.length
      · obtain ⟨la, rfl⟩ : ∃ la, lo = some la := by
          cases lo with
          | none => have := HA.out.1 rfl; rw [this] at hlt; simp at hlt
          | some la => exact ⟨la, rfl⟩
        obtain ⟨st, hst⟩ : ∃ st, st = L.getD k default := ⟨_, rfl⟩
        have hat := ((HA.out.2.1 la rfl k hlt).below HI.out.below)
        have hok := (HA.out.2.2 (L.getD k default) (by rw [List.getD_eq_getElem?_getD, List.getElem?_eq_getElem hlt]; exact List.getElem_mem hlt)).below HI.out.below
        rw [← hst] at hat hok
        clear hst
        obtain ⟨kk, nn, aa, lv, ll, ss⟩ := st
        obtain ⟨hk1, hk2, hk3, hk4, hk5⟩ := hok
        obtain ⟨l1, l2, l3, rfl⟩ : ∃ l1 l2 l3, lv = .slice l1 l2 l3 := by
          obtain ⟨ao, c', e, -⟩ := hk4
          exact ⟨_, _, _, e⟩
        obtain ⟨c0, c1, c2, c3, c4, c5⟩ := hat
        dsimp only at c0 c1 c2 c3 c4 c5 hk1 hk2 hk3 hk4 hk5
        have HOK := Lib.hid (And.intro (And.intro hk1 hk2) (And.intro hk3 (And.intro hk4 hk5)))
        have dl : decide ((k : Int) < (L.length : Int)) = true := decide_eq_true (by omega)
        have dl' : decide (k < L.length) = true := decide_eq_true hlt
        have o1 := ofsS (by decide) c1
        have o2 := ofsS (by decide) c2
        have o3 := ofsS (by decide) c3
        have o4 := ofsS (by decide) c4
        have o5 := ofsS (by decide) c5
        have HLT := Lib.hid hlt
        clear hk1 hk2 hk3 hk4 hk5
        have HZs : Hid (StAt (wr.alloc (stO 0 0 (em, em) NS em)) wr.heap.size 0 0 (em, em) NS em) := Lib.hid (heap_new wr _)
        go_upto_region 10 with ((change wpList _ _ _ _ _ (wr.alloc (stO 0 0 (em, em) NS em))); refine wpStS (k := kk) (n := nn) (a := aa) (lv := .slice l1 l2 l3) (s := ss) rfl _ _ rfl rfl rfl HZs.out rfl ?_; intro w4 hx4 hg4)
        have hb4 := docv_new hg4
        have HI4 := Lib.hid (HI.out.later hb4)
        have HS4 : Hid (StAt w4 wr.heap.size kk nn aa (.slice l1 l2 l3) ss) := Lib.hid hx4
        have HOK4 : Hid (SeesU w4 (.slice l1 l2 l3) ll) := Lib.hid (HOK.out.2.2.1.later hb4)
        clear HI HZs hx4 hg4 hb4 c0 c1 c2 c3 c4 c5 o1 o2 o3 o4 o5 dl dl'
        obtain ⟨gs, hgs⟩ : ∃ gs, gs = wr.heap.size := ⟨_, rfl⟩
        rw [← hgs] at HS4 ⊢
        clear hgs
        by_cases h20 : k < 20
        · have dg : decide ((20 : Int) ≤ (k : Int)) = false := decide_eq_false (by omega)
          have dg' : decide (20 ≤ k) = false := decide_eq_false (by omega)
          clear hlt
          go_upto_region 11 with fail
          clear dg dg'
          go_wp2_with (first
            | (refine wpLdB rfl _ rfl rfl HI4.out.blk hlc ?_)
            | (refine wpLdD rfl _ rfl rfl HI4.out.doc ?_)
            | (refine wpLdS rfl _ rfl rfl HS4.out ?_))
          refine (do15_law c _ _ _ _ _ kk nn aa l1 l2 l3 ll ss w4 HI4.out.both HOK.out.1.1 HOK.out.1.2 HOK4.out HOK.out.2.2.2 HOK.out.2.1).mono ?_
          rintro e w5 ⟨C, gv, bv, u1, u2, u3, rfl, hbo, hb5, hap⟩
          obtain ⟨fo, ao, xo, yo, zo, fn, fc, an, ac, xn, xc, yn, yc, zn, zc, rfl, rfl, rfl, rfl, rfl⟩ := hbo.form
          have hlC := hbo.wf.2.1
          have hgb := heap_lt (show w4.heap[gb]? = some (.cells (blkL c (.slice f1 f2 f3) (.slice a1 a2 a3)).toArray 32 (0, 0)) from HI4.out.blk)
          have hgd := heap_lt (show w4.heap[gd]? = some (docO c.addr c.aff (.slice p1 p2 p3) (.slice q1 q2 q3) (.slice r1 r2 r3)) from HI4.out.doc)
          have HA1 := Lib.hid (hap gb hgb HI4.out.ap1)
          have HA2 := Lib.hid (hap gd hgd HI4.out.ap2)
          have HBO := Lib.hid hbo
          have HI5 := Lib.hid (HI4.out.later hb5)
          have HG := Lib.hid (And.intro (Nat.lt_of_lt_of_le hgb hb5.size) (Nat.lt_of_lt_of_le hgd hb5.size))
          obtain ⟨hbn, hB6, hD6, hS6⟩ := two_newB w5 (blkO zB NS NS) (docO 0 ⟨#[]⟩ NS NS NS)
          have HBN := Lib.hid hbn
          have HB6 : Hid (BlkAt ((w5.alloc (blkO zB NS NS)).alloc (docO 0 ⟨#[]⟩ NS NS NS)) w5.heap.size zB NS NS) := Lib.hid hB6
          have HD6 : Hid (DocAt ((w5.alloc (blkO zB NS NS)).alloc (docO 0 ⟨#[]⟩ NS NS NS)) (w5.heap.size + 1) 0 ⟨#[]⟩ NS NS NS) := Lib.hid hD6
          have HS6 := Lib.hid hS6
          clear hap hbo hb5 hbn hB6 hD6 hS6 hgb hgd HI4 HS4 HOK HOK4
          go_upto_region 12 with (first
            | ((change wpList _ _ _ _ _ ((w5.alloc (blkO zB NS NS)).alloc (docO 0 ⟨#[]⟩ NS NS NS))); refine wpStB (b := C) rfl _ _ rfl rfl rfl HB6.out zB_len hlC rfl rfl ?_; intro w6 hx6 hg6; have HX6 := Lib.hid hx6; have HG6 := Lib.hid hg6; have HD7 := Lib.hid (doc_grownO HD6.out hg6 (fun e => by have := Option.some.inj e; omega)); clear hx6 hg6)
            | (refine wpStD (y := C.addr) (s := C.aff) rfl _ _ rfl rfl rfl HD7.out rfl rfl rfl ?_; intro w7 hx7 hg7))
          have hb6 : Below w5.heap.size w5 w6 := HBN.out.grown HG6.out (by rw [HS6.out]; omega) (fun k hk => by cases hk; exact Nat.le_refl _)
          have hb7 : Below w5.heap.size w5 w7 := hb6.grown hg7 hb6.size (fun k hk => by cases hk; omega)
          have HX : Hid (PlX w gb gd w5.heap.size (w5.heap.size + 1) C (.slice fo fn fc) (.slice ao an ac) (.slice xo xn xc) (.slice yo yn yc) (.slice zo zn zc) w7) := Lib.hid ⟨blk_grownO HX6.out hg7 (fun e => by have := Option.some.inj e; omega), hx7, ⟨_, _, _, (HI5.out.later hb7).blk, hlc⟩, ⟨_, _, _, _, _, (HI5.out.later hb7).doc⟩, HBO.out.below hb7, HA1.out, HA2.out, (HI5.out.later hb7).below, HI5.out.lo, by have := HG.out; omega⟩
          clear hx7 hg7 hb6 hb7 HX6 HG6 HD7 HBN HB6 HD6 HS6 HBO HI5 HG HA1 HA2
          obtain ⟨gc, hgc⟩ : ∃ gc, gc = w5.heap.size := ⟨_, rfl⟩
          rw [← hgc] at HX ⊢
          obtain ⟨ge, hge⟩ : ∃ ge, ge = gc + 1 := ⟨_, rfl⟩
          rw [← hge] at HX ⊢
          clear hgc hge
          obtain ⟨X, rfl⟩ : ∃ X, X = w7 := ⟨_, rfl⟩
          refine wp_region_held_drew (S := (fun Y => PlX w gb gd gc ge C (.slice fo fn fc) (.slice ao an ac) (.slice xo xn xc) (.slice yo yn yc) (.slice zo zn zc) Y)) (by kernel_rfl) ?_ (fun rN => ?_)
          · exact HX.out.later ⟨rfl, rfl, rfl, Nat.le_refl _, fun _ _ => rfl⟩
          obtain ⟨wn, hwn⟩ : ∃ wn, wn = X.drew := ⟨_, rfl⟩
          rw [← hwn] at rN ⊢
          clear hwn
          have rN : PlX w gb gd gc ge C (.slice fo fn fc) (.slice ao an ac) (.slice xo xn xc) (.slice yo yn yc) (.slice zo zn zc) wn := rN
          refine wpAnyH_take (i := 0) (v := _) rfl (by kernel_rfl) (by kernel_rfl) (by kernel_rfl) (fun _ _ _ h => h) (ldBIf (by rfl) _ rfl rfl (fun W hW => hW.cb) hlC) (by assumption) ?_
          try simp only [Act.put, List.getElem_toArray, List.getElem_cons_zero, List.setIfInBounds_toArray, List.set_cons_zero, List.set_cons_succ]
          refine wpAnyH_take (i := 1) (v := _) rfl (by kernel_rfl) (by kernel_rfl) (by kernel_rfl) (fun _ _ _ h => h) (ldDIf (by rfl) _ rfl rfl (fun W hW => hW.cd) ) (by assumption) ?_
          try simp only [Act.put, List.getElem_toArray, List.getElem_cons_succ, List.getElem_cons_zero, List.setIfInBounds_toArray, List.set_cons_zero, List.set_cons_succ]
          refine wpAnyH_ready (rs := [2]) (by kernel_rfl) (by simp) ?_
          refine AllReadyH.cons rfl (fun K hK => ?_) AllReadyH.nil
          rw [if_pos (by kernel_rfl)]
          obtain ⟨b0, f0, a0, hz3, hz3l⟩ := rN.zb
          refine wpStBK (b := C) _ _ rfl rfl rfl hz3 hz3l hlC rfl rfl ?_; intro wq hxm hgm
          have rM : PlX w gb gd gc ge C (.slice fo fn fc) (.slice ao an ac) (.slice xo xn xc) (.slice yo yn yc) (.slice zo zn zc) wq := rN.stb hgm hxm hlC
          have H3 := Lib.hid hxm
          clear hxm hgm hz3 hz3l
          refine hK.out _ _ ?_ (fun _ => ?_)
          · exact rM
          try simp only [Act.put, List.getElem_toArray, List.getElem_cons_succ, List.getElem_cons_zero]
          have rN := rM
          refine wpAnyH_ready (rs := [3]) (by kernel_rfl) (by simp) ?_
          refine AllReadyH.cons rfl (fun K hK => ?_) AllReadyH.nil
          rw [if_pos (by kernel_rfl)]
          obtain ⟨y0, s0, u01, u02, u03, hz4⟩ := rN.zd
          refine wpStDK (y := C.addr) (s := C.aff) _ _ rfl rfl rfl hz4 rfl rfl rfl ?_; intro wp hxm hgm
          have rM : PlX w gb gd gc ge C (.slice fo fn fc) (.slice ao an ac) (.slice xo xn xc) (.slice yo yn yc) (.slice zo zn zc) wp := rN.std hgm hxm
          have HI2 : Hid (PlI w gb gd C (.slice fo fn fc) (.slice ao an ac) (.slice xo xn xc) (.slice yo yn yc) (.slice zo zn zc) wp) := Lib.hid ⟨blk_grownO H3.out hgm (fun e => rN.lo.2.2 (Option.some.inj e).symm), hxm, rM.both, rM.ap1, rM.ap2, rM.below, rM.lo⟩
          clear hxm hgm hz4
          refine hK.out _ _ ?_ (fun _ => ?_)
          · exact rM
          try simp only [Act.put, List.getElem_toArray, List.getElem_cons_succ, List.getElem_cons_zero]
          have rN := rM
          refine wpAnyH_done (by kernel_rfl) ?_ _
          have HI := HI2
          clear HI2
          obtain ⟨X, rfl⟩ : ∃ X, X = wp := ⟨_, rfl⟩
          go_upto_region 13 with fail
          refine wp_region_held_drew (S := (fun Y => Below X.heap.size X Y)) (by kernel_rfl) ?_ (fun rN => ?_)
          · exact ⟨rfl, rfl, rfl, Nat.le_refl _, fun _ _ => rfl⟩
          obtain ⟨wn, hwn⟩ : ∃ wn, wn = X.drew := ⟨_, rfl⟩
          rw [← hwn] at rN ⊢
          clear hwn
          have rN : Below X.heap.size X wn := rN
          refine wpAnyH_take (i := 0) (v := ?_) rfl (by kernel_rfl) (by kernel_rfl) (by kernel_rfl) (fun _ _ _ h => h) (Or.inl ⟨by rfl, ?_⟩) (by assumption) ?_
          rotate_left
          · intro wS hSw
            (try dsimp only at hSw)
            go_simp
            first | done | with_reducible rfl
          try simp only [Act.put, List.getElem_toArray, List.getElem_cons_zero, List.setIfInBounds_toArray, List.set_cons_zero, List.set_cons_succ]
          refine wpAnyH_take (i := 1) (v := ?_) rfl (by kernel_rfl) (by kernel_rfl) (by kernel_rfl) (fun _ _ _ h => h) (Or.inl ⟨by rfl, ?_⟩) (by assumption) ?_
          rotate_left
          · intro wS hSw
            (try dsimp only at hSw)
            go_simp
            first | done | with_reducible rfl
          try simp only [Act.put, List.getElem_toArray, List.getElem_cons_succ, List.getElem_cons_zero, List.setIfInBounds_toArray, List.set_cons_zero, List.set_cons_succ]
          refine wpAnyH_take (i := 2) (v := ?_) rfl (by kernel_rfl) (by kernel_rfl) (by kernel_rfl) (fun _ _ _ h => h) (Or.inl ⟨by rfl, ?_⟩) (by assumption) ?_
          rotate_left
          · intro wS hSw
            (try dsimp only at hSw)
            go_simp
            first | done | with_reducible rfl
          try simp only [Act.put, List.getElem_toArray, List.getElem_cons_succ, List.getElem_cons_zero, List.setIfInBounds_toArray, List.set_cons_zero, List.set_cons_succ]
          refine wpAnyH_take (i := 3) (v := _) rfl (by kernel_rfl) (by kernel_rfl) (by kernel_rfl) (fun _ _ _ h => h) (ldBIf (by rfl) _ rfl rfl (fun W hW => (HI.out.later hW).blk) hlC) (by assumption) ?_
          try simp only [Act.put, List.getElem_toArray, List.getElem_cons_succ, List.getElem_cons_zero, List.setIfInBounds_toArray, List.set_cons_zero, List.set_cons_succ]
          refine wpAnyH_take (i := 5) (v := _) rfl (by kernel_rfl) (by kernel_rfl) (by kernel_rfl) (fun _ _ _ h => h) (ldDIf (by rfl) _ rfl rfl (fun W hW => (HI.out.later hW).doc) ) (by assumption) ?_
          try simp only [Act.put, List.getElem_toArray, List.getElem_cons_succ, List.getElem_cons_zero, List.setIfInBounds_toArray, List.set_cons_zero, List.set_cons_succ]
          refine wpAnyH_ready (rs := [4]) (by kernel_rfl) (by simp) ?_
          refine AllReadyH.cons rfl (fun K hK => ?_) AllReadyH.nil
          go_simp
          refine (plain_any' C _ _ _ _ _ _ (HI.out.later rN).both).mono ?_; rintro z wm ⟨x1, x2, x3, y1, y2, y3, z1, z2, z3, rfl, hds, hbm⟩
          have rM : Below X.heap.size X wm := bel rN hbm
          have HDS := Lib.hid hds
          clear hbm hds
          refine hK.out _ _ ?_ (fun _ => ?_)
          · exact rM
          try simp only [Act.put, List.getElem_toArray, List.getElem_cons_succ, List.getElem_cons_zero, List.setIfInBounds_toArray, List.set_cons_zero, List.set_cons_succ]
          have rN := rM
          refine wpAnyH_ready (rs := [6]) (by kernel_rfl) (by simp) ?_
          refine AllReadyH.cons rfl (fun K hK => ?_) AllReadyH.nil
          go_simp
          refine (same_any' C _ _ _ _ _ _ _ _ _ (HI.out.later rN).both HDS.out).mono ?_; rintro z wm ⟨rfl, hbm⟩
          have rM : Below X.heap.size X wm := bel rN hbm
          clear hbm
          refine hK.out _ _ ?_ (fun _ => ?_)
          · exact rM
          try simp only [Act.put, List.getElem_toArray, List.getElem_cons_succ, List.getElem_cons_zero, List.setIfInBounds_toArray, List.set_cons_zero, List.set_cons_succ]
          have rN := rM
          refine wpAnyH_take (i := 7) (v := ?_) rfl (by kernel_rfl) (by kernel_rfl) (by kernel_rfl) (fun _ _ _ h => h) (Or.inl ⟨by rfl, ?_⟩) (by assumption) ?_
          rotate_left
          · intro wS hSw
            (try dsimp only at hSw)
            go_simp
            first | done | with_reducible rfl
          try simp only [Act.put, List.getElem_toArray, List.getElem_cons_succ, List.getElem_cons_zero, List.setIfInBounds_toArray, List.set_cons_zero, List.set_cons_succ]
          refine wpAnyH_take (i := 8) (v := ?_) rfl (by kernel_rfl) (by kernel_rfl) (by kernel_rfl) (fun _ _ _ h => h) (Or.inl ⟨by rfl, ?_⟩) (by assumption) ?_
          rotate_left
          · intro wS hSw
            (try dsimp only at hSw)
            go_simp
            first | done | with_reducible rfl
          try simp only [Act.put, List.getElem_toArray, List.getElem_cons_succ, List.getElem_cons_zero, List.setIfInBounds_toArray, List.set_cons_zero, List.set_cons_succ]
          refine wpAnyH_take (i := 9) (v := ?_) rfl (by kernel_rfl) (by kernel_rfl) (by kernel_rfl) (fun _ _ _ h => h) (Or.inl ⟨by rfl, ?_⟩) (by assumption) ?_
          rotate_left
          · intro wS hSw
            (try dsimp only at hSw)
            go_simp
            first | done | with_reducible rfl
          try simp only [Act.put, List.getElem_toArray, List.getElem_cons_succ, List.getElem_cons_zero, List.setIfInBounds_toArray, List.set_cons_zero, List.set_cons_succ]
          refine wpAnyH_take (i := 10) (v := _) rfl (by kernel_rfl) (by kernel_rfl) (by kernel_rfl) (fun _ _ _ h => h) (ldDIf (by rfl) _ rfl rfl (fun W hW => (HI.out.later hW).doc) ) (by assumption) ?_
          try simp only [Act.put, List.getElem_toArray, List.getElem_cons_succ, List.getElem_cons_zero, List.setIfInBounds_toArray, List.set_cons_zero, List.set_cons_succ]
          refine wpAnyH_ready (rs := [11]) (by kernel_rfl) (by simp) ?_
          refine AllReadyH.cons rfl (fun K hK => ?_) AllReadyH.nil
          go_simp
          refine (rightD_any' C _ _ _ _ _ _ (HI.out.later rN).both).mono ?_; rintro z wm ⟨rfl, hbm⟩
          have rM : Below X.heap.size X wm := bel rN hbm
          clear hbm
          refine hK.out _ _ ?_ (fun _ => ?_)
          · exact rM
          try simp only [Act.put, List.getElem_toArray, List.getElem_cons_succ, List.getElem_cons_zero, List.setIfInBounds_toArray, List.set_cons_zero, List.set_cons_succ]
          have rN := rM
          refine wpAnyH_take (i := 12) (v := ?_) rfl (by kernel_rfl) (by kernel_rfl) (by kernel_rfl) (fun _ _ _ h => h) (Or.inl ⟨by rfl, ?_⟩) (by assumption) ?_
          rotate_left
          · intro wS hSw
            (try dsimp only at hSw)
            go_simp
            first | done | with_reducible rfl
          try simp only [Act.put, List.getElem_toArray, List.getElem_cons_succ, List.getElem_cons_zero, List.setIfInBounds_toArray, List.set_cons_zero, List.set_cons_succ]
          refine wpAnyH_take (i := 13) (v := ?_) rfl (by kernel_rfl) (by kernel_rfl) (by kernel_rfl) (fun _ _ _ h => h) (Or.inl ⟨by rfl, ?_⟩) (by assumption) ?_
          rotate_left
          · intro wS hSw
            (try dsimp only at hSw)
            go_simp
            first | done | with_reducible rfl
          try simp only [Act.put, List.getElem_toArray, List.getElem_cons_succ, List.getElem_cons_zero, List.setIfInBounds_toArray, List.set_cons_zero, List.set_cons_succ]
          refine wpAnyH_take (i := 14) (v := ?_) rfl (by kernel_rfl) (by kernel_rfl) (by kernel_rfl) (fun _ _ _ h => h) (Or.inl ⟨by rfl, ?_⟩) (by assumption) ?_
          rotate_left
          · intro wS hSw
            (try dsimp only at hSw)
            go_simp
            first | done | with_reducible rfl
          try simp only [Act.put, List.getElem_toArray, List.getElem_cons_succ, List.getElem_cons_zero, List.setIfInBounds_toArray, List.set_cons_zero, List.set_cons_succ]
          refine wpAnyH_take (i := 15) (v := _) rfl (by kernel_rfl) (by kernel_rfl) (by kernel_rfl) (fun _ _ _ h => h) (ldBIf (by rfl) _ rfl rfl (fun W hW => (HI.out.later hW).blk) hlC) (by assumption) ?_
          try simp only [Act.put, List.getElem_toArray, List.getElem_cons_succ, List.getElem_cons_zero, List.setIfInBounds_toArray, List.set_cons_zero, List.set_cons_succ]
          refine wpAnyH_ready (rs := [16]) (by kernel_rfl) (by simp) ?_
          refine AllReadyH.cons rfl (fun K hK => ?_) AllReadyH.nil
          go_simp
          refine (rightB_any' C _ _ _ _ _ _ (HI.out.later rN).both).mono ?_; rintro z wm ⟨rfl, hbm⟩
          have rM : Below X.heap.size X wm := bel rN hbm
          clear hbm
          refine hK.out _ _ ?_ (fun _ => ?_)
          · exact rM
          try simp only [Act.put, List.getElem_toArray, List.getElem_cons_succ, List.getElem_cons_zero, List.setIfInBounds_toArray, List.set_cons_zero, List.set_cons_succ]
          have rN := rM
          refine wpAnyH_take (i := 17) (v := ?_) rfl (by kernel_rfl) (by kernel_rfl) (by kernel_rfl) (fun _ _ _ h => h) (Or.inl ⟨by rfl, ?_⟩) (by assumption) ?_
          rotate_left
          · intro wS hSw
            (try dsimp only at hSw)
            go_simp
            first | done | with_reducible rfl
          try simp only [Act.put, List.getElem_toArray, List.getElem_cons_succ, List.getElem_cons_zero, List.setIfInBounds_toArray, List.set_cons_zero, List.set_cons_succ]
          refine wpAnyH_take (i := 18) (v := ?_) rfl (by kernel_rfl) (by kernel_rfl) (by kernel_rfl) (fun _ _ _ h => h) (Or.inl ⟨by rfl, ?_⟩) (by assumption) ?_
          rotate_left
          · intro wS hSw
            (try dsimp only at hSw)
            go_simp
            first | done | with_reducible rfl
          try simp only [Act.put, List.getElem_toArray, List.getElem_cons_succ, List.getElem_cons_zero, List.setIfInBounds_toArray, List.set_cons_zero, List.set_cons_succ]
          refine wpAnyH_done (by kernel_rfl) ?_ _
          go_wp2_with fail
          go_roundw
          case rel => exact ⟨k + 1, C, fo, ao, xo, yo, zo, fn, fc, an, ac, xn, xc, yn, yc, zn, zc, by have := HLT.out; omega, by go_num, Lib.hid (HI.out.later rN)⟩
          case measure => simp [intOf]; have := HLT.out; omega
        · have dg : decide ((20 : Int) ≤ (k : Int)) = true := decide_eq_true (by omega)
          have dg' : decide (20 ≤ k) = true := decide_eq_true (by omega)
          go_wp2_with fail
          refine (HAW.out _).mono ?_; rintro e wz ⟨rfl, hbz⟩
          have HBZ := Lib.hid (bel HI4.out.below hbz)
          clear hbz
          go_wp2_with fail
          go_ret
          exact ⟨rfl, HBZ.out⟩
      · have dl : decide ((k : Int) < (L.length : Int)) = false := decide_eq_false (by omega)
        have dl' : decide (k < L.length) = false := decide_eq_false hlt
        go_wp2_with fail
        refine (HAW.out _).mono ?_; rintro e wz ⟨rfl, hbz⟩
        have HBZ := Lib.hid (bel HI.out.below hbz)
        clear hbz
        go_wp2_with fail
        go_ret
        exact ⟨rfl, HBZ.out⟩
end Go.Proofs.Ytgodmnpcedfdcaa
