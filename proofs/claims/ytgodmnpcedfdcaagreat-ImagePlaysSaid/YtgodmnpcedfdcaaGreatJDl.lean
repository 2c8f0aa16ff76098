/- Joined: BdL BdLa BdLb. -/
import Derived.Test.YtgodmnpcedfdcaaGreatJDc
namespace Go.Proofs.YtgodmnpcedfdcaaGreat
section
open Go.RowKit
theorem Sees.keepB8 {w w' : World} {v : Value} {xs : List Int} (h : Sees w v xs) (hb : ∀ d, v.ownBlock = some d → d < w.heap.size → w'.heap[d]? = w.heap[d]?) : Sees w' v xs := by
  obtain ⟨ao, c, rfl, hl, hn, hc⟩ := h
  refine ⟨ao, c, rfl, hl, hn, fun a ha i hi => ?_⟩
  have h1 := hc a ha i hi
  have hlt := cell_lt8 h1
  rw [add_block] at hlt
  have h2 : w'.cell? (a.add i) = w.cell? (a.add i) := World.cell?_of_block (by rw [add_block]; exact hb _ (by rw [ha]; rfl) hlt)
  rw [h2]
  exact h1
theorem sees_form {w : World} {v : Value} {xs : List Int} (h : Sees w v xs) : ∃ ao n c, v = .slice ao n c := by
  obtain ⟨ao, c, e, -⟩ := h
  exact ⟨_, _, _, e⟩
theorem seesA_form {w : World} {v : Value} {xs : List PA} (h : SeesA w v xs) : ∃ ao n c, v = .slice ao n c := by
  obtain ⟨ao, c, e, -⟩ := h
  exact ⟨_, _, _, e⟩
theorem seesG_form {α : Type} {s : Nat} {enc : α → List Value} {w : World} {v : Value} {L : List α} (h : SeesG s enc w v L) : ∃ ao n c, v = .slice ao n c := by
  obtain ⟨ao, c, e, -⟩ := h
  exact ⟨_, _, _, e⟩
theorem own_neB {w : World} {B g n s : Nat} {E : TypeId} {v fv av : Value} {xs : List Value} {b : BlkS} (h : w.ownsRow B E s v n xs) (hk : BlkAt w g b fv av) (hE : E ≠ 28) : v.ownBlock ≠ some g := fun e => by
  obtain ⟨_, ⟨e1, _⟩ | ⟨g', cap, cur, e1, _, hg, _⟩⟩ := h
  · rw [e1] at e; cases e
  · rw [e1] at e
    obtain rfl : g' = g := Option.some.inj e
    have hk' : w.heap[g']? = some (.cells (blkL b fv av).toArray 28 (0, 0)) := hk
    rw [hg] at hk'
    injection hk' with hk'
    injection hk' with _ h2
    exact hE h2
theorem blk_grownO {w w' : World} {g : Nat} {r : Option Nat} {b : BlkS} {fv av : Value} (h : BlkAt w g b fv av) (hg : w.grownBy w' r) (hne : r ≠ some g) : BlkAt w' g b fv av :=
  (hg.block g (heap_lt (show w.heap[g]? = some (.cells (blkL b fv av).toArray 28 (0, 0)) from h)) (fun e => hne e.symm)).trans h
theorem doc_grownO {w w' : World} {g : Nat} {r : Option Nat} {y : Int} {s : ByteArray} {v1 v2 v3 : Value} (h : DocAt w g y s v1 v2 v3) (hg : w.grownBy w' r) (hne : r ≠ some g) : DocAt w' g y s v1 v2 v3 :=
  (hg.block g (heap_lt (show w.heap[g]? = some (docO y s v1 v2 v3) from h)) (fun e => hne e.symm)).trans h
theorem resC {P : Program} {fn : Func} {a c x : Tmp} {t u : TypeId} (h : fn.results = #[.cell a t, .cell c u, .tmp x]) {tmps : Array Value} {ad ae : Addr} (hp : tmps.getD a undef = .pointer (some ad)) (hq : tmps.getD c undef = .pointer (some ae)) {w : World} {v z : Value} (hv : (loadVar t ad).run P w = .ok v w) (hz : (loadVar u ae).run P w = .ok z w) :
    (results fn tmps).run P w = .ok (.tuple #[v, z, tmps.getD x undef]) w := by
  have hp' := hp
  have hq' := hq
  simp only [Array.getD_eq_getD_getElem?] at hp' hq'
  simp [results, h, hp', hq', hv, hz, asAddr]
theorem ldDIf {ops : Array Oper} {S : World → Prop} {op : Oper} {a : Act} (hw : Region.wanted op (yielded ops a.tmps) = true) (x : Operand) (ho : op.op = .load 35 x) {g : Nat} (hx : a.eval x = .pointer (some ⟨g, 0, none⟩)) {y : Int} {s : ByteArray} {v1 v2 v3 : Value} (hS : ∀ W, S W → DocAt W g y s v1 v2 v3) :
    YieldsIf Tryz.prog ops S op (docV y s v1 v2 v3) a :=
  yieldsIf_load_mid hw _ x ho g 0 hx _ _ (fun W hW => (hS W hW).whole) Tryz.underlying35 rfl infoD
theorem wpLdDg {ops : Array Oper} {rest : List Oper} {o : Oper} {a : Act} {w : World} {Q : Exit → Act → World → Prop} {g : Nat} {y : Int} {s : ByteArray} {v1 v2 v3 : Value} (hw : Region.wanted o (yielded ops a.tmps) = true) (x : Operand) (ho : o.op = .load 35 x) (hx : a.eval x = .pointer (some ⟨g, 0, none⟩)) (h : DocAt w g y s v1 v2 v3)
    (hK : wpList Tryz.prog ops Q rest (a.put o.dst (docV y s v1 v2 v3)) w) : wpList Tryz.prog ops Q (o :: rest) a w :=
  wpList_step fun K hK2 => by
    rw [if_pos hw]
    exact wp_load_mid 35 x ho g 0 hx _ _ h.whole Tryz.underlying35 rfl infoD (hK2 _ _ hK)
/-- A block's lists, in both forms, lie elsewhere than in block g. -/
def ApB (g : Nat) (c : BlkS) (gv bv u1 u2 u3 : Value) : Prop := (c.free ≠ [] → gv.ownBlock ≠ some g) ∧ (c.attrs ≠ [] → bv.ownBlock ≠ some g) ∧ ApD g c u1 u2 u3
/-- What a step leads to: a block in both forms, answered alike; its lists are new, or lie where they lay. -/
def DoP (w : World) (b : BlkS) (fv av v1 v2 v3 : Value) (e : Ending) (w' : World) : Prop := ∃ c gv bv u1 u2 u3, e = .returned (.tuple #[.agg (blkL c gv bv).toArray, docV c.addr c.aff u1 u2 u3, .bool true]) ∧ Both w' c gv bv u1 u2 u3 ∧ Below w.heap.size w w' ∧ ∀ g, g < w.heap.size → ApB g b fv av v1 v2 v3 → ApB g c gv bv u1 u2 u3
theorem Both.ap {w : World} {c : BlkS} {fv av v1 v2 v3 : Value} (h : Both w c fv av v1 v2 v3) {g : Nat} (hg : w.heap.size ≤ g) : ApB g c fv av v1 v2 v3 := by
  refine ⟨fun hn e => ?_, fun hn e => ?_, h.doc.ap hg⟩
  · obtain ⟨ao, c', rfl, -, -, h3⟩ := h.free
    cases ao with
    | none => cases e
    | some a =>
      obtain rfl : a.block = g := Option.some.inj e
      have h4 := cell_lt8 (h3 a rfl 0 (List.length_pos_iff.2 hn))
      rw [add_block] at h4
      omega
  · obtain ⟨ao, c', rfl, -, -, h3⟩ := h.attrs
    cases ao with
    | none => cases e
    | some a =>
      obtain rfl : a.block = g := Option.some.inj e
      obtain ⟨p, L', hL⟩ := List.exists_cons_of_ne_nil hn
      have h4 := cell_lt8 (h3 a rfl 0 p (by rw [hL]; rfl)).1
      rw [add_block] at h4
      omega
theorem Both.grownA {X Y : World} {c : BlkS} {fv av v1 v2 v3 : Value} {g : Nat} (h : Both X c fv av v1 v2 v3) (ha : ApB g c fv av v1 v2 v3) (hg : X.grownBy Y (some g)) : Both Y c fv av v1 v2 v3 := by
  refine ⟨?_, ?_, h.doc.grownA ha.2.2 hg, h.wf, h.right⟩
  · by_cases hn : c.free = []
    · have h1 := h.free
      rw [hn] at h1 ⊢
      obtain ⟨ao, c', e, h2, h3, -⟩ := h1
      exact ⟨ao, c', e, h2, h3, fun _ _ i hi => by simp at hi⟩
    · exact h.free.keepB8 (fun d hd hl => hg.block d hl (fun e => ha.1 hn (by rw [hd, Option.some.inj e])))
  · by_cases hn : c.attrs = []
    · have h1 := h.attrs
      rw [hn] at h1 ⊢
      obtain ⟨ao, c', e, h2, h3, -⟩ := h1
      exact ⟨ao, c', e, h2, h3, fun _ _ i p hp => by simp at hp⟩
    · exact h.attrs.keep (fun d hd hl => hg.block d hl (fun e => ha.2.1 hn (by rw [hd, Option.some.inj e])))
theorem own_apB {w w' : World} {c : BlkS} {gv bv u1 u2 u3 : Value} {B : Nat} (hf : Owns w B gv c.free) (ha : RowA EAt w B bv c.attrs) (h1 : RowI1 w' B u1 c.sl) (h2 : RowI1 w' B u2 c.free) (h3 : RowG ERt 2 encA w' B u3 c.attrs) {g : Nat} (hg : g < B) : ApB g c gv bv u1 u2 u3 :=
  ⟨fun _ e => by have := (World.ownsRow.lt hf g e).1; omega, fun _ e => by have := (World.ownsRow.lt ha g e).1; omega, fun _ e => by have := (World.ownsRow.lt h1 g e).1; omega, fun _ e => by have := (World.ownsRow.lt h2 g e).1; omega, fun _ e => by have := (World.ownsRow.lt h3 g e).1; omega⟩
/-- A block in a variable of its own, its lists in blocks from B on. -/
structure VarO (X : World) (B g : Nat) (c : BlkS) (gv bv : Value) : Prop where
  blk : BlkAt X g c gv bv
  free : Owns X B gv c.free
  attrs : RowA EAt X B bv c.attrs
theorem VarO.below {X Y : World} {B g : Nat} {c : BlkS} {gv bv : Value} (h : VarO X B g c gv bv) (hb : Below X.heap.size X Y) : VarO Y B g c gv bv := ⟨h.blk.below hb, own_keep h.free hb, own_keep h.attrs hb⟩
theorem VarO.grown {X Y : World} {B g r : Nat} {c : BlkS} {gv bv : Value} (h : VarO X B g c gv bv) (hg : X.grownBy Y (some r)) (h1 : r < B) (h2 : B ≤ g) : VarO Y B g c gv bv :=
  ⟨blk_grownO h.blk hg (fun e => by have := Option.some.inj e; omega), own_grown h.free hg h1, own_grown h.attrs hg h1⟩
/-- What is handed in, in the variables' blocks. -/
structure LwI (w : World) (c : BlkS) (fv av v1 v2 v3 : Value) (o : Obj) (X : World) : Prop where
  blk : BlkAt X w.heap.size c fv av
  doc : DocAt X (w.heap.size + 1) c.addr c.aff v1 v2 v3
  attr : X.heap[w.heap.size + 2]? = some o
  below : Below w.heap.size w X
  size : w.heap.size + 5 ≤ X.heap.size
theorem LwI.later {w : World} {c : BlkS} {fv av v1 v2 v3 : Value} {o : Obj} {X Y : World} (h : LwI w c fv av v1 v2 v3 o X) (hb : Below X.heap.size X Y) : LwI w c fv av v1 v2 v3 o Y :=
  ⟨h.blk.below hb, h.doc.below hb, (hb.block _ (heap_lt h.attr)).trans h.attr, h.below.trans (hb.mono h.below.size), Nat.le_trans h.size hb.size⟩
theorem LwI.grown {w : World} {c : BlkS} {fv av v1 v2 v3 : Value} {o : Obj} {X Y : World} {r : Nat} (h : LwI w c fv av v1 v2 v3 o X) (hg : X.grownBy Y (some r)) (hr : w.heap.size + 3 ≤ r) : LwI w c fv av v1 v2 v3 o Y :=
  ⟨blk_grownO h.blk hg (fun e => by have := Option.some.inj e; omega), doc_grownO h.doc hg (fun e => by have := Option.some.inj e; omega), (hg.block _ (heap_lt h.attr) (fun e => by have := Option.some.inj e; omega)).trans h.attr, h.below.grown hg h.below.size (fun k hk => by cases hk; omega), Nat.le_trans h.size hg.size⟩
/-- .. and what is there besides: the other block, both results. -/
structure LwS (w : World) (b : BlkS) (fv av v1 v2 v3 : Value) (o : Obj) (g : Nat) (c : BlkS) (gv bv : Value) (Y : World) : Prop where
  inp : LwI w b fv av v1 v2 v3 o Y
  c : VarO Y (w.heap.size + 5) g c gv bv
  lo : w.heap.size + 5 ≤ g
  z3 : ∃ b0 f0 a0, BlkAt Y (w.heap.size + 3) b0 f0 a0 ∧ b0.sl.length = 64
  z4 : ∃ y s u1 u2 u3, DocAt Y (w.heap.size + 4) y s u1 u2 u3
theorem LwS.later {w : World} {b : BlkS} {fv av v1 v2 v3 : Value} {o : Obj} {g : Nat} {c : BlkS} {gv bv : Value} {X Y : World} (h : LwS w b fv av v1 v2 v3 o g c gv bv X) (hb : Below X.heap.size X Y) : LwS w b fv av v1 v2 v3 o g c gv bv Y := by
  obtain ⟨b0, f0, a0, h1, h2⟩ := h.z3
  obtain ⟨y, s, u1, u2, u3, h3⟩ := h.z4
  exact ⟨h.inp.later hb, h.c.below hb, h.lo, ⟨b0, f0, a0, h1.below hb, h2⟩, ⟨y, s, u1, u2, u3, h3.below hb⟩⟩
theorem LwS.st3 {w : World} {b : BlkS} {fv av v1 v2 v3 : Value} {o : Obj} {g : Nat} {c : BlkS} {gv bv : Value} {X Y : World} (h : LwS w b fv av v1 v2 v3 o g c gv bv X) (hg : X.grownBy Y (some (w.heap.size + 3))) {d : BlkS} {f1 a1 : Value} (hd : BlkAt Y (w.heap.size + 3) d f1 a1) (hl : d.sl.length = 64) : LwS w b fv av v1 v2 v3 o g c gv bv Y := by
  obtain ⟨y, s, u1, u2, u3, h3⟩ := h.z4
  exact ⟨h.inp.grown hg (Nat.le_refl _), h.c.grown hg (by omega) h.lo, h.lo, ⟨_, _, _, hd, hl⟩, ⟨y, s, u1, u2, u3, doc_grownO h3 hg (fun e => by have := Option.some.inj e; omega)⟩⟩
theorem LwS.st4 {w : World} {b : BlkS} {fv av v1 v2 v3 : Value} {o : Obj} {g : Nat} {c : BlkS} {gv bv : Value} {X Y : World} (h : LwS w b fv av v1 v2 v3 o g c gv bv X) (hg : X.grownBy Y (some (w.heap.size + 4))) {y : Int} {s : ByteArray} {u1 u2 u3 : Value} (hd : DocAt Y (w.heap.size + 4) y s u1 u2 u3) : LwS w b fv av v1 v2 v3 o g c gv bv Y := by
  obtain ⟨b0, f0, a0, h1, h2⟩ := h.z3
  exact ⟨h.inp.grown hg (by omega), h.c.grown hg (by omega) h.lo, h.lo, ⟨b0, f0, a0, blk_grownO h1 hg (fun e => by have := Option.some.inj e; omega), h2⟩, ⟨_, _, _, _, _, hd⟩⟩
/-- .. at the beginning. -/
structure Lw0 (w : World) (c : BlkS) (fv av v1 v2 v3 : Value) (o : Obj) (X : World) : Prop where
  inp : LwI w c fv av v1 v2 v3 o X
  zb : BlkAt X (w.heap.size + 3) zB NS NS
  zd : DocAt X (w.heap.size + 4) 0 ⟨#[]⟩ NS NS NS
theorem Lw0.later {w : World} {c : BlkS} {fv av v1 v2 v3 : Value} {o : Obj} {X Y : World} (h : Lw0 w c fv av v1 v2 v3 o X) (hb : Below X.heap.size X Y) : Lw0 w c fv av v1 v2 v3 o Y := ⟨h.inp.later hb, h.zb.below hb, h.zd.below hb⟩
theorem Lw0.new (w : World) (c : BlkS) (fv av v1 v2 v3 : Value) (o : Obj) :
    Lw0 w c fv av v1 v2 v3 o (((((w.alloc (blkO c fv av)).alloc (docO c.addr c.aff v1 v2 v3)).alloc o).alloc (blkO zB NS NS)).alloc (docO 0 ⟨#[]⟩ NS NS NS)) := by
  obtain ⟨W, rfl, hb, h0, h1, h2, h3, h4, hs⟩ := five_newB w (blkO c fv av) (docO c.addr c.aff v1 v2 v3) o (blkO zB NS NS) (docO 0 ⟨#[]⟩ NS NS NS)
  exact ⟨⟨h0, h1, h2, hb, Nat.le_of_eq hs.symm⟩, h3, h4⟩
/-- The other block made: all is there. -/
theorem Lw0.toS {w : World} {b : BlkS} {fv av v1 v2 v3 : Value} {o : Obj} {g : Nat} {c : BlkS} {gv bv : Value} {X : World} (h : Lw0 w b fv av v1 v2 v3 o X) (hc : VarO X (w.heap.size + 5) g c gv bv) (hg : w.heap.size + 5 ≤ g) : LwS w b fv av v1 v2 v3 o g c gv bv X :=
  ⟨h.inp, hc, hg, ⟨_, _, _, h.zb, zB_len⟩, ⟨_, _, _, _, _, h.zd⟩⟩
theorem sameZ : sameS zB zB = true := by decide +kernel
end
section
open Go.RowKit
set_option maxRecDepth 100000 in
set_option maxHeartbeats 16000000 in
theorem assign15_may (b : BlkS) (f1 a1 p1 q1 r1 : Option Addr) (f2 f3 a2 a3 p2 p3 q2 q3 r2 r3 : Nat) (a : PA) (x : Int) (w : World) (hB : Both w b (.slice f1 f2 f3) (.slice a1 a2 a3) (.slice p1 p2 p3) (.slice q1 q2 q3) (.slice r1 r2 r3)) (h1 : a.1.size ≤ maxLen) (h2 : a.2.size ≤ maxLen) (hx : 0 ≤ x) (hx' : x < 4294967296) (hm : mayP a = false) :
    Calls Tryz.prog 20 #[.agg (blkL b (.slice f1 f2 f3) (.slice a1 a2 a3)).toArray, docV b.addr b.aff (.slice p1 p2 p3) (.slice q1 q2 q3) (.slice r1 r2 r3), .int .u32 x, atV a] w (DoP w b (.slice f1 f2 f3) (.slice a1 a2 a3) (.slice p1 p2 p3) (.slice q1 q2 q3) (.slice r1 r2 r3)) := by
  have hl := hB.wf.2.1
  have HBo := Lib.hid hB
  have HM := Lib.hid (And.intro (And.intro h1 h2) (And.intro hx hx'))
  have HC : Hid (∀ Y, Lw0 w b (.slice f1 f2 f3) (.slice a1 a2 a3) (.slice p1 p2 p3) (.slice q1 q2 q3) (.slice r1 r2 r3) (rtO a) Y → Calls Tryz.prog 51 #[.agg (blkL b (.slice f1 f2 f3) (.slice a1 a2 a3)).toArray, .int .u32 x, atV a] Y fun e Z => ∃ fo fn fc ao an ac, e = .returned (.tuple #[.agg (blkL zB (.slice fo fn fc) (.slice ao an ac)).toArray, .int .i64 1]) ∧ Owns Z Y.heap.size (.slice fo fn fc) (zB).free ∧ RowA EAt Z Y.heap.size (.slice ao an ac) (zB).attrs ∧ Below Y.heap.size Y Z) := Lib.hid (by
    intro Y hY
    exact (assignAt_bad b _ _ x a Y (hB.free.keep hY.inp.below) (hB.attrs.below hY.inp.below) hB.wf hx hx' h1 h2 (by rw [hm]; cases rightB b <;> rfl)).mono fun e Z h => ⟨none, 0, 0, none, 0, 0, h.1, World.ownsRow_nil _ _ _ _, World.ownsRow_nil _ _ _ _, h.2⟩)
  obtain ⟨C, hC⟩ : ∃ C, C = zB := ⟨_, rfl⟩
  have HCL : Hid (C.sl.length = 64) := Lib.hid (by rw [hC]; exact zB_len)
  rw [← hC] at HC
  have HCZ := Lib.hid hC
  have HMY := refMayA_any a h1 h2
  rw [hm] at HMY
  have HMY := Lib.hid HMY
  have HLA := Lib.hid (fun w => lawAttr_any a w)
  have HS := Lib.hid (Lw0.new w b (.slice f1 f2 f3) (.slice a1 a2 a3) (.slice p1 p2 p3) (.slice q1 q2 q3) (.slice r1 r2 r3) (rtO a))
  obtain ⟨X, hX⟩ : ∃ X, X = (((((w.alloc (blkO b (.slice f1 f2 f3) (.slice a1 a2 a3))).alloc (docO b.addr b.aff (.slice p1 p2 p3) (.slice q1 q2 q3) (.slice r1 r2 r3))).alloc (rtO a)).alloc (blkO zB NS NS)).alloc (docO 0 ⟨#[]⟩ NS NS NS)) := ⟨_, rfl⟩
  rw [← hX] at HS
  have HW := Lib.hid hX
  clear h1 h2 hx hx' hm hB hX hC
  go_enter Tryz.func20, Tryz.ntmps20
  go_upto_region 1 with fail
  change Code.wp _ _ _ _ (((((w.alloc (blkO b (.slice f1 f2 f3) (.slice a1 a2 a3))).alloc (docO b.addr b.aff (.slice p1 p2 p3) (.slice q1 q2 q3) (.slice r1 r2 r3))).alloc (rtO a)).alloc (blkO zB NS NS)).alloc (docO 0 ⟨#[]⟩ NS NS NS))
  rw [← HW.out]
  clear HW
  go_cut [11, 12] (fun s11 s12 wx => ∃ (g : Nat) (fo : Option Addr) (fn fc : Nat) (ao : Option Addr) (an ac : Nat), s11 = .pointer (some ⟨g, 0, none⟩) ∧ s12 = .int .i64 1 ∧ Hid (Lw0 w b (.slice f1 f2 f3) (.slice a1 a2 a3) (.slice p1 p2 p3) (.slice q1 q2 q3) (.slice r1 r2 r3) (rtO a) wx ∧ VarO wx (w.heap.size + 5) g C (.slice fo fn fc) (.slice ao an ac) ∧ w.heap.size + 5 ≤ g))
  case first =>
    refine wp_region_held_drew (S := (fun Y => Below X.heap.size X Y)) (by kernel_rfl) ?_ (fun rN => ?_)
    · exact ⟨rfl, rfl, rfl, Nat.le_refl _, fun _ _ => rfl⟩
    obtain ⟨wn, hwn⟩ : ∃ wn, wn = X.drew := ⟨_, rfl⟩
    rw [← hwn] at rN ⊢
    clear hwn
    have rN : Below X.heap.size X wn := rN
    refine wpAnyH_take (i := 0) (v := _) rfl (by kernel_rfl) (by kernel_rfl) (by kernel_rfl) (fun _ _ _ h => h) (ldBIf (by rfl) _ rfl rfl (fun W hW => (HS.out.later hW).inp.blk) hl) (by assumption) ?_
    try simp only [Act.put, List.getElem_toArray, List.getElem_cons_zero, List.setIfInBounds_toArray, List.set_cons_zero, List.set_cons_succ]
    refine wpAnyH_take (i := 1) (v := ?_) rfl (by kernel_rfl) (by kernel_rfl) (by kernel_rfl) (fun _ _ _ h => h) (Or.inl ⟨by rfl, ?_⟩) (by assumption) ?_
    rotate_left
    · intro wS hSw
      (try dsimp only at hSw)
      go_simp
      first | done | with_reducible rfl
    try simp only [Act.put, List.getElem_toArray, List.getElem_cons_succ, List.getElem_cons_zero, List.setIfInBounds_toArray, List.set_cons_zero, List.set_cons_succ]
    refine wpAnyH_take (i := 2) (v := ?_) rfl (by kernel_rfl) (by kernel_rfl) (by kernel_rfl) (fun _ _ _ h => h) (Or.inl ⟨by rfl, ?_⟩) (by assumption) ?_
    rotate_left
    · intro wS hSw
      (try dsimp only at hSw)
      obtain ⟨m0, m1⟩ := acells (HS.out.later hSw).inp.attr
      go_simp
      first | done | with_reducible rfl
    try simp only [Act.put, List.getElem_toArray, List.getElem_cons_succ, List.getElem_cons_zero, List.setIfInBounds_toArray, List.set_cons_zero, List.set_cons_succ]
    refine wpAnyH_ready (rs := [3, 8]) (by kernel_rfl) (by simp) ?_
    refine AllReadyH.cons rfl (fun K hK => ?_) (AllReadyH.cons rfl (fun K hK => ?_) AllReadyH.nil)
    · go_simp
      refine (HLA.out _).mono ?_; rintro z wm ⟨rfl, hbm⟩
      have rM : Below X.heap.size X wm := bel rN hbm
      clear hbm
      refine hK.out _ _ ?_ (fun _ => ?_)
      · exact rM
      try simp only [Act.put, List.getElem_toArray, List.getElem_cons_succ, List.getElem_cons_zero, List.setIfInBounds_toArray, List.set_cons_zero, List.set_cons_succ]
      have rN := rM
      refine wpAnyH_ready (rs := [4, 8]) (by kernel_rfl) (by simp) ?_
      refine AllReadyH.cons rfl (fun K hK => ?_) (AllReadyH.cons rfl (fun K hK => ?_) AllReadyH.nil)
      · go_simp
        refine (HC.out _ (HS.out.later rN)).mono ?_; rintro z wm ⟨fo, fn, fc, ao, an, ac, rfl, hfr, hat, hbm⟩
        have rM : Below X.heap.size X wm := bel rN hbm
        have HR := Lib.hid (And.intro (own_le hfr (Nat.le_trans HS.out.inp.size rN.size)) (own_le hat (Nat.le_trans HS.out.inp.size rN.size)))
        clear hbm hfr hat
        refine hK.out _ _ ?_ (fun _ => ?_)
        · exact rM
        try simp only [Act.put, List.getElem_toArray, List.getElem_cons_succ, List.getElem_cons_zero, List.setIfInBounds_toArray, List.set_cons_zero, List.set_cons_succ]
        have rN := rM
        refine wpAnyH_take (i := 5) (v := ?_) rfl (by kernel_rfl) (by kernel_rfl) (by kernel_rfl) (fun _ _ _ h => h) (Or.inl ⟨by rfl, ?_⟩) (by assumption) ?_
        rotate_left
        · intro wS hSw
          (try dsimp only at hSw)
          go_simp
          first | done | with_reducible rfl
        try simp only [Act.put, List.getElem_toArray, List.getElem_cons_succ, List.getElem_cons_zero, List.setIfInBounds_toArray, List.set_cons_zero, List.set_cons_succ]
        refine wpAnyH_take (i := 6) (v := ?_) rfl (by kernel_rfl) (by kernel_rfl) (by kernel_rfl) (fun _ _ _ h => h) (Or.inl ⟨by rfl, ?_⟩) (by assumption) ?_
        rotate_left
        · intro wS hSw
          (try dsimp only at hSw)
          go_simp
          first | done | with_reducible rfl
        try simp only [Act.put, List.getElem_toArray, List.getElem_cons_succ, List.getElem_cons_zero, List.setIfInBounds_toArray, List.set_cons_zero, List.set_cons_succ]
        refine wpAnyH_take (i := 7) (v := ?_) rfl (by kernel_rfl) (by kernel_rfl) (by kernel_rfl) (fun _ _ _ h => h) (Or.inl ⟨by rfl, ?_⟩) (by assumption) ?_
        rotate_left
        · intro wS hSw
          (try dsimp only at hSw)
          go_simp
          first | done | with_reducible rfl
        try simp only [Act.put, List.getElem_toArray, List.getElem_cons_succ, List.getElem_cons_zero, List.setIfInBounds_toArray, List.set_cons_zero, List.set_cons_succ]
        refine wpAnyH_ready (rs := [8]) (by kernel_rfl) (by simp) ?_
        refine AllReadyH.cons rfl (fun K hK => ?_) AllReadyH.nil
        go_simp
        have hz0 := heap_new wm (blkO zB NS NS)
        have hbm := belNew wm (blkO zB NS NS)
        obtain ⟨wz, hwm⟩ : ∃ wz : World, wz = wm.alloc (blkO zB NS NS) := ⟨_, rfl⟩
        rw [← hwm] at hz0 hbm
        have rM : Below X.heap.size X wz := bel rN hbm
        obtain ⟨gz, hgz⟩ : ∃ gz, gz = wm.heap.size := ⟨_, rfl⟩
        have hgx : X.heap.size ≤ gz := by rw [hgz]; exact rN.size
        rw [← hgz] at hz0
        have HZ : Hid (BlkAt wz gz zB NS NS ∧ X.heap.size ≤ gz) := Lib.hid ⟨hz0, hgx⟩
        have HR := Lib.hid (And.intro (own_keep HR.out.1 hbm) (own_keep HR.out.2 hbm))
        change K _ (wm.alloc (blkO zB NS NS))
        rw [← hwm, ← hgz]
        clear hwm hgz hz0 hbm hgx
        refine hK.out _ _ ?_ (fun _ => ?_)
        · exact rM
        try simp only [Act.put, List.getElem_toArray, List.getElem_cons_succ, List.getElem_cons_zero, List.setIfInBounds_toArray, List.set_cons_zero, List.set_cons_succ]
        have rN := rM
        refine wpAnyH_ready (rs := [9]) (by kernel_rfl) (by simp) ?_
        refine AllReadyH.cons rfl (fun K hK => ?_) AllReadyH.nil
        rw [if_pos (by kernel_rfl)]
        refine wpStBK (b := C) _ _ rfl rfl rfl HZ.out.1 zB_len HCL.out rfl rfl ?_; intro wq hxm hgm
        have rM : Below X.heap.size X wq := rN.grown hgm rN.size (fun k hk => by cases hk; exact HZ.out.2)
        have HV : Hid (VarO wq (w.heap.size + 5) gz C (.slice fo fn fc) (.slice ao an ac)) := Lib.hid ⟨hxm, own_grownO HR.out.1 hgm (fun k hk e => own_neB HR.out.1 HZ.out.1 (by decide) (hk.trans e.symm)), own_grownO HR.out.2 hgm (fun k hk e => own_neB HR.out.2 HZ.out.1 (by decide) (hk.trans e.symm))⟩
        clear hxm hgm
        refine hK.out _ _ ?_ (fun _ => ?_)
        · exact rM
        try simp only [Act.put, List.getElem_toArray, List.getElem_cons_succ, List.getElem_cons_zero]
        have rN := rM
        refine wpAnyH_take (i := 10) (v := ?_) rfl (by kernel_rfl) (by kernel_rfl) (by kernel_rfl) (fun _ _ _ h => h) (Or.inl ⟨by rfl, ?_⟩) (by assumption) ?_
        rotate_left
        · intro wS hSw
          (try dsimp only at hSw)
          go_simp
          first | done | with_reducible rfl
        try simp only [Act.put, List.getElem_toArray, List.getElem_cons_succ, List.getElem_cons_zero, List.setIfInBounds_toArray, List.set_cons_zero, List.set_cons_succ]
        refine wpAnyH_done (by kernel_rfl) ?_ _
        (try go_wp2_with fail)
        go_meet
        exact ⟨gz, fo, fn, fc, ao, an, ac, rfl, rfl, Lib.hid ⟨HS.out.later rN, HV.out, Nat.le_trans HS.out.inp.size HZ.out.2⟩⟩
      · go_simp
        have hz0 := heap_new wm (blkO zB NS NS)
        have hbm := belNew wm (blkO zB NS NS)
        obtain ⟨wz, hwm⟩ : ∃ wz : World, wz = wm.alloc (blkO zB NS NS) := ⟨_, rfl⟩
        rw [← hwm] at hz0 hbm
        have rM : Below X.heap.size X wz := bel rN hbm
        obtain ⟨gz, hgz⟩ : ∃ gz, gz = wm.heap.size := ⟨_, rfl⟩
        have hgx : X.heap.size ≤ gz := by rw [hgz]; exact rN.size
        rw [← hgz] at hz0
        have HZ : Hid (BlkAt wz gz zB NS NS ∧ X.heap.size ≤ gz) := Lib.hid ⟨hz0, hgx⟩
        change K _ (wm.alloc (blkO zB NS NS))
        rw [← hwm, ← hgz]
        clear hwm hgz hz0 hbm hgx
        refine hK.out _ _ ?_ (fun _ => ?_)
        · exact rM
        try simp only [Act.put, List.getElem_toArray, List.getElem_cons_succ, List.getElem_cons_zero, List.setIfInBounds_toArray, List.set_cons_zero, List.set_cons_succ]
        have rN := rM
        refine wpAnyH_ready (rs := [4]) (by kernel_rfl) (by simp) ?_
        refine AllReadyH.cons rfl (fun K hK => ?_) AllReadyH.nil
        go_simp
        refine (HC.out _ (HS.out.later rN)).mono ?_; rintro z wm ⟨fo, fn, fc, ao, an, ac, rfl, hfr, hat, hbm⟩
        have rM : Below X.heap.size X wm := bel rN hbm
        have HZ := Lib.hid (And.intro (HZ.out.1.below hbm) HZ.out.2)
        have HR := Lib.hid (And.intro (own_le hfr (Nat.le_trans HS.out.inp.size rN.size)) (own_le hat (Nat.le_trans HS.out.inp.size rN.size)))
        clear hbm hfr hat
        refine hK.out _ _ ?_ (fun _ => ?_)
        · exact rM
        try simp only [Act.put, List.getElem_toArray, List.getElem_cons_succ, List.getElem_cons_zero, List.setIfInBounds_toArray, List.set_cons_zero, List.set_cons_succ]
        have rN := rM
        refine wpAnyH_take (i := 5) (v := ?_) rfl (by kernel_rfl) (by kernel_rfl) (by kernel_rfl) (fun _ _ _ h => h) (Or.inl ⟨by rfl, ?_⟩) (by assumption) ?_
        rotate_left
        · intro wS hSw
          (try dsimp only at hSw)
          go_simp
          first | done | with_reducible rfl
        try simp only [Act.put, List.getElem_toArray, List.getElem_cons_succ, List.getElem_cons_zero, List.setIfInBounds_toArray, List.set_cons_zero, List.set_cons_succ]
        refine wpAnyH_take (i := 6) (v := ?_) rfl (by kernel_rfl) (by kernel_rfl) (by kernel_rfl) (fun _ _ _ h => h) (Or.inl ⟨by rfl, ?_⟩) (by assumption) ?_
        rotate_left
        · intro wS hSw
          (try dsimp only at hSw)
          go_simp
          first | done | with_reducible rfl
        try simp only [Act.put, List.getElem_toArray, List.getElem_cons_succ, List.getElem_cons_zero, List.setIfInBounds_toArray, List.set_cons_zero, List.set_cons_succ]
        refine wpAnyH_take (i := 7) (v := ?_) rfl (by kernel_rfl) (by kernel_rfl) (by kernel_rfl) (fun _ _ _ h => h) (Or.inl ⟨by rfl, ?_⟩) (by assumption) ?_
        rotate_left
        · intro wS hSw
          (try dsimp only at hSw)
          go_simp
          first | done | with_reducible rfl
        try simp only [Act.put, List.getElem_toArray, List.getElem_cons_succ, List.getElem_cons_zero, List.setIfInBounds_toArray, List.set_cons_zero, List.set_cons_succ]
        refine wpAnyH_ready (rs := [9]) (by kernel_rfl) (by simp) ?_
        refine AllReadyH.cons rfl (fun K hK => ?_) AllReadyH.nil
        rw [if_pos (by kernel_rfl)]
        refine wpStBK (b := C) _ _ rfl rfl rfl HZ.out.1 zB_len HCL.out rfl rfl ?_; intro wq hxm hgm
        have rM : Below X.heap.size X wq := rN.grown hgm rN.size (fun k hk => by cases hk; exact HZ.out.2)
        have HV : Hid (VarO wq (w.heap.size + 5) gz C (.slice fo fn fc) (.slice ao an ac)) := Lib.hid ⟨hxm, own_grownO HR.out.1 hgm (fun k hk e => own_neB HR.out.1 HZ.out.1 (by decide) (hk.trans e.symm)), own_grownO HR.out.2 hgm (fun k hk e => own_neB HR.out.2 HZ.out.1 (by decide) (hk.trans e.symm))⟩
        clear hxm hgm
        refine hK.out _ _ ?_ (fun _ => ?_)
        · exact rM
        try simp only [Act.put, List.getElem_toArray, List.getElem_cons_succ, List.getElem_cons_zero]
        have rN := rM
        refine wpAnyH_take (i := 10) (v := ?_) rfl (by kernel_rfl) (by kernel_rfl) (by kernel_rfl) (fun _ _ _ h => h) (Or.inl ⟨by rfl, ?_⟩) (by assumption) ?_
        rotate_left
        · intro wS hSw
          (try dsimp only at hSw)
          go_simp
          first | done | with_reducible rfl
        try simp only [Act.put, List.getElem_toArray, List.getElem_cons_succ, List.getElem_cons_zero, List.setIfInBounds_toArray, List.set_cons_zero, List.set_cons_succ]
        refine wpAnyH_done (by kernel_rfl) ?_ _
        (try go_wp2_with fail)
        go_meet
        exact ⟨gz, fo, fn, fc, ao, an, ac, rfl, rfl, Lib.hid ⟨HS.out.later rN, HV.out, Nat.le_trans HS.out.inp.size HZ.out.2⟩⟩
    · go_simp
      have hz0 := heap_new wn (blkO zB NS NS)
      have hbm := belNew wn (blkO zB NS NS)
      obtain ⟨wz, hwm⟩ : ∃ wz : World, wz = wn.alloc (blkO zB NS NS) := ⟨_, rfl⟩
      rw [← hwm] at hz0 hbm
      have rM : Below X.heap.size X wz := bel rN hbm
      obtain ⟨gz, hgz⟩ : ∃ gz, gz = wn.heap.size := ⟨_, rfl⟩
      have hgx : X.heap.size ≤ gz := by rw [hgz]; exact rN.size
      rw [← hgz] at hz0
      have HZ : Hid (BlkAt wz gz zB NS NS ∧ X.heap.size ≤ gz) := Lib.hid ⟨hz0, hgx⟩
      change K _ (wn.alloc (blkO zB NS NS))
      rw [← hwm, ← hgz]
      clear hwm hgz hz0 hbm hgx
      refine hK.out _ _ ?_ (fun _ => ?_)
      · exact rM
      try simp only [Act.put, List.getElem_toArray, List.getElem_cons_succ, List.getElem_cons_zero, List.setIfInBounds_toArray, List.set_cons_zero, List.set_cons_succ]
      have rN := rM
      refine wpAnyH_ready (rs := [3]) (by kernel_rfl) (by simp) ?_
      refine AllReadyH.cons rfl (fun K hK => ?_) AllReadyH.nil
      go_simp
      refine (HLA.out _).mono ?_; rintro z wm ⟨rfl, hbm⟩
      have rM : Below X.heap.size X wm := bel rN hbm
      have HZ := Lib.hid (And.intro (HZ.out.1.below hbm) HZ.out.2)
      clear hbm
      refine hK.out _ _ ?_ (fun _ => ?_)
      · exact rM
      try simp only [Act.put, List.getElem_toArray, List.getElem_cons_succ, List.getElem_cons_zero, List.setIfInBounds_toArray, List.set_cons_zero, List.set_cons_succ]
      have rN := rM
      refine wpAnyH_ready (rs := [4]) (by kernel_rfl) (by simp) ?_
      refine AllReadyH.cons rfl (fun K hK => ?_) AllReadyH.nil
      go_simp
      refine (HC.out _ (HS.out.later rN)).mono ?_; rintro z wm ⟨fo, fn, fc, ao, an, ac, rfl, hfr, hat, hbm⟩
      have rM : Below X.heap.size X wm := bel rN hbm
      have HZ := Lib.hid (And.intro (HZ.out.1.below hbm) HZ.out.2)
      have HR := Lib.hid (And.intro (own_le hfr (Nat.le_trans HS.out.inp.size rN.size)) (own_le hat (Nat.le_trans HS.out.inp.size rN.size)))
      clear hbm hfr hat
      refine hK.out _ _ ?_ (fun _ => ?_)
      · exact rM
      try simp only [Act.put, List.getElem_toArray, List.getElem_cons_succ, List.getElem_cons_zero, List.setIfInBounds_toArray, List.set_cons_zero, List.set_cons_succ]
      have rN := rM
      refine wpAnyH_take (i := 5) (v := ?_) rfl (by kernel_rfl) (by kernel_rfl) (by kernel_rfl) (fun _ _ _ h => h) (Or.inl ⟨by rfl, ?_⟩) (by assumption) ?_
      rotate_left
      · intro wS hSw
        (try dsimp only at hSw)
        go_simp
        first | done | with_reducible rfl
      try simp only [Act.put, List.getElem_toArray, List.getElem_cons_succ, List.getElem_cons_zero, List.setIfInBounds_toArray, List.set_cons_zero, List.set_cons_succ]
      refine wpAnyH_take (i := 6) (v := ?_) rfl (by kernel_rfl) (by kernel_rfl) (by kernel_rfl) (fun _ _ _ h => h) (Or.inl ⟨by rfl, ?_⟩) (by assumption) ?_
      rotate_left
      · intro wS hSw
        (try dsimp only at hSw)
        go_simp
        first | done | with_reducible rfl
      try simp only [Act.put, List.getElem_toArray, List.getElem_cons_succ, List.getElem_cons_zero, List.setIfInBounds_toArray, List.set_cons_zero, List.set_cons_succ]
      refine wpAnyH_take (i := 7) (v := ?_) rfl (by kernel_rfl) (by kernel_rfl) (by kernel_rfl) (fun _ _ _ h => h) (Or.inl ⟨by rfl, ?_⟩) (by assumption) ?_
      rotate_left
      · intro wS hSw
        (try dsimp only at hSw)
        go_simp
        first | done | with_reducible rfl
      try simp only [Act.put, List.getElem_toArray, List.getElem_cons_succ, List.getElem_cons_zero, List.setIfInBounds_toArray, List.set_cons_zero, List.set_cons_succ]
      refine wpAnyH_ready (rs := [9]) (by kernel_rfl) (by simp) ?_
      refine AllReadyH.cons rfl (fun K hK => ?_) AllReadyH.nil
      rw [if_pos (by kernel_rfl)]
      refine wpStBK (b := C) _ _ rfl rfl rfl HZ.out.1 zB_len HCL.out rfl rfl ?_; intro wq hxm hgm
      have rM : Below X.heap.size X wq := rN.grown hgm rN.size (fun k hk => by cases hk; exact HZ.out.2)
      have HV : Hid (VarO wq (w.heap.size + 5) gz C (.slice fo fn fc) (.slice ao an ac)) := Lib.hid ⟨hxm, own_grownO HR.out.1 hgm (fun k hk e => own_neB HR.out.1 HZ.out.1 (by decide) (hk.trans e.symm)), own_grownO HR.out.2 hgm (fun k hk e => own_neB HR.out.2 HZ.out.1 (by decide) (hk.trans e.symm))⟩
      clear hxm hgm
      refine hK.out _ _ ?_ (fun _ => ?_)
      · exact rM
      try simp only [Act.put, List.getElem_toArray, List.getElem_cons_succ, List.getElem_cons_zero]
      have rN := rM
      refine wpAnyH_take (i := 10) (v := ?_) rfl (by kernel_rfl) (by kernel_rfl) (by kernel_rfl) (fun _ _ _ h => h) (Or.inl ⟨by rfl, ?_⟩) (by assumption) ?_
      rotate_left
      · intro wS hSw
        (try dsimp only at hSw)
        go_simp
        first | done | with_reducible rfl
      try simp only [Act.put, List.getElem_toArray, List.getElem_cons_succ, List.getElem_cons_zero, List.setIfInBounds_toArray, List.set_cons_zero, List.set_cons_succ]
      refine wpAnyH_done (by kernel_rfl) ?_ _
      (try go_wp2_with fail)
      go_meet
      exact ⟨gz, fo, fn, fc, ao, an, ac, rfl, rfl, Lib.hid ⟨HS.out.later rN, HV.out, Nat.le_trans HS.out.inp.size HZ.out.2⟩⟩
  case rest =>
    obtain ⟨g, fo, fn, fc, ao, an, ac, rfl, rfl, HC0⟩ := hcut
    obtain ⟨X, rfl⟩ : ∃ X, X = wc := ⟨_, rfl⟩
    obtain rfl : C = zB := HCZ.out
    have HX : Hid (LwS w b (.slice f1 f2 f3) (.slice a1 a2 a3) (.slice p1 p2 p3) (.slice q1 q2 q3) (.slice r1 r2 r3) (rtO a) g zB (.slice fo fn fc) (.slice ao an ac) X) := Lib.hid (HC0.out.1.toS HC0.out.2.1 HC0.out.2.2)
    have HZR : Hid (∀ Y, LwS w b (.slice f1 f2 f3) (.slice a1 a2 a3) (.slice p1 p2 p3) (.slice q1 q2 q3) (.slice r1 r2 r3) (rtO a) g zB (.slice fo fn fc) (.slice ao an ac) Y → Calls Tryz.prog 17 #[.agg (blkL zB (.slice fo fn fc) (.slice ao an ac)).toArray] Y fun e w' => e = .returned (.bool true) ∧ Below Y.heap.size Y w') := Lib.hid (fun Y hY => by
      have := zero15_any zB _ _ Y hY.c.free.sees (RowA.sees hY.c.attrs) zB_len (by decide) (by decide)
      rw [sameZ] at this
      exact this)
    obtain ⟨y0, y1⟩ := acells HC0.out.1.inp.attr
    go_wp2_with fail
    refine (HMY.out _).mono ?_; rintro e w3 ⟨rfl, hb3⟩
    have HX := Lib.hid (HX.out.later hb3)
    clear hb3 y0 y1 HC0 HS
    obtain ⟨X, rfl⟩ : ∃ X, X = w3 := ⟨_, rfl⟩
    go_upto_region 3 with fail
    refine wp_region_held_drew (S := (fun Y => LwS w b (.slice f1 f2 f3) (.slice a1 a2 a3) (.slice p1 p2 p3) (.slice q1 q2 q3) (.slice r1 r2 r3) (rtO a) g zB (.slice fo fn fc) (.slice ao an ac) Y)) (by kernel_rfl) ?_ (fun rN => ?_)
    · exact HX.out.later ⟨rfl, rfl, rfl, Nat.le_refl _, fun _ _ => rfl⟩
    obtain ⟨wn, hwn⟩ : ∃ wn, wn = X.drew := ⟨_, rfl⟩
    rw [← hwn] at rN ⊢
    clear hwn
    have rN : LwS w b (.slice f1 f2 f3) (.slice a1 a2 a3) (.slice p1 p2 p3) (.slice q1 q2 q3) (.slice r1 r2 r3) (rtO a) g zB (.slice fo fn fc) (.slice ao an ac) wn := rN
    refine wpAnyH_take (i := 0) (v := _) rfl (by kernel_rfl) (by kernel_rfl) (by kernel_rfl) (fun _ _ _ h => h) (ldBIf (by rfl) _ rfl rfl (fun W hW => hW.inp.blk) hl) (by assumption) ?_
    try simp only [Act.put, List.getElem_toArray, List.getElem_cons_zero, List.setIfInBounds_toArray, List.set_cons_zero, List.set_cons_succ]
    refine wpAnyH_take (i := 1) (v := _) rfl (by kernel_rfl) (by kernel_rfl) (by kernel_rfl) (fun _ _ _ h => h) (ldDIf (by rfl) _ rfl rfl (fun W hW => hW.inp.doc) ) (by assumption) ?_
    try simp only [Act.put, List.getElem_toArray, List.getElem_cons_succ, List.getElem_cons_zero, List.setIfInBounds_toArray, List.set_cons_zero, List.set_cons_succ]
    refine wpAnyH_take (i := 2) (v := ?_) rfl (by kernel_rfl) (by kernel_rfl) (by kernel_rfl) (fun _ _ _ h => h) (Or.inl ⟨by rfl, ?_⟩) (by assumption) ?_
    rotate_left
    · intro wS hSw
      (try dsimp only at hSw)
      go_simp
      first | done | with_reducible rfl
    try simp only [Act.put, List.getElem_toArray, List.getElem_cons_succ, List.getElem_cons_zero, List.setIfInBounds_toArray, List.set_cons_zero, List.set_cons_succ]
    refine wpAnyH_take (i := 3) (v := ?_) rfl (by kernel_rfl) (by kernel_rfl) (by kernel_rfl) (fun _ _ _ h => h) (Or.inl ⟨by rfl, ?_⟩) (by assumption) ?_
    rotate_left
    · intro wS hSw
      (try dsimp only at hSw)
      go_simp
      first | done | with_reducible rfl
    try simp only [Act.put, List.getElem_toArray, List.getElem_cons_succ, List.getElem_cons_zero, List.setIfInBounds_toArray, List.set_cons_zero, List.set_cons_succ]
    refine wpAnyH_take (i := 4) (v := ?_) rfl (by kernel_rfl) (by kernel_rfl) (by kernel_rfl) (fun _ _ _ h => h) (Or.inl ⟨by rfl, ?_⟩) (by assumption) ?_
    rotate_left
    · intro wS hSw
      (try dsimp only at hSw)
      go_simp
      first | done | with_reducible rfl
    try simp only [Act.put, List.getElem_toArray, List.getElem_cons_succ, List.getElem_cons_zero, List.setIfInBounds_toArray, List.set_cons_zero, List.set_cons_succ]
    refine wpAnyH_take (i := 5) (v := _) rfl (by kernel_rfl) (by kernel_rfl) (by kernel_rfl) (fun _ _ _ h => h) (ldBIf (by rfl) _ rfl rfl (fun W hW => hW.c.blk) zB_len) (by assumption) ?_
    try simp only [Act.put, List.getElem_toArray, List.getElem_cons_succ, List.getElem_cons_zero, List.setIfInBounds_toArray, List.set_cons_zero, List.set_cons_succ]
    refine wpAnyH_ready (rs := [6]) (by kernel_rfl) (by simp) ?_
    refine AllReadyH.cons rfl (fun K hK => ?_) AllReadyH.nil
    go_simp
    refine (HZR.out _ rN).mono ?_; rintro z wm ⟨rfl, hbm⟩
    have rM : LwS w b (.slice f1 f2 f3) (.slice a1 a2 a3) (.slice p1 p2 p3) (.slice q1 q2 q3) (.slice r1 r2 r3) (rtO a) g zB (.slice fo fn fc) (.slice ao an ac) wm := rN.later hbm
    clear hbm
    refine hK.out _ _ ?_ (fun _ => ?_)
    · exact rM
    try simp only [Act.put, List.getElem_toArray, List.getElem_cons_succ, List.getElem_cons_zero, List.setIfInBounds_toArray, List.set_cons_zero, List.set_cons_succ]
    have rN := rM
    refine wpAnyH_take (i := 7) (v := ?_) rfl (by kernel_rfl) (by kernel_rfl) (by kernel_rfl) (fun _ _ _ h => h) (Or.inl ⟨by rfl, ?_⟩) (by assumption) ?_
    rotate_left
    · intro wS hSw
      (try dsimp only at hSw)
      go_simp
      first | done | with_reducible rfl
    try simp only [Act.put, List.getElem_toArray, List.getElem_cons_succ, List.getElem_cons_zero, List.setIfInBounds_toArray, List.set_cons_zero, List.set_cons_succ]
    refine wpAnyH_ready (rs := [8]) (by kernel_rfl) (by simp) ?_
    refine AllReadyH.cons rfl (fun K hK => ?_) AllReadyH.nil
    rw [if_pos (by kernel_rfl)]
    obtain ⟨b0, f0, a0, hz3, hz3l⟩ := rN.z3
    refine wpStBK (b := b) _ _ rfl rfl rfl hz3 hz3l hl rfl rfl ?_; intro wm hxm hgm
    have rM : LwS w b (.slice f1 f2 f3) (.slice a1 a2 a3) (.slice p1 p2 p3) (.slice q1 q2 q3) (.slice r1 r2 r3) (rtO a) g zB (.slice fo fn fc) (.slice ao an ac) wm := rN.st3 hgm hxm hl
    have H3 := Lib.hid hxm
    clear hxm hgm hz3 hz3l
    refine hK.out _ _ ?_ (fun _ => ?_)
    · exact rM
    try simp only [Act.put, List.getElem_toArray, List.getElem_cons_succ, List.getElem_cons_zero]
    have rN := rM
    refine wpAnyH_ready (rs := [9]) (by kernel_rfl) (by simp) ?_
    refine AllReadyH.cons rfl (fun K hK => ?_) AllReadyH.nil
    rw [if_pos (by kernel_rfl)]
    obtain ⟨y0, s0, u01, u02, u03, hz4⟩ := rN.z4
    refine wpStDK (y := b.addr) (s := b.aff) _ _ rfl rfl rfl hz4 rfl rfl rfl ?_; intro wq hxm hgm
    have rM : LwS w b (.slice f1 f2 f3) (.slice a1 a2 a3) (.slice p1 p2 p3) (.slice q1 q2 q3) (.slice r1 r2 r3) (rtO a) g zB (.slice fo fn fc) (.slice ao an ac) wq := rN.st4 hgm hxm
    have H3' := Lib.hid (blk_grownO H3.out hgm (fun e => by have := Option.some.inj e; omega))
    have H4 := Lib.hid hxm
    clear hxm hgm hz4
    refine hK.out _ _ ?_ (fun _ => ?_)
    · exact rM
    try simp only [Act.put, List.getElem_toArray, List.getElem_cons_succ, List.getElem_cons_zero]
    have rN := rM
    refine wpAnyH_take (i := 10) (v := ?_) rfl (by kernel_rfl) (by kernel_rfl) (by kernel_rfl) (fun _ _ _ h => h) (Or.inl ⟨by rfl, ?_⟩) (by assumption) ?_
    rotate_left
    · intro wS hSw
      (try dsimp only at hSw)
      go_simp
      first | done | with_reducible rfl
    try simp only [Act.put, List.getElem_toArray, List.getElem_cons_succ, List.getElem_cons_zero, List.setIfInBounds_toArray, List.set_cons_zero, List.set_cons_succ]
    refine wpAnyH_done (by kernel_rfl) ?_ _
    go_wp2_with fail
    exact bodyPost_ret (resC rfl rfl rfl (loadVarB H3'.out hl) (loadVarD H4.out)) rfl ⟨b, _, _, _, _, _, rfl, HBo.out.below rN.inp.below, rN.inp.below, fun g _ h => h⟩
end
section
open Go.RowKit
set_option maxRecDepth 100000 in
set_option maxHeartbeats 16000000 in
theorem assign15_in (b : BlkS) (f1 a1 p1 q1 r1 : Option Addr) (f2 f3 a2 a3 p2 p3 q2 q3 r2 r3 : Nat) (a : PA) (x : Int) (w : World) (hB : Both w b (.slice f1 f2 f3) (.slice a1 a2 a3) (.slice p1 p2 p3) (.slice q1 q2 q3) (.slice r1 r2 r3)) (h1 : a.1.size ≤ maxLen) (h2 : a.2.size ≤ maxLen) (hx : 0 ≤ x) (hx' : x < 4294967296) (hm : mayP a = true) (hi : inB b.addr x = false) :
    Calls Tryz.prog 20 #[.agg (blkL b (.slice f1 f2 f3) (.slice a1 a2 a3)).toArray, docV b.addr b.aff (.slice p1 p2 p3) (.slice q1 q2 q3) (.slice r1 r2 r3), .int .u32 x, atV a] w (DoP w b (.slice f1 f2 f3) (.slice a1 a2 a3) (.slice p1 p2 p3) (.slice q1 q2 q3) (.slice r1 r2 r3)) := by
  have hl := hB.wf.2.1
  have HBo := Lib.hid hB
  have HM := Lib.hid (And.intro (And.intro h1 h2) (And.intro hx hx'))
  have HC : Hid (∀ Y, Lw0 w b (.slice f1 f2 f3) (.slice a1 a2 a3) (.slice p1 p2 p3) (.slice q1 q2 q3) (.slice r1 r2 r3) (rtO a) Y → Calls Tryz.prog 51 #[.agg (blkL b (.slice f1 f2 f3) (.slice a1 a2 a3)).toArray, .int .u32 x, atV a] Y fun e Z => ∃ fo fn fc ao an ac, e = .returned (.tuple #[.agg (blkL zB (.slice fo fn fc) (.slice ao an ac)).toArray, .int .i64 1]) ∧ Owns Z Y.heap.size (.slice fo fn fc) (zB).free ∧ RowA EAt Z Y.heap.size (.slice ao an ac) (zB).attrs ∧ Below Y.heap.size Y Z) := Lib.hid (by
    intro Y hY
    exact (assignAt_bad b _ _ x a Y (hB.free.keep hY.inp.below) (hB.attrs.below hY.inp.below) hB.wf hx hx' h1 h2 (by rw [hm, hi]; cases rightB b <;> rfl)).mono fun e Z h => ⟨none, 0, 0, none, 0, 0, h.1, World.ownsRow_nil _ _ _ _, World.ownsRow_nil _ _ _ _, h.2⟩)
  obtain ⟨C, hC⟩ : ∃ C, C = zB := ⟨_, rfl⟩
  have HCL : Hid (C.sl.length = 64) := Lib.hid (by rw [hC]; exact zB_len)
  rw [← hC] at HC
  have HCZ := Lib.hid hC
  have HMY := refMayA_any a h1 h2
  rw [hm] at HMY
  have HMY := Lib.hid HMY
  have HIN := fun w => inD_any b.addr b.aff (.slice p1 p2 p3) (.slice q1 q2 q3) (.slice r1 r2 r3) x w hx hx'
  rw [hi] at HIN
  have HIN := Lib.hid HIN
  have HLA := Lib.hid (fun w => lawAttr_any a w)
  have HS := Lib.hid (Lw0.new w b (.slice f1 f2 f3) (.slice a1 a2 a3) (.slice p1 p2 p3) (.slice q1 q2 q3) (.slice r1 r2 r3) (rtO a))
  obtain ⟨X, hX⟩ : ∃ X, X = (((((w.alloc (blkO b (.slice f1 f2 f3) (.slice a1 a2 a3))).alloc (docO b.addr b.aff (.slice p1 p2 p3) (.slice q1 q2 q3) (.slice r1 r2 r3))).alloc (rtO a)).alloc (blkO zB NS NS)).alloc (docO 0 ⟨#[]⟩ NS NS NS)) := ⟨_, rfl⟩
  rw [← hX] at HS
  have HW := Lib.hid hX
  clear h1 h2 hx hx' hm hi hB hX hC
  go_enter Tryz.func20, Tryz.ntmps20
  go_upto_region 1 with fail
  change Code.wp _ _ _ _ (((((w.alloc (blkO b (.slice f1 f2 f3) (.slice a1 a2 a3))).alloc (docO b.addr b.aff (.slice p1 p2 p3) (.slice q1 q2 q3) (.slice r1 r2 r3))).alloc (rtO a)).alloc (blkO zB NS NS)).alloc (docO 0 ⟨#[]⟩ NS NS NS))
  rw [← HW.out]
  clear HW
  go_cut [11, 12] (fun s11 s12 wx => ∃ (g : Nat) (fo : Option Addr) (fn fc : Nat) (ao : Option Addr) (an ac : Nat), s11 = .pointer (some ⟨g, 0, none⟩) ∧ s12 = .int .i64 1 ∧ Hid (Lw0 w b (.slice f1 f2 f3) (.slice a1 a2 a3) (.slice p1 p2 p3) (.slice q1 q2 q3) (.slice r1 r2 r3) (rtO a) wx ∧ VarO wx (w.heap.size + 5) g C (.slice fo fn fc) (.slice ao an ac) ∧ w.heap.size + 5 ≤ g))
  case first =>
    refine wp_region_held_drew (S := (fun Y => Below X.heap.size X Y)) (by kernel_rfl) ?_ (fun rN => ?_)
    · exact ⟨rfl, rfl, rfl, Nat.le_refl _, fun _ _ => rfl⟩
    obtain ⟨wn, hwn⟩ : ∃ wn, wn = X.drew := ⟨_, rfl⟩
    rw [← hwn] at rN ⊢
    clear hwn
    have rN : Below X.heap.size X wn := rN
    refine wpAnyH_take (i := 0) (v := _) rfl (by kernel_rfl) (by kernel_rfl) (by kernel_rfl) (fun _ _ _ h => h) (ldBIf (by rfl) _ rfl rfl (fun W hW => (HS.out.later hW).inp.blk) hl) (by assumption) ?_
    try simp only [Act.put, List.getElem_toArray, List.getElem_cons_zero, List.setIfInBounds_toArray, List.set_cons_zero, List.set_cons_succ]
    refine wpAnyH_take (i := 1) (v := ?_) rfl (by kernel_rfl) (by kernel_rfl) (by kernel_rfl) (fun _ _ _ h => h) (Or.inl ⟨by rfl, ?_⟩) (by assumption) ?_
    rotate_left
    · intro wS hSw
      (try dsimp only at hSw)
      go_simp
      first | done | with_reducible rfl
    try simp only [Act.put, List.getElem_toArray, List.getElem_cons_succ, List.getElem_cons_zero, List.setIfInBounds_toArray, List.set_cons_zero, List.set_cons_succ]
    refine wpAnyH_take (i := 2) (v := ?_) rfl (by kernel_rfl) (by kernel_rfl) (by kernel_rfl) (fun _ _ _ h => h) (Or.inl ⟨by rfl, ?_⟩) (by assumption) ?_
    rotate_left
    · intro wS hSw
      (try dsimp only at hSw)
      obtain ⟨m0, m1⟩ := acells (HS.out.later hSw).inp.attr
      go_simp
      first | done | with_reducible rfl
    try simp only [Act.put, List.getElem_toArray, List.getElem_cons_succ, List.getElem_cons_zero, List.setIfInBounds_toArray, List.set_cons_zero, List.set_cons_succ]
    refine wpAnyH_ready (rs := [3, 8]) (by kernel_rfl) (by simp) ?_
    refine AllReadyH.cons rfl (fun K hK => ?_) (AllReadyH.cons rfl (fun K hK => ?_) AllReadyH.nil)
    · go_simp
      refine (HLA.out _).mono ?_; rintro z wm ⟨rfl, hbm⟩
      have rM : Below X.heap.size X wm := bel rN hbm
      clear hbm
      refine hK.out _ _ ?_ (fun _ => ?_)
      · exact rM
      try simp only [Act.put, List.getElem_toArray, List.getElem_cons_succ, List.getElem_cons_zero, List.setIfInBounds_toArray, List.set_cons_zero, List.set_cons_succ]
      have rN := rM
      refine wpAnyH_ready (rs := [4, 8]) (by kernel_rfl) (by simp) ?_
      refine AllReadyH.cons rfl (fun K hK => ?_) (AllReadyH.cons rfl (fun K hK => ?_) AllReadyH.nil)
      · go_simp
        refine (HC.out _ (HS.out.later rN)).mono ?_; rintro z wm ⟨fo, fn, fc, ao, an, ac, rfl, hfr, hat, hbm⟩
        have rM : Below X.heap.size X wm := bel rN hbm
        have HR := Lib.hid (And.intro (own_le hfr (Nat.le_trans HS.out.inp.size rN.size)) (own_le hat (Nat.le_trans HS.out.inp.size rN.size)))
        clear hbm hfr hat
        refine hK.out _ _ ?_ (fun _ => ?_)
        · exact rM
        try simp only [Act.put, List.getElem_toArray, List.getElem_cons_succ, List.getElem_cons_zero, List.setIfInBounds_toArray, List.set_cons_zero, List.set_cons_succ]
        have rN := rM
        refine wpAnyH_take (i := 5) (v := ?_) rfl (by kernel_rfl) (by kernel_rfl) (by kernel_rfl) (fun _ _ _ h => h) (Or.inl ⟨by rfl, ?_⟩) (by assumption) ?_
        rotate_left
        · intro wS hSw
          (try dsimp only at hSw)
          go_simp
          first | done | with_reducible rfl
        try simp only [Act.put, List.getElem_toArray, List.getElem_cons_succ, List.getElem_cons_zero, List.setIfInBounds_toArray, List.set_cons_zero, List.set_cons_succ]
        refine wpAnyH_take (i := 6) (v := ?_) rfl (by kernel_rfl) (by kernel_rfl) (by kernel_rfl) (fun _ _ _ h => h) (Or.inl ⟨by rfl, ?_⟩) (by assumption) ?_
        rotate_left
        · intro wS hSw
          (try dsimp only at hSw)
          go_simp
          first | done | with_reducible rfl
        try simp only [Act.put, List.getElem_toArray, List.getElem_cons_succ, List.getElem_cons_zero, List.setIfInBounds_toArray, List.set_cons_zero, List.set_cons_succ]
        refine wpAnyH_take (i := 7) (v := ?_) rfl (by kernel_rfl) (by kernel_rfl) (by kernel_rfl) (fun _ _ _ h => h) (Or.inl ⟨by rfl, ?_⟩) (by assumption) ?_
        rotate_left
        · intro wS hSw
          (try dsimp only at hSw)
          go_simp
          first | done | with_reducible rfl
        try simp only [Act.put, List.getElem_toArray, List.getElem_cons_succ, List.getElem_cons_zero, List.setIfInBounds_toArray, List.set_cons_zero, List.set_cons_succ]
        refine wpAnyH_ready (rs := [8]) (by kernel_rfl) (by simp) ?_
        refine AllReadyH.cons rfl (fun K hK => ?_) AllReadyH.nil
        go_simp
        have hz0 := heap_new wm (blkO zB NS NS)
        have hbm := belNew wm (blkO zB NS NS)
        obtain ⟨wz, hwm⟩ : ∃ wz : World, wz = wm.alloc (blkO zB NS NS) := ⟨_, rfl⟩
        rw [← hwm] at hz0 hbm
        have rM : Below X.heap.size X wz := bel rN hbm
        obtain ⟨gz, hgz⟩ : ∃ gz, gz = wm.heap.size := ⟨_, rfl⟩
        have hgx : X.heap.size ≤ gz := by rw [hgz]; exact rN.size
        rw [← hgz] at hz0
        have HZ : Hid (BlkAt wz gz zB NS NS ∧ X.heap.size ≤ gz) := Lib.hid ⟨hz0, hgx⟩
        have HR := Lib.hid (And.intro (own_keep HR.out.1 hbm) (own_keep HR.out.2 hbm))
        change K _ (wm.alloc (blkO zB NS NS))
        rw [← hwm, ← hgz]
        clear hwm hgz hz0 hbm hgx
        refine hK.out _ _ ?_ (fun _ => ?_)
        · exact rM
        try simp only [Act.put, List.getElem_toArray, List.getElem_cons_succ, List.getElem_cons_zero, List.setIfInBounds_toArray, List.set_cons_zero, List.set_cons_succ]
        have rN := rM
        refine wpAnyH_ready (rs := [9]) (by kernel_rfl) (by simp) ?_
        refine AllReadyH.cons rfl (fun K hK => ?_) AllReadyH.nil
        rw [if_pos (by kernel_rfl)]
        refine wpStBK (b := C) _ _ rfl rfl rfl HZ.out.1 zB_len HCL.out rfl rfl ?_; intro wq hxm hgm
        have rM : Below X.heap.size X wq := rN.grown hgm rN.size (fun k hk => by cases hk; exact HZ.out.2)
        have HV : Hid (VarO wq (w.heap.size + 5) gz C (.slice fo fn fc) (.slice ao an ac)) := Lib.hid ⟨hxm, own_grownO HR.out.1 hgm (fun k hk e => own_neB HR.out.1 HZ.out.1 (by decide) (hk.trans e.symm)), own_grownO HR.out.2 hgm (fun k hk e => own_neB HR.out.2 HZ.out.1 (by decide) (hk.trans e.symm))⟩
        clear hxm hgm
        refine hK.out _ _ ?_ (fun _ => ?_)
        · exact rM
        try simp only [Act.put, List.getElem_toArray, List.getElem_cons_succ, List.getElem_cons_zero]
        have rN := rM
        refine wpAnyH_take (i := 10) (v := ?_) rfl (by kernel_rfl) (by kernel_rfl) (by kernel_rfl) (fun _ _ _ h => h) (Or.inl ⟨by rfl, ?_⟩) (by assumption) ?_
        rotate_left
        · intro wS hSw
          (try dsimp only at hSw)
          go_simp
          first | done | with_reducible rfl
        try simp only [Act.put, List.getElem_toArray, List.getElem_cons_succ, List.getElem_cons_zero, List.setIfInBounds_toArray, List.set_cons_zero, List.set_cons_succ]
        refine wpAnyH_done (by kernel_rfl) ?_ _
        (try go_wp2_with fail)
        go_meet
        exact ⟨gz, fo, fn, fc, ao, an, ac, rfl, rfl, Lib.hid ⟨HS.out.later rN, HV.out, Nat.le_trans HS.out.inp.size HZ.out.2⟩⟩
      · go_simp
        have hz0 := heap_new wm (blkO zB NS NS)
        have hbm := belNew wm (blkO zB NS NS)
        obtain ⟨wz, hwm⟩ : ∃ wz : World, wz = wm.alloc (blkO zB NS NS) := ⟨_, rfl⟩
        rw [← hwm] at hz0 hbm
        have rM : Below X.heap.size X wz := bel rN hbm
        obtain ⟨gz, hgz⟩ : ∃ gz, gz = wm.heap.size := ⟨_, rfl⟩
        have hgx : X.heap.size ≤ gz := by rw [hgz]; exact rN.size
        rw [← hgz] at hz0
        have HZ : Hid (BlkAt wz gz zB NS NS ∧ X.heap.size ≤ gz) := Lib.hid ⟨hz0, hgx⟩
        change K _ (wm.alloc (blkO zB NS NS))
        rw [← hwm, ← hgz]
        clear hwm hgz hz0 hbm hgx
        refine hK.out _ _ ?_ (fun _ => ?_)
        · exact rM
        try simp only [Act.put, List.getElem_toArray, List.getElem_cons_succ, List.getElem_cons_zero, List.setIfInBounds_toArray, List.set_cons_zero, List.set_cons_succ]
        have rN := rM
        refine wpAnyH_ready (rs := [4]) (by kernel_rfl) (by simp) ?_
        refine AllReadyH.cons rfl (fun K hK => ?_) AllReadyH.nil
        go_simp
        refine (HC.out _ (HS.out.later rN)).mono ?_; rintro z wm ⟨fo, fn, fc, ao, an, ac, rfl, hfr, hat, hbm⟩
        have rM : Below X.heap.size X wm := bel rN hbm
        have HZ := Lib.hid (And.intro (HZ.out.1.below hbm) HZ.out.2)
        have HR := Lib.hid (And.intro (own_le hfr (Nat.le_trans HS.out.inp.size rN.size)) (own_le hat (Nat.le_trans HS.out.inp.size rN.size)))
        clear hbm hfr hat
        refine hK.out _ _ ?_ (fun _ => ?_)
        · exact rM
        try simp only [Act.put, List.getElem_toArray, List.getElem_cons_succ, List.getElem_cons_zero, List.setIfInBounds_toArray, List.set_cons_zero, List.set_cons_succ]
        have rN := rM
        refine wpAnyH_take (i := 5) (v := ?_) rfl (by kernel_rfl) (by kernel_rfl) (by kernel_rfl) (fun _ _ _ h => h) (Or.inl ⟨by rfl, ?_⟩) (by assumption) ?_
        rotate_left
        · intro wS hSw
          (try dsimp only at hSw)
          go_simp
          first | done | with_reducible rfl
        try simp only [Act.put, List.getElem_toArray, List.getElem_cons_succ, List.getElem_cons_zero, List.setIfInBounds_toArray, List.set_cons_zero, List.set_cons_succ]
        refine wpAnyH_take (i := 6) (v := ?_) rfl (by kernel_rfl) (by kernel_rfl) (by kernel_rfl) (fun _ _ _ h => h) (Or.inl ⟨by rfl, ?_⟩) (by assumption) ?_
        rotate_left
        · intro wS hSw
          (try dsimp only at hSw)
          go_simp
          first | done | with_reducible rfl
        try simp only [Act.put, List.getElem_toArray, List.getElem_cons_succ, List.getElem_cons_zero, List.setIfInBounds_toArray, List.set_cons_zero, List.set_cons_succ]
        refine wpAnyH_take (i := 7) (v := ?_) rfl (by kernel_rfl) (by kernel_rfl) (by kernel_rfl) (fun _ _ _ h => h) (Or.inl ⟨by rfl, ?_⟩) (by assumption) ?_
        rotate_left
        · intro wS hSw
          (try dsimp only at hSw)
          go_simp
          first | done | with_reducible rfl
        try simp only [Act.put, List.getElem_toArray, List.getElem_cons_succ, List.getElem_cons_zero, List.setIfInBounds_toArray, List.set_cons_zero, List.set_cons_succ]
        refine wpAnyH_ready (rs := [9]) (by kernel_rfl) (by simp) ?_
        refine AllReadyH.cons rfl (fun K hK => ?_) AllReadyH.nil
        rw [if_pos (by kernel_rfl)]
        refine wpStBK (b := C) _ _ rfl rfl rfl HZ.out.1 zB_len HCL.out rfl rfl ?_; intro wq hxm hgm
        have rM : Below X.heap.size X wq := rN.grown hgm rN.size (fun k hk => by cases hk; exact HZ.out.2)
        have HV : Hid (VarO wq (w.heap.size + 5) gz C (.slice fo fn fc) (.slice ao an ac)) := Lib.hid ⟨hxm, own_grownO HR.out.1 hgm (fun k hk e => own_neB HR.out.1 HZ.out.1 (by decide) (hk.trans e.symm)), own_grownO HR.out.2 hgm (fun k hk e => own_neB HR.out.2 HZ.out.1 (by decide) (hk.trans e.symm))⟩
        clear hxm hgm
        refine hK.out _ _ ?_ (fun _ => ?_)
        · exact rM
        try simp only [Act.put, List.getElem_toArray, List.getElem_cons_succ, List.getElem_cons_zero]
        have rN := rM
        refine wpAnyH_take (i := 10) (v := ?_) rfl (by kernel_rfl) (by kernel_rfl) (by kernel_rfl) (fun _ _ _ h => h) (Or.inl ⟨by rfl, ?_⟩) (by assumption) ?_
        rotate_left
        · intro wS hSw
          (try dsimp only at hSw)
          go_simp
          first | done | with_reducible rfl
        try simp only [Act.put, List.getElem_toArray, List.getElem_cons_succ, List.getElem_cons_zero, List.setIfInBounds_toArray, List.set_cons_zero, List.set_cons_succ]
        refine wpAnyH_done (by kernel_rfl) ?_ _
        (try go_wp2_with fail)
        go_meet
        exact ⟨gz, fo, fn, fc, ao, an, ac, rfl, rfl, Lib.hid ⟨HS.out.later rN, HV.out, Nat.le_trans HS.out.inp.size HZ.out.2⟩⟩
    · go_simp
      have hz0 := heap_new wn (blkO zB NS NS)
      have hbm := belNew wn (blkO zB NS NS)
      obtain ⟨wz, hwm⟩ : ∃ wz : World, wz = wn.alloc (blkO zB NS NS) := ⟨_, rfl⟩
      rw [← hwm] at hz0 hbm
      have rM : Below X.heap.size X wz := bel rN hbm
      obtain ⟨gz, hgz⟩ : ∃ gz, gz = wn.heap.size := ⟨_, rfl⟩
      have hgx : X.heap.size ≤ gz := by rw [hgz]; exact rN.size
      rw [← hgz] at hz0
      have HZ : Hid (BlkAt wz gz zB NS NS ∧ X.heap.size ≤ gz) := Lib.hid ⟨hz0, hgx⟩
      change K _ (wn.alloc (blkO zB NS NS))
      rw [← hwm, ← hgz]
      clear hwm hgz hz0 hbm hgx
      refine hK.out _ _ ?_ (fun _ => ?_)
      · exact rM
      try simp only [Act.put, List.getElem_toArray, List.getElem_cons_succ, List.getElem_cons_zero, List.setIfInBounds_toArray, List.set_cons_zero, List.set_cons_succ]
      have rN := rM
      refine wpAnyH_ready (rs := [3]) (by kernel_rfl) (by simp) ?_
      refine AllReadyH.cons rfl (fun K hK => ?_) AllReadyH.nil
      go_simp
      refine (HLA.out _).mono ?_; rintro z wm ⟨rfl, hbm⟩
      have rM : Below X.heap.size X wm := bel rN hbm
      have HZ := Lib.hid (And.intro (HZ.out.1.below hbm) HZ.out.2)
      clear hbm
      refine hK.out _ _ ?_ (fun _ => ?_)
      · exact rM
      try simp only [Act.put, List.getElem_toArray, List.getElem_cons_succ, List.getElem_cons_zero, List.setIfInBounds_toArray, List.set_cons_zero, List.set_cons_succ]
      have rN := rM
      refine wpAnyH_ready (rs := [4]) (by kernel_rfl) (by simp) ?_
      refine AllReadyH.cons rfl (fun K hK => ?_) AllReadyH.nil
      go_simp
      refine (HC.out _ (HS.out.later rN)).mono ?_; rintro z wm ⟨fo, fn, fc, ao, an, ac, rfl, hfr, hat, hbm⟩
      have rM : Below X.heap.size X wm := bel rN hbm
      have HZ := Lib.hid (And.intro (HZ.out.1.below hbm) HZ.out.2)
      have HR := Lib.hid (And.intro (own_le hfr (Nat.le_trans HS.out.inp.size rN.size)) (own_le hat (Nat.le_trans HS.out.inp.size rN.size)))
      clear hbm hfr hat
      refine hK.out _ _ ?_ (fun _ => ?_)
      · exact rM
      try simp only [Act.put, List.getElem_toArray, List.getElem_cons_succ, List.getElem_cons_zero, List.setIfInBounds_toArray, List.set_cons_zero, List.set_cons_succ]
      have rN := rM
      refine wpAnyH_take (i := 5) (v := ?_) rfl (by kernel_rfl) (by kernel_rfl) (by kernel_rfl) (fun _ _ _ h => h) (Or.inl ⟨by rfl, ?_⟩) (by assumption) ?_
      rotate_left
      · intro wS hSw
        (try dsimp only at hSw)
        go_simp
        first | done | with_reducible rfl
      try simp only [Act.put, List.getElem_toArray, List.getElem_cons_succ, List.getElem_cons_zero, List.setIfInBounds_toArray, List.set_cons_zero, List.set_cons_succ]
      refine wpAnyH_take (i := 6) (v := ?_) rfl (by kernel_rfl) (by kernel_rfl) (by kernel_rfl) (fun _ _ _ h => h) (Or.inl ⟨by rfl, ?_⟩) (by assumption) ?_
      rotate_left
      · intro wS hSw
        (try dsimp only at hSw)
        go_simp
        first | done | with_reducible rfl
      try simp only [Act.put, List.getElem_toArray, List.getElem_cons_succ, List.getElem_cons_zero, List.setIfInBounds_toArray, List.set_cons_zero, List.set_cons_succ]
      refine wpAnyH_take (i := 7) (v := ?_) rfl (by kernel_rfl) (by kernel_rfl) (by kernel_rfl) (fun _ _ _ h => h) (Or.inl ⟨by rfl, ?_⟩) (by assumption) ?_
      rotate_left
      · intro wS hSw
        (try dsimp only at hSw)
        go_simp
        first | done | with_reducible rfl
      try simp only [Act.put, List.getElem_toArray, List.getElem_cons_succ, List.getElem_cons_zero, List.setIfInBounds_toArray, List.set_cons_zero, List.set_cons_succ]
      refine wpAnyH_ready (rs := [9]) (by kernel_rfl) (by simp) ?_
      refine AllReadyH.cons rfl (fun K hK => ?_) AllReadyH.nil
      rw [if_pos (by kernel_rfl)]
      refine wpStBK (b := C) _ _ rfl rfl rfl HZ.out.1 zB_len HCL.out rfl rfl ?_; intro wq hxm hgm
      have rM : Below X.heap.size X wq := rN.grown hgm rN.size (fun k hk => by cases hk; exact HZ.out.2)
      have HV : Hid (VarO wq (w.heap.size + 5) gz C (.slice fo fn fc) (.slice ao an ac)) := Lib.hid ⟨hxm, own_grownO HR.out.1 hgm (fun k hk e => own_neB HR.out.1 HZ.out.1 (by decide) (hk.trans e.symm)), own_grownO HR.out.2 hgm (fun k hk e => own_neB HR.out.2 HZ.out.1 (by decide) (hk.trans e.symm))⟩
      clear hxm hgm
      refine hK.out _ _ ?_ (fun _ => ?_)
      · exact rM
      try simp only [Act.put, List.getElem_toArray, List.getElem_cons_succ, List.getElem_cons_zero]
      have rN := rM
      refine wpAnyH_take (i := 10) (v := ?_) rfl (by kernel_rfl) (by kernel_rfl) (by kernel_rfl) (fun _ _ _ h => h) (Or.inl ⟨by rfl, ?_⟩) (by assumption) ?_
      rotate_left
      · intro wS hSw
        (try dsimp only at hSw)
        go_simp
        first | done | with_reducible rfl
      try simp only [Act.put, List.getElem_toArray, List.getElem_cons_succ, List.getElem_cons_zero, List.setIfInBounds_toArray, List.set_cons_zero, List.set_cons_succ]
      refine wpAnyH_done (by kernel_rfl) ?_ _
      (try go_wp2_with fail)
      go_meet
      exact ⟨gz, fo, fn, fc, ao, an, ac, rfl, rfl, Lib.hid ⟨HS.out.later rN, HV.out, Nat.le_trans HS.out.inp.size HZ.out.2⟩⟩
  case rest =>
    obtain ⟨g, fo, fn, fc, ao, an, ac, rfl, rfl, HC0⟩ := hcut
    obtain ⟨X, rfl⟩ : ∃ X, X = wc := ⟨_, rfl⟩
    obtain rfl : C = zB := HCZ.out
    have HX : Hid (LwS w b (.slice f1 f2 f3) (.slice a1 a2 a3) (.slice p1 p2 p3) (.slice q1 q2 q3) (.slice r1 r2 r3) (rtO a) g zB (.slice fo fn fc) (.slice ao an ac) X) := Lib.hid (HC0.out.1.toS HC0.out.2.1 HC0.out.2.2)
    have HZR : Hid (∀ Y, LwS w b (.slice f1 f2 f3) (.slice a1 a2 a3) (.slice p1 p2 p3) (.slice q1 q2 q3) (.slice r1 r2 r3) (rtO a) g zB (.slice fo fn fc) (.slice ao an ac) Y → Calls Tryz.prog 17 #[.agg (blkL zB (.slice fo fn fc) (.slice ao an ac)).toArray] Y fun e w' => e = .returned (.bool true) ∧ Below Y.heap.size Y w') := Lib.hid (fun Y hY => by
      have := zero15_any zB _ _ Y hY.c.free.sees (RowA.sees hY.c.attrs) zB_len (by decide) (by decide)
      rw [sameZ] at this
      exact this)
    obtain ⟨y0, y1⟩ := acells HC0.out.1.inp.attr
    go_wp2_with fail
    refine (HMY.out _).mono ?_; rintro e w3 ⟨rfl, hb3⟩
    have HX := Lib.hid (HX.out.later hb3)
    clear hb3 y0 y1 HC0 HS
    go_wp2_with (refine wpLdDg (by rfl) _ rfl rfl HX.out.inp.doc ?_)
    refine (HIN.out _).mono ?_; rintro e w4 ⟨rfl, hb4⟩
    have HX := Lib.hid (HX.out.later hb4)
    clear hb4
    obtain ⟨X, rfl⟩ : ∃ X, X = w4 := ⟨_, rfl⟩
    go_upto_region 3 with fail
    refine wp_region_held_drew (S := (fun Y => LwS w b (.slice f1 f2 f3) (.slice a1 a2 a3) (.slice p1 p2 p3) (.slice q1 q2 q3) (.slice r1 r2 r3) (rtO a) g zB (.slice fo fn fc) (.slice ao an ac) Y)) (by kernel_rfl) ?_ (fun rN => ?_)
    · exact HX.out.later ⟨rfl, rfl, rfl, Nat.le_refl _, fun _ _ => rfl⟩
    obtain ⟨wn, hwn⟩ : ∃ wn, wn = X.drew := ⟨_, rfl⟩
    rw [← hwn] at rN ⊢
    clear hwn
    have rN : LwS w b (.slice f1 f2 f3) (.slice a1 a2 a3) (.slice p1 p2 p3) (.slice q1 q2 q3) (.slice r1 r2 r3) (rtO a) g zB (.slice fo fn fc) (.slice ao an ac) wn := rN
    refine wpAnyH_take (i := 0) (v := _) rfl (by kernel_rfl) (by kernel_rfl) (by kernel_rfl) (fun _ _ _ h => h) (ldBIf (by rfl) _ rfl rfl (fun W hW => hW.inp.blk) hl) (by assumption) ?_
    try simp only [Act.put, List.getElem_toArray, List.getElem_cons_zero, List.setIfInBounds_toArray, List.set_cons_zero, List.set_cons_succ]
    refine wpAnyH_take (i := 1) (v := _) rfl (by kernel_rfl) (by kernel_rfl) (by kernel_rfl) (fun _ _ _ h => h) (ldDIf (by rfl) _ rfl rfl (fun W hW => hW.inp.doc) ) (by assumption) ?_
    try simp only [Act.put, List.getElem_toArray, List.getElem_cons_succ, List.getElem_cons_zero, List.setIfInBounds_toArray, List.set_cons_zero, List.set_cons_succ]
    refine wpAnyH_take (i := 2) (v := ?_) rfl (by kernel_rfl) (by kernel_rfl) (by kernel_rfl) (fun _ _ _ h => h) (Or.inl ⟨by rfl, ?_⟩) (by assumption) ?_
    rotate_left
    · intro wS hSw
      (try dsimp only at hSw)
      go_simp
      first | done | with_reducible rfl
    try simp only [Act.put, List.getElem_toArray, List.getElem_cons_succ, List.getElem_cons_zero, List.setIfInBounds_toArray, List.set_cons_zero, List.set_cons_succ]
    refine wpAnyH_take (i := 3) (v := ?_) rfl (by kernel_rfl) (by kernel_rfl) (by kernel_rfl) (fun _ _ _ h => h) (Or.inl ⟨by rfl, ?_⟩) (by assumption) ?_
    rotate_left
    · intro wS hSw
      (try dsimp only at hSw)
      go_simp
      first | done | with_reducible rfl
    try simp only [Act.put, List.getElem_toArray, List.getElem_cons_succ, List.getElem_cons_zero, List.setIfInBounds_toArray, List.set_cons_zero, List.set_cons_succ]
    refine wpAnyH_take (i := 4) (v := ?_) rfl (by kernel_rfl) (by kernel_rfl) (by kernel_rfl) (fun _ _ _ h => h) (Or.inl ⟨by rfl, ?_⟩) (by assumption) ?_
    rotate_left
    · intro wS hSw
      (try dsimp only at hSw)
      go_simp
      first | done | with_reducible rfl
    try simp only [Act.put, List.getElem_toArray, List.getElem_cons_succ, List.getElem_cons_zero, List.setIfInBounds_toArray, List.set_cons_zero, List.set_cons_succ]
    refine wpAnyH_take (i := 5) (v := _) rfl (by kernel_rfl) (by kernel_rfl) (by kernel_rfl) (fun _ _ _ h => h) (ldBIf (by rfl) _ rfl rfl (fun W hW => hW.c.blk) zB_len) (by assumption) ?_
    try simp only [Act.put, List.getElem_toArray, List.getElem_cons_succ, List.getElem_cons_zero, List.setIfInBounds_toArray, List.set_cons_zero, List.set_cons_succ]
    refine wpAnyH_ready (rs := [6]) (by kernel_rfl) (by simp) ?_
    refine AllReadyH.cons rfl (fun K hK => ?_) AllReadyH.nil
    go_simp
    refine (HZR.out _ rN).mono ?_; rintro z wm ⟨rfl, hbm⟩
    have rM : LwS w b (.slice f1 f2 f3) (.slice a1 a2 a3) (.slice p1 p2 p3) (.slice q1 q2 q3) (.slice r1 r2 r3) (rtO a) g zB (.slice fo fn fc) (.slice ao an ac) wm := rN.later hbm
    clear hbm
    refine hK.out _ _ ?_ (fun _ => ?_)
    · exact rM
    try simp only [Act.put, List.getElem_toArray, List.getElem_cons_succ, List.getElem_cons_zero, List.setIfInBounds_toArray, List.set_cons_zero, List.set_cons_succ]
    have rN := rM
    refine wpAnyH_take (i := 7) (v := ?_) rfl (by kernel_rfl) (by kernel_rfl) (by kernel_rfl) (fun _ _ _ h => h) (Or.inl ⟨by rfl, ?_⟩) (by assumption) ?_
    rotate_left
    · intro wS hSw
      (try dsimp only at hSw)
      go_simp
      first | done | with_reducible rfl
    try simp only [Act.put, List.getElem_toArray, List.getElem_cons_succ, List.getElem_cons_zero, List.setIfInBounds_toArray, List.set_cons_zero, List.set_cons_succ]
    refine wpAnyH_ready (rs := [8]) (by kernel_rfl) (by simp) ?_
    refine AllReadyH.cons rfl (fun K hK => ?_) AllReadyH.nil
    rw [if_pos (by kernel_rfl)]
    obtain ⟨b0, f0, a0, hz3, hz3l⟩ := rN.z3
    refine wpStBK (b := b) _ _ rfl rfl rfl hz3 hz3l hl rfl rfl ?_; intro wm hxm hgm
    have rM : LwS w b (.slice f1 f2 f3) (.slice a1 a2 a3) (.slice p1 p2 p3) (.slice q1 q2 q3) (.slice r1 r2 r3) (rtO a) g zB (.slice fo fn fc) (.slice ao an ac) wm := rN.st3 hgm hxm hl
    have H3 := Lib.hid hxm
    clear hxm hgm hz3 hz3l
    refine hK.out _ _ ?_ (fun _ => ?_)
    · exact rM
    try simp only [Act.put, List.getElem_toArray, List.getElem_cons_succ, List.getElem_cons_zero]
    have rN := rM
    refine wpAnyH_ready (rs := [9]) (by kernel_rfl) (by simp) ?_
    refine AllReadyH.cons rfl (fun K hK => ?_) AllReadyH.nil
    rw [if_pos (by kernel_rfl)]
    obtain ⟨y0, s0, u01, u02, u03, hz4⟩ := rN.z4
    refine wpStDK (y := b.addr) (s := b.aff) _ _ rfl rfl rfl hz4 rfl rfl rfl ?_; intro wq hxm hgm
    have rM : LwS w b (.slice f1 f2 f3) (.slice a1 a2 a3) (.slice p1 p2 p3) (.slice q1 q2 q3) (.slice r1 r2 r3) (rtO a) g zB (.slice fo fn fc) (.slice ao an ac) wq := rN.st4 hgm hxm
    have H3' := Lib.hid (blk_grownO H3.out hgm (fun e => by have := Option.some.inj e; omega))
    have H4 := Lib.hid hxm
    clear hxm hgm hz4
    refine hK.out _ _ ?_ (fun _ => ?_)
    · exact rM
    try simp only [Act.put, List.getElem_toArray, List.getElem_cons_succ, List.getElem_cons_zero]
    have rN := rM
    refine wpAnyH_take (i := 10) (v := ?_) rfl (by kernel_rfl) (by kernel_rfl) (by kernel_rfl) (fun _ _ _ h => h) (Or.inl ⟨by rfl, ?_⟩) (by assumption) ?_
    rotate_left
    · intro wS hSw
      (try dsimp only at hSw)
      go_simp
      first | done | with_reducible rfl
    try simp only [Act.put, List.getElem_toArray, List.getElem_cons_succ, List.getElem_cons_zero, List.setIfInBounds_toArray, List.set_cons_zero, List.set_cons_succ]
    refine wpAnyH_done (by kernel_rfl) ?_ _
    go_wp2_with fail
    exact bodyPost_ret (resC rfl rfl rfl (loadVarB H3'.out hl) (loadVarD H4.out)) rfl ⟨b, _, _, _, _, _, rfl, HBo.out.below rN.inp.below, rN.inp.below, fun g _ h => h⟩
end
end Go.Proofs.YtgodmnpcedfdcaaGreat
