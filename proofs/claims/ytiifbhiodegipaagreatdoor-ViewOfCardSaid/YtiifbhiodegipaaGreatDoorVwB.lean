/- Package view: all that a view has: its block, its rows, its maps. -/
import Derived.Shelf.SlIter.Nil
import Derived.Laws.IdiomRangeMap
import Derived.LoopN
import Derived.Laws.ByValue
import Derived.Test.YtiifbhiodegipaaGreatDoorJPk
import Derived.Test.YtiifbhiodegipaaGreatDoorBkG
import Derived.Test.YtiifbhiodegipaaGreatDoorRcNet
namespace Go.Proofs.YtiifbhiodegipaaGreatDoor
open Go.RowKit
abbrev P3 := Int × Int × Bool
def encP (p : P3) : List Value := [.int .u32 p.1, .int .i64 p.2.1, .bool p.2.2]
abbrev SlV := Option Addr × Nat × Nat
def slV (s : SlV) : Value := .slice s.1 s.2.1 s.2.2
abbrev BX := BlkS × SlV × SlV
def fit64 (l : List Int) : List Int := (l ++ List.replicate 64 0).take 64
theorem fit64_len (l : List Int) : (fit64 l).length = 64 := by unfold fit64; simp
theorem fit64_eq {l : List Int} (h : l.length = 64) : fit64 l = l := by unfold fit64; rw [List.take_append_of_le_length (by omega), List.take_of_length_le (by omega)]
def encX (x : BX) : List Value := blkL { x.1 with sl := fit64 x.1.sl } (slV x.2.1) (slV x.2.2)
theorem encX_eq {x : BX} (h : x.1.sl.length = 64) : encX x = blkL x.1 (slV x.2.1) (slV x.2.2) := by unfold encX; rw [fit64_eq h]
theorem encX_len (x : BX) : (encX x).length = 68 := blkL_len { x.1 with sl := fit64 x.1.sl } (fit64_len _) _ _
theorem encX_one (x : BX) : ∀ u ∈ encX x, u.oneCell' = true := one_blk rfl rfl
structure VwS where
  pools : List P3
  blks : List BlkS
  affs : List VM.Ent
  hans : List (Lit × List (Int × Int))
  nods : List VM.Ent
/-- Where a view's parts lie. -/
structure VwP where
  pv : Value
  bv : Value
  ma : Nat
  mh : Nat
  mn : Nat
  X : List BX
  H : List VM.Ent
def vwL (p : VwP) : List Value := [p.pv, p.bv, .map (some p.ma), .map (some p.mh), .map (some p.mn)]
/-- The blocks of a view: its own, its maps', its rows'. -/
def VwP.In (p : VwP) (g d : Nat) : Prop := d = g ∨ d = p.ma ∨ d = p.mh ∨ d = p.mn ∨ p.pv.ownBlock = some d ∨ p.bv.ownBlock = some d
/-- They are apart. -/
structure VwP.Apart (p : VwP) (g : Nat) : Prop where
  ga : g ≠ p.ma
  gh : g ≠ p.mh
  gn : g ≠ p.mn
  ah : p.ma ≠ p.mh
  an : p.ma ≠ p.mn
  hn : p.mh ≠ p.mn
  pv : ∀ d, p.pv.ownBlock = some d → d ≠ g ∧ d ≠ p.ma ∧ d ≠ p.mh ∧ d ≠ p.mn ∧ p.bv.ownBlock ≠ some d
  bv : ∀ d, p.bv.ownBlock = some d → d ≠ g ∧ d ≠ p.ma ∧ d ≠ p.mh ∧ d ≠ p.mn
/-- A block's own lists lie apart. -/
structure XOk (w : World) (B : Nat) (ids : Nat → Prop) (x : BX) : Prop where
  sl : x.1.sl.length = 64
  free : Sees w (slV x.2.1) x.1.free
  attrs : SeesA w (slV x.2.2) x.1.attrs
  f1 : ∀ d, (slV x.2.1).ownBlock = some d → B ≤ d ∧ d < w.heap.size ∧ ¬ ids d
  a1 : ∀ d, (slV x.2.2).ownBlock = some d → B ≤ d ∧ d < w.heap.size ∧ ¬ ids d
/-- A handle in the map: its counts lie apart. -/
def HOk (w : World) (B : Nat) (ids : Nat → Prop) (v : Value) (L : List (Int × Int)) : Prop :=
  ∃ sl : SlV, v = .agg #[slV sl] ∧ HN.SeesC w (slV sl) L ∧ ∀ d, (slV sl).ownBlock = some d → B ≤ d ∧ d < w.heap.size ∧ ¬ ids d
theorem HOk.keep2 {w w' : World} {B : Nat} {ids ids' : Nat → Prop} {v : Value} {L : List (Int × Int)} (h : HOk w B ids v L) (hz : w.heap.size ≤ w'.heap.size) (hb : ∀ d, B ≤ d → d < w.heap.size → ¬ ids d → w'.heap[d]? = w.heap[d]?) (hs : ∀ d, ids' d → d < w.heap.size → ids d) : HOk w' B ids' v L := by
  obtain ⟨sl, e, h1, h2⟩ := h
  exact ⟨sl, e, h1.keep (fun d hd hl => hb d (h2 d hd).1 hl (h2 d hd).2.2), fun d hd => ⟨(h2 d hd).1, Nat.lt_of_lt_of_le (h2 d hd).2.1 hz, fun hm => (h2 d hd).2.2 (hs d hm (h2 d hd).2.1)⟩⟩
def HRel (w : World) (B : Nat) (ids : Nat → Prop) : List VM.Ent → List (Lit × List (Int × Int)) → Prop
  | [], [] => True
  | e :: H, q :: L => (e.1 = q.1 ∧ HOk w B ids e.2 q.2) ∧ HRel w B ids H L
  | _, _ => False
theorem HRel.keep2 {w w' : World} {B : Nat} {ids ids' : Nat → Prop} (hz : w.heap.size ≤ w'.heap.size) (hb : ∀ d, B ≤ d → d < w.heap.size → ¬ ids d → w'.heap[d]? = w.heap[d]?) (hs : ∀ d, ids' d → d < w.heap.size → ids d) :
    ∀ {H : List VM.Ent} {L : List (Lit × List (Int × Int))}, HRel w B ids H L → HRel w' B ids' H L
  | [], [], _ => trivial
  | e :: H, q :: L, h => ⟨⟨h.1.1, h.1.2.keep2 hz hb hs⟩, HRel.keep2 hz hb hs h.2⟩
  | [], _ :: _, h => h
  | _ :: _, [], h => h
theorem HRel.keep {w w' : World} {B : Nat} {ids : Nat → Prop} {H : List VM.Ent} {L : List (Lit × List (Int × Int))} (h : HRel w B ids H L) (hz : w.heap.size ≤ w'.heap.size) (hb : ∀ d, B ≤ d → d < w.heap.size → ¬ ids d → w'.heap[d]? = w.heap[d]?) : HRel w' B ids H L :=
  HRel.keep2 hz hb (fun _ h _ => h) h
theorem HRel.del {w : World} {B : Nat} {ids : Nat → Prop} (k : Lit) : ∀ {H : List VM.Ent} {L : List (Lit × List (Int × Int))}, HRel w B ids H L → HRel w B ids (VM.delE k H) (VM.delE k L)
  | [], [], _ => trivial
  | e :: H, q :: L, h => by
    have ih := HRel.del k h.2
    unfold VM.delE at ih ⊢
    rw [List.filter_cons, List.filter_cons, h.1.1]
    split
    · exact ⟨h.1, ih⟩
    · exact ih
  | [], _ :: _, h => h.elim
  | _ :: _, [], h => h.elim
theorem HRel.ins {w : World} {B : Nat} {ids : Nat → Prop} {x : VM.Ent} {y : Lit × List (Int × Int)} (hx : x.1 = y.1 ∧ HOk w B ids x.2 y.2) : ∀ {H : List VM.Ent} {L : List (Lit × List (Int × Int))}, HRel w B ids H L → HRel w B ids (VM.insE x H) (VM.insE y L)
  | [], [], _ => ⟨hx, trivial⟩
  | e :: H, q :: L, h => by
    rw [VM.insE, VM.insE, hx.1, h.1.1]
    split
    · exact ⟨hx, h⟩
    · exact ⟨h.1, HRel.ins hx h.2⟩
  | [], _ :: _, h => h.elim
  | _ :: _, [], h => h.elim
theorem HRel.put {w : World} {B : Nat} {ids : Nat → Prop} {H : List VM.Ent} {L : List (Lit × List (Int × Int))} (h : HRel w B ids H L) {v : Value} {c : List (Int × Int)} (hx : HOk w B ids v c) (k : Lit) : HRel w B ids (VM.putE k v H) (VM.putE k c L) :=
  HRel.ins ⟨rfl, hx⟩ (h.del k)
theorem HRel.get {w : World} {B : Nat} {ids : Nat → Prop} (k : Lit) : ∀ {H : List VM.Ent} {L : List (Lit × List (Int × Int))}, HRel w B ids H L → (VM.getE H k = none ∧ VM.getE L k = none) ∨ ∃ v c, VM.getE H k = some v ∧ VM.getE L k = some c ∧ HOk w B ids v c
  | [], [], _ => Or.inl ⟨rfl, rfl⟩
  | e :: H, q :: L, h => by
    have ih := HRel.get k h.2
    unfold VM.getE at ih ⊢
    rw [List.find?_cons, List.find?_cons, h.1.1]
    cases hs : q.1.sameKey k with
    | true => exact Or.inr ⟨e.2, q.2, rfl, rfl, h.1.2⟩
    | false => exact ih
  | [], _ :: _, h => h.elim
  | _ :: _, [], h => h.elim
theorem HRel.len {w : World} {B : Nat} {ids : Nat → Prop} : ∀ {H : List VM.Ent} {L : List (Lit × List (Int × Int))}, HRel w B ids H L → H.length = L.length
  | [], [], _ => rfl
  | _ :: _, _ :: _, h => congrArg (· + 1) (HRel.len h.2)
  | [], _ :: _, h => h.elim
  | _ :: _, [], h => h.elim
abbrev TAff : TypeId := 98
abbrev TStr : TypeId := 9
/-- Block g is a view; what it has lies from B on; at most k records. -/
structure VwIs (w : World) (B g k : Nat) (p : VwP) (s : VwS) : Prop where
  blk : w.heap[g]? = some (.cells (vwL p).toArray 30 (0, 0))
  pools : RowG 64 3 encP w B p.pv s.pools
  blks : RowG 59 68 encX w B p.bv p.X
  xs : p.X.map (·.1) = s.blks
  ok : ∀ x ∈ p.X, XOk w (g + 2) (p.In g) x
  affs : ∃ n, n ≤ k ∧ VM.MapIs TAff w p.ma n s.affs
  hans : ∃ n, n ≤ k ∧ VM.MapIs TStr w p.mh n p.H ∧ HRel w (g + 2) (p.In g) p.H s.hans
  nods : ∃ n, n ≤ k ∧ VM.MapIs TStr w p.mn n s.nods
  lp : s.pools.length ≤ k
  lb : p.X.length ≤ k
  nd : p.Apart g
  bd : ∀ d, p.In g d → B ≤ d ∧ d < w.heap.size
  g1 : g + 1 < w.heap.size
theorem XOk.keep {w w' : World} {B : Nat} {ids : Nat → Prop} {x : BX} (h : XOk w B ids x) (hz : w.heap.size ≤ w'.heap.size) (hb : ∀ d, d < w.heap.size → ¬ ids d → w'.heap[d]? = w.heap[d]?) : XOk w' B ids x :=
  ⟨h.sl, sees_heap h.free (fun d hd hl => hb d hl (h.f1 d hd).2.2), SeesA.keep h.attrs (fun d hd hl => hb d hl (h.a1 d hd).2.2),
   fun d hd => ⟨(h.f1 d hd).1, Nat.lt_of_lt_of_le (h.f1 d hd).2.1 hz, (h.f1 d hd).2.2⟩, fun d hd => ⟨(h.a1 d hd).1, Nat.lt_of_lt_of_le (h.a1 d hd).2.1 hz, (h.a1 d hd).2.2⟩⟩
theorem XOk.keep2 {w w' : World} {B : Nat} {ids ids' : Nat → Prop} {x : BX} (h : XOk w B ids x) (hz : w.heap.size ≤ w'.heap.size) (hb : ∀ d, d < w.heap.size → ¬ ids d → w'.heap[d]? = w.heap[d]?) (hs : ∀ d, ids' d → d < w.heap.size → ids d) : XOk w' B ids' x :=
  ⟨h.sl, sees_heap h.free (fun d hd hl => hb d hl (h.f1 d hd).2.2), SeesA.keep h.attrs (fun d hd hl => hb d hl (h.a1 d hd).2.2),
   fun d hd => ⟨(h.f1 d hd).1, Nat.lt_of_lt_of_le (h.f1 d hd).2.1 hz, fun hm => (h.f1 d hd).2.2 (hs d hm (h.f1 d hd).2.1)⟩, fun d hd => ⟨(h.a1 d hd).1, Nat.lt_of_lt_of_le (h.a1 d hd).2.1 hz, fun hm => (h.a1 d hd).2.2 (hs d hm (h.a1 d hd).2.1)⟩⟩
theorem VwIs.below {w w' : World} {B g k : Nat} {p : VwP} {s : VwS} (h : VwIs w B g k p s) (hb : Below w.heap.size w w') : VwIs w' B g k p s := by
  obtain ⟨h1, h2, h3, h4, h5, ⟨na, ha, hA⟩, ⟨nh, hh, hH⟩, ⟨nn, hn, hN⟩, h9, h10, h11, h12, h13⟩ := h
  exact ⟨(hb.block g (h12 g (Or.inl rfl)).2).trans h1, h2.below hb, h3.below hb, h4, fun x hx => (h5 x hx).keep hb.size (fun d hd _ => hb.block d hd), ⟨na, ha, hA.below hb⟩, ⟨nh, hh, hH.1.below hb, hH.2.keep hb.size (fun d _ hd _ => hb.block d hd)⟩, ⟨nn, hn, hN.below hb⟩, h9, h10, h11, fun d hd => ⟨(h12 d hd).1, Nat.lt_of_lt_of_le (h12 d hd).2 hb.size⟩, Nat.lt_of_lt_of_le h13 hb.size⟩
theorem VwIs.cell {w : World} {B g k : Nat} {p : VwP} {s : VwS} (h : VwIs w B g k p s) : w.cell? ⟨g, 0, none⟩ = some p.pv ∧ w.cell? ⟨g, 1, none⟩ = some p.bv ∧ w.cell? ⟨g, 2, none⟩ = some (.map (some p.ma)) ∧ w.cell? ⟨g, 3, none⟩ = some (.map (some p.mh)) ∧ w.cell? ⟨g, 4, none⟩ = some (.map (some p.mn)) := by
  refine ⟨?_, ?_, ?_, ?_, ?_⟩ <;> (unfold World.cell?; simp only []; rw [h.blk]; rfl)
/-- Only blocks that P tells have turned; the rest of what there was is as it was. -/
structure Tch (P : Nat → Prop) (w w' : World) : Prop where
  os : w'.os = w.os
  tape : w'.tape = w.tape
  output : w'.output = w.output
  size : w.heap.size ≤ w'.heap.size
  block : ∀ i, i < w.heap.size → ¬ P i → w'.heap[i]? = w.heap[i]?
theorem Tch.of_below {P : Nat → Prop} {w w' : World} (h : Below w.heap.size w w') : Tch P w w' := ⟨h.os, h.tape, h.output, h.size, fun i hi _ => h.block i hi⟩
theorem Tch.of_grown {P : Nat → Prop} {w w' : World} {r : Option Nat} (h : w.grownBy w' r) (hr : ∀ k, r = some k → P k ∨ w.heap.size ≤ k) : Tch P w w' :=
  ⟨h.os, h.tape, h.output, h.size, fun i hi hp => h.block i hi (fun e => (hr i e.symm).elim hp (fun h => by omega))⟩
theorem Tch.trans {P Q : Nat → Prop} {a b c : World} (h : Tch P a b) (k : Tch Q b c) (hq : ∀ i, i < a.heap.size → Q i → P i) : Tch P a c :=
  ⟨k.os.trans h.os, k.tape.trans h.tape, k.output.trans h.output, Nat.le_trans h.size k.size, fun i hi hp => (k.block i (Nat.lt_of_lt_of_le hi h.size) (fun q => hp (hq i hi q))).trans (h.block i hi hp)⟩
theorem Tch.below {P : Nat → Prop} {B : Nat} {w w' : World} (h : Tch P w w') (hB : B ≤ w.heap.size) (hp : ∀ i, i < w.heap.size → P i → B ≤ i) : Below B w w' :=
  ⟨h.os, h.tape, h.output, h.size, fun i hi => h.block i (by omega) (fun q => by have := hp i (by omega) q; omega)⟩
theorem Tch.set (P : Nat → Prop) (w : World) (a : Addr) (v : Value) (h : P a.block ∨ w.heap.size ≤ a.block) : Tch P w (w.setCell a v) :=
  ⟨rfl, rfl, rfl, by simp, fun i hi hp => Below.heap_setCell _ _ _ _ (fun e => h.elim (fun h => hp (e ▸ h)) (fun h => by omega))⟩
def VwOut (w : World) (B g k : Nat) (p : VwP) (w' : World) (s' : VwS) : Prop := ∃ p', VwIs w' B g (k + 1) p' s' ∧ Tch (p.In g) w w' ∧ ∀ d, p'.In g d → p.In g d ∨ w.heap.size ≤ d
theorem vset {w : World} {g : Nat} {cs : Array Value} {t : TypeId} (h : w.heap[g]? = some (.cells cs t (0, 0))) (i : Nat) (x : Value) : (w.setCell ⟨g, i, none⟩ x).heap[g]? = some (.cells (cs.setIfInBounds i x) t (0, 0)) := by
  simp [World.setCell, Array.getElem?_modify, h]
theorem vfroz {w : World} {g : Nat} {p : VwP} (h : w.heap[g]? = some (.cells (vwL p).toArray 30 (0, 0))) (i : Nat) : w.frozen? ⟨g, i, none⟩ = false := by simp [World.frozen?, h]
theorem vcells {w : World} {g : Nat} {p : VwP} (h : w.heap[g]? = some (.cells (vwL p).toArray 30 (0, 0))) : w.cell? ⟨g, 0, none⟩ = some p.pv ∧ w.cell? ⟨g, 1, none⟩ = some p.bv ∧ w.cell? ⟨g, 2, none⟩ = some (.map (some p.ma)) ∧ w.cell? ⟨g, 3, none⟩ = some (.map (some p.mh)) ∧ w.cell? ⟨g, 4, none⟩ = some (.map (some p.mn)) := by
  refine ⟨?_, ?_, ?_, ?_, ?_⟩ <;> simp [World.cell?, h, vwL]
/-- The row of pools has grown, and the view has it. -/
theorem VwIs.pushP {w w' : World} {B g c : Nat} {p : VwP} {s : VwS} {v : Value} {q : P3} (h : VwIs w B g c p s) (hg : w'.heap[g]? = some (.cells (vwL { p with pv := v }).toArray 30 (0, 0))) (hr : RowG 64 3 encP w' B v (s.pools ++ [q]))
    (ht : Tch (fun d => d = g ∨ p.pv.ownBlock = some d) w w') (hv : v.ownBlock = p.pv.ownBlock ∨ v.ownBlock = some (w.heap.size + 1)) : VwOut w B g c p w' { s with pools := s.pools ++ [q] } := by
  obtain ⟨h1, h2, h3, h4, h5, ⟨na, ha, hA⟩, ⟨nh, hh, hH⟩, ⟨nn, hn, hN⟩, h9, h10, h11, h12, h13⟩ := h
  have hlv : ∀ d, v.ownBlock = some d → B ≤ d ∧ d < w'.heap.size := fun d hd => World.ownsRow.lt hr d hd
  have hin : ∀ d, ({ p with pv := v } : VwP).In g d → p.In g d ∨ d = w.heap.size + 1 := by
    rintro d (e | e | e | e | e | e)
    · exact Or.inl (Or.inl e)
    · exact Or.inl (Or.inr (Or.inl e))
    · exact Or.inl (Or.inr (Or.inr (Or.inl e)))
    · exact Or.inl (Or.inr (Or.inr (Or.inr (Or.inl e))))
    · rcases hv with hv | hv
      · exact Or.inl (Or.inr (Or.inr (Or.inr (Or.inr (Or.inl (hv.symm.trans e))))))
      · exact Or.inr (Option.some.inj (hv.symm.trans e)).symm
    · exact Or.inl (Or.inr (Or.inr (Or.inr (Or.inr (Or.inr e)))))
  have bd := fun d hd => (h12 d hd).2
  have ap : ∀ d, v.ownBlock = some d → d ≠ g ∧ d ≠ p.ma ∧ d ≠ p.mh ∧ d ≠ p.mn ∧ p.bv.ownBlock ≠ some d := by
    intro d hd
    rcases hv with hv | hv
    · exact h11.pv d (hv.symm.trans hd)
    · have e := Option.some.inj (hv.symm.trans hd)
      refine ⟨fun x => ?_, fun x => ?_, fun x => ?_, fun x => ?_, fun x => ?_⟩
      · have := bd d (Or.inl x); omega
      · have := bd d (Or.inr (Or.inl x)); omega
      · have := bd d (Or.inr (Or.inr (Or.inl x))); omega
      · have := bd d (Or.inr (Or.inr (Or.inr (Or.inl x)))); omega
      · have := bd d (Or.inr (Or.inr (Or.inr (Or.inr (Or.inr x))))); omega
  refine ⟨{ p with pv := v }, ⟨hg, hr, ?_, h4, fun x hx => ?_, ⟨na, by omega, hA.heap (ht.block _ hA.lt ?_)⟩, ⟨nh, by omega, hH.1.heap (ht.block _ hH.1.lt ?_), hH.2.keep2 ht.size (fun d _ hl hn => ht.block d hl (fun x => hn (x.elim Or.inl (fun e => Or.inr (Or.inr (Or.inr (Or.inr (Or.inl e)))))))) (fun d hd hl => (hin d hd).elim id (fun e => absurd hl (by omega)))⟩, ⟨nn, by omega, hN.heap (ht.block _ hN.lt ?_)⟩, by simp; omega, by show p.X.length ≤ c + 1; omega, ⟨h11.ga, h11.gh, h11.gn, h11.ah, h11.an, h11.hn, ap, h11.bv⟩, fun d hd => ?_, Nat.lt_of_lt_of_le h13 ht.size⟩, ⟨ht.os, ht.tape, ht.output, ht.size, fun i hi hp => ht.block i hi (fun x => hp (x.elim Or.inl (fun e => Or.inr (Or.inr (Or.inr (Or.inr (Or.inl e)))))))⟩, fun d hd => (hin d hd).imp id (fun e => by omega)⟩
  · exact h3.keep (fun d hd hl => ht.block d hl (fun x => x.elim (h11.bv d hd).1 (fun e => (h11.pv d e).2.2.2.2 hd)))
  · exact (h5 x hx).keep2 ht.size (fun d hl hn => ht.block d hl (fun x => hn (x.elim Or.inl (fun e => Or.inr (Or.inr (Or.inr (Or.inr (Or.inl e)))))))) (fun d hd hl => (hin d hd).elim id (fun e => absurd hl (by omega)))
  · exact fun x => x.elim (fun e => h11.ga e.symm) (fun e => (h11.pv _ e).2.1 rfl)
  · exact fun x => x.elim (fun e => h11.gh e.symm) (fun e => (h11.pv _ e).2.2.1 rfl)
  · exact fun x => x.elim (fun e => h11.gn e.symm) (fun e => (h11.pv _ e).2.2.2.1 rfl)
  · rcases hin d hd with e | e
    · exact ⟨(h12 d e).1, Nat.lt_of_lt_of_le (h12 d e).2 ht.size⟩
    · rcases hd with x | x | x | x | x | x
      · exact absurd (bd d (Or.inl x)) (by omega)
      · exact absurd (bd d (Or.inr (Or.inl x))) (by omega)
      · exact absurd (bd d (Or.inr (Or.inr (Or.inl x)))) (by omega)
      · exact absurd (bd d (Or.inr (Or.inr (Or.inr (Or.inl x))))) (by omega)
      · exact hlv d x
      · exact absurd (bd d (Or.inr (Or.inr (Or.inr (Or.inr (Or.inr x)))))) (by omega)
/-- The row of blocks has grown, and the view has it. -/
theorem VwIs.pushB {w w' : World} {B g c : Nat} {p : VwP} {s : VwS} {v : Value} {x : BX} (h : VwIs w B g c p s) (hg : w'.heap[g]? = some (.cells (vwL { p with bv := v, X := p.X ++ [x] }).toArray 30 (0, 0))) (hr : RowG 59 68 encX w' B v (p.X ++ [x])) (hx0 : XOk w' (g + 2) (fun d => p.In g d ∨ d = w.heap.size + 1) x)
    (ht : Tch (fun d => d = g ∨ p.bv.ownBlock = some d) w w') (hv : v.ownBlock = p.bv.ownBlock ∨ v.ownBlock = some (w.heap.size + 1)) : VwOut w B g c p w' { s with blks := s.blks ++ [x.1] } := by
  obtain ⟨h1, h2, h3, h4, h5, ⟨na, ha, hA⟩, ⟨nh, hh, hH⟩, ⟨nn, hn, hN⟩, h9, h10, h11, h12, h13⟩ := h
  have hlv : ∀ d, v.ownBlock = some d → B ≤ d ∧ d < w'.heap.size := fun d hd => World.ownsRow.lt hr d hd
  have hin : ∀ d, ({ p with bv := v, X := p.X ++ [x] } : VwP).In g d → p.In g d ∨ d = w.heap.size + 1 := by
    rintro d (e | e | e | e | e | e)
    · exact Or.inl (Or.inl e)
    · exact Or.inl (Or.inr (Or.inl e))
    · exact Or.inl (Or.inr (Or.inr (Or.inl e)))
    · exact Or.inl (Or.inr (Or.inr (Or.inr (Or.inl e))))
    · exact Or.inl (Or.inr (Or.inr (Or.inr (Or.inr (Or.inl e)))))
    · rcases hv with hv | hv
      · exact Or.inl (Or.inr (Or.inr (Or.inr (Or.inr (Or.inr (hv.symm.trans e))))))
      · exact Or.inr (Option.some.inj (hv.symm.trans e)).symm
  have bd := fun d hd => (h12 d hd).2
  have ap : ∀ d, v.ownBlock = some d → d ≠ g ∧ d ≠ p.ma ∧ d ≠ p.mh ∧ d ≠ p.mn ∧ p.pv.ownBlock ≠ some d := by
    intro d hd
    rcases hv with hv | hv
    · have h := hv.symm.trans hd
      have h0 := h11.bv d h
      exact ⟨h0.1, h0.2.1, h0.2.2.1, h0.2.2.2, fun e => (h11.pv d e).2.2.2.2 h⟩
    · have e := Option.some.inj (hv.symm.trans hd)
      refine ⟨fun x => ?_, fun x => ?_, fun x => ?_, fun x => ?_, fun x => ?_⟩
      · have := bd d (Or.inl x); omega
      · have := bd d (Or.inr (Or.inl x)); omega
      · have := bd d (Or.inr (Or.inr (Or.inl x))); omega
      · have := bd d (Or.inr (Or.inr (Or.inr (Or.inl x)))); omega
      · have := bd d (Or.inr (Or.inr (Or.inr (Or.inr (Or.inl x))))); omega
  refine ⟨{ p with bv := v, X := p.X ++ [x] }, ⟨hg, ?_, hr, by rw [List.map_append, h4]; rfl, fun y hy => ?_, ⟨na, by omega, hA.heap (ht.block _ hA.lt ?_)⟩, ⟨nh, by omega, hH.1.heap (ht.block _ hH.1.lt ?_), hH.2.keep2 ht.size (fun d _ hl hn => ht.block d hl (fun x => hn (x.elim Or.inl (fun e => Or.inr (Or.inr (Or.inr (Or.inr (Or.inr e)))))))) (fun d hd hl => (hin d hd).elim id (fun e => absurd hl (by omega)))⟩, ⟨nn, by omega, hN.heap (ht.block _ hN.lt ?_)⟩, by show s.pools.length ≤ c + 1; omega, by show (p.X ++ [x]).length ≤ c + 1; rw [List.length_append]; simp; omega, ⟨h11.ga, h11.gh, h11.gn, h11.ah, h11.an, h11.hn, fun d hd => ?_, fun d hd => let q := ap d hd; ⟨q.1, q.2.1, q.2.2.1, q.2.2.2.1⟩⟩, fun d hd => ?_, Nat.lt_of_lt_of_le h13 ht.size⟩, ⟨ht.os, ht.tape, ht.output, ht.size, fun i hi hp => ht.block i hi (fun x => hp (x.elim Or.inl (fun e => Or.inr (Or.inr (Or.inr (Or.inr (Or.inr e)))))))⟩, fun d hd => (hin d hd).imp id (fun e => by omega)⟩
  · exact h2.keep (fun d hd hl => ht.block d hl (fun x => x.elim (h11.pv d hd).1 (fun e => (h11.pv d hd).2.2.2.2 e)))
  · rcases List.mem_append.1 hy with hy | hy
    · exact (h5 y hy).keep2 ht.size (fun d hl hn => ht.block d hl (fun x => hn (x.elim Or.inl (fun e => Or.inr (Or.inr (Or.inr (Or.inr (Or.inr e)))))))) (fun d hd hl => (hin d hd).elim id (fun e => absurd hl (by omega)))
    · obtain rfl := List.mem_singleton.1 hy
      exact hx0.keep2 (Nat.le_refl _) (fun _ _ _ => rfl) (fun d hd _ => hin d hd)
  · exact fun x => x.elim (fun e => h11.ga e.symm) (fun e => (h11.bv _ e).2.1 rfl)
  · exact fun x => x.elim (fun e => h11.gh e.symm) (fun e => (h11.bv _ e).2.2.1 rfl)
  · exact fun x => x.elim (fun e => h11.gn e.symm) (fun e => (h11.bv _ e).2.2.2 rfl)
  · have h0 := h11.pv d hd
    exact ⟨h0.1, h0.2.1, h0.2.2.1, h0.2.2.2.1, fun e => (ap d e).2.2.2.2 hd⟩
  · rcases hin d hd with e | e
    · exact ⟨(h12 d e).1, Nat.lt_of_lt_of_le (h12 d e).2 ht.size⟩
    · rcases hd with x | x | x | x | x | x
      · exact absurd (bd d (Or.inl x)) (by omega)
      · exact absurd (bd d (Or.inr (Or.inl x))) (by omega)
      · exact absurd (bd d (Or.inr (Or.inr (Or.inl x)))) (by omega)
      · exact absurd (bd d (Or.inr (Or.inr (Or.inr (Or.inl x))))) (by omega)
      · exact absurd (bd d (Or.inr (Or.inr (Or.inr (Or.inr (Or.inl x)))))) (by omega)
      · exact hlv d x
theorem VwOut.of_below {w wd w' : World} {B g k : Nat} {p : VwP} {s' : VwS} (hb : Below w.heap.size w wd) (h : VwOut wd B g k p w' s') : VwOut w B g k p w' s' := by
  obtain ⟨p', h1, h2, h3⟩ := h
  exact ⟨p', h1, (Tch.of_below hb).trans h2 (fun _ _ h => h), fun d hd => (h3 d hd).imp id (fun e => Nat.le_trans hb.size e)⟩
theorem vdrew (w : World) : Below w.heap.size w w.drew := ⟨rfl, rfl, rfl, Nat.le_refl _, fun _ _ => rfl⟩
/-- What a record that is taken, or not, leads to. -/
def TkPost (w : World) (B g k : Nat) (p : VwP) (o : Option VwS) (e : Ending) (w' : World) : Prop := match o with
  | none => e = .returned (.bool false) ∧ Below w.heap.size w w'
  | some s' => e = .returned (.bool true) ∧ VwOut w B g k p w' s'
/-- What has turned lies below. -/
theorem VwIs.tch {P : Nat → Prop} {w w' : World} {B g k : Nat} {p : VwP} {s : VwS} (h : VwIs w B g k p s) (ht : Tch P w w') (hp : ∀ d, B ≤ d → ¬ P d) : VwIs w' B g k p s := by
  obtain ⟨h1, h2, h3, h4, h5, ⟨na, ha, hA⟩, ⟨nh, hh, hH⟩, ⟨nn, hn, hN⟩, h9, h10, h11, h12, h13⟩ := h
  have hBg : B ≤ g + 2 := by have := (h12 g (Or.inl rfl)).1; omega
  have kp : ∀ d, B ≤ d → d < w.heap.size → w'.heap[d]? = w.heap[d]? := fun d hB hl => ht.block d hl (hp d hB)
  have ki : ∀ d, p.In g d → w'.heap[d]? = w.heap[d]? := fun d hd => kp d (h12 d hd).1 (h12 d hd).2
  refine ⟨(ki g (Or.inl rfl)).trans h1, h2.keep (fun d hd hl => kp d (h2.form d hd).1 hl), h3.keep (fun d hd hl => kp d (h3.form d hd).1 hl), h4, fun x hx => ?_, ⟨na, ha, hA.heap (ki _ (Or.inr (Or.inl rfl)))⟩, ⟨nh, hh, hH.1.heap (ki _ (Or.inr (Or.inr (Or.inl rfl)))), hH.2.keep ht.size (fun d hB hl _ => kp d (Nat.le_trans hBg hB) hl)⟩, ⟨nn, hn, hN.heap (ki _ (Or.inr (Or.inr (Or.inr (Or.inl rfl)))))⟩, h9, h10, h11, fun d hd => ⟨(h12 d hd).1, Nat.lt_of_lt_of_le (h12 d hd).2 ht.size⟩, Nat.lt_of_lt_of_le h13 ht.size⟩
  have q := h5 x hx
  exact ⟨q.sl, sees_heap q.free (fun d hd hl => kp d (Nat.le_trans hBg (q.f1 d hd).1) hl), SeesA.keep q.attrs (fun d hd hl => kp d (Nat.le_trans hBg (q.a1 d hd).1) hl), fun d hd => ⟨(q.f1 d hd).1, Nat.lt_of_lt_of_le (q.f1 d hd).2.1 ht.size, (q.f1 d hd).2.2⟩, fun d hd => ⟨(q.a1 d hd).1, Nat.lt_of_lt_of_le (q.a1 d hd).2.1 ht.size, (q.a1 d hd).2.2⟩⟩
/-- Block g + 1 alone has turned. -/
theorem VwIs.next {w w' : World} {B g k : Nat} {p : VwP} {s : VwS} (h : VwIs w B g k p s) (ht : Tch (· = g + 1) w w') (hn : ¬ p.In g (g + 1)) : VwIs w' B g k p s := by
  obtain ⟨h1, h2, h3, h4, h5, ⟨na, ha, hA⟩, ⟨nh, hh, hH⟩, ⟨nn, hnn, hN⟩, h9, h10, h11, h12, h13⟩ := h
  have ki : ∀ d, p.In g d → w'.heap[d]? = w.heap[d]? := fun d hd => ht.block d (h12 d hd).2 (fun e => hn (e ▸ hd))
  refine ⟨(ki g (Or.inl rfl)).trans h1, h2.keep (fun d hd _ => ki d (Or.inr (Or.inr (Or.inr (Or.inr (Or.inl hd)))))), h3.keep (fun d hd _ => ki d (Or.inr (Or.inr (Or.inr (Or.inr (Or.inr hd)))))), h4, fun x hx => ?_, ⟨na, ha, hA.heap (ki _ (Or.inr (Or.inl rfl)))⟩, ⟨nh, hh, hH.1.heap (ki _ (Or.inr (Or.inr (Or.inl rfl)))), hH.2.keep ht.size (fun d hB hl _ => ht.block d hl (fun e => by omega))⟩, ⟨nn, hnn, hN.heap (ki _ (Or.inr (Or.inr (Or.inr (Or.inl rfl)))))⟩, h9, h10, h11, fun d hd => ⟨(h12 d hd).1, Nat.lt_of_lt_of_le (h12 d hd).2 ht.size⟩, Nat.lt_of_lt_of_le h13 ht.size⟩
  have q := h5 x hx
  exact ⟨q.sl, sees_heap q.free (fun d hd hl => ht.block d hl (fun e => by have := (q.f1 d hd).1; omega)), SeesA.keep q.attrs (fun d hd hl => ht.block d hl (fun e => by have := (q.a1 d hd).1; omega)), fun d hd => ⟨(q.f1 d hd).1, Nat.lt_of_lt_of_le (q.f1 d hd).2.1 ht.size, (q.f1 d hd).2.2⟩, fun d hd => ⟨(q.a1 d hd).1, Nat.lt_of_lt_of_le (q.a1 d hd).2.1 ht.size, (q.a1 d hd).2.2⟩⟩
theorem vset5 {w : World} {g : Nat} {a b c d e : Value} {t : TypeId} (h : w.heap[g]? = some (.cells #[a, b, c, d, e] t (0, 0))) (a' b' c' d' e' : Value) :
    (((((w.setCell ⟨g, 0, none⟩ a').setCell ⟨g, 1, none⟩ b').setCell ⟨g, 2, none⟩ c').setCell ⟨g, 3, none⟩ d').setCell ⟨g, 4, none⟩ e').heap[g]? = some (.cells #[a', b', c', d', e'] t (0, 0)) := by
  have := vset (vset (vset (vset (vset h 0 a') 1 b') 2 c') 3 d') 4 e'
  simpa using this
theorem vtch5 (w : World) (g : Nat) (a' b' c' d' e' : Value) : Tch (· = g) w (((((w.setCell ⟨g, 0, none⟩ a').setCell ⟨g, 1, none⟩ b').setCell ⟨g, 2, none⟩ c').setCell ⟨g, 3, none⟩ d').setCell ⟨g, 4, none⟩ e') :=
  ((((Tch.set (· = g) w ⟨g, 0, none⟩ a' (Or.inl rfl)).trans (Tch.set (· = g) _ ⟨g, 1, none⟩ b' (Or.inl rfl)) (fun _ _ h => h)).trans (Tch.set (· = g) _ ⟨g, 2, none⟩ c' (Or.inl rfl)) (fun _ _ h => h)).trans (Tch.set (· = g) _ ⟨g, 3, none⟩ d' (Or.inl rfl)) (fun _ _ h => h)).trans (Tch.set (· = g) _ ⟨g, 4, none⟩ e' (Or.inl rfl)) (fun _ _ h => h)
theorem vcells5 {w : World} {g : Nat} {a b c d e : Value} {t : TypeId} (h : w.heap[g]? = some (.cells #[a, b, c, d, e] t (0, 0))) : w.cell? ⟨g, 0, none⟩ = some a ∧ w.cell? ⟨g, 1, none⟩ = some b ∧ w.cell? ⟨g, 2, none⟩ = some c ∧ w.cell? ⟨g, 3, none⟩ = some d ∧ w.cell? ⟨g, 4, none⟩ = some e := by
  refine ⟨?_, ?_, ?_, ?_, ?_⟩ <;> simp [World.cell?, h]
theorem vfroz5 {w : World} {g : Nat} {a b c d e : Value} {t : TypeId} (h : w.heap[g]? = some (.cells #[a, b, c, d, e] t (0, 0))) (i : Nat) : w.frozen? ⟨g, i, none⟩ = false := by simp [World.frozen?, h]
end Go.Proofs.YtiifbhiodegipaaGreatDoor
namespace Go.Proofs.YtiifbhiodegipaaGreatDoor
open Go.RowKit
section
variable {w : World} {g n : Nat} {T : TypeId} {L L0 : List Value}
abbrev At (w : World) (g : Nat) (T : TypeId) (L : List Value) : Prop := w.heap[g]? = some (.cells L.toArray T (0, 0))
theorem At.whole (h : At w g T L) : w.rangeAt g 0 L := fun j v hv => by
  rw [Nat.zero_add]
  have h' : w.heap[g]? = some (.cells L.toArray T (0, 0)) := h
  simp only [World.cell?, h']
  rw [← hv]
  exact List.getElem?_toArray ..
theorem At.there (h : At w g T L) (hl : L.length = n) : w.there g 0 n := fun j hj => by
  have h' : w.heap[g]? = some (.cells L.toArray T (0, 0)) := h
  constructor
  · simp only [World.cell?, h']
    rw [Array.getElem?_eq_getElem (show 0 + j < L.toArray.size by simp; omega)]; rfl
  · simp [World.frozen?, h']
theorem At.sets (h : At w g T L0) (hl0 : L0.length = n) (hl : L.length = n) : At (w.setCells g 0 L) g T L ∧ w.grownBy (w.setCells g 0 L) (some g) := by
  obtain ⟨cur', h1, h2, h3, h4⟩ := setCells_row g T L 0 w _ h (by simp; omega)
  refine ⟨?_, h4⟩
  have e : cur' = L.toArray := by
    apply Array.toList_inj.1
    have h2 : cur'.size = L0.toArray.size := h2
    rw [Nat.zero_add, List.take_zero, List.nil_append, List.take_of_length_le (by rw [Array.length_toList, h2]; simp; omega)] at h3
    exact h3
  rw [e] at h1
  exact h1
theorem At.load (h : At w g T L) (hl : L.length = n) (hi : (Tryz.prog.info? T).map (·.size) = some n) {fs} (hT : Tryz.prog.underlying T = some (.struct fs)) : (loadVar T ⟨g, 0, none⟩).run Tryz.prog w = .ok (.agg L.toArray) w :=
  run_loadVar_mid w g 0 T L _ h.whole hT rfl (by rw [hi, hl])
section
variable {ops : Array Oper} {rest : List Oper} {o : Oper} {a : Act} {Q : Exit → Act → World → Prop}
theorem wpStG (hgd : o.guard = none) (x z : Operand) (ho : o.op = .store T x z) (hx : a.eval x = .pointer (some ⟨g, 0, none⟩)) (hy : a.eval z = .agg L.toArray)
    (h : At w g T L0) (hl0 : L0.length = n) (hl : L.length = n) (hi : (Tryz.prog.info? T).map (·.size) = some n) (h1 : ∀ v ∈ L, v.oneCell' = true)
    (hK : ∀ w', At w' g T L → w.grownBy w' (some g) → wpList Tryz.prog ops Q rest (a.put o.dst undef) w') : wpList Tryz.prog ops Q (o :: rest) a w := by
  have hs : L.toArray.size = n := by rw [List.size_toArray, hl]
  refine wpList_store_mid hgd T x z ho g 0 L.toArray hx hy (by rw [hs]; exact h.there hl0) (by rw [hs]; exact hi) (all_oneCell_toArray h1) ?_
  obtain ⟨k1, k2⟩ := At.sets (L := L) h hl0 hl
  exact hK _ k1 k2
end
end
end Go.Proofs.YtiifbhiodegipaaGreatDoor
namespace Go.Proofs.YtiifbhiodegipaaGreatDoor
open Go.RowKit
abbrev TGm : TypeId := 78
set_option maxRecDepth 100000 in
set_option maxHeartbeats 4000000 in
theorem keysE (n l Bm b clk : Nat) (W : World) (hm : W.cell? ⟨Bm, 0, none⟩ = some (.map (some b))) (hb : W.heap[b]? = some (.map #[] clk)) :
    CallsIn Fence.wide n Tryz.prog 71 #[.func (.yield l) #[] #[], .pointer (some ⟨Bm, 0, none⟩)] W fun e W' => (∃ v, e = .returned v) ∧ Below W.heap.size W W' := by
  have hrg := run_range_map (P := Tryz.prog) W TGm 41 76 b #[] clk Tryz.underlying78 hb
  have hnx : ∀ ty, (Instr.next (.pointer (some ⟨W.heap.size, 0, none⟩)) false ty).run Tryz.prog (W.alloc (.mapIter (some b) clk #[] clk)) = .ok (.tuple #[.bool false]) (W.alloc (.mapIter (some b) clk #[] clk)) := fun ty => by
    rcases run_next_map (P := Tryz.prog) W ty b clk clk #[] #[] clk hb (fun x hx => by simp at hx) (Nat.le_refl _) with ⟨_, h⟩ | ⟨e, he, _⟩
    · exact h
    · simp [leftOf] at he
  refine callsIn_of_wp Tryz.func71 rfl trivial ?_ rfl
  simp only [Tryz.ntmps71, List.size_toArray, List.length_cons, List.length_nil, Nat.reduceAdd, Nat.reduceSub, Array.replicate_succ, Array.replicate_zero, List.push_toArray, List.append_toArray, List.nil_append, List.cons_append]
  gi_wp2
  refine wpIn_loop_rounds 1 ?_
  rw [roundsIn_succ]
  gi_wp2
  go_end0
  exact ⟨⟨_, rfl⟩, belNew _ _⟩
abbrev itF (Bm : Nat) : Value := .func (.func 71) #[] #[.pointer (some ⟨Bm, 0, none⟩)]
theorem put_other {w : World} {l i : Nat} {o : Obj} (h : i ≠ l) : (w.putObj l o).heap[i]? = w.heap[i]? := World.putObj_heap_other h
theorem put_size (w : World) (l : Nat) (o : Obj) : (w.putObj l o).heap.size = w.heap.size := by simp [World.putObj]
/-- A range over a function that ends without a round. -/
theorem rangeFunc_none {n : Nat} {g : Operand} {ps : Array Tmp} {assign body : Code} {Q : Exit → Act → World → Prop} {a : Act} {w : World} (fid : FuncId) (lb : Array Value) (hg : a.eval g = .func (.func fid) #[] lb) (hn : 1 ≤ n)
    (henter : ∀ args w, (callFunc fid args).run Tryz.prog w = .ok (.enter fid args) w)
    (hcall : ∀ W1, Below w.heap.size w W1 → CallsIn Fence.wide (n - 1) Tryz.prog fid (#[.func (.yield (w.heap.size + 1)) #[] #[]] ++ lb) W1 fun e W' => (∃ v, e = .returned v) ∧ Below W1.heap.size W1 W')
    (hQ : ∀ W4, Below w.heap.size w W4 → W4.heap[w.heap.size]? = some (.deferred (some [])) → Q .normal { a with defers := [{ target := .collected w.heap.size, args := #[] }] ++ a.defers } W4) :
    (Code.rangeFunc g ps assign body).wpIn Fence.wide n Tryz.prog Q a w := by
  refine wpIn_rangeFunc ?_
  intro fn _
  obtain ⟨W1, hW1⟩ : ∃ W1, W1 = (w.alloc (.deferred (some []))).alloc (.loop { state := .ready, pending := none, fn, tmps := a.tmps, params := ps, assign, body, defers := w.heap.size }) := ⟨_, rfl⟩
  have hb1 : Below w.heap.size w W1 := by rw [hW1]; exact belAlloc (belNew w _) _
  have hd1 : W1.heap[w.heap.size]? = some (.deferred (some [])) := by
    rw [hW1]
    exact (Below.heap_alloc _ _ _ (by simp)).trans (heap_alloc_new w _)
  have hl1 : W1.heap[w.heap.size + 1]? = some (.loop { state := .ready, pending := none, fn, tmps := a.tmps, params := ps, assign, body, defers := w.heap.size }) := by
    rw [hW1]
    have := heap_alloc_new (w.alloc (.deferred (some []))) (.loop { state := .ready, pending := none, fn, tmps := a.tmps, params := ps, assign, body, defers := w.heap.size })
    simpa using this
  refine ⟨w.heap.size + 1, [{ target := .collected w.heap.size, args := #[] }], W1, { target := .fn (.func fid) lb, args := #[.func (.yield (w.heap.size + 1)) #[] #[]] }, W1, fid, #[.func (.yield (w.heap.size + 1)) #[] #[]] ++ lb, W1, ?_, ?_, fun _ _ => trivial, ?_, fun _ => hn, ?_⟩
  · rw [hW1]; exact run_enterLoop_outer _ _ _ _ _
  · have hg2 : ({ a with defers := [{ target := .collected w.heap.size, args := #[] }] ++ a.defers } : Act).eval g = .func (.func fid) #[] lb := hg
    have hg3 := hg
    simp [go_sem] at hg3
    simp [resolve, rangeCall, go_sem, hg3]
  · simp [invoke, go_sem, henter]
  · refine (hcall W1 hb1).mono ?_
    rintro e W2 ⟨⟨v, rfl⟩, hb2⟩
    have hl2 := (hb2.block _ (heap_lt hl1)).trans hl1
    have hd2 := (hb2.block _ (heap_lt hd1)).trans hd1
    refine ⟨none, _, run_endLoop hl2 (by simp), ?_⟩
    refine hQ _ ?_ ((put_other (by omega)).trans hd2)
    have hb := hb1.trans (hb2.mono hb1.size)
    exact hb.trans ⟨rfl, rfl, rfl, by rw [put_size]; exact Nat.le_refl _, fun i hi => put_other (by omega)⟩
set_option maxRecDepth 100000 in
set_option maxHeartbeats 4000000 in
theorem appendE (n Bm b clk : Nat) (hn : 2 ≤ n) (w : World) (hm : w.cell? ⟨Bm, 0, none⟩ = some (.map (some b))) (hb : w.heap[b]? = some (.map #[] clk)) :
    CallsIn Fence.wide n Tryz.prog 106 #[.slice none 0 0, itF Bm] w fun e w' => e = .returned (.slice none 0 0) ∧ Below w.heap.size w w' := by
  refine callsIn_of_wp_marks Tryz.func106 rfl trivial ?_ rfl
  simp only [Tryz.ntmps106, List.size_toArray, List.length_cons, List.length_nil, Nat.reduceAdd, Nat.reduceSub, Array.replicate_succ, Array.replicate_zero, List.push_toArray, List.append_toArray, List.nil_append, List.cons_append]
  gi_wp2
  obtain ⟨W0, hW0⟩ : ∃ W0, w.alloc (.cells #[.slice none 0 0] 67) = W0 := ⟨_, rfl⟩
  have hs0 : W0.heap.size = w.heap.size + 1 := by rw [← hW0]; simp
  have hv0 : W0.heap[w.heap.size]? = some (.cells #[.slice none 0 0] 67 (0, 0)) := by rw [← hW0]; exact World.alloc_heap_new w _
  have hb0 : Below w.heap.size w W0 := by rw [← hW0]; exact belNew w _
  rw [hW0]
  refine rangeFunc_none 71 #[.pointer (some ⟨Bm, 0, none⟩)] rfl (by omega) (fun args w => by kernel_rfl) (fun W1 hb1 => keysE (n - 1) _ Bm b clk W1 ?_ ?_) (fun W4 hb4 hd4 => ?_)
  · have h1 := hb0.trans (hb1.mono hb0.size)
    exact (h1.cell (p := ⟨Bm, 0, none⟩) (cell_lt8 hm)).trans hm
  · exact ((hb0.trans (hb1.mono hb0.size)).block _ (heap_lt hb)).trans hb
  · have hv4 := (hb4.block _ (heap_lt hv0)).trans hv0
    have hc4 : W4.cell? ⟨w.heap.size, 0, none⟩ = some (.slice none 0 0) := by simp [World.cell?, hv4]
    have hbb := hb0.trans (hb4.mono hb0.size)
    clear hv0 hv4
    gi_wp2
    refine ⟨by simp, .inl ⟨_, _, rfl, run_takeDeferred hd4, ?_⟩⟩
    refine ⟨_, results_tmp rfl _ _ _, rfl, hbb.trans ⟨rfl, rfl, rfl, by rw [put_size]; exact Nat.le_refl _, fun i hi => put_other (by omega)⟩⟩
set_option maxRecDepth 100000 in
set_option maxHeartbeats 4000000 in
theorem collectE (Bm b clk : Nat) (w : World) (hm : w.cell? ⟨Bm, 0, none⟩ = some (.map (some b))) (hb : w.heap[b]? = some (.map #[] clk)) :
    Calls Tryz.prog 69 #[itF Bm] w fun e w' => e = .returned (.slice none 0 0) ∧ Below w.heap.size w w' := by
  have HA := Lib.hid (callsIn_wide.1 (appendE 2 Bm b clk (Nat.le_refl _) w hm hb))
  clear hm hb
  go_enter Tryz.func69, Tryz.ntmps69
  go_wp2_with fail
  refine HA.out.mono ?_; rintro e w1 ⟨rfl, hb1⟩
  go_wp2_with fail
  go_ret
  exact ⟨rfl, hb1⟩
set_option maxRecDepth 100000 in
set_option maxHeartbeats 4000000 in
theorem insE0 (w : World) :
    Calls Tryz.prog 142 #[.slice none 0 0, .int .i64 0, .int .i64 0] w fun e w' => (∃ v, e = .returned v) ∧ Below w.heap.size w w' := by
  go_enter Tryz.func142, Tryz.ntmps142
  go_wp2_with fail
  refine wp_loop_rounds 1 ?_
  rw [rounds_succ]
  go_wp2_with fail
  go_end0
  exact ⟨⟨_, rfl⟩, Below.refl _ _⟩
set_option maxRecDepth 100000 in
set_option maxHeartbeats 4000000 in
theorem pdqE0 (lim : Int) (w : World) :
    Calls Tryz.prog 107 #[.slice none 0 0, .int .i64 0, .int .i64 0, .int .i64 lim] w fun e w' => (∃ v, e = .returned v) ∧ Below w.heap.size w w' := by
  have HA := Lib.hid (insE0 w)
  go_enter Tryz.func107, Tryz.ntmps107
  go_wp2_with fail
  refine wp_loop_rounds 1 ?_
  rw [rounds_succ]
  go_wp2_with fail
  refine HA.out.mono ?_; rintro e w1 ⟨⟨v, rfl⟩, hb1⟩
  go_wp2_with fail
  refine bodyPost_ret (results_none rfl _ _ _) rfl ⟨⟨_, rfl⟩, hb1⟩
set_option maxRecDepth 100000 in
set_option maxHeartbeats 4000000 in
theorem sortE0 (w : World) :
    Calls Tryz.prog 70 #[.slice none 0 0] w fun e w' => (∃ v, e = .returned v) ∧ Below w.heap.size w w' := by
  have HL := Lib.hid (Tryz.bits_Len 0 w (by omega) (by omega))
  have HP := Lib.hid (fun lim w => pdqE0 lim w)
  go_enter Tryz.func70, Tryz.ntmps70
  go_wp2_with fail
  refine HL.out.mono ?_; rintro e w1 ⟨rfl, rfl⟩
  go_wp2_with fail
  refine (HP.out _ _).mono ?_; rintro e w2 ⟨⟨v, rfl⟩, hb2⟩
  go_wp2_with fail
  go_end0
  exact ⟨⟨_, rfl⟩, hb2⟩
set_option maxRecDepth 100000 in
set_option maxHeartbeats 4000000 in
theorem sortedE (Bm b clk : Nat) (w : World) (hm : w.cell? ⟨Bm, 0, none⟩ = some (.map (some b))) (hb : w.heap[b]? = some (.map #[] clk)) :
    Calls Tryz.prog 42 #[itF Bm] w fun e w' => e = .returned (.slice none 0 0) ∧ Below w.heap.size w w' := by
  have HA := Lib.hid (collectE Bm b clk w hm hb)
  have HS := Lib.hid (fun w => sortE0 w)
  clear hm hb
  go_enter Tryz.func42, Tryz.ntmps42
  go_wp2_with fail
  refine HA.out.mono ?_; rintro e w1 ⟨rfl, hb1⟩
  go_wp2_with fail
  refine (HS.out _).mono ?_; rintro e w2 ⟨⟨v, rfl⟩, hb2⟩
  go_wp2_with fail
  go_ret
  exact ⟨rfl, bel hb1 hb2⟩
set_option maxRecDepth 100000 in
set_option maxHeartbeats 4000000 in
theorem keysOf_any (b : Nat) (w : World) :
    Calls Tryz.prog 43 #[.map (some b)] w fun e w' => e = .returned (itF w.heap.size) ∧ w'.cell? ⟨w.heap.size, 0, none⟩ = some (.map (some b)) ∧ Below w.heap.size w w' := by
  go_enter Tryz.func43, Tryz.ntmps43
  go_wp2_with fail
  go_ret
  exact ⟨rfl, by unfold World.cell?; simp only []; rw [heap_alloc_new w (.cells #[.map (some b)] 78)]; rfl, belNew _ _⟩
end Go.Proofs.YtiifbhiodegipaaGreatDoor
