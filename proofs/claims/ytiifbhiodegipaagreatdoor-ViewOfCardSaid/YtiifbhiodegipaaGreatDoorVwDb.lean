/- The document's view: a block that is read: where its parts lie. Made by g_vwdb.py. -/
import Derived.Test.YtiifbhiodegipaaGreatDoorPkRef
import Derived.Test.YtiifbhiodegipaaGreatDoorJIw
import Derived.Test.YtiifbhiodegipaaGreatDoorVwB
namespace Go.Proofs.YtiifbhiodegipaaGreatDoor
open Go.RowKit
theorem rdR_keep {g : Nat} {xs : List Int} {st : Option (List Int)} {w w' : World} (h : RdR g g xs st w) (hb : ∀ d, d ≤ g → d < w.heap.size → w'.heap[d]? = w.heap[d]?) : RdR g g xs st w' := by
  obtain ⟨v, i, h1, h2, h3, h4, h5, h6, h7, h8⟩ := h
  exact ⟨v, i, (hb g (Nat.le_refl _) (heap_lt h1)).trans h1, sees_or h2 h3 (fun d hd hl => hb d (by omega) hl), h3, h4, h5, h6, h7, h8⟩
structure DB (w : World) (gr gd B0 : Nat) (xs : List Int) (st : Option (List Int)) (a : Int) (f : ByteArray) (v1 v2 v3 : Value) (sl fr : List Int) (at_ : List PA) (wr : World) : Prop where
  rd : RdR gr gr xs st wr
  doc : DocAt wr gd a f v1 v2 v3
  res : DocAt wr w.heap.size 0 ⟨#[]⟩ NS NS NS
  r1 : RowI1 wr B0 v1 sl
  r2 : RowI1 wr B0 v2 fr
  r3 : RowG ERt 2 encA wr B0 v3 at_
  below : Below w.heap.size w wr
  o : w.heap.size < gr ∧ gr < gd ∧ gd < B0 ∧ B0 ≤ wr.heap.size
  d12 : ∀ d, v1.ownBlock = some d → v2.ownBlock ≠ some d
  d13 : ∀ d, v1.ownBlock = some d → v3.ownBlock ≠ some d
  d23 : ∀ d, v2.ownBlock = some d → v3.ownBlock ≠ some d
section
variable {w : World} {gr gd B0 : Nat} {xs : List Int} {st : Option (List Int)} {a : Int} {f : ByteArray} {v1 v2 v3 : Value} {sl fr : List Int} {at_ : List PA} {wr : World}
/-- The reader alone has turned. -/
theorem DB.read {w' : World} {st' : Option (List Int)} (h : DB w gr gd B0 xs st a f v1 v2 v3 sl fr at_ wr) (hg : wr.grownBy w' (some gr)) (hr : RdR gr gr xs st' w') : DB w gr gd B0 xs st' a f v1 v2 v3 sl fr at_ w' := by
  obtain ⟨o1, o2, o3, o4⟩ := h.o
  have kp : ∀ d, d < wr.heap.size → d ≠ gr → w'.heap[d]? = wr.heap[d]? := fun d hd hn => hg.block d hd (fun e => hn (Option.some.inj e))
  exact ⟨hr, (kp _ (heap_lt h.doc) (by omega)).trans h.doc, (kp _ (heap_lt h.res) (by omega)).trans h.res, h.r1.keep (fun d hd hl => kp d hl (by have := (h.r1.form d hd).1; omega)), h.r2.keep (fun d hd hl => kp d hl (by have := (h.r2.form d hd).1; omega)), h.r3.keep (fun d hd hl => kp d hl (by have := (h.r3.form d hd).1; omega)), h.below.grown hg h.below.size (fun k hk => by cases hk; omega), ⟨o1, o2, o3, Nat.le_trans o4 hg.size⟩, h.d12, h.d13, h.d23⟩
theorem DB.still {w' : World} (h : DB w gr gd B0 xs st a f v1 v2 v3 sl fr at_ wr) (hb : Below wr.heap.size wr w') : DB w gr gd B0 xs st a f v1 v2 v3 sl fr at_ w' := by
  obtain ⟨o1, o2, o3, o4⟩ := h.o
  exact ⟨h.rd.below hb, h.doc.below hb, h.res.below hb, h.r1.below hb, h.r2.below hb, h.r3.below hb, h.below.trans (hb.mono h.below.size), ⟨o1, o2, o3, Nat.le_trans o4 hb.size⟩, h.d12, h.d13, h.d23⟩
theorem DB.push1 {W2 : World} {u : Value} {x : Int} (h : DB w gr gd B0 xs st a f v1 v2 v3 sl fr at_ wr) (hr : RowI1 W2 B0 u (sl ++ [x])) (hg : wr.grownBy W2 v1.ownBlock) (hv : u.ownBlock = v1.ownBlock ∨ u.ownBlock = some (wr.heap.size + 1)) :
    DB w gr gd B0 xs st a f u v2 v3 (sl ++ [x]) fr at_ (W2.setCell ⟨gd, 2, none⟩ u) := by
  obtain ⟨o1, o2, o3, o4⟩ := h.o
  have hown : ∀ d, v1.ownBlock = some d → B0 ≤ d := fun d hd => (h.r1.form d hd).1
  have k2 : ∀ d, d < wr.heap.size → v1.ownBlock ≠ some d → W2.heap[d]? = wr.heap[d]? := fun d hd hn => hg.block d hd (fun e => hn e.symm)
  have kp : ∀ d, d < wr.heap.size → d ≠ gd → v1.ownBlock ≠ some d → (W2.setCell ⟨gd, 2, none⟩ u).heap[d]? = wr.heap[d]? := fun d hd hn hm => (Below.heap_setCell _ _ _ _ hn).trans (k2 d hd hm)
  have nb : ∀ d, d < B0 → v1.ownBlock ≠ some d := fun d hd e => by have := hown d e; omega
  have hdoc : DocAt W2 gd a f v1 v2 v3 := (k2 gd (heap_lt h.doc) (nb gd o3)).trans h.doc
  have hW : Below B0 wr W2 := (Below.refl B0 wr).grown hg o4 (fun k hk => hown k hk)
  have hrd : RdR gr gr xs st (W2.setCell ⟨gd, 2, none⟩ u) := rdR_keep h.rd (fun d hd hl => kp d hl (by omega) (nb d (by omega))) 
  exact ⟨hrd, hdoc.set2 u, (kp _ (heap_lt h.res) (by omega) (nb _ (by omega))).trans h.res, hr.keep (fun d hd hl => Below.heap_setCell _ _ _ _ (by have := (hr.form d hd).1; show d ≠ gd; omega)), h.r2.keep (fun d hd hl => kp d hl (by have := (h.r2.form d hd).1; omega) ((fun e => h.d12 d e hd))), h.r3.keep (fun d hd hl => kp d hl (by have := (h.r3.form d hd).1; omega) ((fun e => h.d13 d e hd))), (h.below.grown hg h.below.size (fun k hk => by have := hown k hk; omega)).setCell (p := ⟨gd, 2, none⟩) (by show w.heap.size ≤ gd; omega) u, ⟨o1, o2, o3, Nat.le_trans o4 (by have := hg.size; simpa using this)⟩, (fun d hd e => hv.elim (fun x => h.d12 d (x.symm.trans hd) e) (fun x => by have h1 := (h.r2.form d e).2; have h2 := Option.some.inj (x.symm.trans hd); omega)), (fun d hd e => hv.elim (fun x => h.d13 d (x.symm.trans hd) e) (fun x => by have h1 := (h.r3.form d e).2; have h2 := Option.some.inj (x.symm.trans hd); omega)), h.d23⟩
theorem DB.push2 {W2 : World} {u : Value} {x : Int} (h : DB w gr gd B0 xs st a f v1 v2 v3 sl fr at_ wr) (hr : RowI1 W2 B0 u (fr ++ [x])) (hg : wr.grownBy W2 v2.ownBlock) (hv : u.ownBlock = v2.ownBlock ∨ u.ownBlock = some (wr.heap.size + 1)) :
    DB w gr gd B0 xs st a f v1 u v3 sl (fr ++ [x]) at_ (W2.setCell ⟨gd, 3, none⟩ u) := by
  obtain ⟨o1, o2, o3, o4⟩ := h.o
  have hown : ∀ d, v2.ownBlock = some d → B0 ≤ d := fun d hd => (h.r2.form d hd).1
  have k2 : ∀ d, d < wr.heap.size → v2.ownBlock ≠ some d → W2.heap[d]? = wr.heap[d]? := fun d hd hn => hg.block d hd (fun e => hn e.symm)
  have kp : ∀ d, d < wr.heap.size → d ≠ gd → v2.ownBlock ≠ some d → (W2.setCell ⟨gd, 3, none⟩ u).heap[d]? = wr.heap[d]? := fun d hd hn hm => (Below.heap_setCell _ _ _ _ hn).trans (k2 d hd hm)
  have nb : ∀ d, d < B0 → v2.ownBlock ≠ some d := fun d hd e => by have := hown d e; omega
  have hdoc : DocAt W2 gd a f v1 v2 v3 := (k2 gd (heap_lt h.doc) (nb gd o3)).trans h.doc
  have hW : Below B0 wr W2 := (Below.refl B0 wr).grown hg o4 (fun k hk => hown k hk)
  have hrd : RdR gr gr xs st (W2.setCell ⟨gd, 3, none⟩ u) := rdR_keep h.rd (fun d hd hl => kp d hl (by omega) (nb d (by omega))) 
  exact ⟨hrd, hdoc.set3 u, (kp _ (heap_lt h.res) (by omega) (nb _ (by omega))).trans h.res, h.r1.keep (fun d hd hl => kp d hl (by have := (h.r1.form d hd).1; omega) (h.d12 d hd)), hr.keep (fun d hd hl => Below.heap_setCell _ _ _ _ (by have := (hr.form d hd).1; show d ≠ gd; omega)), h.r3.keep (fun d hd hl => kp d hl (by have := (h.r3.form d hd).1; omega) ((fun e => h.d23 d e hd))), (h.below.grown hg h.below.size (fun k hk => by have := hown k hk; omega)).setCell (p := ⟨gd, 3, none⟩) (by show w.heap.size ≤ gd; omega) u, ⟨o1, o2, o3, Nat.le_trans o4 (by have := hg.size; simpa using this)⟩, (fun d hd e => hv.elim (fun x => h.d12 d hd (x.symm.trans e)) (fun x => by have h1 := (h.r1.form d hd).2; have h2 := Option.some.inj (x.symm.trans e); omega)), h.d13, (fun d hd e => hv.elim (fun x => h.d23 d (x.symm.trans hd) e) (fun x => by have h1 := (h.r3.form d e).2; have h2 := Option.some.inj (x.symm.trans hd); omega))⟩
theorem DB.push3 {W2 : World} {u : Value} {x : PA} (h : DB w gr gd B0 xs st a f v1 v2 v3 sl fr at_ wr) (hr : RowG ERt 2 encA W2 B0 u (at_ ++ [x])) (hg : wr.grownBy W2 v3.ownBlock) (hv : u.ownBlock = v3.ownBlock ∨ u.ownBlock = some (wr.heap.size + 1)) :
    DB w gr gd B0 xs st a f v1 v2 u sl fr (at_ ++ [x]) (W2.setCell ⟨gd, 4, none⟩ u) := by
  obtain ⟨o1, o2, o3, o4⟩ := h.o
  have hown : ∀ d, v3.ownBlock = some d → B0 ≤ d := fun d hd => (h.r3.form d hd).1
  have k2 : ∀ d, d < wr.heap.size → v3.ownBlock ≠ some d → W2.heap[d]? = wr.heap[d]? := fun d hd hn => hg.block d hd (fun e => hn e.symm)
  have kp : ∀ d, d < wr.heap.size → d ≠ gd → v3.ownBlock ≠ some d → (W2.setCell ⟨gd, 4, none⟩ u).heap[d]? = wr.heap[d]? := fun d hd hn hm => (Below.heap_setCell _ _ _ _ hn).trans (k2 d hd hm)
  have nb : ∀ d, d < B0 → v3.ownBlock ≠ some d := fun d hd e => by have := hown d e; omega
  have hdoc : DocAt W2 gd a f v1 v2 v3 := (k2 gd (heap_lt h.doc) (nb gd o3)).trans h.doc
  have hW : Below B0 wr W2 := (Below.refl B0 wr).grown hg o4 (fun k hk => hown k hk)
  have hrd : RdR gr gr xs st (W2.setCell ⟨gd, 4, none⟩ u) := rdR_keep h.rd (fun d hd hl => kp d hl (by omega) (nb d (by omega))) 
  exact ⟨hrd, hdoc.set4 u, (kp _ (heap_lt h.res) (by omega) (nb _ (by omega))).trans h.res, h.r1.keep (fun d hd hl => kp d hl (by have := (h.r1.form d hd).1; omega) (h.d13 d hd)), h.r2.keep (fun d hd hl => kp d hl (by have := (h.r2.form d hd).1; omega) (h.d23 d hd)), hr.keep (fun d hd hl => Below.heap_setCell _ _ _ _ (by have := (hr.form d hd).1; show d ≠ gd; omega)), (h.below.grown hg h.below.size (fun k hk => by have := hown k hk; omega)).setCell (p := ⟨gd, 4, none⟩) (by show w.heap.size ≤ gd; omega) u, ⟨o1, o2, o3, Nat.le_trans o4 (by have := hg.size; simpa using this)⟩, h.d12, (fun d hd e => hv.elim (fun x => h.d13 d hd (x.symm.trans e)) (fun x => by have h1 := (h.r1.form d hd).2; have h2 := Option.some.inj (x.symm.trans e); omega)), (fun d hd e => hv.elim (fun x => h.d23 d hd (x.symm.trans e)) (fun x => by have h1 := (h.r2.form d hd).2; have h2 := Option.some.inj (x.symm.trans e); omega))⟩
end
end Go.Proofs.YtiifbhiodegipaaGreatDoor
