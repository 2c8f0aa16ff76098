/- Joined: BdM BdN. -/
import Derived.Test.YtgodmnpcedfdcaaGreatJDl
namespace Go.Proofs.YtgodmnpcedfdcaaGreat
section
open Go.RowKit
abbrev stO (k n : Int) (a : PA) (lv : Value) (s : ByteArray) : Obj := .cells #[.int .i64 k, .int .i64 n, .string a.1, .string a.2, lv, .string s] 41
abbrev stV (k n : Int) (a : PA) (lv : Value) (s : ByteArray) : Value := .agg #[.int .i64 k, .int .i64 n, .string a.1, .string a.2, lv, .string s]
theorem stcells {X : World} {g : Nat} {k n : Int} {a : PA} {lv : Value} {s : ByteArray} (h : X.heap[g]? = some (stO k n a lv s)) : X.cell? ⟨g, 0, none⟩ = some (.int .i64 k) ∧ X.cell? ⟨g, 1, none⟩ = some (.int .i64 n) ∧ X.cell? ⟨g, 2, none⟩ = some (.string a.1) ∧ X.cell? ⟨g, 3, none⟩ = some (.string a.2) ∧ X.cell? ⟨g, 4, none⟩ = some lv ∧ X.cell? ⟨g, 5, none⟩ = some (.string s) := by
  simp [World.cell?, h]
theorem sees_takeU {w : World} {ao : Option Addr} {n c : Nat} {xs : List Int} (h : SeesU w (.slice ao n c) xs) {k : Nat} (hk : k ≤ xs.length) : SeesU w (.slice ao k c) (xs.take k) := by
  obtain ⟨ao', c', e, hl, hn, hc⟩ := h
  obtain ⟨rfl, rfl, rfl⟩ : ao = ao' ∧ n = xs.length ∧ c = c' := by cases e; exact ⟨rfl, rfl, rfl⟩
  have hlt : (xs.take k).length = k := by rw [List.length_take]; omega
  refine ⟨ao, c, by rw [hlt], by omega, fun h0 => by rw [hn h0]; simp, fun a ha i hi => ?_⟩
  rw [hlt] at hi
  have h2 := hc a ha i (by omega)
  rw [List.getD_eq_getElem?_getD, List.getElem?_take, if_pos hi, ← List.getD_eq_getElem?_getD]
  exact h2
theorem SeesU.later {w w' : World} {v : Value} {xs : List Int} (h : SeesU w v xs) (hb : Below w.heap.size w w') : SeesU w' v xs := (h.toG.below hb).toU
/-- The step's list, cut to eighty. -/
theorem cut80 {w : World} {l1 : Option Addr} {l2 l3 : Nat} {l : List Int} (h : SeesU w (.slice l1 l2 l3) l) : ∃ m : Nat, (80 < l2 → m = 80 ∧ 80 ≤ l3 ∧ ∃ la, l1 = some la) ∧ (¬ 80 < l2 → m = l2) ∧ SeesU w (.slice l1 m l3) (l.take m) ∧ m ≤ 80 ∧ m ≤ l.length := by
  have h' := h
  obtain ⟨ao, c, e, hl, hn, hc⟩ := h'
  obtain ⟨rfl, rfl, rfl⟩ : l1 = ao ∧ l2 = l.length ∧ l3 = c := by cases e; exact ⟨rfl, rfl, rfl⟩
  by_cases h8 : 80 < l.length
  · refine ⟨80, fun _ => ⟨rfl, by omega, ?_⟩, fun h2 => absurd h8 h2, sees_takeU h (by omega), Nat.le_refl _, by omega⟩
    cases l1 with
    | none => have := hn rfl; subst this; simp at h8
    | some la => exact ⟨la, rfl⟩
  · exact ⟨l.length, fun h2 => absurd h2 h8, fun _ => rfl, sees_takeU h (Nat.le_refl _), by omega, Nat.le_refl _⟩
theorem varO_new {B : Nat} {w' w3 : World} {c : BlkS} {gv bv : Value} (hf : Owns w' B gv c.free) (ha : RowA EAt w' B bv c.attrs) (hx3 : BlkAt w3 w'.heap.size c gv bv) (hg3 : (w'.alloc (blkO zB NS NS)).grownBy w3 (some w'.heap.size)) : VarO w3 B w'.heap.size c gv bv ∧ Below w'.heap.size w' w3 := by
  have hb : Below w'.heap.size w' w3 := (belNew w' _).grown hg3 (by simp) (fun k hk => by cases hk; exact Nat.le_refl _)
  exact ⟨⟨hx3, own_keep hf hb, own_keep ha hb⟩, hb⟩
theorem docv_new {w w3 : World} {o : Obj} (hg3 : (w.alloc o).grownBy w3 (some w.heap.size)) : Below w.heap.size w w3 := (belNew w o).grown hg3 (by simp) (fun k hk => by cases hk; exact Nat.le_refl _)
/-- The document's block in a variable of its own, and what both told. -/
structure LwD (w : World) (gd : Nat) (c : BlkS) (u1 u2 u3 tv tw : Value) (T : List Int) (Y : World) : Prop where
  doc : DocAt Y gd c.addr c.aff u1 u2 u3
  sees : DocSees Y c.sl c.free c.attrs u1 u2 u3
  ap3 : ApD (w.heap.size + 3) c u1 u2 u3
  ap4 : ApD (w.heap.size + 4) c u1 u2 u3
  lo : w.heap.size + 5 ≤ gd
  ta : OwnsU Y (w.heap.size + 5) tv T
  tb : RowU1 Y (w.heap.size + 5) tw T
theorem LwD.later {w : World} {gd : Nat} {c : BlkS} {u1 u2 u3 tv tw : Value} {T : List Int} {X Y : World} (h : LwD w gd c u1 u2 u3 tv tw T X) (hb : Below X.heap.size X Y) : LwD w gd c u1 u2 u3 tv tw T Y := ⟨h.doc.below hb, h.sees.below hb, h.ap3, h.ap4, h.lo, own_keep h.ta hb, own_keep h.tb hb⟩
theorem LwD.st3 {w : World} {gd : Nat} {c : BlkS} {u1 u2 u3 tv tw : Value} {T : List Int} {X Y : World} (h : LwD w gd c u1 u2 u3 tv tw T X) (hg : X.grownBy Y (some (w.heap.size + 3))) : LwD w gd c u1 u2 u3 tv tw T Y :=
  ⟨doc_grownO h.doc hg (fun e => by have := Option.some.inj e; have := h.lo; omega), h.sees.grownA h.ap3 hg, h.ap3, h.ap4, h.lo, own_grown h.ta hg (by omega), own_grown h.tb hg (by omega)⟩
theorem LwD.st4 {w : World} {gd : Nat} {c : BlkS} {u1 u2 u3 tv tw : Value} {T : List Int} {X Y : World} (h : LwD w gd c u1 u2 u3 tv tw T X) (hg : X.grownBy Y (some (w.heap.size + 4))) : LwD w gd c u1 u2 u3 tv tw T Y :=
  ⟨doc_grownO h.doc hg (fun e => by have := Option.some.inj e; have := h.lo; omega), h.sees.grownA h.ap4 hg, h.ap3, h.ap4, h.lo, own_grown h.ta hg (by omega), own_grown h.tb hg (by omega)⟩
theorem addrs_same {w : World} {tv tw : Value} {T : List Int} (h : SeesU w tv T) (h2 : SeesU w tw T) (hl : T.length ≤ maxLen) : Calls Tryz.prog 19 #[tv, tw] w fun e w' => e = .returned (.bool true) ∧ Below w.heap.size w w' := by
  have := addrs_any tv tw T T w h h2 hl hl
  rw [decide_eq_true (rfl : T = T)] at this
  exact this
end
section
open Go.RowKit
/-- What is there when nothing was made. -/
structure Lw2 (w : World) (b : BlkS) (fv av v1 v2 v3 : Value) (o : Obj) (Y : World) : Prop where
  inp : LwI w b fv av v1 v2 v3 o Y
  z3 : ∃ b0 f0 a0, BlkAt Y (w.heap.size + 3) b0 f0 a0 ∧ b0.sl.length = 64
  z4 : ∃ y s u1 u2 u3, DocAt Y (w.heap.size + 4) y s u1 u2 u3
theorem Lw2.later {w : World} {b : BlkS} {fv av v1 v2 v3 : Value} {o : Obj} {X Y : World} (h : Lw2 w b fv av v1 v2 v3 o X) (hb : Below X.heap.size X Y) : Lw2 w b fv av v1 v2 v3 o Y := by
  obtain ⟨b0, f0, a0, h1, h2⟩ := h.z3
  obtain ⟨y, s, u1, u2, u3, h3⟩ := h.z4
  exact ⟨h.inp.later hb, ⟨b0, f0, a0, h1.below hb, h2⟩, ⟨y, s, u1, u2, u3, h3.below hb⟩⟩
theorem Lw2.st3 {w : World} {b : BlkS} {fv av v1 v2 v3 : Value} {o : Obj} {X Y : World} (h : Lw2 w b fv av v1 v2 v3 o X) (hg : X.grownBy Y (some (w.heap.size + 3))) {d : BlkS} {f1 a1 : Value} (hd : BlkAt Y (w.heap.size + 3) d f1 a1) (hl : d.sl.length = 64) : Lw2 w b fv av v1 v2 v3 o Y := by
  obtain ⟨y, s, u1, u2, u3, h3⟩ := h.z4
  exact ⟨h.inp.grown hg (Nat.le_refl _), ⟨_, _, _, hd, hl⟩, ⟨y, s, u1, u2, u3, doc_grownO h3 hg (fun e => by have := Option.some.inj e; omega)⟩⟩
theorem Lw2.st4 {w : World} {b : BlkS} {fv av v1 v2 v3 : Value} {o : Obj} {X Y : World} (h : Lw2 w b fv av v1 v2 v3 o X) (hg : X.grownBy Y (some (w.heap.size + 4))) {y : Int} {s : ByteArray} {u1 u2 u3 : Value} (hd : DocAt Y (w.heap.size + 4) y s u1 u2 u3) : Lw2 w b fv av v1 v2 v3 o Y := by
  obtain ⟨b0, f0, a0, h1, h2⟩ := h.z3
  exact ⟨h.inp.grown hg (by omega), ⟨b0, f0, a0, blk_grownO h1 hg (fun e => by have := Option.some.inj e; omega), h2⟩, ⟨_, _, _, _, _, hd⟩⟩
theorem Lw0.to2 {w : World} {b : BlkS} {fv av v1 v2 v3 : Value} {o : Obj} {X : World} (h : Lw0 w b fv av v1 v2 v3 o X) : Lw2 w b fv av v1 v2 v3 o X := ⟨h.inp, ⟨_, _, _, h.zb, zB_len⟩, ⟨_, _, _, _, _, h.zd⟩⟩
theorem Both.form {w : World} {c : BlkS} {fv av v1 v2 v3 : Value} (h : Both w c fv av v1 v2 v3) : ∃ (f1 a1 p1 q1 r1 : Option Addr) (f2 f3 a2 a3 p2 p3 q2 q3 r2 r3 : Nat), fv = .slice f1 f2 f3 ∧ av = .slice a1 a2 a3 ∧ v1 = .slice p1 p2 p3 ∧ v2 = .slice q1 q2 q3 ∧ v3 = .slice r1 r2 r3 := by
  obtain ⟨f1, f2, f3, rfl⟩ := sees_form h.free
  obtain ⟨a1, a2, a3, rfl⟩ := seesA_form h.attrs
  obtain ⟨p1, p2, p3, rfl⟩ := seesG_form h.doc.slots
  obtain ⟨q1, q2, q3, rfl⟩ := seesG_form h.doc.free
  obtain ⟨r1, r2, r3, rfl⟩ := seesG_form h.doc.attrs
  exact ⟨f1, a1, p1, q1, r1, f2, f3, a2, a3, p2, p3, q2, q3, r2, r3, rfl, rfl, rfl, rfl, rfl⟩
theorem own_neD {w : World} {B g n s : Nat} {E : TypeId} {v v1 v2 v3 : Value} {xs : List Value} {y : Int} {t : ByteArray} (h : w.ownsRow B E s v n xs) (hk : DocAt w g y t v1 v2 v3) (hE : E ≠ TD) : v.ownBlock ≠ some g := fun e => by
  obtain ⟨_, ⟨e1, _⟩ | ⟨g', cap, cur, e1, _, hg, _⟩⟩ := h
  · rw [e1] at e; cases e
  · rw [e1] at e
    obtain rfl : g' = g := Option.some.inj e
    have hk' : w.heap[g']? = some (docO y t v1 v2 v3) := hk
    rw [hg] at hk'
    injection hk' with hk'
    injection hk' with _ h2
    exact hE h2
theorem rel_told {M : PA → Bool} {b : BlkS} {l : List Int} : ∀ n, (relN M b l n).2.length ≤ n
  | 0 => Nat.le_refl _
  | n + 1 => by
    have ih := rel_told (M := M) (b := b) (l := l) n
    unfold relN
    by_cases h : hitR M (relN M b l n).1 (l.getD n 0) = true
    · rw [if_pos h]; show (_ ++ [_]).length ≤ _; rw [List.length_append]; exact Nat.succ_le_succ ih
    · rw [if_neg h]; omega
theorem DocAt.set1 {w : World} {g : Nat} {y : Int} {s : ByteArray} {v1 v2 v3 : Value} (h : DocAt w g y s v1 v2 v3) (t : ByteArray) : DocAt (w.setCell ⟨g, 1, none⟩ (.string t)) g y t v1 v2 v3 := by
  have h' : w.heap[g]? = some (.cells #[.int .u32 y, .string s, v1, v2, v3] TD (0, 0)) := h
  show (w.setCell _ _).heap[g]? = _
  simp [World.setCell, Array.getElem?_modify, h']
end
end Go.Proofs.YtgodmnpcedfdcaaGreat
