/- The walk of BlockPlays. Made by g_bds.py. -/
import Derived.Test.YtgodmnpcedfdcaaGreatJDq
namespace Go.Proofs.YtgodmnpcedfdcaaGreat
open Go.RowKit
theorem infoS : (Tryz.prog.info? 41).map (·.size) = some 6 := by kernel_rfl
abbrev stL (k n : Int) (a : PA) (lv : Value) (s : ByteArray) : List Value := [.int .i64 k, .int .i64 n, .string a.1, .string a.2, lv, .string s]
/-- A step alone in block g. -/
def StAt (w : World) (g : Nat) (k n : Int) (a : PA) (lv : Value) (s : ByteArray) : Prop := w.heap[g]? = some (stO k n a lv s)
section
variable {w : World} {g : Nat} {k n k0 n0 : Int} {a a0 : PA} {lv lv0 : Value} {s s0 : ByteArray}
theorem StAt.whole (h : StAt w g k n a lv s) : w.rangeAt g 0 (stL k n a lv s) := fun j v hv => by
  have h' : w.heap[g]? = some (.cells #[.int .i64 k, .int .i64 n, .string a.1, .string a.2, lv, .string s] 41 (0, 0)) := h
  rw [Nat.zero_add]
  have e : (#[Value.int .i64 k, .int .i64 n, .string a.1, .string a.2, lv, .string s] : Array Value)[j]? = some v := by rw [← hv]; exact List.getElem?_toArray ..
  simp only [World.cell?, h']
  exact e
theorem thereS (h : StAt w g k n a lv s) : w.there g 0 6 := fun j hj => by
  have h' : w.heap[g]? = some (.cells #[.int .i64 k, .int .i64 n, .string a.1, .string a.2, lv, .string s] 41 (0, 0)) := h
  constructor
  · simp only [World.cell?, h']
    rw [Array.getElem?_eq_getElem (show 0 + j < (#[Value.int .i64 k, .int .i64 n, .string a.1, .string a.2, lv, .string s] : Array Value).size by simp; omega)]; rfl
  · simp [World.frozen?, h']
theorem setS (h : StAt w g k0 n0 a0 lv0 s0) : StAt (w.setCells g 0 (stL k n a lv s)) g k n a lv s ∧ w.grownBy (w.setCells g 0 (stL k n a lv s)) (some g) := by
  obtain ⟨cur', h1, h2, h3, h4⟩ := setCells_row g 41 (stL k n a lv s) 0 w _ h (by simp)
  refine ⟨?_, h4⟩
  have e : cur' = (stL k n a lv s).toArray := by
    apply Array.toList_inj.1
    have h2 : cur'.size = 6 := h2
    rw [show (0 : Nat) + (stL k n a lv s).length = 6 from rfl, List.take_zero, List.nil_append, List.take_of_length_le (by rw [Array.length_toList, h2]; exact Nat.le_refl _)] at h3
    exact h3
  rw [e] at h1
  exact h1
theorem one_st (h1 : lv.oneCell' = true) : ∀ v ∈ stL k n a lv s, v.oneCell' = true := by
  intro v hv
  simp only [stL, List.mem_cons, List.not_mem_nil, or_false] at hv
  rcases hv with rfl | rfl | rfl | rfl | rfl | rfl
  · rfl
  · rfl
  · rfl
  · rfl
  · exact h1
  · rfl
section
variable {ops : Array Oper} {rest : List Oper} {o : Oper} {t : Act} {Q : Exit → Act → World → Prop} {K : Act → World → Prop}
theorem wpStS (hgd : o.guard = none) (x z : Operand) (ho : o.op = .store 41 x z) (hx : t.eval x = .pointer (some ⟨g, 0, none⟩)) (hy : t.eval z = stV k n a lv s)
    (h : StAt w g k0 n0 a0 lv0 s0) (h1 : lv.oneCell' = true)
    (hK : ∀ w', StAt w' g k n a lv s → w.grownBy w' (some g) → wpList Tryz.prog ops Q rest (t.put o.dst undef) w') : wpList Tryz.prog ops Q (o :: rest) t w := by
  refine wpList_store_mid hgd 41 x z ho g 0 (stL k n a lv s).toArray hx hy (thereS h) infoS (all_oneCell_toArray (one_st h1)) ?_
  obtain ⟨k1, k2⟩ := setS (k := k) (n := n) (a := a) (lv := lv) (s := s) h
  exact hK _ k1 k2
theorem wpLdS (hgd : o.guard = none) (x : Operand) (ho : o.op = .load 41 x) (hx : t.eval x = .pointer (some ⟨g, 0, none⟩)) (h : StAt w g k n a lv s)
    (hK : wpList Tryz.prog ops Q rest (t.put o.dst (stV k n a lv s)) w) : wpList Tryz.prog ops Q (o :: rest) t w :=
  wpList_load_mid hgd _ x ho g 0 hx _ _ h.whole Tryz.underlying41 rfl infoS hK
end
end
theorem OwnsI.row1 {w : World} {B : Nat} {v : Value} {xs : List Int} (h : OwnsI w B v xs) : RowI1 w B v xs := by unfold OwnsI at h; rw [← flat_I1] at h; exact h
theorem ofsS {w : World} {a : Addr} {i n : Nat} {v : Value} (hn : n ≠ 0) (h : w.cell? ((a.add i).add n) = some v) : w.cell? { block := (a.add i).block, off := (a.add i).off + n } = some v := by
  have e : ({ block := (a.add i).block, off := (a.add i).off + n } : Addr) = (a.add i).add n := by
    unfold Addr.add
    simp [hn]
  rw [e]
  exact h
/-- The law's variables between two rounds. -/
structure PlI (w : World) (gb gd : Nat) (c : BlkS) (fv av v1 v2 v3 : Value) (X : World) : Prop where
  blk : BlkAt X gb c fv av
  doc : DocAt X gd c.addr c.aff v1 v2 v3
  both : Both X c fv av v1 v2 v3
  ap1 : ApB gb c fv av v1 v2 v3
  ap2 : ApB gd c fv av v1 v2 v3
  below : Below w.heap.size w X
  lo : w.heap.size ≤ gb ∧ w.heap.size ≤ gd ∧ gb ≠ gd
theorem PlI.later {w : World} {gb gd : Nat} {c : BlkS} {fv av v1 v2 v3 : Value} {X Y : World} (h : PlI w gb gd c fv av v1 v2 v3 X) (hb : Below X.heap.size X Y) : PlI w gb gd c fv av v1 v2 v3 Y :=
  ⟨h.blk.below hb, h.doc.below hb, h.both.below hb, h.ap1, h.ap2, h.below.trans (hb.mono h.below.size), h.lo⟩
/-- .. when a step was done: its block, in both forms, beside the elder one. -/
structure PlX (w : World) (gb gd gc ge : Nat) (c : BlkS) (fv av v1 v2 v3 : Value) (Y : World) : Prop where
  cb : BlkAt Y gc c fv av
  cd : DocAt Y ge c.addr c.aff v1 v2 v3
  zb : ∃ b0 f0 a0, BlkAt Y gb b0 f0 a0 ∧ b0.sl.length = 64
  zd : ∃ y s u1 u2 u3, DocAt Y gd y s u1 u2 u3
  both : Both Y c fv av v1 v2 v3
  ap1 : ApB gb c fv av v1 v2 v3
  ap2 : ApB gd c fv av v1 v2 v3
  below : Below w.heap.size w Y
  lo : w.heap.size ≤ gb ∧ w.heap.size ≤ gd ∧ gb ≠ gd
  ne : gb ≠ gc ∧ gb ≠ ge ∧ gd ≠ gc ∧ gd ≠ ge
theorem PlX.later {w : World} {gb gd gc ge : Nat} {c : BlkS} {fv av v1 v2 v3 : Value} {X Y : World} (h : PlX w gb gd gc ge c fv av v1 v2 v3 X) (hb : Below X.heap.size X Y) : PlX w gb gd gc ge c fv av v1 v2 v3 Y := by
  obtain ⟨b0, f0, a0, h1, h2⟩ := h.zb
  obtain ⟨y, s, u1, u2, u3, h3⟩ := h.zd
  exact ⟨h.cb.below hb, h.cd.below hb, ⟨b0, f0, a0, h1.below hb, h2⟩, ⟨y, s, u1, u2, u3, h3.below hb⟩, h.both.below hb, h.ap1, h.ap2, h.below.trans (hb.mono h.below.size), h.lo, h.ne⟩
/-- A new block in both forms. -/
theorem new_both {w : World} {x : Int} {t : ByteArray} {fv av v1 v2 : Value} (hx : 0 ≤ x ∧ x < 4294967296) (ht : t.size ≤ maxLen) (ho : ownB t = true) (hf : Sees w fv (newS x t).free) (ha : SeesA w av (newS x t).attrs) (h1 : RowI1 w 0 v1 (List.replicate 64 0)) (h2 : RowI1 w 0 v2 (rangeI 64)) : Both w (newS x t) fv av v1 v2 NS :=
  ⟨hf, ha, ⟨RowG.sees h1 (fun _ => rfl), RowG.sees h2 (fun _ => rfl), ⟨none, 0, rfl, Nat.le_refl _, fun _ => rfl, fun _ h => by cases h⟩⟩, newS_wf x t hx.1 hx.2 ht, newS_right x t ho⟩
end Go.Proofs.YtgodmnpcedfdcaaGreat
