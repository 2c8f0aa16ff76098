/- Package block: a block laid anew, read and stored whole. -/
import Derived.Test.YtlbgjmnihenmaaaGreatDoorBkG
import Derived.Test.YtlbgjmnihenmaaaGreatDoorJPk
import Derived.Deep.WholeRow
namespace Go.Proofs.YtlbgjmnihenmaaaGreatDoor
open Go.RowKit Go.Maps
abbrev NS : Value := .slice none 0 0
abbrev TB : TypeId := 59
def zB : BlkS := ⟨0, ⟨#[]⟩, List.replicate 64 0, [], []⟩
theorem zB_len : zB.sl.length = 64 := by decide
abbrev blkO (b : BlkS) (fv av : Value) : Obj := .cells (blkL b fv av).toArray TB
theorem one_blk {b : BlkS} {fv av : Value} (h1 : fv.oneCell' = true) (h2 : av.oneCell' = true) : ∀ v ∈ blkL b fv av, v.oneCell' = true := by
  intro v hv
  unfold blkL at hv
  rcases List.mem_cons.1 hv with rfl | hv
  · rfl
  rcases List.mem_cons.1 hv with rfl | hv
  · rfl
  rcases List.mem_append.1 hv with hv | hv
  · obtain ⟨x, _, rfl⟩ := List.mem_map.1 hv
    rfl
  · simp only [List.mem_cons, List.not_mem_nil, or_false] at hv
    rcases hv with rfl | rfl
    · exact h1
    · exact h2
/-- A block stored whole into a variable. -/
theorem setB {w : World} {g : Nat} {b0 b : BlkS} {fv0 av0 fv av : Value} (h : BlkAt w g b0 fv0 av0) (hl0 : b0.sl.length = 64) (hl : b.sl.length = 64) :
    BlkAt (w.setCells g 0 (blkL b fv av)) g b fv av ∧ w.grownBy (w.setCells g 0 (blkL b fv av)) (some g) := by
  have hs : (blkL b0 fv0 av0).toArray.size = 68 := by rw [List.size_toArray, blkL_len b0 hl0]
  obtain ⟨cur', h1, h2, h3, h4⟩ := setCells_row g TB (blkL b fv av) 0 w _ h (by rw [hs, blkL_len b hl]; exact Nat.le_refl _)
  refine ⟨?_, h4⟩
  have e : cur' = (blkL b fv av).toArray := by
    apply Array.toList_inj.1
    rw [hs] at h2
    rw [blkL_len b hl, List.take_zero, List.nil_append, List.take_of_length_le (by rw [Array.length_toList, h2]; exact Nat.le_refl _)] at h3
    exact h3
  rw [e] at h1
  exact h1
theorem thereB {w : World} {g : Nat} {b : BlkS} {fv av : Value} (h : BlkAt w g b fv av) (hl : b.sl.length = 64) : w.there g 0 68 := fun j hj => by
  have h' : w.heap[g]? = some (.cells (blkL b fv av).toArray TB (0, 0)) := h
  have hlt : 0 + j < (blkL b fv av).toArray.size := by rw [List.size_toArray, blkL_len b hl]; omega
  constructor
  · simp only [World.cell?, h']
    rw [Array.getElem?_eq_getElem hlt]; rfl
  · simp [World.frozen?, h']
section
variable {ops : Array Oper} {rest : List Oper} {o : Oper} {a : Act} {w : World} {Q : Exit → Act → World → Prop} {g : Nat} {b b0 : BlkS} {fv av fv0 av0 : Value}
/-- The operation. -/
theorem wpStB (hgd : o.guard = none) (x y : Operand) (ho : o.op = .store TB x y) (hx : a.eval x = .pointer (some ⟨g, 0, none⟩)) (hy : a.eval y = .agg (blkL b fv av).toArray)
    (h : BlkAt w g b0 fv0 av0) (hl0 : b0.sl.length = 64) (hl : b.sl.length = 64) (h1 : fv.oneCell' = true) (h2 : av.oneCell' = true)
    (hK : ∀ w', BlkAt w' g b fv av → w.grownBy w' (some g) → wpList Tryz.prog ops Q rest (a.put o.dst undef) w') : wpList Tryz.prog ops Q (o :: rest) a w := by
  have hs : (blkL b fv av).toArray.size = 68 := by rw [List.size_toArray, blkL_len b hl]
  refine wpList_store_mid hgd TB x y ho g 0 (blkL b fv av).toArray hx hy (by rw [hs]; exact thereB h hl0) (by rw [hs]; exact infoB) (all_oneCell_toArray (one_blk h1 h2)) ?_
  obtain ⟨k1, k2⟩ := setB (b := b) (fv := fv) (av := av) h hl0 hl
  exact hK _ k1 k2
end
theorem loadVarB {w : World} {g : Nat} {b : BlkS} {fv av : Value} (h : BlkAt w g b fv av) (hl : b.sl.length = 64) : (loadVar TB ⟨g, 0, none⟩).run Tryz.prog w = .ok (.agg (blkL b fv av).toArray) w :=
  run_loadVar_mid w g 0 TB (blkL b fv av) _ h.whole Tryz.underlying59 rfl (by rw [infoB, blkL_len b hl])
theorem resB1 {P : Program} {fn : Func} {a : Tmp} {t : TypeId} (h : fn.results = #[.cell a t]) {tmps : Array Value} {ad : Addr} (hp : tmps.getD a undef = .pointer (some ad)) {w : World} {v : Value} (hv : (loadVar t ad).run P w = .ok v w) :
    (results fn tmps).run P w = .ok v w := by
  have hp' := hp
  simp only [Array.getD_eq_getD_getElem?] at hp'
  simp [results, h, hp', hv, asAddr]
theorem resB2 {P : Program} {fn : Func} {a u : Tmp} {t : TypeId} (h : fn.results = #[.cell a t, .tmp u]) {tmps : Array Value} {ad : Addr} (hp : tmps.getD a undef = .pointer (some ad)) {w : World} {v : Value} (hv : (loadVar t ad).run P w = .ok v w) :
    (results fn tmps).run P w = .ok (.tuple #[v, tmps.getD u undef]) w := by
  have hp' := hp
  simp only [Array.getD_eq_getD_getElem?] at hp'
  simp [results, h, hp', hv, asAddr]
/-! Its parts stored. -/
theorem BlkAt.setFree {w : World} {g : Nat} {b : BlkS} {fv av : Value} (h : BlkAt w g b fv av) (hl : b.sl.length = 64) (v : Value) : BlkAt (w.setCell ⟨g, 66, none⟩ v) g b v av := by
  have h' : w.heap[g]? = some (.cells (blkL b fv av).toArray TB (0, 0)) := h
  have e : (blkL b fv av).set 66 v = blkL b v av := by
    unfold blkL
    simp only [List.set_cons_succ]
    rw [List.set_append_right _ _ (by simp [hl]), List.length_map, hl]
    rfl
  show (w.setCell _ _).heap[g]? = _
  simp [World.setCell, Array.getElem?_modify, h', e]
theorem BlkAt.setAttrs {w : World} {g : Nat} {b : BlkS} {fv av : Value} (h : BlkAt w g b fv av) (hl : b.sl.length = 64) (v : Value) : BlkAt (w.setCell ⟨g, 67, none⟩ v) g b fv v := by
  have h' : w.heap[g]? = some (.cells (blkL b fv av).toArray TB (0, 0)) := h
  have e : (blkL b fv av).set 67 v = blkL b fv v := by
    unfold blkL
    simp only [List.set_cons_succ]
    rw [List.set_append_right _ _ (by simp [hl]), List.length_map, hl]
    rfl
  show (w.setCell _ _).heap[g]? = _
  simp [World.setCell, Array.getElem?_modify, h', e]
theorem BlkAt.setSlot {w : World} {g : Nat} {b : BlkS} {fv av : Value} (h : BlkAt w g b fv av) (i : Nat) (hi : i < b.sl.length) (x : Int) : BlkAt (w.setCell ⟨g, i + 2, none⟩ (.int .u8 x)) g { b with sl := b.sl.set i x } fv av := by
  have h' : w.heap[g]? = some (.cells (blkL b fv av).toArray TB (0, 0)) := h
  have e : (blkL b fv av).set (i + 2) (.int .u8 x) = blkL { b with sl := b.sl.set i x } fv av := by
    unfold blkL
    simp only [List.set_cons_succ]
    rw [List.set_append_left _ _ (by simpa using hi), List.map_set]
  show (w.setCell _ _).heap[g]? = _
  simp [World.setCell, Array.getElem?_modify, h', e]
theorem BlkAt.froz {w : World} {g : Nat} {b : BlkS} {fv av : Value} (h : BlkAt w g b fv av) (i : Nat) : w.frozen? ⟨g, i, none⟩ = false := by
  have h' : w.heap[g]? = some (.cells (blkL b fv av).toArray TB (0, 0)) := h
  simp [World.frozen?, h']
end Go.Proofs.YtlbgjmnihenmaaaGreatDoor
