/- The document's block: who may own, which attribute may be, how often a number is in a list. -/
import Derived.Laws.CopyRow
import Derived.Maps.AppendAt
import Derived.Lib.SliceRun
import Derived.Test.YtiifbhiodegipaaGreatDoorJPk
import Derived.Deep.WholeRow
import Derived.Test.YtiifbhiodegipaaGreatDoorBkF
namespace Go.Proofs.YtiifbhiodegipaaGreatDoor
open Go.RowKit Go.Maps
theorem refR_any (s : ByteArray) (w : World) (hs : s.size ≤ maxLen) : Calls Tryz.prog 53 #[.string s] w fun e w' => e = .returned (.bool (okName s.data.toList)) ∧ Below w.heap.size w w' :=
  (refRight12_any s w hs).mono fun _ _ h => ⟨h.1, h.2 ▸ Below.refl _ _⟩
abbrev rtO (p : ByteArray × ByteArray) : Obj := .cells #[.string p.1, .string p.2] 73
theorem refOwner_any (s : ByteArray) (hs : s.size ≤ maxLen) (w : World) : Calls Tryz.prog 112 #[.string s] w fun e w' => e = .returned (.bool (ownB s)) ∧ Below w.heap.size w w' := by
  have HR := Lib.hid (refR_any s w hs)
  have HS := str_empty s
  unfold ownB
  generalize okName s.data.toList = q at HR ⊢
  cases hd : decide (s.size = 0) with
  | true =>
    rw [hd] at HS
    go_enter Tryz.func112, Tryz.ntmps112
    go_wp2_with fail
    go_ret
    exact ⟨rfl, Below.refl _ _⟩
  | false =>
    rw [hd] at HS
    go_enter Tryz.func112, Tryz.ntmps112
    go_wp2_with fail
    refine HR.out.mono ?_; rintro e w1 ⟨rfl, hb1⟩
    have HB1 := Lib.hid hb1
    clear hb1
    go_wp2_with fail
    go_ret
    exact ⟨rfl, HB1.out⟩
set_option maxRecDepth 100000 in
theorem refMayA_any (p : ByteArray × ByteArray) (h1 : p.1.size ≤ maxLen) (h2 : p.2.size ≤ maxLen) (w : World) : Calls Tryz.prog 113 #[atV p] w fun e w' => e = .returned (.bool (mayP p)) ∧ Below w.heap.size w w' := by
  obtain ⟨w1, hw1⟩ : ∃ w1, w1 = w.alloc (rtO p) := ⟨_, rfl⟩
  have hx1 : w1.heap[w.heap.size]? = some (rtO p) := by rw [hw1]; exact heap_alloc_new w _
  have hb : Below w.heap.size w w1 := by rw [hw1]; exact belNew w _
  obtain ⟨c0, c1⟩ := cells2 hx1
  have HB := Lib.hid (And.intro hb hx1)
  have HR1 := Lib.hid (fun w => refR_any p.1 w h1)
  have HR2 := Lib.hid (fun w => refR_any p.2 w h2)
  unfold mayP
  generalize okName p.1.data.toList = q1 at HR1 ⊢
  generalize okName p.2.data.toList = q2 at HR2 ⊢
  clear hx1 hb
  go_enter Tryz.func113, Tryz.ntmps113
  go_upto_region 1 with fail
  change Code.wp _ _ _ _ (w.alloc (rtO p))
  rw [← hw1]
  clear hw1
  go_wp2_with fail
  refine (HR1.out _).mono ?_; rintro e w2 ⟨rfl, hb2⟩
  have hx2 := (hb2.block _ (heap_lt HB.out.2)).trans HB.out.2
  obtain ⟨c0, c1⟩ := cells2 hx2
  have HB2 := Lib.hid (HB.out.1.trans (hb2.mono HB.out.1.size))
  clear hb2 hx2
  cases q1 with
  | true =>
    go_wp2_with fail
    refine (HR2.out _).mono ?_; rintro e w3 ⟨rfl, hb3⟩
    have HB3 := Lib.hid (HB2.out.trans (hb3.mono HB2.out.size))
    clear hb3
    go_wp2_with fail
    go_ret
    exact ⟨rfl, HB3.out⟩
  | false =>
    go_wp2_with fail
    go_ret
    exact ⟨rfl, HB2.out⟩
/-- How often a number is in a list. -/
def cntN (l : List Int) (k : Int) : Nat := (l.filter (fun x => x == k)).length
theorem cntN_take (l : List Int) (k : Int) (i : Nat) (h : i < l.length) : cntN (l.take (i + 1)) k = cntN (l.take i) k + (if l.getD i 0 == k then 1 else 0) := by
  have e : l.take (i + 1) = l.take i ++ [l[i]] := by rw [List.take_add_one, List.getElem?_eq_getElem h]; rfl
  have g : l.getD i 0 = l[i] := by rw [List.getD_eq_getElem?_getD, List.getElem?_eq_getElem h]; rfl
  unfold cntN
  rw [e, g, List.filter_append, List.length_append]
  generalize l[i] = x
  cases hk : (x == k) with
  | true => simp only [List.filter, hk]; rfl
  | false => simp only [List.filter, hk]; rfl
theorem cntN_le (l : List Int) (k : Int) : cntN l k ≤ l.length := List.length_filter_le _ _
/-- A list of numbers, as it reads. -/
def SeesN (w : World) (v : Value) (xs : List Int) : Prop :=
  ∃ (ao : Option Addr) (c : Nat), v = .slice ao xs.length c ∧ xs.length ≤ c ∧ (ao = none → xs = []) ∧ ∀ a, ao = some a → ∀ i, i < xs.length → w.cell? (a.add i) = some (.int .i64 (xs.getD i 0))
set_option maxRecDepth 100000 in
set_option maxHeartbeats 4000000 in
theorem refCount_any (v : Value) (l : List Int) (k : Int) (w : World) (h : SeesN w v l) (hl : l.length ≤ 1000000) :
    Calls Tryz.prog 114 #[v, .int .i64 k] w fun e w' => e = .returned (.int .i64 (cntN l k)) ∧ w = w' := by
  obtain ⟨ao, c, rfl, hlc, hnil, hc⟩ := h
  have HC := Lib.hid (And.intro hnil hc)
  have HL := Lib.hid hl
  have hl2 : l.length ≤ 9223372036854775807 := by omega
  clear hnil hc hl
  go_enter Tryz.func114, Tryz.ntmps114
  go_wp2_with fail
  go_loop [5, 10] (fun n j => ∃ i : Nat, i ≤ l.length ∧ j = .int .i64 i ∧ n = .int .i64 (cntN (l.take i) k)) (fun n j => l.length - (intOf j).toNat)
  case atStart => exact ⟨0, Nat.zero_le _, rfl, rfl⟩
  case round =>
    obtain ⟨i, hi, rfl, rfl⟩ := hrel
    by_cases hlt : i < l.length
    · obtain ⟨a, rfl⟩ : ∃ a, ao = some a := by
        cases ao with
        | none => rw [HC.out.1 rfl] at hlt; simp at hlt
        | some a => exact ⟨a, rfl⟩
      have q := HC.out.2 a rfl i hlt
      have hT := cntN_take l k i hlt
      have hle : cntN (l.take i) k ≤ 1000000 := Nat.le_trans (cntN_le _ _) (by rw [List.length_take]; have := HL.out; omega)
      generalize l.getD i 0 = x at q hT
      generalize hn : cntN (l.take i) k = n at hT hle ⊢
      have HT := Lib.hid hT
      clear hT hn
      cases hx : (x == k) with
      | true =>
        go_wp2_with fail
        go_round
        case rel => exact ⟨i + 1, hlt, by go_num, by rw [HT.out, hx]; go_num⟩
        case measure => simp [intOf]; omega
      | false =>
        go_wp2_with fail
        go_round
        case rel => exact ⟨i + 1, hlt, by go_num, by rw [HT.out, hx]; go_num⟩
        case measure => simp [intOf]; omega
    · obtain rfl : i = l.length := by omega
      go_wp2_with fail
      go_ret
      exact ⟨rfl, rfl⟩
end Go.Proofs.YtiifbhiodegipaaGreatDoor
namespace Go.Proofs.YtiifbhiodegipaaGreatDoor
open Go.RowKit Go.Maps
abbrev NS : Value := .slice none 0 0
abbrev TB : TypeId := 59
def zB : BlkS := ⟨0, ⟨#[]⟩, List.replicate 64 0, [], []⟩
theorem zB_len : zB.sl.length = 64 := by decide
abbrev blkO (b : BlkS) (fv av : Value) : Obj := .cells (blkL b fv av).toArray TB
theorem one_blk {b : BlkS} {fv av : Value} (h1 : fv.oneCell' = true) (h2 : av.oneCell' = true) : ∀ v ∈ blkL b fv av, v.oneCell' = true := by
  intro v hv
  unfold blkL at hv
  rcases List.mem_cons.1 hv with rfl | hv
  · rfl
  rcases List.mem_cons.1 hv with rfl | hv
  · rfl
  rcases List.mem_append.1 hv with hv | hv
  · obtain ⟨x, _, rfl⟩ := List.mem_map.1 hv
    rfl
  · simp only [List.mem_cons, List.not_mem_nil, or_false] at hv
    rcases hv with rfl | rfl
    · exact h1
    · exact h2
/-- A block stored whole into a variable. -/
theorem setB {w : World} {g : Nat} {b0 b : BlkS} {fv0 av0 fv av : Value} (h : BlkAt w g b0 fv0 av0) (hl0 : b0.sl.length = 64) (hl : b.sl.length = 64) :
    BlkAt (w.setCells g 0 (blkL b fv av)) g b fv av ∧ w.grownBy (w.setCells g 0 (blkL b fv av)) (some g) := by
  have hs : (blkL b0 fv0 av0).toArray.size = 68 := by rw [List.size_toArray, blkL_len b0 hl0]
  obtain ⟨cur', h1, h2, h3, h4⟩ := setCells_row g TB (blkL b fv av) 0 w _ h (by rw [hs, blkL_len b hl]; exact Nat.le_refl _)
  refine ⟨?_, h4⟩
  have e : cur' = (blkL b fv av).toArray := by
    apply Array.toList_inj.1
    rw [hs] at h2
    rw [blkL_len b hl, List.take_zero, List.nil_append, List.take_of_length_le (by rw [Array.length_toList, h2]; exact Nat.le_refl _)] at h3
    exact h3
  rw [e] at h1
  exact h1
theorem thereB {w : World} {g : Nat} {b : BlkS} {fv av : Value} (h : BlkAt w g b fv av) (hl : b.sl.length = 64) : w.there g 0 68 := fun j hj => by
  have h' : w.heap[g]? = some (.cells (blkL b fv av).toArray TB (0, 0)) := h
  have hlt : 0 + j < (blkL b fv av).toArray.size := by rw [List.size_toArray, blkL_len b hl]; omega
  constructor
  · simp only [World.cell?, h']
    rw [Array.getElem?_eq_getElem hlt]; rfl
  · simp [World.frozen?, h']
section
variable {ops : Array Oper} {rest : List Oper} {o : Oper} {a : Act} {w : World} {Q : Exit → Act → World → Prop} {g : Nat} {b b0 : BlkS} {fv av fv0 av0 : Value}
/-- The operation. -/
theorem wpStB (hgd : o.guard = none) (x y : Operand) (ho : o.op = .store TB x y) (hx : a.eval x = .pointer (some ⟨g, 0, none⟩)) (hy : a.eval y = .agg (blkL b fv av).toArray)
    (h : BlkAt w g b0 fv0 av0) (hl0 : b0.sl.length = 64) (hl : b.sl.length = 64) (h1 : fv.oneCell' = true) (h2 : av.oneCell' = true)
    (hK : ∀ w', BlkAt w' g b fv av → w.grownBy w' (some g) → wpList Tryz.prog ops Q rest (a.put o.dst undef) w') : wpList Tryz.prog ops Q (o :: rest) a w := by
  have hs : (blkL b fv av).toArray.size = 68 := by rw [List.size_toArray, blkL_len b hl]
  refine wpList_store_mid hgd TB x y ho g 0 (blkL b fv av).toArray hx hy (by rw [hs]; exact thereB h hl0) (by rw [hs]; exact infoB) (all_oneCell_toArray (one_blk h1 h2)) ?_
  obtain ⟨k1, k2⟩ := setB (b := b) (fv := fv) (av := av) h hl0 hl
  exact hK _ k1 k2
end
theorem loadVarB {w : World} {g : Nat} {b : BlkS} {fv av : Value} (h : BlkAt w g b fv av) (hl : b.sl.length = 64) : (loadVar TB ⟨g, 0, none⟩).run Tryz.prog w = .ok (.agg (blkL b fv av).toArray) w :=
  run_loadVar_mid w g 0 TB (blkL b fv av) _ h.whole Tryz.underlying59 rfl (by rw [infoB, blkL_len b hl])
theorem resB1 {P : Program} {fn : Func} {a : Tmp} {t : TypeId} (h : fn.results = #[.cell a t]) {tmps : Array Value} {ad : Addr} (hp : tmps.getD a undef = .pointer (some ad)) {w : World} {v : Value} (hv : (loadVar t ad).run P w = .ok v w) :
    (results fn tmps).run P w = .ok v w := by
  have hp' := hp
  simp only [Array.getD_eq_getD_getElem?] at hp'
  simp [results, h, hp', hv, asAddr]
theorem resB2 {P : Program} {fn : Func} {a u : Tmp} {t : TypeId} (h : fn.results = #[.cell a t, .tmp u]) {tmps : Array Value} {ad : Addr} (hp : tmps.getD a undef = .pointer (some ad)) {w : World} {v : Value} (hv : (loadVar t ad).run P w = .ok v w) :
    (results fn tmps).run P w = .ok (.tuple #[v, tmps.getD u undef]) w := by
  have hp' := hp
  simp only [Array.getD_eq_getD_getElem?] at hp'
  simp [results, h, hp', hv, asAddr]
/-! Its parts stored. -/
theorem BlkAt.setFree {w : World} {g : Nat} {b : BlkS} {fv av : Value} (h : BlkAt w g b fv av) (hl : b.sl.length = 64) (v : Value) : BlkAt (w.setCell ⟨g, 66, none⟩ v) g b v av := by
  have h' : w.heap[g]? = some (.cells (blkL b fv av).toArray TB (0, 0)) := h
  have e : (blkL b fv av).set 66 v = blkL b v av := by
    unfold blkL
    simp only [List.set_cons_succ]
    rw [List.set_append_right _ _ (by simp [hl]), List.length_map, hl]
    rfl
  show (w.setCell _ _).heap[g]? = _
  simp [World.setCell, Array.getElem?_modify, h', e]
theorem BlkAt.setAttrs {w : World} {g : Nat} {b : BlkS} {fv av : Value} (h : BlkAt w g b fv av) (hl : b.sl.length = 64) (v : Value) : BlkAt (w.setCell ⟨g, 67, none⟩ v) g b fv v := by
  have h' : w.heap[g]? = some (.cells (blkL b fv av).toArray TB (0, 0)) := h
  have e : (blkL b fv av).set 67 v = blkL b fv v := by
    unfold blkL
    simp only [List.set_cons_succ]
    rw [List.set_append_right _ _ (by simp [hl]), List.length_map, hl]
    rfl
  show (w.setCell _ _).heap[g]? = _
  simp [World.setCell, Array.getElem?_modify, h', e]
theorem BlkAt.setSlot {w : World} {g : Nat} {b : BlkS} {fv av : Value} (h : BlkAt w g b fv av) (i : Nat) (hi : i < b.sl.length) (x : Int) : BlkAt (w.setCell ⟨g, i + 2, none⟩ (.int .u8 x)) g { b with sl := b.sl.set i x } fv av := by
  have h' : w.heap[g]? = some (.cells (blkL b fv av).toArray TB (0, 0)) := h
  have e : (blkL b fv av).set (i + 2) (.int .u8 x) = blkL { b with sl := b.sl.set i x } fv av := by
    unfold blkL
    simp only [List.set_cons_succ]
    rw [List.set_append_left _ _ (by simpa using hi), List.map_set]
  show (w.setCell _ _).heap[g]? = _
  simp [World.setCell, Array.getElem?_modify, h', e]
theorem BlkAt.froz {w : World} {g : Nat} {b : BlkS} {fv av : Value} (h : BlkAt w g b fv av) (i : Nat) : w.frozen? ⟨g, i, none⟩ = false := by
  have h' : w.heap[g]? = some (.cells (blkL b fv av).toArray TB (0, 0)) := h
  simp [World.frozen?, h']
end Go.Proofs.YtiifbhiodegipaaGreatDoor
namespace Go.Proofs.YtiifbhiodegipaaGreatDoor
section
open Go.RowKit Go.Lib
theorem add0 (g n : Nat) : (⟨g, 0, none⟩ : Addr).add n = ⟨g, n, none⟩ := by
  unfold Addr.add
  by_cases h : n = 0
  · subst h; rfl
  · simp [h]
theorem bcell {w W : World} {a : Addr} {v : Value} (hb : Below w.heap.size w W) (h : w.cell? a = some v) : W.cell? a = some v := bcellB hb h
abbrev encA (p : PA) : List Value := [.string p.1, .string p.2]
def zeroA : Value := .agg #[.string ⟨#[]⟩, .string ⟨#[]⟩]
theorem flat_atA : ∀ (L : List PA) (i j : Nat) (f : PA), L[i]? = some f → j < 2 → (L.flatMap encA)[i * 2 + j]? = (encA f)[j]?
  | [], i, j, f, h, _ => by simp at h
  | a :: L, 0, j, f, h, hj => by
    obtain rfl : a = f := by simpa using h
    rw [List.flatMap_cons, Nat.zero_mul, Nat.zero_add, List.getElem?_append_left (by simp; omega)]
  | a :: L, i + 1, j, f, h, hj => by
    rw [List.flatMap_cons, List.getElem?_append_right (by simp; omega)]
    have e : (i + 1) * 2 + j - (encA a).length = i * 2 + j := by simp; omega
    rw [e]
    exact flat_atA L i j f (by simpa using h) hj
abbrev RowA (E : TypeId) (w : World) (B : Nat) (v : Value) (L : List PA) : Prop := w.ownsRow B E 2 v L.length (L.flatMap encA)
theorem RowA.sees {E : TypeId} {w : World} {B : Nat} {v : Value} {L : List PA} (h : RowA E w B v L) : SeesA w v L := by
  rcases h.2 with ⟨e, h0⟩ | ⟨g, cap, cur, e, _, hb, hn, _⟩
  · have h1 : L = [] := List.eq_nil_of_length_eq_zero h0
    subst h1
    exact ⟨none, 0, e, Nat.le_refl _, (fun _ => rfl), (fun a ha => by cases ha)⟩
  · refine ⟨_, _, e, hn, (fun h => by cases h), fun a ha i f hf => ?_⟩
    cases ha
    have hc := World.ownsRow.cells h (g := g) (by rw [e]; rfl)
    have h0 := hc (i * 2 + 0) _ ((flat_atA L i 0 f hf (by omega)).trans rfl)
    have h1 := hc (i * 2 + 1) _ ((flat_atA L i 1 f hf (by omega)).trans rfl)
    rw [Addr.add_add]
    exact ⟨h0, h1⟩
theorem SeesA.nil (w : World) : SeesA w (.slice none 0 0) [] := ⟨none, 0, rfl, Nat.le_refl _, fun _ => rfl, fun _ h => by cases h⟩
theorem row_leA {E : TypeId} {w : World} {B B' : Nat} {v : Value} {L : List PA} (h : RowA E w B v L) (hb : B' ≤ B) : RowA E w B' v L := ⟨h.1, h.2.imp id fun ⟨g, cap, cur, e, b, r⟩ => ⟨g, cap, cur, e, Nat.le_trans hb b, r⟩⟩
theorem row_keepA {E : TypeId} {w w' : World} {B : Nat} {v : Value} {L : List PA} (h : RowA E w B v L) (hb : Below w.heap.size w w') : RowA E w' B v L :=
  ⟨h.1, h.2.imp id fun ⟨g, cap, cur, e, b, hg, r⟩ => ⟨g, cap, cur, e, b, (hb.block g (heap_lt hg)).trans hg, r⟩⟩
theorem infoA : (Tryz.prog.info? 76).map (fun i => (i.zero, i.size, i.bytes)) = some (some zeroA, 2, 32) := by kernel_rfl
theorem infoRA : (Tryz.prog.info? 73).map (fun i => (i.zero, i.size, i.bytes)) = some (some zeroA, 2, 32) := by kernel_rfl
theorem acells {w : World} {g : Nat} {x y : Value} {t : TypeId} {fr : Nat × Nat} (h : w.heap[g]? = some (.cells #[x, y] t fr)) : w.cell? ⟨g, 0, none⟩ = some x ∧ w.cell? ⟨g, 1, none⟩ = some y := by simp [World.cell?, h]
abbrev cntA (p : PA) (t : TypeId) : Obj := .cells #[.string p.1, .string p.2] t
/-- append of one count to a row of the call's own. -/
theorem wpList_pushA {T E : TypeId} (hTE : Tryz.prog.underlying T = some (.slice E)) (hI : (Tryz.prog.info? E).map (fun i => (i.zero, i.size, i.bytes)) = some (some zeroA, 2, 32)) {w0 : World} {ops : Array Oper} {rest : List Oper} {o : Oper} {a : Act} {Q : Exit → Act → World → Prop} (hgd : o.guard = none) (s x : Operand)
    (ho : o.op = .call { callee := .builtin .append, args := #[s, x], argTypes := #[T, T] }) (B : Nat) (v : Value) (L : List PA) (u : PA)
    (k : Nat) (hk : k = w0.heap.size) (hs : a.eval s = v) (hx : a.eval x = .slice (some ⟨k, 0, none⟩) 1 1) (hrow : RowA E w0 B v L) (hlen : L.length ≤ 1000001) (hB : B ≤ w0.heap.size)
    (h : ∀ v' w', RowA E w' B v' (L ++ [u]) → Below B w0 w' → w0.grownBy w' v.ownBlock → wpList Tryz.prog ops Q rest (a.put o.dst v') w') :
    wpList Tryz.prog ops Q (o :: rest) a (w0.alloc (cntA u E)) := by
  subst hk
  obtain ⟨i0, hi, hz0, hz1, hz2⟩ := info_parts hI
  have hbk : (w0.alloc (cntA u E)).heap[w0.heap.size]? = some (cntA u E) := heap_alloc_new w0 _
  refine wpList_append_own _ hgd s x T ho B E i0 zeroA 2 32 hTE hi hz0 hz1 hz2 rfl (by decide) v _ _ hs (hrow.alloc _) ⟨w0.heap.size, 0, none⟩ 1 1 [.string u.1, .string u.2] hx rfl (fun j y hj => ?_) ?_ (by unfold maxLen; omega) (by omega) (by simp; omega) ?_
  · rw [add0]
    rcases j with _ | _ | j
    · obtain rfl : Value.string u.1 = y := by simpa using hj
      exact (acells hbk).1
    · obtain rfl : Value.string u.2 = y := by simpa using hj
      exact (acells hbk).2
    · simp at hj
  · intro y hy
    simp only [List.mem_cons, List.not_mem_nil, or_false] at hy
    rcases hy with rfl | rfl <;> rfl
  · intro v' w' hown' hgrow _
    have hg0 : w0.grownBy w' v.ownBlock := World.grownBy.trans (b := w0.alloc (cntA u E)) ⟨rfl, rfl, rfl, by simp, fun k hk _ => Below.heap_alloc w0 _ k hk⟩ hgrow
    refine h v' w' ?_ ((Below.refl B w0).grown hg0 hB (fun k hk => (hrow.lt k hk).1)) hg0
    have e1 : (L ++ [u]).length = L.length + 1 := by simp
    have e2 : (L ++ [u]).flatMap encA = L.flatMap encA ++ [.string u.1, .string u.2] := by simp [List.flatMap_append]
    show w'.ownsRow _ _ _ _ _ _
    rw [e1, e2]
    exact hown'
theorem heap_new (w : World) (o : Obj) : (w.alloc o).heap[w.heap.size]? = some o := by
  show (w.heap.push o)[w.heap.size]? = some o
  simp
def atA (L : List PA) (k : Nat) : PA := L.getD k (⟨#[]⟩, ⟨#[]⟩)
abbrev EAt : TypeId := 76
end
section
open Go.RowKit
theorem own_grown {E : TypeId} {s B n g : Nat} {w w' : World} {v : Value} {xs : List Value} (h : w.ownsRow B E s v n xs) (hg : w.grownBy w' (some g)) (hB : g < B) : w'.ownsRow B E s v n xs :=
  ⟨h.1, h.2.imp id fun ⟨b, cap, cur, e, hb, hh, r⟩ => ⟨b, cap, cur, e, hb, (hg.block b (heap_lt hh) (fun e => by have := Option.some.inj e; omega)).trans hh, r⟩⟩
theorem own_set {E : TypeId} {s B n : Nat} {w : World} {v : Value} {xs : List Value} (h : w.ownsRow B E s v n xs) {a : Addr} (ha : a.block < B) (u : Value) : (w.setCell a u).ownsRow B E s v n xs :=
  ownsRow_setCell_other h (fun e => by have := (h.lt _ e).1; omega) u
theorem blk_setO {w : World} {g : Nat} {b : BlkS} {fv av : Value} (h : BlkAt w g b fv av) {a : Addr} (ha : g ≠ a.block) (u : Value) : BlkAt (w.setCell a u) g b fv av := by
  show (w.setCell a u).heap[g]? = _
  rw [Below.heap_setCell _ _ _ _ ha]
  exact h
theorem size_set {n : Nat} {w : World} (h : n ≤ w.heap.size) (a : Addr) (u : Value) : n ≤ (w.setCell a u).heap.size := by simpa [World.setCell] using h
theorem two_newB (w : World) (o p : Obj) : Below w.heap.size w ((w.alloc o).alloc p) ∧ ((w.alloc o).alloc p).heap[w.heap.size]? = some o ∧ ((w.alloc o).alloc p).heap[w.heap.size + 1]? = some p ∧ ((w.alloc o).alloc p).heap.size = w.heap.size + 2 := by
  have hs : (w.alloc o).heap.size = w.heap.size + 1 := by show (w.heap.push _).size = _; simp
  refine ⟨belAlloc (belNew _ _) _, ?_, ?_, ?_⟩
  · exact (Below.heap_alloc (w.alloc o) _ _ (by omega)).trans (heap_new w _)
  · have := heap_new (w.alloc o) p
    rwa [hs] at this
  · show ((w.alloc o).heap.push _).size = _
    simp [hs]
end
section
open Go.RowKit
def zS (a : Int) (s : ByteArray) : BlkS := ⟨a, s, List.replicate 64 0, [], []⟩
theorem buildZ (w : World) : (Instr.build TB #[]).run Tryz.prog w = .ok (.agg (blkL zB NS NS).toArray) w := by kernel_rfl
/-- append of one cell to a row of the call's own. -/
theorem wpList_push1 {T E : TypeId} {z : Value} {by1 : Nat} (hTE : Tryz.prog.underlying T = some (.slice E)) (hI : (Tryz.prog.info? E).map (fun i => (i.zero, i.size, i.bytes)) = some (some z, 1, by1)) (hzc : z.cells.size = 1) (hby : by1 ≤ 16) {w0 : World} {ops : Array Oper} {rest : List Oper} {o : Oper} {a : Act} {Q : Exit → Act → World → Prop} (hgd : o.guard = none) (s x : Operand)
    (ho : o.op = .call { callee := .builtin .append, args := #[s, x], argTypes := #[T, T] }) (B : Nat) (v : Value) (n : Nat) (xs : List Value) (u : Value)
    (k : Nat) (hk : k = w0.heap.size) (hs : a.eval s = v) (hx : a.eval x = .slice (some ⟨k, 0, none⟩) 1 1) (hrow : w0.ownsRow B E 1 v n xs) (hlen : n ≤ 1000001) (hB : B ≤ w0.heap.size) (h1 : u.oneCell' = true)
    (h : ∀ v' w', w'.ownsRow B E 1 v' (n + 1) (xs ++ [u]) → Below B w0 w' → w0.grownBy w' v.ownBlock → wpList Tryz.prog ops Q rest (a.put o.dst v') w') :
    wpList Tryz.prog ops Q (o :: rest) a (w0.alloc (.cells #[u] E)) := by
  subst hk
  obtain ⟨i0, hi, hz0, hz1, hz2⟩ := info_parts hI
  have hbk : (w0.alloc (.cells #[u] E)).heap[w0.heap.size]? = some (.cells #[u] E (0, 0)) := heap_alloc_new w0 _
  refine wpList_append_own _ hgd s x T ho B E i0 z 1 by1 hTE hi hz0 hz1 hz2 hzc (by decide) v _ _ hs (hrow.alloc _) ⟨w0.heap.size, 0, none⟩ 1 1 [u] hx rfl (fun j y hj => ?_) ?_ (by unfold maxLen; omega) (by have : (n + 1) * by1 ≤ (n + 1) * 16 := Nat.mul_le_mul_left _ hby; omega) (by simp; omega) ?_
  · rw [add0]
    rcases j with _ | j
    · obtain rfl : u = y := by simpa using hj
      exact cell_of_one hbk
    · simp at hj
  · intro y hy
    obtain rfl : y = u := by simpa using hy
    exact h1
  · intro v' w' hown' hgrow _
    have hg0 : w0.grownBy w' v.ownBlock := World.grownBy.trans (b := w0.alloc (.cells #[u] E)) ⟨rfl, rfl, rfl, by simp, fun k hk _ => Below.heap_alloc w0 _ k hk⟩ hgrow
    exact h v' w' hown' ((Below.refl B w0).grown hg0 hB (fun k hk => (hrow.lt k hk).1)) hg0
theorem own_form {E : TypeId} {s B n : Nat} {w : World} {v : Value} {xs : List Value} (h : w.ownsRow B E s v n xs) : ∃ ao m c, v = .slice ao m c := by
  rcases h.2 with ⟨e, _⟩ | ⟨g, cap, cur, e, _⟩
  · exact ⟨_, _, _, e⟩
  · exact ⟨_, _, _, e⟩
theorem own_le {E : TypeId} {s B B' n : Nat} {w : World} {v : Value} {xs : List Value} (h : w.ownsRow B E s v n xs) (hb : B' ≤ B) : w.ownsRow B' E s v n xs :=
  ⟨h.1, h.2.imp id fun ⟨g, cap, cur, e, b, r⟩ => ⟨g, cap, cur, e, Nat.le_trans hb b, r⟩⟩
theorem own_keep {E : TypeId} {s B n : Nat} {w w' : World} {v : Value} {xs : List Value} (h : w.ownsRow B E s v n xs) (hb : Below w.heap.size w w') : w'.ownsRow B E s v n xs :=
  ⟨h.1, h.2.imp id fun ⟨g, cap, cur, e, b, hg, r⟩ => ⟨g, cap, cur, e, b, (hb.block g (heap_lt hg)).trans hg, r⟩⟩
theorem BlkAt.keepB {w w' : World} {g n : Nat} {b : BlkS} {fv av : Value} (h : BlkAt w g b fv av) (hb : Below n w w') (hg : g < n) : BlkAt w' g b fv av := (hb.block g hg).trans h
/-- What a block is that is told. -/
structure BlkRet (w w' : World) (b : BlkS) (fv av : Value) : Prop where
  free : Owns w' w.heap.size fv b.free
  attrs : RowA EAt w' w.heap.size av b.attrs
  below : Below w.heap.size w w'
end
end Go.Proofs.YtiifbhiodegipaaGreatDoor
namespace Go.Proofs.YtiifbhiodegipaaGreatDoor
section
open Go.RowKit
abbrev em : ByteArray := ⟨#[]⟩
/-- Under which attribute an address is given, if it is. -/
def undP (b : BlkS) (x : Int) : PA × Bool := if inB b.addr x = true ∧ b.sl.getD (x - b.addr).toNat 0 ≠ 0 then (atA b.attrs (b.sl.getD (x - b.addr).toNat 0 - 1).toNat, true) else ((em, em), false)
end
section
open Go.RowKit
theorem slotsLe_iff (sl : List Int) (m : Nat) : ∀ n, slotsLe sl m n = true → ∀ i, i < n → sl.getD i 0 ≤ m
  | 0, _, i, hi => by omega
  | n + 1, h, i, hi => by
    unfold slotsLe at h
    simp only [Bool.and_eq_true] at h
    by_cases e : i = n
    · subst e
      have := h.2
      simpa using this
    · exact slotsLe_iff sl m n h.1 i (by omega)
/-- What is so of a block that is right. -/
theorem right_bd {b : BlkS} (hw : BWf b) (h : rightB b = true) : b.addr % 64 = 0 ∧ ownB b.aff = true ∧ b.attrs.length ≤ 64 ∧ ∀ i, 0 ≤ b.sl.getD i 0 ∧ b.sl.getD i 0 ≤ b.attrs.length := by
  obtain ⟨_, hl, hok, _⟩ := hw
  unfold rightB at h
  simp only [Bool.and_eq_true, decide_eq_true_eq] at h
  obtain ⟨h1, h2, h3, h4, h5⟩ := h
  unfold rightA at h3
  simp only [Bool.and_eq_true, decide_eq_true_eq] at h3
  unfold rightS at h4
  simp only [Bool.and_eq_true] at h4
  refine ⟨h1, h2, h3.1, fun i => ⟨(okB_get hok i).1, ?_⟩⟩
  by_cases hi : i < 64
  · exact slotsLe_iff _ _ 64 h4.1 i hi
  · rw [List.getD_eq_getElem?_getD, List.getElem?_eq_none (by omega)]
    simp
/-- Under which attribute an address of a block is given. -/
def ofP (b : BlkS) (x : Int) : PA × Bool := if rightB b = true then undP b x else ((em, em), false)
/-! Own. -/
/-- A row that is the call's own is so to who called it. -/
theorem BlkRet.mono {w0 w w' : World} {b : BlkS} {fv av : Value} (h : BlkRet w w' b fv av) (hb : Below w0.heap.size w0 w) : BlkRet w0 w' b fv av :=
  ⟨own_le h.free hb.size, own_le h.attrs hb.size, hb.trans (h.below.mono hb.size)⟩
end
end Go.Proofs.YtiifbhiodegipaaGreatDoor
namespace Go.Proofs.YtiifbhiodegipaaGreatDoor
section
open Go.RowKit
/-- Is a slot given? -/
def gvn (sl : List Int) (x : Int) : Bool := sl.getD x.toNat 0 != 0
end
section
open Go.RowKit
/-- Those that are not given. -/
def kp (sl xs : List Int) : List Int := xs.filter (fun x => !gvn sl x)
theorem own_grownO {w w' : World} {B : Nat} {E : TypeId} {s n : Nat} {v : Value} {xs : List Value} {r : Option Nat} (h : w.ownsRow B E s v n xs) (hg : w.grownBy w' r) (hne : ∀ k, v.ownBlock = some k → r ≠ some k) : w'.ownsRow B E s v n xs :=
  ⟨h.1, h.2.imp id fun ⟨b, cap, cur, e, hb, hh, q⟩ => ⟨b, cap, cur, e, hb, (hg.block b (heap_lt hh) (fun e2 => hne b (by rw [e]; rfl) e2.symm)).trans hh, q⟩⟩
end
end Go.Proofs.YtiifbhiodegipaaGreatDoor
namespace Go.Proofs.YtiifbhiodegipaaGreatDoor
open Go.RowKit
/-- The number of the attribute that is given. -/
def givK (b : BlkS) (l : List Int) (a : PA) : Int := if a ∈ b.attrs then (ixA a b.attrs : Int) else if l = [] then -1 else b.attrs.length
end Go.Proofs.YtiifbhiodegipaaGreatDoor
