/- Package slices at rows of counts: what copy, clear and append leave, cell by cell; a copy of a row. -/
import Derived.Test.YtcgkambkfaeceaaHnB
import Derived.Laws.CopyOwn
import Derived.Laws.CopyRow
import Derived.Lib.SliceRun
import Derived.Lib.AppendZeros
import Derived.Lib.AppendZerosOnto
import Derived.Laws.IdiomCopy
import Derived.Laws.NewBlocks
namespace Go.Proofs.Ytcgkambkfaeceaa
open Go.RowKit Go.Lib
abbrev EC : TypeId := 50
abbrev TC : TypeId := 23
theorem flat_app (L M : CntL) : (L ++ M).flatMap encC = L.flatMap encC ++ M.flatMap encC := by simp [List.flatMap_append]
theorem sees_flat {w : World} {a : Addr} {n c : Nat} {L : CntL} (h : SeesC w (.slice (some a) n c) L) : ∀ j u, (L.flatMap encC)[j]? = some u → w.cell? (a.add j) = some u := by
  obtain ⟨ao, c', e, _, _, hc⟩ := h
  obtain ⟨rfl, _, _⟩ : ao = some a ∧ n = L.length ∧ c = c' := by cases e; exact ⟨rfl, rfl, rfl⟩
  intro j u hj
  have hl : j < L.length * 2 := by
    have := (List.getElem?_eq_some_iff.1 hj).1
    rwa [flat_lenC] at this
  have hi : j / 2 < L.length := by omega
  obtain ⟨q0, q1⟩ := hc a rfl (j / 2) _ (at2_get hi)
  rw [Addr.add_add] at q1
  have h2 : j % 2 = 0 ∨ j % 2 = 1 := by omega
  have e0 := flat_atC L (j / 2) (j % 2) _ (at2_get hi) (by omega)
  rw [show j / 2 * 2 + j % 2 = j from by omega, hj] at e0
  rcases h2 with h2 | h2
  · rw [h2] at e0
    rw [show j / 2 * 2 = j from by omega] at q0
    rw [q0, e0]; rfl
  · rw [h2] at e0
    rw [show j / 2 * 2 + 1 = j from by omega] at q1
    rw [q1, e0]; rfl
/-- What a row's block is, whatever is laid into it. -/
theorem blk_set (g : Nat) (t : TypeId) : ∀ (vs : List Value) (o : Nat) (w : World) (cur : Array Value), w.heap[g]? = some (.cells cur t (0, 0)) →
    (∃ cur', (w.setCells g o vs).heap[g]? = some (.cells cur' t (0, 0)) ∧ cur'.size = cur.size) ∧ ∀ B, B ≤ g → Below B w (w.setCells g o vs)
  | [], _, w, cur, h => ⟨⟨cur, h, rfl⟩, fun B _ => Below.refl B w⟩
  | v :: vs, o, w, cur, h => by
    have e := setCell_eq_setRow w g o cur t (0, 0) v h
    have h1 := setRow_heap w g cur (cur.setIfInBounds o v) t (0, 0) h
    rw [← e] at h1
    obtain ⟨⟨cur', h2, h3⟩, h4⟩ := blk_set g t vs (o + 1) (w.setCell ⟨g, o, none⟩ v) _ h1
    refine ⟨⟨cur', h2, by rw [h3]; simp⟩, fun B hB => ?_⟩
    have hb : Below B w (w.setCell ⟨g, o, none⟩ v) := by rw [e]; exact below_setRow (Below.refl B w) hB _
    exact hb.trans (h4 B hB)
/-- A row of the call's own, by its cells. -/
theorem own_cells {B : Nat} {t : TypeId} {W : World} {g cap : Nat} {cur : Array Value} (hg : W.heap[g]? = some (.cells cur t (0, 0))) (hs : cur.size = cap * 2) (hB : B ≤ g) (hcap : cap ≤ maxLen) (L : CntL) (hn : L.length ≤ cap)
    (hc : ∀ j u, (L.flatMap encC)[j]? = some u → W.cell? ⟨g, j, none⟩ = some u) : RowE t W B (.slice (some ⟨g, 0, none⟩) L.length cap) L := by
  refine ⟨flat_lenC L, Or.inr ⟨g, cap, cur, rfl, hB, hg, hn, hcap, hs, ?_⟩⟩
  apply List.ext_getElem?
  intro j
  by_cases hj : j < L.length * 2
  · have hl : j < (L.flatMap encC).length := by rw [flat_lenC]; exact hj
    have := hc j _ (List.getElem?_eq_getElem hl)
    rw [List.getElem?_take, if_pos hj, List.getElem?_eq_getElem hl]
    simp [World.cell?, hg] at this
    simpa using this
  · rw [List.getElem?_eq_none (by rw [List.length_take]; omega), List.getElem?_eq_none (by rw [flat_lenC]; omega)]
theorem row_parts {B : Nat} {t : TypeId} {w : World} {v : Value} {L : CntL} (h : RowE t w B v L) (hL : L ≠ []) : ∃ g cap cur, v = .slice (some ⟨g, 0, none⟩) L.length cap ∧ B ≤ g ∧ w.heap[g]? = some (.cells cur t (0, 0)) ∧ L.length ≤ cap ∧ cap ≤ maxLen ∧ cur.size = cap * 2 ∧
    ∀ j u, (L.flatMap encC)[j]? = some u → w.cell? ⟨g, j, none⟩ = some u := by
  have hc := fun (g : Nat) (hg : v.ownBlock = some g) => World.ownsRow.cells h (g := g) hg
  obtain ⟨_, ⟨_, h0⟩ | ⟨g, cap, cur, e, hb, hg, hn, hm, hs, _⟩⟩ := h
  · exact absurd (List.eq_nil_of_length_eq_zero h0) hL
  · refine ⟨g, cap, cur, e, hb, hg, hn, hm, hs, fun j u hj => ?_⟩
    have := hc g (by rw [e]; rfl) j u hj
    rwa [add0] at this
theorem run_copyC (w : World) (ty : TypeId) (b o dLen dCap : Nat) (a : Addr) (sLen sCap : Nat) (cs : List Value) (k : Nat) (hk : k = Nat.min sLen dLen) (hn : cs.length = k * 2)
    (hsrc : ∀ j v, cs[j]? = some v → w.cell? (a.add j) = some v) (hc : ∀ j, j < cs.length → (w.cell? ⟨b, o + j, none⟩).isSome = true) (hf : ∀ j, j < cs.length → w.frozen? ⟨b, o + j, none⟩ = false) (h1 : ∀ v ∈ cs, v.oneCell' = true) :
    (Builtin.copy_ #[TC, TC] ty #[.slice (some ⟨b, o, none⟩) dLen dCap, .slice (some a) sLen sCap]).run Try.prog w = .ok (goInt k) (w.setCells b o cs) := by
  obtain ⟨i0, hi, hz0, hz1, hz2⟩ := info_parts infoC
  have hu : Try.prog.underlying TC = some (.slice EC) := Try.underlying23
  have hl := run_loadCells_list (P := Try.prog) w a cs hsrc
  have hst := run_storeCells_cells (P := Try.prog) b o cs 0 w (by simpa using hc) (by simpa using hf) h1
  rw [hn] at hl
  simp [Builtin.copy_, run_underlying hu, Builtin.lenOf, Builtin.firstCells, sizeOf, typeInfo, hi, hz1, ← hk, hl, hst]
theorem run_clearC (w : World) (ty : TypeId) (b o c : Nat) (hc : ∀ j, j < 2 → (w.cell? ⟨b, o + j, none⟩).isSome = true) (hf : ∀ j, j < 2 → w.frozen? ⟨b, o + j, none⟩ = false) :
    (Builtin.clear_ #[TC] ty #[.slice (some ⟨b, o, none⟩) 1 c]).run Try.prog w = .ok (.tuple #[]) (w.setCells b o (encC (0, 0))) := by
  have hu : Try.prog.underlying TC = some (.slice EC) := Try.underlying23
  have hv : (zeroValue EC).run Try.prog w = .ok zeroC w := Try.zeroValue50 w
  have hzc : (Builtin.zeroCells zeroC.cells 1).toList = encC (0, 0) := by kernel_rfl
  have hst := run_storeCells_cells (P := Try.prog) b o (encC (0, 0)) 0 w (by simpa using hc) (by simpa using hf) (by intro v hv'; simp only [List.mem_cons, List.not_mem_nil, or_false] at hv'; rcases hv' with rfl | rfl <;> rfl)
  simp only [Nat.add_zero] at hst
  simp [Builtin.clear_, run_underlying hu, hv, hzc, hst]
theorem cloneC_any (v : Value) (L : CntL) (w : World) (h : SeesC w v L) (hl : L.length ≤ 1000000) :
    Calls Try.prog 34 #[v] w fun e w' => ∃ v', e = .returned v' ∧ RowE EC w' w.heap.size v' L ∧ Below w.heap.size w w' := by
  obtain ⟨ao, c, rfl, hlc, hnil, hc⟩ := id h
  cases ao with
  | none =>
    obtain rfl : L = [] := hnil rfl
    have hq : ∀ w, (binOp .eql TC (.slice none 0 c) (.slice none 0 0)).run Try.prog w = .ok (.bool true) w := fun w => run_eql_slice_nil w TC EC none 0 c 0 0 Try.underlying23
    clear h hc hnil
    go_enter Try.func34, Try.ntmps34
    go_wp2_with fail
    go_ret
    exact ⟨_, rfl, World.ownsRow_nil _ _ _ _, Below.refl _ _⟩
  | some a =>
    obtain ⟨i0, hi, hz0, hz1, hz2⟩ := info_parts infoC
    have HO : Hid ((w.alloc (.cells #[] EC)).ownsRow w.heap.size EC 2 (.slice (some ⟨w.heap.size, 0, none⟩) 0 0) 0 []) := Lib.hid (World.ownsRow_lit (base := w.heap.size) (e := EC) (size := 2) w #[] 0 (Nat.le_refl _) (by unfold maxLen; omega) rfl)
    have HS := Lib.hid (sees_flat (h.below (belNew w (.cells #[] EC))))
    have hq : ∀ w, (binOp .eql TC (.slice (some a) L.length c) (.slice none 0 0)).run Try.prog w = .ok (.bool false) w := fun w => run_eql_slice_nil w TC EC (some a) L.length c 0 0 Try.underlying23
    clear h hc hnil
    go_enter Try.func34, Try.ntmps34
    go_wp2_with (at_builtin; refine wpList_append_own _ rfl _ _ TC rfl w.heap.size EC i0 zeroC 2 16 Try.underlying23 hi hz0 hz1 hz2 rfl (by decide) (.slice (some ⟨w.heap.size, 0, none⟩) 0 0) 0 [] rfl HO.out a L.length c (L.flatMap encC) rfl (flat_lenC L) HS.out (flat_oneC L) (by unfold maxLen; omega) (by omega) (belNew w _).size ?_; intro v' w' ho hg hn)
    go_ret
    refine ⟨_, rfl, ?_, (belNew w _).grown hg (belNew w _).size (fun j hj => by cases hj; exact Nat.le_refl _)⟩
    have ho2 : RowE EC w' w.heap.size v' L := by
      have := ho
      rw [Nat.zero_add, List.nil_append] at this
      exact this
    exact ho2
end Go.Proofs.Ytcgkambkfaeceaa
