/- Package pack: a reader, alone in its block, and what its calls come to. -/
import Derived.Test.YtgodmnpcedfdcaaPk
import Derived.OneCell
import Derived.Laws.BitsAllLaws
import Derived.Deep.QuietTactic
namespace Go.Proofs.Ytgodmnpcedfdcaa
open Go.RowKit
def okB (l : List Int) : Prop := ∀ x ∈ l, 0 ≤ x ∧ x ≤ 255
theorem okB.take {l : List Int} (h : okB l) (n : Nat) : okB (l.take n) := fun x hx => h x (List.mem_of_mem_take hx)
theorem okB.drop {l : List Int} (h : okB l) (n : Nat) : okB (l.drop n) := fun x hx => h x (List.mem_of_mem_drop hx)
/-- A reader in block g; its bytes lie below block B. -/
def RdP (g B : Nat) (st : Option (List Int)) (w : World) : Prop :=
  ∃ v, w.heap[g]? = some (.cells #[v, .bool st.isNone] 137 (0, 0)) ∧ Sees w v (st.getD []) ∧ (∀ d, v.ownBlock = some d → d < B) ∧ okB (st.getD []) ∧ (st.getD []).length ≤ 100000000000000 ∧ B ≤ g
theorem sees_heap {w w' : World} {v : Value} {xs : List Int} (h : Sees w v xs) (hb : ∀ d, v.ownBlock = some d → d < w.heap.size → w'.heap[d]? = w.heap[d]?) : Sees w' v xs := by
  obtain ⟨ao, c, rfl, hl, hn, hc⟩ := h
  exact ⟨ao, c, rfl, hl, hn, fun a ha i hi => by
    have h1 := hc a ha i hi
    have h2 := cell_lt8 h1
    rw [World.cell?_of_block (w := w) (w' := w') (by subst ha; rw [add_block]; exact hb _ rfl (by rwa [add_block] at h2))]
    exact h1⟩
theorem heap_lt {w : World} {g : Nat} {o : Obj} (h : w.heap[g]? = some o) : g < w.heap.size := (Array.getElem?_eq_some_iff.1 h).1
theorem RdP.grown {g B h : Nat} {st : Option (List Int)} {w w' : World} (hr : RdP g B st w) (hg : w.grownBy w' (some h)) (h1 : h ≠ g) (h2 : B ≤ h) : RdP g B st w' := by
  obtain ⟨v, hb, hs, hd, ho, hl, hB⟩ := hr
  refine ⟨v, ?_, sees_heap hs (fun d hd' hlt => hg.block d hlt (fun e => ?_)), hd, ho, hl, hB⟩
  · rw [hg.block g (heap_lt hb) (fun e => h1 (Option.some.inj e).symm)]; exact hb
  · have := hd d hd'; cases e; omega
theorem RdP.below {g B : Nat} {st : Option (List Int)} {w w' : World} (hr : RdP g B st w) (hb : Below w.heap.size w w') : RdP g B st w' := by
  obtain ⟨v, h, hs, hd, ho, hl, hB⟩ := hr
  exact ⟨v, (hb.block g (heap_lt h)).trans h, hs.keep hb, hd, ho, hl, hB⟩
theorem cell0 {w : World} {g : Nat} {x y : Value} {t : TypeId} (h : w.heap[g]? = some (.cells #[x, y] t (0, 0))) : w.cell? ⟨g, 0, none⟩ = some x := by simp [World.cell?, h]
theorem cell1 {w : World} {g : Nat} {x y : Value} {t : TypeId} (h : w.heap[g]? = some (.cells #[x, y] t (0, 0))) : w.cell? ⟨g, 1, none⟩ = some y := by simp [World.cell?, h]
theorem froz {w : World} {g : Nat} {x y : Value} {t : TypeId} (h : w.heap[g]? = some (.cells #[x, y] t (0, 0))) (i : Nat) : w.frozen? ⟨g, i, none⟩ = false := by simp [World.frozen?, h]
theorem grown_set (w : World) (g i : Nat) (a : Value) : w.grownBy (w.setCell ⟨g, i, none⟩ a) (some g) :=
  ⟨rfl, rfl, rfl, by simp [World.setCell], fun k _ hne => Below.heap_setCell _ _ _ _ (fun e => hne (by rw [e]))⟩
theorem grown_trans {a b c : World} {r : Option Nat} (h : a.grownBy b r) (k : b.grownBy c r) : a.grownBy c r :=
  ⟨k.os.trans h.os, k.tape.trans h.tape, k.output.trans h.output, Nat.le_trans h.size k.size, fun i hi hne => (k.block i (Nat.lt_of_lt_of_le hi h.size) hne).trans (h.block i hi hne)⟩
theorem take_snocI (l : List Int) (i : Nat) (h : i < l.length) : l.take (i + 1) = l.take i ++ [l.getD i 0] := by
  rw [List.take_add_one, List.getElem?_eq_getElem h]
  simp [List.getD, List.getElem?_eq_getElem h]
theorem getD_get {l : List Int} {i : Nat} (h : i < l.length) : l.getD i 0 = l[i] := by simp [List.getD, List.getElem?_eq_getElem h]
theorem Owns.at {w : World} {B : Nat} {v : Value} {xs : List Int} (h : Owns w B v xs) (hx : xs ≠ []) :
    ∃ g cap, v = .slice (some ⟨g, 0, none⟩) xs.length cap ∧ B ≤ g ∧ g < w.heap.size ∧ xs.length ≤ cap ∧ (∀ i, i < xs.length → w.cell? ⟨g, i, none⟩ = some (.int .u8 (xs.getD i 0))) ∧ ∀ i, w.frozen? ⟨g, i, none⟩ = false := by
  have h0 := h
  obtain ⟨_, ⟨rfl, hn⟩ | ⟨g, cap, cur, rfl, hB, hb, hnc, _, _, _⟩⟩ := h
  · exact absurd (List.eq_nil_of_length_eq_zero hn) hx
  · refine ⟨g, cap, rfl, hB, heap_lt hb, hnc, fun i hi => ?_, fun i => World.ownsRow.frozenAt h0 i⟩
    rw [World.ownsRow.cellAt h0 i (by omega), getD_cells hi]
theorem Owns.le {w : World} {B B' : Nat} {v : Value} {xs : List Int} (h : Owns w B v xs) (hb : B' ≤ B) : Owns w B' v xs := ⟨h.1, h.2.imp id fun ⟨a, b, c, d, e, f⟩ => ⟨a, b, c, d, Nat.le_trans hb e, f⟩⟩
theorem Owns.keep {w w' : World} {B : Nat} {v : Value} {xs : List Int} (h : Owns w B v xs) (hb : Below w.heap.size w w') : Owns w' B v xs :=
  ⟨h.1, h.2.imp id fun ⟨g, cap, cur, e, hB, hg, r⟩ => ⟨g, cap, cur, e, hB, (hb.block g (heap_lt hg)).trans hg, r⟩⟩
end Go.Proofs.Ytgodmnpcedfdcaa
