/- Package pack: a reader, alone in its block, and what its calls come to. -/
import Derived.Test.YtholgmcfgnifdaaPk
import Derived.OneCell
import Derived.Laws.BitsAllLaws
import Derived.Deep.QuietTactic
namespace Go.Proofs.Ytholgmcfgnifdaa
open Go.RowKit
def okB (l : List Int) : Prop := ∀ x ∈ l, 0 ≤ x ∧ x ≤ 255
theorem okB.take {l : List Int} (h : okB l) (n : Nat) : okB (l.take n) := fun x hx => h x (List.mem_of_mem_take hx)
theorem okB.drop {l : List Int} (h : okB l) (n : Nat) : okB (l.drop n) := fun x hx => h x (List.mem_of_mem_drop hx)
/-- What a read of n bytes tells, and leaves; none: bad. -/
def rdB (st : Option (List Int)) (n : Int) : List Int × Option (List Int) := match st with
  | some l => if 0 ≤ n ∧ n ≤ l.length then (l.take n.toNat, some (l.drop n.toNat)) else ([], none)
  | none => ([], none)
/-- Bytes' number, the highest one first. -/
def numBE (l : List Int) : Int := l.foldl (fun n c => n * 256 + c) 0
def rdU (st : Option (List Int)) (k : Int) : Int × Option (List Int) := if wOk k = true then (numBE (rdB st k).1, (rdB st k).2) else (0, none)
def rdT (st : Option (List Int)) : List Int × Option (List Int) := if (rdU st 1).1 ≤ 64 then rdB (rdU st 1).2 (rdU st 1).1 else ([], none)
theorem sees_heap {w w' : World} {v : Value} {xs : List Int} (h : Sees w v xs) (hb : ∀ d, v.ownBlock = some d → d < w.heap.size → w'.heap[d]? = w.heap[d]?) : Sees w' v xs := by
  obtain ⟨ao, c, rfl, hl, hn, hc⟩ := h
  exact ⟨ao, c, rfl, hl, hn, fun a ha i hi => by
    have h1 := hc a ha i hi
    have h2 := cell_lt8 h1
    rw [World.cell?_of_block (w := w) (w' := w') (by subst ha; rw [add_block]; exact hb _ rfl (by rwa [add_block] at h2))]
    exact h1⟩
theorem heap_lt {w : World} {g : Nat} {o : Obj} (h : w.heap[g]? = some o) : g < w.heap.size := (Array.getElem?_eq_some_iff.1 h).1
theorem cell0 {w : World} {g : Nat} {x y : Value} {t : TypeId} (h : w.heap[g]? = some (.cells #[x, y] t (0, 0))) : w.cell? ⟨g, 0, none⟩ = some x := by simp [World.cell?, h]
theorem cell1 {w : World} {g : Nat} {x y : Value} {t : TypeId} (h : w.heap[g]? = some (.cells #[x, y] t (0, 0))) : w.cell? ⟨g, 1, none⟩ = some y := by simp [World.cell?, h]
theorem froz {w : World} {g : Nat} {x y : Value} {t : TypeId} (h : w.heap[g]? = some (.cells #[x, y] t (0, 0))) (i : Nat) : w.frozen? ⟨g, i, none⟩ = false := by simp [World.frozen?, h]
theorem two_set {w : World} {g : Nat} {x y : Value} {t : TypeId} (h : w.heap[g]? = some (.cells #[x, y] t (0, 0))) (a b : Value) :
    ((w.setCell ⟨g, 0, none⟩ a).setCell ⟨g, 1, none⟩ b).heap[g]? = some (.cells #[a, b] t (0, 0)) := by
  have hl := heap_lt h
  have hg : w.heap[g] = .cells #[x, y] t (0, 0) := by simpa [Array.getElem?_eq_getElem hl] using h
  simp [World.setCell, Array.getElem?_modify, h]
theorem one_set {w : World} {g : Nat} {x y : Value} {t : TypeId} (h : w.heap[g]? = some (.cells #[x, y] t (0, 0))) (a : Value) :
    (w.setCell ⟨g, 0, none⟩ a).heap[g]? = some (.cells #[a, y] t (0, 0)) := by
  have hl := heap_lt h
  simp [World.setCell, Array.getElem?_modify, h]
theorem grown_set (w : World) (g i : Nat) (a : Value) : w.grownBy (w.setCell ⟨g, i, none⟩ a) (some g) :=
  ⟨rfl, rfl, rfl, by simp [World.setCell], fun k _ hne => Below.heap_setCell _ _ _ _ (fun e => hne (by rw [e]))⟩
theorem grown_trans {a b c : World} {r : Option Nat} (h : a.grownBy b r) (k : b.grownBy c r) : a.grownBy c r :=
  ⟨k.os.trans h.os, k.tape.trans h.tape, k.output.trans h.output, Nat.le_trans h.size k.size, fun i hi hne => (k.block i (Nat.lt_of_lt_of_le hi h.size) hne).trans (h.block i hi hne)⟩
theorem grown_drewN {a b : World} {r : Option Nat} (h : a.grownBy b r) (n : Nat) : a.grownBy (b.drewN n) r := grown_trans h ⟨rfl, rfl, rfl, Nat.le_refl _, fun _ _ _ => rfl⟩
theorem rdB_no {st : Option (List Int)} {n : Int} (h : ¬ (st.isNone = false ∧ 0 ≤ n ∧ n ≤ (st.getD []).length)) : rdB st n = ([], none) := by
  cases st with
  | none => rfl
  | some l => simp only [rdB]; rw [if_neg (fun hh => h ⟨rfl, hh.1, hh.2⟩)]
theorem rdB_yes {l : List Int} {n : Nat} (h : n ≤ l.length) : rdB (some l) n = (l.take n, some (l.drop n)) := by
  simp only [rdB]; rw [if_pos ⟨by omega, by omega⟩, Int.toNat_natCast]
theorem rdB_len (st : Option (List Int)) (n : Int) : ((rdB st n).1.length : Int) ≤ max n 0 := by
  cases st with
  | none => simp [rdB]; omega
  | some l =>
    simp only [rdB]
    split
    · simp only [List.length_take]; omega
    · simp; omega
theorem rdB_ok {st : Option (List Int)} (h : okB (st.getD [])) (n : Int) : okB (rdB st n).1 := by
  cases st with
  | none => intro x hx; cases hx
  | some l =>
    simp only [rdB]
    split
    · exact h.take _
    · intro x hx; cases hx
theorem numBE_snoc (l : List Int) (c : Int) : numBE (l ++ [c]) = numBE l * 256 + c := by simp [numBE]
theorem numBE_bdA : ∀ (l : List Int) (a : Int), okB l → 0 ≤ a → 0 ≤ l.foldl (fun n c => n * 256 + c) a ∧ l.foldl (fun n c => n * 256 + c) a < (a + 1) * 256 ^ l.length
  | [], a, _, h => by simp; omega
  | c :: l, a, ho, h => by
    have h2 := ho c (by simp)
    have ih := numBE_bdA l (a * 256 + c) (fun x hx => ho x (by simp [hx])) (by omega)
    rw [List.foldl_cons, List.length_cons, Int.pow_succ]
    refine ⟨ih.1, Int.lt_of_lt_of_le ih.2 ?_⟩
    rw [Int.mul_comm (256 ^ l.length), ← Int.mul_assoc]
    exact Int.mul_le_mul_of_nonneg_right (by omega) (Int.le_of_lt (Int.pow_pos (by omega)))
theorem numBE_bd (l : List Int) (h : okB l) : 0 ≤ numBE l ∧ numBE l < 256 ^ l.length := by
  have := numBE_bdA l 0 h (by omega)
  rwa [Int.zero_add, Int.one_mul] at this
theorem take_snocI (l : List Int) (i : Nat) (h : i < l.length) : l.take (i + 1) = l.take i ++ [l.getD i 0] := by
  rw [List.take_add_one, List.getElem?_eq_getElem h]
  simp [List.getD, List.getElem?_eq_getElem h]
theorem getD_ok {l : List Int} (h : okB l) {i : Nat} (hi : i < l.length) : 0 ≤ l.getD i 0 ∧ l.getD i 0 ≤ 255 := by
  simp only [List.getD, List.getElem?_eq_getElem hi, Option.getD_some]
  exact h _ (List.getElem_mem hi)
theorem getD_get {l : List Int} {i : Nat} (h : i < l.length) : l.getD i 0 = l[i] := by simp [List.getD, List.getElem?_eq_getElem h]
theorem or_byte (a c : Int) (ha : 0 ≤ a) (ha' : a * 256 < 18446744073709551616) (hc : 0 ≤ c) (hc' : c ≤ 255) : bits .or .u64 (a * 256) (IntKind.u64.wrap c) = a * 256 + c := by
  obtain ⟨A, rfl⟩ := Int.eq_ofNat_of_zero_le ha
  obtain ⟨C, rfl⟩ := Int.eq_ofNat_of_zero_le hc
  rw [IntWalk.u64_in _ ⟨by omega, by omega⟩, u64_or _ _ (by omega) (by omega) (by omega) (by omega), Int.toNat_natCast, show ((A : Int) * 256).toNat = A <<< 8 from by rw [Nat.shiftLeft_eq]; omega,
    ← Nat.shiftLeft_add_eq_or_of_lt (show C < 2 ^ 8 by omega), Nat.shiftLeft_eq]
  omega
theorem pow256 (i : Nat) (h : i ≤ 7) : (256 : Int) ^ i ≤ 72057594037927936 := by
  have h1 : (256 : Nat) ^ i ≤ 256 ^ 7 := Nat.pow_le_pow_right (by omega) h
  have h2 : ((256 ^ i : Nat) : Int) ≤ ((256 ^ 7 : Nat) : Int) := Int.ofNat_le.2 h1
  simpa using h2
theorem Owns.at {w : World} {B : Nat} {v : Value} {xs : List Int} (h : Owns w B v xs) (hx : xs ≠ []) :
    ∃ g cap, v = .slice (some ⟨g, 0, none⟩) xs.length cap ∧ B ≤ g ∧ g < w.heap.size ∧ xs.length ≤ cap ∧ (∀ i, i < xs.length → w.cell? ⟨g, i, none⟩ = some (.int .u8 (xs.getD i 0))) ∧ ∀ i, w.frozen? ⟨g, i, none⟩ = false := by
  have h0 := h
  obtain ⟨_, ⟨rfl, hn⟩ | ⟨g, cap, cur, rfl, hB, hb, hnc, _, _, _⟩⟩ := h
  · exact absurd (List.eq_nil_of_length_eq_zero hn) hx
  · refine ⟨g, cap, rfl, hB, heap_lt hb, hnc, fun i hi => ?_, fun i => World.ownsRow.frozenAt h0 i⟩
    rw [World.ownsRow.cellAt h0 i (by omega), getD_cells hi]
theorem Owns.le {w : World} {B B' : Nat} {v : Value} {xs : List Int} (h : Owns w B v xs) (hb : B' ≤ B) : Owns w B' v xs := ⟨h.1, h.2.imp id fun ⟨a, b, c, d, e, f⟩ => ⟨a, b, c, d, Nat.le_trans hb e, f⟩⟩
theorem Owns.keep {w w' : World} {B : Nat} {v : Value} {xs : List Int} (h : Owns w B v xs) (hb : Below w.heap.size w w') : Owns w' B v xs :=
  ⟨h.1, h.2.imp id fun ⟨g, cap, cur, e, hB, hg, r⟩ => ⟨g, cap, cur, e, hB, (hb.block g (heap_lt hg)).trans hg, r⟩⟩
end Go.Proofs.Ytholgmcfgnifdaa
