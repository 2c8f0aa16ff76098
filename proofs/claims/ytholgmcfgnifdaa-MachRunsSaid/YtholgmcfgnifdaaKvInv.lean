/- What stays so of a state, whatever is asked; items compared; those that begin so. -/
import Derived.Test.YtholgmcfgnifdaaKvNilW
import Derived.Laws.StructEq
namespace Go.Proofs.Ytholgmcfgnifdaa
open Go.RowKit Go.Maps
theorem off1 {W : World} {a : Addr} {v : Value} (h : W.cell? (a.add 1) = some v) : W.cell? { block := a.block, off := a.off + 1 } = some v := h
theorem off2 {W : World} {a : Addr} {v : Value} (h : W.cell? (a.add 2) = some v) : W.cell? { block := a.block, off := a.off + 2 } = some v := h
theorem off3 {W : World} {a : Addr} {v : Value} (h : W.cell? (a.add 3) = some v) : W.cell? { block := a.block, off := a.off + 3 } = some v := h
theorem off4 {W : World} {a : Addr} {v : Value} (h : W.cell? (a.add 4) = some v) : W.cell? { block := a.block, off := a.off + 4 } = some v := h
theorem off5 {W : World} {a : Addr} {v : Value} (h : W.cell? (a.add 5) = some v) : W.cell? { block := a.block, off := a.off + 5 } = some v := h
/-- A state that some n writes at the most have made. -/
def KInv (S : KSt) (n : Nat) : Prop := Rising S.L ∧ 0 ≤ S.rev ∧ S.rev ≤ n ∧ S.L.length ≤ n ∧ ∀ p ∈ S.L, p.2.2 ≤ S.rev
theorem KInv.zero : KInv ⟨0, []⟩ 0 := ⟨List.Pairwise.nil, by decide, by decide, Nat.le_refl _, fun p hp => by cases hp⟩
theorem effOf_rev (o : KOp) (r : Int) : (effOf o r).rev = r := by unfold effOf; split <;> rfl
theorem plan_write {S : KSt} {o : KOp} (h : (planK S o).2.2 = true) : (planK S o).2.1 = effOf o (S.rev + 1) ∧ refuse S o = 0 ∧ o.kind ≠ 1 ∧ o.kind ≠ 2 := by
  unfold planK at h ⊢
  by_cases h1 : o.kind = 1
  · rw [if_pos h1] at h; cases h
  · rw [if_neg h1] at h ⊢
    by_cases h2 : o.kind = 2
    · rw [if_pos h2] at h; cases h
    · rw [if_neg h2] at h ⊢
      by_cases h3 : refuse S o = 0
      · rw [if_pos h3]; exact ⟨rfl, h3, h1, h2⟩
      · rw [if_neg h3] at h; cases h
theorem doK_inv {S : KSt} {n : Nat} (h : KInv S n) (o : KOp) : KInv (doK S o).2 (n + 1) := by
  obtain ⟨h1, h2, h3, h4, h5⟩ := h
  unfold doK
  by_cases hw : (planK S o).2.2 = true
  · simp only [if_pos hw]
    rw [(plan_write hw).1]
    have hrev : (applyK S (effOf o (S.rev + 1))).rev = S.rev + 1 := effOf_rev _ _
    have hlist : Rising (applyK S (effOf o (S.rev + 1))).L ∧ (applyK S (effOf o (S.rev + 1))).L.length ≤ n + 1 ∧ ∀ p ∈ (applyK S (effOf o (S.rev + 1))).L, p.2.2 ≤ S.rev + 1 := by
      unfold applyK
      simp only []
      split
      · exact ⟨h1.del _, Nat.le_succ_of_le (Nat.le_trans (delE_le _ _) h4), fun p hp => by have := h5 p (List.mem_filter.1 hp).1; omega⟩
      · refine ⟨h1.put _ _, Nat.le_trans (putE_len _ _ _) (Nat.succ_le_succ h4), fun p hp => ?_⟩
        unfold putE at hp
        rcases mem_insE.1 hp with rfl | hp
        · show (effOf o (S.rev + 1)).rev ≤ _
          rw [effOf_rev]; exact Int.le_refl _
        · have := h5 p (List.mem_filter.1 hp).1; omega
    refine ⟨hlist.1, by rw [hrev]; omega, by rw [hrev]; omega, hlist.2.1, fun p hp => by rw [hrev]; exact hlist.2.2 p hp⟩
  · simp only [if_neg hw]
    exact ⟨h1, h2, by omega, by omega, h5⟩
theorem doK_inv' {S : KSt} {n m : Nat} (h : KInv S n) (hm : n + 1 ≤ m) (o : KOp) : KInv (doK S o).2 m := by
  obtain ⟨h1, h2, h3, h4, h5⟩ := doK_inv h o
  exact ⟨h1, h2, by omega, by omega, h5⟩
theorem doK_list (S : KSt) (o : KOp) (h : o.kind = 2) : doK S o = (⟨0, S.rev, emp, beginL S.L o.key⟩, S) := by
  unfold doK planK
  rw [if_neg (by omega), if_pos h]
  rfl
theorem eqB (a b : ByteArray) : (a.toList == b.toList) = decide (a = b) := by
  by_cases h : a = b
  · subst h; simp
  · have h2 : ¬ a.toList = b.toList := fun e => h (kl_inj (by rw [ByteArray.toList_eq, ByteArray.toList_eq] at e; exact e))
    simp [h, h2]
/-- Items held against each other. -/
theorem neItem (k1 v1 k2 v2 : ByteArray) (r1 r2 : Int) (w : World) : (binOp .neq 76 (.agg #[.string k1, .string v1, .int .i64 r1]) (.agg #[.string k2, .string v2, .int .i64 r2])).run Try.prog w = .ok (.bool (!(k1.toList == k2.toList && (v1.toList == v2.toList && r1 == r2)))) w := by
  have hS : Try.prog.underlying 76 = some (.struct (Try.prog.fieldsOf 76)) := by kernel_rfl
  have hp : Try.prog.stoodInHeld 76 = false := by kernel_rfl
  have u3 := Try.underlying9
  have a3 := Try.isAgg9
  have z3 := Try.sizeOf9
  have u4 := Try.underlying2
  have a4 := Try.isAgg2
  have z4 := Try.sizeOf2
  rw [run_neq_struct, show (10000 : Nat) = 9999 + 1 from rfl, run_equalIn_agg w 9999 76 _ _ hS hp]
  simp only [Program.fieldsOf, Try.underlying76]
  go_simp
  by_cases h1 : k1.toList = k2.toList <;> by_cases h2 : v1.toList = v2.toList <;> by_cases h3 : r1 = r2 <;> simp [h1, h2, h3]
theorem item_eq {p q : KEnt} : ((⟨p.1.toArray⟩ : ByteArray).toList == (⟨q.1.toArray⟩ : ByteArray).toList && (p.2.1.toList == q.2.1.toList && p.2.2 == q.2.2)) = decide (p = q) := by
  rw [ByteArray.toList_eq, ByteArray.toList_eq, eqB]
  obtain ⟨a, b, c⟩ := p
  obtain ⟨a', b', c'⟩ := q
  simp only []
  by_cases h1 : a = a' <;> by_cases h2 : b = b' <;> by_cases h3 : c = c' <;> simp [h1, h2, h3]
/-- Of those that are let through, the one at its place. -/
theorem filter_at {α : Type} (f : α → Bool) : ∀ (L : List α) (i : Nat) (x : α), L[i]? = some x → f x = true → (L.filter f)[((L.take i).filter f).length]? = some x
  | [], i, x, h, _ => by simp at h
  | a :: L, 0, x, h, hf => by
    obtain rfl : a = x := by simpa using h
    rw [List.filter_cons_of_pos hf]; simp
  | a :: L, i + 1, x, h, hf => by
    have ih := filter_at f L i x (by simpa using h) hf
    rw [List.take_succ_cons]
    by_cases ha : f a = true
    · rw [List.filter_cons_of_pos ha, List.filter_cons_of_pos ha, List.length_cons, List.getElem?_cons_succ]
      exact ih
    · rw [List.filter_cons_of_neg ha, List.filter_cons_of_neg ha]
      exact ih
end Go.Proofs.Ytholgmcfgnifdaa
