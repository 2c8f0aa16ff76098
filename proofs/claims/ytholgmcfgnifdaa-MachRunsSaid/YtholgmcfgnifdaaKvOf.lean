/- Package kv: mayStand, Of. -/
import Derived.Test.YtholgmcfgnifdaaKvDo
namespace Go.Proofs.Ytholgmcfgnifdaa
open Go.RowKit Go.Maps
/-- May an item stand behind that key, in a state of that revision? -/
def itOkB (R : Int) (ahead : List UInt8) (p : KEnt) : Bool := mayK ⟨p.1.toArray⟩ && (mayV p.2.1 && (bytesBefore ahead p.1 && (decide (1 ≤ p.2.2) && decide (p.2.2 ≤ R))))
def standB (R : Int) : List UInt8 → List KEnt → Bool
  | _, [] => true
  | a, p :: r => itOkB R a p && standB R p.1 r
def ofB (R : Int) (L : List KEnt) : Bool := decide (0 ≤ R) && standB R [] L
theorem standB_append (R : Int) : ∀ (a : List UInt8) (T : List KEnt) (p : KEnt), standB R a (T ++ [p]) = (standB R a T && itOkB R ((T.getLast?.map (·.1)).getD a) p)
  | a, [], p => by simp [standB]
  | a, q :: T, p => by
    rw [List.cons_append, standB, standB_append R q.1 T p, standB, Bool.and_assoc]
    congr 2
    cases T with
    | nil => rfl
    | cons r T =>
      rw [List.getLast?_cons_cons]
      cases hx : (r :: T).getLast? with
      | none => simp at hx
      | some x => rfl
theorem standB_take {R : Int} : ∀ {a : List UInt8} {L : List KEnt} (_ : standB R a L = true) (i : Nat), standB R a (L.take i) = true
  | _, [], _, i => by simp [standB]
  | _, _ :: _, _, 0 => rfl
  | a, p :: L, h, i + 1 => by
    rw [standB, Bool.and_eq_true] at h
    rw [List.take_succ_cons, standB, Bool.and_eq_true]
    exact ⟨h.1, standB_take h.2 i⟩
theorem less_before : ∀ a b : List UInt8, Op.bytesLess a b = bytesBefore a b
  | [], [] => rfl
  | [], _ :: _ => rfl
  | _ :: _, [] => rfl
  | a :: r, b :: s => by unfold Op.bytesLess bytesBefore; rw [less_before r s]
theorem leq_not (a b : List UInt8) : (Op.bytesLess a b || (a == b)) = !(bytesBefore b a) := by
  rw [less_before]
  by_cases e : a = b
  · subst e
    simp [WideAt.bytes_irrefl]
  · have e2 : (a == b) = false := by simpa using e
    rw [e2, Bool.or_false]
    cases h1 : bytesBefore a b with
    | true =>
      cases h2 : bytesBefore b a with
      | true =>
        have h3 := WideShapes.bytes_trans a b a h1 h2
        rw [WideAt.bytes_irrefl] at h3
        cases h3
      | false => rfl
    | false =>
      rcases WideAt.bytes_total a b e with h2 | h2
      · rw [h1] at h2; cases h2
      · rw [h2]; rfl
theorem leqS (a b : ByteArray) (w : World) : (binOp .leq 9 (.string a) (.string b)).run Try.prog w = .ok (.bool (!bytesBefore (kl b) (kl a))) w := by
  have h := leq_not a.toList b.toList
  rw [ByteArray.toList_eq, ByteArray.toList_eq] at h
  have e1 : a.toList = kl a := by rw [ByteArray.toList_eq]
  have e2 : b.toList = kl b := by rw [ByteArray.toList_eq]
  have h' : (Op.bytesLess a.toList b.toList || (a.toList == b.toList)) = !(bytesBefore (kl b) (kl a)) := by rw [e1, e2]; exact h
  rw [← h']
  simp [binOp, Op.stringOp]
theorem ofs1 {W : World} {a : Addr} {v : Value} (h : W.cell? (a.add 1) = some v) : W.cell? { block := a.block, off := a.off + 1 } = some v := h
theorem ofs2 {W : World} {a : Addr} {v : Value} (h : W.cell? (a.add 2) = some v) : W.cell? { block := a.block, off := a.off + 2 } = some v := h
def lastK (T : List KEnt) : List UInt8 := (T.getLast?.map (·.1)).getD []
theorem take_snocK {L : List KEnt} {i : Nat} (h : i < L.length) : L.take (i + 1) = L.take i ++ [L[i]] := by rw [List.take_add_one, List.getElem?_eq_getElem h]; rfl
theorem lastK_snoc (T : List KEnt) (p : KEnt) : lastK (T ++ [p]) = p.1 := by unfold lastK; simp
theorem standB_all {R : Int} : ∀ {a : List UInt8} {L : List KEnt}, standB R a L = true → Rising L ∧ (∀ p ∈ L, bytesBefore a p.1 = true) ∧ ∀ p ∈ L, mayK ⟨p.1.toArray⟩ = true ∧ mayV p.2.1 = true ∧ 1 ≤ p.2.2 ∧ p.2.2 ≤ R
  | _, [], _ => ⟨List.Pairwise.nil, (fun p hp => by cases hp), (fun p hp => by cases hp)⟩
  | a, p :: L, h => by
    rw [standB, Bool.and_eq_true] at h
    obtain ⟨h1, h2⟩ := h
    obtain ⟨r1, r2, r3⟩ := standB_all h2
    unfold itOkB at h1
    simp only [Bool.and_eq_true, decide_eq_true_eq] at h1
    refine ⟨List.pairwise_cons.2 ⟨r2, r1⟩, fun q hq => ?_, fun q hq => ?_⟩
    · rcases List.mem_cons.1 hq with rfl | hq
      · exact h1.2.2.1
      · exact WideShapes.bytes_trans _ _ _ h1.2.2.1 (r2 q hq)
    · rcases List.mem_cons.1 hq with rfl | hq
      · exact ⟨h1.1, h1.2.1, h1.2.2.2.1, h1.2.2.2.2⟩
      · exact r3 q hq
theorem insE_last {β : Type} (x : List UInt8 × β) : ∀ T : List (List UInt8 × β), (∀ q ∈ T, bytesBefore q.1 x.1 = true) → insE x T = T ++ [x]
  | [], _ => rfl
  | a :: T, h => by
    have ha := h a List.mem_cons_self
    have hn : ¬ bytesBefore x.1 a.1 = true := fun e => by
      have := WideShapes.bytes_trans _ _ _ ha e
      rw [WideAt.bytes_irrefl] at this; cases this
    rw [insE, if_neg hn, insE_last x T (fun q hq => h q (List.mem_cons_of_mem _ hq))]
    rfl
theorem putE_last {β : Type} (k : List UInt8) (u : β) (T : List (List UInt8 × β)) (h : ∀ q ∈ T, bytesBefore q.1 k = true) : putE k u T = T ++ [(k, u)] := by
  have hd : delE k T = T := by
    unfold delE
    rw [List.filter_eq_self]
    intro q hq
    have hb := h q hq
    have : q.1 ≠ k := fun e => by rw [e, WideAt.bytes_irrefl] at hb; cases hb
    simp [this]
  unfold putE
  rw [hd]
  exact insE_last (k, u) T h
theorem mkMapN (w : World) (n : Int) : (Instr.makeMap 77 (some (.int .i64 n))).run Try.prog w = .ok (.map (some w.heap.size)) (w.alloc (.map #[] 0)) := by
  have u := Try.underlying77
  simp [Instr.makeMap, run_underlying u]
  rfl
end Go.Proofs.Ytholgmcfgnifdaa
