/- The document's state: Apply. -/
import Derived.Test.YtholgmcfgnifdaaKvRef2
namespace Go.Proofs.Ytholgmcfgnifdaa
open Go.RowKit Go.Maps
theorem gtrS (a b : ByteArray) (w : World) : (binOp .gtr 9 (.string a) (.string b)).run Try.prog w = .ok (.bool (bytesBefore (kl b) (kl a))) w := by
  have e1 : a.toList = kl a := by rw [ByteArray.toList_eq]
  have e2 : b.toList = kl b := by rw [ByteArray.toList_eq]
  have h' : (!Op.bytesLess a.toList b.toList && !(a.toList == b.toList)) = bytesBefore (kl b) (kl a) := by rw [← Bool.not_or, leq_not, Bool.not_not, e1, e2]
  rw [← h']
  simp [binOp, Op.stringOp]
/-- Is the effect's item put ahead of one of these? -/
def aheadB (k : List UInt8) (T : List KEnt) : Bool := T.any (fun q => bytesBefore k q.1)
/-- What is there behind these. -/
def appS (k : List UInt8) (u : ByteArray × Int) (gone : Bool) (T : List KEnt) : List KEnt := if (!gone && aheadB k T) = true then insE (k, u) (delE k T) else delE k T
theorem delE_snoc (k : List UInt8) (T : List KEnt) (p : KEnt) : delE k (T ++ [p]) = if p.1 = k then delE k T else delE k T ++ [p] := by
  unfold delE
  rw [List.filter_append]
  by_cases h : p.1 = k
  · rw [if_pos h]; simp [h]
  · rw [if_neg h]; simp [h]
theorem insE_snoc {k : List UInt8} {u : ByteArray × Int} : ∀ {T : List KEnt} {p : KEnt}, (T.any (fun q => bytesBefore k q.1)) = true → insE (k, u) (T ++ [p]) = insE (k, u) T ++ [p]
  | [], p, h => by simp at h
  | a :: T, p, h => by
    rw [List.cons_append, insE, insE]
    by_cases h1 : bytesBefore (k, u).1 a.1 = true
    · rw [if_pos h1, if_pos h1]; rfl
    · rw [if_neg h1, if_neg h1, insE_snoc (by
        rw [List.any_cons] at h
        cases hb : bytesBefore k a.1 with
        | true => exact absurd hb h1
        | false => rw [hb] at h; simpa using h)]
      rfl
theorem aheadB_snoc (k : List UInt8) (T : List KEnt) (p : KEnt) : aheadB k (T ++ [p]) = (aheadB k T || bytesBefore k p.1) := by
  unfold aheadB; rw [List.any_append]; simp
theorem aheadB_del (k : List UInt8) (T : List KEnt) (h : aheadB k T = true) : ((delE k T).any (fun q => bytesBefore k q.1)) = true := by
  unfold aheadB at h
  rw [List.any_eq_true] at h ⊢
  obtain ⟨q, hq, hb⟩ := h
  refine ⟨q, ?_, hb⟩
  unfold delE
  rw [List.mem_filter]
  refine ⟨hq, ?_⟩
  simp
  intro e
  rw [e, WideAt.bytes_irrefl] at hb
  cases hb
theorem before_of {k : List UInt8} {T : List KEnt} (h : aheadB k T = false) : ∀ q ∈ delE k T, bytesBefore q.1 k = true := fun q hq => by
  unfold delE at hq
  rw [List.mem_filter] at hq
  unfold aheadB at h
  rw [List.any_eq_false] at h
  have h1 := h q hq.1
  have h2 : ¬ q.1 = k := by simpa using hq.2
  rcases WideAt.bytes_total q.1 k h2 with h3 | h3
  · exact h3
  · exact absurd h3 h1
/-- A round that puts the effect's item ahead, and the item. -/
theorem app_put {k : List UInt8} {u : ByteArray × Int} {T : List KEnt} {p : KEnt} (hd : aheadB k T = false) (hp : bytesBefore k p.1 = true) : appS k u false (T ++ [p]) = (appS k u false T ++ [(k, u)]) ++ [p] := by
  have hne : ¬ p.1 = k := fun e => by rw [e, WideAt.bytes_irrefl] at hp; cases hp
  unfold appS
  rw [aheadB_snoc, hd, hp, if_pos (by simp), if_neg (by simp), delE_snoc, if_neg hne]
  have h := before_of hd
  generalize delE k T = D at h
  induction D with
  | nil => simp [insE, hp]
  | cons a D ih =>
    have ha := h a List.mem_cons_self
    have hn : ¬ bytesBefore k a.1 = true := fun e => by
      have := WideShapes.bytes_trans _ _ _ ha e
      rw [WideAt.bytes_irrefl] at this
      cases this
    rw [List.cons_append, insE, if_neg hn, ih (fun q hq => h q (List.mem_cons_of_mem _ hq))]
    rfl
/-- A round that leaves it as it is, or lets it be the next one. -/
theorem app_same {k : List UInt8} {u : ByteArray × Int} {gone : Bool} {T : List KEnt} {p : KEnt} (hr : Rising (T ++ [p])) (hc : (!(gone || aheadB k T) && bytesBefore k p.1) = false) :
    appS k u gone (T ++ [p]) = if p.1 = k then appS k u gone T else appS k u gone T ++ [p] := by
  unfold appS
  rw [delE_snoc, aheadB_snoc]
  cases gone with
  | true => simp
  | false =>
    cases ha : aheadB k T with
    | true =>
      have hne : ¬ p.1 = k := fun e => by
        unfold aheadB at ha
        rw [List.any_eq_true] at ha
        obtain ⟨q, hq, hb⟩ := ha
        have h1 := (List.pairwise_append.1 hr).2.2 q hq p (by simp)
        rw [e] at h1
        have h2 := WideShapes.bytes_trans _ _ _ hb h1
        rw [WideAt.bytes_irrefl] at h2
        cases h2
      rw [if_neg hne, if_neg hne, if_pos (by simp), if_pos (by simp)]
      exact insE_snoc (aheadB_del k T ha)
    | false =>
      rw [ha] at hc
      have hb : bytesBefore k p.1 = false := by simpa using hc
      rw [hb]
      simp
theorem app_end {L : List KEnt} {R : Int} {e : KEff} : (applyK ⟨R, L⟩ e).L = if (!(e.gone || aheadB (kl e.key) L)) = true then appS (kl e.key) (e.val, e.rev) e.gone L ++ [(kl e.key, (e.val, e.rev))] else appS (kl e.key) (e.val, e.rev) e.gone L := by
  unfold applyK appS
  cases hg : e.gone with
  | true => simp
  | false =>
    cases ha : aheadB (kl e.key) L with
    | true => simp [putE]
    | false =>
      simp only [Bool.or_false, Bool.not_false, if_true]
      rw [if_neg (by simp), if_neg (by simp)]
      unfold putE
      exact insE_last _ _ (before_of ha)
theorem appS_len (k : List UInt8) (u : ByteArray × Int) (g : Bool) (T : List KEnt) : (appS k u g T).length ≤ T.length + 1 := by
  unfold appS
  split
  · rw [insE_length]; have := delE_le k T; omega
  · have := delE_le k T; omega
theorem row_set {E : TypeId} {w : World} {B r i : Nat} {v x : Value} {L : List KEnt} (h : RowE E w B v L) (hr : r < B) : RowE E (w.setCell ⟨r, i, none⟩ x) B v L := World.ownsRow.kept h (grown_set w r i x) (row_neE h hr)
theorem eff_cells {w : World} {g : Nat} {e : KEff} {t : TypeId} (h : w.heap[g]? = some (.cells #[.string e.key, .string e.val, .int .i64 e.rev, .bool e.gone] t (0, 0))) : w.cell? ⟨g, 0, none⟩ = some (.string e.key) ∧ w.cell? ⟨g, 1, none⟩ = some (.string e.val) ∧ w.cell? ⟨g, 2, none⟩ = some (.int .i64 e.rev) ∧ w.cell? ⟨g, 3, none⟩ = some (.bool e.gone) := by simp [World.cell?, h]
end Go.Proofs.Ytholgmcfgnifdaa
