/- Rows of anything: what is read of them; append of one to a row of the call's own. -/
import Derived.Test.YtlbgjmnihenmaaaGreatDoorJPk
import Derived.Maps.AppendAt
namespace Go.Proofs.YtlbgjmnihenmaaaGreatDoor
open Go.RowKit Go.Maps
abbrev RowG {α : Type} (E : TypeId) (s : Nat) (enc : α → List Value) (w : World) (B : Nat) (v : Value) (L : List α) : Prop := w.ownsRow B E s v L.length (L.flatMap enc)
def SeesG {α : Type} (s : Nat) (enc : α → List Value) (w : World) (v : Value) (L : List α) : Prop :=
  ∃ (ao : Option Addr) (c : Nat), v = .slice ao L.length c ∧ L.length ≤ c ∧ (ao = none → L = []) ∧ ∀ a, ao = some a → ∀ i p, L[i]? = some p → ∀ j u, (enc p)[j]? = some u → w.cell? ((a.add (i * s)).add j) = some u
theorem flat_atG {α : Type} {s : Nat} {enc : α → List Value} (he : ∀ p, (enc p).length = s) : ∀ (L : List α) (i j : Nat) (f : α), L[i]? = some f → j < s → (L.flatMap enc)[i * s + j]? = (enc f)[j]?
  | [], i, j, f, h, _ => by simp at h
  | a :: L, 0, j, f, h, hj => by
    obtain rfl : a = f := by simpa using h
    rw [List.flatMap_cons, Nat.zero_mul, Nat.zero_add, List.getElem?_append_left (by rw [he]; omega)]
  | a :: L, i + 1, j, f, h, hj => by
    rw [List.flatMap_cons, List.getElem?_append_right (by rw [he, Nat.succ_mul]; omega)]
    have e : (i + 1) * s + j - (enc a).length = i * s + j := by rw [he, Nat.succ_mul]; omega
    rw [e]
    exact flat_atG he L i j f (by simpa using h) hj
theorem RowG.sees {α : Type} {E : TypeId} {s : Nat} {enc : α → List Value} {w : World} {B : Nat} {v : Value} {L : List α} (h : RowG E s enc w B v L) (he : ∀ p, (enc p).length = s) : SeesG s enc w v L := by
  rcases h.2 with ⟨e, h0⟩ | ⟨g, cap, cur, e, _, hb, hn, _⟩
  · have h1 : L = [] := List.eq_nil_of_length_eq_zero h0
    subst h1
    exact ⟨none, 0, e, Nat.le_refl _, (fun _ => rfl), (fun a ha => by cases ha)⟩
  · refine ⟨_, _, e, hn, (fun h => by cases h), fun a ha i f hf j u hu => ?_⟩
    cases ha
    have hj : j < s := by
      have := (List.getElem?_eq_some_iff.1 hu).1
      rwa [he] at this
    have hc := World.ownsRow.cells h (g := g) (by rw [e]; rfl)
    have h0 := hc (i * s + j) u ((flat_atG he L i j f hf hj).trans hu)
    rw [Addr.add_add]
    exact h0
theorem SeesG.keep {α : Type} {s : Nat} {enc : α → List Value} {w w' : World} {v : Value} {L : List α} (h : SeesG s enc w v L) (hb : ∀ d, v.ownBlock = some d → d < w.heap.size → w'.heap[d]? = w.heap[d]?) : SeesG s enc w' v L := by
  obtain ⟨ao, c, rfl, h1, h2, h3⟩ := h
  refine ⟨ao, c, rfl, h1, h2, fun a ha i f hf j u hu => ?_⟩
  have q1 := h3 a ha i f hf j u hu
  subst ha
  have hl : a.block < w.heap.size := by have := cell_lt8 q1; rwa [add_block, add_block] at this
  exact (World.cell?_of_block (by rw [add_block, add_block]; exact hb a.block rfl hl)).trans q1
theorem SeesG.below {α : Type} {s : Nat} {enc : α → List Value} {w w' : World} {v : Value} {L : List α} (h : SeesG s enc w v L) (hb : Below w.heap.size w w') : SeesG s enc w' v L := h.keep (fun d _ hd => hb.block d hd)
theorem SeesG.slice {α : Type} {s : Nat} {enc : α → List Value} {w : World} {v : Value} {L : List α} (h : SeesG s enc w v L) : ∃ ao c, v = .slice ao L.length c := by
  obtain ⟨ao, c, e, -⟩ := h
  exact ⟨ao, c, e⟩
theorem SeesG.at {α : Type} {s : Nat} {enc : α → List Value} {w : World} {ao : Option Addr} {n c : Nat} {L : List α} (h : SeesG s enc w (.slice ao n c) L) {i : Nat} {p : α} (hp : L[i]? = some p) : ∃ a, ao = some a ∧ n = L.length ∧ ∀ j u, (enc p)[j]? = some u → w.cell? ((a.add (i * s)).add j) = some u := by
  obtain ⟨ao', c', e, -, hn, hc⟩ := h
  injection e with e1 e2 e3
  subst e1
  cases ao with
  | none => rw [hn rfl] at hp; simp at hp
  | some a => exact ⟨a, rfl, e2, hc a rfl i p hp⟩
theorem RowG.keep {α : Type} {E : TypeId} {s : Nat} {enc : α → List Value} {w w' : World} {B : Nat} {v : Value} {L : List α} (h : RowG E s enc w B v L) (hk : ∀ d, v.ownBlock = some d → d < w.heap.size → w'.heap[d]? = w.heap[d]?) : RowG E s enc w' B v L :=
  ⟨h.1, h.2.imp id fun ⟨k, cap, cur, e, b', hb, r⟩ => ⟨k, cap, cur, e, b', (hk k (by rw [e]; rfl) (heap_lt hb)).trans hb, r⟩⟩
theorem RowG.below {α : Type} {E : TypeId} {s : Nat} {enc : α → List Value} {w w' : World} {B : Nat} {v : Value} {L : List α} (h : RowG E s enc w B v L) (hb : Below w.heap.size w w') : RowG E s enc w' B v L := h.keep (fun d _ hd => hb.block d hd)
theorem RowG.le {α : Type} {E : TypeId} {s : Nat} {enc : α → List Value} {w : World} {B B' : Nat} {v : Value} {L : List α} (h : RowG E s enc w B v L) (hb : B' ≤ B) : RowG E s enc w B' v L := ⟨h.1, h.2.imp id fun ⟨g, cap, cur, e, b, r⟩ => ⟨g, cap, cur, e, Nat.le_trans hb b, r⟩⟩
theorem RowG.nil {α : Type} (E : TypeId) (s : Nat) (enc : α → List Value) (w : World) (B : Nat) : RowG E s enc w B (.slice none 0 0) [] := World.ownsRow_nil _ _ _ _
theorem RowG.slice {α : Type} {E : TypeId} {s : Nat} {enc : α → List Value} {w : World} {B : Nat} {v : Value} {L : List α} (h : RowG E s enc w B v L) : ∃ ao c, v = .slice ao L.length c := by
  rcases h.2 with ⟨e, h0⟩ | ⟨g, cap, cur, e, _⟩
  · exact ⟨none, 0, by rw [e, h0]⟩
  · exact ⟨_, _, e⟩
theorem RowG.form {α : Type} {E : TypeId} {s : Nat} {enc : α → List Value} {w : World} {B : Nat} {v : Value} {L : List α} (h : RowG E s enc w B v L) : ∀ k, v.ownBlock = some k → B ≤ k ∧ k < w.heap.size := fun k hk => World.ownsRow.lt h k hk
/-- append of one element, alone in the newest block, to a row of the call's own. -/
theorem wpList_pushG {α : Type} {T E : TypeId} {s bytes : Nat} {enc : α → List Value} {z : Value} (hTE : Tryz.prog.underlying T = some (.slice E)) (hI : (Tryz.prog.info? E).map (fun i => (i.zero, i.size, i.bytes)) = some (some z, s, bytes)) (hzs : z.cells.size = s) (hs0 : 0 < s) (hby : bytes ≤ 1000000)
    (he : ∀ p, (enc p).length = s) (h1 : ∀ p, ∀ u ∈ enc p, u.oneCell' = true) {w0 : World} {ops : Array Oper} {rest : List Oper} {o : Oper} {a : Act} {Q : Exit → Act → World → Prop} (hgd : o.guard = none) (sv x : Operand)
    (ho : o.op = .call { callee := .builtin .append, args := #[sv, x], argTypes := #[T, T] }) (B : Nat) (v : Value) (L : List α) (p : α)
    (k : Nat) (hk : k = w0.heap.size) (hs : a.eval sv = v) (hx : a.eval x = .slice (some ⟨k, 0, none⟩) 1 1) (hrow : RowG E s enc w0 B v L) (hlen : L.length ≤ 1000001) (hB : B ≤ w0.heap.size)
    (h : ∀ v' w', RowG E s enc w' B v' (L ++ [p]) → Below B w0 w' → w0.grownBy w' v.ownBlock → (v'.ownBlock = v.ownBlock ∨ v'.ownBlock = some (w0.heap.size + 1)) → wpList Tryz.prog ops Q rest (a.put o.dst v') w') :
    wpList Tryz.prog ops Q (o :: rest) a (w0.alloc (.cells (enc p).toArray E)) := by
  subst hk
  obtain ⟨i0, hi, hz0, hz1, hz2⟩ := info_parts hI
  have hbk := heap_alloc_new w0 (.cells (enc p).toArray E)
  have hlb : (L.length + 1) * bytes ≤ 140737488355328 := by
    have h2 : (L.length + 1) * bytes ≤ 1000002 * 1000000 := Nat.mul_le_mul (by omega) hby
    omega
  refine wpList_append_own_at _ hgd sv x T ho B E i0 z s bytes hTE hi hz0 hz1 hz2 hzs hs0 v _ _ hs (hrow.alloc _) ⟨w0.heap.size, 0, none⟩ 1 1 (enc p) hx (by rw [he, Nat.one_mul]) (fun j y hj => ?_) (h1 p) (by unfold maxLen; omega) hlb (by simp; omega) ?_
  · have e0 : (⟨w0.heap.size, 0, none⟩ : Addr).add j = ⟨w0.heap.size, j, none⟩ := by
      unfold Addr.add
      by_cases h : j = 0
      · rw [h]; rfl
      · simp [h]
    rw [e0]
    unfold World.cell?
    simp only []
    rw [hbk]
    simpa using hj
  · intro v' w' hown' hgrow _ hat
    have hg0 : w0.grownBy w' v.ownBlock := World.grownBy.trans (b := w0.alloc (.cells (enc p).toArray E)) ⟨rfl, rfl, rfl, by simp, fun k hk _ => Below.heap_alloc w0 _ k hk⟩ hgrow
    refine h v' w' ?_ ((Below.refl B w0).grown hg0 hB (fun k hk => (hrow.lt k hk).1)) hg0 (by simpa using hat)
    have e1 : (L ++ [p]).length = L.length + 1 := by simp
    have e2 : (L ++ [p]).flatMap enc = L.flatMap enc ++ enc p := by simp [List.flatMap_append]
    show w'.ownsRow _ _ _ _ _ _
    rw [e1, e2]
    exact hown'
/-- The same in a region that draws. -/
theorem wp_pushG {α : Type} {T E : TypeId} {s bytes : Nat} {enc : α → List Value} {z : Value} (hTE : Tryz.prog.underlying T = some (.slice E)) (hI : (Tryz.prog.info? E).map (fun i => (i.zero, i.size, i.bytes)) = some (some z, s, bytes)) (hzs : z.cells.size = s) (hs0 : 0 < s) (hby : bytes ≤ 1000000)
    (he : ∀ p, (enc p).length = s) (h1 : ∀ p, ∀ u ∈ enc p, u.oneCell' = true) {w0 : World} {o : Oper} {a : Act} {K : Act → World → Prop} {Q : Exit → Act → World → Prop} (sv x : Operand)
    (ho : o.op = .call { callee := .builtin .append, args := #[sv, x], argTypes := #[T, T] }) (B : Nat) (v : Value) (L : List α) (p : α)
    (k : Nat) (hk : k = w0.heap.size) (hs : a.eval sv = v) (hx : a.eval x = .slice (some ⟨k, 0, none⟩) 1 1) (hrow : RowG E s enc w0 B v L) (hlen : L.length ≤ 1000001) (hB : B ≤ w0.heap.size)
    (h : ∀ v' w', RowG E s enc w' B v' (L ++ [p]) → Below B w0 w' → w0.grownBy w' v.ownBlock → (v'.ownBlock = v.ownBlock ∨ v'.ownBlock = some (w0.heap.size + 1)) → K (a.put o.dst v') w') :
    o.wp Tryz.prog a (w0.alloc (.cells (enc p).toArray E)) K Q := by
  subst hk
  obtain ⟨i0, hi, hz0, hz1, hz2⟩ := info_parts hI
  have hbk := heap_alloc_new w0 (.cells (enc p).toArray E)
  have hlb : (L.length + 1) * bytes ≤ 140737488355328 := by
    have h2 : (L.length + 1) * bytes ≤ 1000002 * 1000000 := Nat.mul_le_mul (by omega) hby
    omega
  have hnews : ∀ j y, (enc p)[j]? = some y → (w0.alloc (.cells (enc p).toArray E)).cell? ((⟨w0.heap.size, 0, none⟩ : Addr).add j) = some y := fun j y hj => by
    have e0 : (⟨w0.heap.size, 0, none⟩ : Addr).add j = ⟨w0.heap.size, j, none⟩ := by
      unfold Addr.add
      by_cases h : j = 0
      · rw [h]; rfl
      · simp [h]
    rw [e0]
    unfold World.cell?
    simp only []
    rw [hbk]
    simpa using hj
  obtain ⟨v', w', hr, hown', hgrow, _, hat⟩ := run_append_own_at (P := Tryz.prog) (w0.alloc (.cells (enc p).toArray E)) B T o.type E i0 z s bytes hTE hi hz0 hz1 hz2 hzs hs0 v _ _ (hrow.alloc _) ⟨w0.heap.size, 0, none⟩ 1 1 (enc p) (by rw [he, Nat.one_mul]) hnews (h1 p) (by unfold maxLen; omega) hlb (by simp; omega)
  unfold Oper.wp execOp
  simp only [ho, resolve, invoke, builtin, Sem.run_bind, Sem.run_pure, Result.andThen_ok, List.map_toArray, List.map_cons, List.map_nil, hs, hx, hr]
  have hg0 : w0.grownBy w' v.ownBlock := World.grownBy.trans (b := w0.alloc (.cells (enc p).toArray E)) ⟨rfl, rfl, rfl, by simp, fun k hk _ => Below.heap_alloc w0 _ k hk⟩ hgrow
  refine h v' w' ?_ ((Below.refl B w0).grown hg0 hB (fun k hk => (hrow.lt k hk).1)) hg0 (by simpa using hat)
  have e1 : (L ++ [p]).length = L.length + 1 := by simp
  have e2 : (L ++ [p]).flatMap enc = L.flatMap enc ++ enc p := by simp [List.flatMap_append]
  show w'.ownsRow _ _ _ _ _ _
  rw [e1, e2]
  exact hown'
end Go.Proofs.YtlbgjmnihenmaaaGreatDoor
