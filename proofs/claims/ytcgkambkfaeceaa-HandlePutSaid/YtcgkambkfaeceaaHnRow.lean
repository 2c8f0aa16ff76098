/- Package handle: rows of counts: what is read of them; append of one to a row of the call's own. -/
import Derived.Test.YtcgkambkfaeceaaPkP
import Derived.Test.YtcgkambkfaeceaaRcNet
import Derived.Maps.AppendAt
namespace Go.Proofs.Ytcgkambkfaeceaa
open Go.RowKit
theorem add0 (g n : Nat) : (⟨g, 0, none⟩ : Addr).add n = ⟨g, n, none⟩ := by
  unfold Addr.add
  by_cases h : n = 0
  · subst h; rfl
  · simp [h]
abbrev encC (p : Int × Int) : List Value := [.int .u32 p.1, .int .i64 p.2]
def zeroC : Value := .agg #[.int .u32 0, .int .i64 0]
theorem flat_atC : ∀ (L : List (Int × Int)) (i j : Nat) (f : Int × Int), L[i]? = some f → j < 2 → (L.flatMap encC)[i * 2 + j]? = (encC f)[j]?
  | [], i, j, f, h, _ => by simp at h
  | a :: L, 0, j, f, h, hj => by
    obtain rfl : a = f := by simpa using h
    rw [List.flatMap_cons, Nat.zero_mul, Nat.zero_add, List.getElem?_append_left (by simp; omega)]
  | a :: L, i + 1, j, f, h, hj => by
    rw [List.flatMap_cons, List.getElem?_append_right (by simp; omega)]
    have e : (i + 1) * 2 + j - (encC a).length = i * 2 + j := by simp; omega
    rw [e]
    exact flat_atC L i j f (by simpa using h) hj
theorem flat_lenC (L : List (Int × Int)) : (L.flatMap encC).length = L.length * 2 := by
  induction L with
  | nil => rfl
  | cons a L ih => rw [List.flatMap_cons, List.length_append, ih]; simp; omega
theorem flat_oneC (L : List (Int × Int)) : ∀ u ∈ L.flatMap encC, u.oneCell' = true := by
  intro u hu
  obtain ⟨p, _, hp⟩ := List.mem_flatMap.1 hu
  simp only [List.mem_cons, List.not_mem_nil, or_false] at hp
  rcases hp with rfl | rfl <;> rfl
/-- What is read of a row of counts. -/
def SeesC (w : World) (v : Value) (L : List (Int × Int)) : Prop :=
  ∃ (ao : Option Addr) (c : Nat), v = .slice ao L.length c ∧ L.length ≤ c ∧ (ao = none → L = []) ∧ ∀ a, ao = some a → ∀ i p, L[i]? = some p →
    w.cell? (a.add (i * 2)) = some (.int .u32 p.1) ∧ w.cell? ((a.add (i * 2)).add 1) = some (.int .i64 p.2)
abbrev RowE (E : TypeId) (w : World) (B : Nat) (v : Value) (L : List (Int × Int)) : Prop := w.ownsRow B E 2 v L.length (L.flatMap encC)
theorem RowE.sees {E : TypeId} {w : World} {B : Nat} {v : Value} {L : List (Int × Int)} (h : RowE E w B v L) : SeesC w v L := by
  rcases h.2 with ⟨e, h0⟩ | ⟨g, cap, cur, e, _, hb, hn, _⟩
  · have h1 : L = [] := List.eq_nil_of_length_eq_zero h0
    subst h1
    exact ⟨none, 0, e, Nat.le_refl _, (fun _ => rfl), (fun a ha => by cases ha)⟩
  · refine ⟨_, _, e, hn, (fun h => by cases h), fun a ha i f hf => ?_⟩
    cases ha
    have hc := World.ownsRow.cells h (g := g) (by rw [e]; rfl)
    have h0 := hc (i * 2 + 0) _ ((flat_atC L i 0 f hf (by omega)).trans rfl)
    have h1 := hc (i * 2 + 1) _ ((flat_atC L i 1 f hf (by omega)).trans rfl)
    rw [Addr.add_add]
    exact ⟨h0, h1⟩
theorem SeesC.keep {w w' : World} {v : Value} {L : List (Int × Int)} (h : SeesC w v L) (hb : ∀ d, v.ownBlock = some d → d < w.heap.size → w'.heap[d]? = w.heap[d]?) : SeesC w' v L := by
  obtain ⟨ao, c, rfl, h1, h2, h3⟩ := h
  refine ⟨ao, c, rfl, h1, h2, fun a ha i f hf => ?_⟩
  obtain ⟨q1, q2⟩ := h3 a ha i f hf
  subst ha
  have hl : a.block < w.heap.size := by have := cell_lt8 q1; rwa [add_block] at this
  have e := hb a.block rfl hl
  exact ⟨(World.cell?_of_block (by rw [add_block]; exact e)).trans q1, (World.cell?_of_block (by rw [add_block, add_block]; exact e)).trans q2⟩
theorem SeesC.below {w w' : World} {v : Value} {L : List (Int × Int)} (h : SeesC w v L) (hb : Below w.heap.size w w') : SeesC w' v L := h.keep (fun d _ hd => hb.block d hd)
theorem SeesC.nil (w : World) : SeesC w (.slice none 0 0) [] := ⟨none, 0, rfl, Nat.le_refl _, fun _ => rfl, fun _ h => by cases h⟩
theorem row_leE {E : TypeId} {w : World} {B B' : Nat} {v : Value} {L : List (Int × Int)} (h : RowE E w B v L) (hb : B' ≤ B) : RowE E w B' v L := ⟨h.1, h.2.imp id fun ⟨g, cap, cur, e, b, r⟩ => ⟨g, cap, cur, e, Nat.le_trans hb b, r⟩⟩
theorem row_keep {E : TypeId} {w w' : World} {B : Nat} {v : Value} {L : List (Int × Int)} (h : RowE E w B v L) (hb : Below w.heap.size w w') : RowE E w' B v L :=
  ⟨h.1, h.2.imp id fun ⟨g, cap, cur, e, b, hg, r⟩ => ⟨g, cap, cur, e, b, (hb.block g (heap_lt hg)).trans hg, r⟩⟩
theorem infoC : (Try.prog.info? 50).map (fun i => (i.zero, i.size, i.bytes)) = some (some zeroC, 2, 16) := by kernel_rfl
theorem infoR : (Try.prog.info? 49).map (fun i => (i.zero, i.size, i.bytes)) = some (some zeroC, 2, 16) := by kernel_rfl
theorem ccells {w : World} {g : Nat} {x y : Value} {t : TypeId} {fr : Nat × Nat} (h : w.heap[g]? = some (.cells #[x, y] t fr)) : w.cell? ⟨g, 0, none⟩ = some x ∧ w.cell? ⟨g, 1, none⟩ = some y := by simp [World.cell?, h]
theorem bcell {w W : World} {a : Addr} {v : Value} (hb : Below w.heap.size w W) (h : w.cell? a = some v) : W.cell? a = some v := (hb.cell (cell_lt8 h)).trans h
theorem ofs1 {w : World} {a : Addr} {i : Nat} {v : Value} (h : w.cell? ((a.add i).add 1) = some v) : w.cell? { block := (a.add i).block, off := (a.add i).off + 1 } = some v := by
  have e : ({ block := (a.add i).block, off := (a.add i).off + 1 } : Addr) = (a.add i).add 1 := by
    unfold Addr.add
    simp
  rw [e]; exact h
abbrev cntO (p : Int × Int) (t : TypeId) : Obj := .cells #[.int .u32 p.1, .int .i64 p.2] t
/-- append of one count to a row of the call's own. -/
theorem wpList_push {T E : TypeId} (hTE : Try.prog.underlying T = some (.slice E)) (hI : (Try.prog.info? E).map (fun i => (i.zero, i.size, i.bytes)) = some (some zeroC, 2, 16)) {w0 : World} {ops : Array Oper} {rest : List Oper} {o : Oper} {a : Act} {Q : Exit → Act → World → Prop} (hgd : o.guard = none) (s x : Operand)
    (ho : o.op = .call { callee := .builtin .append, args := #[s, x], argTypes := #[T, T] }) (B : Nat) (v : Value) (L : List (Int × Int)) (u : Int × Int)
    (k : Nat) (hk : k = w0.heap.size) (hs : a.eval s = v) (hx : a.eval x = .slice (some ⟨k, 0, none⟩) 1 1) (hrow : RowE E w0 B v L) (hlen : L.length ≤ 1000001) (hB : B ≤ w0.heap.size)
    (h : ∀ v' w', RowE E w' B v' (L ++ [u]) → Below B w0 w' → w0.grownBy w' v.ownBlock → wpList Try.prog ops Q rest (a.put o.dst v') w') :
    wpList Try.prog ops Q (o :: rest) a (w0.alloc (cntO u E)) := by
  subst hk
  obtain ⟨i0, hi, hz0, hz1, hz2⟩ := info_parts hI
  have hbk : (w0.alloc (cntO u E)).heap[w0.heap.size]? = some (cntO u E) := heap_alloc_new w0 _
  refine wpList_append_own _ hgd s x T ho B E i0 zeroC 2 16 hTE hi hz0 hz1 hz2 rfl (by decide) v _ _ hs (hrow.alloc _) ⟨w0.heap.size, 0, none⟩ 1 1 [.int .u32 u.1, .int .i64 u.2] hx rfl (fun j y hj => ?_) ?_ (by unfold maxLen; omega) (by omega) (by simp; omega) ?_
  · rw [add0]
    rcases j with _ | _ | j
    · obtain rfl : Value.int .u32 u.1 = y := by simpa using hj
      exact (ccells hbk).1
    · obtain rfl : Value.int .i64 u.2 = y := by simpa using hj
      exact (ccells hbk).2
    · simp at hj
  · intro y hy
    simp only [List.mem_cons, List.not_mem_nil, or_false] at hy
    rcases hy with rfl | rfl <;> rfl
  · intro v' w' hown' hgrow _
    have hg0 : w0.grownBy w' v.ownBlock := World.grownBy.trans (b := w0.alloc (cntO u E)) ⟨rfl, rfl, rfl, by simp, fun k hk _ => Below.heap_alloc w0 _ k hk⟩ hgrow
    refine h v' w' ?_ ((Below.refl B w0).grown hg0 hB (fun k hk => (hrow.lt k hk).1)) hg0
    have e1 : (L ++ [u]).length = L.length + 1 := by simp
    have e2 : (L ++ [u]).flatMap encC = L.flatMap encC ++ [.int .u32 u.1, .int .i64 u.2] := by simp [List.flatMap_append]
    show w'.ownsRow _ _ _ _ _ _
    rw [e1, e2]
    exact hown'
end Go.Proofs.Ytcgkambkfaeceaa
