/- A row of byte slices as an argument; frames one behind the other; the walk of FrameMany. -/
import Derived.Test.YtkjdfelmjanpcaaDoorFrLaw
import Derived.Test.YtkjdfelmjanpcaaDoorPkOpen
namespace Go.Proofs.YtkjdfelmjanpcaaDoor
open Go.RowKit
/-- A row of the call's own whose slices lie below block B. -/
def RowE (w : World) (B : Nat) (v : Value) (ls : List (List Int)) : Prop :=
  ∃ vs : List Value, vs.length = ls.length ∧ w.ownsRow B 32 1 v ls.length vs ∧ ∀ i, i < ls.length → Sees w (vs.getD i undef) (ls.getD i []) ∧ ∀ d, (vs.getD i undef).ownBlock = some d → d < B
theorem RowE.nil (w : World) (B : Nat) : RowE w B (.slice none 0 0) [] := ⟨[], rfl, World.ownsRow_nil _ _ _ _, fun i hi => by cases hi⟩
theorem RowE.row {w : World} {B : Nat} {v : Value} {ls : List (List Int)} (h : RowE w B v ls) (hB : B ≤ w.heap.size) : RowO w B v ls := by
  obtain ⟨vs, hl, ho, he⟩ := h
  exact ⟨vs, hl, ho, fun i hi => ⟨(he i hi).1, fun d hd => ⟨Nat.lt_of_lt_of_le ((he i hi).2 d hd) hB, fun e => Nat.not_lt.2 (ho.lt d e).1 ((he i hi).2 d hd)⟩⟩⟩
theorem RowE.below {w w' : World} {B : Nat} {v : Value} {ls : List (List Int)} (h : RowE w B v ls) (hb : Below B w w') (hv : ∀ d, v.ownBlock = some d → w'.heap[d]? = w.heap[d]?) : RowE w' B v ls := by
  obtain ⟨vs, hl, ho, he⟩ := h
  refine ⟨vs, hl, ⟨ho.1, ho.2.imp id fun ⟨g, cap, cur, e, hB, hg, r⟩ => ⟨g, cap, cur, e, hB, (hv g (by rw [e]; rfl)).trans hg, r⟩⟩, fun i hi => ⟨sees_heap (he i hi).1 (fun d hd _ => hb.block d ((he i hi).2 d hd)), (he i hi).2⟩⟩
theorem RowE.keep {w w' : World} {B : Nat} {v : Value} {ls : List (List Int)} (h : RowE w B v ls) (hb : Below w.heap.size w w') (hB : B ≤ w.heap.size) : RowE w' B v ls :=
  h.below (hb.mono hB) fun d hd => by
    obtain ⟨vs, hl, ho, he⟩ := h
    exact hb.block d (ho.lt d hd).2
theorem own_row_ne {w : World} {B B' : Nat} {a x : Value} {xs : List Int} {ls : List (List Int)} (h : Owns w B a xs) (h' : RowE w B' x ls) {d : Nat} (ha : a.ownBlock = some d) : x.ownBlock ≠ some d := by
  obtain ⟨vs, hl, ho, he⟩ := h'
  intro hx
  obtain ⟨_, ⟨rfl, _⟩ | ⟨g, cap, cur, rfl, _, hg, _⟩⟩ := h
  · cases ha
  · obtain ⟨_, ⟨rfl, _⟩ | ⟨g', cap', cur', rfl, _, hg', _⟩⟩ := ho
    · cases hx
    · have e1 : g = d := by simpa [Value.ownBlock] using ha
      have e2 : g' = d := by simpa [Value.ownBlock] using hx
      subst e1 e2
      rw [hg] at hg'
      simp at hg'
/-- append of one slice that lies below B to such a row. -/
theorem wpList_pushE {w0 : World} {ops : Array Oper} {rest : List Oper} {o : Oper} {a : Act} {Q : Exit → Act → World → Prop} (hgd : o.guard = none) (s x : Operand)
    (ho : o.op = .call { callee := .builtin .append, args := #[s, x], argTypes := #[49, 49] }) (B : Nat) (v u : Value) (ls : List (List Int)) (p : List Int)
    (hs : a.eval s = v) (hx : a.eval x = .slice (some ⟨w0.heap.size, 0, none⟩) 1 1) (hrow : RowE w0 B v ls) (hu : Sees w0 u p) (hud : ∀ d, u.ownBlock = some d → d < B) (hlen : ls.length ≤ 100000) (hB : B ≤ w0.heap.size)
    (h : ∀ v' w', RowE w' B v' (ls ++ [p]) → w0.grownBy w' v.ownBlock → Below B w0 w' → wpList Tryd.prog ops Q rest (a.put o.dst v') w') :
    wpList Tryd.prog ops Q (o :: rest) a (w0.alloc (.cells #[u] 32)) := by
  obtain ⟨i0, hi, hz0, hz1, hz2⟩ := info_parts info22
  obtain ⟨vs, hl, hown, he⟩ := hrow
  refine wpList_append_own_at _ hgd s x 49 ho B 32 i0 (.slice none 0 0) 1 24 Tryd.underlying49 hi hz0 hz1 hz2 rfl (by decide) v _ vs hs (hown.alloc _) ⟨w0.heap.size, 0, none⟩ 1 1 [u] hx rfl (cell_one_new _ _ _) ?_ (by unfold maxLen; omega) (by omega) (by simp; omega) ?_
  · intro y hy
    obtain rfl := List.mem_singleton.1 hy
    obtain ⟨ao, c, rfl, _⟩ := hu
    rfl
  · intro v' w' hown' hgrow _ hat
    have hg0 : w0.grownBy w' v.ownBlock := World.grownBy.trans (b := w0.alloc (.cells #[u] 32)) ⟨rfl, rfl, rfl, by simp, fun k hk _ => Below.heap_alloc w0 _ k hk⟩ hgrow
    have hbel : Below B w0 w' := (Below.refl B w0).grown hg0 hB (fun k hk => (hown.lt k hk).1)
    have key : ∀ (y : Value) (q : List Int), Sees w0 y q → (∀ d, y.ownBlock = some d → d < B) → Sees w' y q ∧ ∀ d, y.ownBlock = some d → d < B :=
      fun y q hy hyd => ⟨sees_heap hy (fun d hd _ => hbel.block d (hyd d hd)), hyd⟩
    refine h v' w' ⟨vs ++ [u], by simp [hl], by rw [List.length_append]; exact hown', fun i hi' => ?_⟩ hg0 hbel
    by_cases hlt : i < ls.length
    · have e1 : (vs ++ [u]).getD i undef = vs.getD i undef := by simp only [List.getD]; rw [List.getElem?_append_left (by omega)]
      have e2 : (ls ++ [p]).getD i [] = ls.getD i [] := by simp only [List.getD]; rw [List.getElem?_append_left hlt]
      rw [e1, e2]
      exact key _ _ (he i hlt).1 (he i hlt).2
    · obtain rfl : i = ls.length := by rw [List.length_append, List.length_singleton] at hi'; omega
      have e1 : (vs ++ [u]).getD ls.length undef = u := by simp only [List.getD]; rw [← hl, List.getElem?_concat_length]; rfl
      have e2 : (ls ++ [p]).getD ls.length [] = p := by simp only [List.getD]; rw [List.getElem?_concat_length]; rfl
      rw [e1, e2]
      exact key _ _ hu hud
/-- append of bytes that are there to bytes of the call's own, nil or not. -/
theorem wpList_append_bytes {w : World} {ops : Array Oper} {rest : List Oper} {o : Oper} {a : Act} {Q : Exit → Act → World → Prop} (hgd : o.guard = none) (s x : Operand)
    (ho : o.op = .call { callee := .builtin .append, args := #[s, x], argTypes := #[32, 32] }) (B : Nat) (v : Value) (xs t : List Int) (src : Value)
    (hs : a.eval s = v) (hx : a.eval x = src) (hown : Owns w B v xs) (hsee : Sees w src t) (hne : t ≠ []) (hb : xs.length + t.length ≤ 100000000000) (hB : B ≤ w.heap.size)
    (h : ∀ v' w', Owns w' B v' (xs ++ t) → w.grownBy w' v.ownBlock → Below B w w' → wpList Tryd.prog ops Q rest (a.put o.dst v') w') : wpList Tryd.prog ops Q (o :: rest) a w := by
  obtain ⟨i0, hi, hz0, hz1, hz2⟩ := info_parts info8
  obtain ⟨ao, c, rfl, hlc, hnil, hc⟩ := hsee
  obtain ⟨ad, rfl⟩ : ∃ ad, ao = some ad := by
    cases ao with
    | none => exact absurd (hnil rfl) hne
    | some ad => exact ⟨ad, rfl⟩
  refine wpList_append_own w hgd s x 32 ho B 5 i0 (.int .u8 0) 1 1 Tryd.underlying32 hi hz0 hz1 hz2 rfl (by decide) v _ _ hs hown ad t.length c (cells8 t) hx (by simp) (fun j u hj => ?_) (fun u hu => by obtain ⟨z, _, rfl⟩ := List.mem_map.1 hu; rfl) (by unfold maxLen; omega) (by omega) hB ?_
  · have hjl : j < t.length := by
      have := (List.getElem?_eq_some_iff.1 hj).1
      simpa using this
    rw [getD_cells hjl] at hj
    rw [← hj]
    exact hc ad rfl j hjl
  · intro v' w' ho' hg' hn'
    refine h v' w' ?_ hg' ((Below.refl B w).grown hg' hB (fun k hk => (hown.lt k hk).1))
    unfold Owns cells8
    rw [List.length_append, List.map_append]
    exact ho'
/-! Frames one behind the other. -/
def flatF (ps : List (List Int)) : List Int := ps.flatMap frameL
def goodP (ps : List (List Int)) : Prop := ∀ p ∈ ps, okB p ∧ 1 ≤ p.length ∧ p.length ≤ 200
theorem flatF_snoc (ps : List (List Int)) (p : List Int) : flatF (ps ++ [p]) = flatF ps ++ frameL p := by unfold flatF; rw [List.flatMap_append]; simp
theorem goodP_snoc {ps : List (List Int)} {p : List Int} (h : goodP ps) (hp : okB p ∧ 1 ≤ p.length ∧ p.length ≤ 200) : goodP (ps ++ [p]) := fun q hq => by
  rcases List.mem_append.1 hq with hq | hq
  · exact h q hq
  · rw [List.mem_singleton.1 hq]; exact hp
theorem flatF_len : ∀ (ps : List (List Int)), goodP ps → (flatF ps).length ≤ 208 * ps.length
  | [], _ => Nat.zero_le _
  | p :: ps, h => by
    have ih := flatF_len ps (fun q hq => h q (List.mem_cons_of_mem _ hq))
    have h1 := (h p List.mem_cons_self).2.2
    have e : (flatF (p :: ps)).length = (frameL p).length + (flatF ps).length := by unfold flatF; rw [List.flatMap_cons, List.length_append]
    rw [e, frameL_len, List.length_cons]
    omega
theorem flatF_ok : ∀ (ps : List (List Int)), goodP ps → okB (flatF ps)
  | [], _ => fun x hx => by cases hx
  | p :: ps, h => by
    have e : flatF (p :: ps) = frameL p ++ flatF ps := by unfold flatF; rw [List.flatMap_cons]
    rw [e]
    exact okB_append (frameL_ok (h p List.mem_cons_self).1) (flatF_ok ps (fun q hq => h q (List.mem_cons_of_mem _ hq)))
theorem flatF_steps : ∀ (ps : List (List Int)) (t : List Int), goodP ps → Steps ps (flatF ps ++ t) (flatF ps).length
  | [], _, _ => rfl
  | p :: ps, t, h => by
    obtain ⟨h1, h2, h3⟩ := h p List.mem_cons_self
    have e : flatF (p :: ps) = frameL p ++ flatF ps := by unfold flatF; rw [List.flatMap_cons]
    obtain ⟨n1, n2, n3⟩ := next_frame (t := flatF ps ++ t) h1 h2 (by omega)
    rw [e, List.append_assoc]
    refine ⟨n1, n2, (flatF ps).length, ?_, ?_⟩
    · rw [n3, ← frameL_len p, List.drop_left]
      exact flatF_steps ps t (fun q hq => h q (List.mem_cons_of_mem _ hq))
    · rw [n3, List.length_append, frameL_len]
theorem flatF_all (ps : List (List Int)) (h : goodP ps) : AllIs ps (flatF ps) (flatF ps).length 6 := by
  have := flatF_steps ps [] h
  rw [List.append_nil] at this
  refine ⟨this, ?_, by decide⟩
  rw [List.drop_length]
  rfl
end Go.Proofs.YtkjdfelmjanpcaaDoor
