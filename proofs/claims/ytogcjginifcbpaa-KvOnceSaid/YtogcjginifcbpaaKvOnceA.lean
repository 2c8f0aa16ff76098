/- The walk of KvOnce. Made by g_kvonce.py. -/
import Derived.Test.YtogcjginifcbpaaKvInv
namespace Go.Proofs.Ytogcjginifcbpaa
open Go.RowKit Go.Maps
abbrev UEnt := ByteArray × Int
abbrev encU (d : UEnt) : List Value := [.string d.1, .int .i64 d.2]
/-- A row of keys and revisions of the law's own. -/
abbrev RowU (w : World) (B : Nat) (v : Value) (D : List UEnt) : Prop := w.ownsRow B 66 2 v D.length (D.flatMap encU)
def zeroU : Value := .agg #[.string ⟨#[]⟩, .int .i64 0]
theorem infoU : (Try.prog.info? 66).map (fun i => (i.zero, i.size, i.bytes)) = some (some zeroU, 2, 24) := by kernel_rfl
theorem flat_atU : ∀ (L : List UEnt) (i j : Nat) (f : UEnt), L[i]? = some f → j < 2 → (L.flatMap encU)[i * 2 + j]? = (encU f)[j]?
  | [], i, j, f, h, _ => by simp at h
  | a :: L, 0, j, f, h, hj => by
    obtain rfl : a = f := by simpa using h
    rw [List.flatMap_cons, Nat.zero_mul, Nat.zero_add, List.getElem?_append_left (by simp; omega)]
  | a :: L, i + 1, j, f, h, hj => by
    rw [List.flatMap_cons, List.getElem?_append_right (by simp; omega)]
    have e : (i + 1) * 2 + j - (encU a).length = i * 2 + j := by simp; omega
    rw [e]
    exact flat_atU L i j f (by simpa using h) hj
def SeesU9 (w : World) (v : Value) (D : List UEnt) : Prop :=
  ∃ (ao : Option Addr) (c : Nat), v = .slice ao D.length c ∧ D.length ≤ c ∧ (ao = none → D = []) ∧ ∀ a, ao = some a → ∀ i p, D[i]? = some p → w.cell? (a.add (i * 2)) = some (.string p.1) ∧ w.cell? ((a.add (i * 2)).add 1) = some (.int .i64 p.2)
theorem RowU.sees {w : World} {B : Nat} {v : Value} {D : List UEnt} (h : RowU w B v D) : SeesU9 w v D := by
  rcases h.2 with ⟨e, h0⟩ | ⟨g, cap, cur, e, _, hb, hn, _⟩
  · have h1 : D = [] := List.eq_nil_of_length_eq_zero h0
    subst h1
    exact ⟨none, 0, e, Nat.le_refl _, (fun _ => rfl), (fun a ha => by cases ha)⟩
  · refine ⟨_, _, e, hn, (fun h => by cases h), fun a ha i f hf => ?_⟩
    cases ha
    have hc := World.ownsRow.cells h (g := g) (by rw [e]; rfl)
    have h0 := hc (i * 2 + 0) _ ((flat_atU D i 0 f hf (by omega)).trans rfl)
    have h1 := hc (i * 2 + 1) _ ((flat_atU D i 1 f hf (by omega)).trans rfl)
    rw [Addr.add_add]
    exact ⟨h0, h1⟩
theorem wpList_pushU {w0 : World} {ops : Array Oper} {rest : List Oper} {o : Oper} {a : Act} {Q : Exit → Act → World → Prop} (hgd : o.guard = none) (s x : Operand)
    (ho : o.op = .call { callee := .builtin .append, args := #[s, x], argTypes := #[64, 64] }) (B : Nat) (v : Value) (D : List UEnt) (u : UEnt)
    (k : Nat) (hk : k = w0.heap.size) (hs : a.eval s = v) (hx : a.eval x = .slice (some ⟨k, 0, none⟩) 1 1) (hrow : RowU w0 B v D) (hlen : D.length ≤ 1000001) (hB : B ≤ w0.heap.size)
    (h : ∀ v' w', RowU w' B v' (D ++ [u]) → Below B w0 w' → w0.grownBy w' v.ownBlock → wpList Try.prog ops Q rest (a.put o.dst v') w') :
    wpList Try.prog ops Q (o :: rest) a (w0.alloc (.cells #[.string u.1, .int .i64 u.2] 66)) := by
  subst hk
  obtain ⟨i0, hi, hz0, hz1, hz2⟩ := info_parts infoU
  have hbk := heap_alloc_new w0 (.cells #[.string u.1, .int .i64 u.2] 66)
  refine wpList_append_own _ hgd s x 64 ho B 66 i0 zeroU 2 24 Try.underlying64 hi hz0 hz1 hz2 rfl (by decide) v _ _ hs (hrow.alloc _) ⟨w0.heap.size, 0, none⟩ 1 1 [.string u.1, .int .i64 u.2] hx rfl (fun j y hj => ?_) ?_ (by unfold maxLen; omega) (by omega) (by simp; omega) ?_
  · rw [add0]
    rcases j with _ | _ | j
    · obtain rfl : Value.string u.1 = y := by simpa using hj
      exact cell0 hbk
    · obtain rfl : Value.int .i64 u.2 = y := by simpa using hj
      exact cell1 hbk
    · simp at hj
  · intro y hy
    simp only [List.mem_cons, List.not_mem_nil, or_false] at hy
    rcases hy with rfl | rfl <;> rfl
  · intro v' w' hown' hgrow _
    have hg0 : w0.grownBy w' v.ownBlock := World.grownBy.trans (b := w0.alloc (.cells #[.string u.1, .int .i64 u.2] 66)) ⟨rfl, rfl, rfl, by simp, fun k hk _ => Below.heap_alloc w0 _ k hk⟩ hgrow
    refine h v' w' ?_ ((Below.refl B w0).grown hg0 hB (fun k hk => (hrow.lt k hk).1)) hg0
    have e1 : (D ++ [u]).length = D.length + 1 := by simp
    have e2 : (D ++ [u]).flatMap encU = D.flatMap encU ++ [.string u.1, .int .i64 u.2] := by simp [List.flatMap_append]
    show w'.ownsRow _ _ _ _ _ _
    rw [e1, e2]
    exact hown'
/-- A state's own blocks, no more of them than there are. -/
theorem KvAt.tight {w : World} {g : Nat} {P : Nat → Prop} {S : KSt} (h : KvAt w g P S) : ∃ P', KvAt w g P' S ∧ (∀ i, P' i → P i) ∧ ∀ i, P' i → ∀ cur f, w.heap[i]? ≠ some (.cells cur 66 f) := by
  obtain ⟨mb, h1, h2, h3, h4, h5⟩ := h
  refine ⟨fun i => i = g ∨ mb = some i, ⟨mb, h1, fun b e => ⟨(h2 b e).1, Or.inr e⟩, h3, Or.inl rfl, fun i hi => ?_⟩, fun i hi => ?_, fun i hi cur f hc => ?_⟩
  · rcases hi with rfl | e
    · exact h5 _ h4
    · exact h5 _ (h2 i e).2
  · rcases hi with rfl | e
    · exact h4
    · exact (h2 i e).2
  · rcases hi with rfl | e
    · rw [h1] at hc
      injection hc with e1
      injection e1 with _ e2
      exact absurd e2 (by decide)
    · exact (h2 i e).1.ne hc rfl
theorem KvW.tight {w0 w : World} {g : Nat} {P : Nat → Prop} {S : KSt} (h : KvW w0 w g P S) : ∃ P', KvW w0 w g P' S ∧ ∀ i, P' i → ∀ cur f, w.heap[i]? ≠ some (.cells cur 66 f) := by
  obtain ⟨P', h1, h2, h3⟩ := h.1.tight
  exact ⟨P', ⟨h1, fun i hi => h.2.1 i (h2 i hi), h.2.2⟩, h3⟩
theorem RowU.free {w : World} {B : Nat} {v : Value} {D : List UEnt} (h : RowU w B v D) {P : Nat → Prop} (hP : ∀ i, P i → ∀ cur f, w.heap[i]? ≠ some (.cells cur 66 f)) : ∀ d, v.ownBlock = some d → ¬ P d := by
  intro d hd hp
  rcases h.2 with ⟨rfl, _⟩ | ⟨k, cap, cur, rfl, _, hk, _⟩
  · cases hd
  · have e : k = d := Option.some.inj hd
    subst e
    exact hP _ hp _ _ hk
theorem RowU.keep {w w' : World} {B : Nat} {v : Value} {D : List UEnt} (h : RowU w B v D) (hk : ∀ d, v.ownBlock = some d → d < w.heap.size → w'.heap[d]? = w.heap[d]?) : RowU w' B v D :=
  ⟨h.1, h.2.imp id fun ⟨k, cap, cur, e, b', hb, r⟩ => ⟨k, cap, cur, e, b', (hk k (by rw [e]; rfl) (heap_lt hb)).trans hb, r⟩⟩
theorem eqUsed (k1 k2 : ByteArray) (r1 r2 : Int) (w : World) : (binOp .eql 66 (.agg #[.string k1, .int .i64 r1]) (.agg #[.string k2, .int .i64 r2])).run Try.prog w = .ok (.bool (k1.toList == k2.toList && r1 == r2)) w := by
  have hS : Try.prog.underlying 66 = some (.struct (Try.prog.fieldsOf 66)) := by kernel_rfl
  have hp : Try.prog.stoodInHeld 66 = false := by kernel_rfl
  have u3 := Try.underlying9
  have a3 := Try.isAgg9
  have z3 := Try.sizeOf9
  have u4 := Try.underlying2
  have a4 := Try.isAgg2
  have z4 := Try.sizeOf2
  rw [run_eql_struct, show (10000 : Nat) = 9999 + 1 from rfl, run_equalIn_agg w 9999 66 _ _ hS hp]
  simp only [Program.fieldsOf, Try.underlying66]
  go_simp
  by_cases h1 : k1.toList = k2.toList <;> by_cases h3 : r1 = r2 <;> simp [h1, h3]
/-- No write that is done with one of these revisions of its key can be done again. -/
def UInv (S : KSt) (D : List UEnt) : Prop := ∀ d ∈ D, d.2 ≤ S.rev ∧ ∀ u, getE S.L (kl d.1) = some u → d.2 < u.2
def wr5 (o : KOp) : Bool := decide (3 ≤ o.kind) && decide (o.kind ≤ 5)
theorem doK_same {S : KSt} {o : KOp} (h : wr5 o = false ∨ (doK S o).1.code ≠ 0) : (doK S o).2 = S := by
  unfold doK at h ⊢
  simp only [] at h ⊢
  by_cases hw : (planK S o).2.2 = true
  · exfalso
    obtain ⟨_, h0, h1, h2⟩ := plan_write hw
    have hm := (refuse_zero h0).1
    have hcode : (planK S o).1.code = 0 := by unfold planK; rw [if_neg h1, if_neg h2, if_pos h0]
    rcases h with h | h
    · unfold mayW at hm
      unfold wr5 at h
      by_cases h34 : o.kind = 3 ∨ o.kind = 4
      · rcases h34 with e | e <;> rw [e] at h <;> simp at h
      · rw [if_neg h34] at hm
        by_cases h5 : o.kind = 5
        · rw [h5] at h; simp at h
        · rw [if_neg h5] at hm; cases hm
    · exact h hcode
  · rw [if_neg hw]
theorem getE_ins {β : Type} (k k' : List UInt8) (u : β) : ∀ L : List (List UInt8 × β), (∀ p ∈ L, p.1 ≠ k) → getE (insE (k, u) L) k' = if k' = k then some u else getE L k'
  | [], _ => by
    unfold insE getE
    by_cases e : k' = k
    · subst e; simp
    · rw [if_neg e]; simp [Ne.symm e]
  | a :: L, hno => by
    have ih := getE_ins k k' u L (fun p hp => hno p (List.mem_cons_of_mem _ hp))
    have hak : a.1 ≠ k := hno a List.mem_cons_self
    rw [insE]
    split
    · unfold getE
      rw [List.find?_cons]
      by_cases e : k' = k
      · subst e; simp
      · rw [if_neg e, show ((k, u).1 == k') = false from by simpa using Ne.symm e]
    · unfold getE at ih ⊢
      rw [List.find?_cons, List.find?_cons]
      by_cases e2 : a.1 = k'
      · rw [show (a.1 == k') = true from by simpa using e2, if_neg (by rw [← e2]; exact hak)]
      · rw [show (a.1 == k') = false from by simpa using e2]
        exact ih
theorem getE_del {β : Type} (k k' : List UInt8) : ∀ L : List (List UInt8 × β), getE (delE k L) k' = if k' = k then none else getE L k'
  | [] => by unfold delE getE; simp
  | a :: L => by
    have ih := getE_del k k' L
    unfold delE getE at ih ⊢
    by_cases ha : a.1 = k
    · rw [List.filter_cons_of_neg (by simp [ha])]
      rw [ih]
      by_cases e : k' = k
      · rw [if_pos e, if_pos e]
      · rw [if_neg e, if_neg e, List.find?_cons, show (a.1 == k') = false from by simpa [ha] using Ne.symm e]
    · rw [List.filter_cons_of_pos (by simp [ha]), List.find?_cons, List.find?_cons]
      by_cases e2 : a.1 = k'
      · rw [show (a.1 == k') = true from by simpa using e2, if_neg (by rw [← e2]; exact ha)]
      · rw [show (a.1 == k') = false from by simpa using e2]
        exact ih
theorem getE_put {β : Type} (k k' : List UInt8) (u : β) (L : List (List UInt8 × β)) : getE (putE k u L) k' = if k' = k then some u else getE L k' := by
  unfold putE
  rw [getE_ins k k' u (delE k L) (fun p hp => by have := (List.mem_filter.1 hp).2; simpa using this), getE_del]
  split <;> rfl
/-- A write that is done. -/
theorem doK_done {S : KSt} {o : KOp} {n : Nat} (_ : KInv S n) (hw : wr5 o = true) (hc : (doK S o).1.code = 0) :
    (doK S o).1.rev = S.rev + 1 ∧ (doK S o).2.rev = S.rev + 1 ∧ (∀ k', getE (doK S o).2.L k' = if k' = kl o.key then (if o.kind = 5 then none else some (o.val, S.rev + 1)) else getE S.L k') ∧ (o.kind ≠ 3 → ∃ u, getE S.L (kl o.key) = some u ∧ u.2 = o.rev) := by
  have h35 : 3 ≤ o.kind ∧ o.kind ≤ 5 := by unfold wr5 at hw; simpa using hw
  unfold doK at hc ⊢
  simp only [] at hc ⊢
  have h0 : refuse S o = 0 := by
    unfold planK at hc
    rw [if_neg (by omega), if_neg (by omega)] at hc
    by_cases h3 : refuse S o = 0
    · exact h3
    · rw [if_neg h3] at hc; exact absurd hc h3
  have hp : planK S o = (⟨0, S.rev + 1, emp, []⟩, effOf o (S.rev + 1), true) := by unfold planK; rw [if_neg (by omega), if_neg (by omega), if_pos h0]
  rw [hp]
  simp only [if_true]
  refine ⟨trivial, effOf_rev _ _, fun k' => ?_, fun hk => ?_⟩
  · unfold applyK effOf
    by_cases h5 : o.kind = 5
    · simp only [if_pos h5, if_true]
      rw [getE_del]
    · simp only [if_neg h5, Bool.false_eq_true, if_false]
      rw [getE_put]
  · have hth := (refuse_zero h0).2.1 (by simpa using hk)
    unfold there at hth
    cases hg : getE S.L (kl o.key) with
    | none => rw [hg] at hth; cases hth
    | some u =>
      refine ⟨u, rfl, ?_⟩
      unfold refuse refB at h0
      have hk3 : (o.kind == 3) = false := by simpa using hk
      have hr : revOf S.L o.key = u.2 := by unfold revOf gotU; rw [hg]
      have ht : there S.L o.key = true := by unfold there; rw [hg]; rfl
      rw [(refuse_zero (S := S) (o := o) (by unfold refuse refB; exact h0)).1, hk3, ht, hr] at h0
      by_cases e : u.2 = o.rev
      · exact e
      · have e2 : (u.2 == o.rev) = false := by simpa using e
        rw [e2] at h0
        simp at h0
theorem UInv.same {S S' : KSt} {D : List UEnt} (h : UInv S D) (e : S' = S) : UInv S' D := e ▸ h
theorem UInv.step {S : KSt} {o : KOp} {n : Nat} {D : List UEnt} (h : UInv S D) (hS : KInv S n) (hw : wr5 o = true) (hc : (doK S o).1.code = 0) :
    UInv (doK S o).2 (if o.kind = 3 then D else D ++ [(o.key, o.rev)]) ∧ (o.kind ≠ 3 → (o.key, o.rev) ∉ D) := by
  obtain ⟨_, h2, h3, h4⟩ := doK_done hS hw hc
  have hD : UInv (doK S o).2 D := fun d hd => by
    refine ⟨by rw [h2]; have := (h d hd).1; omega, fun u hu => ?_⟩
    rw [h3] at hu
    by_cases e : kl d.1 = kl o.key
    · rw [if_pos e] at hu
      by_cases h5 : o.kind = 5
      · rw [if_pos h5] at hu; cases hu
      · rw [if_neg h5] at hu
        cases hu
        have := (h d hd).1
        show d.2 < S.rev + 1
        omega
    · rw [if_neg e] at hu
      exact (h d hd).2 u hu
  refine ⟨?_, fun hk hm => ?_⟩
  · by_cases hk : o.kind = 3
    · rw [if_pos hk]; exact hD
    · rw [if_neg hk]
      intro d hd
      rcases List.mem_append.1 hd with hd | hd
      · exact hD d hd
      · obtain rfl : d = (o.key, o.rev) := by simpa using hd
        obtain ⟨u, hu, he⟩ := h4 hk
        have hle := hS.2.2.2.2 _ (getE_memL hu)
        refine ⟨by rw [h2]; simp only [] at hle ⊢; omega, fun u' hu' => ?_⟩
        rw [h3, if_pos rfl] at hu'
        by_cases h5 : o.kind = 5
        · rw [if_pos h5] at hu'; cases hu'
        · rw [if_neg h5] at hu'
          cases hu'
          simp only [] at hle ⊢
          omega
  · obtain ⟨u, hu, he⟩ := h4 hk
    have := (h _ hm).2 u hu
    simp only [] at this
    omega
end Go.Proofs.Ytogcjginifcbpaa
