/- Package kv: slices.SortFunc at a row of items of the call's own: sorted by their keys. -/
import Derived.Test.YtholgmcfgnifdaaKvC
import Derived.Test.YtholgmcfgnifdaaShelf
import Derived.Test.YtholgmcfgnifdaaShelfSort
namespace Go.Proofs.Ytholgmcfgnifdaa
open Go.RowKit Go.Maps Go.Sort Go.Shelf Go.WideShapes Go.WideAt
abbrev encI (p : KEnt) : List Value := [.string ⟨p.1.toArray⟩, .string p.2.1, .int .i64 p.2.2]
/-- A row of items of the call's own. -/
abbrev RowI (w : World) (B : Nat) (v : Value) (L : List KEnt) : Prop := w.ownsRow B 76 3 v L.length (L.flatMap encI)
def cmpK (x y : KEnt) : Int := Lib.compareBytes x.1 y.1
theorem cmp_lt : ∀ a b : List UInt8, decide (Lib.compareBytes a b < 0) = bytesBefore a b
  | [], [] => rfl
  | [], _ :: _ => rfl
  | _ :: _, [] => rfl
  | x :: r, y :: s => by
    rw [Lib.compareBytes, bytesBefore]
    by_cases h1 : x < y
    · simp [h1]
    · by_cases h2 : y < x
      · have h3 : x ≠ y := fun e => by subst e; exact UInt8.lt_irrefl _ h2
        simp [h1, h2, h3]
      · have h3 : x = y := UInt8.le_antisymm (UInt8.not_lt.1 h2) (UInt8.not_lt.1 h1)
        subst h3
        simp [cmp_lt r s]
theorem lt_cmpK (x y : KEnt) : ltOf cmpK x y = bytesBefore x.1 y.1 := cmp_lt x.1 y.1
theorem not_before {a b : List UInt8} (h : bytesBefore a b = false) : a = b ∨ bytesBefore b a = true := by
  by_cases e : a = b
  · exact Or.inl e
  · rcases bytes_total a b e with h1 | h1
    · rw [h] at h1; cases h1
    · exact Or.inr h1
theorem swoK : SWO (ltOf cmpK) where
  irrefl x := by rw [lt_cmpK]; exact bytes_irrefl _
  trans x y z h1 h2 := by rw [lt_cmpK] at *; exact bytes_trans _ _ _ h1 h2
  ntrans x y z h1 h2 := by
    rw [lt_cmpK] at *
    rcases not_before h1 with e | h1
    · rw [e]; exact h2
    · rcases not_before h2 with e | h2
      · rw [← e]
        cases h : bytesBefore x.1 y.1 with
        | false => rfl
        | true =>
          have := bytes_trans _ _ _ h1 h
          rw [bytes_irrefl] at this; cases this
      · cases h : bytesBefore x.1 z.1 with
        | false => rfl
        | true =>
          have := bytes_trans _ _ _ (bytes_trans _ _ _ h2 h1) h
          rw [bytes_irrefl] at this; cases this
set_option maxHeartbeats 1000000 in
theorem closure_any (x y : KEnt) (W : World) : Calls Try.prog 42 #[.agg (encI x).toArray, .agg (encI y).toArray] W fun e w' => e = .returned (.int .i64 (cmpK x y)) ∧ ∃ q os', w' = grow (W.drewN q) os' := by
  have hcon := fun W' => Try.strings_Compare ⟨x.1.toArray⟩ ⟨y.1.toArray⟩ W'
  have e : Lib.compareBytes (⟨x.1.toArray⟩ : ByteArray).data.toList (⟨y.1.toArray⟩ : ByteArray).data.toList = cmpK x y := rfl
  simp only [e] at hcon
  generalize cmpK x y = r at hcon
  clear e
  go_enter Try.func42, Try.ntmps42
  go_wp2_with (go_at_call 43; refine (hcon _).mono ?_; rintro e w' ⟨rfl, rfl⟩)
  go_ret
  exact ⟨rfl, 0, _, by rw [alloc_eq_grow, alloc_eq_grow, grow_grow]; rfl⟩
theorem cmpLaysK (blk off size : Nat) (w : World) : CmpLays Try.prog 42 #[] encI 3 cmpK blk off size w :=
  fun _ _ _ _ x y => closure_any x y _
theorem flat_atI : ∀ (L : List KEnt) (i j : Nat) (f : KEnt), L[i]? = some f → j < 3 → (L.flatMap encI)[i * 3 + j]? = (encI f)[j]?
  | [], i, j, f, h, _ => by simp at h
  | a :: L, 0, j, f, h, hj => by
    obtain rfl : a = f := by simpa using h
    rw [List.flatMap_cons, Nat.zero_mul, Nat.zero_add, List.getElem?_append_left (by simp; omega)]
  | a :: L, i + 1, j, f, h, hj => by
    rw [List.flatMap_cons, List.getElem?_append_right (by simp; omega)]
    have e : (i + 1) * 3 + j - (encI a).length = i * 3 + j := by simp; omega
    rw [e]
    exact flat_atI L i j f (by simpa using h) hj
theorem flat_len (L : List KEnt) : (L.flatMap encI).length = L.length * 3 := by
  induction L with
  | nil => rfl
  | cons a L ih => rw [List.flatMap_cons, List.length_append, ih]; simp; omega
theorem flatK_list (d : Array KEnt) : (flatK encI 3 d).toList = d.toList.flatMap encI := by
  apply List.ext_getElem?
  intro t
  by_cases ht : t < d.size * 3
  · have h1 : t / 3 < d.size := by omega
    have h2 := flat_atI d.toList (t / 3) (t % 3) d[t / 3]! (by rw [getElem!_pos d _ h1]; simp [h1]) (by omega)
    rw [show t / 3 * 3 + t % 3 = t from by omega] at h2
    rw [h2, Array.getElem?_toList, Array.getElem?_eq_getElem (by simpa using ht)]
    have h3 := get_flatK encI 3 d t ht
    rw [getElem!_pos _ t (by simpa using ht)] at h3
    rw [h3]
    have h4 : t % 3 < 3 := Nat.mod_lt _ (by omega)
    generalize t % 3 = j at h4
    match j, h4 with
    | 0, _ => rfl
    | 1, _ => rfl
    | 2, _ => rfl
  · rw [List.getElem?_eq_none (by simp; omega), List.getElem?_eq_none (by rw [flat_len]; simp; omega)]
theorem putCells_take (d : Array Value) (cur : Array Value) (h : d.size ≤ cur.size) : (putCells id 0 d cur).size = cur.size ∧ (putCells id 0 d cur).toList.take d.size = d.toList := by
  refine ⟨by simp [putCells], ?_⟩
  apply List.ext_getElem?
  intro i
  by_cases hi : i < d.size
  · rw [List.getElem?_take, if_pos hi, Array.getElem?_toList, Array.getElem?_toList, Array.getElem?_eq_getElem (by simp [putCells]; omega), Array.getElem?_eq_getElem hi]
    simp [putCells, hi]
  · rw [List.getElem?_take, if_neg hi, Array.getElem?_toList, Array.getElem?_eq_none (by omega)]
theorem sorted_perm {T T' : List KEnt} (hp : T'.Perm T) (hd : T.Pairwise (fun p q => p.1 ≠ q.1)) (hs : T'.Pairwise (fun p q => bytesBefore q.1 p.1 = false)) : Rising T' := by
  have hd' : T'.Pairwise (fun p q => p.1 ≠ q.1) := (hp.pairwise_iff (fun h => Ne.symm h)).2 hd
  exact (hs.and hd').imp fun {p q} h => by
    rcases not_before h.1 with e | h1
    · exact absurd e.symm h.2
    · exact h1
set_option maxHeartbeats 1000000 in
theorem sort_any (w : World) (B : Nat) (v : Value) (T : List KEnt) (h : RowI w B v T) (hd : T.Pairwise (fun p q => p.1 ≠ q.1)) (hl : T.length < 4611686018427387904) :
    Calls Try.prog 41 #[v, .func (.func 42) #[] #[]] w fun e w' => e = .returned (.tuple #[]) ∧ ∃ T', T'.Perm T ∧ Rising T' ∧ RowI w' B v T' ∧ Touch (fun i => v.ownBlock = some i) w w' := by
  obtain ⟨hlen, ⟨rfl, h0⟩ | ⟨g, cap, cur, rfl, hB, hb, hn, hm, hz, ht⟩⟩ := h
  · obtain rfl := List.eq_nil_of_length_eq_zero h0
    refine (AnyF.slices_SortFunc_none { Try.sortIt with } none 0 (.func (.func 42) #[] #[]) w).mono ?_
    rintro e w' ⟨rfl, rfl⟩
    exact ⟨rfl, [], List.Perm.refl _, List.Pairwise.nil, World.ownsRow_nil _ _ _ _, Touch.refl _ _⟩
  · have hH : HoldsK encI 3 w g 0 T.toArray := by
      intro j hj
      rw [size_flatK] at hj
      have hj' : j < T.length * 3 := by simpa using hj
      have e1 : (flatK encI 3 T.toArray)[j]? = some (flatK encI 3 T.toArray)[j]! := by
        rw [getElem!_pos _ j (by simpa using hj)]; exact Array.getElem?_eq_getElem _
      have e2 : cur[j]? = some (flatK encI 3 T.toArray)[j]! := by
        rw [← e1, ← Array.getElem?_toList, ← Array.getElem?_toList, flatK_list, ← ht, List.getElem?_take, if_pos hj']
      refine ⟨?_, by simp [World.frozen?, hb]⟩
      simp [World.cell?, hb, e2]
    have eg : ∀ args w, (callFunc 42 args).run Try.prog w = .ok (.enter 42 args) w := enters_of Try.func42 (by kernel_rfl) rfl
    have hcon := AnyQ.slices_SortFunc Try.sortIt 3 Try.isAgg76 Try.sizeOf76 encI (fun _ => rfl) (fun x v hv => by simp at hv; rcases hv with rfl | rfl | rfl <;> rfl) cmpK swoK 42 #[] g 0 cap T.toArray w eg (cmpLaysK g 0 _ w) hH (heap_lt hb) (by simpa using hl)
    refine hcon.mono ?_
    rintro e w' ⟨rfl, d', n, os, hp, hs, rfl⟩
    have hsz : d'.size = T.length := by simpa using hp.1
    have hperm : d'.toList.Perm T := by
      have := hp.2.2
      have e1 : d'.extract 0 T.toArray.size = d' := by rw [Array.extract_eq_self_iff]; right; simp [hsz]
      have e2 : T.toArray.extract 0 T.toArray.size = T.toArray := by rw [Array.extract_eq_self_iff]; right; simp
      rw [e1, e2] at this
      simpa using this
    have hsort : d'.toList.Pairwise (fun p q => bytesBefore q.1 p.1 = false) := by
      rw [List.pairwise_iff_getElem]
      intro i j hi hj hij
      have hi' : i < d'.size := by simpa using hi
      have hj' : j < d'.size := by simpa using hj
      have := hs i j (Nat.zero_le _) hij (by simpa [hsz] using hj')
      rw [lt_cmpK, getElem!_pos d' i hi', getElem!_pos d' j hj'] at this
      simpa using this
    refine ⟨rfl, d'.toList, hperm, sorted_perm hperm hd hsort, ?_, ?_⟩
    · have hpc := putCells_take (flatK encI 3 d') cur (by rw [size_flatK, hz, hsz]; exact Nat.mul_le_mul_right _ hn)
      refine ⟨by rw [flat_len], Or.inr ⟨g, cap, putCells id 0 (flatK encI 3 d') cur, by simp [hsz], hB, ?_, by rw [Array.length_toList, hsz]; exact hn, hm, by rw [hpc.1, hz], ?_⟩⟩
      · show (w.heap.modify g (onCells (putCells id 0 (flatK encI 3 d'))) ++ os)[g]? = _
        rw [Array.getElem?_append_left (by simpa using heap_lt hb), Array.getElem?_modify, if_pos rfl, hb]
        rfl
      · rw [Array.length_toList, ← flatK_list, ← hpc.2, size_flatK]
    · refine ⟨rfl, rfl, rfl, ?_, fun k hk hne => ?_⟩
      · show w.heap.size ≤ (w.heap.modify g (onCells (putCells id 0 (flatK encI 3 d'))) ++ os).size
        simp
      · show (w.heap.modify g (onCells (putCells id 0 (flatK encI 3 d'))) ++ os)[k]? = _
        rw [Array.getElem?_append_left (by simpa using hk), Array.getElem?_modify, if_neg (fun e => hne (by rw [← e]; rfl))]
end Go.Proofs.Ytholgmcfgnifdaa
