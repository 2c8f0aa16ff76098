/- A row of byte slices as an argument; frames one behind the other; the walk of FrameMany. -/
import Derived.Test.YtmniihpfnmpcfaaDoorFrLaw
import Derived.Test.YtmniihpfnmpcfaaDoorPkOpen
import Derived.Deep.Matrix
namespace Go.Proofs.YtmniihpfnmpcfaaDoor
open Go.RowKit
/-- A row of slices that came in. -/
def ArgRow (w : World) (v : Value) (ls : List (List Int)) : Prop := SeesRow w v ls ∧ (∀ p ∈ ls, okB p ∧ p.length ≤ maxLen) ∧ ls.length ≤ maxLen
section
open Go.ChangeShapes Go.WideShapes Go.ChangeAt
variable {H : Type} {enc : TypeId × Value → H} {W : World} {base : Nat} {v : Value} {d : DataW H} {p : List MemPlace}
theorem open_rows (hval : Value.okWide Tryd.prog W .any base 32 v) (h : DataW.Trod enc Tryd.prog W 0 (fun _ => true) true 32 v d p) : ∃ ls, ArgRow W v ls := by
  obtain ⟨a0, len, cap, rfl⟩ := okWide_slice Tryd.underlying32 hval
  obtain ⟨fuel, hf⟩ := h
  rcases Go.Deep.open_int_rows Tryd.underlying32 Tryd.underlying22 Tryd.underlying5 (by kernel_rfl) cellsU8 hf with ⟨hcs, _⟩ | ⟨a, len', cap', A, L, C, Z, hcs, _, hl, hm, _, hall⟩
  · simp [Value.cells] at hcs
    obtain ⟨rfl, rfl, rfl⟩ := hcs
    exact ⟨[], ⟨none, 0, rfl, Nat.le_refl _, fun _ => rfl, fun a h => by cases h⟩, (fun p hp => by cases hp), Nat.zero_le _⟩
  · simp [Value.cells] at hcs
    obtain ⟨rfl, rfl, rfl⟩ := hcs
    refine ⟨(List.range len).map fun i => (Z i).take (L i), ⟨some a, cap, by simp, by simp; omega, (fun h => by cases h), fun b hb i hi => ?_⟩, fun p hp => ?_, by simp; omega⟩
    · cases hb
      simp only [List.length_map, List.length_range] at hi
      obtain ⟨h1, h2, h3, h4, h5, h6, h7⟩ := hall i (by omega)
      have eg : ((List.range len).map fun i => (Z i).take (L i)).getD i [] = (Z i).take (L i) := by simp [List.getD, hi]
      have el : ((Z i).take (L i)).length = L i := by rw [List.length_take]; omega
      rw [eg]
      refine ⟨_, h1, A i, C i, by rw [el], by omega, fun hn => ?_, fun a' ha' j hj => ?_⟩
      · have := h6 hn
        exact List.eq_nil_of_length_eq_zero (by omega)
      · rw [el] at hj
        rw [(h7 a' ha').2 j (by omega)]
        simp only [List.getD, List.getElem?_take, if_pos hj]
    · obtain ⟨i, hi, rfl⟩ := List.mem_map.1 hp
      have hi' := List.mem_range.1 hi
      obtain ⟨h1, h2, h3, h4, h5, h6, h7⟩ := hall i (by omega)
      exact ⟨fun x hx => wf_u8 (h5 x (List.mem_of_mem_take hx)), by rw [List.length_take]; omega⟩
end
/-- A row of the call's own whose slices lie below block B. -/
def RowE (w : World) (B : Nat) (v : Value) (ls : List (List Int)) : Prop :=
  ∃ vs : List Value, vs.length = ls.length ∧ w.ownsRow B 22 1 v ls.length vs ∧ ∀ i, i < ls.length → Sees w (vs.getD i undef) (ls.getD i []) ∧ ∀ d, (vs.getD i undef).ownBlock = some d → d < B
theorem RowE.nil (w : World) (B : Nat) : RowE w B (.slice none 0 0) [] := ⟨[], rfl, World.ownsRow_nil _ _ _ _, fun i hi => by cases hi⟩
theorem RowE.row {w : World} {B : Nat} {v : Value} {ls : List (List Int)} (h : RowE w B v ls) (hB : B ≤ w.heap.size) : RowO w B v ls := by
  obtain ⟨vs, hl, ho, he⟩ := h
  exact ⟨vs, hl, ho, fun i hi => ⟨(he i hi).1, fun d hd => ⟨Nat.lt_of_lt_of_le ((he i hi).2 d hd) hB, fun e => Nat.not_lt.2 (ho.lt d e).1 ((he i hi).2 d hd)⟩⟩⟩
theorem RowE.below {w w' : World} {B : Nat} {v : Value} {ls : List (List Int)} (h : RowE w B v ls) (hb : Below B w w') (hv : ∀ d, v.ownBlock = some d → w'.heap[d]? = w.heap[d]?) : RowE w' B v ls := by
  obtain ⟨vs, hl, ho, he⟩ := h
  refine ⟨vs, hl, ⟨ho.1, ho.2.imp id fun ⟨g, cap, cur, e, hB, hg, r⟩ => ⟨g, cap, cur, e, hB, (hv g (by rw [e]; rfl)).trans hg, r⟩⟩, fun i hi => ⟨sees_heap (he i hi).1 (fun d hd _ => hb.block d ((he i hi).2 d hd)), (he i hi).2⟩⟩
theorem RowE.keep {w w' : World} {B : Nat} {v : Value} {ls : List (List Int)} (h : RowE w B v ls) (hb : Below w.heap.size w w') (hB : B ≤ w.heap.size) : RowE w' B v ls :=
  h.below (hb.mono hB) fun d hd => by
    obtain ⟨vs, hl, ho, he⟩ := h
    exact hb.block d (ho.lt d hd).2
theorem own_row_ne {w : World} {B B' : Nat} {a x : Value} {xs : List Int} {ls : List (List Int)} (h : Owns w B a xs) (h' : RowE w B' x ls) {d : Nat} (ha : a.ownBlock = some d) : x.ownBlock ≠ some d := by
  obtain ⟨vs, hl, ho, he⟩ := h'
  intro hx
  obtain ⟨_, ⟨rfl, _⟩ | ⟨g, cap, cur, rfl, _, hg, _⟩⟩ := h
  · cases ha
  · obtain ⟨_, ⟨rfl, _⟩ | ⟨g', cap', cur', rfl, _, hg', _⟩⟩ := ho
    · cases hx
    · have e1 : g = d := by simpa [Value.ownBlock] using ha
      have e2 : g' = d := by simpa [Value.ownBlock] using hx
      subst e1 e2
      rw [hg] at hg'
      simp at hg'
/-- append of one slice that lies below B to such a row. -/
theorem wpList_pushE {w0 : World} {ops : Array Oper} {rest : List Oper} {o : Oper} {a : Act} {Q : Exit → Act → World → Prop} (hgd : o.guard = none) (s x : Operand)
    (ho : o.op = .call { callee := .builtin .append, args := #[s, x], argTypes := #[32, 32] }) (B : Nat) (v u : Value) (ls : List (List Int)) (p : List Int)
    (hs : a.eval s = v) (hx : a.eval x = .slice (some ⟨w0.heap.size, 0, none⟩) 1 1) (hrow : RowE w0 B v ls) (hu : Sees w0 u p) (hud : ∀ d, u.ownBlock = some d → d < B) (hlen : ls.length ≤ 100000) (hB : B ≤ w0.heap.size)
    (h : ∀ v' w', RowE w' B v' (ls ++ [p]) → w0.grownBy w' v.ownBlock → Below B w0 w' → wpList Tryd.prog ops Q rest (a.put o.dst v') w') :
    wpList Tryd.prog ops Q (o :: rest) a (w0.alloc (.cells #[u] 22)) := by
  obtain ⟨i0, hi, hz0, hz1, hz2⟩ := info_parts info22
  obtain ⟨vs, hl, hown, he⟩ := hrow
  refine wpList_append_own_at _ hgd s x 32 ho B 22 i0 (.slice none 0 0) 1 24 Tryd.underlying32 hi hz0 hz1 hz2 rfl (by decide) v _ vs hs (hown.alloc _) ⟨w0.heap.size, 0, none⟩ 1 1 [u] hx rfl (cell_one_new _ _ _) ?_ (by unfold maxLen; omega) (by omega) (by simp; omega) ?_
  · intro y hy
    obtain rfl := List.mem_singleton.1 hy
    obtain ⟨ao, c, rfl, _⟩ := hu
    rfl
  · intro v' w' hown' hgrow _ hat
    have hg0 : w0.grownBy w' v.ownBlock := World.grownBy.trans (b := w0.alloc (.cells #[u] 22)) ⟨rfl, rfl, rfl, by simp, fun k hk _ => Below.heap_alloc w0 _ k hk⟩ hgrow
    have hbel : Below B w0 w' := (Below.refl B w0).grown hg0 hB (fun k hk => (hown.lt k hk).1)
    have key : ∀ (y : Value) (q : List Int), Sees w0 y q → (∀ d, y.ownBlock = some d → d < B) → Sees w' y q ∧ ∀ d, y.ownBlock = some d → d < B :=
      fun y q hy hyd => ⟨sees_heap hy (fun d hd _ => hbel.block d (hyd d hd)), hyd⟩
    refine h v' w' ⟨vs ++ [u], by simp [hl], by rw [List.length_append]; exact hown', fun i hi' => ?_⟩ hg0 hbel
    by_cases hlt : i < ls.length
    · have e1 : (vs ++ [u]).getD i undef = vs.getD i undef := by simp only [List.getD]; rw [List.getElem?_append_left (by omega)]
      have e2 : (ls ++ [p]).getD i [] = ls.getD i [] := by simp only [List.getD]; rw [List.getElem?_append_left hlt]
      rw [e1, e2]
      exact key _ _ (he i hlt).1 (he i hlt).2
    · obtain rfl : i = ls.length := by rw [List.length_append, List.length_singleton] at hi'; omega
      have e1 : (vs ++ [u]).getD ls.length undef = u := by simp only [List.getD]; rw [← hl, List.getElem?_concat_length]; rfl
      have e2 : (ls ++ [p]).getD ls.length [] = p := by simp only [List.getD]; rw [List.getElem?_concat_length]; rfl
      rw [e1, e2]
      exact key _ _ hu hud
/-- append of bytes that are there to bytes of the call's own, nil or not. -/
theorem wpList_append_bytes {w : World} {ops : Array Oper} {rest : List Oper} {o : Oper} {a : Act} {Q : Exit → Act → World → Prop} (hgd : o.guard = none) (s x : Operand)
    (ho : o.op = .call { callee := .builtin .append, args := #[s, x], argTypes := #[22, 22] }) (B : Nat) (v : Value) (xs t : List Int) (src : Value)
    (hs : a.eval s = v) (hx : a.eval x = src) (hown : Owns w B v xs) (hsee : Sees w src t) (hne : t ≠ []) (hb : xs.length + t.length ≤ 100000000000) (hB : B ≤ w.heap.size)
    (h : ∀ v' w', Owns w' B v' (xs ++ t) → w.grownBy w' v.ownBlock → Below B w w' → wpList Tryd.prog ops Q rest (a.put o.dst v') w') : wpList Tryd.prog ops Q (o :: rest) a w := by
  obtain ⟨i0, hi, hz0, hz1, hz2⟩ := info_parts info8
  obtain ⟨ao, c, rfl, hlc, hnil, hc⟩ := hsee
  obtain ⟨ad, rfl⟩ : ∃ ad, ao = some ad := by
    cases ao with
    | none => exact absurd (hnil rfl) hne
    | some ad => exact ⟨ad, rfl⟩
  refine wpList_append_own w hgd s x 22 ho B 5 i0 (.int .u8 0) 1 1 Tryd.underlying22 hi hz0 hz1 hz2 rfl (by decide) v _ _ hs hown ad t.length c (cells8 t) hx (by simp) (fun j u hj => ?_) (fun u hu => by obtain ⟨z, _, rfl⟩ := List.mem_map.1 hu; rfl) (by unfold maxLen; omega) (by omega) hB ?_
  · have hjl : j < t.length := by
      have := (List.getElem?_eq_some_iff.1 hj).1
      simpa using this
    rw [getD_cells hjl] at hj
    rw [← hj]
    exact hc ad rfl j hjl
  · intro v' w' ho' hg' hn'
    refine h v' w' ?_ hg' ((Below.refl B w).grown hg' hB (fun k hk => (hown.lt k hk).1))
    unfold Owns cells8
    rw [List.length_append, List.map_append]
    exact ho'
/-! Frames one behind the other. -/
def flatF (ps : List (List Int)) : List Int := ps.flatMap frameL
def goodP (ps : List (List Int)) : Prop := ∀ p ∈ ps, okB p ∧ 1 ≤ p.length ∧ p.length ≤ 200
theorem flatF_snoc (ps : List (List Int)) (p : List Int) : flatF (ps ++ [p]) = flatF ps ++ frameL p := by unfold flatF; rw [List.flatMap_append]; simp
theorem goodP_snoc {ps : List (List Int)} {p : List Int} (h : goodP ps) (hp : okB p ∧ 1 ≤ p.length ∧ p.length ≤ 200) : goodP (ps ++ [p]) := fun q hq => by
  rcases List.mem_append.1 hq with hq | hq
  · exact h q hq
  · rw [List.mem_singleton.1 hq]; exact hp
theorem flatF_len : ∀ (ps : List (List Int)), goodP ps → (flatF ps).length ≤ 208 * ps.length
  | [], _ => Nat.zero_le _
  | p :: ps, h => by
    have ih := flatF_len ps (fun q hq => h q (List.mem_cons_of_mem _ hq))
    have h1 := (h p List.mem_cons_self).2.2
    have e : (flatF (p :: ps)).length = (frameL p).length + (flatF ps).length := by unfold flatF; rw [List.flatMap_cons, List.length_append]
    rw [e, frameL_len, List.length_cons]
    omega
theorem flatF_ok : ∀ (ps : List (List Int)), goodP ps → okB (flatF ps)
  | [], _ => fun x hx => by cases hx
  | p :: ps, h => by
    have e : flatF (p :: ps) = frameL p ++ flatF ps := by unfold flatF; rw [List.flatMap_cons]
    rw [e]
    exact okB_append (frameL_ok (h p List.mem_cons_self).1) (flatF_ok ps (fun q hq => h q (List.mem_cons_of_mem _ hq)))
theorem flatF_steps : ∀ (ps : List (List Int)) (t : List Int), goodP ps → Steps ps (flatF ps ++ t) (flatF ps).length
  | [], _, _ => rfl
  | p :: ps, t, h => by
    obtain ⟨h1, h2, h3⟩ := h p List.mem_cons_self
    have e : flatF (p :: ps) = frameL p ++ flatF ps := by unfold flatF; rw [List.flatMap_cons]
    obtain ⟨n1, n2, n3⟩ := next_frame (t := flatF ps ++ t) h1 h2 (by omega)
    rw [e, List.append_assoc]
    refine ⟨n1, n2, (flatF ps).length, ?_, ?_⟩
    · rw [n3, ← frameL_len p, List.drop_left]
      exact flatF_steps ps t (fun q hq => h q (List.mem_cons_of_mem _ hq))
    · rw [n3, List.length_append, frameL_len]
theorem flatF_all (ps : List (List Int)) (h : goodP ps) : AllIs ps (flatF ps) (flatF ps).length 6 := by
  have := flatF_steps ps [] h
  rw [List.append_nil] at this
  refine ⟨this, ?_, by decide⟩
  rw [List.drop_length]
  rfl
set_option maxRecDepth 8000 in
set_option maxHeartbeats 4000000 in
theorem lawMany (w : World) (b : Value) (xs : List (List Int)) (h : ArgRow w b xs) (hE : Env w) :
    Calls Tryd.prog 7 #[b] w fun e w' => e = .returned (.bool true) ∧ Below w.heap.size w w' := by
  obtain ⟨⟨ao, c, rfl, hlc, hnil, hc⟩, hok, hm⟩ := h
  unfold maxLen at hm
  have HC := Lib.hid (And.intro hnil hc)
  have HO := Lib.hid hok
  clear hnil hc hok
  go_enter Tryd.func7, Tryd.ntmps7
  go_wp2_with fail
  go_loopw [3, 4, 14] (fun a x j wr => ∃ i : Nat, j = .int .i64 i ∧ i ≤ xs.length ∧ ∃ ps : List (List Int), goodP ps ∧ ps.length ≤ i ∧ ps.length ≤ 10 ∧ Owns wr w.heap.size a (flatF ps) ∧ RowE wr w.heap.size x ps ∧ Below w.heap.size w wr) (fun _ _ j _ => xs.length - (intOf j).toNat)
  case atStart => exact ⟨0, rfl, Nat.zero_le _, [], (fun p hp => by cases hp), Nat.le_refl _, Nat.zero_le _, Owns.nil _ _, RowE.nil _ _, Below.refl _ _⟩
  case round =>
    obtain ⟨i, rfl, hi, ps, hgood, hpi, hp10, hown, hrow, hbel⟩ := hrel
    by_cases hlt : i < xs.length
    · obtain ⟨a, rfl⟩ : ∃ a, ao = some a := by
        cases ao with
        | none => rw [HC.out.1 rfl] at hlt; simp at hlt
        | some a => exact ⟨a, rfl⟩
      obtain ⟨u, hcu, hsu⟩ := HC.out.2 a rfl i hlt
      have hcell : wr.cell? (a.add i) = some u := by rw [hbel.cell (cell_lt8 hcu)]; exact hcu
      have hmem : xs.getD i [] ∈ xs := by simp [List.getD, hlt]
      obtain ⟨ho1, hm1⟩ := HO.out _ hmem
      have HF := Lib.hid (few5_any u _ wr (hsu.keep hbel) hm1)
      have HU : Hid (xs.getD i [] ≠ [] → ∀ d, u.ownBlock = some d → d < w.heap.size) := Lib.hid (by
        obtain ⟨bo, cb, rfl, _, _, hcb⟩ := hsu
        intro hne d hd
        cases bo with
        | none => cases hd
        | some b0 =>
          have := cell_lt8 (hcb b0 rfl 0 (List.length_pos_iff.2 hne))
          rw [add_block] at this
          cases hd
          exact this)
      obtain ⟨P, hP⟩ : ∃ P, P = (xs.getD i []).take 200 := ⟨_, rfl⟩
      have hPl : P.length ≤ 200 := by rw [hP, List.length_take]; omega
      have HPo : Hid (okB P) := Lib.hid (by rw [hP]; exact ho1.take _)
      have HPn : Hid (P ≠ [] → xs.getD i [] ≠ []) := Lib.hid (fun h1 h2 => h1 (by rw [hP, h2]; rfl))
      rw [← hP] at HF
      have b0 : (0 : Int) ≤ (i : Int) := by omega
      have b1 : (i : Int) < (xs.length : Int) := by omega
      clear hP hcu hsu hmem ho1 hm1
      have HG := Lib.hid hgood
      have HW := Lib.hid (And.intro hown hrow)
      have hB0 := hbel.size
      clear hgood hown hrow
      by_cases hP0 : P = []
      · subst hP0
        go_wp2_with fail
        refine HF.out.mono ?_; rintro e w1 ⟨v1, rfl, hs1, hd1, rfl⟩
        go_wp2_with fail
        refine (fput_no v1 _ hs1).mono ?_; rintro e w1 ⟨rfl, rfl⟩
        go_wp2_with fail
        all_goals
          go_roundw
          case rel => exact ⟨i + 1, by go_num, by omega, ps, HG.out, by omega, hp10, HW.out.1, HW.out.2, hbel⟩
          case measure => simp [intOf]; omega
      · have h1 : 1 ≤ P.length := List.length_pos_iff.2 hP0
        have HU := Lib.hid (HU.out (HPn.out hP0))
        have HQ := Lib.hid hP0
        clear hP0
        go_wp2_with fail
        refine HF.out.mono ?_; rintro e w1 ⟨v1, rfl, hs1, hd1, rfl⟩
        go_wp2_with fail
        refine (fput_any v1 P _ hs1 HPo.out h1 (by omega) (hE.below hbel)).mono ?_; rintro e w2 ⟨v2, rfl, ho2, hb2⟩
        have hbel2 := bel hbel hb2
        have hz2 := hbel2.size
        have hoA := HW.out.1.keep hb2
        have hrA := HW.out.2.keep hb2 hB0
        by_cases h10 : i < 10
        · have d0 : decide ((i : Int) < 10) = true := by simp; omega
          have hfl := flatF_len ps HG.out
          have hFn : frameL P ≠ [] := by intro h; have := frameL_len P; rw [h] at this; simp at this; omega
          have HS1 := Lib.hid (hs1.keep hb2)
          have hnext : ∀ v' w', Owns w' w.heap.size v' (flatF ps ++ frameL P) → w2.grownBy w' u3.ownBlock → Below w.heap.size w2 w' → RowE w' w.heap.size u4 ps ∧ Sees w' v1 P :=
            fun v' w' _ hg hb => ⟨hrA.below hb (fun d hd => hg.block d (by obtain ⟨vs, _, ho, _⟩ := id hrA; exact (ho.lt d hd).2) (fun e => own_row_ne hoA hrA e.symm hd)), sees_heap HS1.out (fun d hd _ => hb.block d (HU.out d (hd1 d hd)))⟩
          have HNX := Lib.hid hnext
          clear hnext
          obtain ⟨ao1, c1, rfl, -⟩ := id hs1
          go_wp2_with (first
            | (at_builtin; refine wpList_append_bytes rfl (.tmp 32) (.tmp 33) rfl w.heap.size u3 (flatF ps) (frameL P) v2 rfl rfl hoA ho2.sees hFn (by rw [frameL_len]; omega) hz2 ?_; intro v3 w3 ho3 hg3 hb3; obtain ⟨hr3, hs3⟩ := HNX.out v3 w3 ho3 hg3 hb3; have hz3 := Nat.le_trans hz2 hg3.size)
            | (at_builtin; refine wpList_pushE rfl (.tmp 35) (.tmp 37) rfl w.heap.size u4 (.slice ao1 P.length c1) ps P rfl rfl hr3 hs3 (fun d hd => HU.out d (hd1 d hd)) (by omega) hz3 ?_; intro v4 w4 hr4 hg4 hb4)
            | fail)
          go_roundw
          case rel =>
            refine ⟨i + 1, by go_num, by omega, ps ++ [P], goodP_snoc HG.out ⟨HPo.out, h1, hPl⟩, by rw [List.length_append, List.length_singleton]; omega, by rw [List.length_append, List.length_singleton]; omega, ?_, hr4, hbel2.trans (hb3.trans hb4)⟩
            rw [flatF_snoc]
            exact World.ownsRow.kept ho3 hg4 (by
              cases hv : v3.ownBlock with
              | none => exact Or.inl rfl
              | some d => exact Or.inr (fun e => own_row_ne ho3 hr3 hv e.symm))
          case measure => simp [intOf]; omega
        · have d0 : decide ((i : Int) < 10) = false := by simp; omega
          go_wp2_with fail
          go_roundw
          case rel => exact ⟨i + 1, by go_num, by omega, ps, HG.out, by omega, hp10, hoA, hrA, hbel2⟩
          case measure => simp [intOf]; omega
    · obtain rfl : i = xs.length := by omega
      have HG := Lib.hid hgood
      have hB0 := hbel.size
      clear hgood
      have hfl := flatF_len ps HG.out
      have HA := Lib.hid (flatF_all ps HG.out)
      have HF := Lib.hid (flatF_ok ps HG.out)
      obtain ⟨F, hF⟩ : ∃ F, F = flatF ps := ⟨_, rfl⟩
      rw [← hF] at hown hfl HA HF
      have hsee := hown.sees
      obtain ⟨a3, c3, he3, -⟩ := id hsee
      subst he3
      have HF2 := Lib.hid hF
      clear hF
      go_wp2_with fail
      refine (all_any _ F _ hsee HF.out (by omega) (hE.below hbel)).mono ?_; rintro e w1 ⟨v1, ls, k, x, rfl, hr1, ha1, hb1⟩
      obtain ⟨rfl, rfl, rfl⟩ := AllIs.same _ _ _ _ _ _ _ HA.out ha1
      have hb2 := bel hbel hb1
      go_wp2_with fail
      refine (same_any v1 _ ps _ hr1.sees ((hrow.row hB0).keep hb1).sees (by omega)).mono ?_; rintro e w3 ⟨rfl, n, rfl⟩
      have hb3 := below_drewN hb2 n
      go_wp2_with fail
      refine (awake5_any _ (hE.below hb3)).mono ?_; rintro e w4 ⟨rfl, hb4⟩
      go_wp2_with fail
      go_ret
      exact ⟨rfl, bel hb3 hb4⟩
end Go.Proofs.YtmniihpfnmpcfaaDoor
