/- Package slices at rows of counts: one more. -/
import Derived.Test.YtcgkambkfaeceaaHnSlB
import Derived.Lib.Overlaps
import Derived.Laws.Externs
namespace Go.Proofs.Ytcgkambkfaeceaa
open Go.RowKit Go.Lib
theorem wpList_copyC {w : World} {ops : Array Oper} {rest : List Oper} {o : Oper} {a : Act} {Q : Exit → Act → World → Prop} (hgd : o.guard = none) (d s : Operand)
    (ho : o.op = .call { callee := .builtin .copy, args := #[d, s], argTypes := #[TC, TC] }) (v u : Value) (hd : a.eval d = v) (hs : a.eval s = u) {v' : Value} {w' : World}
    (hr : (Builtin.copy_ #[TC, TC] o.type #[v, u]).run Try.prog w = .ok v' w') (h : wpList Try.prog ops Q rest (a.put o.dst v') w') : wpList Try.prog ops Q (o :: rest) a w := by
  refine wpList_plain hgd fun K hK => ?_
  unfold Oper.wp
  simp [execOp, ho, resolve, invoke, builtin, hd, hs, hr, Result.andThen]
  exact hK _ _ h
theorem step_copyC {ops : Array Oper} {o : Oper} {a : Act} {w : World} {K : Act → World → Prop} {Q : Exit → Act → World → Prop} {E : Prop} (hg : o.guard = none) (d x : Operand)
    (hop : o.op = .call { callee := .builtin .copy, args := #[d, x], argTypes := #[TC, TC] }) (v u : Value) (hd : a.eval d = v) (hx : a.eval x = u) {v' : Value} {w' : World}
    (hr : (Builtin.copy_ #[TC, TC] o.type #[v, u]).run Try.prog w = .ok v' w') (hK : K (a.put o.dst v') w') : if Region.wanted o (yielded ops a.tmps) = true then Oper.wp Try.prog o a w K Q else E := by
  have hw : Region.wanted o (yielded ops a.tmps) = true := by simp [Region.wanted, hg]
  rw [if_pos hw]
  unfold Oper.wp
  simp [execOp, hop, resolve, invoke, builtin, hd, hx, hr, Result.andThen]
  exact hK
theorem one_encC (x : Int × Int) : ∀ u ∈ encC x, u.oneCell' = true := by
  intro u hu
  simp only [List.mem_cons, List.not_mem_nil, or_false] at hu
  rcases hu with rfl | rfl <;> rfl
theorem cnt_cells {w : World} {vb : Nat} {x : Int × Int} (h : w.heap[vb]? = some (cntO x EC)) : ∀ j u, (encC x)[j]? = some u → w.cell? ((⟨vb, 0, none⟩ : Addr).add j) = some u := by
  intro j u hj
  obtain ⟨q0, q1⟩ := ccells h
  rw [add0]
  rcases j with _ | _ | j
  · obtain rfl : Value.int .u32 x.1 = u := by simpa using hj
    exact q0
  · obtain rfl : Value.int .i64 x.2 = u := by simpa using hj
    exact q1
  · simp at hj
theorem flat_one (x : Int × Int) : [x].flatMap encC = encC x := by simp
set_option maxHeartbeats 4000000 in
set_option maxRecDepth 100000 in
theorem insertC_end (B : Nat) (v : Value) (L : CntL) (x : Int × Int) (vb vc : Nat) (w : World) (h : RowE EC w B v L) (hv : w.heap[vb]? = some (cntO x EC)) (hl : L.length ≤ 1000000) (hB : B ≤ w.heap.size) :
    Calls Try.prog 37 #[v, .int .i64 L.length, .slice (some ⟨vb, 0, none⟩) 1 vc] w fun e w' => ∃ v', e = .returned v' ∧ RowE EC w' B v' (L ++ [x]) ∧ Below B w w' := by
  obtain ⟨i0, hi, hz0, hz1, hz2⟩ := info_parts infoC
  have HS := Lib.hid (cnt_cells hv)
  have HR := Lib.hid h
  have HLT := Lib.hid (fun k hk => (h.lt k hk).1)
  have HV : Hid (v = .slice none 0 0 ∧ L = [] ∨ ∃ g cap, v = .slice (some ⟨g, 0, none⟩) L.length cap ∧ L.length ≤ cap) := Lib.hid (by
    obtain ⟨_, ⟨e, h0⟩ | ⟨g, cap, cur, e, hb, hg, hn, hm, hs, _⟩⟩ := h
    · exact Or.inl ⟨e, List.eq_nil_of_length_eq_zero h0⟩
    · exact Or.inr ⟨g, cap, e, hn⟩)
  clear h hv
  rcases HV.out with ⟨rfl, rfl⟩ | ⟨g, cap, rfl, hn⟩
  · clear HV
    go_enter Try.func37, Try.ntmps37
    go_wp2_with (at_builtin; refine wpList_append_own _ rfl _ _ TC rfl B EC i0 zeroC 2 16 Try.underlying23 hi hz0 hz1 hz2 rfl (by decide) _ _ _ rfl HR.out ⟨vb, 0, none⟩ 1 vc (encC x) rfl rfl HS.out (one_encC x) (by unfold maxLen; simp) (by simp) hB ?_; intro v' w' ho hg _)
    go_ret
    refine ⟨_, rfl, ?_, (Below.refl B w).grown hg hB (fun k hk => by cases hk)⟩
    have : RowE EC w' B v' [x] := by
      show w'.ownsRow _ _ _ _ _ _
      rw [flat_one]; exact ho
    exact this
  · clear HV
    have hle : (L.length : Int) ≤ (cap : Int) := by omega
    go_enter Try.func37, Try.ntmps37
    go_wp2_with (at_builtin; refine wpList_append_own _ rfl _ _ TC rfl B EC i0 zeroC 2 16 Try.underlying23 hi hz0 hz1 hz2 rfl (by decide) _ _ _ rfl HR.out ⟨vb, 0, none⟩ 1 vc (encC x) rfl rfl HS.out (one_encC x) (by unfold maxLen; omega) (by omega) hB ?_; intro v' w' ho hg _)
    all_goals
      go_ret
      refine ⟨_, rfl, ?_, (Below.refl B w).grown hg hB (fun k hk => HLT.out k hk)⟩
      have e1 : (L ++ [x]).length = L.length + 1 := by simp
      have e2 : (L ++ [x]).flatMap encC = L.flatMap encC ++ encC x := by rw [flat_app, flat_one]
      show w'.ownsRow _ _ _ _ _ _
      rw [e1, e2]
      exact ho
theorem ins_at (L : CntL) (i : Nat) (x : Int × Int) (hi : i ≤ L.length) (j : Nat) (u : Value) (h : ((L.take i ++ x :: L.drop i).flatMap encC)[j]? = some u) :
    (j < i * 2 → (L.flatMap encC)[j]? = some u) ∧ (i * 2 ≤ j → j < (i + 1) * 2 → (encC x)[j - i * 2]? = some u) ∧ ((i + 1) * 2 ≤ j → ((L.drop i).flatMap encC)[j - (i + 1) * 2]? = some u) := by
  rw [flat_app, List.flatMap_cons] at h
  have hl : ((L.take i).flatMap encC).length = i * 2 := by rw [flat_lenC, List.length_take]; omega
  have e : L.flatMap encC = (L.take i).flatMap encC ++ (L.drop i).flatMap encC := by rw [← flat_app, List.take_append_drop]
  refine ⟨fun hj => ?_, fun hj hj2 => ?_, fun hj => ?_⟩
  · rw [e, List.getElem?_append_left (by omega)]
    rwa [List.getElem?_append_left (by omega)] at h
  · rw [List.getElem?_append_right (by omega), hl, List.getElem?_append_left (by simp; omega)] at h
    exact h
  · rw [List.getElem?_append_right (by omega), hl, List.getElem?_append_right (by simp; omega)] at h
    rw [← h]
    congr 1
    simp; omega
/-- What is laid into a row, in two parts: those from the i-th on a place further, then the new one. -/
theorem ins_row {B g cap : Nat} {w W : World} {cur : Array Value} {L : CntL} {x : Int × Int} {i : Nat} (hg : W.heap[g]? = some (.cells cur EC (0, 0))) (hs : cur.size = cap * 2) (hB : B ≤ g) (hm : cap ≤ maxLen) (hroom : L.length + 1 ≤ cap) (hi : i ≤ L.length)
    (hc : ∀ j u, j < i * 2 → (L.flatMap encC)[j]? = some u → W.cell? ⟨g, j, none⟩ = some u) (W' : World)
    (hW : W' = (W.setCells g ((i + 1) * 2) ((L.drop i).flatMap encC)).setCells g (i * 2) (encC x) ∨ W' = (W.setCells g (i * 2) (encC x)).setCells g ((i + 1) * 2) ((L.drop i).flatMap encC)) (hb : Below B w W) :
    RowE EC W' B (.slice (some ⟨g, 0, none⟩) (L.length + 1) cap) (L.take i ++ x :: L.drop i) ∧ Below B w W' := by
  have hld : ((L.drop i).flatMap encC).length = (L.length - i) * 2 := by rw [flat_lenC, List.length_drop]
  have hlen : (L.take i ++ x :: L.drop i).length = L.length + 1 := by simp; omega
  have hall : ∀ j, j < (L.length + 1) * 2 → (W.cell? ⟨g, j, none⟩).isSome = true := fun j hj => by
    simp only [World.cell?, hg]
    rw [Array.getElem?_eq_getElem (by rw [hs]; omega)]; rfl
  rcases hW with rfl | rfl
  · obtain ⟨⟨cur1, hg1, hs1⟩, hb1⟩ := blk_set g EC ((L.drop i).flatMap encC) ((i + 1) * 2) W cur hg
    obtain ⟨⟨cur2, hg2, hs2⟩, hb2⟩ := blk_set g EC (encC x) (i * 2) _ cur1 hg1
    refine ⟨?_, (hb.trans (hb1 B hB)).trans (hb2 B hB)⟩
    have key := own_cells hg2 (by rw [hs2, hs1, hs]) hB hm (L.take i ++ x :: L.drop i) (by omega) (fun j u hj => ?_)
    · rw [hlen] at key; exact key
    · have hj2 : j < (L.length + 1) * 2 := by
        have := (List.getElem?_eq_some_iff.1 hj).1
        rwa [flat_lenC, hlen] at this
      obtain ⟨k1, k2, k3⟩ := ins_at L i x hi j u hj
      by_cases h1 : j < i * 2
      · rw [World.cell?_setCells_out _ _ _ _ _ (fun _ _ => Or.inl h1), World.cell?_setCells_out _ _ _ _ _ (fun _ _ => Or.inl (by show j < (i + 1) * 2; omega))]
        exact hc j u h1 (k1 h1)
      · by_cases h2 : j < (i + 1) * 2
        · have hin := World.cell?_setCells_in g (encC x) (i * 2) (W.setCells g ((i + 1) * 2) ((L.drop i).flatMap encC)) (fun t ht => isSome_set _ _ _ _ _ (hall _ (by simp at ht; omega))) (j - i * 2) (by simp; omega)
          rw [show i * 2 + (j - i * 2) = j from by omega] at hin
          rw [hin]
          have := k2 (by omega) h2
          rw [List.getElem?_eq_getElem (by simp; omega)] at this
          exact this
        · rw [World.cell?_setCells_out _ _ _ _ _ (fun _ _ => Or.inr (by show i * 2 + (encC x).length ≤ j; simp; omega))]
          have hin := World.cell?_setCells_in g ((L.drop i).flatMap encC) ((i + 1) * 2) W (fun t ht => hall _ (by rw [hld] at ht; omega)) (j - (i + 1) * 2) (by rw [hld]; omega)
          rw [show (i + 1) * 2 + (j - (i + 1) * 2) = j from by omega] at hin
          rw [hin]
          have := k3 (by omega)
          rw [List.getElem?_eq_getElem (by rw [hld]; omega)] at this
          exact this
  · obtain ⟨⟨cur1, hg1, hs1⟩, hb1⟩ := blk_set g EC (encC x) (i * 2) W cur hg
    obtain ⟨⟨cur2, hg2, hs2⟩, hb2⟩ := blk_set g EC ((L.drop i).flatMap encC) ((i + 1) * 2) _ cur1 hg1
    refine ⟨?_, (hb.trans (hb1 B hB)).trans (hb2 B hB)⟩
    have key := own_cells hg2 (by rw [hs2, hs1, hs]) hB hm (L.take i ++ x :: L.drop i) (by omega) (fun j u hj => ?_)
    · rw [hlen] at key; exact key
    · have hj2 : j < (L.length + 1) * 2 := by
        have := (List.getElem?_eq_some_iff.1 hj).1
        rwa [flat_lenC, hlen] at this
      obtain ⟨k1, k2, k3⟩ := ins_at L i x hi j u hj
      by_cases h1 : j < (i + 1) * 2
      · rw [World.cell?_setCells_out _ _ _ _ _ (fun _ _ => Or.inl h1)]
        by_cases h2 : j < i * 2
        · rw [World.cell?_setCells_out _ _ _ _ _ (fun _ _ => Or.inl h2)]
          exact hc j u h2 (k1 h2)
        · have hin := World.cell?_setCells_in g (encC x) (i * 2) W (fun t ht => hall _ (by simp at ht; omega)) (j - i * 2) (by simp; omega)
          rw [show i * 2 + (j - i * 2) = j from by omega] at hin
          rw [hin]
          have := k2 (by omega) h1
          rw [List.getElem?_eq_getElem (by simp; omega)] at this
          exact this
      · have hin := World.cell?_setCells_in g ((L.drop i).flatMap encC) ((i + 1) * 2) (W.setCells g (i * 2) (encC x)) (fun t ht => isSome_set _ _ _ _ _ (hall _ (by rw [hld] at ht; omega))) (j - (i + 1) * 2) (by rw [hld]; omega)
        rw [show (i + 1) * 2 + (j - (i + 1) * 2) = j from by omega] at hin
        rw [hin]
        have := k3 (by omega)
        rw [List.getElem?_eq_getElem (by rw [hld]; omega)] at this
        exact this
end Go.Proofs.Ytcgkambkfaeceaa
