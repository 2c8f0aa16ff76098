/- Package bits: the document's runs. -/
import Derived.Test.YthkhikmdcadceaaDoorBtRuns
import Derived.Deep.Cut
namespace Go.Proofs.YthkhikmdcadceaaDoor
open Go.RowKit
theorem OwnsP.form {w : World} {B : Nat} {v : Value} {R : List (Int × Int)} (h : OwnsP w B v R) : ∃ ao c, v = .slice ao R.length c ∧ R.length ≤ c := by
  obtain ⟨_, ⟨rfl, hn⟩ | ⟨g, cap, cur, rfl, _, _, hnc, _, _, _⟩⟩ := h
  · exact ⟨none, 0, by rw [hn], by omega⟩
  · exact ⟨_, cap, rfl, hnc⟩
theorem cellsP_len (R : List (Int × Int)) : (cellsP R).length = 2 * R.length := by
  induction R with
  | nil => rfl
  | cons p R ih => show (Value.int .i64 p.1 :: Value.int .i64 p.2 :: cellsP R).length = _; simp only [List.length_cons, ih]; omega
theorem cellsP_snoc (R : List (Int × Int)) (p : Int × Int) : cellsP (R ++ [p]) = cellsP R ++ [.int .i64 p.1, .int .i64 p.2] := by
  unfold cellsP
  rw [List.flatMap_append]
  rfl
theorem OwnsP.last {w : World} {B : Nat} {v : Value} {R : List (Int × Int)} {p : Int × Int} (h : OwnsP w B v (R ++ [p])) :
    ∃ g c, v = .slice (some ⟨g, 0, none⟩) (R.length + 1) c ∧ B ≤ g ∧ g < w.heap.size ∧ R.length + 1 ≤ c ∧ w.cell? ⟨g, R.length * 2 + 1, none⟩ = some (.int .i64 p.2) ∧ w.frozen? ⟨g, R.length * 2 + 1, none⟩ = false := by
  have h0 := h
  have hl : (R ++ [p]).length = R.length + 1 := by simp
  obtain ⟨_, ⟨rfl, hn⟩ | ⟨g, cap, cur, rfl, hB, hb, hnc, _, _, _⟩⟩ := h
  · rw [hl] at hn; omega
  · unfold OwnsP at h0
    rw [hl] at h0 hnc
    refine ⟨g, cap, by rw [hl], hB, heap_ltI hb, hnc, ?_, World.ownsRow.frozenAt h0 _⟩
    rw [World.ownsRow.cellAt h0 _ (by omega), cellsP_snoc, List.getElem?_append_right (by rw [cellsP_len]; omega), cellsP_len, show R.length * 2 + 1 - 2 * R.length = 1 by omega]
    rfl
theorem OwnsP.put {w : World} {B g c : Nat} {R : List (Int × Int)} {p : Int × Int} (h : OwnsP w B (.slice (some ⟨g, 0, none⟩) (R.length + 1) c) (R ++ [p])) (z : Int) :
    OwnsP (w.setCell ⟨g, R.length * 2 + 1, none⟩ (.int .i64 z)) B (.slice (some ⟨g, 0, none⟩) (R.length + 1) c) (R ++ [(p.1, z)]) ∧ w.grownBy (w.setCell ⟨g, R.length * 2 + 1, none⟩ (.int .i64 z)) (some g) := by
  have hl : (R ++ [p]).length = R.length + 1 := by simp
  have hl2 : (R ++ [(p.1, z)]).length = R.length + 1 := by simp
  unfold OwnsP at h ⊢
  rw [hl] at h
  rw [hl2]
  have hs := World.ownsRow.stored h (R.length * 2 + 1) (.int .i64 z)
  refine ⟨?_, hs.2⟩
  have e : (cellsP (R ++ [p])).set (R.length * 2 + 1) (.int .i64 z) = cellsP (R ++ [(p.1, z)]) := by
    rw [cellsP_snoc, cellsP_snoc, List.set_append_right _ _ (by rw [cellsP_len]; omega), cellsP_len, show R.length * 2 + 1 - 2 * R.length = 1 by omega]
    rfl
  rw [← e]
  exact hs.1
theorem SeesI.grown {w w' : World} {v : Value} {xs : List Int} {g B : Nat} (h : SeesI w v xs) (hv : ∀ d, v.ownBlock = some d → d < B) (hg : w.grownBy w' (some g)) (hB : B ≤ g) : SeesI w' v xs := by
  obtain ⟨ao, c, rfl, hl, hn, hc⟩ := h
  refine ⟨ao, c, rfl, hl, hn, fun a ha i hi => ?_⟩
  have hb : (a.add i).block = a.block := by unfold Addr.add; split <;> rfl
  have hd := hv a.block (by subst ha; rfl)
  exact hg.cell (hc a ha i hi) (by rw [hb]; intro e; have := Option.some.inj e; omega)
theorem SeesI.grownN {w w' : World} {v : Value} {xs : List Int} (h : SeesI w v xs) (hg : w.grownBy w' none) : SeesI w' v xs := by
  obtain ⟨ao, c, rfl, hl, hn, hc⟩ := h
  exact ⟨ao, c, rfl, hl, hn, fun a ha i hi => hg.cell (hc a ha i hi) (by simp)⟩
theorem OwnsI.block {w : World} {B : Nat} {v : Value} {xs : List Int} (h : OwnsI w B v xs) : ∀ d, v.ownBlock = some d → d < w.heap.size := fun d hd => (World.ownsRow.lt h d hd).2
theorem step_last (D : List (Int × Int)) (a b k : Int) (h : b ≠ k) : stepR (D ++ [(a, b)]) k = D ++ [(a, b)] ++ [(k, k + 1)] := by
  apply step_new
  intro p e
  rw [List.getLast?_append] at e
  simp at e
  subst e
  exact h
theorem stepR_len (o : List (Int × Int)) (k : Int) : (stepR o k).length ≤ o.length + 1 := by
  unfold stepR
  split
  · split
    · simp
      try omega
    · simp
  · simp
theorem fold_len : ∀ (l : List Int) (o : List (Int × Int)), (l.foldl stepR o).length ≤ o.length + l.length
  | [], _ => Nat.le_refl _
  | k :: l, o => by
    have h1 := fold_len l (stepR o k)
    have h2 := stepR_len o k
    rw [List.foldl_cons, List.length_cons]
    omega
set_option maxRecDepth 100000 in
set_option maxHeartbeats 8000000 in
theorem refRuns_any (x : Nat) (hx : x < M64) (w : World) :
    Calls Tryd.prog 23 #[.int .u64 x] w fun e w' => ∃ v, e = .returned v ∧ OwnsP w' w.heap.size v (runL 65 x) ∧ Below w.heap.size w w' := by
  obtain ⟨i0, hi, hz0, hz1, hz2⟩ := info_parts infoP
  have hlen := memZ_len x 64
  have HR : Hid ((memZ x 64).foldl stepR [] = runL 65 x) := Lib.hid (by
    have h := fold_runs 65 x [] hx (by omega) (fun p e => by cases e)
    rw [List.nil_append] at h
    exact h)
  have HL := Lib.hid (refList_any x hx w)
  have HB : Hid (∀ k ∈ memZ x 64, 0 ≤ k ∧ k < 64) := Lib.hid (fun k hk => by
    obtain ⟨n, rfl, h1, _⟩ := (memZ_mem _ _ _).1 hk
    omega)
  generalize runL 65 x = R at *
  generalize memZ x 64 = L at *
  clear hx
  go_enter Tryd.func23, Tryd.ntmps23
  go_wp2_with fail
  refine HL.out.mono ?_; rintro e w1 ⟨v1, rfl, ho1, hb1⟩
  have hv1 := ho1.block
  have hs1 := ho1.sees
  obtain ⟨lo, lc, rfl, hlc, hln, _⟩ := id hs1
  clear ho1
  go_wp2_with fail
  go_loopw [3, 9] (fun v j wr => ∃ (i : Nat) (D : List (Int × Int)), i ≤ L.length ∧ j = .int .i64 i ∧ D = (L.take i).foldl stepR [] ∧ OwnsP wr w1.heap.size v D ∧ SeesI wr (.slice lo L.length lc) L ∧ Below w.heap.size w wr ∧ w1.heap.size ≤ wr.heap.size) (fun _ j _ => L.length - (intOf j).toNat)
  case atStart => exact ⟨0, [], by omega, rfl, rfl, OwnsP.nil _ _, hs1, hb1, Nat.le_refl _⟩
  case round =>
    obtain ⟨i, D, hil, rfl, hD, hown, hsee, hbel, hszr⟩ := hrel
    by_cases hlt : i < L.length
    · obtain ⟨a, rfl⟩ : ∃ a, lo = some a := by
        cases lo with
        | none => rw [hln rfl] at hlt; simp at hlt
        | some a => exact ⟨a, rfl⟩
      obtain ⟨ao', lc', ee, _, _, hcc⟩ := id hsee
      cases ee
      have hcell := hcc a rfl i hlt
      clear hcc
      have hts := take_snocI L i hlt
      have hDl := fold_len (L.take i) []
      rw [← hD, List.length_take] at hDl
      have hmem : L.getD i 0 ∈ L := by rw [getD_get hlt]; exact List.getElem_mem hlt
      obtain ⟨kb0, kb1⟩ := HB.out _ hmem
      generalize L.getD i 0 = k at hcell hts hmem kb0 kb1
      have HDn : Hid ((L.take (i + 1)).foldl stepR [] = stepR D k) := Lib.hid (by rw [hts, List.foldl_append, ← hD]; rfl)
      clear hts hD hmem
      simp only [List.length_nil, Nat.zero_add] at hDl
      have hi64 : i ≤ 64 := by omega
      have HLT := Lib.hid hlt
      rcases List.eq_nil_or_concat D with hnil | ⟨D0, p, hcon⟩
      · subst hnil
        have hst : stepR [] k = [(k, k + 1)] := rfl
        rw [hst] at HDn
        obtain ⟨so, sc, rfl, _⟩ := hown.form
        have hown2 := hown
        clear hst hDl
        go_wp2_with (first | (at_builtin; refine wpList_append_own _ rfl _ _ 41 rfl w1.heap.size 44 i0 (.agg #[.int .i64 0, .int .i64 0]) 2 16 Tryd.underlying41 hi hz0 hz1 hz2 rfl (by decide) _ _ _ rfl (hown2.alloc _) ⟨wr.heap.size, 0, none⟩ 1 1 [.int .i64 k, .int .i64 (k + 1)] rfl rfl ?qc1 ?qc2 ?qc3 ?qc4 ?qc5 ?_) | go_in)
        case qc1 =>
          intro j u hj
          match j, hj with
          | 0, hj =>
            simp at hj
            subst hj
            rw [add0]
            simp
          | 1, hj =>
            simp at hj
            subst hj
            rw [add0]
            simp
          | j + 2, hj => simp at hj
        case qc2 =>
          intro u hu
          simp at hu
          rcases hu with rfl | rfl <;> rfl
        case qc3 => unfold maxLen; simp
        case qc4 => simp
        case qc5 => first | omega | (simp; omega)
        intro v' w3 hown' hgrow _
        go_wp2
        go_roundw
        case rel =>
          have hbl := (belNew wr (.cells #[.int .i64 k, .int .i64 (k + 1)] 44))
          refine ⟨i + 1, [(k, k + 1)], HLT.out, by go_num, HDn.out.symm, hown', ?_, (belAlloc hbel _).grown hgrow (by have := hbel.size; simp; omega) (fun g hg => by have := (hown.lt g hg).1; have := hb1.size; omega), ?_⟩
          · have hk2 := hsee.keep hbl
            cases hso : so with
            | none => subst hso; exact SeesI.grownN hk2 hgrow
            | some z => subst hso; exact hk2.grown hv1 hgrow (by have := (hown.lt z.block rfl).1; omega)
          · have := hgrow.size; simp at this; omega
        case measure => simp [intOf]; have := HLT.out; omega
      · rw [List.concat_eq_append] at hcon
        subst hcon
        obtain ⟨a0, b0⟩ := p
        obtain ⟨g, c, rfl, hBg, hgs, hcap, hlast, hfro⟩ := hown.last
        have hown2 := hown
        have hl1 : (D0 ++ [(a0, b0)]).length = D0.length + 1 := by simp
        rw [hl1] at hDl
        simp only [] at hlast
        clear hl1
        by_cases hbk : b0 = k
        · subst hbk
          rw [step_ext] at HDn
          have hput := hown.put (b0 + 1)
          have HP := Lib.hid hput
          clear hput hown2
          go_wp2_with fail
          go_roundw
          case rel =>
            have hg2 := HP.out.2
            refine ⟨i + 1, D0 ++ [(a0, b0 + 1)], HLT.out, by go_num, HDn.out.symm, HP.out.1, hsee.grown hv1 hg2 hBg, hbel.grown hg2 hbel.size (fun d e => by have := Option.some.inj e; have := hb1.size; omega), ?_⟩
            have := hg2.size
            omega
          case measure => simp [intOf]; have := HLT.out; omega
        · rw [step_last _ _ _ _ hbk] at HDn
          have d0 : (b0 == k) = false := by simpa using hbk
          clear hbk
          go_wp2_with (first | (at_builtin; refine wpList_append_own _ rfl _ _ 41 rfl w1.heap.size 44 i0 (.agg #[.int .i64 0, .int .i64 0]) 2 16 Tryd.underlying41 hi hz0 hz1 hz2 rfl (by decide) _ _ _ rfl (hown2.alloc _) ⟨wr.heap.size, 0, none⟩ 1 1 [.int .i64 k, .int .i64 (k + 1)] rfl rfl ?qc1 ?qc2 ?qc3 ?qc4 ?qc5 ?_) | go_in)
          case qc1 =>
            intro j u hj
            match j, hj with
            | 0, hj =>
              simp at hj
              subst hj
              rw [add0]
              simp
            | 1, hj =>
              simp at hj
              subst hj
              rw [add0]
              simp
            | j + 2, hj => simp at hj
          case qc2 =>
            intro u hu
            simp at hu
            rcases hu with rfl | rfl <;> rfl
          case qc3 => unfold maxLen; simp; omega
          case qc4 => simp; omega
          case qc5 => first | omega | (simp; omega)
          intro v' w3 hown' hgrow _
          go_wp2
          go_roundw
          case rel =>
            have hbl := (belNew wr (.cells #[.int .i64 k, .int .i64 (k + 1)] 44))
            have hg3 : (wr.alloc (.cells #[.int .i64 k, .int .i64 (k + 1)] 44)).grownBy w3 (some g) := hgrow
            refine ⟨i + 1, D0 ++ [(a0, b0)] ++ [(k, k + 1)], HLT.out, by go_num, HDn.out.symm, ?_, (hsee.keep hbl).grown hv1 hg3 hBg, (belAlloc hbel _).grown hg3 (by have := hbel.size; simp; omega) (fun d e => by have := Option.some.inj e; have := hb1.size; omega), ?_⟩
            · have e1 : (D0 ++ [(a0, b0)] ++ [(k, k + 1)]).length = D0.length + 1 + 1 := by simp
              unfold OwnsP
              rw [e1, cellsP_snoc, cellsP_snoc, List.append_assoc]
              exact hown'
            · have := hgrow.size; simp at this; omega
          case measure => simp [intOf]; have := HLT.out; omega
    · obtain rfl : i = L.length := by omega
      have hDR : D = R := by rw [hD, List.take_length]; exact HR.out
      subst hDR
      clear hD
      go_wp2_with fail
      go_ret
      exact ⟨_, rfl, ⟨hown.1, hown.2.imp id fun ⟨g, cap, cur, e, hB, r⟩ => ⟨g, cap, cur, e, by have := hb1.size; omega, r⟩⟩, hbel⟩
end Go.Proofs.YthkhikmdcadceaaDoor
