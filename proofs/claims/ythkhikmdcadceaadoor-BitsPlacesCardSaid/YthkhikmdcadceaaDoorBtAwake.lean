/- Package bits: chapter 14's example; rows that are the same. -/
import Derived.Test.YthkhikmdcadceaaDoorBtRefR
namespace Go.Proofs.YthkhikmdcadceaaDoor
open Go.RowKit
theorem arr_eqP (d : Nat) (x y : Int) (W : World) : (Op.equalIn (d + 2) 44 (.agg #[.int .i64 x, .int .i64 y]) (.agg #[.int .i64 x, .int .i64 y])).run Tryd.prog W = .ok true W := by
  rw [Op.equalIn]
  simp only [Sem.run_bind, run_underlying Tryd.underlying44, Result.andThen_ok]
  simp [go_sem, Std.Legacy.Range.forIn_eq_forIn_range', Std.Legacy.Range.size, List.range', run_equalIn_int _ d 3 .i64 .i64 _ _ Tryd.underlying3]
theorem cellsP_get : ∀ (R : List (Int × Int)) (i : Nat) (p : Int × Int), R[i]? = some p → (cellsP R)[i * 2]? = some (.int .i64 p.1) ∧ (cellsP R)[i * 2 + 1]? = some (.int .i64 p.2)
  | [], i, p, h => by simp at h
  | q :: R, 0, p, h => by
    obtain rfl : q = p := by simpa using h
    exact ⟨rfl, rfl⟩
  | q :: R, i + 1, p, h => by
    obtain ⟨h1, h2⟩ := cellsP_get R i p (by simpa using h)
    have e : cellsP (q :: R) = .int .i64 q.1 :: .int .i64 q.2 :: cellsP R := rfl
    rw [e, show (i + 1) * 2 = i * 2 + 1 + 1 by omega, show i * 2 + 1 + 1 + 1 = i * 2 + 1 + 1 + 1 from rfl]
    simp only [List.getElem?_cons_succ]
    exact ⟨h1, h2⟩
theorem OwnsP.at {w : World} {B : Nat} {v : Value} {R : List (Int × Int)} (h : OwnsP w B v R) (hR : R ≠ []) :
    ∃ g c, v = .slice (some ⟨g, 0, none⟩) R.length c ∧ B ≤ g ∧ g < w.heap.size ∧ R.length ≤ c ∧ ∀ i p, R[i]? = some p → w.cell? ⟨g, i * 2, none⟩ = some (.int .i64 p.1) ∧ w.cell? ⟨g, i * 2 + 1, none⟩ = some (.int .i64 p.2) := by
  have h0 := h
  obtain ⟨_, ⟨rfl, hn⟩ | ⟨g, cap, cur, rfl, hB, hb, hnc, _, _, _⟩⟩ := h
  · exact absurd (List.eq_nil_of_length_eq_zero hn) hR
  · refine ⟨g, cap, rfl, hB, heap_ltI hb, hnc, fun i p hp => ?_⟩
    obtain ⟨k1, k2⟩ := cellsP_get R i p hp
    have hi : i < R.length := (List.getElem?_eq_some_iff.1 hp).1
    exact ⟨by rw [World.ownsRow.cellAt h0 _ (by omega), k1], by rw [World.ownsRow.cellAt h0 _ (by omega), k2]⟩
theorem ex14a : ofN [1, 2, 5] = 38 := by decide
theorem ex14b : runL 65 38 = [(1, 3), (5, 6)] := by decide +kernel
set_option maxRecDepth 100000 in
set_option maxHeartbeats 4000000 in
theorem awake14_any (w : World) (hE : Env w) :
    Calls Tryd.prog 13 #[] w fun e w' => e = .returned (.bool true) ∧ Below w.heap.size w w' := by
  obtain ⟨W, hW⟩ : ∃ W, W = w.alloc (.cells #[.int .i64 1, .int .i64 2, .int .i64 5] 3) := ⟨_, rfl⟩
  have hs : SeesI W (.slice (some ⟨w.heap.size, 0, none⟩) 3 3) [1, 2, 5] := by
    refine ⟨some ⟨w.heap.size, 0, none⟩, 3, rfl, Nat.le_refl _, (fun h => by cases h), fun a ha i hi => ?_⟩
    cases ha
    rw [add0, hW]
    match i, hi with
    | 0, _ | 1, _ | 2, _ => simp
    | i + 3, hi => exact absurd hi (by simp)
  have hb0 : Below w.heap.size w W := by rw [hW]; exact belNew w _
  have HO := Lib.hid (of_any _ _ W hs (by simp))
  rw [ex14a] at HO
  have HR := Lib.hid (runs_any 38 (by decide) W (hE.below hb0))
  rw [ex14b] at HR
  have HB := Lib.hid hb0
  have HWW := Lib.hid hW
  have e1 : ∀ W, (Op.equalIn 10000 44 (.agg #[.int .i64 1, .int .i64 3]) (.agg #[.int .i64 1, .int .i64 3])).run Tryd.prog W = .ok true W := fun W => arr_eqP 9998 1 3 W
  have e2 : ∀ W, (Op.equalIn 10000 44 (.agg #[.int .i64 5, .int .i64 6]) (.agg #[.int .i64 5, .int .i64 6])).run Tryd.prog W = .ok true W := fun W => arr_eqP 9998 5 6 W
  clear hs hb0 hW
  go_enter Tryd.func13, Tryd.ntmps13
  go_wp2_with fail
  rw [← HWW.out]
  refine HO.out.mono ?_; rintro e w1 ⟨rfl, rfl⟩
  go_wp2_with fail
  refine HR.out.mono ?_; rintro e w2 ⟨v, rfl, ho, hb2⟩
  obtain ⟨g, c, rfl, _, hgs, hc, hcell⟩ := ho.at (by simp)
  obtain ⟨c0, c1⟩ := hcell 0 (1, 3) rfl
  obtain ⟨c2, c3⟩ := hcell 1 (5, 6) rfl
  simp only [Nat.zero_mul, Nat.zero_add, Nat.one_mul] at c0 c1 c2 c3
  clear hcell
  have hc2 : 2 ≤ c := hc
  go_wp2_with fail
  go_ret
  exact ⟨rfl, HB.out.trans (hb2.mono HB.out.size)⟩
set_option maxRecDepth 100000 in
set_option maxHeartbeats 4000000 in
theorem same_yes (v u : Value) (l : List Int) (w : World) (h : SeesI w v l) (k : SeesI w u l) (hl : l.length ≤ 1000) :
    Calls Tryd.prog 7 #[v, u] w fun e w' => e = .returned (.bool true) ∧ ∃ m, w' = w.drewN m := by
  obtain ⟨ao, c, rfl, hlc, hnil, hc⟩ := h
  obtain ⟨ao2, c2, rfl, hlc2, hnil2, hc2⟩ := k
  have A1 : Aside (∀ a, ao = some a → ∀ i, i < l.length → w.cell? (a.add i) = some (.int .i64 (l.getD i 0))) := hc
  have A2 : Aside (∀ a, ao2 = some a → ∀ i, i < l.length → w.cell? (a.add i) = some (.int .i64 (l.getD i 0))) := hc2
  clear hc hc2
  go_enter Tryd.func7, Tryd.ntmps7
  go_wp2_with fail
  go_loopw [13] (fun j wr => ∃ i m : Nat, i ≤ l.length ∧ j = .int .i64 i ∧ wr = w.drewN m) (fun j _ => l.length - (intOf j).toNat)
  case atStart => exact ⟨0, 0, by omega, rfl, rfl⟩
  case round =>
    obtain ⟨i, m, hi, rfl, rfl⟩ := hrel
    by_cases hlt : i < l.length
    · obtain ⟨a, rfl⟩ : ∃ a, ao = some a := by
        cases ao with
        | none => rw [hnil rfl] at hlt; simp at hlt
        | some a => exact ⟨a, rfl⟩
      obtain ⟨a2, rfl⟩ : ∃ a, ao2 = some a := by
        cases ao2 with
        | none => rw [hnil2 rfl] at hlt; simp at hlt
        | some a => exact ⟨a, rfl⟩
      have hcell := A1 a rfl i hlt
      have hcell2 := A2 a2 rfl i hlt
      generalize l.getD i 0 = y at hcell hcell2
      have HLT := Lib.hid hlt
      go_upto_region 6 with fail
      go_quiet (fail)
      go_wp2
      go_roundw
      case rel => exact ⟨i + 1, _, HLT.out, by go_num, rfl⟩
      case measure => simp [intOf]; have := HLT.out; omega
    · obtain rfl : i = l.length := by omega
      go_wp2_with fail
      go_ret
      exact ⟨rfl, m, rfl⟩
end Go.Proofs.YthkhikmdcadceaaDoor
