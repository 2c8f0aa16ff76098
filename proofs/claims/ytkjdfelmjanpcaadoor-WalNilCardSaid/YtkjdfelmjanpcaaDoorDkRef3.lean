/- The document's own disk: without, put. -/
import Derived.Test.YtkjdfelmjanpcaaDoorDkRef2
namespace Go.Proofs.YtkjdfelmjanpcaaDoor
open Go.RowKit Go.Maps
theorem delE_snoc {β : Type} (k : List UInt8) (T : List (List UInt8 × β)) (y : List UInt8 × β) : delE k (T ++ [y]) = if y.1 = k then delE k T else delE k T ++ [y] := by
  unfold delE
  rw [List.filter_append]
  by_cases h : y.1 = k
  · rw [if_pos h, List.filter_cons_of_neg (by simp [h])]; simp
  · rw [if_neg h, List.filter_cons_of_pos (by simp [h])]; simp
theorem take_snoc {α : Type} {L : List α} {i : Nat} (h : i < L.length) : L.take (i + 1) = L.take i ++ [L[i]] := by
  rw [List.take_add_one, List.getElem?_eq_getElem h]; rfl
theorem delE_le {β : Type} (k : List UInt8) (L : List (List UInt8 × β)) : (delE k L).length ≤ L.length := List.length_filter_le _ _
set_option maxRecDepth 100000 in
set_option maxHeartbeats 4000000 in
theorem without_r (r : Nat) (v x1 x2 : Value) (L : List FEnt) (s : ByteArray) (w : World) (hr : w.heap[r]? = some (.cells #[v, x1, x2] 42 (0, 0))) (hv : SeesF w v L) (hn : L.length ≤ 1000000) :
    Calls Tryd.prog 87 #[ptr r, .string s] w fun e w' => ∃ v', e = .returned v' ∧ RowF w' w.heap.size v' (delE s.data.toList L) ∧ Below w.heap.size w w' := by
  obtain ⟨c0, -⟩ := rcells hr
  obtain ⟨ao, c, rfl, hlc, hnil, hc⟩ := hv
  have HC := Lib.hid (And.intro hnil hc)
  have hrl := heap_lt hr
  clear hnil hc hr
  go_enter Tryd.func87, Tryd.ntmps87
  go_wp2_with fail
  go_loopw [5, 13] (fun x j wr => ∃ i : Nat, i ≤ L.length ∧ j = .int .i64 i ∧ Below w.heap.size w wr ∧ RowF wr w.heap.size x (delE s.data.toList (L.take i))) (fun _ j _ => L.length - (intOf j).toNat)
  case atStart => exact ⟨0, Nat.zero_le _, rfl, Below.refl _ _, World.ownsRow_nil _ _ _ _⟩
  case round =>
    obtain ⟨i, hi, rfl, hB, hrow⟩ := hrel
    by_cases hlt : i < L.length
    · obtain ⟨a, rfl⟩ : ∃ a, ao = some a := by
        cases ao with
        | none => rw [HC.out.1 rfl] at hlt; simp at hlt
        | some a => exact ⟨a, rfl⟩
      obtain ⟨g, rfl, hg, hcs⟩ := HC.out.2 a rfl
      obtain ⟨q0, q1, q2⟩ := hcs i L[i] (List.getElem?_eq_getElem hlt)
      have q0 := (hB.cell (cell_lt8 q0)).trans q0
      have q1 := (hB.cell (cell_lt8 q1)).trans q1
      have q2 := (hB.cell (cell_lt8 q2)).trans q2
      have b0 : (0 : Int) ≤ (i : Int) := by omega
      have b1 : (i : Int) < (L.length : Int) := by omega
      have hle : (delE s.data.toList (L.take i)).length ≤ i := Nat.le_trans (delE_le _ _) (by rw [List.length_take]; omega)
      have hsz := hB.size
      clear hcs
      by_cases he : L[i].1 = s.data.toList
      · have d0 : (L[i].1 == s.toList) = true := by rw [ByteArray.toList_eq]; simpa using he
        go_wp2_with fail
        go_roundw
        case rel =>
          refine ⟨i + 1, by omega, by go_num, belAlloc hB _, ?_⟩
          rw [take_snoc hlt, delE_snoc, if_pos he]
          exact hrow.alloc _
        case measure => simp [intOf]; omega
      · have d0 : (L[i].1 == s.toList) = false := by rw [ByteArray.toList_eq]; simpa using he
        have hrow1 := hrow.alloc (.cells #[.string ⟨L[i].1.toArray⟩, .string (strOfNums L[i].2.1), .int .i64 (L[i].2.2 : Nat)] 89)
        have hB1 := belAlloc hB (.cells #[.string ⟨L[i].1.toArray⟩, .string (strOfNums L[i].2.1), .int .i64 (L[i].2.2 : Nat)] 89)
        go_wp2_with (first
          | (at_builtin; refine wpList_pushF rfl (.tmp 21) (.tmp 23) rfl w.heap.size u5 _ ⟨L[i].1.toArray⟩ L[i].2 (wr.heap.size + 1) (by simp) rfl rfl hrow1 (by omega) (by simp; omega) ?_; intro v2 w2 hrow2 hb2 _)
          | fail)
        go_roundw
        case rel =>
          refine ⟨i + 1, by omega, by go_num, hB1.trans hb2, ?_⟩
          rw [take_snoc hlt, delE_snoc, if_neg he]
          exact hrow2
        case measure => simp [intOf]; omega
    · obtain rfl : i = L.length := by omega
      rw [List.take_length] at hrow
      go_wp2_with fail
      go_ret
      exact ⟨_, rfl, hrow, hB⟩
end Go.Proofs.YtkjdfelmjanpcaaDoor
