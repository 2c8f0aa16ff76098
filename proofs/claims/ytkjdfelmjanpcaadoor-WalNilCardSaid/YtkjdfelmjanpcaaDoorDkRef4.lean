/- The document's own disk: put. -/
import Derived.Test.YtkjdfelmjanpcaaDoorDkRef3
namespace Go.Proofs.YtkjdfelmjanpcaaDoor
open Go.RowKit Go.Maps Go.WideShapes Go.WideAt
def anyB (k : List UInt8) (T : List FEnt) : Bool := T.any (fun y => bytesBefore k y.1)
def midP (x : FEnt) (T : List FEnt) : List FEnt := if anyB x.1 T = true then insE x T else T
theorem insE_any (x y : FEnt) : ∀ T : List FEnt, anyB x.1 T = true → insE x (T ++ [y]) = insE x T ++ [y]
  | [], h => by simp [anyB] at h
  | a :: r, h => by
    rw [List.cons_append, insE, insE]
    by_cases hb : bytesBefore x.1 a.1 = true
    · rw [if_pos hb, if_pos hb]; rfl
    · rw [if_neg hb, if_neg hb, insE_any x y r (by unfold anyB at h ⊢; simpa [hb] using h)]; rfl
theorem insE_none (x : FEnt) (S : List FEnt) : ∀ T : List FEnt, anyB x.1 T = false → insE x (T ++ S) = T ++ insE x S
  | [], _ => rfl
  | a :: r, h => by
    have h1 : ¬ bytesBefore x.1 a.1 = true ∧ anyB x.1 r = false := by unfold anyB at h ⊢; simpa using h
    rw [List.cons_append, insE, if_neg h1.1, insE_none x S r h1.2]; rfl
theorem anyB_snoc (k : List UInt8) (T : List FEnt) (y : FEnt) : anyB k (T ++ [y]) = (anyB k T || bytesBefore k y.1) := by unfold anyB; simp
theorem less_before : ∀ a b : List UInt8, Op.bytesLess a b = bytesBefore a b
  | [], [] => rfl
  | [], _ :: _ => rfl
  | _ :: _, [] => rfl
  | a :: r, b :: s => by unfold Op.bytesLess bytesBefore; rw [less_before r s]
theorem before_not {a b : List UInt8} (h : a ≠ b) : bytesBefore a b = !(bytesBefore b a) := by
  cases h1 : bytesBefore a b with
  | true =>
    cases h2 : bytesBefore b a with
    | true =>
      have h3 := bytes_trans a b a h1 h2
      rw [bytes_irrefl] at h3
      cases h3
    | false => rfl
  | false =>
    rcases bytes_total a b h with h2 | h2
    · rw [h1] at h2; cases h2
    · rw [h2]; rfl
theorem insE_end (x : FEnt) (T : List FEnt) (h : anyB x.1 T = false) : insE x T = T ++ [x] := by
  have := insE_none x [] T h
  rw [List.append_nil] at this
  exact this
theorem midP_len (x : FEnt) (T : List FEnt) : (midP x T).length ≤ T.length + 1 := by
  unfold midP
  split
  · rw [insE_length]; exact Nat.le_refl _
  · omega
theorem row_le {w : World} {B B' : Nat} {v : Value} {L : List FEnt} (h : RowF w B v L) (hb : B' ≤ B) : RowF w B' v L := ⟨h.1, h.2.imp id fun ⟨g, cap, cur, e, b, r⟩ => ⟨g, cap, cur, e, Nat.le_trans hb b, r⟩⟩
theorem row_ne {w : World} {B r : Nat} {v : Value} {L : List FEnt} (h : RowF w B v L) (hr : r < B) : v.ownBlock = none ∨ v.ownBlock ≠ some r := by
  cases hv : v.ownBlock with
  | none => exact Or.inl rfl
  | some d => exact Or.inr (fun e => by have h1 := (World.ownsRow.lt h d hv).1; have h2 := Option.some.inj e; omega)
set_option maxRecDepth 100000 in
set_option maxHeartbeats 4000000 in
theorem put_r (r : Nat) (v x1 x2 : Value) (L : List FEnt) (s : ByteArray) (u : List Int × Nat) (w : World) (hr : w.heap[r]? = some (.cells #[v, x1, x2] 42 (0, 0))) (hv : SeesF w v L) (hn : L.length ≤ 1000000) :
    Calls Tryd.prog 73 #[ptr r, .agg #[.string s, .string (strOfNums u.1), .int .i64 (u.2 : Nat)]] w fun e w' => e = .returned (.tuple #[]) ∧ ∃ v', w'.heap[r]? = some (.cells #[v', x1, x2] 42 (0, 0)) ∧ RowF w' w.heap.size v' (putE s.data.toList u L) ∧ Touch (· = r) w w' := by
  have hrl := heap_lt hr
  have hb0 := belNew w (.cells #[.string s, .string (strOfNums u.1), .int .i64 (u.2 : Nat)] 89)
  have hbx := heap_alloc_new w (.cells #[.string s, .string (strOfNums u.1), .int .i64 (u.2 : Nat)] 89)
  obtain ⟨w0, hw0⟩ : ∃ w0, w0 = w.alloc (.cells #[.string s, .string (strOfNums u.1), .int .i64 (u.2 : Nat)] 89) := ⟨_, rfl⟩
  have hz0 : w0.heap.size = w.heap.size + 1 := by rw [hw0]; simp
  rw [← hw0] at hb0 hbx
  obtain ⟨p0, p1, p2⟩ := rcells hbx
  have hr0 := (hb0.block r hrl).trans hr
  have HW := Lib.hid (without_r r v x1 x2 L s w0 hr0 (hv.below hb0) hn)
  obtain ⟨M, hM⟩ : ∃ M, M = delE s.data.toList L := ⟨_, rfl⟩
  have hMn : ∀ p ∈ M, p.1 ≠ s.data.toList := by
    intro p hp
    rw [hM] at hp
    have := (List.mem_filter.1 hp).2
    simpa using this
  have hMl : M.length ≤ 1000000 := by rw [hM]; exact Nat.le_trans (delE_le _ _) hn
  have hput : putE s.data.toList u L = insE (s.data.toList, u) M := by rw [hM]; rfl
  rw [← hM] at HW
  rw [hput]
  have HMN := Lib.hid hMn
  have HB0 := Lib.hid hb0
  have HBX := Lib.hid hbx
  have HR0 := Lib.hid hr0
  have HW0 := Lib.hid hw0
  clear hM hput hMn hb0 hbx hr0 hv hr hw0
  go_enter Tryd.func73, Tryd.ntmps73
  go_upto_region 3 with fail
  rw [← HW0.out]
  go_wp2_with fail
  refine HW.out.mono ?_; rintro e w1 ⟨v1, rfl, hrow1, hb1⟩
  have hz1 := hb1.size
  have hbx1 := (hb1.block w.heap.size (by omega)).trans HBX.out
  have HB1 := Lib.hid (HB0.out.trans (hb1.mono (by omega : w.heap.size ≤ w0.heap.size)))
  have HR1 := Lib.hid ((hb1.block r (by omega)).trans HR0.out)
  obtain ⟨ao, c, hv1, hlc, hnil, hc⟩ := RowF.sees hrow1
  subst hv1
  have HC := Lib.hid (And.intro hnil hc)
  have HX1 := Lib.hid hbx1
  clear hnil hc hrow1 hb1 hbx1 p0 p1 p2
  go_wp2_with fail
  go_loopw [4, 5, 13] (fun x dn j wr => ∃ i : Nat, i ≤ M.length ∧ j = .int .i64 i ∧ dn = .bool (anyB s.data.toList (M.take i)) ∧ Below w1.heap.size w1 wr ∧ RowF wr w1.heap.size x (midP (s.data.toList, u) (M.take i))) (fun _ _ j _ => M.length - (intOf j).toNat)
  case atStart => exact ⟨0, Nat.zero_le _, rfl, rfl, Below.refl _ _, World.ownsRow_nil _ _ _ _⟩
  case round =>
    obtain ⟨i, hi, rfl, rfl, hB, hrow⟩ := hrel
    have hxw := (hB.block w.heap.size (by omega)).trans HX1.out
    obtain ⟨p0, p1, p2⟩ := rcells hxw
    by_cases hlt : i < M.length
    · obtain ⟨a, rfl⟩ : ∃ a, ao = some a := by
        cases ao with
        | none => rw [HC.out.1 rfl] at hlt; simp at hlt
        | some a => exact ⟨a, rfl⟩
      obtain ⟨g, rfl, hg, hcs⟩ := HC.out.2 a rfl
      obtain ⟨q0, q1, q2⟩ := hcs i M[i] (List.getElem?_eq_getElem hlt)
      have q0 := (hB.cell (cell_lt8 q0)).trans q0
      have q1 := (hB.cell (cell_lt8 q1)).trans q1
      have q2 := (hB.cell (cell_lt8 q2)).trans q2
      have b0 : (0 : Int) ≤ (i : Int) := by omega
      have b1 : (i : Int) < (M.length : Int) := by omega
      have hne : M[i].1 ≠ s.data.toList := HMN.out _ (List.getElem_mem hlt)
      have d0 : (M[i].1 == s.toList) = false := by rw [ByteArray.toList_eq]; simpa using hne
      have hle : (midP (s.data.toList, u) (M.take i)).length ≤ i + 1 := Nat.le_trans (midP_len _ _) (by rw [List.length_take]; omega)
      have hsz := hB.size
      have hrow1 := hrow.alloc (.cells #[.string ⟨M[i].1.toArray⟩, .string (strOfNums M[i].2.1), .int .i64 (M[i].2.2 : Nat)] 89)
      have hB1 := belAlloc hB (.cells #[.string ⟨M[i].1.toArray⟩, .string (strOfNums M[i].2.1), .int .i64 (M[i].2.2 : Nat)] 89)
      have hzr : w.heap.size < wr.heap.size := by omega
      have p0' : (wr.alloc (.cells #[.string ⟨M[i].1.toArray⟩, .string (strOfNums M[i].2.1), .int .i64 (M[i].2.2 : Nat)] 89)).cell? ⟨w.heap.size, 0, none⟩ = some (.string s) := (rcells ((Below.heap_alloc wr _ _ hzr).trans hxw)).1
      have p1' : (wr.alloc (.cells #[.string ⟨M[i].1.toArray⟩, .string (strOfNums M[i].2.1), .int .i64 (M[i].2.2 : Nat)] 89)).cell? ⟨w.heap.size, 1, none⟩ = some (.string (strOfNums u.1)) := (rcells ((Below.heap_alloc wr _ _ hzr).trans hxw)).2.1
      have p2' : (wr.alloc (.cells #[.string ⟨M[i].1.toArray⟩, .string (strOfNums M[i].2.1), .int .i64 (M[i].2.2 : Nat)] 89)).cell? ⟨w.heap.size, 2, none⟩ = some (.int .i64 (u.2 : Nat)) := (rcells ((Below.heap_alloc wr _ _ hzr).trans hxw)).2.2
      clear hcs
      cases han : anyB s.data.toList (M.take i) with
      | true =>
        have HAN := Lib.hid han
        clear han
        go_wp2_with (first
          | (at_builtin; refine wpList_pushF rfl (.tmp 30) (.tmp 32) rfl w1.heap.size u4 _ ⟨M[i].1.toArray⟩ M[i].2 (wr.heap.size + 1) (by simp) rfl rfl hrow1 (by omega) (by simp; omega) ?_; intro v2 w2 hrow2 hb2 hg2)
          | fail)
        go_roundw
        case rel =>
          have e1 : anyB s.data.toList (M.take (i + 1)) = true := by rw [take_snoc hlt, anyB_snoc, HAN.out]; rfl
          refine ⟨i + 1, by omega, by go_num, by rw [e1], hB1.trans hb2, ?_⟩
          have e2 : midP (s.data.toList, u) (M.take (i + 1)) = midP (s.data.toList, u) (M.take i) ++ [M[i]] := by
            unfold midP
            rw [if_pos e1, if_pos HAN.out, take_snoc hlt]
            exact insE_any (s.data.toList, u) _ _ HAN.out
          rw [e2]
          exact hrow2
        case measure => simp [intOf]; omega
      | false =>
        have HAN := Lib.hid han
        clear han
        cases hbf : bytesBefore s.data.toList M[i].1 with
        | true =>
          have d1 : Op.bytesLess M[i].1 s.toList = false := by rw [ByteArray.toList_eq, less_before, before_not hne, hbf]; rfl
          have q9 : ∀ w : World, (binOp .gtr 9 (.string ⟨M[i].1.toArray⟩) (.string s)).run Tryd.prog w = .ok (.bool true) w := fun w => by
            have e9 : (⟨M[i].1.toArray⟩ : ByteArray).toList = M[i].1 := by rw [ByteArray.toList_eq]
            simp [binOp, Op.stringOp, e9, d1, d0]
          have HBF := Lib.hid hbf
          clear hbf hne
          go_wp2_with (first
            | (at_builtin; refine wpList_pushF rfl (.tmp 26) (.tmp 28) rfl w1.heap.size u4 _ s u (wr.heap.size + 1) (by simp) rfl rfl hrow1 (by omega) (by simp; omega) ?_; intro v2 w2 hrow2 hb2 hg2
               have hcp := (hg2.block wr.heap.size (by simp) (fun e => by have := (hrow.lt _ e.symm).2; omega)).trans (heap_alloc_new wr (.cells #[.string ⟨M[i].1.toArray⟩, .string (strOfNums M[i].2.1), .int .i64 (M[i].2.2 : Nat)] 89))
               have hz2 := hb2.size
               simp at hz2
               obtain ⟨t0, t1, t2⟩ := rcells hcp
               clear hcp)
            | (at_builtin; refine wpList_pushF rfl (.tmp 30) (.tmp 32) rfl w1.heap.size v2 _ ⟨M[i].1.toArray⟩ M[i].2 w2.heap.size rfl rfl rfl hrow2 (by rw [List.length_append]; simp; omega) (by omega) ?_; intro v3 w3 hrow3 hb3 _)
            | fail)
          go_roundw
          case rel =>
            have e1 : anyB s.data.toList (M.take (i + 1)) = true := by rw [take_snoc hlt, anyB_snoc, HBF.out, Bool.or_true]
            refine ⟨i + 1, by omega, by go_num, by rw [e1], (hB1.trans hb2).trans hb3, ?_⟩
            have e2 : midP (s.data.toList, u) (M.take (i + 1)) = midP (s.data.toList, u) (M.take i) ++ [(s.data.toList, u)] ++ [M[i]] := by
              unfold midP
              rw [if_pos e1, if_neg (by rw [HAN.out]; simp), take_snoc hlt, insE_none (s.data.toList, u) _ _ HAN.out, insE, if_pos HBF.out, List.append_assoc]
              rfl
            rw [e2]
            exact hrow3
          case measure => simp [intOf]; omega
        | false =>
          have d1 : Op.bytesLess M[i].1 s.toList = true := by rw [ByteArray.toList_eq, less_before, before_not hne, hbf]; rfl
          have q9 : ∀ w : World, (binOp .gtr 9 (.string ⟨M[i].1.toArray⟩) (.string s)).run Tryd.prog w = .ok (.bool false) w := fun w => by
            have e9 : (⟨M[i].1.toArray⟩ : ByteArray).toList = M[i].1 := by rw [ByteArray.toList_eq]
            simp [binOp, Op.stringOp, e9, d1, d0]
          have HBF := Lib.hid hbf
          clear hbf hne
          go_wp2_with (first
            | (at_builtin; refine wpList_pushF rfl (.tmp 30) (.tmp 32) rfl w1.heap.size u4 _ ⟨M[i].1.toArray⟩ M[i].2 (wr.heap.size + 1) (by simp) rfl rfl hrow1 (by omega) (by simp; omega) ?_; intro v2 w2 hrow2 hb2 hg2)
            | fail)
          go_roundw
          case rel =>
            have e1 : anyB s.data.toList (M.take (i + 1)) = false := by rw [take_snoc hlt, anyB_snoc, HAN.out, HBF.out]; rfl
            refine ⟨i + 1, by omega, by go_num, by rw [e1], hB1.trans hb2, ?_⟩
            have e2 : midP (s.data.toList, u) (M.take (i + 1)) = midP (s.data.toList, u) (M.take i) ++ [M[i]] := by
              unfold midP
              rw [if_neg (by rw [e1]; simp), if_neg (by rw [HAN.out]; simp), take_snoc hlt]
            rw [e2]
            exact hrow2
          case measure => simp [intOf]; omega
    · obtain rfl : i = M.length := by omega
      rw [List.take_length] at hrow ⊢
      have hle := midP_len (s.data.toList, u) M
      have hsz := hB.size
      have HBE := Lib.hid (HB1.out.trans (hB.mono HB1.out.size))
      have hrw := (hB.block r (by omega)).trans HR1.out
      cases han : anyB s.data.toList M with
      | true =>
        have e1 : midP (s.data.toList, u) M = insE (s.data.toList, u) M := if_pos han
        rw [e1] at hrow
        obtain ⟨a4, c4, hv4, -⟩ := RowF.sees hrow
        subst hv4
        obtain ⟨c0, -⟩ := rcells hrw
        have f0 := rfroz hrw 0
        have HT := Lib.hid ((Touch.of_below (· = r) HBE.out).trans (touch_set wr r 0 (.slice a4 (insE (s.data.toList, u) M).length c4)) (fun _ _ e => e))
        have HN := Lib.hid (row_le (World.ownsRow.kept hrow (grown_set wr r 0 (.slice a4 (insE (s.data.toList, u) M).length c4)) (row_ne hrow (by omega))) HB1.out.size)
        have HD := Lib.hid (dset hrw 0 (.slice a4 (insE (s.data.toList, u) M).length c4))
        clear han hrow hrw e1 hle
        go_wp2_with fail
        go_end0
        exact ⟨rfl, _, HD.out, HN.out, HT.out⟩
      | false =>
        have e1 : midP (s.data.toList, u) M = M := if_neg (by rw [han]; simp)
        have e2 := insE_end (s.data.toList, u) M han
        rw [e1] at hrow
        have E2 := Lib.hid e2
        have HRW := Lib.hid hrw
        have hz3 := HB1.out.size
        clear han e1 hle hrw e2
        go_wp2_with (first
          | (at_builtin; refine wpList_pushF rfl (.tmp 37) (.tmp 39) rfl w1.heap.size u4 _ s u wr.heap.size rfl rfl rfl hrow (by omega) (by omega) ?_; intro v2 w2 hrow2 hb2 _
             obtain ⟨a4, c4, hv4, -⟩ := RowF.sees hrow2
             subst hv4
             have hrw2 := (hb2.block r (by omega)).trans HRW.out
             obtain ⟨c0, -⟩ := rcells hrw2
             have f0 := rfroz hrw2 0
             have HT := Lib.hid ((Touch.of_below (· = r) (HBE.out.trans (hb2.mono hz3))).trans (touch_set w2 r 0 (.slice a4 (M ++ [(s.data.toList, u)]).length c4)) (fun _ _ e => e))
             have HN := Lib.hid (row_le (World.ownsRow.kept hrow2 (grown_set w2 r 0 (.slice a4 (M ++ [(s.data.toList, u)]).length c4)) (row_ne hrow2 (by omega))) hz3)
             have HD := Lib.hid (dset hrw2 0 (.slice a4 (M ++ [(s.data.toList, u)]).length c4))
             clear hrow2 hrw2)
          | fail)
        go_end0
        rw [E2.out]
        have e8 : (M ++ [(s.data.toList, u)]).length = M.length + 1 := by simp
        have hD := HD.out
        have hN := HN.out
        have hT := HT.out
        rw [e8] at hD hN hT
        exact ⟨rfl, _, hD, hN, hT⟩
end Go.Proofs.YtkjdfelmjanpcaaDoor
