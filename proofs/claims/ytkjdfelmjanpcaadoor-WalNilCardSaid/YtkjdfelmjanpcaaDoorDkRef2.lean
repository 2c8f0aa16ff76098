/- The document's own disk: write, without, put. -/
import Derived.Test.YtkjdfelmjanpcaaDoorDkRef
import Derived.Maps.AppendAt
namespace Go.Proofs.YtkjdfelmjanpcaaDoor
open Go.RowKit Go.Maps
def howR (lost armed : Bool) (left : Int) : Int := if lost = true then 1 else if lost1 lost armed left = true then 2 else 0
abbrev RCells (w : World) (r : Nat) (v : Value) (lost : Bool) (n : Int) : Prop := w.heap[r]? = some (.cells #[v, .bool lost, .int .i64 n] 42 (0, 0))
theorem rcells {w : World} {g : Nat} {a b c : Value} {t : TypeId} (h : w.heap[g]? = some (.cells #[a, b, c] t (0, 0))) : w.cell? ⟨g, 0, none⟩ = some a ∧ w.cell? ⟨g, 1, none⟩ = some b ∧ w.cell? ⟨g, 2, none⟩ = some c := by simp [World.cell?, h]
theorem rfroz {w : World} {g : Nat} {a b c : Value} {t : TypeId} (h : w.heap[g]? = some (.cells #[a, b, c] t (0, 0))) (i : Nat) : w.frozen? ⟨g, i, none⟩ = false := by simp [World.frozen?, h]
set_option maxRecDepth 100000 in
set_option maxHeartbeats 2000000 in
theorem write_r (r : Nat) (v : Value) (lost armed : Bool) (left : Int) (w : World) (h : RCells w r v lost (leftR armed left)) (h0 : 0 ≤ left) (h1 : left ≤ 9223372036854775807) :
    Calls Tryd.prog 72 #[ptr r] w fun e w' => e = .returned (.int .i64 (howR lost armed left)) ∧ RCells w' r v (lost1 lost armed left) (leftR armed (left1 lost armed left)) ∧ Touch (· = r) w w' := by
  obtain ⟨c0, c1, c2⟩ := rcells h
  have f1 := rfroz h 1
  have f2 := rfroz h 2
  cases lost with
  | true =>
    have e1 : lost1 true armed left = true := by simp [lost1]
    have e2 : left1 true armed left = left := by simp [left1, lost1]
    have e3 : howR true armed left = 1 := if_pos rfl
    rw [e1, e2, e3]
    have HD := Lib.hid h
    clear h
    go_enter Tryd.func72, Tryd.ntmps72
    go_wp2
    go_ret
    exact ⟨rfl, HD.out, Touch.refl _ _⟩
  | false =>
    cases armed with
    | false =>
      have e1 : lost1 false false left = false := by simp [lost1]
      have e2 : left1 false false left = left := by simp [left1]
      have e3 : howR false false left = 0 := by unfold howR; rw [e1]; rfl
      have e4 : leftR false left = -1 := rfl
      rw [e1, e2, e3]
      rw [e4] at c2
      have HD := Lib.hid h
      clear h
      go_enter Tryd.func72, Tryd.ntmps72
      go_wp2
      go_ret
      exact ⟨rfl, HD.out, Touch.refl _ _⟩
    | true =>
      have e4 : leftR true left = left := rfl
      rw [e4] at c2
      by_cases hl : left = 0
      · subst hl
        have e1 : lost1 false true 0 = true := by simp [lost1]
        have e2 : left1 false true 0 = 0 := by unfold left1; rw [if_neg (by rw [e1]; simp)]
        have e3 : howR false true 0 = 2 := by unfold howR; rw [e1]; rfl
        rw [e1, e2, e3]
        have HD := Lib.hid (dset h 1 (.bool true))
        have HT := Lib.hid (touch_set w r 1 (.bool true))
        clear h
        go_enter Tryd.func72, Tryd.ntmps72
        go_wp2
        go_ret
        exact ⟨rfl, HD.out, HT.out⟩
      · have b0 : (left == 0) = false := by simpa using hl
        have b1 : decide (0 < left) = true := by simp; omega
        have e1 : lost1 false true left = false := by simp [lost1, b0]
        have e2 : left1 false true left = left - 1 := by simp [left1, lost1, b0]
        have e3 : howR false true left = 0 := by unfold howR; rw [e1]; rfl
        have s1 : IntKind.i64.wrap (left - 1) = left - 1 := IntWalk.i64_in _ (by omega)
        rw [e1, e2, e3]
        have HD := Lib.hid (dset h 2 (.int .i64 (left - 1)))
        have HT := Lib.hid (touch_set w r 2 (.int .i64 (left - 1)))
        clear h
        go_enter Tryd.func72, Tryd.ntmps72
        go_wp2
        go_ret
        exact ⟨rfl, HD.out, HT.out⟩
theorem info62 : (Tryd.prog.info? 89).map (fun i => (i.zero, i.size, i.bytes)) = some (some zeroR, 3, 40) := by kernel_rfl
/-- append of one file to a row of the call's own. -/
theorem wpList_pushF {w0 : World} {ops : Array Oper} {rest : List Oper} {o : Oper} {a : Act} {Q : Exit → Act → World → Prop} (hgd : o.guard = none) (s x : Operand)
    (ho : o.op = .call { callee := .builtin .append, args := #[s, x], argTypes := #[40, 40] }) (B : Nat) (v : Value) (L : List FEnt) (nm : ByteArray) (u : List Int × Nat)
    (k : Nat) (hk : k = w0.heap.size) (hs : a.eval s = v) (hx : a.eval x = .slice (some ⟨k, 0, none⟩) 1 1) (hrow : RowF w0 B v L) (hlen : L.length ≤ 1000001) (hB : B ≤ w0.heap.size)
    (h : ∀ v' w', RowF w' B v' (L ++ [(nm.data.toList, u)]) → Below B w0 w' → w0.grownBy w' v.ownBlock → wpList Tryd.prog ops Q rest (a.put o.dst v') w') :
    wpList Tryd.prog ops Q (o :: rest) a (w0.alloc (.cells #[.string nm, .string (strOfNums u.1), .int .i64 (u.2 : Nat)] 89)) := by
  subst hk
  obtain ⟨i0, hi, hz0, hz1, hz2⟩ := info_parts info62
  have hbk := heap_alloc_new w0 (.cells #[.string nm, .string (strOfNums u.1), .int .i64 (u.2 : Nat)] 89)
  refine wpList_append_own _ hgd s x 40 ho B 89 i0 zeroR 3 40 Tryd.underlying40 hi hz0 hz1 hz2 rfl (by decide) v _ _ hs (hrow.alloc _) ⟨w0.heap.size, 0, none⟩ 1 1 [.string nm, .string (strOfNums u.1), .int .i64 (u.2 : Nat)] hx rfl (fun j y hj => ?_) ?_ (by unfold maxLen; omega) (by omega) (by simp; omega) ?_
  · rw [add0]
    rcases j with _ | _ | _ | j
    · obtain rfl : Value.string nm = y := by simpa using hj
      exact (rcells hbk).1
    · obtain rfl : Value.string (strOfNums u.1) = y := by simpa using hj
      exact (rcells hbk).2.1
    · obtain rfl : Value.int .i64 (u.2 : Nat) = y := by simpa using hj
      exact (rcells hbk).2.2
    · simp at hj
  · intro y hy
    simp only [List.mem_cons, List.not_mem_nil, or_false] at hy
    rcases hy with rfl | rfl | rfl <;> rfl
  · intro v' w' hown' hgrow _
    have hg0 : w0.grownBy w' v.ownBlock := World.grownBy.trans (b := w0.alloc (.cells #[.string nm, .string (strOfNums u.1), .int .i64 (u.2 : Nat)] 89)) ⟨rfl, rfl, rfl, by simp, fun k hk _ => Below.heap_alloc w0 _ k hk⟩ hgrow
    refine h v' w' ?_ ((Below.refl B w0).grown hg0 hB (fun k hk => (hrow.lt k hk).1)) hg0
    have e1 : (L ++ [(nm.data.toList, u)]).length = L.length + 1 := by simp
    have e2 : (L ++ [(nm.data.toList, u)]).flatMap encF = L.flatMap encF ++ [.string nm, .string (strOfNums u.1), .int .i64 (u.2 : Nat)] := by simp [List.flatMap_append, encF]
    show w'.ownsRow _ _ _ _ _ _
    rw [e1, e2]
    exact hown'
end Go.Proofs.YtkjdfelmjanpcaaDoor
