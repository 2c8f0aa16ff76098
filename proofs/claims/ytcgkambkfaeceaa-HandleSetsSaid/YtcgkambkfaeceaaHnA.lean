/- Package handle: the first address of a block, how many may be counted, how many there are together. -/
import Derived.Test.YtcgkambkfaeceaaHnM
namespace Go.Proofs.Ytcgkambkfaeceaa
open Go.RowKit
theorem hole26 : hole 26 = 64 := by decide
theorem block26 (a : Int) (ha : 0 ≤ a) (ha' : a < 4294967296) (w : World) :
    Calls Try.prog 41 #[.int .u32 a, .int .i64 26] w fun e w' => e = .returned (.tuple #[.agg #[.int .u32 (a - a % 64), .int .i64 26], .int .i64 0]) ∧ Below w.heap.size w w' := by
  have HB : Hid (∀ w, Calls Try.prog 54 #[.int .i64 26] w fun e w' => e = .returned (.bool true) ∧ w = w') := Lib.hid (fun w => mayBits_any 26 w)
  have HM := Lib.hid (and_mask a 26 ha ha' (by omega) (by omega))
  rw [hole26] at HM
  go_enter Try.func41, Try.ntmps41
  go_wp2_with fail
  refine (HB.out _).mono ?_; rintro e w' ⟨rfl, rfl⟩
  go_wp2_with fail
  refine (mask_any 26 _).mono ?_; rintro e w' ⟨rfl, rfl⟩
  go_wp2_with fail
  refine bodyPost_ret (v := .tuple #[.agg #[.int .u32 (bits .and .u32 a (maskI 26)), .int .i64 26], .int .i64 0]) ?_ rfl ⟨by rw [HM.out], ?_⟩
  · simp [results, Try.results41, go_sem]
  · exact belNew w _
theorem first_any (a : Int) (ha : 0 ≤ a) (ha' : a < 4294967296) (w : World) :
    Calls Try.prog 26 #[.int .u32 a] w fun e w' => e = .returned (.int .u32 (a - a % 64)) ∧ Below w.heap.size w w' := by
  have HB := Lib.hid (block26 a ha ha' w)
  go_enter Try.func26, Try.ntmps26
  go_wp2_with fail
  refine HB.out.mono ?_; rintro e w1 ⟨rfl, hb1⟩
  have HB1 := Lib.hid (belAlloc hb1 (.cells #[.int .u32 (a - a % 64), .int .i64 26] 71))
  clear hb1
  go_wp2_with fail
  go_ret
  exact ⟨rfl, HB1.out⟩
def mayC (n : Int) : Bool := decide (0 ≤ n ∧ n ≤ 65535)
theorem mayCount_any (n : Int) (w : World) :
    Calls Try.prog 27 #[.int .i64 n] w fun e w' => e = .returned (.bool (mayC n)) ∧ w = w' := by
  by_cases h0 : 0 ≤ n
  · have d0 : decide (0 ≤ n) = true := by simpa using h0
    have HV : Hid (decide (n ≤ 65535) = mayC n) := Lib.hid (by unfold mayC; rw [Bool.eq_iff_iff]; simp [h0])
    go_enter Try.func27, Try.ntmps27
    go_wp2
    go_ret
    exact ⟨congrArg (fun b => Ending.returned (.bool b)) HV.out, rfl⟩
  · have d0 : decide (0 ≤ n) = false := by simpa using h0
    have HV : Hid (false = mayC n) := Lib.hid (by unfold mayC; simp; omega)
    go_enter Try.func27, Try.ntmps27
    go_wp2
    go_ret
    exact ⟨congrArg (fun b => Ending.returned (.bool b)) HV.out, rfl⟩
abbrev hnO (v : Value) : Obj := .cells #[v] 25
abbrev hnV (v : Value) : Value := .agg #[v]
theorem hcell {w : World} {g : Nat} {x : Value} {t : TypeId} {fr : Nat × Nat} (h : w.heap[g]? = some (.cells #[x] t fr)) : w.cell? ⟨g, 0, none⟩ = some x := by simp [World.cell?, h]
theorem hfroz {w : World} {g : Nat} {x : Value} {t : TypeId} (h : w.heap[g]? = some (.cells #[x] t (0, 0))) : w.frozen? ⟨g, 0, none⟩ = false := by simp [World.frozen?, h]
theorem heap_new (w : World) (o : Obj) : (w.alloc o).heap[w.heap.size]? = some o := by
  show (w.heap.push o)[w.heap.size]? = some o
  simp
def CntBd (L : CntL) : Prop := ∀ p ∈ L, (0 ≤ p.1 ∧ p.1 < 4294967296) ∧ -9223372036854775808 ≤ p.2 ∧ p.2 ≤ 9223372036854775807
theorem at2_bd {L : CntL} (h : CntBd L) (k : Nat) : (0 ≤ (at2 L k).1 ∧ (at2 L k).1 < 4294967296) ∧ -9223372036854775808 ≤ (at2 L k).2 ∧ (at2 L k).2 ≤ 9223372036854775807 := by
  by_cases hk : k < L.length
  · exact h _ (List.mem_of_getElem? (at2_get hk))
  · unfold at2
    rw [List.getD_eq_getElem?_getD, List.getElem?_eq_none (by omega)]
    simp
end Go.Proofs.Ytcgkambkfaeceaa
