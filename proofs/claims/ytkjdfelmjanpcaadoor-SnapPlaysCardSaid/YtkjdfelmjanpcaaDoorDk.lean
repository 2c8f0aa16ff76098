/- Package disk: its calls over what lies in memory. Conditions: a name's size is one that Go's strings have; the bounds said of each. -/
import Derived.Test.YtkjdfelmjanpcaaDoorDkMap
import Derived.StillTailTactics
import Derived.WalkSmall
import Derived.Deep.RegionHeld3
namespace Go.Proofs.YtkjdfelmjanpcaaDoor
open Go.RowKit Go.Maps
/-- A disk in block g: its map, what the map holds, and its three other fields. -/
def DiskE (w : World) (g : Nat) (mb : Option Nat) (es : List Ent) (lost armed : Bool) (left : Int) : Prop :=
  w.heap[g]? = some (.cells #[.map mb, .bool lost, .bool armed, .int .i64 left] 78 (0, 0)) ∧ (∀ b, mb = some b → MapIs w b es.length es) ∧ (mb = none → es = []) ∧ ∀ p ∈ es, ∃ ao n c su, p.2 = .agg #[.slice ao n c, .int .i64 su]
theorem MapIs.tight {w : World} {b n : Nat} {fs : List Ent} (h : MapIs w b n fs) : MapIs w b fs.length fs := by
  obtain ⟨es, clock, hb, F, hs, hD⟩ := h
  refine ⟨es, clock, hb, F, ?_, hD⟩
  unfold datum at hD
  injection hD with hD
  have h2 := congrArg List.length hD
  rw [List.length_map, length_sorted, List.length_map] at h2
  have h3 : es.toList.length = es.size := Array.length_toList
  omega
theorem look_nil {s : ByteArray} (hs : s.size ≤ maxLen) (c : Bool) (w : World) :
    (Instr.lookup 76 (.map none) (.string s) c).run Tryd.prog w = .ok (if c then .tuple #[zeroF, .bool false] else zeroF) w := by
  have hc := fun em => keyedS.check w em (keyS hs)
  rcases keyedS.find w (keyS hs) [] (by simp) with ⟨h1, _⟩ | ⟨j, e0, _, h2, _⟩
  · cases c <;> simp [Instr.lookup, run_underlying Tryd.underlying76, hc, h1, zeroFile w, Result.andThen]
  · simp at h2
theorem DiskE.keep {w w' : World} {g : Nat} {mb : Option Nat} {es : List Ent} {lost armed : Bool} {left : Int} (h : DiskE w g mb es lost armed left) (hb : Below w.heap.size w w') : DiskE w' g mb es lost armed left :=
  ⟨(hb.block g (heap_lt h.1)).trans h.1, fun b e => (h.2.1 b e).heap (hb.block b (h.2.1 b e).lt), h.2.2⟩
theorem DiskE.look {w : World} {g : Nat} {mb : Option Nat} {es : List Ent} {lost armed : Bool} {left : Int} (h : DiskE w g mb es lost armed left) {s : ByteArray} (hs : s.size ≤ maxLen) (c : Bool) :
    (Instr.lookup 76 (.map mb) (.string s) c).run Tryd.prog w = .ok (if c then .tuple #[(getE es s.data.toList).getD zeroF, .bool (getE es s.data.toList).isSome] else (getE es s.data.toList).getD zeroF) w := by
  obtain ⟨_, h1, h2, _⟩ := h
  cases mb with
  | none => rw [h2 rfl, look_nil hs c]; rfl
  | some b => exact (h1 b rfl).look hs c
theorem getE_mem {β : Type} {es : List (List UInt8 × β)} {k : List UInt8} {v : β} (h : getE es k = some v) : (k, v) ∈ es := by
  unfold getE at h
  cases hf : es.find? (fun p => p.1 == k) with
  | none => rw [hf] at h; cases h
  | some p =>
    rw [hf] at h
    have h1 := List.mem_of_find?_eq_some hf
    have h2 := List.find?_some hf
    have h3 : p.2 = v := Option.some.inj h
    have h4 : p.1 = k := by simpa using h2
    rw [← h3, ← h4]
    exact h1
theorem DiskE.got {w : World} {g : Nat} {mb : Option Nat} {es : List Ent} {lost armed : Bool} {left : Int} (h : DiskE w g mb es lost armed left) (k : List UInt8) : ∃ ao n c su, (getE es k).getD zeroF = .agg #[.slice ao n c, .int .i64 su] := by
  cases hg : getE es k with
  | none => exact ⟨_, _, _, _, rfl⟩
  | some v =>
    exact h.2.2.2 _ (getE_mem hg)
theorem dcells {w : World} {g : Nat} {a b c d : Value} {t : TypeId} (h : w.heap[g]? = some (.cells #[a, b, c, d] t (0, 0))) : w.cell? ⟨g, 0, none⟩ = some a ∧ w.cell? ⟨g, 1, none⟩ = some b ∧ w.cell? ⟨g, 2, none⟩ = some c ∧ w.cell? ⟨g, 3, none⟩ = some d := by simp [World.cell?, h]
theorem dfroz {w : World} {g : Nat} {a b c d : Value} {t : TypeId} (h : w.heap[g]? = some (.cells #[a, b, c, d] t (0, 0))) (i : Nat) : w.frozen? ⟨g, i, none⟩ = false := by simp [World.frozen?, h]
set_option maxRecDepth 100000 in
set_option maxHeartbeats 2000000 in
theorem find_any (g : Nat) (mb : Option Nat) (es : List Ent) (lost armed : Bool) (left : Int) (s : ByteArray) (w : World) (h : DiskE w g mb es lost armed left) (hs : s.size ≤ maxLen) :
    Calls Tryd.prog 44 #[.pointer (some ⟨g, 0, none⟩), .string s] w fun e w' => e = .returned (.tuple #[(getE es s.data.toList).getD zeroF, .int .i64 (if (getE es s.data.toList).isSome then 0 else 6)]) ∧ Below w.heap.size w w' := by
  have q : ∀ (w : World) (a : Option Addr), (binOp .eql 23 (.pointer a) (.pointer none)).run Tryd.prog w = .ok (.bool a.isNone) w := fun w a => by cases a <;> rfl
  obtain ⟨ao, n, c, su, hv⟩ := h.got s.data.toList
  have hL : ∀ w', Below w.heap.size w w' → (Instr.lookup 76 (.map mb) (.string s) true).run Tryd.prog w' = .ok (.tuple #[.agg #[.slice ao n c, .int .i64 su], .bool (getE es s.data.toList).isSome]) w' := fun w' hb => by
    have h2 : DiskE w' g mb es lost armed left := h.keep hb
    have := h2.look hs true
    rw [hv] at this
    exact this
  obtain ⟨c0, -⟩ := dcells h.1
  have hz := World.block_lt_of_cell? w _ c0
  have c1 : (w.alloc (.cells #[.slice none 0 0, .int .i64 0] 85)).cell? ⟨g, 0, none⟩ = some (.map mb) := by rw [World.cell?_alloc_lt w _ ⟨g, 0, none⟩ hz]; exact c0
  rw [hv]
  cases hb : (getE es s.data.toList).isSome with
  | true =>
    rw [hb] at hL
    have HL := Lib.hid hL
    have hL0 := hL (w.alloc (.cells #[.slice none 0 0, .int .i64 0] 85)) (belNew w _)
    clear hL h hv hb
    go_enter Tryd.func44, Tryd.ntmps44
    go_wp2
    refine bodyPost_ret (v := .tuple #[.agg #[.slice ao n c, .int .i64 su], .int .i64 0]) (by simp [results, Tryd.results44, go_sem]) rfl ⟨rfl, ?_⟩
    repeat (first | exact Below.refl _ _ | refine Below.setCell ?_ (by simp) _ | refine Below.alloc ?_ (by simp) _)
  | false =>
    rw [hb] at hL
    have HL := Lib.hid hL
    have hL0 := hL (w.alloc (.cells #[.slice none 0 0, .int .i64 0] 85)) (belNew w _)
    have hz0 : none = ao ∧ 0 = n ∧ 0 = c ∧ 0 = su := by
      cases hg : getE es s.data.toList with
      | none =>
        simp only [hg, zeroF, Option.getD_none, Value.agg.injEq, Array.mk.injEq, List.cons.injEq, Value.slice.injEq, Value.int.injEq, and_true, true_and] at hv
        exact ⟨hv.1.1, hv.1.2.1, hv.1.2.2, hv.2⟩
      | some v => rw [hg] at hb; cases hb
    obtain ⟨rfl, rfl, rfl, rfl⟩ := hz0
    clear hL h hv hb
    go_enter Tryd.func44, Tryd.ntmps44
    go_wp2
    refine bodyPost_ret (v := .tuple #[.agg #[.slice none 0 0, .int .i64 0], .int .i64 6]) (by simp [results, Tryd.results44, go_sem]) rfl ⟨rfl, ?_⟩
    repeat (first | exact Below.refl _ _ | refine Below.setCell ?_ (by simp) _ | refine Below.alloc ?_ (by simp) _)
set_option maxRecDepth 100000 in
theorem find_nil (s : ByteArray) (w : World) :
    Calls Tryd.prog 44 #[.pointer none, .string s] w fun e w' => e = .returned (.tuple #[zeroF, .int .i64 2]) ∧ Below w.heap.size w w' := by
  unfold zeroF
  go_enter Tryd.func44, Tryd.ntmps44
  go_wp2
  refine bodyPost_ret (v := .tuple #[.agg #[.slice none 0 0, .int .i64 0], .int .i64 2]) (by simp [results, Tryd.results44, go_sem]) rfl ⟨rfl, ?_⟩
  repeat (first | exact Below.refl _ _ | refine Below.setCell ?_ (by simp) _ | refine Below.alloc ?_ (by simp) _)
end Go.Proofs.YtkjdfelmjanpcaaDoor
