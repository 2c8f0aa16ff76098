/- slices.Sorted(maps.Keys(m)) of a map without entries. -/
import Derived.Test.YtlbgjmnihenmaaaGreatDoorVwMap
import Derived.Test.YtlbgjmnihenmaaaGreatDoorVwB
import Derived.Shelf.SlIter.Nil
import Derived.Laws.IdiomRangeMap
import Derived.LoopN
import Derived.Laws.ByValue
namespace Go.Proofs.YtlbgjmnihenmaaaGreatDoor
open Go.RowKit
abbrev TGm : TypeId := 78
set_option maxRecDepth 100000 in
set_option maxHeartbeats 4000000 in
theorem keysE (n l Bm b clk : Nat) (W : World) (hm : W.cell? ⟨Bm, 0, none⟩ = some (.map (some b))) (hb : W.heap[b]? = some (.map #[] clk)) :
    CallsIn Fence.wide n Tryz.prog 71 #[.func (.yield l) #[] #[], .pointer (some ⟨Bm, 0, none⟩)] W fun e W' => (∃ v, e = .returned v) ∧ Below W.heap.size W W' := by
  have hrg := run_range_map (P := Tryz.prog) W TGm 41 76 b #[] clk Tryz.underlying78 hb
  have hnx : ∀ ty, (Instr.next (.pointer (some ⟨W.heap.size, 0, none⟩)) false ty).run Tryz.prog (W.alloc (.mapIter (some b) clk #[] clk)) = .ok (.tuple #[.bool false]) (W.alloc (.mapIter (some b) clk #[] clk)) := fun ty => by
    rcases run_next_map (P := Tryz.prog) W ty b clk clk #[] #[] clk hb (fun x hx => by simp at hx) (Nat.le_refl _) with ⟨_, h⟩ | ⟨e, he, _⟩
    · exact h
    · simp [leftOf] at he
  refine callsIn_of_wp Tryz.func71 rfl trivial ?_ rfl
  simp only [Tryz.ntmps71, List.size_toArray, List.length_cons, List.length_nil, Nat.reduceAdd, Nat.reduceSub, Array.replicate_succ, Array.replicate_zero, List.push_toArray, List.append_toArray, List.nil_append, List.cons_append]
  gi_wp2
  refine wpIn_loop_rounds 1 ?_
  rw [roundsIn_succ]
  gi_wp2
  go_end0
  exact ⟨⟨_, rfl⟩, belNew _ _⟩
abbrev itF (Bm : Nat) : Value := .func (.func 71) #[] #[.pointer (some ⟨Bm, 0, none⟩)]
theorem put_other {w : World} {l i : Nat} {o : Obj} (h : i ≠ l) : (w.putObj l o).heap[i]? = w.heap[i]? := World.putObj_heap_other h
theorem put_size (w : World) (l : Nat) (o : Obj) : (w.putObj l o).heap.size = w.heap.size := by simp [World.putObj]
/-- A range over a function that ends without a round. -/
theorem rangeFunc_none {n : Nat} {g : Operand} {ps : Array Tmp} {assign body : Code} {Q : Exit → Act → World → Prop} {a : Act} {w : World} (fid : FuncId) (lb : Array Value) (hg : a.eval g = .func (.func fid) #[] lb) (hn : 1 ≤ n)
    (henter : ∀ args w, (callFunc fid args).run Tryz.prog w = .ok (.enter fid args) w)
    (hcall : ∀ W1, Below w.heap.size w W1 → CallsIn Fence.wide (n - 1) Tryz.prog fid (#[.func (.yield (w.heap.size + 1)) #[] #[]] ++ lb) W1 fun e W' => (∃ v, e = .returned v) ∧ Below W1.heap.size W1 W')
    (hQ : ∀ W4, Below w.heap.size w W4 → W4.heap[w.heap.size]? = some (.deferred (some [])) → Q .normal { a with defers := [{ target := .collected w.heap.size, args := #[] }] ++ a.defers } W4) :
    (Code.rangeFunc g ps assign body).wpIn Fence.wide n Tryz.prog Q a w := by
  refine wpIn_rangeFunc ?_
  intro fn _
  obtain ⟨W1, hW1⟩ : ∃ W1, W1 = (w.alloc (.deferred (some []))).alloc (.loop { state := .ready, pending := none, fn, tmps := a.tmps, params := ps, assign, body, defers := w.heap.size }) := ⟨_, rfl⟩
  have hb1 : Below w.heap.size w W1 := by rw [hW1]; exact belAlloc (belNew w _) _
  have hd1 : W1.heap[w.heap.size]? = some (.deferred (some [])) := by
    rw [hW1]
    exact (Below.heap_alloc _ _ _ (by simp)).trans (heap_alloc_new w _)
  have hl1 : W1.heap[w.heap.size + 1]? = some (.loop { state := .ready, pending := none, fn, tmps := a.tmps, params := ps, assign, body, defers := w.heap.size }) := by
    rw [hW1]
    have := heap_alloc_new (w.alloc (.deferred (some []))) (.loop { state := .ready, pending := none, fn, tmps := a.tmps, params := ps, assign, body, defers := w.heap.size })
    simpa using this
  refine ⟨w.heap.size + 1, [{ target := .collected w.heap.size, args := #[] }], W1, { target := .fn (.func fid) lb, args := #[.func (.yield (w.heap.size + 1)) #[] #[]] }, W1, fid, #[.func (.yield (w.heap.size + 1)) #[] #[]] ++ lb, W1, ?_, ?_, fun _ _ => trivial, ?_, fun _ => hn, ?_⟩
  · rw [hW1]; exact run_enterLoop_outer _ _ _ _ _
  · have hg2 : ({ a with defers := [{ target := .collected w.heap.size, args := #[] }] ++ a.defers } : Act).eval g = .func (.func fid) #[] lb := hg
    have hg3 := hg
    simp [go_sem] at hg3
    simp [resolve, go_sem, hg3]
  · simp [invoke, go_sem, henter]
  · refine (hcall W1 hb1).mono ?_
    rintro e W2 ⟨⟨v, rfl⟩, hb2⟩
    have hl2 := (hb2.block _ (heap_lt hl1)).trans hl1
    have hd2 := (hb2.block _ (heap_lt hd1)).trans hd1
    refine ⟨none, _, run_endLoop hl2 (by simp), ?_⟩
    refine hQ _ ?_ ((put_other (by omega)).trans hd2)
    have hb := hb1.trans (hb2.mono hb1.size)
    exact hb.trans ⟨rfl, rfl, rfl, by rw [put_size]; exact Nat.le_refl _, fun i hi => put_other (by omega)⟩
set_option maxRecDepth 100000 in
set_option maxHeartbeats 4000000 in
theorem appendE (n Bm b clk : Nat) (hn : 2 ≤ n) (w : World) (hm : w.cell? ⟨Bm, 0, none⟩ = some (.map (some b))) (hb : w.heap[b]? = some (.map #[] clk)) :
    CallsIn Fence.wide n Tryz.prog 106 #[.slice none 0 0, itF Bm] w fun e w' => e = .returned (.slice none 0 0) ∧ Below w.heap.size w w' := by
  refine callsIn_of_wp_marks Tryz.func106 rfl trivial ?_ rfl
  simp only [Tryz.ntmps106, List.size_toArray, List.length_cons, List.length_nil, Nat.reduceAdd, Nat.reduceSub, Array.replicate_succ, Array.replicate_zero, List.push_toArray, List.append_toArray, List.nil_append, List.cons_append]
  gi_wp2
  obtain ⟨W0, hW0⟩ : ∃ W0, w.alloc (.cells #[.slice none 0 0] 67) = W0 := ⟨_, rfl⟩
  have hs0 : W0.heap.size = w.heap.size + 1 := by rw [← hW0]; simp
  have hv0 : W0.heap[w.heap.size]? = some (.cells #[.slice none 0 0] 67 (0, 0)) := by rw [← hW0]; exact World.alloc_heap_new w _
  have hb0 : Below w.heap.size w W0 := by rw [← hW0]; exact belNew w _
  rw [hW0]
  refine rangeFunc_none 71 #[.pointer (some ⟨Bm, 0, none⟩)] rfl (by omega) (fun args w => by kernel_rfl) (fun W1 hb1 => keysE (n - 1) _ Bm b clk W1 ?_ ?_) (fun W4 hb4 hd4 => ?_)
  · have h1 := hb0.trans (hb1.mono hb0.size)
    exact (h1.cell (p := ⟨Bm, 0, none⟩) (cell_lt8 hm)).trans hm
  · exact ((hb0.trans (hb1.mono hb0.size)).block _ (heap_lt hb)).trans hb
  · have hv4 := (hb4.block _ (heap_lt hv0)).trans hv0
    have hc4 : W4.cell? ⟨w.heap.size, 0, none⟩ = some (.slice none 0 0) := by simp [World.cell?, hv4]
    have hbb := hb0.trans (hb4.mono hb0.size)
    clear hv0 hv4
    gi_wp2
    refine ⟨by simp, .inl ⟨_, _, rfl, run_takeDeferred hd4, ?_⟩⟩
    refine ⟨_, results_tmp rfl _ _ _, rfl, hbb.trans ⟨rfl, rfl, rfl, by rw [put_size]; exact Nat.le_refl _, fun i hi => put_other (by omega)⟩⟩
set_option maxRecDepth 100000 in
set_option maxHeartbeats 4000000 in
theorem collectE (Bm b clk : Nat) (w : World) (hm : w.cell? ⟨Bm, 0, none⟩ = some (.map (some b))) (hb : w.heap[b]? = some (.map #[] clk)) :
    Calls Tryz.prog 69 #[itF Bm] w fun e w' => e = .returned (.slice none 0 0) ∧ Below w.heap.size w w' := by
  have HA := Lib.hid (callsIn_wide.1 (appendE 2 Bm b clk (Nat.le_refl _) w hm hb))
  clear hm hb
  go_enter Tryz.func69, Tryz.ntmps69
  go_wp2_with fail
  refine HA.out.mono ?_; rintro e w1 ⟨rfl, hb1⟩
  go_wp2_with fail
  go_ret
  exact ⟨rfl, hb1⟩
set_option maxRecDepth 100000 in
set_option maxHeartbeats 4000000 in
theorem insE0 (w : World) :
    Calls Tryz.prog 142 #[.slice none 0 0, .int .i64 0, .int .i64 0] w fun e w' => (∃ v, e = .returned v) ∧ Below w.heap.size w w' := by
  go_enter Tryz.func142, Tryz.ntmps142
  go_wp2_with fail
  refine wp_loop_rounds 1 ?_
  rw [rounds_succ]
  go_wp2_with fail
  go_end0
  exact ⟨⟨_, rfl⟩, Below.refl _ _⟩
set_option maxRecDepth 100000 in
set_option maxHeartbeats 4000000 in
theorem pdqE0 (lim : Int) (w : World) :
    Calls Tryz.prog 107 #[.slice none 0 0, .int .i64 0, .int .i64 0, .int .i64 lim] w fun e w' => (∃ v, e = .returned v) ∧ Below w.heap.size w w' := by
  have HA := Lib.hid (insE0 w)
  go_enter Tryz.func107, Tryz.ntmps107
  go_wp2_with fail
  refine wp_loop_rounds 1 ?_
  rw [rounds_succ]
  go_wp2_with fail
  refine HA.out.mono ?_; rintro e w1 ⟨⟨v, rfl⟩, hb1⟩
  go_wp2_with fail
  refine bodyPost_ret (results_none rfl _ _ _) rfl ⟨⟨_, rfl⟩, hb1⟩
set_option maxRecDepth 100000 in
set_option maxHeartbeats 4000000 in
theorem sortE0 (w : World) :
    Calls Tryz.prog 70 #[.slice none 0 0] w fun e w' => (∃ v, e = .returned v) ∧ Below w.heap.size w w' := by
  have HL := Lib.hid (Tryz.bits_Len 0 w (by omega) (by omega))
  have HP := Lib.hid (fun lim w => pdqE0 lim w)
  go_enter Tryz.func70, Tryz.ntmps70
  go_wp2_with fail
  refine HL.out.mono ?_; rintro e w1 ⟨rfl, rfl⟩
  go_wp2_with fail
  refine (HP.out _ _).mono ?_; rintro e w2 ⟨⟨v, rfl⟩, hb2⟩
  go_wp2_with fail
  go_end0
  exact ⟨⟨_, rfl⟩, hb2⟩
set_option maxRecDepth 100000 in
set_option maxHeartbeats 4000000 in
theorem sortedE (Bm b clk : Nat) (w : World) (hm : w.cell? ⟨Bm, 0, none⟩ = some (.map (some b))) (hb : w.heap[b]? = some (.map #[] clk)) :
    Calls Tryz.prog 42 #[itF Bm] w fun e w' => e = .returned (.slice none 0 0) ∧ Below w.heap.size w w' := by
  have HA := Lib.hid (collectE Bm b clk w hm hb)
  have HS := Lib.hid (fun w => sortE0 w)
  clear hm hb
  go_enter Tryz.func42, Tryz.ntmps42
  go_wp2_with fail
  refine HA.out.mono ?_; rintro e w1 ⟨rfl, hb1⟩
  go_wp2_with fail
  refine (HS.out _).mono ?_; rintro e w2 ⟨⟨v, rfl⟩, hb2⟩
  go_wp2_with fail
  go_ret
  exact ⟨rfl, bel hb1 hb2⟩
set_option maxRecDepth 100000 in
set_option maxHeartbeats 4000000 in
theorem keysOf_any (b : Nat) (w : World) :
    Calls Tryz.prog 43 #[.map (some b)] w fun e w' => e = .returned (itF w.heap.size) ∧ w'.cell? ⟨w.heap.size, 0, none⟩ = some (.map (some b)) ∧ Below w.heap.size w w' := by
  go_enter Tryz.func43, Tryz.ntmps43
  go_wp2_with fail
  go_ret
  exact ⟨rfl, by unfold World.cell?; simp only []; rw [heap_alloc_new w (.cells #[.map (some b)] 78)]; rfl, belNew _ _⟩
end Go.Proofs.YtlbgjmnihenmaaaGreatDoor
