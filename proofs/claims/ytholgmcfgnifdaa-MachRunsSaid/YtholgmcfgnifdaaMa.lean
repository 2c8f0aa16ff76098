/- Package mach: a procedure in its block; New, Op, Steps, Ask; Feed where nothing is asked, or nothing goes on. -/
import Derived.Test.YtholgmcfgnifdaaKvInv
import Derived.Test.YtholgmcfgnifdaaGr
import Derived.Laws.ByValue
import Derived.Deep.MidRow
namespace Go.Proofs.Ytholgmcfgnifdaa
open Go.RowKit Go.Maps
abbrev opZ : KOp := ⟨0, emp, emp, 0, emp, 0⟩
abbrev procO (o : KOp) (a : Bool) (f : Value) (n : Int) : Obj := .cells #[.int .i64 o.kind, .string o.key, .string o.val, .int .i64 o.rev, .string o.iff, .int .i64 o.ifRev, .bool a, f, .int .i64 n] 73 (0, 0)
/-- A procedure, alone in block g: what it asks, whether, what goes on, how often it was told. -/
def ProcAt (w : World) (g : Nat) (o : KOp) (a : Bool) (f : Value) (n : Int) : Prop := w.heap[g]? = some (procO o a f n)
theorem ProcAt.keep {w w' : World} {g : Nat} {o : KOp} {a : Bool} {f : Value} {n : Int} (h : ProcAt w g o a f n) (hk : w'.heap[g]? = w.heap[g]?) : ProcAt w' g o a f n := hk.trans h
theorem ProcAt.below {w w' : World} {g : Nat} {o : KOp} {a : Bool} {f : Value} {n : Int} (h : ProcAt w g o a f n) (hb : Below w.heap.size w w') : ProcAt w' g o a f n := (hb.block g (heap_lt h)).trans h
theorem ProcAt.opcells {w : World} {g : Nat} {o : KOp} {a : Bool} {f : Value} {n : Int} (h : ProcAt w g o a f n) :
    w.cell? ⟨g, 0, none⟩ = some (.int .i64 o.kind) ∧ w.cell? ⟨g, 1, none⟩ = some (.string o.key) ∧ w.cell? ⟨g, 2, none⟩ = some (.string o.val) ∧ w.cell? ⟨g, 3, none⟩ = some (.int .i64 o.rev) ∧ w.cell? ⟨g, 4, none⟩ = some (.string o.iff) ∧ w.cell? ⟨g, 5, none⟩ = some (.int .i64 o.ifRev) := by
  unfold ProcAt at h
  refine ⟨?_, ?_, ?_, ?_, ?_, ?_⟩ <;> simp [World.cell?, h]
theorem ProcAt.asks {w : World} {g : Nat} {o : KOp} {a : Bool} {f : Value} {n : Int} (h : ProcAt w g o a f n) : w.cell? ⟨g, 6, none⟩ = some (.bool a) ∧ w.cell? ⟨g, 7, none⟩ = some f ∧ w.cell? ⟨g, 8, none⟩ = some (.int .i64 n) := by
  unfold ProcAt at h
  refine ⟨?_, ?_, ?_⟩ <;> simp [World.cell?, h]
theorem ProcAt.froz {w : World} {g : Nat} {o : KOp} {a : Bool} {f : Value} {n : Int} (h : ProcAt w g o a f n) (i : Nat) : w.frozen? ⟨g, i, none⟩ = false := by
  unfold ProcAt at h
  simp [World.frozen?, h]
/-- A procedure's first fields written anew, one by one. -/
def putOp (w : World) (g : Nat) (o : KOp) : World := (((((w.setCell ⟨g, 0, none⟩ (.int .i64 o.kind)).setCell ⟨g, 1, none⟩ (.string o.key)).setCell ⟨g, 2, none⟩ (.string o.val)).setCell ⟨g, 3, none⟩ (.int .i64 o.rev)).setCell ⟨g, 4, none⟩ (.string o.iff)).setCell ⟨g, 5, none⟩ (.int .i64 o.ifRev)
theorem ProcAt.op {w : World} {g : Nat} {o : KOp} {a : Bool} {f : Value} {n : Int} (h : ProcAt w g o a f n) (o' : KOp) : ProcAt (putOp w g o') g o' a f n := by
  unfold ProcAt putOp
  exact dset (dset (dset (dset (dset (dset h 0 _) 1 _) 2 _) 3 _) 4 _) 5 _
theorem touch_putOp (w : World) (g : Nat) (o : KOp) : Touch (· = g) w (putOp w g o) :=
  (((((touch_set w g 0 _).trans (touch_set _ g 1 _) (fun _ _ h => h)).trans (touch_set _ g 2 _) (fun _ _ h => h)).trans (touch_set _ g 3 _) (fun _ _ h => h)).trans (touch_set _ g 4 _) (fun _ _ h => h)).trans (touch_set _ g 5 _) (fun _ _ h => h)
theorem ProcAt.setAsk {w : World} {g : Nat} {o : KOp} {a : Bool} {f : Value} {n : Int} (h : ProcAt w g o a f n) (a' : Bool) : ProcAt (w.setCell ⟨g, 6, none⟩ (.bool a')) g o a' f n := dset h 6 _
theorem ProcAt.setThen {w : World} {g : Nat} {o : KOp} {a : Bool} {f : Value} {n : Int} (h : ProcAt w g o a f n) (f' : Value) : ProcAt (w.setCell ⟨g, 7, none⟩ f') g o a f' n := dset h 7 _
theorem ProcAt.setSteps {w : World} {g : Nat} {o : KOp} {a : Bool} {f : Value} {n : Int} (h : ProcAt w g o a f n) (n' : Int) : ProcAt (w.setCell ⟨g, 8, none⟩ (.int .i64 n')) g o a f n' := dset h 8 _
theorem eqNilPr (w : World) (a : Option Addr) : (binOp .eql 28 (.pointer a) (.pointer none)).run Try.prog w = .ok (.bool a.isNone) w := by cases a <;> kernel_rfl
theorem storeFn (fn : Fn) (fi ca : Array Value) (a : Addr) (w : World) : (store a (.func fn fi ca)).run Try.prog w = stored Try.prog w a (.func fn fi ca) .plain := run_store Try.prog w a _ _ rfl
theorem storeNo (a : Addr) (w : World) : (store a .nilFunc).run Try.prog w = stored Try.prog w a .nilFunc .plain := run_store Try.prog w a _ _ rfl
/-- What is asked, stored whole. -/
theorem wpStOp {g : Nat} {o0 o1 : KOp} {b0 : Bool} {f0 : Value} {n0 : Int} {w : World} {ops : Array Oper} {rest : List Oper} {o : Oper} {a : Act} {Q : Exit → Act → World → Prop}
    (hgd : o.guard = none) (x y : Operand) (ho : o.op = .store 37 x y) (hx : a.eval x = .pointer (some ⟨g, 0, none⟩)) (hy : a.eval y = opV o1) (h : ProcAt w g o0 b0 f0 n0)
    (hK : ∀ w', ProcAt w' g o1 b0 f0 n0 → w.grownBy w' (some g) → wpList Try.prog ops Q rest (a.put o.dst undef) w') : wpList Try.prog ops Q (o :: rest) a w := by
  refine wpList_store_mid hgd 37 x y ho g 0 #[.int .i64 o1.kind, .string o1.key, .string o1.val, .int .i64 o1.rev, .string o1.iff, .int .i64 o1.ifRev] hx hy ?_ (by kernel_rfl) (by simp [Value.oneCell']) ?_
  · intro j hj
    have hj' : j < 6 := hj
    have h' : w.heap[g]? = some (procO o0 b0 f0 n0) := h
    rw [Nat.zero_add]
    constructor
    · simp only [World.cell?, h']
      rcases j with _ | _ | _ | _ | _ | _ | j
      all_goals first | exact ⟨_, rfl⟩ | rfl | (exfalso; omega)
    · exact h.froz j
  · have e : w.setCells g 0 (#[Value.int .i64 o1.kind, .string o1.key, .string o1.val, .int .i64 o1.rev, .string o1.iff, .int .i64 o1.ifRev] : Array Value).toList = putOp w g o1 := rfl
    rw [e]
    exact hK _ (h.op o1) (grown_trans (grown_trans (grown_trans (grown_trans (grown_trans (grown_set w g 0 _) (grown_set _ g 1 _)) (grown_set _ g 2 _)) (grown_set _ g 3 _)) (grown_set _ g 4 _)) (grown_set _ g 5 _))
set_option maxRecDepth 100000 in
set_option maxHeartbeats 1000000 in
theorem newP_any (w : World) : Calls Try.prog 7 #[] w fun e w' => e = .returned (ptr w.heap.size) ∧ ProcAt w' w.heap.size opZ false .nilFunc 0 ∧ Below w.heap.size w w' := by
  go_enter Try.func7, Try.ntmps7
  go_wp2_with fail
  go_ret
  exact ⟨rfl, heap_alloc_new w _, belNew w _⟩
set_option maxRecDepth 100000 in
set_option maxHeartbeats 1000000 in
theorem steps_any (g : Nat) (o : KOp) (a : Bool) (f : Value) (n : Int) (w : World) (h : ProcAt w g o a f n) : Calls Try.prog 13 #[ptr g] w fun e w' => e = .returned (.int .i64 n) ∧ w = w' := by
  obtain ⟨-, -, c8⟩ := h.asks
  have q := eqNilPr
  clear h
  go_enter Try.func13, Try.ntmps13
  go_wp2_with fail
  go_ret
  exact ⟨rfl, rfl⟩
set_option maxRecDepth 100000 in
set_option maxHeartbeats 1000000 in
theorem steps_nil (w : World) : Calls Try.prog 13 #[.pointer none] w fun e w' => e = .returned (.int .i64 0) ∧ w = w' := by
  have q := eqNilPr
  go_enter Try.func13, Try.ntmps13
  go_wp2_with fail
  go_ret
  exact ⟨rfl, rfl⟩
set_option maxRecDepth 100000 in
set_option maxHeartbeats 1000000 in
theorem askF_any (g : Nat) (o o' : KOp) (a : Bool) (fn : Fn) (fi ca : Array Value) (f' : Value) (n : Int) (w : World) (h : ProcAt w g o' a f' n) :
    Calls Try.prog 23 #[ptr g, opV o, (.func fn fi ca)] w fun e w' => e = .returned (.tuple #[]) ∧ ProcAt w' g o true (.func fn fi ca) n ∧ Touch (· = g) w w' := by
  obtain ⟨W, hW⟩ : ∃ W, W = w.alloc (opO o) := ⟨_, rfl⟩
  have hb0 := belNew w (opO o)
  have hB := heap_alloc_new w (opO o)
  rw [← hW] at hb0 hB
  have HP := Lib.hid (h.below hb0)
  have HB := Lib.hid hb0
  obtain ⟨k0, k1, k2, k3, k4, k5⟩ := opcells hB
  have q := eqNilPr
  have sf := storeFn fn fi ca
  have HW := Lib.hid hW
  clear hb0 hB h hW
  go_enter Try.func23, Try.ntmps23
  go_upto_region 1 with fail
  change Code.wp _ _ _ _ (w.alloc (opO o))
  rw [← HW.out]
  clear HW
  go_wp2_with (refine wpStOp rfl _ _ rfl rfl rfl HP.out ?_; intro w2 hP2 hg2; have HP2 := Lib.hid hP2; have HG2 := Lib.hid hg2; have c6 := hP2.asks.1; have c7 := hP2.asks.2.1; have z6 := hP2.froz 6; have z7 := hP2.froz 7; clear hP2 hg2 k0 k1 k2 k3 k4 k5)
  go_end0
  exact ⟨rfl, (HP2.out.setAsk true).setThen (.func fn fi ca), (((Touch.of_below (· = g) HB.out).trans (Touch.of_grown HG2.out (fun _ hk => (Option.some.inj hk).symm)) (fun _ _ h => h)).trans (touch_set _ g 6 _) (fun _ _ h => h)).trans (touch_set _ g 7 _) (fun _ _ h => h)⟩
set_option maxRecDepth 100000 in
set_option maxHeartbeats 1000000 in
theorem askN_any (g : Nat) (o o' : KOp) (a : Bool)  (f' : Value) (n : Int) (w : World) (h : ProcAt w g o' a f' n) :
    Calls Try.prog 23 #[ptr g, opV o, .nilFunc] w fun e w' => e = .returned (.tuple #[]) ∧ ProcAt w' g o true .nilFunc n ∧ Touch (· = g) w w' := by
  obtain ⟨W, hW⟩ : ∃ W, W = w.alloc (opO o) := ⟨_, rfl⟩
  have hb0 := belNew w (opO o)
  have hB := heap_alloc_new w (opO o)
  rw [← hW] at hb0 hB
  have HP := Lib.hid (h.below hb0)
  have HB := Lib.hid hb0
  obtain ⟨k0, k1, k2, k3, k4, k5⟩ := opcells hB
  have q := eqNilPr
  have sf := storeNo
  have HW := Lib.hid hW
  clear hb0 hB h hW
  go_enter Try.func23, Try.ntmps23
  go_upto_region 1 with fail
  change Code.wp _ _ _ _ (w.alloc (opO o))
  rw [← HW.out]
  clear HW
  go_wp2_with (refine wpStOp rfl _ _ rfl rfl rfl HP.out ?_; intro w2 hP2 hg2; have HP2 := Lib.hid hP2; have HG2 := Lib.hid hg2; have c6 := hP2.asks.1; have c7 := hP2.asks.2.1; have z6 := hP2.froz 6; have z7 := hP2.froz 7; clear hP2 hg2 k0 k1 k2 k3 k4 k5)
  go_end0
  exact ⟨rfl, (HP2.out.setAsk true).setThen .nilFunc, (((Touch.of_below (· = g) HB.out).trans (Touch.of_grown HG2.out (fun _ hk => (Option.some.inj hk).symm)) (fun _ _ h => h)).trans (touch_set _ g 6 _) (fun _ _ h => h)).trans (touch_set _ g 7 _) (fun _ _ h => h)⟩
set_option maxRecDepth 100000 in
set_option maxHeartbeats 1000000 in
theorem askNilF_any (o : KOp) (fn : Fn) (fi ca : Array Value) (w : World) : Calls Try.prog 23 #[.pointer none, opV o, (.func fn fi ca)] w fun e w' => e = .returned (.tuple #[]) ∧ Below w.heap.size w w' := by
  have q := eqNilPr
  go_enter Try.func23, Try.ntmps23
  go_wp2_with fail
  refine bodyPost_ret (results_none rfl _ _ _) rfl ?_
  exact ⟨rfl, belNew w (opO o)⟩
set_option maxRecDepth 100000 in
set_option maxHeartbeats 1000000 in
theorem askNilN_any (o : KOp)  (w : World) : Calls Try.prog 23 #[.pointer none, opV o, .nilFunc] w fun e w' => e = .returned (.tuple #[]) ∧ Below w.heap.size w w' := by
  have q := eqNilPr
  go_enter Try.func23, Try.ntmps23
  go_wp2_with fail
  refine bodyPost_ret (results_none rfl _ _ _) rfl ?_
  exact ⟨rfl, belNew w (opO o)⟩
end Go.Proofs.Ytholgmcfgnifdaa
