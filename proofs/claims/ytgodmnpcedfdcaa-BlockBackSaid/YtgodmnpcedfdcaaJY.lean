/- Joined: BkY BkZ. -/
import Derived.Test.YtgodmnpcedfdcaaBkX
namespace Go.Proofs.Ytgodmnpcedfdcaa
section
open Go.RowKit
def emptyS (b : BlkS) : Bool := rightB b && decide (b.sl = zB.sl)
set_option maxRecDepth 100000 in
set_option maxHeartbeats 8000000 in
theorem empty15_any (b : BlkS) (fv av : Value) (w : World) (hf : Sees w fv b.free) (ha : SeesA w av b.attrs) (hw : BWf b) :
    Calls Try.prog 23 #[.agg (blkL b fv av).toArray] w fun e w' => e = .returned (.bool (emptyS b)) ∧ Below w.heap.size w w' := by
  obtain ⟨W, hW⟩ : ∃ W, W = w.alloc (blkO b fv av) := ⟨_, rfl⟩
  have hb0 := belNew w (blkO b fv av)
  have hA := heap_new w (blkO b fv av)
  rw [← hW] at hb0 hA
  have HX0 : Hid (BlkAt W w.heap.size b fv av) := Lib.hid hA
  have HB0 := Lib.hid hb0
  have HW := Lib.hid hW
  have HRB := Lib.hid (rightBlk_any (blkL b fv av).toArray b W ⟨fv, av, rfl, hf.keep hb0, ha.below hb0, hw⟩)
  have hl := hw.2.1
  have q2 := fun w => eql64 b.sl zB.sl hl zB_len w
  have q3 : ∀ w, (binOp .eql 23 (.agg (b.sl.map (Value.int .u8)).toArray) (.agg #[Value.int .u8 0, Value.int .u8 0, Value.int .u8 0, Value.int .u8 0, Value.int .u8 0, Value.int .u8 0, Value.int .u8 0, Value.int .u8 0, Value.int .u8 0, Value.int .u8 0, Value.int .u8 0, Value.int .u8 0, Value.int .u8 0, Value.int .u8 0, Value.int .u8 0, Value.int .u8 0, Value.int .u8 0, Value.int .u8 0, Value.int .u8 0, Value.int .u8 0, Value.int .u8 0, Value.int .u8 0, Value.int .u8 0, Value.int .u8 0, Value.int .u8 0, Value.int .u8 0, Value.int .u8 0, Value.int .u8 0, Value.int .u8 0, Value.int .u8 0, Value.int .u8 0, Value.int .u8 0, Value.int .u8 0, Value.int .u8 0, Value.int .u8 0, Value.int .u8 0, Value.int .u8 0, Value.int .u8 0, Value.int .u8 0, Value.int .u8 0, Value.int .u8 0, Value.int .u8 0, Value.int .u8 0, Value.int .u8 0, Value.int .u8 0, Value.int .u8 0, Value.int .u8 0, Value.int .u8 0, Value.int .u8 0, Value.int .u8 0, Value.int .u8 0, Value.int .u8 0, Value.int .u8 0, Value.int .u8 0, Value.int .u8 0, Value.int .u8 0, Value.int .u8 0, Value.int .u8 0, Value.int .u8 0, Value.int .u8 0, Value.int .u8 0, Value.int .u8 0, Value.int .u8 0, Value.int .u8 0])).run Try.prog w = .ok (.bool (decide (b.sl = zB.sl))) w := q2
  have q4 : ∀ w, (Op.equalIn 10000 23 (.agg (b.sl.map (Value.int .u8)).toArray) (.agg #[Value.int .u8 0, Value.int .u8 0, Value.int .u8 0, Value.int .u8 0, Value.int .u8 0, Value.int .u8 0, Value.int .u8 0, Value.int .u8 0, Value.int .u8 0, Value.int .u8 0, Value.int .u8 0, Value.int .u8 0, Value.int .u8 0, Value.int .u8 0, Value.int .u8 0, Value.int .u8 0, Value.int .u8 0, Value.int .u8 0, Value.int .u8 0, Value.int .u8 0, Value.int .u8 0, Value.int .u8 0, Value.int .u8 0, Value.int .u8 0, Value.int .u8 0, Value.int .u8 0, Value.int .u8 0, Value.int .u8 0, Value.int .u8 0, Value.int .u8 0, Value.int .u8 0, Value.int .u8 0, Value.int .u8 0, Value.int .u8 0, Value.int .u8 0, Value.int .u8 0, Value.int .u8 0, Value.int .u8 0, Value.int .u8 0, Value.int .u8 0, Value.int .u8 0, Value.int .u8 0, Value.int .u8 0, Value.int .u8 0, Value.int .u8 0, Value.int .u8 0, Value.int .u8 0, Value.int .u8 0, Value.int .u8 0, Value.int .u8 0, Value.int .u8 0, Value.int .u8 0, Value.int .u8 0, Value.int .u8 0, Value.int .u8 0, Value.int .u8 0, Value.int .u8 0, Value.int .u8 0, Value.int .u8 0, Value.int .u8 0, Value.int .u8 0, Value.int .u8 0, Value.int .u8 0, Value.int .u8 0])).run Try.prog w = .ok (decide (b.sl = zB.sl)) w := fun w => by
    have h1 := eqItems_u8 9998 b.sl zB.sl w (by rw [hl, zB_len]) 64 0 (by omega)
    rw [List.drop_zero, List.drop_zero, ← List.range_eq_range'] at h1
    obtain ⟨i0, hi, hz0, hz1, hz2⟩ := info_parts info8
    have h2 := run_equalIn_array (P := Try.prog) w 9999 (t := 23) (b.sl.map (Value.int .u8)).toArray (zB.sl.map (Value.int .u8)).toArray Try.underlying23 hi
    rw [cells5, h1] at h2
    exact h2
  clear q2
  have HV : Hid (emptyS b = (rightB b && decide (b.sl = zB.sl))) := Lib.hid rfl
  generalize emptyS b = R at *
  generalize decide (b.sl = zB.sl) = r at *
  generalize rightB b = q at *
  clear hW hb0 hA hf ha hw
  cases q with
  | false =>
    go_enter Try.func23, Try.ntmps23
    go_upto_region 1 with fail
    change Code.wp _ _ _ _ (w.alloc (blkO b fv av))
    rw [← HW.out]
    clear HW
    go_wp2_with (refine wpLdB rfl _ rfl rfl HX0.out hl ?_)
    refine HRB.out.mono ?_; rintro e w1 ⟨rfl, hb1⟩
    go_wp2_with fail
    go_ret
    exact ⟨by rw [HV.out]; rfl, HB0.out.trans (hb1.mono HB0.out.size)⟩
  | true =>
    go_enter Try.func23, Try.ntmps23
    go_upto_region 1 with fail
    change Code.wp _ _ _ _ (w.alloc (blkO b fv av))
    rw [← HW.out]
    clear HW
    go_wp2_with (refine wpLdB rfl _ rfl rfl HX0.out hl ?_)
    refine HRB.out.mono ?_; rintro e w1 ⟨rfl, hb1⟩
    have HX1 := Lib.hid (HX0.out.below hb1)
    have HB1 := Lib.hid (HB0.out.trans (hb1.mono HB0.out.size))
    clear hb1
    go_wp2_with (refine wpLd64g (by rfl) _ rfl rfl HX1.out hl ?_)
    go_ret
    exact ⟨by rw [HV.out]; rfl, HB1.out⟩
end
section
open Go.RowKit
end
end Go.Proofs.Ytgodmnpcedfdcaa
