/- Package block: one array of 64 bytes against another. -/
import Derived.Test.YtgodmnpcedfdcaaBkW
import Derived.ChangeKeysEq
namespace Go.Proofs.Ytgodmnpcedfdcaa
open Go.RowKit
theorem eqItems_u8 (d : Nat) (l m : List Int) (w : World) (hl : l.length = m.length) : ∀ (k n : Nat), n + k = l.length →
    (Op.eqItems (d + 1) 5 1 (l.map (Value.int .u8)).toArray (m.map (Value.int .u8)).toArray (List.range' n k)).run Try.prog w = .ok (decide (l.drop n = m.drop n)) w
  | 0, n, h => by
    have e1 : l.drop n = [] := List.drop_eq_nil_of_le (by omega)
    have e2 : m.drop n = [] := List.drop_eq_nil_of_le (by omega)
    rw [e1, e2]
    simp [Op.eqItems]
  | k + 1, n, h => by
    have ih := eqItems_u8 d l m w hl k (n + 1) (by omega)
    have h1 : n < l.length := by omega
    have h2 : n < m.length := by omega
    have hp : Try.prog.plainKey 5 = true := by kernel_rfl
    have p1 : (part 5 (l.map (Value.int .u8)).toArray (n * 1)).run Try.prog w = .ok (.int .u8 l[n]) w := run_part_plain w hp (by simp [h1])
    have p2 : (part 5 (m.map (Value.int .u8)).toArray (n * 1)).run Try.prog w = .ok (.int .u8 m[n]) w := run_part_plain w hp (by simp [h2])
    have p3 := run_equalIn_int (P := Try.prog) w d 5 .u8 .u8 l[n] m[n] Try.underlying5
    rw [List.range'_succ]
    simp only [Op.eqItems, Sem.run_bind, p1, p2, p3, Result.andThen_ok]
    rw [List.drop_eq_getElem_cons h1, List.drop_eq_getElem_cons h2]
    by_cases he : l[n] = m[n]
    · simp only [he, beq_self_eq_true, Bool.not_true, Bool.false_eq_true, if_false, List.cons.injEq, true_and]
      exact ih
    · have hb : (l[n] == m[n]) = false := by simpa using he
      have hd : decide (l[n] :: l.drop (n + 1) = m[n] :: m.drop (n + 1)) = false := decide_eq_false (fun e => he (by injection e))
      rw [hd]
      simp only [hb, Bool.not_false, if_true, Sem.run_pure]
theorem cells5 : Try.prog.cellsOf 5 = 1 := by kernel_rfl
theorem eql64 (l m : List Int) (hl : l.length = 64) (hm : m.length = 64) (w : World) : (binOp .eql 23 (.agg (l.map (Value.int .u8)).toArray) (.agg (m.map (Value.int .u8)).toArray)).run Try.prog w = .ok (.bool (decide (l = m))) w := by
  have h1 := eqItems_u8 9998 l m w (by omega) 64 0 (by omega)
  rw [List.drop_zero, List.drop_zero, ← List.range_eq_range'] at h1
  obtain ⟨i0, hi, hz0, hz1, hz2⟩ := info_parts info8
  have h2 := run_equalIn_array (P := Try.prog) w 9999 (t := 23) (l.map (Value.int .u8)).toArray (m.map (Value.int .u8)).toArray Try.underlying23 hi
  rw [cells5] at h2
  rw [run_eql_struct, h2, h1]
  rfl
/-! Same. -/
theorem wpLd64g {ops : Array Oper} {rest : List Oper} {o : Oper} {a : Act} {w : World} {Q : Exit → Act → World → Prop} {g : Nat} {b : BlkS} {fv av : Value} (hw : Region.wanted o (yielded ops a.tmps) = true) (x : Operand) (ho : o.op = .load 23 x) (hx : a.eval x = .pointer (some ⟨g, 2, none⟩)) (h : BlkAt w g b fv av) (hl : b.sl.length = 64)
    (hK : wpList Try.prog ops Q rest (a.put o.dst (.agg (b.sl.map (Value.int .u8)).toArray)) w) : wpList Try.prog ops Q (o :: rest) a w :=
  wpList_step fun K hK2 => by
    rw [if_pos hw]
    exact wp_load_mid 23 x ho g 2 hx _ _ h.slots Try.underlying23 rfl (by rw [info64, List.length_map, hl]) (hK2 _ _ hK)
def sameS (b c : BlkS) : Bool := decide (b.addr = c.addr) && (decide (b.aff = c.aff) && (decide (b.sl = c.sl) && (decide (b.free = c.free) && decide (b.attrs = c.attrs))))
set_option maxRecDepth 100000 in
set_option maxHeartbeats 8000000 in
theorem same15_any (b c : BlkS) (fv av fv2 av2 : Value) (w : World) (hf : Sees w fv b.free) (ha : SeesA w av b.attrs) (hf2 : Sees w fv2 c.free) (ha2 : SeesA w av2 c.attrs) (hl : b.sl.length = 64) (hl2 : c.sl.length = 64) (h1 : b.free.length ≤ maxLen) (h2 : c.free.length ≤ maxLen) (h3 : b.attrs.length ≤ maxLen) (h4 : c.attrs.length ≤ maxLen) :
    Calls Try.prog 41 #[.agg (blkL b fv av).toArray, .agg (blkL c fv2 av2).toArray] w fun e w' => e = .returned (.bool (sameS b c)) ∧ Below w.heap.size w w' := by
  obtain ⟨W, hW⟩ : ∃ W, W = (w.alloc (blkO b fv av)).alloc (blkO c fv2 av2) := ⟨_, rfl⟩
  obtain ⟨hb0, hA, hR, hsz⟩ := two_newB w (blkO b fv av) (blkO c fv2 av2)
  rw [← hW] at hb0 hA hR hsz
  have HX : Hid (BlkAt W w.heap.size b fv av) := Lib.hid hA
  have HY : Hid (BlkAt W (w.heap.size + 1) c fv2 av2) := Lib.hid hR
  have HB0 := Lib.hid hb0
  have HW := Lib.hid hW
  have HEU := Lib.hid (equalU_any fv fv2 b.free c.free W (hf.keep hb0) (hf2.keep hb0) h1 h2)
  have HEA := Lib.hid (fun W1 (hb1 : Below W.heap.size W W1) => equalA_any av av2 b.attrs c.attrs W1 ((ha.below hb0).below hb1) ((ha2.below hb0).below hb1) h3 h4)
  have HQ := Lib.hid (fun w => eql64 b.sl c.sl hl hl2 w)
  have HV : Hid (sameS b c = (decide (b.addr = c.addr) && (decide (b.aff = c.aff) && (decide (b.sl = c.sl) && (decide (b.free = c.free) && decide (b.attrs = c.attrs)))))) := Lib.hid rfl
  generalize sameS b c = R at *
  have c0 := HX.out.addr
  have c1 := HX.out.aff
  have c66 := HX.out.free hl
  have c67 := HX.out.attrs hl
  have e0 := HY.out.addr
  have e1 := HY.out.aff
  have e66 := HY.out.free hl2
  have e67 := HY.out.attrs hl2
  clear hW hb0 hA hR hsz hf ha hf2 ha2 h1 h2 h3 h4
  by_cases h0 : b.addr = c.addr
  · have d0 : (b.addr == c.addr) = true := by simpa using h0
    by_cases h1 : b.aff = c.aff
    · have d1 : (b.aff.toList == c.aff.toList) = true := by rw [h1]; simp
      have d1' : (b.aff.toList = c.aff.toList) = True := by rw [h1]; simp
      by_cases h2 : b.sl = c.sl
      · have q2 := fun w => HQ.out w
        rw [decide_eq_true h2] at q2
        by_cases h3 : b.free = c.free
        · have hd3 : decide (b.free = c.free) = true := decide_eq_true h3
          rw [hd3] at HEU
          clear hd3
          by_cases h4 : b.attrs = c.attrs
          · have HVV : Hid (R = true) := Lib.hid (by rw [HV.out, decide_eq_true h0, decide_eq_true h1, decide_eq_true h2, decide_eq_true h3, decide_eq_true h4]; rfl)
            have hd4 : decide (b.attrs = c.attrs) = true := decide_eq_true h4
            rw [hd4] at HEA
            clear h0 h1 h2 h3 h4 hd4
            go_enter Try.func41, Try.ntmps41
            go_upto_region 1 with fail
            change Code.wp _ _ _ _ ((w.alloc (blkO b fv av)).alloc (blkO c fv2 av2))
            rw [← HW.out]
            clear HW
            go_wp2_with (first
              | (refine wpLd64g (by rfl) _ rfl rfl HX.out hl ?_)
              | (refine wpLd64g (by rfl) _ rfl rfl HY.out hl2 ?_))
            refine HEU.out.mono ?_; rintro e w1 ⟨rfl, hb1⟩
            have HB1 := Lib.hid hb1
            have c67 := bcellB hb1 c67
            have e67 := bcellB hb1 e67
            clear hb1
            go_wp2_with fail
            refine (HEA.out _ HB1.out).mono ?_; rintro e w2 ⟨rfl, hb2⟩
            have HB2 := Lib.hid (bel HB1.out hb2)
            go_wp2_with fail
            go_ret
            exact ⟨by rw [HVV.out]; rfl, HB0.out.trans (HB2.out.mono HB0.out.size)⟩
          · have HVV : Hid (R = false) := Lib.hid (by rw [HV.out, decide_eq_false h4]; simp)
            have hd4 : decide (b.attrs = c.attrs) = false := decide_eq_false h4
            rw [hd4] at HEA
            clear h0 h1 h2 h3 h4 hd4
            go_enter Try.func41, Try.ntmps41
            go_upto_region 1 with fail
            change Code.wp _ _ _ _ ((w.alloc (blkO b fv av)).alloc (blkO c fv2 av2))
            rw [← HW.out]
            clear HW
            go_wp2_with (first
              | (refine wpLd64g (by rfl) _ rfl rfl HX.out hl ?_)
              | (refine wpLd64g (by rfl) _ rfl rfl HY.out hl2 ?_))
            refine HEU.out.mono ?_; rintro e w1 ⟨rfl, hb1⟩
            have HB1 := Lib.hid hb1
            have c67 := bcellB hb1 c67
            have e67 := bcellB hb1 e67
            clear hb1
            go_wp2_with fail
            refine (HEA.out _ HB1.out).mono ?_; rintro e w2 ⟨rfl, hb2⟩
            have HB2 := Lib.hid (bel HB1.out hb2)
            go_wp2_with fail
            go_ret
            exact ⟨by rw [HVV.out]; rfl, HB0.out.trans (HB2.out.mono HB0.out.size)⟩
        · have HVV : Hid (R = false) := Lib.hid (by rw [HV.out, decide_eq_false h3]; simp)
          have hd3 : decide (b.free = c.free) = false := decide_eq_false h3
          rw [hd3] at HEU
          clear h0 h1 h2 h3 hd3
          go_enter Try.func41, Try.ntmps41
          go_upto_region 1 with fail
          change Code.wp _ _ _ _ ((w.alloc (blkO b fv av)).alloc (blkO c fv2 av2))
          rw [← HW.out]
          clear HW
          go_wp2_with (first
            | (refine wpLd64g (by rfl) _ rfl rfl HX.out hl ?_)
            | (refine wpLd64g (by rfl) _ rfl rfl HY.out hl2 ?_))
          refine HEU.out.mono ?_; rintro e w1 ⟨rfl, hb1⟩
          have HB1 := Lib.hid hb1
          have c67 := bcellB hb1 c67
          have e67 := bcellB hb1 e67
          clear hb1
          go_wp2_with fail
          go_ret
          exact ⟨by rw [HVV.out]; rfl, HB0.out.trans (HB1.out.mono HB0.out.size)⟩
      · have HVV : Hid (R = false) := Lib.hid (by rw [HV.out, decide_eq_false h2]; simp)
        have q2 := fun w => HQ.out w
        rw [decide_eq_false h2] at q2
        clear h0 h1 h2
        go_enter Try.func41, Try.ntmps41
        go_upto_region 1 with fail
        change Code.wp _ _ _ _ ((w.alloc (blkO b fv av)).alloc (blkO c fv2 av2))
        rw [← HW.out]
        clear HW
        go_wp2_with (first
          | (refine wpLd64g (by rfl) _ rfl rfl HX.out hl ?_)
          | (refine wpLd64g (by rfl) _ rfl rfl HY.out hl2 ?_))
        go_ret
        exact ⟨by rw [HVV.out]; rfl, HB0.out⟩
    · have HVV : Hid (R = false) := Lib.hid (by rw [HV.out, decide_eq_false h1]; simp)
      have d0 : ¬ b.aff.toList = c.aff.toList := fun e => h1 (klB_inj e)
      have d1 : (b.aff.toList == c.aff.toList) = false := by simpa using d0
      clear h0 h1
      go_enter Try.func41, Try.ntmps41
      go_upto_region 1 with fail
      change Code.wp _ _ _ _ ((w.alloc (blkO b fv av)).alloc (blkO c fv2 av2))
      rw [← HW.out]
      clear HW
      go_wp2_with (first
        | (refine wpLd64g (by rfl) _ rfl rfl HX.out hl ?_)
        | (refine wpLd64g (by rfl) _ rfl rfl HY.out hl2 ?_))
      go_ret
      exact ⟨by rw [HVV.out]; rfl, HB0.out⟩
  · have HVV : Hid (R = false) := Lib.hid (by rw [HV.out, decide_eq_false h0]; simp)
    have d0 : (b.addr == c.addr) = false := by simpa using h0
    clear h0
    go_enter Try.func41, Try.ntmps41
    go_upto_region 1 with fail
    change Code.wp _ _ _ _ ((w.alloc (blkO b fv av)).alloc (blkO c fv2 av2))
    rw [← HW.out]
    clear HW
    go_wp2_with (first
      | (refine wpLd64g (by rfl) _ rfl rfl HX.out hl ?_)
      | (refine wpLd64g (by rfl) _ rfl rfl HY.out hl2 ?_))
    go_ret
    exact ⟨by rw [HVV.out]; rfl, HB0.out⟩
end Go.Proofs.Ytgodmnpcedfdcaa
