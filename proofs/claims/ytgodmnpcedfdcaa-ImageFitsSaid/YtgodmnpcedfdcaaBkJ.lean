/- Package block: New. -/
import Derived.Test.YtgodmnpcedfdcaaBkI
namespace Go.Proofs.Ytgodmnpcedfdcaa
open Go.RowKit
def zS (a : Int) (s : ByteArray) : BlkS := ⟨a, s, List.replicate 64 0, [], []⟩
theorem buildB (a : Int) (s : ByteArray) (w : World) : (Instr.build TB #[(0, .int .u32 a), (1, .string s)]).run Try.prog w = .ok (.agg (blkL (zS (a) s) NS NS).toArray) w := by kernel_rfl
theorem buildZ (w : World) : (Instr.build TB #[]).run Try.prog w = .ok (.agg (blkL zB NS NS).toArray) w := by kernel_rfl
set_option maxRecDepth 100000 in
set_option maxHeartbeats 8000000 in
theorem newB_bad (a : Int) (s : ByteArray) (w : World) (hs : s.size ≤ maxLen) (hno : ownB s = false) :
    Calls Try.prog 26 #[.int .u32 a, .string s] w fun e w' => e = .returned (.tuple #[.agg (blkL zB NS NS).toArray, .int .i64 1]) ∧ Below w.heap.size w w' := by
  obtain ⟨W, hW⟩ : ∃ W, W = w.alloc (blkO zB NS NS) := ⟨_, rfl⟩
  have hb0 : Below w.heap.size w W := by rw [hW]; exact belNew _ _
  have hZ : BlkAt W w.heap.size zB NS NS := by rw [hW]; exact heap_new w _
  have HM := Lib.hid (mayOwn_any s hs W)
  rw [hno] at HM
  have HB0 := Lib.hid hb0
  have HZ := Lib.hid hZ
  have HW := Lib.hid hW
  have kb := fun w => buildZ w
  clear hW hb0 hZ hno
  go_enter Try.func26, Try.ntmps26
  go_upto_region 1 with fail
  change Code.wp _ _ _ _ (w.alloc (blkO zB NS NS))
  rw [← HW.out]
  clear HW
  go_wp2_with fail
  refine HM.out.mono ?_; rintro e w1 ⟨rfl, hb1⟩
  have HZ1 := Lib.hid (HZ.out.below hb1)
  have HB1 := Lib.hid (HB0.out.trans (hb1.mono HB0.out.size))
  clear hb1
  go_wp2_with (refine wpStB (b := zB) (fv := NS) (av := NS) rfl _ _ rfl rfl rfl HZ1.out zB_len zB_len rfl rfl ?_; intro w7 hx7 hg7)
  refine bodyPost_ret (resB2 Try.results26 rfl (loadVarB hx7 zB_len)) rfl ⟨rfl, HB1.out.grown hg7 HB1.out.size (fun k hk => by cases hk; exact Nat.le_refl _)⟩
/-- append of one cell to a row of the call's own. -/
theorem wpList_push1 {T E : TypeId} {z : Value} {by1 : Nat} (hTE : Try.prog.underlying T = some (.slice E)) (hI : (Try.prog.info? E).map (fun i => (i.zero, i.size, i.bytes)) = some (some z, 1, by1)) (hzc : z.cells.size = 1) (hby : by1 ≤ 16) {w0 : World} {ops : Array Oper} {rest : List Oper} {o : Oper} {a : Act} {Q : Exit → Act → World → Prop} (hgd : o.guard = none) (s x : Operand)
    (ho : o.op = .call { callee := .builtin .append, args := #[s, x], argTypes := #[T, T] }) (B : Nat) (v : Value) (n : Nat) (xs : List Value) (u : Value)
    (k : Nat) (hk : k = w0.heap.size) (hs : a.eval s = v) (hx : a.eval x = .slice (some ⟨k, 0, none⟩) 1 1) (hrow : w0.ownsRow B E 1 v n xs) (hlen : n ≤ 1000001) (hB : B ≤ w0.heap.size) (h1 : u.oneCell' = true)
    (h : ∀ v' w', w'.ownsRow B E 1 v' (n + 1) (xs ++ [u]) → Below B w0 w' → w0.grownBy w' v.ownBlock → wpList Try.prog ops Q rest (a.put o.dst v') w') :
    wpList Try.prog ops Q (o :: rest) a (w0.alloc (.cells #[u] E)) := by
  subst hk
  obtain ⟨i0, hi, hz0, hz1, hz2⟩ := info_parts hI
  have hbk : (w0.alloc (.cells #[u] E)).heap[w0.heap.size]? = some (.cells #[u] E (0, 0)) := heap_alloc_new w0 _
  refine wpList_append_own _ hgd s x T ho B E i0 z 1 by1 hTE hi hz0 hz1 hz2 hzc (by decide) v _ _ hs (hrow.alloc _) ⟨w0.heap.size, 0, none⟩ 1 1 [u] hx rfl (fun j y hj => ?_) ?_ (by unfold maxLen; omega) (by have : (n + 1) * by1 ≤ (n + 1) * 16 := Nat.mul_le_mul_left _ hby; omega) (by simp; omega) ?_
  · rw [add0]
    rcases j with _ | j
    · obtain rfl : u = y := by simpa using hj
      exact cell_of_one hbk
    · simp at hj
  · intro y hy
    obtain rfl : y = u := by simpa using hy
    exact h1
  · intro v' w' hown' hgrow _
    have hg0 : w0.grownBy w' v.ownBlock := World.grownBy.trans (b := w0.alloc (.cells #[u] E)) ⟨rfl, rfl, rfl, by simp, fun k hk _ => Below.heap_alloc w0 _ k hk⟩ hgrow
    exact h v' w' hown' ((Below.refl B w0).grown hg0 hB (fun k hk => (hrow.lt k hk).1)) hg0
def rangeI (n : Nat) : List Int := (List.range n).map fun (i : Nat) => (i : Int)
theorem rangeI_succ (n : Nat) : rangeI (n + 1) = rangeI n ++ [(n : Int)] := by unfold rangeI; rw [List.range_succ, List.map_append]; rfl
theorem rangeI_len (n : Nat) : (rangeI n).length = n := by unfold rangeI; simp
/-- The block of an address, of which nothing is given. -/
def newS (a : Int) (s : ByteArray) : BlkS := ⟨a - a % 64, s, List.replicate 64 0, rangeI 64, []⟩
theorem own_form {E : TypeId} {s B n : Nat} {w : World} {v : Value} {xs : List Value} (h : w.ownsRow B E s v n xs) : ∃ ao m c, v = .slice ao m c := by
  rcases h.2 with ⟨e, _⟩ | ⟨g, cap, cur, e, _⟩
  · exact ⟨_, _, _, e⟩
  · exact ⟨_, _, _, e⟩
theorem own_le {E : TypeId} {s B B' n : Nat} {w : World} {v : Value} {xs : List Value} (h : w.ownsRow B E s v n xs) (hb : B' ≤ B) : w.ownsRow B' E s v n xs :=
  ⟨h.1, h.2.imp id fun ⟨g, cap, cur, e, b, r⟩ => ⟨g, cap, cur, e, Nat.le_trans hb b, r⟩⟩
theorem own_keep {E : TypeId} {s B n : Nat} {w w' : World} {v : Value} {xs : List Value} (h : w.ownsRow B E s v n xs) (hb : Below w.heap.size w w') : w'.ownsRow B E s v n xs :=
  ⟨h.1, h.2.imp id fun ⟨g, cap, cur, e, b, hg, r⟩ => ⟨g, cap, cur, e, b, (hb.block g (heap_lt hg)).trans hg, r⟩⟩
theorem BlkAt.keepB {w w' : World} {g n : Nat} {b : BlkS} {fv av : Value} (h : BlkAt w g b fv av) (hb : Below n w w') (hg : g < n) : BlkAt w' g b fv av := (hb.block g hg).trans h
/-- What a block is that is told. -/
structure BlkRet (w w' : World) (b : BlkS) (fv av : Value) : Prop where
  free : Owns w' w.heap.size fv b.free
  attrs : RowA EAt w' w.heap.size av b.attrs
  below : Below w.heap.size w w'
set_option maxRecDepth 100000 in
set_option maxHeartbeats 8000000 in
theorem newB_any (a : Int) (s : ByteArray) (w : World) (ha : 0 ≤ a) (ha' : a < 4294967296) (hs : s.size ≤ maxLen) (hok : ownB s = true) :
    Calls Try.prog 26 #[.int .u32 a, .string s] w fun e w' => ∃ fv av, e = .returned (.tuple #[.agg (blkL (newS a s) fv av).toArray, .int .i64 0]) ∧ BlkRet w w' (newS a s) fv av := by
  obtain ⟨W, hW⟩ : ∃ W, W = w.alloc (blkO zB NS NS) := ⟨_, rfl⟩
  have hb0 : Below w.heap.size w W := by rw [hW]; exact belNew _ _
  have hZ : BlkAt W w.heap.size zB NS NS := by rw [hW]; exact heap_new w _
  have HM := Lib.hid (mayOwn_any s hs W)
  rw [hok] at HM
  have HF := Lib.hid (fun w => first_any a ha ha' w)
  have HB0 := Lib.hid hb0
  have HZ := Lib.hid hZ
  have HW := Lib.hid hW
  have HEQ : Hid (∀ fv av, blkL (zS (a - a % 64) s) fv av = blkL (newS a s) fv av) := Lib.hid (fun fv av => rfl)
  have HNF : Hid ((newS a s).free = rangeI 64 ∧ (newS a s).attrs = []) := Lib.hid ⟨rfl, rfl⟩
  generalize newS a s = Nw at *
  generalize a - a % 64 = fa at *
  clear hW hb0 hZ hok ha ha'
  go_enter Try.func26, Try.ntmps26
  go_upto_region 1 with fail
  change Code.wp _ _ _ _ (w.alloc (blkO zB NS NS))
  rw [← HW.out]
  clear HW
  go_wp2_with fail
  refine HM.out.mono ?_; rintro e w1 ⟨rfl, hb1⟩
  have HZ1 := Lib.hid (HZ.out.below hb1)
  have HB1 := Lib.hid (HB0.out.trans (hb1.mono HB0.out.size))
  clear hb1
  go_wp2_with fail
  refine (HF.out _).mono ?_; rintro e w2 ⟨rfl, hb2⟩
  have HZ2 := Lib.hid (HZ1.out.below hb2)
  have HB2 := Lib.hid (HB1.out.trans (hb2.mono HB1.out.size))
  clear hb2
  obtain ⟨w3, hw3⟩ : ∃ w3, w3 = w2.alloc (blkO zB NS NS) := ⟨_, rfl⟩
  have hx3 : BlkAt w3 w2.heap.size zB NS NS := by rw [hw3]; exact heap_new w2 _
  have HX3 := Lib.hid hx3
  have HB3 : Hid (Below w.heap.size w w3) := Lib.hid (by rw [hw3]; exact HB2.out.trans ((belNew w2 _).mono HB2.out.size))
  have HZ3 : Hid (BlkAt w3 w.heap.size zB NS NS) := Lib.hid (by rw [hw3]; exact HZ2.out.below (belNew w2 _))
  have HSW : Hid (w.heap.size < w2.heap.size ∧ w2.heap.size < w3.heap.size) := Lib.hid ⟨heap_lt HZ2.out, heap_lt hx3⟩
  have hlN : (zS fa s).sl.length = 64 := zB_len
  have HW3 := Lib.hid hw3
  clear hw3 hx3
  go_wp2_with (
    (change wpList _ _ _ _ _ (w2.alloc (blkO zB NS NS))); rw [← HW3.out]; refine wpStB (b := (zS (fa) s)) (fv := NS) (av := NS) rfl _ _ rfl rfl (by kernel_rfl) HX3.out zB_len hlN rfl rfl ?_; intro w4 hx4 hg4)
  have HX4 := Lib.hid hx4
  have HZ4 : Hid (BlkAt w4 w.heap.size zB NS NS) := Lib.hid ((hg4.block _ (heap_lt HZ3.out) (fun e => by have := Option.some.inj e; have := HSW.out; omega)).trans HZ3.out)
  have HB4 : Hid (Below w.heap.size w w4) := Lib.hid (HB3.out.grown hg4 HB3.out.size (fun k hk => by cases hk; have := HSW.out; omega))
  have HS4 : Hid (w3.heap.size ≤ w4.heap.size) := Lib.hid hg4.size
  clear hx4 hg4
  obtain ⟨bN, hbN⟩ : ∃ bN : BlkS, bN = (zS (fa) s) := ⟨_, rfl⟩
  rw [← hbN] at HX4 hlN HEQ
  clear hbN
  go_wp2_with fail
  go_loopw [16] (fun j wr => ∃ i : Nat, i ≤ 64 ∧ j = .int .i64 i ∧ Hid (∃ ao n c, BlkAt wr w2.heap.size bN (.slice ao n c) NS ∧ wr.ownsRow w3.heap.size 5 1 (.slice ao n c) i (cells8 (rangeI i)) ∧ BlkAt wr w.heap.size zB NS NS ∧ Below w.heap.size w wr ∧ w3.heap.size ≤ wr.heap.size)) (fun j _ => 64 - (intOf j).toNat)
  case atStart => exact ⟨0, by omega, rfl, Lib.hid ⟨none, 0, 0, HX4.out, World.ownsRow_nil _ _ _ _, HZ4.out, HB4.out, HS4.out⟩⟩
  case round =>
    obtain ⟨i, hi, rfl, HI⟩ := hrel
    obtain ⟨ao, n, c, hx, ho, hz, hbw, hsz⟩ := HI.out
    have HO := Lib.hid ho
    have HXr := Lib.hid hx
    have HZr := Lib.hid hz
    have HBr := Lib.hid hbw
    have HSr := Lib.hid hsz
    by_cases hlt : i < 64
    · have d1 : decide ((i : Int) < 64) = true := by simp; omega
      have hwu : IntKind.u8.wrap (i : Int) = (i : Int) := by rw [IntKind.wrap_u8]; omega
      have c66 := hx.free hlN
      have HLT := Lib.hid hlt
      have hiB : i ≤ 1000001 := by omega
      clear hx ho hz hbw hsz hlt
      go_wp2_with (at_builtin; refine wpList_push1 (w0 := wr) Try.underlying24 info8 rfl (by decide) rfl (.tmp 20) (.tmp 23) rfl w3.heap.size _ i (cells8 (rangeI i)) (.int .u8 i) wr.heap.size rfl rfl rfl HO.out hiB HSr.out rfl ?_; intro v' w5 ho5 hb5 _; have HO5 := Lib.hid ho5; have HX5 := Lib.hid (HXr.out.keepB hb5 HSW.out.2); have HZ5 := Lib.hid (HZr.out.keepB hb5 (Nat.lt_trans HSW.out.1 HSW.out.2)); have HB5 := Lib.hid (HBr.out.trans (hb5.mono (Nat.le_of_lt (Nat.lt_trans HSW.out.1 HSW.out.2)))); have HS5 := Lib.hid (Nat.le_trans HSr.out hb5.size); obtain ⟨ao5, n5, c5, rfl⟩ := own_form ho5; have k1 := HX5.out.free hlN; have k2 := HX5.out.froz 66; clear ho5 hb5 c66)
      have HN : Hid (∃ ao n c, BlkAt (w5.setCell ⟨w2.heap.size, 66, none⟩ (.slice ao5 n5 c5)) w2.heap.size bN (.slice ao n c) NS ∧ (w5.setCell ⟨w2.heap.size, 66, none⟩ (.slice ao5 n5 c5)).ownsRow w3.heap.size 5 1 (.slice ao n c) (i + 1) (cells8 (rangeI (i + 1))) ∧ BlkAt (w5.setCell ⟨w2.heap.size, 66, none⟩ (.slice ao5 n5 c5)) w.heap.size zB NS NS ∧ Below w.heap.size w (w5.setCell ⟨w2.heap.size, 66, none⟩ (.slice ao5 n5 c5)) ∧ w3.heap.size ≤ (w5.setCell ⟨w2.heap.size, 66, none⟩ (.slice ao5 n5 c5)).heap.size) := Lib.hid (by
        refine ⟨ao5, n5, c5, HX5.out.setFree hlN _, own_set ?_ (a := ⟨w2.heap.size, 66, none⟩) HSW.out.2 _, blk_setO HZ5.out (a := ⟨w2.heap.size, 66, none⟩) (Nat.ne_of_lt HSW.out.1) _, HB5.out.setCell (p := ⟨w2.heap.size, 66, none⟩) (Nat.le_of_lt HSW.out.1) _, size_set HS5.out _ _⟩
        have := HO5.out
        rw [show cells8 (rangeI (i + 1)) = cells8 (rangeI i) ++ [.int .u8 i] from by rw [rangeI_succ]; unfold cells8; rw [List.map_append]; rfl]
        exact this)
      clear k1 k2
      go_roundw
      case rel => exact ⟨i + 1, HLT.out, by go_num, HN⟩
      case measure => simp [intOf]; have := HLT.out; omega
    · obtain rfl : i = 64 := by omega
      have d1 : decide (((64 : Nat) : Int) < 64) = false := by decide
      clear hx ho hz hbw hsz hlt
      go_wp2_with (first
        | (refine wpLdB rfl _ rfl rfl HXr.out hlN ?_)
        | (refine wpStB (b := bN) rfl _ _ rfl rfl rfl HZr.out zB_len hlN rfl rfl ?_; intro w7 hx7 hg7))
      have HBN := Lib.hid (HBr.out.grown hg7 HBr.out.size (fun k hk => by cases hk; omega))
      refine bodyPost_ret (resB2 Try.results26 rfl (loadVarB hx7 hlN)) rfl ⟨.slice ao n c, NS, by rw [← HEQ.out]; rfl, ?_, ?_, HBN.out⟩
      · rw [HNF.out.1]
        exact own_le (own_grown HO.out hg7 (Nat.lt_trans HSW.out.1 HSW.out.2)) (Nat.le_of_lt (Nat.lt_trans HSW.out.1 HSW.out.2))
      · rw [HNF.out.2]
        exact World.ownsRow_nil _ _ _ _
end Go.Proofs.Ytgodmnpcedfdcaa
