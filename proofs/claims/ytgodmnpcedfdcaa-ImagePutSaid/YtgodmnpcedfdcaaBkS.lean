/- Package block: bits.List; Given. -/
import Derived.Test.YtgodmnpcedfdcaaJQ
namespace Go.Proofs.Ytgodmnpcedfdcaa
open Go.RowKit
theorem infoI : (Try.prog.info? 3).map (fun i => (i.zero, i.size, i.bytes)) = some (some (.int .i64 0), 1, 8) := by kernel_rfl
abbrev cellsI (xs : List Int) : List Value := xs.map (Value.int .i64)
/-- A value that reads as these numbers. -/
def SeesI (w : World) (v : Value) (xs : List Int) : Prop :=
  ∃ (ao : Option Addr) (c : Nat), v = .slice ao xs.length c ∧ xs.length ≤ c ∧ (ao = none → xs = []) ∧ ∀ a, ao = some a → ∀ i, i < xs.length → w.cell? (a.add i) = some (.int .i64 (xs.getD i 0))
/-- A value of the call's own that holds these numbers. -/
abbrev OwnsI (w : World) (B : Nat) (v : Value) (xs : List Int) : Prop := w.ownsRow B 3 1 v xs.length (cellsI xs)
theorem cell_ltI {w : World} {a : Addr} {v : Value} (h : w.cell? a = some v) : a.block < w.heap.size := by
  rcases Nat.lt_or_ge a.block w.heap.size with hlt | hge
  · exact hlt
  · simp [World.cell?, Array.getElem?_eq_none hge] at h
theorem heap_ltI {w : World} {g : Nat} {o : Obj} (h : w.heap[g]? = some o) : g < w.heap.size := (Array.getElem?_eq_some_iff.1 h).1
theorem SeesI.keep {w w' : World} {v : Value} {xs : List Int} (h : SeesI w v xs) (hb : Below w.heap.size w w') : SeesI w' v xs := by
  obtain ⟨ao, c, e, hl, hn, hc⟩ := h
  exact ⟨ao, c, e, hl, hn, fun a ha i hi => by rw [hb.cell (cell_ltI (hc a ha i hi))]; exact hc a ha i hi⟩
theorem SeesI.nil (w : World) : SeesI w (.slice none 0 0) [] := ⟨none, 0, rfl, Nat.le_refl _, fun _ => rfl, fun _ h => by cases h⟩
theorem getD_cellsI {xs : List Int} {i : Nat} (h : i < xs.length) : (cellsI xs)[i]? = some (.int .i64 (xs.getD i 0)) := by
  simp [List.getD, List.getElem?_eq_getElem h]
theorem OwnsI.sees {w : World} {B : Nat} {v : Value} {xs : List Int} (h : OwnsI w B v xs) : SeesI w v xs := by
  have hc := fun g hg => World.ownsRow.cells h (g := g) hg
  obtain ⟨_, ⟨rfl, hn⟩ | ⟨g, cap, cur, rfl, _, _, hnc, _, _, _⟩⟩ := h
  · obtain rfl := List.eq_nil_of_length_eq_zero hn
    exact SeesI.nil w
  · exact ⟨some ⟨g, 0, none⟩, cap, rfl, hnc, (fun e => by cases e), fun a ha i hi => (by cases ha; exact hc g rfl i _ (getD_cellsI hi))⟩
theorem OwnsI.nil (w : World) (B : Nat) : OwnsI w B (.slice none 0 0) [] := World.ownsRow_nil _ _ _ _
theorem OwnsI.keep {w w' : World} {B : Nat} {v : Value} {xs : List Int} (h : OwnsI w B v xs) (hb : Below w.heap.size w w') : OwnsI w' B v xs :=
  ⟨h.1, h.2.imp id fun ⟨g, cap, cur, e, hB, hg, r⟩ => ⟨g, cap, cur, e, hB, (hb.block g (heap_ltI hg)).trans hg, r⟩⟩
/-- The slots below i in a set. -/
def memZ (x i : Nat) : List Int := ((List.range i).filter (fun k => x.testBit k)).map (fun (n : Nat) => (n : Int))
theorem memZ_succ (x i : Nat) : memZ x (i + 1) = if x.testBit i = true then memZ x i ++ [(i : Int)] else memZ x i := by
  unfold memZ
  rw [List.range_succ, List.filter_append, List.map_append]
  split
  · rename_i h; simp [h]
  · rename_i h; simp [h]
theorem memZ_len (x i : Nat) : (memZ x i).length ≤ i := by
  unfold memZ
  rw [List.length_map]
  have := List.length_filter_le (fun k => x.testBit k) (List.range i)
  simpa using this
theorem slot_nat {i : Nat} (h : i < 64) : slotB (i : Int) = true := by unfold slotB; rw [decide_eq_true (by omega), decide_eq_true (by omega)]; rfl
theorem hasB_nat (x i : Nat) (h : i < 64) : hasB x (i : Int) = x.testBit i := by unfold hasB; rw [slot_nat h, Bool.true_and, Int.toNat_natCast]
set_option maxRecDepth 100000 in
set_option maxHeartbeats 4000000 in
theorem list_any (x : Nat) (hx : x < M64) (w : World) :
    Calls Try.prog 59 #[.int .u64 x] w fun e w' => ∃ v, e = .returned v ∧ OwnsI w' w.heap.size v (memZ x 64) ∧ Below w.heap.size w w' := by
  obtain ⟨i0, hi, hz0, hz1, hz2⟩ := info_parts infoI
  have HH := Lib.hid (fun (i : Nat) (h : i < 64) w => (hasB_nat x i h) ▸ has_any x (i : Int) hx w)
  go_enter Try.func59, Try.ntmps59
  go_wp2
  go_loopw [3, 5] (fun v j wr => ∃ i : Nat, i ≤ 64 ∧ j = .int .i64 i ∧ OwnsI wr w.heap.size v (memZ x i) ∧ Below w.heap.size w wr) (fun _ j _ => 64 - (intOf j).toNat)
  case atStart => exact ⟨0, by omega, rfl, OwnsI.nil _ _, Below.refl _ _⟩
  case round =>
    obtain ⟨i, hik, rfl, hown, hbel⟩ := hrel
    by_cases hlt : i < 64
    · have hh := Lib.hid (HH.out i hlt)
      have hms := memZ_succ x i
      have hlen := memZ_len x i
      cases ht : x.testBit i with
      | false =>
        rw [ht] at hh hms
        simp only [Bool.false_eq_true, if_false] at hms
        clear ht hlen
        have HM := Lib.hid hms
        clear hms
        go_wp2_with fail
        refine (hh.out _).mono ?_; rintro e w2 ⟨rfl, rfl⟩
        go_wp2_with fail
        go_roundw
        case rel => exact ⟨i + 1, by omega, by go_num, by rw [HM.out]; exact hown, hbel⟩
        case measure => simp [intOf]; omega
      | true =>
        rw [ht] at hh hms
        simp only [if_true] at hms
        clear ht
        have HM := Lib.hid hms
        clear hms
        have hsz := hbel.size
        go_wp2_with fail
        refine (hh.out _).mono ?_; rintro e w2 ⟨rfl, rfl⟩
        go_wp2_with (first | (at_builtin; refine wpList_append_own _ rfl _ _ 35 rfl w.heap.size 3 i0 (.int .i64 0) 1 8 Try.underlying35 hi hz0 hz1 hz2 rfl (by decide) _ _ _ rfl (hown.alloc _) ⟨wr.heap.size, 0, none⟩ 1 1 [.int .i64 (i : Int)] rfl rfl ?qc1 ?qc2 ?qc3 ?qc4 ?qc5 ?_) | go_in)
        case qc1 =>
          intro j u hj
          match j, hj with
          | 0, hj =>
            simp at hj
            subst hj
            rw [add0]
            simp
          | j + 1, hj => simp at hj
        case qc2 => first | rfl | (intro u hu; simp at hu; subst hu; rfl)
        case qc3 => unfold maxLen; omega
        case qc4 => omega
        case qc5 => first | omega | (simp; omega)
        intro v' w3 hown' hgrow _
        go_wp2
        go_roundw
        case rel =>
          refine ⟨i + 1, by omega, by go_num, ?_, ?_⟩
          · unfold OwnsI cellsI
            rw [HM.out, List.length_append]
            simpa only [List.length_singleton, List.map_append, List.map_cons, List.map_nil] using hown'
          · exact (belAlloc hbel _).grown hgrow (by simp; omega) (fun g hg => (hown.lt g hg).1)
        case measure => simp [intOf]; omega
    · obtain rfl : i = 64 := by omega
      go_wp2
      go_ret
      exact ⟨_, rfl, hown, hbel⟩
theorem memZ_in (x : Nat) : ∀ y ∈ memZ x 64, 0 ≤ y ∧ y < 64 := fun y hy => by
  unfold memZ at hy
  obtain ⟨k, hk, rfl⟩ := List.mem_map.1 hy
  have := List.mem_range.1 (List.mem_filter.1 hk).1
  omega
/-- The slots that are given, rising. -/
def takeZ (b : BlkS) : List Int := memZ (takeN b.sl 64) 64
set_option maxRecDepth 100000 in
set_option maxHeartbeats 8000000 in
theorem given15_bad (b : BlkS) (fv av : Value) (w : World) (hf : Sees w fv b.free) (ha : SeesA w av b.attrs) (hw : BWf b) (hr : rightB b = false) :
    Calls Try.prog 25 #[.agg (blkL b fv av).toArray] w fun e w' => e = .returned NS ∧ Below w.heap.size w w' := by
  obtain ⟨W, hW⟩ : ∃ W, W = w.alloc (blkO b fv av) := ⟨_, rfl⟩
  have hb0 := belNew w (blkO b fv av)
  have hA := heap_new w (blkO b fv av)
  rw [← hW] at hb0 hA
  have HX0 : Hid (BlkAt W w.heap.size b fv av) := Lib.hid hA
  have HB0 := Lib.hid hb0
  have HW := Lib.hid hW
  have HRB := Lib.hid (rightBlk_any (blkL b fv av).toArray b W ⟨fv, av, rfl, hf.keep hb0, ha.below hb0, hw⟩)
  have hl := hw.2.1
  rw [hr] at HRB
  clear hW hb0 hA hf ha hw hr
  go_enter Try.func25, Try.ntmps25
  go_upto_region 1 with fail
  change Code.wp _ _ _ _ (w.alloc (blkO b fv av))
  rw [← HW.out]
  clear HW
  go_wp2_with (refine wpLdB rfl _ rfl rfl HX0.out hl ?_)
  refine HRB.out.mono ?_; rintro e w1 ⟨rfl, hb1⟩
  have HX1 := Lib.hid (HX0.out.below hb1)
  have HB1 := Lib.hid (HB0.out.trans (hb1.mono HB0.out.size))
  clear hb1
  go_wp2_with fail
  go_ret
  exact ⟨rfl, HB1.out⟩
set_option maxRecDepth 100000 in
set_option maxHeartbeats 8000000 in
theorem given15_any (b : BlkS) (fv av : Value) (w : World) (hf : Sees w fv b.free) (ha : SeesA w av b.attrs) (hw : BWf b) (hr : rightB b = true) :
    Calls Try.prog 25 #[.agg (blkL b fv av).toArray] w fun e w' => ∃ tv, e = .returned tv ∧ OwnsU w' w.heap.size tv (adrs b (takeZ b)) ∧ Below w.heap.size w w' := by
  obtain ⟨W, hW⟩ : ∃ W, W = w.alloc (blkO b fv av) := ⟨_, rfl⟩
  have hb0 := belNew w (blkO b fv av)
  have hA := heap_new w (blkO b fv av)
  rw [← hW] at hb0 hA
  have HX0 : Hid (BlkAt W w.heap.size b fv av) := Lib.hid hA
  have HB0 := Lib.hid hb0
  have HW := Lib.hid hW
  have HRB := Lib.hid (rightBlk_any (blkL b fv av).toArray b W ⟨fv, av, rfl, hf.keep hb0, ha.below hb0, hw⟩)
  have hl := hw.2.1
  obtain ⟨h64, _, _, _⟩ := right_bd hw hr
  have HTK := Lib.hid (fun w => taken_any b fv av hl w)
  have HLI := Lib.hid (fun w => list_any (takeN b.sl 64) (takeN_lt _ _) w)
  have HMZ : Hid (∀ x ∈ takeZ b, 0 ≤ x ∧ x < 64) := Lib.hid (memZ_in _)
  have hlen : (takeZ b).length ≤ 64 := memZ_len _ _
  have HLT : Hid (memZ (takeN b.sl 64) 64 = takeZ b) := Lib.hid rfl
  rw [HLT.out] at HLI
  have HAD := Lib.hid (fun i w => adr_any b fv av i w hw.1 h64)
  rw [hr] at HRB
  generalize takeZ b = L at *
  clear hW hb0 hA hf ha hw hr HLT h64
  go_enter Try.func25, Try.ntmps25
  go_upto_region 1 with fail
  change Code.wp _ _ _ _ (w.alloc (blkO b fv av))
  rw [← HW.out]
  clear HW
  go_wp2_with (refine wpLdB rfl _ rfl rfl HX0.out hl ?_)
  refine HRB.out.mono ?_; rintro e w1 ⟨rfl, hb1⟩
  have HX1 := Lib.hid (HX0.out.below hb1)
  have HB1 := Lib.hid (HB0.out.trans (hb1.mono HB0.out.size))
  clear hb1
  go_wp2_with (refine wpLdB rfl _ rfl rfl HX1.out hl ?_)
  refine (HTK.out _).mono ?_; rintro e w2 ⟨rfl, hb2⟩
  have HX2 := Lib.hid (HX1.out.below hb2)
  have HB2 := Lib.hid (HB1.out.trans (hb2.mono HB1.out.size))
  clear hb2
  go_wp2_with fail
  refine (HLI.out _).mono ?_; rintro e w3 ⟨lv, rfl, hlo, hb3⟩
  have HX3 := Lib.hid (HX2.out.below hb3)
  have HB3 := Lib.hid (HB2.out.trans (hb3.mono HB2.out.size))
  have HLS := Lib.hid (OwnsI.sees hlo)
  obtain ⟨lo, lc, rfl, -⟩ := OwnsI.sees hlo
  clear hlo hb3
  go_wp2_with fail
  go_loopw [3, 13] (fun t j wr => ∃ i : Nat, i ≤ L.length ∧ j = .int .i64 i ∧ Hid (OwnsU wr w3.heap.size t (adrs b (L.take i)) ∧ Below w3.heap.size w3 wr)) (fun _ j _ => L.length - (intOf j).toNat)
  case atStart => exact ⟨0, Nat.zero_le _, rfl, Lib.hid ⟨OwnsU.nil _ _, Below.refl _ _⟩⟩
  case round =>
    obtain ⟨i, hi, rfl, HI⟩ := hrel
    obtain ⟨ho, hbw⟩ := HI.out
    have hsz := hbw.size
    have HXr := Lib.hid (HX3.out.below hbw)
    have HBr := Lib.hid hbw
    have hol : (adrs b (L.take i)).length = i := by rw [adrs_len, List.length_take]; omega
    have HOr : Hid (wr.ownsRow w3.heap.size 22 1 _ i (cellsU (adrs b (L.take i)))) := Lib.hid (by have h := ho; unfold OwnsU at h; rw [hol] at h; exact h)
    by_cases hlt : i < L.length
    · obtain ⟨fo', fc', e0, -, hln, hlc⟩ := HLS.out.keep hbw
      obtain ⟨rfl, rfl⟩ : lo = fo' ∧ lc = fc' := by cases e0; exact ⟨rfl, rfl⟩
      obtain ⟨fa, rfl⟩ : ∃ fa, lo = some fa := by
        cases lo with
        | none => rw [hln rfl] at hlt; simp at hlt
        | some fa => exact ⟨fa, rfl⟩
      have q0 := hlc fa rfl i (by omega)
      have hm := HMZ.out (L.getD i 0) (by
        rw [List.getD_eq_getElem?_getD, List.getElem?_eq_getElem (by omega)]
        exact List.getElem_mem _)
      have HSN := Lib.hid (adrs_snoc b L i (by omega))
      have HLT := Lib.hid hlt
      have hii : i ≤ 1000001 := by omega
      have HSr := Lib.hid hsz
      obtain ⟨y, hy⟩ := Int.eq_ofNat_of_zero_le hm.1
      rw [hy] at q0 HSN hm
      have HD := Lib.hid (fun w => HAD.out (y : Int) w hm.1 hm.2)
      have y0 : (0 : Int) ≤ (y : Int) := by omega
      have y1 : (y : Int) < 64 := by omega
      have b0 : (0 : Int) ≤ (i : Int) := by omega
      have b1 : (i : Int) < (L.length : Int) := by omega
      have d1 : decide ((i : Int) < (L.length : Int)) = true := by simp; omega
      clear ho hbw hsz hlt hm hlc hln hy e0 hol HI
      go_wp2_with (refine wpLdB rfl _ rfl rfl HXr.out hl ?_)
      refine (HD.out _).mono ?_; rintro e w5 ⟨rfl, hb5⟩
      have HX5 := Lib.hid (HBr.out.trans (hb5.mono HSr.out))
      have HO5 := Lib.hid (own_keep HOr.out hb5)
      have HS5 := Lib.hid (Nat.le_trans HSr.out hb5.size)
      clear hb5 q0
      go_wp2_with (at_builtin; refine wpList_push1 (w0 := w5) Try.underlying41 infoU rfl (by decide) rfl (.tmp 17) (.tmp 21) rfl w3.heap.size _ i _ (.int .u32 (b.addr + (y : Int))) w5.heap.size rfl rfl rfl HO5.out hii HS5.out rfl ?_; intro v' w6 ho6 hb6 _; have HO6 := Lib.hid ho6; have HB6 := Lib.hid (HX5.out.trans hb6); clear ho6 hb6)
      go_roundw
      case rel =>
        refine ⟨i + 1, HLT.out, by go_num, Lib.hid ⟨?_, HB6.out⟩⟩
        have := HO6.out
        rw [← HSN.out] at this
        have e : (adrs b (L.take (i + 1))).length = i + 1 := by rw [adrs_len, List.length_take]; have := HLT.out; omega
        show World.ownsRow _ _ _ _ _ _ _
        rw [e]
        exact this
      case measure => simp [intOf]; have := HLT.out; omega
    · obtain rfl : i = L.length := by omega
      have d1 : decide ((L.length : Int) < (L.length : Int)) = false := by simp
      have htt : L.take L.length = L := List.take_length
      rw [htt] at HOr
      clear ho hbw hsz hlt hol HI htt
      go_wp2_with fail
      go_ret
      refine ⟨_, rfl, ?_, HB3.out.trans (HBr.out.mono HB3.out.size)⟩
      show World.ownsRow _ _ _ _ _ _ _
      rw [adrs_len]
      exact own_le HOr.out HB3.out.size
end Go.Proofs.Ytgodmnpcedfdcaa
