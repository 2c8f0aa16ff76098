/- Joined: BkS BkT. -/
import Derived.Test.YtgodmnpcedfdcaaGreatJQ
namespace Go.Proofs.YtgodmnpcedfdcaaGreat
section
open Go.RowKit
theorem infoI : (Tryz.prog.info? 3).map (fun i => (i.zero, i.size, i.bytes)) = some (some (.int .i64 0), 1, 8) := by kernel_rfl
abbrev cellsI (xs : List Int) : List Value := xs.map (Value.int .i64)
/-- A value that reads as these numbers. -/
def SeesI (w : World) (v : Value) (xs : List Int) : Prop :=
  ∃ (ao : Option Addr) (c : Nat), v = .slice ao xs.length c ∧ xs.length ≤ c ∧ (ao = none → xs = []) ∧ ∀ a, ao = some a → ∀ i, i < xs.length → w.cell? (a.add i) = some (.int .i64 (xs.getD i 0))
/-- A value of the call's own that holds these numbers. -/
abbrev OwnsI (w : World) (B : Nat) (v : Value) (xs : List Int) : Prop := w.ownsRow B 3 1 v xs.length (cellsI xs)
theorem cell_ltI {w : World} {a : Addr} {v : Value} (h : w.cell? a = some v) : a.block < w.heap.size := by
  rcases Nat.lt_or_ge a.block w.heap.size with hlt | hge
  · exact hlt
  · simp [World.cell?, Array.getElem?_eq_none hge] at h
theorem heap_ltI {w : World} {g : Nat} {o : Obj} (h : w.heap[g]? = some o) : g < w.heap.size := (Array.getElem?_eq_some_iff.1 h).1
theorem SeesI.keep {w w' : World} {v : Value} {xs : List Int} (h : SeesI w v xs) (hb : Below w.heap.size w w') : SeesI w' v xs := by
  obtain ⟨ao, c, e, hl, hn, hc⟩ := h
  exact ⟨ao, c, e, hl, hn, fun a ha i hi => by rw [hb.cell (cell_ltI (hc a ha i hi))]; exact hc a ha i hi⟩
theorem SeesI.nil (w : World) : SeesI w (.slice none 0 0) [] := ⟨none, 0, rfl, Nat.le_refl _, fun _ => rfl, fun _ h => by cases h⟩
theorem getD_cellsI {xs : List Int} {i : Nat} (h : i < xs.length) : (cellsI xs)[i]? = some (.int .i64 (xs.getD i 0)) := by
  simp [List.getD, List.getElem?_eq_getElem h]
theorem OwnsI.sees {w : World} {B : Nat} {v : Value} {xs : List Int} (h : OwnsI w B v xs) : SeesI w v xs := by
  have hc := fun g hg => World.ownsRow.cells h (g := g) hg
  obtain ⟨_, ⟨rfl, hn⟩ | ⟨g, cap, cur, rfl, _, _, hnc, _, _, _⟩⟩ := h
  · obtain rfl := List.eq_nil_of_length_eq_zero hn
    exact SeesI.nil w
  · exact ⟨some ⟨g, 0, none⟩, cap, rfl, hnc, (fun e => by cases e), fun a ha i hi => (by cases ha; exact hc g rfl i _ (getD_cellsI hi))⟩
theorem OwnsI.nil (w : World) (B : Nat) : OwnsI w B (.slice none 0 0) [] := World.ownsRow_nil _ _ _ _
theorem OwnsI.keep {w w' : World} {B : Nat} {v : Value} {xs : List Int} (h : OwnsI w B v xs) (hb : Below w.heap.size w w') : OwnsI w' B v xs :=
  ⟨h.1, h.2.imp id fun ⟨g, cap, cur, e, hB, hg, r⟩ => ⟨g, cap, cur, e, hB, (hb.block g (heap_ltI hg)).trans hg, r⟩⟩
/-- The slots below i in a set. -/
def memZ (x i : Nat) : List Int := ((List.range i).filter (fun k => x.testBit k)).map (fun (n : Nat) => (n : Int))
theorem memZ_succ (x i : Nat) : memZ x (i + 1) = if x.testBit i = true then memZ x i ++ [(i : Int)] else memZ x i := by
  unfold memZ
  rw [List.range_succ, List.filter_append, List.map_append]
  split
  · rename_i h; simp [h]
  · rename_i h; simp [h]
theorem memZ_len (x i : Nat) : (memZ x i).length ≤ i := by
  unfold memZ
  rw [List.length_map]
  have := List.length_filter_le (fun k => x.testBit k) (List.range i)
  simpa using this
theorem slot_nat {i : Nat} (h : i < 64) : slotB (i : Int) = true := by unfold slotB; rw [decide_eq_true (by omega), decide_eq_true (by omega)]; rfl
theorem hasB_nat (x i : Nat) (h : i < 64) : hasB x (i : Int) = x.testBit i := by unfold hasB; rw [slot_nat h, Bool.true_and, Int.toNat_natCast]
set_option maxRecDepth 100000 in
set_option maxHeartbeats 4000000 in
theorem list_any (x : Nat) (hx : x < M64) (w : World) :
    Calls Tryz.prog 85 #[.int .u64 x] w fun e w' => ∃ v, e = .returned v ∧ OwnsI w' w.heap.size v (memZ x 64) ∧ Below w.heap.size w w' := by
  obtain ⟨i0, hi, hz0, hz1, hz2⟩ := info_parts infoI
  have HH := Lib.hid (fun (i : Nat) (h : i < 64) w => (hasB_nat x i h) ▸ has_any x (i : Int) hx w)
  go_enter Tryz.func85, Tryz.ntmps85
  go_wp2
  go_loopw [3, 5] (fun v j wr => ∃ i : Nat, i ≤ 64 ∧ j = .int .i64 i ∧ OwnsI wr w.heap.size v (memZ x i) ∧ Below w.heap.size w wr) (fun _ j _ => 64 - (intOf j).toNat)
  case atStart => exact ⟨0, by omega, rfl, OwnsI.nil _ _, Below.refl _ _⟩
  case round =>
    obtain ⟨i, hik, rfl, hown, hbel⟩ := hrel
    by_cases hlt : i < 64
    · have hh := Lib.hid (HH.out i hlt)
      have hms := memZ_succ x i
      have hlen := memZ_len x i
      cases ht : x.testBit i with
      | false =>
        rw [ht] at hh hms
        simp only [Bool.false_eq_true, if_false] at hms
        clear ht hlen
        have HM := Lib.hid hms
        clear hms
        go_wp2_with fail
        refine (hh.out _).mono ?_; rintro e w2 ⟨rfl, rfl⟩
        go_wp2_with fail
        go_roundw
        case rel => exact ⟨i + 1, by omega, by go_num, by rw [HM.out]; exact hown, hbel⟩
        case measure => simp [intOf]; omega
      | true =>
        rw [ht] at hh hms
        simp only [if_true] at hms
        clear ht
        have HM := Lib.hid hms
        clear hms
        have hsz := hbel.size
        go_wp2_with fail
        refine (hh.out _).mono ?_; rintro e w2 ⟨rfl, rfl⟩
        go_wp2_with (first | (at_builtin; refine wpList_append_own _ rfl _ _ 32 rfl w.heap.size 3 i0 (.int .i64 0) 1 8 Tryz.underlying32 hi hz0 hz1 hz2 rfl (by decide) _ _ _ rfl (hown.alloc _) ⟨wr.heap.size, 0, none⟩ 1 1 [.int .i64 (i : Int)] rfl rfl ?qc1 ?qc2 ?qc3 ?qc4 ?qc5 ?_) | go_in)
        case qc1 =>
          intro j u hj
          match j, hj with
          | 0, hj =>
            simp at hj
            subst hj
            rw [add0]
            simp
          | j + 1, hj => simp at hj
        case qc2 => first | rfl | (intro u hu; simp at hu; subst hu; rfl)
        case qc3 => unfold maxLen; omega
        case qc4 => omega
        case qc5 => first | omega | (simp; omega)
        intro v' w3 hown' hgrow _
        go_wp2
        go_roundw
        case rel =>
          refine ⟨i + 1, by omega, by go_num, ?_, ?_⟩
          · unfold OwnsI cellsI
            rw [HM.out, List.length_append]
            simpa only [List.length_singleton, List.map_append, List.map_cons, List.map_nil] using hown'
          · exact (belAlloc hbel _).grown hgrow (by simp; omega) (fun g hg => (hown.lt g hg).1)
        case measure => simp [intOf]; omega
    · obtain rfl : i = 64 := by omega
      go_wp2
      go_ret
      exact ⟨_, rfl, hown, hbel⟩
theorem memZ_in (x : Nat) : ∀ y ∈ memZ x 64, 0 ≤ y ∧ y < 64 := fun y hy => by
  unfold memZ at hy
  obtain ⟨k, hk, rfl⟩ := List.mem_map.1 hy
  have := List.mem_range.1 (List.mem_filter.1 hk).1
  omega
/-- The slots that are given, rising. -/
def takeZ (b : BlkS) : List Int := memZ (takeN b.sl 64) 64
set_option maxRecDepth 100000 in
set_option maxHeartbeats 8000000 in
theorem given15_any (b : BlkS) (fv av : Value) (w : World) (hf : Sees w fv b.free) (ha : SeesA w av b.attrs) (hw : BWf b) (hr : rightB b = true) :
    Calls Tryz.prog 59 #[.agg (blkL b fv av).toArray] w fun e w' => ∃ tv, e = .returned tv ∧ OwnsU w' w.heap.size tv (adrs b (takeZ b)) ∧ Below w.heap.size w w' := by
  obtain ⟨W, hW⟩ : ∃ W, W = w.alloc (blkO b fv av) := ⟨_, rfl⟩
  have hb0 := belNew w (blkO b fv av)
  have hA := heap_new w (blkO b fv av)
  rw [← hW] at hb0 hA
  have HX0 : Hid (BlkAt W w.heap.size b fv av) := Lib.hid hA
  have HB0 := Lib.hid hb0
  have HW := Lib.hid hW
  have HRB := Lib.hid (rightBlk_any (blkL b fv av).toArray b W ⟨fv, av, rfl, hf.keep hb0, ha.below hb0, hw⟩)
  have hl := hw.2.1
  obtain ⟨h64, _, _, _⟩ := right_bd hw hr
  have HTK := Lib.hid (fun w => taken_any b fv av hl w)
  have HLI := Lib.hid (fun w => list_any (takeN b.sl 64) (takeN_lt _ _) w)
  have HMZ : Hid (∀ x ∈ takeZ b, 0 ≤ x ∧ x < 64) := Lib.hid (memZ_in _)
  have hlen : (takeZ b).length ≤ 64 := memZ_len _ _
  have HLT : Hid (memZ (takeN b.sl 64) 64 = takeZ b) := Lib.hid rfl
  rw [HLT.out] at HLI
  have HAD := Lib.hid (fun i w => adr_any b fv av i w hw.1 h64)
  rw [hr] at HRB
  generalize takeZ b = L at *
  clear hW hb0 hA hf ha hw hr HLT h64
  go_enter Tryz.func59, Tryz.ntmps59
  go_upto_region 1 with fail
  change Code.wp _ _ _ _ (w.alloc (blkO b fv av))
  rw [← HW.out]
  clear HW
  go_wp2_with (refine wpLdB rfl _ rfl rfl HX0.out hl ?_)
  refine HRB.out.mono ?_; rintro e w1 ⟨rfl, hb1⟩
  have HX1 := Lib.hid (HX0.out.below hb1)
  have HB1 := Lib.hid (HB0.out.trans (hb1.mono HB0.out.size))
  clear hb1
  go_wp2_with (refine wpLdB rfl _ rfl rfl HX1.out hl ?_)
  refine (HTK.out _).mono ?_; rintro e w2 ⟨rfl, hb2⟩
  have HX2 := Lib.hid (HX1.out.below hb2)
  have HB2 := Lib.hid (HB1.out.trans (hb2.mono HB1.out.size))
  clear hb2
  go_wp2_with fail
  refine (HLI.out _).mono ?_; rintro e w3 ⟨lv, rfl, hlo, hb3⟩
  have HX3 := Lib.hid (HX2.out.below hb3)
  have HB3 := Lib.hid (HB2.out.trans (hb3.mono HB2.out.size))
  have HLS := Lib.hid (OwnsI.sees hlo)
  obtain ⟨lo, lc, rfl, -⟩ := OwnsI.sees hlo
  clear hlo hb3
  go_wp2_with fail
  go_loopw [3, 13] (fun t j wr => ∃ i : Nat, i ≤ L.length ∧ j = .int .i64 i ∧ Hid (OwnsU wr w3.heap.size t (adrs b (L.take i)) ∧ Below w3.heap.size w3 wr)) (fun _ j _ => L.length - (intOf j).toNat)
  case atStart => exact ⟨0, Nat.zero_le _, rfl, Lib.hid ⟨OwnsU.nil _ _, Below.refl _ _⟩⟩
  case round =>
    obtain ⟨i, hi, rfl, HI⟩ := hrel
    obtain ⟨ho, hbw⟩ := HI.out
    have hsz := hbw.size
    have HXr := Lib.hid (HX3.out.below hbw)
    have HBr := Lib.hid hbw
    have hol : (adrs b (L.take i)).length = i := by rw [adrs_len, List.length_take]; omega
    have HOr : Hid (wr.ownsRow w3.heap.size 22 1 _ i (cellsU (adrs b (L.take i)))) := Lib.hid (by have h := ho; unfold OwnsU at h; rw [hol] at h; exact h)
    by_cases hlt : i < L.length
    · obtain ⟨fo', fc', e0, -, hln, hlc⟩ := HLS.out.keep hbw
      obtain ⟨rfl, rfl⟩ : lo = fo' ∧ lc = fc' := by cases e0; exact ⟨rfl, rfl⟩
      obtain ⟨fa, rfl⟩ : ∃ fa, lo = some fa := by
        cases lo with
        | none => rw [hln rfl] at hlt; simp at hlt
        | some fa => exact ⟨fa, rfl⟩
      have q0 := hlc fa rfl i (by omega)
      have hm := HMZ.out (L.getD i 0) (by
        rw [List.getD_eq_getElem?_getD, List.getElem?_eq_getElem (by omega)]
        exact List.getElem_mem _)
      have HSN := Lib.hid (adrs_snoc b L i (by omega))
      have HLT := Lib.hid hlt
      have hii : i ≤ 1000001 := by omega
      have HSr := Lib.hid hsz
      obtain ⟨y, hy⟩ := Int.eq_ofNat_of_zero_le hm.1
      rw [hy] at q0 HSN hm
      have HD := Lib.hid (fun w => HAD.out (y : Int) w hm.1 hm.2)
      have y0 : (0 : Int) ≤ (y : Int) := by omega
      have y1 : (y : Int) < 64 := by omega
      have b0 : (0 : Int) ≤ (i : Int) := by omega
      have b1 : (i : Int) < (L.length : Int) := by omega
      have d1 : decide ((i : Int) < (L.length : Int)) = true := by simp; omega
      clear ho hbw hsz hlt hm hlc hln hy e0 hol HI
      go_wp2_with (refine wpLdB rfl _ rfl rfl HXr.out hl ?_)
      refine (HD.out _).mono ?_; rintro e w5 ⟨rfl, hb5⟩
      have HX5 := Lib.hid (HBr.out.trans (hb5.mono HSr.out))
      have HO5 := Lib.hid (own_keep HOr.out hb5)
      have HS5 := Lib.hid (Nat.le_trans HSr.out hb5.size)
      clear hb5 q0
      go_wp2_with (at_builtin; refine wpList_push1 (w0 := w5) Tryz.underlying39 infoU rfl (by decide) rfl (.tmp 17) (.tmp 21) rfl w3.heap.size _ i _ (.int .u32 (b.addr + (y : Int))) w5.heap.size rfl rfl rfl HO5.out hii HS5.out rfl ?_; intro v' w6 ho6 hb6 _; have HO6 := Lib.hid ho6; have HB6 := Lib.hid (HX5.out.trans hb6); clear ho6 hb6)
      go_roundw
      case rel =>
        refine ⟨i + 1, HLT.out, by go_num, Lib.hid ⟨?_, HB6.out⟩⟩
        have := HO6.out
        rw [← HSN.out] at this
        have e : (adrs b (L.take (i + 1))).length = i + 1 := by rw [adrs_len, List.length_take]; have := HLT.out; omega
        show World.ownsRow _ _ _ _ _ _ _
        rw [e]
        exact this
      case measure => simp [intOf]; have := HLT.out; omega
    · obtain rfl : i = L.length := by omega
      have d1 : decide ((L.length : Int) < (L.length : Int)) = false := by simp
      have htt : L.take L.length = L := List.take_length
      rw [htt] at HOr
      clear ho hbw hsz hlt hol HI htt
      go_wp2_with fail
      go_ret
      refine ⟨_, rfl, ?_, HB3.out.trans (HBr.out.mono HB3.out.size)⟩
      show World.ownsRow _ _ _ _ _ _ _
      rw [adrs_len]
      exact own_le HOr.out HB3.out.size
end
section
open Go.RowKit
abbrev TArr : TypeId := 131
abbrev arrO (T : List Int) : Obj := .cells (T.map (Value.int .u8)).toArray TArr
/-- An array of bytes alone in block g. -/
def ArrAt (w : World) (g : Nat) (T : List Int) : Prop := w.heap[g]? = some (arrO T)
theorem ArrAt.cell {w : World} {g : Nat} {T : List Int} (h : ArrAt w g T) {i : Nat} {x : Int} (hx : T[i]? = some x) : w.cell? ⟨g, i, none⟩ = some (.int .u8 x) := by
  have h' : w.heap[g]? = some (.cells (T.map (Value.int .u8)).toArray TArr (0, 0)) := h
  simp [World.cell?, h', hx]
theorem ArrAt.froz {w : World} {g : Nat} {T : List Int} (h : ArrAt w g T) (i : Nat) : w.frozen? ⟨g, i, none⟩ = false := by
  have h' : w.heap[g]? = some (.cells (T.map (Value.int .u8)).toArray TArr (0, 0)) := h
  simp [World.frozen?, h']
theorem ArrAt.set {w : World} {g : Nat} {T : List Int} (h : ArrAt w g T) (i : Nat) (x : Int) : ArrAt (w.setCell ⟨g, i, none⟩ (.int .u8 x)) g (T.set i x) := by
  have h' : w.heap[g]? = some (.cells (T.map (Value.int .u8)).toArray TArr (0, 0)) := h
  show (w.setCell _ _).heap[g]? = _
  simp [World.setCell, Array.getElem?_modify, h', List.map_set]
theorem ArrAt.keepB {w w' : World} {g n : Nat} {T : List Int} (h : ArrAt w g T) (hb : Below n w w') (hg : g < n) : ArrAt w' g T := (hb.block g hg).trans h
theorem ArrAt.setO {w : World} {g : Nat} {T : List Int} (h : ArrAt w g T) {a : Addr} (ha : g ≠ a.block) (u : Value) : ArrAt (w.setCell a u) g T := by
  show (w.setCell a u).heap[g]? = _
  rw [Below.heap_setCell _ _ _ _ ha]
  exact h
def Z65 : List Int := List.replicate 65 0
/-- Of the first n attributes, those that are some slot's. -/
def kptA (U : Nat) (L : List PA) : Nat → List PA
  | 0 => []
  | n + 1 => if U.testBit n = true then kptA U L n ++ [atA L n] else kptA U L n
/-- Their new numbers. -/
def trnA (U : Nat) (L : List PA) : Nat → List Int
  | 0 => Z65
  | n + 1 => if U.testBit n = true then (trnA U L n).set (n + 1) ((kptA U L n).length + 1 : Nat) else trnA U L n
theorem kptA_len (U : Nat) (L : List PA) : ∀ n, (kptA U L n).length ≤ n
  | 0 => Nat.le_refl _
  | n + 1 => by
    have := kptA_len U L n
    unfold kptA
    split
    · simp; omega
    · omega
theorem trnA_len (U : Nat) (L : List PA) : ∀ n, (trnA U L n).length = 65
  | 0 => rfl
  | n + 1 => by
    have := trnA_len U L n
    unfold trnA
    split
    · simp; omega
    · omega
theorem trnA_bd (U : Nat) (L : List PA) : ∀ n, n ≤ 64 → ∀ x ∈ trnA U L n, 0 ≤ x ∧ x ≤ 64
  | 0, _ => fun x hx => by
    obtain rfl := List.eq_of_mem_replicate hx
    omega
  | n + 1, hn => fun x hx => by
    have ih := trnA_bd U L n (by omega)
    unfold trnA at hx
    split at hx
    · rcases List.mem_or_eq_of_mem_set hx with h | h
      · exact ih x h
      · have := kptA_len U L n
        omega
    · exact ih x hx
/-- The block without attributes that are no slot's. -/
def tidS (b : BlkS) : BlkS := { b with sl := b.sl.map (fun k => (trnA (usedN b.sl 64) b.attrs b.attrs.length).getD k.toNat 0), attrs := kptA (usedN b.sl 64) b.attrs b.attrs.length }
def mapS (f : Int → Int) (l : List Int) (i : Nat) : List Int := (l.take i).map f ++ l.drop i
theorem mapS_len (f : Int → Int) (l : List Int) (i : Nat) : (mapS f l i).length = l.length := by unfold mapS; simp; omega
theorem mapS_succ (f : Int → Int) (l : List Int) (i : Nat) (h : i < l.length) : (mapS f l i).set i (f (l.getD i 0)) = mapS f l (i + 1) := by
  unfold mapS
  have hlen : ((l.take i).map f).length = i := by simp; omega
  rw [List.set_append_right _ _ (by omega), hlen, Nat.sub_self, List.drop_eq_getElem_cons h, List.set_cons_zero, List.take_add_one, List.getElem?_eq_getElem h, Option.toList_some, List.map_append, List.append_assoc, List.getD_eq_getElem?_getD, List.getElem?_eq_getElem h]
  rfl
theorem mapS_zero (f : Int → Int) (l : List Int) : mapS f l 0 = l := by simp [mapS]
theorem mapS_all (f : Int → Int) (l : List Int) : mapS f l l.length = l.map f := by simp [mapS]
set_option maxRecDepth 100000 in
set_option maxHeartbeats 16000000 in
theorem tidied_any (b : BlkS) (fv av : Value) (w : World) (ha : SeesA w av b.attrs) (hl : b.sl.length = 64) (hok : okB b.sl) (hsl : ∀ i, 0 ≤ b.sl.getD i 0 ∧ b.sl.getD i 0 ≤ b.attrs.length) (hal : b.attrs.length ≤ 64) (hf1 : fv.oneCell' = true) :
    Calls Tryz.prog 83 #[.agg (blkL b fv av).toArray] w fun e w' => ∃ av', e = .returned (.agg (blkL (tidS b) fv av').toArray) ∧ RowA EAt w' w.heap.size av' (tidS b).attrs ∧ Below w.heap.size w w' := by
  obtain ⟨W, hW⟩ : ∃ W, W = ((w.alloc (blkO b fv av)).alloc (blkO zB NS NS)).alloc (arrO Z65) := ⟨_, rfl⟩
  obtain ⟨hb0, hA, hT, hR, hsz⟩ := three_newB w (blkO b fv av) (blkO zB NS NS) (arrO Z65)
  rw [← hW] at hb0 hA hT hR hsz
  have HX0 : Hid (BlkAt W w.heap.size b fv av) := Lib.hid hA
  have HZ0 : Hid (BlkAt W (w.heap.size + 1) zB NS NS) := Lib.hid hT
  have HT0 : Hid (ArrAt W (w.heap.size + 2) Z65) := Lib.hid hR
  have HB0 := Lib.hid hb0
  have HSZ := Lib.hid hsz
  have HW := Lib.hid hW
  have HUS := Lib.hid (fun w => used_any b fv av hl hok w)
  have hU := usedN_lt b.sl 64
  have HTD : Hid (tidS b = { b with sl := b.sl.map (fun k => (trnA (usedN b.sl 64) b.attrs b.attrs.length).getD k.toNat 0), attrs := kptA (usedN b.sl 64) b.attrs b.attrs.length }) := Lib.hid rfl
  generalize tidS b = R at *
  generalize usedN b.sl 64 = U at *
  have HH := Lib.hid (fun (i : Nat) (h : i < 64) w => (hasB_nat U i h) ▸ has_any U (i : Int) hU w)
  have HAS := Lib.hid ha
  obtain ⟨ao, ac, rfl, hac, hnil, -⟩ := id ha
  have HNIL := Lib.hid hnil
  have HSL := Lib.hid hsl
  have HIX := Lib.hid (fun (i : Nat) (hi : i < 64) (w : World) => index64 (get64 hl hi) hl w)
  clear hW hb0 hA hT hR hsz ha hok hU hnil hsl
  go_enter Tryz.func83, Tryz.ntmps83
  go_upto_region 3 with fail
  change Code.wp _ _ _ _ (((w.alloc (blkO b fv (.slice ao b.attrs.length ac))).alloc (blkO zB NS NS)).alloc (arrO Z65))
  rw [← HW.out]
  clear HW
  go_wp2_with (refine wpLdB rfl _ rfl rfl HX0.out hl ?_)
  refine (HUS.out _).mono ?_; rintro e w1 ⟨rfl, hb1⟩
  have HX1 := Lib.hid (HX0.out.below hb1)
  have HZ1 := Lib.hid (HZ0.out.below hb1)
  have HT1 : Hid (ArrAt w1 (w.heap.size + 2) Z65) := Lib.hid ((hb1.block _ (heap_lt HT0.out)).trans HT0.out)
  have HB1 := Lib.hid (HB0.out.trans (hb1.mono HB0.out.size))
  have HS1 : Hid (w.heap.size + 3 ≤ w1.heap.size) := Lib.hid (Nat.le_trans (Nat.le_of_eq HSZ.out.symm) hb1.size)
  have c67 := HX1.out.attrs hl
  clear hb1
  go_wp2_with fail
  clear c67
  go_loopw [3, 15] (fun t j wr => ∃ i : Nat, i ≤ b.attrs.length ∧ j = .int .i64 i ∧ Hid (BlkAt wr w.heap.size b fv (.slice ao b.attrs.length ac) ∧ BlkAt wr (w.heap.size + 1) zB NS NS ∧ ArrAt wr (w.heap.size + 2) (trnA U b.attrs (i)) ∧ RowA EAt wr (w.heap.size + 3) t (kptA U b.attrs (i)) ∧ Below w.heap.size w wr ∧ w.heap.size + 3 ≤ (wr).heap.size)) (fun _ j _ => b.attrs.length - (intOf j).toNat)
  case atStart => exact ⟨0, Nat.zero_le _, rfl, Lib.hid ⟨HX1.out, HZ1.out, HT1.out, World.ownsRow_nil _ _ _ _, HB1.out, HS1.out⟩⟩
  case round =>
    obtain ⟨i, hi, rfl, HI⟩ := hrel
    obtain ⟨hx, hz, ht, hr, hb, hs⟩ := HI.out
    by_cases hlt : i < b.attrs.length
    · obtain ⟨ga, rfl⟩ : ∃ ga, ao = some ga := by
        cases ao with
        | none => rw [HNIL.out rfl] at hlt; simp at hlt
        | some ga => exact ⟨ga, rfl⟩
      obtain ⟨ao', ac', e0, -, -, hcc⟩ := HAS.out.below hb
      obtain ⟨rfl, rfl⟩ : some ga = ao' ∧ ac = ac' := by cases e0; exact ⟨rfl, rfl⟩
      have hcg := hcc ga rfl i _ (atA_get hlt)
      obtain ⟨p, hp⟩ : ∃ p, p = atA b.attrs i := ⟨_, rfl⟩
      rw [← hp] at hcg
      obtain ⟨q0, q1⟩ := hcg
      have q1 := ofsA q1
      have b0 : (0 : Int) ≤ (i : Int) := by omega
      have b1 : (i : Int) < (b.attrs.length : Int) := by omega
      have d1 : decide ((i : Int) < (b.attrs.length : Int)) = true := by simp; omega
      have HLT := Lib.hid hlt
      have HHI := Lib.hid (HH.out i (by omega))
      have HP := Lib.hid hp
      have HX := Lib.hid hx
      have HZ := Lib.hid hz
      have HT := Lib.hid ht
      have HR := Lib.hid hr
      have HB := Lib.hid hb
      have HS := Lib.hid hs
      have hKL := kptA_len U b.attrs i
      clear hx hz ht hr hb hs hcc e0 hp hlt HI
      go_upto_region 7 with fail
      obtain ⟨wx, hwx⟩ : ∃ wx, wx = wr.alloc (atO p) := ⟨_, rfl⟩
      have hx1 : wx.heap[wr.heap.size]? = some (atO p) := by rw [hwx]; exact heap_alloc_new wr _
      have hbx : Below wr.heap.size wr wx := by rw [hwx]; exact belNew wr _
      change Code.wp _ _ _ _ (wr.alloc (atO p))
      rw [← hwx]
      obtain ⟨x0, x1⟩ := cells2 hx1
      have HXx := Lib.hid (HX.out.below hbx)
      have HZx := Lib.hid (HZ.out.below hbx)
      have HTx := Lib.hid (HT.out.keepB hbx (heap_lt HT.out))
      have HRx := Lib.hid (row_keepA HR.out hbx)
      have HBx := Lib.hid (HB.out.trans (hbx.mono HB.out.size))
      have HSx := Lib.hid (Nat.le_trans HS.out hbx.size)
      clear hwx hx1 hbx q0 q1 HX HZ HT HR HB HS
      cases hbit : U.testBit i with
      | false =>
        rw [hbit] at HHI
        have HKE : Hid (kptA U b.attrs (i + 1) = kptA U b.attrs i ∧ trnA U b.attrs (i + 1) = trnA U b.attrs i) := Lib.hid ⟨by show (if _ then _ else _) = _; rw [hbit]; rfl, by show (if _ then _ else _) = _; rw [hbit]; rfl⟩
        clear hbit
        go_wp2_with fail
        refine (HHI.out _).mono ?_; rintro e w3 ⟨rfl, rfl⟩
        go_wp2_with fail
        go_roundw
        case rel =>
          refine ⟨i + 1, HLT.out, by go_num, Lib.hid ⟨HXx.out, HZx.out, ?_, ?_, HBx.out, HSx.out⟩⟩
          · rw [HKE.out.2]; exact HTx.out
          · rw [HKE.out.1]; exact HRx.out
        case measure => simp [intOf]; have := HLT.out; omega
      | true =>
        rw [hbit] at HHI
        obtain ⟨m, hm⟩ : ∃ m, m = (kptA U b.attrs i).length + 1 := ⟨_, rfl⟩
        have HKE : Hid (kptA U b.attrs (i + 1) = kptA U b.attrs i ++ [p] ∧ trnA U b.attrs (i + 1) = (trnA U b.attrs i).set (i + 1) (m : Int)) := Lib.hid ⟨by rw [HP.out]; show (if _ then _ else _) = _; rw [hbit]; rfl, by rw [hm]; show (if _ then _ else _) = _; rw [hbit]; rfl⟩
        have HM := Lib.hid hm
        have hm64 : m ≤ 64 := by omega
        have hal2 : (kptA U b.attrs i).length ≤ 1000001 := by omega
        have hw8 : IntKind.u8.wrap (m : Int) = m := by rw [IntKind.wrap_u8]; omega
        have hw1 : IntKind.i64.wrap ((i : Int) + 1) = (i : Int) + 1 := IntWalk.i64_in _ (by omega)
        have b2 : (0 : Int) ≤ (i : Int) + 1 := by omega
        have b3 : (i : Int) + 1 < 65 := by omega
        have htn : ((i : Int) + 1).toNat = i + 1 := by omega
        have hi1 : i + 1 < 65 := by omega
        clear hbit hm
        go_wp2_with fail
        refine (HHI.out _).mono ?_; rintro e w3 ⟨rfl, rfl⟩
        go_upto_region 9 with (at_builtin; refine wpList_pushA (w0 := wx) Tryz.underlying26 infoA rfl (.tmp 23) (.tmp 25) rfl (w.heap.size + 3) _ (kptA U b.attrs i) p wx.heap.size rfl rfl rfl HRx.out hal2 HSx.out ?_; intro v5 w5 ho5 hb5 hg5; have HO5 := Lib.hid ho5; have HX5 := Lib.hid (HXx.out.keepB hb5 (by omega)); have HZ5 := Lib.hid (HZx.out.keepB hb5 (by omega)); have HT5 := Lib.hid (HTx.out.keepB hb5 (by omega)); have HB5 := Lib.hid (HBx.out.trans (hb5.mono (by omega))); have HS5 := Lib.hid (Nat.le_trans HSx.out hb5.size); clear ho5 hb5 hg5)
        obtain ⟨ao5, ac5, e5, -⟩ := RowA.sees HO5.out
        rw [List.length_append, List.length_singleton, ← HM.out] at e5
        subst e5
        have htl : i + 1 < (trnA U b.attrs i).length := by rw [trnA_len]; omega
        obtain ⟨z0, hz0⟩ : ∃ z, (trnA U b.attrs i)[i + 1]? = some z := ⟨_, List.getElem?_eq_getElem htl⟩
        have c1 := HT5.out.cell hz0
        have f1 := HT5.out.froz (i + 1)
        clear htl hz0
        go_wp2_with fail
        go_roundw
        case rel =>
          refine ⟨i + 1, HLT.out, by go_num, Lib.hid ⟨?_, ?_, ?_, ?_, ?_, ?_⟩⟩
          · exact blk_setO HX5.out (a := ⟨w.heap.size + 2, i + 1, none⟩) (by show w.heap.size ≠ w.heap.size + 2; omega) _
          · exact blk_setO HZ5.out (a := ⟨w.heap.size + 2, i + 1, none⟩) (by show w.heap.size + 1 ≠ w.heap.size + 2; omega) _
          · rw [HKE.out.2]; exact HT5.out.set (i + 1) m
          · rw [HKE.out.1]; exact own_set HO5.out (a := ⟨w.heap.size + 2, i + 1, none⟩) (by show w.heap.size + 2 < w.heap.size + 3; omega) _
          · exact HB5.out.setCell (p := ⟨w.heap.size + 2, i + 1, none⟩) (by show w.heap.size ≤ w.heap.size + 2; omega) _
          · exact size_set HS5.out _ _
        case measure => simp [intOf]; have := HLT.out; omega
    · obtain rfl : i = b.attrs.length := by omega
      have d1 : decide ((b.attrs.length : Int) < (b.attrs.length : Int)) = false := by simp
      obtain ⟨T, hT⟩ : ∃ T, T = trnA U b.attrs b.attrs.length := ⟨_, rfl⟩
      obtain ⟨KPT, hKPT⟩ : ∃ K, K = kptA U b.attrs b.attrs.length := ⟨_, rfl⟩
      have hTl : T.length = 65 := by rw [hT]; exact trnA_len _ _ _
      have HTB : Hid (∀ x ∈ T, 0 ≤ x ∧ x ≤ 64) := Lib.hid (by rw [hT]; exact trnA_bd _ _ _ hal)
      rw [← hT] at ht
      rw [← hKPT] at hr
      rw [← hT, ← hKPT] at HTD
      obtain ⟨F, hF⟩ : ∃ F : Int → Int, F = fun k => T.getD k.toNat 0 := ⟨_, rfl⟩
      rw [← hF] at HTD
      obtain ⟨ko, kn, kc, rfl⟩ := own_form hr
      have HX := Lib.hid hx
      have HZ := Lib.hid hz
      have HT := Lib.hid ht
      have HR := Lib.hid hr
      have HB := Lib.hid hb
      have HS := Lib.hid hs
      have HF := Lib.hid hF
      have HSLM : Hid (mapS F b.sl 0 = b.sl) := Lib.hid (mapS_zero _ _)
      clear hx hz ht hr hb hs hlt HI hT hKPT hF
      go_wp2_with (refine wpLd64 rfl _ rfl rfl HX.out hl ?_)
      go_loopw [36] (fun j wr => ∃ i : Nat, i ≤ 64 ∧ j = .int .i64 i ∧ Hid (BlkAt wr w.heap.size (slS b (mapS F b.sl (i))) fv (.slice ao b.attrs.length ac) ∧ BlkAt wr (w.heap.size + 1) zB NS NS ∧ ArrAt wr (w.heap.size + 2) T ∧ RowA EAt wr (w.heap.size + 3) (.slice ko kn kc) KPT ∧ Below w.heap.size w wr ∧ w.heap.size + 3 ≤ (wr).heap.size)) (fun j _ => 64 - (intOf j).toNat)
      case atStart => exact ⟨0, Nat.zero_le _, rfl, Lib.hid ⟨by rw [HSLM.out]; exact HX.out, HZ.out, HT.out, HR.out, HB.out, HS.out⟩⟩
      case round =>
        obtain ⟨i, hi, rfl, HI⟩ := hrel
        obtain ⟨hx, hz, ht, hr, hb, hs⟩ := HI.out
        by_cases hlt : i < 64
        · have d2 : decide ((i : Int) < 64) = true := by simp; omega
          have b0 : (0 : Int) ≤ (i : Int) := by omega
          have b1 : (i : Int) < 64 := by omega
          have hix := HIX.out i hlt wr
          have hsi := HSL.out i
          have HMS := Lib.hid (mapS_succ F b.sl i (by omega))
          have hml : (mapS F b.sl i).length = 64 := (mapS_len _ _ _).trans hl
          obtain ⟨y, hy⟩ := Int.eq_ofNat_of_zero_le hsi.1
          rw [hy] at hix hsi HMS
          have y0 : (0 : Int) ≤ (y : Int) := by omega
          have y1 : (y : Int) < 65 := by omega
          have hyT : y < T.length := by omega
          have hfy : F (y : Int) = T.getD y 0 := by rw [HF.out]; rfl
          rw [hfy] at HMS
          have hgy : T[y]? = some (T.getD y 0) := by rw [List.getD_eq_getElem?_getD, List.getElem?_eq_getElem hyT]; rfl
          have ct := ht.cell hgy
          have ks := hx.slot (get64 (sl := mapS F b.sl i) hml hlt)
          have kf := hx.froz (i + 2)
          rw [Nat.add_comm] at ks kf
          have hzz : 0 ≤ T.getD y 0 ∧ T.getD y 0 ≤ 64 := HTB.out _ (List.mem_of_getElem? hgy)
          obtain ⟨z, hz0⟩ : ∃ z, z = T.getD y 0 := ⟨_, rfl⟩
          rw [← hz0] at ct HMS hzz
          have HLT := Lib.hid hlt
          have HN : Hid (BlkAt (wr.setCell ⟨w.heap.size, 2 + i, none⟩ (.int .u8 z)) w.heap.size (slS b (mapS F b.sl (i + 1))) fv (.slice ao b.attrs.length ac) ∧ BlkAt (wr.setCell ⟨w.heap.size, 2 + i, none⟩ (.int .u8 z)) (w.heap.size + 1) zB NS NS ∧ ArrAt (wr.setCell ⟨w.heap.size, 2 + i, none⟩ (.int .u8 z)) (w.heap.size + 2) T ∧ RowA EAt (wr.setCell ⟨w.heap.size, 2 + i, none⟩ (.int .u8 z)) (w.heap.size + 3) (.slice ko kn kc) KPT ∧ Below w.heap.size w (wr.setCell ⟨w.heap.size, 2 + i, none⟩ (.int .u8 z)) ∧ w.heap.size + 3 ≤ ((wr.setCell ⟨w.heap.size, 2 + i, none⟩ (.int .u8 z))).heap.size) := Lib.hid (by
            refine ⟨?_, blk_setO hz (a := ⟨w.heap.size, 2 + i, none⟩) (by show w.heap.size + 1 ≠ w.heap.size; omega) _, ht.setO (a := ⟨w.heap.size, 2 + i, none⟩) (by show w.heap.size + 2 ≠ w.heap.size; omega) _, own_set hr (a := ⟨w.heap.size, 2 + i, none⟩) (by show w.heap.size < w.heap.size + 3; omega) _, hb.setCell (p := ⟨w.heap.size, 2 + i, none⟩) (Nat.le_refl _) _, size_set hs _ _⟩
            rw [← HMS.out, Nat.add_comm 2 i]
            exact hx.setSlot i (by show i < (mapS F b.sl i).length; omega) z)
          clear hx hz ht hr hb hs hlt HI hsi hml hy hfy hgy hz0 hyT
          go_wp2_with fail
          go_roundw
          case rel => exact ⟨i + 1, HLT.out, by go_num, HN⟩
          case measure => simp [intOf]; have := HLT.out; omega
        · obtain rfl : i = 64 := by omega
          have d2 : decide (((64 : Nat) : Int) < 64) = false := by decide
          have HMA : Hid (mapS F b.sl 64 = b.sl.map F) := Lib.hid (by rw [← hl]; exact mapS_all _ _)
          have hlm : (slS b (mapS F b.sl 64)).sl.length = 64 := (mapS_len _ _ _).trans hl
          have HX2 := Lib.hid hx
          have HZ2 := Lib.hid hz
          have HR2 := Lib.hid hr
          have HB2 := Lib.hid hb
          have HS2 := Lib.hid hs
          have c67 := hx.attrs hlm
          have f67 := hx.froz 67
          have HRE : Hid (∀ f v, blkL R f v = blkL (slS b (mapS F b.sl 64)) f v) := Lib.hid (fun f v => by rw [HTD.out, HMA.out]; rfl)
          have HRA : Hid (R.attrs = KPT) := Lib.hid (by rw [HTD.out])
          clear hx hz ht hr hb hs hlt HI
          go_upto_region 17 with fail
          generalize slS b (mapS F b.sl 64) = bS at *
          have HX6 := Lib.hid (HX2.out.setAttrs hlm (.slice ko kn kc))
          have HZ6 := Lib.hid (blk_setO HZ2.out (a := ⟨w.heap.size, 67, none⟩) (by show w.heap.size + 1 ≠ w.heap.size; omega) (.slice ko kn kc))
          have HR6 := Lib.hid (own_set HR2.out (a := ⟨w.heap.size, 67, none⟩) (by show w.heap.size < w.heap.size + 3; omega) (.slice ko kn kc))
          have HB6 := Lib.hid (HB2.out.setCell (p := ⟨w.heap.size, 67, none⟩) (Nat.le_refl _) (.slice ko kn kc))
          clear c67 f67
          go_wp2_with (first
            | (refine wpLdB rfl _ rfl rfl HX6.out hlm ?_)
            | (refine wpStB rfl _ _ rfl rfl rfl HZ6.out zB_len hlm hf1 rfl ?_; intro w7 hx7 hg7))
          refine bodyPost_ret (resB1 Tryz.results83 rfl (loadVarB hx7 hlm)) rfl ⟨_, by rw [HRE.out], ?_, HB6.out.grown hg7 HB6.out.size (fun k hk => by cases hk; omega)⟩
          rw [HRA.out]
          exact own_le (own_grown HR6.out hg7 (by omega)) (by omega)
end
end Go.Proofs.YtgodmnpcedfdcaaGreat
