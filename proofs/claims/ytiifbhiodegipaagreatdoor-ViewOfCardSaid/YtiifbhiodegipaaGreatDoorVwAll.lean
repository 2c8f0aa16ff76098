/- The document's All of any items; the laws' count. Made by g_vwall.py. -/
import Derived.Test.YtiifbhiodegipaaGreatDoorVwRr
import Derived.Great.BuildSlice
namespace Go.Proofs.YtiifbhiodegipaaGreatDoor
open Go.RowKit
def kindR (r : DR) : Int := match r with
  | .no => 0
  | .lock => 6
  | .pool _ => 1
  | .blk _ => 2
  | .aff _ _ _ => 3
  | .han _ _ => 4
  | .nod _ _ => 5
theorem encR_form (x : RX) : ∃ c1 c2 c3 c4 c5 c6 c7 c8 c9 c10 c11 c12 c13, encR x = [.int .i64 (kindR x.1), c1, c2, c3, c4, c5, c6, c7, c8, c9, c10, c11, c12, c13] := by
  obtain ⟨r, s⟩ := x
  cases r with
  | no => exact ⟨_, _, _, _, _, _, _, _, _, _, _, _, _, rfl⟩
  | lock => exact ⟨_, _, _, _, _, _, _, _, _, _, _, _, _, rfl⟩
  | pool q => exact ⟨_, _, _, _, _, _, _, _, _, _, _, _, _, rfl⟩
  | blk b => exact ⟨_, _, _, _, _, _, _, _, _, _, _, _, _, rfl⟩
  | aff n a st => exact ⟨_, _, _, _, _, _, _, _, _, _, _, _, _, rfl⟩
  | han n L => exact ⟨_, _, _, _, _, _, _, _, _, _, _, _, _, rfl⟩
  | nod n g => exact ⟨_, _, _, _, _, _, _, _, _, _, _, _, _, rfl⟩
theorem cell14 {w : World} {g : Nat} {x0 x1 x2 x3 x4 x5 x6 x7 x8 x9 x10 x11 x12 x13 : Value} {t : TypeId} (h : w.heap[g]? = some (.cells #[x0, x1, x2, x3, x4, x5, x6, x7, x8, x9, x10, x11, x12, x13] t (0, 0))) : w.cell? ⟨g, 0, none⟩ = some x0 ∧ w.cell? ⟨g, 1, none⟩ = some x1 ∧ w.cell? ⟨g, 2, none⟩ = some x2 ∧ w.cell? ⟨g, 3, none⟩ = some x3 ∧ w.cell? ⟨g, 4, none⟩ = some x4 ∧ w.cell? ⟨g, 5, none⟩ = some x5 ∧ w.cell? ⟨g, 6, none⟩ = some x6 ∧ w.cell? ⟨g, 7, none⟩ = some x7 ∧ w.cell? ⟨g, 8, none⟩ = some x8 ∧ w.cell? ⟨g, 9, none⟩ = some x9 ∧ w.cell? ⟨g, 10, none⟩ = some x10 ∧ w.cell? ⟨g, 11, none⟩ = some x11 ∧ w.cell? ⟨g, 12, none⟩ = some x12 ∧ w.cell? ⟨g, 13, none⟩ = some x13 := by
  refine ⟨?_, ?_, ?_, ?_, ?_, ?_, ?_, ?_, ?_, ?_, ?_, ?_, ?_, ?_⟩ <;> simp [World.cell?, h]
/-- What is said by the first items, one behind the other; none: one says nothing, or two have one key. -/
def allN (L : List IT) : Nat → Option (List DR)
  | 0 => some []
  | i + 1 => match allN L i with
    | none => none
    | some rs => match L[i]? with
      | none => some rs
      | some q => if (L.take i).any (fun y => decide (y.1 = q.1)) = true then none else match rdAny q.1 q.2.1 with
        | .no => none
        | r => some (rs ++ [r])
theorem allN_none {L : List IT} {i j : Nat} (h : allN L i = none) (hj : i ≤ j) : allN L j = none := by
  induction j with
  | zero => rwa [Nat.le_zero.1 hj] at h
  | succ j ih =>
    by_cases e : i = j + 1
    · rwa [e] at h
    · rw [allN, ih (by omega)]
theorem allN_step {L : List IT} {i : Nat} {rs : List DR} {q : IT} (h : allN L i = some rs) (hq : L[i]? = some q) (hd : (L.take i).any (fun y => decide (y.1 = q.1)) = false) (hk : kindR (rdAny q.1 q.2.1) ≠ 0) : allN L (i + 1) = some (rs ++ [rdAny q.1 q.2.1]) := by
  rw [allN, h, hq]
  simp only []
  rw [hd, if_neg (by simp)]
  cases hr : rdAny q.1 q.2.1 with
  | no => rw [hr] at hk; exact absurd rfl hk
  | _ => rfl
theorem allN_dup {L : List IT} {i : Nat} {rs : List DR} {q : IT} (h : allN L i = some rs) (hq : L[i]? = some q) (hd : (L.take i).any (fun y => decide (y.1 = q.1)) = true) : allN L (i + 1) = none := by
  rw [allN, h, hq]
  simp only []
  rw [hd, if_pos rfl]
theorem allN_no {L : List IT} {i : Nat} {rs : List DR} {q : IT} (h : allN L i = some rs) (hq : L[i]? = some q) (hk : kindR (rdAny q.1 q.2.1) = 0) : allN L (i + 1) = none := by
  rw [allN, h, hq]
  simp only []
  split
  · rfl
  · cases hr : rdAny q.1 q.2.1 with
    | no => rfl
    | lock => rw [hr] at hk; exact absurd hk (by decide)
    | pool q => rw [hr] at hk; exact absurd hk (by show (1 : Int) ≠ 0; decide)
    | blk b => rw [hr] at hk; exact absurd hk (by show (2 : Int) ≠ 0; decide)
    | aff n a st => rw [hr] at hk; exact absurd hk (by show (3 : Int) ≠ 0; decide)
    | han n l => rw [hr] at hk; exact absurd hk (by show (4 : Int) ≠ 0; decide)
    | nod n g => rw [hr] at hk; exact absurd hk (by show (5 : Int) ≠ 0; decide)
theorem infoRecR : (Tryz.prog.info? TRec).map (fun i => (i.zero, i.size, i.bytes)) = some (some (.agg recZ.toArray), 14, 192) := by kernel_rfl
/-- A record loaded as a whole. -/
theorem wpLdG {w : World} {ops : Array Oper} {rest : List Oper} {o : Oper} {a : Act} {Q : Exit → Act → World → Prop} {T : TypeId} {g n : Nat} {L : List Value} (hgd : o.guard = none) (x : Operand) (ho : o.op = .load T x) (hx : a.eval x = .pointer (some ⟨g, 0, none⟩)) (h : At w g T L) (hl : L.length = n) (hi : (Tryz.prog.info? T).map (·.size) = some n) {fs} (hT : Tryz.prog.underlying T = some (.struct fs))
    (hK : wpList Tryz.prog ops Q rest (a.put o.dst (.agg L.toArray)) w) : wpList Tryz.prog ops Q (o :: rest) a w :=
  wpList_load_mid hgd T x ho g 0 hx L _ h.whole hT rfl (by rw [hi, hl]) hK
/-- The same out of a row. -/
theorem wpLdRow {w : World} {ops : Array Oper} {rest : List Oper} {o : Oper} {a : Act} {Q : Exit → Act → World → Prop} {T : TypeId} {g k n : Nat} {b : Addr} {L : List Value} (hgd : o.guard = none) (x : Operand) (ho : o.op = .load T x) (hb : b = ⟨g, 0, none⟩) (hx : a.eval x = .pointer (some (b.add k))) (h : w.rangeAt g k L) (hl : L.length = n) (hi : (Tryz.prog.info? T).map (·.size) = some n) {fs} (hT : Tryz.prog.underlying T = some (.struct fs))
    (hK : wpList Tryz.prog ops Q rest (a.put o.dst (.agg L.toArray)) w) : wpList Tryz.prog ops Q (o :: rest) a w := by
  have e : b.add k = ⟨g, k, none⟩ := by rw [hb, Addr.add_mid, Nat.zero_add]
  rw [e] at hx
  exact wpList_load_mid hgd T x ho g k hx L _ h hT rfl (by rw [hi, hl]) hK
theorem row_range {α : Type} {E : TypeId} {s : Nat} {enc : α → List Value} (he : ∀ p, (enc p).length = s) {w : World} {B n c g : Nat} {L : List α} (h : RowG E s enc w B (.slice (some ⟨g, 0, none⟩) n c) L) {i : Nat} {p : α} (hp : L[i]? = some p) : w.rangeAt g (i * s) (enc p) := by
  intro j v hv
  have hj : j < s := by
    have := (List.getElem?_eq_some_iff.1 hv).1
    rwa [he] at this
  have h1 := World.ownsRow.cells h (g := g) rfl (i * s + j) v ((flat_atG he L i j p hp hj).trans hv)
  rwa [Addr.add_mid, Nat.zero_add] at h1
theorem row_addr {α : Type} {E : TypeId} {s : Nat} {enc : α → List Value} {w : World} {B : Nat} {ao : Option Addr} {n c : Nat} {L : List α} (h : RowG E s enc w B (.slice ao n c) L) (hn : 0 < L.length) : ∃ g, ao = some ⟨g, 0, none⟩ := by
  rcases h.2 with ⟨e, h0⟩ | ⟨g, cap, cur, e, _⟩
  · omega
  · cases e
    exact ⟨g, rfl⟩
/-- A slice of one record, as one value. -/
theorem wp_bsR {w : World} {ops : Array Oper} {rest : List Oper} {o : Oper} {a : Act} {Q : Exit → Act → World → Prop} (hgd : o.guard = none) (x : Operand) (ho : o.op = .buildSlice 36 1 #[(0, x)]) (y : RX) (hx : a.eval x = .agg (encR y).toArray)
    (h : wpList Tryz.prog ops Q rest (a.put o.dst (.slice (some ⟨w.heap.size, 0, none⟩) 1 1)) (w.alloc (.cells (encR y).toArray TRec))) : wpList Tryz.prog ops Q (o :: rest) a w := by
  obtain ⟨i0, hi, hz0, hz1, hz2⟩ := info_parts infoRecR
  refine wpList_plain hgd fun K hK => ?_
  refine wp_buildSlice 36 TRec 1 _ ho _ i0 _ Tryz.underlying36 hi hz0 (by rw [hz1]; omega) (by rw [hz1]; omega) ?_ (hK _ _ h)
  have h1 := Great.fill_whole (s := 14) (by omega) [Value.agg (encR y).toArray] ((Array.range (1 * 14)).map ((Value.agg recZ.toArray).cells[· % (Value.agg recZ.toArray).cells.size]!)) (fun v hv => by
    rw [List.mem_singleton.1 hv]
    show (encR y).toArray.size = 14
    rw [List.size_toArray, encR_len]) (by simp)
  rw [hz1]
  simp only [List.map_toArray, List.map_cons, List.map_nil, hx]
  rw [List.flatMap_cons, List.flatMap_nil, List.append_nil] at h1
  exact h1
def AllPost (w : World) (o : Option (List DR)) (e : Ending) (w' : World) : Prop := match o with
  | none => e = .returned (.tuple #[NS, .bool false]) ∧ Below w.heap.size w w'
  | some rs => ∃ v X, e = .returned (.tuple #[v, .bool true]) ∧ RowG TRec 14 encR w' w.heap.size v X ∧ X.map (·.1) = rs ∧ (∀ x ∈ X, ROk w' x) ∧ Below w.heap.size w w'
/-- The records so far: their row, their lists beside it. -/
structure AllIs (w wr : World) (v : Value) (X : List RX) : Prop where
  row : RowG TRec 14 encR wr w.heap.size v X
  ok : ∀ x ∈ X, ROk wr x ∧ ∀ d, ROwn x.2 d → d < wr.heap.size ∧ v.ownBlock ≠ some d
  bel : Below w.heap.size w wr
theorem AllIs.below {w wr w' : World} {v : Value} {X : List RX} (h : AllIs w wr v X) (hb : Below wr.heap.size wr w') : AllIs w w' v X :=
  ⟨h.row.below hb, fun x hx => ⟨(h.ok x hx).1.below hb, fun d hd => ⟨Nat.lt_of_lt_of_le ((h.ok x hx).2 d hd).1 hb.size, ((h.ok x hx).2 d hd).2⟩⟩, h.bel.trans (hb.mono h.bel.size)⟩
theorem AllIs.push {w wr w' : World} {v v' : Value} {X : List RX} {x : RX} (h : AllIs w wr v X) (hx : ROk wr x) (hlo : ∀ d, ROwn x.2 d → d < wr.heap.size ∧ v.ownBlock ≠ some d) (hr : RowG TRec 14 encR w' w.heap.size v' (X ++ [x])) (hg : wr.grownBy w' v.ownBlock) (hat : v'.ownBlock = v.ownBlock ∨ v'.ownBlock = some (wr.heap.size + 1)) (hB : Below w.heap.size wr w') : AllIs w w' v' (X ++ [x]) := by
  refine ⟨hr, fun y hy => ?_, h.bel.trans hB⟩
  have hy' : ROk wr y ∧ ∀ d, ROwn y.2 d → d < wr.heap.size ∧ v.ownBlock ≠ some d := by
    rcases List.mem_append.1 hy with hy | hy
    · exact h.ok y hy
    · rw [List.mem_singleton] at hy
      rw [hy]
      exact ⟨hx, hlo⟩
  refine ⟨hy'.1.keep (fun d hd hl => hg.block d hl (fun e => (hy'.2 d hd).2 e.symm)), fun d hd => ⟨Nat.lt_of_lt_of_le (hy'.2 d hd).1 hg.size, fun e => ?_⟩⟩
  rcases hat with hat | hat
  · exact (hy'.2 d hd).2 (hat.symm.trans e)
  · have := Option.some.inj (hat.symm.trans e)
    have := (hy'.2 d hd).1
    omega
set_option maxRecDepth 100000 in
set_option maxHeartbeats 16000000 in
theorem refAll_any (v : Value) (L : List IT) (w : World) (hv : SeesIt w v L) (hl : L.length ≤ 1000) (hks : ∀ p ∈ L, p.1.size ≤ 590 ∧ p.2.1.size ≤ 600) :
    Calls Tryz.prog 9 #[v] w (AllPost w (allN L L.length)) := by
  obtain ⟨ao, c, rfl, hlc, hnil, hc⟩ := hv
  have HC := Lib.hid (And.intro hnil (And.intro hc hks))
  have HL := Lib.hid hl
  generalize hR : allN L L.length = R
  have HR := Lib.hid hR
  clear hnil hc hks hl hR
  go_enter Tryz.func9, Tryz.ntmps9
  go_wp2_with fail
  go_loopw [4, 12] (fun o j wr => ∃ (i : Nat) (q : Option Addr) (d : Nat) (X : List RX), i ≤ L.length ∧ o = .slice q i d ∧ j = .int .i64 i ∧ Hid (AllIs w wr (.slice q i d) X ∧ X.length = i ∧ allN L i = some (X.map (·.1)))) (fun _ j _ => L.length - (intOf j).toNat)
  case atStart => exact ⟨0, none, 0, [], Nat.zero_le _, rfl, rfl, Lib.hid ⟨⟨RowG.nil _ _ _ _ _, (fun x hx => by cases hx), Below.refl _ _⟩, rfl, rfl⟩⟩
  case round =>
    obtain ⟨i, q, d, X, hi, rfl, rfl, HI⟩ := hrel
    by_cases hlt : i < L.length
    · obtain ⟨a, rfl⟩ : ∃ a, ao = some a := by
        cases ao with
        | none => rw [HC.out.1 rfl] at hlt; simp at hlt
        | some a => exact ⟨a, rfl⟩
      obtain ⟨x, hget⟩ : ∃ x, L[i]? = some x := ⟨_, List.getElem?_eq_getElem hlt⟩
      have qc := HC.out.2.1 a rfl i x hget
      have hks := HC.out.2.2 x (List.mem_of_getElem? hget)
      obtain ⟨k, v, r⟩ := x
      have q0 : wr.cell? (a.add (i * 3)) = some (.string k) := bcell HI.out.1.bel (qc 0 (.string k) rfl)
      have q1 : wr.cell? { block := (a.add (i * 3)).block, off := (a.add (i * 3)).off + 1 } = some (.string v) := ofsV (by omega) (bcell HI.out.1.bel (qc 1 (.string v) rfl))
      have q2 : wr.cell? { block := (a.add (i * 3)).block, off := (a.add (i * 3)).off + 2 } = some (.int .i64 r) := ofsV (by omega) (bcell HI.out.1.bel (qc 2 (.int .i64 r) rfl))
      have b0 : (0 : Int) ≤ (i : Int) := by omega
      have b1 : (i : Int) < (L.length : Int) := by omega
      have b2 : (i : Int) < 1000 := by have := HL.out; omega
      have hcap : i ≤ c := by omega
      have hcapI : (i : Int) ≤ (c : Int) := by omega
      have HQ := Lib.hid (And.intro hget (And.intro hlt hks))
      have hbx := belNew wr (itK k v r)
      have hA := HI.out.1.below hbx
      have hk := heap_alloc_new wr (itK k v r)
      clear qc hget hlt hks
      go_upto_region 5 with fail
      change Code.wp _ _ _ _ (wr.alloc (itK k v r))
      obtain ⟨wx, hwx⟩ : ∃ wx, wx = wr.alloc (itK k v r) := ⟨_, rfl⟩
      rw [← hwx] at hA hk ⊢
      obtain ⟨gx, hgx⟩ : ∃ gx, gx = wr.heap.size := ⟨_, rfl⟩
      rw [← hgx] at hk ⊢
      have HX := Lib.hid (And.intro hA hk)
      have HXL := Lib.hid HI.out.2
      clear hwx hgx hbx hA hk q0 q1 q2 HI
      go_wp2_with fail
      go_loopw [21] (fun j2 w2 => ∃ m : Nat, m ≤ i ∧ j2 = .int .i64 m ∧ Hid (((L.take m).any (fun y => decide (y.1 = k)) = false) ∧ Below wx.heap.size wx w2)) (fun j2 _ => i - (intOf j2).toNat)
      case atStart => exact ⟨0, Nat.zero_le _, rfl, Lib.hid ⟨rfl, Below.refl _ _⟩⟩
      case round =>
        obtain ⟨m, hm, rfl, HM⟩ := hrel
        rename World => w2
        by_cases hmi : m < i
        · obtain ⟨y, hgy⟩ : ∃ y, L[m]? = some y := ⟨_, List.getElem?_eq_getElem (by have := HQ.out.2.1; omega)⟩
          have yc := HC.out.2.1 a rfl m y hgy
          obtain ⟨ky, vy, ry⟩ := y
          have HB2 := Lib.hid (HX.out.1.bel.trans (HM.out.2.mono HX.out.1.bel.size))
          have q0 : w2.cell? (a.add (m * 3)) = some (.string ky) := bcell HB2.out (yc 0 (.string ky) rfl)
          have q1 : w2.cell? { block := (a.add (m * 3)).block, off := (a.add (m * 3)).off + 1 } = some (.string vy) := ofsV (by omega) (bcell HB2.out (yc 1 (.string vy) rfl))
          have q2 : w2.cell? { block := (a.add (m * 3)).block, off := (a.add (m * 3)).off + 2 } = some (.int .i64 ry) := ofsV (by omega) (bcell HB2.out (yc 2 (.int .i64 ry) rfl))
          have m0 : (0 : Int) ≤ (m : Int) := by omega
          have m1 : (m : Int) < (i : Int) := by omega
          have m2 : (m : Int) < 1000 := by omega
          have hsn : (L.take (m + 1)).any (fun y => decide (y.1 = k)) = ((L.take m).any (fun y => decide (y.1 = k)) || decide (ky = k)) := by
            rw [List.take_add_one, hgy, List.any_append]
            simp
          rw [HM.out.1, Bool.false_or] at hsn
          have hby := belNew w2 (itK ky vy ry)
          have hx2 := (hby.block _ (Nat.lt_of_lt_of_le (heap_lt HX.out.2) HM.out.2.size)).trans ((HM.out.2.block _ (heap_lt HX.out.2)).trans HX.out.2)
          have hy2 := heap_alloc_new w2 (itK ky vy ry)
          have HMW := Lib.hid (bel HM.out.2 hby)
          have HMI := Lib.hid hmi
          have de := bt_eq ky k
          generalize hT : (ky.toList == k.toList) = TT at *
          have HSN := Lib.hid (hsn.trans de.symm)
          clear hsn yc hmi HB2 HM de hby
          go_upto_region 8 with fail
          change Code.wp _ _ _ _ (w2.alloc (itK ky vy ry))
          obtain ⟨wy, hwy⟩ : ∃ wy, wy = w2.alloc (itK ky vy ry) := ⟨_, rfl⟩
          rw [← hwy] at hx2 hy2 HMW ⊢
          obtain ⟨gy, hgy2⟩ : ∃ gy, gy = w2.heap.size := ⟨_, rfl⟩
          rw [← hgy2] at hy2 ⊢
          obtain ⟨x0, x1, x2⟩ := cell3 hx2
          obtain ⟨y0, y1, y2⟩ := cell3 hy2
          clear hwy hgy2 hx2 hy2 q0 q1 q2 hgy
          cases TT with
          | true =>
            have hno : R = none := by
              rw [← HR.out]
              refine allN_none (i := i + 1) (allN_dup HXL.out.2 HQ.out.1 ?_) (by have := HQ.out.2.1; omega)
              have h1 := HSN.out
              rw [List.any_eq_true] at h1 ⊢
              obtain ⟨z, hz, hzk⟩ := h1
              exact ⟨z, List.take_subset_take_left L (by have := HMI.out; omega) hz, hzk⟩
            subst hno
            have HBB := Lib.hid (HX.out.1.bel.trans (HMW.out.mono HX.out.1.bel.size))
            go_wp2_with fail
            go_ret2
            exact ⟨rfl, HBB.out⟩
          | false =>
            go_wp2_with fail
            go_roundw
            case rel => exact ⟨m + 1, HMI.out, by go_num, Lib.hid ⟨HSN.out, HMW.out⟩⟩
            case measure => have := HMI.out; simp [intOf]; omega
        · obtain rfl : m = i := by omega
          have hx2 := (HM.out.2.block _ (heap_lt HX.out.2)).trans HX.out.2
          have HA2 := Lib.hid (HX.out.1.below HM.out.2)
          have HND := Lib.hid HM.out.1
          have HRD := Lib.hid (fun w => refReadAny k v w HQ.out.2.2.1 HQ.out.2.2.2)
          have HST := Lib.hid (fun h => allN_step HXL.out.2 HQ.out.1 HM.out.1 h)
          have HNO := Lib.hid (fun h => allN_no HXL.out.2 HQ.out.1 h)
          generalize hrd : rdAny k v = rd at *
          obtain ⟨x0, x1, x2⟩ := cell3 hx2
          clear hx2 HM hmi HX hrd
          go_wp2_with fail
          refine (HRD.out _).mono ?_; rintro e w6 ⟨s, rfl, hok, hlo, hb6⟩
          obtain ⟨c1, c2, c3, c4, c5, c6, c7, c8, c9, c10, c11, c12, c13, hcs⟩ := encR_form (rd, s)
          have hA0 : At (w6.alloc (.cells recZ.toArray TRec)) w6.heap.size TRec recZ := heap_alloc_new w6 _
          have hb7 := bel hb6 (belNew w6 (.cells recZ.toArray TRec))
          have hA7 := HA2.out.below hb7
          have hok7 := hok.below (belNew w6 (.cells recZ.toArray TRec))
          have hlo7 := hlo
          have hw26 := hb6.size
          have HS := Lib.hid (And.intro hA7 (And.intro hok7 (And.intro hlo7 (And.intro hb7 hcs))))
          clear hA7 hok7 hlo7 hb7 hcs hok hlo hb6
          go_upto_region 12 with (refine wpStG (T := TRec) (g := w6.heap.size) (L0 := recZ) (L := encR (rd, s)) rfl _ _ rfl rfl rfl hA0 (n := 14) rfl (encR_len _) infoRec (encR_one _) ?_; intro w7 hx7 hg7)
          obtain ⟨g9, hg9⟩ : ∃ g9, g9 = w6.heap.size := ⟨_, rfl⟩
          have hz6 : (w6.alloc (.cells recZ.toArray TRec)).heap.size = g9 + 1 := by rw [hg9]; simp
          have hall : AllIs w w7 (.slice q m d) X := by
            have h := HS.out.1
            have hle : w2.heap.size ≤ g9 := by rw [hg9]; exact hw26
            refine ⟨h.row.keep (fun e he hl => hg7.block e hl (fun x => by
              have x := Option.some.inj x
              have := (HA2.out.row.form e he).2
              omega)), fun x hx => ⟨(h.ok x hx).1.keep (fun e he hl => hg7.block e hl (fun z => by
              have z := Option.some.inj z
              have := ((HA2.out.ok x hx).2 e he).1
              omega)), fun e he => ⟨Nat.lt_of_lt_of_le ((h.ok x hx).2 e he).1 hg7.size, ((h.ok x hx).2 e he).2⟩⟩, h.bel.grown hg7 (by have := h.bel.size; omega) (fun e he => by have := Option.some.inj he; have := HA2.out.bel.size; omega)⟩
          have hx := HS.out.2.1
          have hlo6 : ∀ dd, ROwn s dd → dd < w6.heap.size ∧ (Value.slice q m d).ownBlock ≠ some dd := fun dd hd => ⟨(HS.out.2.2.1 dd hd).2, fun e => by
            have := (HA2.out.row.form dd e).2
            have := (HS.out.2.2.1 dd hd).1
            omega⟩
          have hrk : ROk w7 (rd, s) := hx.keep (fun e he hl => hg7.block e hl (fun z => by
            have z := Option.some.inj z
            have := (hlo6 e he).1
            omega))
          have z0 : w7.cell? ⟨g9, 0, none⟩ = some (.int .i64 (kindR rd)) := by
            have h := At.whole hx7 0 (.int .i64 (kindR rd)) (by rw [HS.out.2.2.2.2]; rfl)
            rw [hg9]
            exact h
          have hx7' : At w7 g9 TRec (encR (rd, s)) := by rw [hg9]; exact hx7
          have H7 := Lib.hid (And.intro hall (And.intro hrk (And.intro hx7' (fun dd hd => (⟨Nat.lt_of_lt_of_le (hlo6 dd hd).1 (Nat.le_trans (belNew w6 _).size hg7.size), (hlo6 dd hd).2⟩ : dd < w7.heap.size ∧ (Value.slice q m d).ownBlock ≠ some dd)))))
          rw [← hg9]
          clear hg9 hz6 hall hx hlo6 hrk hx7 hx7' hg7 hA0 hw26 HS HA2
          generalize hkd : (kindR rd == 0) = kd
          have HKD := Lib.hid hkd
          generalize hKK : kindR rd = KK at *
          have HKK := Lib.hid hKK
          clear hKK
          cases kd with
          | true =>
            have hno : R = none := by
              rw [← HR.out]
              exact allN_none (HNO.out (by simpa using HKD.out)) (by have := HQ.out.2.1; omega)
            subst hno
            have HBB := Lib.hid H7.out.1.bel
            go_wp2_with fail
            go_ret2
            exact ⟨rfl, HBB.out⟩
          | false =>
            have HST' := Lib.hid (HST.out (by simpa using HKD.out))
            go_wp2_with (first | (refine wpLdG (T := TRec) (g := g9) (L := encR (rd, s)) rfl _ rfl rfl H7.out.2.2.1 (n := 14) (encR_len _) infoRec Tryz.underlying52 ?_) | (refine wp_bsR rfl (.tmp 40) rfl (rd, s) rfl ?_) | (at_builtin; refine wpList_pushG (w0 := w7) (T := 36) (E := TRec) (enc := encR) Tryz.underlying36 infoRecR rfl (by decide) (by decide) encR_len encR_one rfl (.tmp 39) (.tmp 41) rfl w.heap.size (.slice q m d) X (rd, s) w7.heap.size rfl rfl rfl H7.out.1.row (by have := HXL.out.1; have := HL.out; omega) H7.out.1.bel.size ?_; intro v8 w8 ho8 hb8 hg8 hat8; have H8 := Lib.hid (H7.out.1.push H7.out.2.1 H7.out.2.2.2 ho8 hg8 hat8 hb8); obtain ⟨o8, c8, he8⟩ := ho8.slice; rw [List.length_append, HXL.out.1] at he8; have he8 : v8 = .slice o8 (m + 1) c8 := he8; subst he8; clear ho8 hb8 hg8 hat8))
            go_roundw
            case rel => exact ⟨m + 1, o8, c8, X ++ [(rd, s)], HQ.out.2.1, rfl, by go_num, Lib.hid ⟨H8.out, by rw [List.length_append, HXL.out.1]; rfl, by rw [HST'.out, List.map_append]; rfl⟩⟩
            case measure => have := HQ.out.2.1; simp [intOf]; omega
    · obtain rfl : i = L.length := by omega
      obtain rfl : R = some (X.map (·.1)) := HR.out.symm.trans HI.out.2.2
      go_wp2_with fail
      go_ret2
      exact ⟨_, X, rfl, HI.out.1.row, rfl, fun x hx => (HI.out.1.ok x hx).1, HI.out.1.bel⟩
/-- How many records are of a kind. -/
def cntR (X : List RX) (k : Int) : Nat := (X.filter (fun x => kindR x.1 == k)).length
theorem cntR_snoc {X : List RX} {i : Nat} {x : RX} (h : X[i]? = some x) (k : Int) : cntR (X.take (i + 1)) k = if (kindR x.1 == k) = true then cntR (X.take i) k + 1 else cntR (X.take i) k := by
  unfold cntR
  rw [List.take_add_one, h, List.filter_append, List.length_append]
  simp only [Option.toList_some]
  by_cases hk : (kindR x.1 == k) = true
  · rw [if_pos hk]; simp [hk]
  · rw [if_neg hk]; simp [hk]
theorem cntR_le (X : List RX) (k : Int) : cntR X k ≤ X.length := List.length_filter_le _ _
set_option maxRecDepth 100000 in
set_option maxHeartbeats 16000000 in
theorem count18_any (ao : Option Addr) (c d : Nat) (X : List RX) (n : Nat) (k : Int) (B : Nat) (w : World) (h : RowG TRec 14 encR w B (.slice ao X.length c) X) (hn : n ≤ X.length) (hl : X.length ≤ 1000) :
    Calls Tryz.prog 11 #[.slice ao n d, .int .i64 k] w fun e w' => e = .returned (.int .i64 (cntR (X.take n) k)) ∧ Below w.heap.size w w' := by
  have HH := Lib.hid h
  have HL := Lib.hid (And.intro hn hl)
  have HA := Lib.hid (fun hn => row_addr h hn)
  clear h hn hl
  generalize hR : cntR (X.take n) k = R
  have HR := Lib.hid hR
  clear hR
  go_enter Tryz.func11, Tryz.ntmps11
  go_wp2_with fail
  go_loopw [5, 10] (fun o j wr => ∃ (i m : Nat), i ≤ n ∧ o = .int .i64 m ∧ j = .int .i64 i ∧ Hid (m = cntR (X.take i) k ∧ Below w.heap.size w wr)) (fun _ j _ => n - (intOf j).toNat)
  case atStart => exact ⟨0, 0, Nat.zero_le _, rfl, rfl, Lib.hid ⟨rfl, Below.refl _ _⟩⟩
  case round =>
    obtain ⟨i, m, hi, rfl, rfl, HI⟩ := hrel
    by_cases hlt : i < n
    · obtain ⟨gq, ha⟩ := HA.out (by have := HL.out.1; omega)
      obtain ⟨a, haa⟩ : ∃ a : Addr, a = ⟨gq, 0, none⟩ := ⟨_, rfl⟩
      have HAA := Lib.hid haa
      rw [← haa] at ha
      subst ha
      obtain ⟨x, hget⟩ : ∃ x, X[i]? = some x := ⟨_, List.getElem?_eq_getElem (by have := HL.out.1; omega)⟩
      have hrg := row_range encR_len (by rw [← HAA.out]; exact HH.out.below HI.out.2) hget
      clear haa
      have b0 : (0 : Int) ≤ (i : Int) := by omega
      have b1 : (i : Int) < (n : Int) := by omega
      have b2 : (i : Int) < 1000 := by have := HL.out; omega
      have b3 : (m : Int) < 1000 := by have := HL.out; have h := cntR_le (X.take i) k; rw [List.length_take] at h; have := HI.out.1; omega
      have hA0 : At (wr.alloc (.cells recZ.toArray TRec)) wr.heap.size TRec recZ := heap_alloc_new wr _
      have HSN := Lib.hid (cntR_snoc hget k)
      have HLT := Lib.hid hlt
      obtain ⟨c1, c2, c3, c4, c5, c6, c7, c8, c9, c10, c11, c12, c13, hcs⟩ := encR_form x
      have HCS := Lib.hid hcs
      clear hlt hget hcs
      go_upto_region 5 with (first | (refine wpLdRow (T := TRec) (b := a) rfl _ rfl HAA.out rfl hrg (n := 14) (encR_len _) infoRec Tryz.underlying52 ?_) | (refine wpStG (T := TRec) (g := wr.heap.size) (L0 := recZ) (L := encR x) rfl _ _ rfl rfl rfl hA0 (n := 14) rfl (encR_len _) infoRec (encR_one _) ?_; intro w7 hx7 hg7))
      have z0 : w7.cell? ⟨wr.heap.size, 0, none⟩ = some (.int .i64 (kindR x.1)) := At.whole hx7 0 (.int .i64 (kindR x.1)) (by rw [HCS.out]; rfl)
      have HB7 := Lib.hid ((bel HI.out.2 (belNew wr (.cells recZ.toArray TRec))).grown hg7 (by have := HI.out.2.size; have := (belNew wr (.cells recZ.toArray TRec)).size; omega) (fun e he => by have := Option.some.inj he; have := HI.out.2.size; omega))
      clear hx7 hg7 hA0 hrg
      generalize hkd : (kindR x.1 == k) = kd at *
      cases kd with
      | true =>
        go_wp2_with fail
        go_roundw
        case rel => exact ⟨i + 1, m + 1, HLT.out, by go_num, by go_num, Lib.hid ⟨by rw [HSN.out, if_pos rfl, HI.out.1], HB7.out⟩⟩
        case measure => have := HLT.out; simp [intOf]; omega
      | false =>
        go_wp2_with fail
        go_roundw
        case rel => exact ⟨i + 1, m, HLT.out, rfl, by go_num, Lib.hid ⟨by rw [HSN.out, if_neg (by simp), HI.out.1], HB7.out⟩⟩
        case measure => have := HLT.out; simp [intOf]; omega
    · obtain rfl : i = n := by omega
      obtain rfl : R = m := HR.out.symm.trans HI.out.1.symm
      go_wp2_with fail
      go_ret
      exact ⟨rfl, HI.out.2⟩
end Go.Proofs.YtiifbhiodegipaaGreatDoor
