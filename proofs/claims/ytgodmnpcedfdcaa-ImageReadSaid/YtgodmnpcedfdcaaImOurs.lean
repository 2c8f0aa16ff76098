/- The laws' Ours: a raw block as the program's. -/
import Derived.Test.YtgodmnpcedfdcaaBrD
import Derived.Test.YtgodmnpcedfdcaaGr
namespace Go.Proofs.Ytgodmnpcedfdcaa
open Go.RowKit
abbrev TR : TypeId := 27
abbrev rawO (b : BlkS) (fv av : Value) : Obj := .cells (blkL b fv av).toArray TR
/-- A variable that holds a raw block. -/
def RawAt (w : World) (g : Nat) (b : BlkS) (fv av : Value) : Prop := w.heap[g]? = some (.cells (blkL b fv av).toArray TR (0, 0))
theorem RawAt.addr {w : World} {g : Nat} {b : BlkS} {fv av : Value} (h : RawAt w g b fv av) : w.cell? ⟨g, 0, none⟩ = some (.int .u32 b.addr) := by
  have h' : w.heap[g]? = some (.cells (blkL b fv av).toArray TR (0, 0)) := h
  simp [World.cell?, h', blkL]
theorem RawAt.aff {w : World} {g : Nat} {b : BlkS} {fv av : Value} (h : RawAt w g b fv av) : w.cell? ⟨g, 1, none⟩ = some (.string b.aff) := by
  have h' : w.heap[g]? = some (.cells (blkL b fv av).toArray TR (0, 0)) := h
  simp [World.cell?, h', blkL]
theorem RawAt.free {w : World} {g : Nat} {b : BlkS} {fv av : Value} (h : RawAt w g b fv av) (hl : b.sl.length = 64) : w.cell? ⟨g, 66, none⟩ = some fv := by
  have h' : w.heap[g]? = some (.cells (blkL b fv av).toArray TR (0, 0)) := h
  have e : (blkL b fv av)[66]? = some fv := by
    unfold blkL
    rw [List.getElem?_cons_succ, List.getElem?_cons_succ, List.getElem?_append_right (by simp [hl])]
    simp [hl]
  simp [World.cell?, h', e]
theorem RawAt.attrs {w : World} {g : Nat} {b : BlkS} {fv av : Value} (h : RawAt w g b fv av) (hl : b.sl.length = 64) : w.cell? ⟨g, 67, none⟩ = some av := by
  have h' : w.heap[g]? = some (.cells (blkL b fv av).toArray TR (0, 0)) := h
  have e : (blkL b fv av)[67]? = some av := by
    unfold blkL
    rw [List.getElem?_cons_succ, List.getElem?_cons_succ, List.getElem?_append_right (by simp [hl])]
    simp [hl]
  simp [World.cell?, h', e]
theorem RawAt.slot {w : World} {g : Nat} {b : BlkS} {fv av : Value} (h : RawAt w g b fv av) {i : Nat} {x : Int} (hx : b.sl[i]? = some x) : w.cell? ⟨g, i + 2, none⟩ = some (.int .u8 x) := by
  have h' : w.heap[g]? = some (.cells (blkL b fv av).toArray TR (0, 0)) := h
  have hi : i < b.sl.length := (List.getElem?_eq_some_iff.1 hx).1
  have e : (blkL b fv av)[i + 2]? = some (.int .u8 x) := by
    unfold blkL
    rw [List.getElem?_cons_succ, List.getElem?_cons_succ, List.getElem?_append_left (by simpa using hi), List.getElem?_map, hx]
    rfl
  simp [World.cell?, h', e]
theorem RawAt.slots {w : World} {g : Nat} {b : BlkS} {fv av : Value} (h : RawAt w g b fv av) : w.rangeAt g 2 (b.sl.map (Value.int .u8)) := fun j v hv => by
  rw [List.getElem?_map] at hv
  cases hx : b.sl[j]? with
  | none => rw [hx] at hv; cases hv
  | some x =>
    rw [hx] at hv
    obtain rfl := Option.some.inj hv
    rw [show 2 + j = j + 2 by omega]
    exact h.slot hx
theorem RawAt.keepB {w w' : World} {g n : Nat} {b : BlkS} {fv av : Value} (h : RawAt w g b fv av) (hb : Below n w w') (hg : g < n) : RawAt w' g b fv av := (hb.block g hg).trans h
theorem RawAt.below {w w' : World} {g : Nat} {b : BlkS} {fv av : Value} (h : RawAt w g b fv av) (hb : Below w.heap.size w w') : RawAt w' g b fv av := (hb.block g (heap_lt h)).trans h
theorem RawAt.setO {w : World} {g : Nat} {b : BlkS} {fv av : Value} (h : RawAt w g b fv av) {p : Addr} (hp : g ≠ p.block) (u : Value) : RawAt (w.setCell p u) g b fv av := by
  show (w.setCell p u).heap[g]? = _
  rw [Below.heap_setCell _ _ _ _ hp]
  exact h
theorem wpLd64R {ops : Array Oper} {rest : List Oper} {o : Oper} {a : Act} {w : World} {Q : Exit → Act → World → Prop} {g : Nat} {b : BlkS} {fv av : Value} (hgd : o.guard = none) (x : Operand) (ho : o.op = .load 23 x) (hx : a.eval x = .pointer (some ⟨g, 2, none⟩)) (h : RawAt w g b fv av) (hl : b.sl.length = 64)
    (hK : wpList Try.prog ops Q rest (a.put o.dst (.agg (b.sl.map (Value.int .u8)).toArray)) w) : wpList Try.prog ops Q (o :: rest) a w :=
  wpList_load_mid hgd _ x ho g 2 hx _ _ h.slots Try.underlying23 rfl (by rw [info64, List.length_map, hl]) hK
def barS (a : Int) (s : ByteArray) (sl : List Int) : BlkS := ⟨a, s, sl, [], []⟩
theorem range_getD {sl : List Int} (hl : sl.length = 64) : (List.range 64).map (fun i => sl.getD i 0) = sl := by
  apply List.ext_getElem?
  intro i
  rw [List.getElem?_map]
  by_cases hi : i < 64
  · rw [List.getElem?_range hi, get64 hl hi]
    rfl
  · rw [List.getElem?_eq_none (by simp; omega), List.getElem?_eq_none (by omega)]
    rfl
theorem foldRf (a : Int) (s : ByteArray) (f : Nat → Int) : List.foldl (fun cs x => cs.setIfInBounds (2 + x.snd) x.fst) ((Try.zeroCells32.setIfInBounds 0 (Value.int .u32 a)).setIfInBounds 1 (Value.string s)) (List.map (Value.int .u8) ((List.range 64).map f)).zipIdx = (blkL (barS a s ((List.range 64).map f)) NS NS).toArray := by kernel_rfl
theorem foldR (a : Int) (s : ByteArray) (sl : List Int) (hl : sl.length = 64) : List.foldl (fun cs x => cs.setIfInBounds (2 + x.snd) x.fst) ((Try.zeroCells32.setIfInBounds 0 (Value.int .u32 a)).setIfInBounds 1 (Value.string s)) (List.map (Value.int .u8) sl).zipIdx = (blkL (barS a s sl) NS NS).toArray := by
  have h := foldRf a s (fun i => sl.getD i 0)
  rw [range_getD hl] at h
  exact h
/-- Not too many parts. -/
def oursS (b : BlkS) : BlkS := { b with free := b.free.take 70, attrs := b.attrs.take 70 }
theorem cells8_snoc (l : List Int) (i : Nat) (h : i < l.length) : cells8 (l.take (i + 1)) = cells8 (l.take i) ++ [.int .u8 (l.getD i 0)] := by
  unfold cells8
  rw [List.take_add_one, List.getD_eq_getElem?_getD, List.getElem?_eq_getElem h, Option.toList_some, List.map_append]
  rfl
theorem min_take {α : Type} (l : List α) (n : Nat) : l.take (min l.length n) = l.take n := by
  rcases Nat.le_total l.length n with h | h
  · rw [Nat.min_eq_left h, List.take_length, List.take_of_length_le h]
  · rw [Nat.min_eq_right h]
def OursB (w : World) (b bN : BlkS) (fv av V1 V2 : Value) (F7 : List Int) (A : List PA) (B3 B4 : Nat) (X : World) : Prop := (RawAt X w.heap.size b fv av ∧ BlkAt X (w.heap.size + 1) zB NS NS ∧ Below w.heap.size w X) ∧ BlkAt X (w.heap.size + 2) bN V1 V2 ∧ X.ownsRow B3 5 1 V1 F7.length (cells8 F7) ∧ RowA EAt X B4 V2 A ∧ B4 ≤ X.heap.size
theorem OursB.below {w : World} {b bN : BlkS} {fv av V1 V2 : Value} {F7 : List Int} {A : List PA} {B3 B4 : Nat} {X Y : World} (h : OursB w b bN fv av V1 V2 F7 A B3 B4 X) (hb : Below X.heap.size X Y) : OursB w b bN fv av V1 V2 F7 A B3 B4 Y :=
  ⟨⟨h.1.1.below hb, h.1.2.1.below hb, h.1.2.2.trans (hb.mono h.1.2.2.size)⟩, h.2.1.below hb, own_keep h.2.2.1 hb, row_keepA h.2.2.2.1 hb, Nat.le_trans h.2.2.2.2 hb.size⟩
set_option maxRecDepth 100000 in
set_option maxHeartbeats 16000000 in
theorem ours_any (b : BlkS) (fv av : Value) (w : World) (hf : Sees w fv b.free) (ha : SeesA w av b.attrs) (hw : BWf b) :
    Calls Try.prog 10 #[.agg (blkL b fv av).toArray] w fun e w' => ∃ fv' av', e = .returned (.agg (blkL (oursS b) fv' av').toArray) ∧ BlkRet w w' (oursS b) fv' av' := by
  have hl := hw.2.1
  have hfl : b.free.length ≤ 9223372036854775807 := by have := hw.2.2.2.2.2.1; unfold maxLen at this; omega
  have hal : b.attrs.length ≤ 9223372036854775807 := by have := hw.2.2.2.2.2.2.1; unfold maxLen at this; omega
  have hfo := hw.2.2.2.1
  obtain ⟨W1, hW1⟩ : ∃ W1, W1 = (w.alloc (rawO b fv av)).alloc (blkO zB NS NS) := ⟨_, rfl⟩
  obtain ⟨hb0, hA, hT, hsz⟩ := two_newB w (rawO b fv av) (blkO zB NS NS)
  rw [← hW1] at hb0 hA hT hsz
  obtain ⟨W2, hW2⟩ : ∃ W2, W2 = W1.alloc (blkO zB NS NS) := ⟨_, rfl⟩
  have hbn := belNew W1 (blkO zB NS NS)
  have hR := heap_new W1 (blkO zB NS NS)
  rw [hsz] at hR
  have hs3 : W2.heap.size = w.heap.size + 3 := by rw [hW2]; show (W1.heap.push _).size = _; simp [hsz]
  rw [← hW2] at hbn hR
  have HX1 : Hid (RawAt W1 w.heap.size b fv av) := Lib.hid hA
  have HX2 : Hid (RawAt W2 w.heap.size b fv av) := Lib.hid (HX1.out.below hbn)
  have HZ2 : Hid (BlkAt W2 (w.heap.size + 1) zB NS NS) := Lib.hid ((show BlkAt W1 (w.heap.size + 1) zB NS NS from hT).below hbn)
  have HD2 : Hid (BlkAt W2 (w.heap.size + 2) zB NS NS) := Lib.hid hR
  have HB2 := Lib.hid (bel hb0 hbn)
  have HSZ : Hid (W2.heap.size = w.heap.size + 3) := Lib.hid hs3
  have HW1 := Lib.hid hW1
  have HW2 := Lib.hid hW2
  have HS1 := Lib.hid hsz
  have HFS := Lib.hid hf
  have HAS := Lib.hid ha
  have HFO := Lib.hid hfo
  have HFE := Lib.hid (foldR b.addr b.aff b.sl hl)
  have hlN : (barS b.addr b.aff b.sl).sl.length = 64 := hl
  have HEQ : Hid (∀ fv av, blkL (barS b.addr b.aff b.sl) fv av = blkL (oursS b) fv av) := Lib.hid (fun fv av => rfl)
  have HOS : Hid ((oursS b).free = b.free.take 70 ∧ (oursS b).attrs = b.attrs.take 70) := Lib.hid ⟨rfl, rfl⟩
  generalize oursS b = OS at HEQ HOS ⊢
  generalize barS b.addr b.aff b.sl = bN at HFE hlN HEQ
  obtain ⟨fo, fc, rfl, -⟩ := id hf
  obtain ⟨ao, ac, rfl, -⟩ := id ha
  have c0 := HX1.out.addr
  have c1 := HX1.out.aff
  clear hW1 hW2 hb0 hA hT hR hsz hs3 hbn hf ha hfo hw
  go_enter Try.func10, Try.ntmps10
  go_upto_region 1 with fail
  change Code.wp _ _ _ _ ((w.alloc (rawO b (.slice fo b.free.length fc) (.slice ao b.attrs.length ac))).alloc (blkO zB NS NS))
  rw [← HW1.out]
  go_upto_region 2 with (first
    | (refine wpLd64R rfl _ rfl rfl HX1.out hl ?_)
    | ((change wpList _ _ _ _ _ (W1.alloc (blkO zB NS NS))); rw [← HW2.out, HS1.out]; refine wpStB (b := bN) (fv := NS) (av := NS) rfl _ _ rfl rfl (congrArg Value.agg HFE.out) HD2.out zB_len hlN rfl rfl ?_; intro w3 hx3 hg3))
  have HX3 : Hid (RawAt w3 w.heap.size b (.slice fo b.free.length fc) (.slice ao b.attrs.length ac)) := Lib.hid ((hg3.block _ (heap_lt HX2.out) (fun e => by have := Option.some.inj e; omega)).trans HX2.out)
  have HZ3 : Hid (BlkAt w3 (w.heap.size + 1) zB NS NS) := Lib.hid ((hg3.block _ (heap_lt HZ2.out) (fun e => by have := Option.some.inj e; omega)).trans HZ2.out)
  have HD3 := Lib.hid hx3
  have HB3 : Hid (Below w.heap.size w w3) := Lib.hid (HB2.out.grown hg3 HB2.out.size (fun k hk => by cases hk; omega))
  have HS3 : Hid (w.heap.size + 3 ≤ w3.heap.size) := Lib.hid (by have := hg3.size; have := HSZ.out; omega)
  have c66 := HX3.out.free hl
  clear hx3 hg3 HX2 HZ2 HD2 HB2 HW1 HW2 HS1 HX1 c0 c1 HFE
  go_wp2_with fail
  clear c66
  go_loopw [18] (fun j wr => ∃ (i : Nat) (o : Option Addr) (n c : Nat), i ≤ b.free.length ∧ j = .int .i64 i ∧ Hid ((RawAt wr w.heap.size b (.slice fo b.free.length fc) (.slice ao b.attrs.length ac) ∧ BlkAt wr (w.heap.size + 1) zB NS NS ∧ Below w.heap.size w wr) ∧ BlkAt wr (w.heap.size + 2) bN (.slice o n c) NS ∧ wr.ownsRow w3.heap.size 5 1 (.slice o n c) (min i 70) (cells8 (b.free.take (min i 70))) ∧ w3.heap.size ≤ wr.heap.size)) (fun j _ => b.free.length - (intOf j).toNat)
  case atStart => exact ⟨0, none, 0, 0, Nat.zero_le _, rfl, Lib.hid ⟨⟨HX3.out, HZ3.out, HB3.out⟩, HD3.out, World.ownsRow_nil _ _ _ _, Nat.le_refl _⟩⟩
  case round =>
    clear HX3 HZ3 HD3 HB3
    obtain ⟨i, o, n, c, hi, rfl, HI⟩ := hrel
    obtain ⟨⟨hx, hz, hb⟩, hd, hr, hs⟩ := HI.out
    by_cases hlt : i < b.free.length
    · obtain ⟨fo', fc', e0, -, hln, hlc⟩ := HFS.out.keep hb
      obtain ⟨rfl, rfl⟩ : fo = fo' ∧ fc = fc' := by cases e0; exact ⟨rfl, rfl⟩
      obtain ⟨fa, rfl⟩ : ∃ fa, fo = some fa := by
        cases fo with
        | none => rw [hln rfl] at hlt; simp at hlt
        | some fa => exact ⟨fa, rfl⟩
      have q0 := hlc fa rfl i hlt
      have d2 : decide ((i : Int) < (b.free.length : Int)) = true := by simp; omega
      have b0 : (0 : Int) ≤ (i : Int) := by omega
      have b1 : (i : Int) < (b.free.length : Int) := by omega
      have HSN := Lib.hid (cells8_snoc b.free i hlt)
      generalize b.free.getD i 0 = x at q0 HSN
      have s1 : IntKind.i64.wrap ((i : Int) + 1) = (i : Int) + 1 := IntWalk.i64_in _ (by omega)
      have HX := Lib.hid hx
      have HZ := Lib.hid hz
      have HB := Lib.hid hb
      have HD := Lib.hid hd
      have HR := Lib.hid hr
      have HS := Lib.hid hs
      have HLT := Lib.hid hlt
      by_cases h70 : i < 70
      · have d3 : decide ((i : Int) < 70) = true := by simp; omega
        have hm : min i 70 = i := by omega
        rw [hm] at HR
        have HM : Hid (min (i + 1) 70 = i + 1) := Lib.hid (by omega)
        have k1 := hd.free hlN
        have k2 := hd.froz 66
        have hi2 : i ≤ 1000001 := by omega
        clear hx hz hb hd hr hs hlt HI hln hlc e0 hm h70
        go_upto_region 7 with (at_builtin; refine wpList_push1 (w0 := wr) Try.underlying24 info8 rfl (by decide) rfl (.tmp 26) (.tmp 28) rfl w3.heap.size _ i _ (.int .u8 x) wr.heap.size rfl rfl rfl HR.out hi2 HS.out rfl ?_; intro v5 w5 ho5 hb5 _; have HO5 := Lib.hid ho5; have HX5 := Lib.hid (HX.out.keepB hb5 (by have := HS3.out; omega)); have HZ5 := Lib.hid (HZ.out.keepB hb5 (by have := HS3.out; omega)); have HD5 := Lib.hid (HD.out.keepB hb5 (by have := HS3.out; omega)); have HB5 := Lib.hid (HB.out.trans (hb5.mono (by have := HS3.out; omega))); have HS5 := Lib.hid (Nat.le_trans HS.out hb5.size); obtain ⟨o5, n5, c5, rfl⟩ := own_form ho5; have k1 := HD5.out.free hlN; have k2 := HD5.out.froz 66; clear ho5 hb5)
        go_wp2_with fail
        go_roundw
        case rel =>
          refine ⟨i + 1, o5, n5, c5, HLT.out, by go_num, Lib.hid ⟨⟨?_, ?_, ?_⟩, ?_, ?_, ?_⟩⟩
          · exact HX5.out.setO (p := ⟨w.heap.size + 2, 66, none⟩) (by show w.heap.size ≠ w.heap.size + 2; omega) _
          · exact blk_setO HZ5.out (a := ⟨w.heap.size + 2, 66, none⟩) (by show w.heap.size + 1 ≠ w.heap.size + 2; omega) _
          · exact HB5.out.setCell (p := ⟨w.heap.size + 2, 66, none⟩) (by show w.heap.size ≤ w.heap.size + 2; omega) _
          · exact HD5.out.setFree hlN _
          · rw [HM.out, HSN.out]; exact own_set HO5.out (a := ⟨w.heap.size + 2, 66, none⟩) (by show w.heap.size + 2 < w3.heap.size; have := HS3.out; omega) _
          · exact size_set HS5.out _ _
        case measure => simp [intOf]; have := HLT.out; omega
      · have d3 : decide ((i : Int) < 70) = false := by simp; omega
        have hm : min i 70 = 70 := by omega
        rw [hm] at HR
        have HM : Hid (min (i + 1) 70 = 70) := Lib.hid (by omega)
        clear hx hz hb hd hr hs hlt HI hln hlc e0 hm h70
        go_wp2_with fail
        go_roundw
        case rel => exact ⟨i + 1, o, n, c, HLT.out, by go_num, Lib.hid ⟨⟨HX.out, HZ.out, HB.out⟩, HD.out, by rw [HM.out]; exact HR.out, HS.out⟩⟩
        case measure => simp [intOf]; have := HLT.out; omega
    · obtain rfl : i = b.free.length := by omega
      have d2 : decide ((b.free.length : Int) < (b.free.length : Int)) = false := by simp
      rw [min_take] at hr
      have HL1 := Lib.hid (fun k hk => (hr.lt k hk).2)
      have HX := Lib.hid hx
      have HZ := Lib.hid hz
      have HB := Lib.hid hb
      have HD := Lib.hid hd
      have hr : wr.ownsRow w3.heap.size 5 1 (.slice o n c) (b.free.take 70).length (cells8 (b.free.take 70)) := by rw [List.length_take, Nat.min_comm]; exact hr
      have HR := Lib.hid hr
      have HSA := Lib.hid hs
      have c67 := hx.attrs hl
      clear hx hz hb hd hr hs hlt HI
      obtain ⟨V1, hV1⟩ : ∃ V1, V1 = Value.slice o n c := ⟨_, rfl⟩
      rw [← hV1] at HL1 HD HR
      clear hV1
      generalize b.free.take 70 = F7 at HR HOS
      obtain ⟨w4, rfl⟩ : ∃ w4, w4 = wr := ⟨_, rfl⟩
      go_wp2_with fail
      clear c67
      go_loopw [35] (fun j wr => ∃ (i : Nat) (o : Option Addr) (n c : Nat), i ≤ b.attrs.length ∧ j = .int .i64 i ∧ Hid ((RawAt wr w.heap.size b (.slice fo b.free.length fc) (.slice ao b.attrs.length ac) ∧ BlkAt wr (w.heap.size + 1) zB NS NS ∧ Below w.heap.size w wr) ∧ BlkAt wr (w.heap.size + 2) bN V1 (.slice o n c) ∧ wr.ownsRow w3.heap.size 5 1 V1 F7.length (cells8 F7) ∧ RowA EAt wr w4.heap.size (.slice o n c) (b.attrs.take (min i 70)) ∧ w4.heap.size ≤ wr.heap.size)) (fun j _ => b.attrs.length - (intOf j).toNat)
      case atStart => exact ⟨0, none, 0, 0, Nat.zero_le _, rfl, Lib.hid ⟨⟨HX.out, HZ.out, HB.out⟩, HD.out, HR.out, World.ownsRow_nil _ _ _ _, Nat.le_refl _⟩⟩
      case round =>
        clear HX HZ HB HD HR
        obtain ⟨i, o, n, c, hi, rfl, HI⟩ := hrel
        obtain ⟨⟨hx, hz, hb⟩, hd, hv, hr, hs⟩ := HI.out
        by_cases hlt : i < b.attrs.length
        · obtain ⟨ao', ac', e0, -, hln, hlc⟩ := HAS.out.below hb
          obtain ⟨rfl, rfl⟩ : ao = ao' ∧ ac = ac' := by cases e0; exact ⟨rfl, rfl⟩
          obtain ⟨fa, rfl⟩ : ∃ fa, ao = some fa := by
            cases ao with
            | none => rw [hln rfl] at hlt; simp at hlt
            | some fa => exact ⟨fa, rfl⟩
          have hpx : b.attrs[i]? = some (b.attrs[i]'hlt) := List.getElem?_eq_getElem hlt
          have HSN : Hid (b.attrs.take (i + 1) = b.attrs.take i ++ [b.attrs[i]'hlt]) := Lib.hid (by rw [List.take_add_one, hpx]; rfl)
          generalize b.attrs[i]'hlt = x at hpx HSN
          obtain ⟨q0, q1⟩ := hlc fa rfl i x hpx
          have q1 : wr.cell? { block := (fa.add (i * 2)).block, off := (fa.add (i * 2)).off + 1 } = some (.string x.2) := q1
          have d2 : decide ((i : Int) < (b.attrs.length : Int)) = true := by simp; omega
          have b0 : (0 : Int) ≤ (i : Int) := by omega
          have b1 : (i : Int) < (b.attrs.length : Int) := by omega
          have s1 : IntKind.i64.wrap ((i : Int) + 1) = (i : Int) + 1 := IntWalk.i64_in _ (by omega)
          have HX := Lib.hid hx
          have HZ := Lib.hid hz
          have HB := Lib.hid hb
          have HD := Lib.hid hd
          have HV := Lib.hid hv
          have HR := Lib.hid hr
          have HS := Lib.hid hs
          have HLT := Lib.hid hlt
          have HNE1 : Hid (∀ k, V1.ownBlock = some k → (Value.slice o n c).ownBlock ≠ some k) := Lib.hid (fun k hk hk' => by have h1 := HL1.out k hk; have h2 := (World.ownsRow.lt hr k hk').1; omega)
          have hbn := belNew wr (rtO x)
          have hxn := heap_alloc_new wr (rtO x)
          have hle : w.heap.size + 3 ≤ wr.heap.size := by have := HS3.out; have := HSA.out; omega
          have h70' := Nat.lt_or_ge i 70
          clear hx hz hb hd hv hr hs hlt HI hln hlc e0 hpx
          go_upto_region 11 with fail
          change Code.wp _ _ _ _ (wr.alloc (rtO x))
          have HX4 := Lib.hid (HX.out.below hbn)
          have HZ4 := Lib.hid (HZ.out.below hbn)
          have HB4 := Lib.hid (bel HB.out hbn)
          have HD4 := Lib.hid (HD.out.below hbn)
          have HV4 := Lib.hid (HV.out.alloc (rtO x))
          have HR4 := Lib.hid (HR.out.alloc (rtO x))
          have HS4 : Hid (w4.heap.size ≤ (wr.alloc (rtO x)).heap.size) := Lib.hid (Nat.le_trans HS.out hbn.size)
          obtain ⟨ba, hba⟩ : ∃ ba, ba = wr.heap.size := ⟨_, rfl⟩
          have HBA : Hid (wr.heap.size ≤ ba) := Lib.hid (Nat.le_of_eq hba.symm)
          have HBA2 : Hid (w4.heap.size ≤ ba) := Lib.hid (by rw [hba]; exact HS.out)
          have HRL := Lib.hid HR.out
          rw [← hba] at hxn ⊢
          generalize wr.alloc (rtO x) = w5 at *
          clear hba hbn hle q0 q1 HX HZ HB HD HV HR HS
          have HT3 : Hid (w.heap.size + 3 ≤ w4.heap.size) := Lib.hid (by have := HS3.out; have := HSA.out; omega)
          rcases h70' with h70 | h70
          · have d3 : decide ((i : Int) < 70) = true := by simp; omega
            have hm : min i 70 = i := by omega
            rw [hm] at HR4
            have HM : Hid (min (i + 1) 70 = i + 1) := Lib.hid (by omega)
            have k1 := HD4.out.attrs hlN
            have a0 := cell0 hxn
            have a1 := cell1 hxn
            have hi2 : i ≤ 1000001 := by omega
            have HLA := Lib.hid (fun w => lawAttr_any x w)
            have HXN := Lib.hid hxn
            clear hm h70 hxn k1 a0 a1
            have HF5 : Hid (OursB w b bN (.slice fo b.free.length fc) (.slice (some fa) b.attrs.length ac) V1 (.slice o n c) F7 (b.attrs.take i) w3.heap.size w4.heap.size w5) := Lib.hid ⟨⟨HX4.out, HZ4.out, HB4.out⟩, HD4.out, HV4.out, HR4.out, HS4.out⟩
            have HNB : Hid ((Value.slice o n c).ownBlock ≠ some ba) := Lib.hid (fun e => by have h1 := (World.ownsRow.lt HRL.out ba e).2; have h2 := HBA.out; omega)
            have HNB2 : Hid (w.heap.size + 3 ≤ ba) := Lib.hid (by have := HT3.out; have := HBA2.out; omega)
            have HLT6 : Hid (∀ X : World, X.heap[ba]? = some (rtO x) → ba < X.heap.size) := Lib.hid (fun X h => heap_lt h)
            clear HX4 HZ4 HB4 HD4 HV4 HR4 HS4
            go_upto_region 12 with fail
            refine wp_region_held_drew (S := (fun X => X.heap[ba]? = some (rtO x))) (by kernel_rfl) ?_ (fun r0 => ?_)
            · exact HXN.out
            obtain ⟨wd, hwd⟩ : ∃ wd, wd = w5.drew := ⟨_, rfl⟩
            rw [← hwd] at r0 ⊢
            have hbd : Below w5.heap.size w5 wd := by rw [hwd]; exact ⟨rfl, rfl, rfl, Nat.le_refl _, fun _ _ => rfl⟩
            have HO : Hid (OursB w b bN (.slice fo b.free.length fc) (.slice (some fa) b.attrs.length ac) V1 (.slice o n c) F7 (b.attrs.take i) w3.heap.size w4.heap.size wd) := Lib.hid (HF5.out.below hbd)
            clear hwd hbd
            refine wpAnyH_take (i := 0) (v := ?_) rfl (by kernel_rfl) (by kernel_rfl) (by kernel_rfl) (fun _ _ _ h => h) (Or.inl ⟨by rfl, ?_⟩) (by assumption) ?_
            rotate_left
            · intro wS hSw
              (try dsimp only at hSw)
              go_simp
              first | done | with_reducible rfl
            try simp only [Act.put, List.getElem_toArray, List.getElem_cons_zero, List.setIfInBounds_toArray, List.set_cons_zero, List.set_cons_succ]
            refine wpAnyH_take (i := 2) (v := ?_) rfl (by kernel_rfl) (by kernel_rfl) (by kernel_rfl) (fun _ _ _ h => h) (Or.inl ⟨by rfl, ?_⟩) (by assumption) ?_
            rotate_left
            · intro wS hSw
              (try dsimp only at hSw)
              obtain ⟨m0, m1⟩ := acells hSw
              go_simp
              first | done | with_reducible rfl
            try simp only [Act.put, List.getElem_toArray, List.getElem_cons_succ, List.getElem_cons_zero, List.setIfInBounds_toArray, List.set_cons_zero, List.set_cons_succ]
            refine wpAnyH_ready (rs := [1, 3]) (by kernel_rfl) (by simp) ?_
            refine AllReadyH.cons rfl (fun K hK => ?_) (AllReadyH.cons rfl (fun K hK => ?_) AllReadyH.nil)
            · have k1 := (HO.out).2.1.attrs hlN
              go_simp
              refine hK.out _ _ ?_ (fun _ => ?_)
              · exact r0
              try simp only [Act.put, List.getElem_toArray, List.getElem_cons_succ, List.getElem_cons_zero, List.setIfInBounds_toArray, List.set_cons_zero, List.set_cons_succ]
              clear k1
              refine wpAnyH_ready (rs := [3]) (by kernel_rfl) (by simp) ?_
              refine AllReadyH.cons rfl (fun K hK => ?_) AllReadyH.nil
              go_simp
              refine (HLA.out _).mono ?_; rintro e w6 ⟨rfl, hb6⟩
              have r1 := (hb6.block _ (heap_lt r0)).trans r0
              have HO6 : Hid (OursB w b bN (.slice fo b.free.length fc) (.slice (some fa) b.attrs.length ac) V1 (.slice o n c) F7 (b.attrs.take i) w3.heap.size w4.heap.size w6) := Lib.hid (HO.out.below hb6)
              clear hb6 r0
              have r0 := r1
              clear r1
              refine hK.out _ _ ?_ (fun _ => ?_)
              · exact r0
              try simp only [Act.put, List.getElem_toArray, List.getElem_cons_succ, List.getElem_cons_zero, List.setIfInBounds_toArray, List.set_cons_zero, List.set_cons_succ]
              have RB6 := r0
              refine wpAnyH_ready (rs := [4]) (by kernel_rfl) (by simp) ?_
              refine AllReadyH.cons rfl (fun K hK => ?_) AllReadyH.nil
              go_simp
              have HO7 : Hid (OursB w b bN (.slice fo b.free.length fc) (.slice (some fa) b.attrs.length ac) V1 (.slice o n c) F7 (b.attrs.take i) w3.heap.size w4.heap.size (w6.alloc (.cells #[.string x.1, .string x.2] EAt))) := Lib.hid (HO6.out.below (belNew _ _))
              have r1 := ((belNew w6 (.cells #[.string x.1, .string x.2] EAt)).block _ (heap_lt r0)).trans r0
              clear r0
              have r0 := r1
              clear r1
              refine hK.out _ _ ?_ (fun _ => ?_)
              · exact r0
              try simp only [Act.put, List.getElem_toArray, List.getElem_cons_succ, List.getElem_cons_zero, List.setIfInBounds_toArray, List.set_cons_zero, List.set_cons_succ]
              refine wpAnyH_ready (rs := [5]) (by kernel_rfl) (by simp) ?_
              refine AllReadyH.cons rfl (fun K hK => ?_) AllReadyH.nil
              rw [if_pos (by kernel_rfl)]
              refine wp_pushG (w0 := w6) (T := 30) (E := EAt) (enc := encA) Try.underlying30 infoA rfl (by decide) (by decide) (fun _ => rfl) (fun p u hu => by simp at hu; rcases hu with rfl | rfl <;> rfl) (.tmp 43) (.tmp 46) rfl w4.heap.size (.slice o n c) (b.attrs.take i) x w6.heap.size rfl rfl rfl HO6.out.2.2.2.1 (by rw [List.length_take]; omega) HO6.out.2.2.2.2 (fun v8 w8 hrow8 hb8 hg8 hat8 => ?_)
              have r1 := (hg8.block ba (HLT6.out _ RB6) (fun e => HNB.out e.symm)).trans (show w6.heap[ba]? = some (rtO x) from RB6)
              have HX8 := Lib.hid (HO6.out.1.1.keepB hb8 (by have := HT3.out; omega))
              have HZ8 := Lib.hid (HO6.out.1.2.1.keepB hb8 (by have := HT3.out; omega))
              have HB8 := Lib.hid (HO6.out.1.2.2.trans (hb8.mono (by have := HT3.out; omega)))
              have HD8 := Lib.hid (HO6.out.2.1.keepB hb8 (by have := HT3.out; omega))
              have HV8 := Lib.hid (own_grownO HO6.out.2.2.1 hg8 (fun k hk => HNE1.out k hk))
              have HS8 := Lib.hid (Nat.le_trans HO6.out.2.2.2.2 hb8.size)
              obtain ⟨o8, n8, c8, rfl⟩ := own_form hrow8
              have HR8 := Lib.hid hrow8
              clear r0 hrow8 hb8 hg8 hat8
              refine hK.out _ _ ?_ (fun _ => ?_)
              · exact r1
              try simp only [Act.put, List.getElem_toArray, List.getElem_cons_succ, List.getElem_cons_zero, List.setIfInBounds_toArray, List.set_cons_zero, List.set_cons_succ]
              refine wpAnyH_take (i := 6) (v := ?_) rfl (by kernel_rfl) (by kernel_rfl) (by kernel_rfl) (fun _ _ _ h => h) (Or.inl ⟨by rfl, ?_⟩) (by assumption) ?_
              rotate_left
              · intro wS hSw
                (try dsimp only at hSw)
                go_simp
                first | done | with_reducible rfl
              try simp only [Act.put, List.getElem_toArray, List.getElem_cons_succ, List.getElem_cons_zero, List.setIfInBounds_toArray, List.set_cons_zero, List.set_cons_succ]
              refine wpAnyH_ready (rs := [7]) (by kernel_rfl) (by simp) ?_
              refine AllReadyH.cons rfl (fun K hK => ?_) AllReadyH.nil
              have k1 := HD8.out.attrs hlN
              have k2 := HD8.out.froz 67
              go_simp
              have r2 : (w8.setCell ⟨w.heap.size + 2, 67, none⟩ (.slice o8 n8 c8)).heap[ba]? = some (rtO x) := (Below.heap_setCell _ _ _ _ (fun e => by have h1 := HNB2.out; simp only [] at e; omega)).trans r1
              refine hK.out _ _ ?_ (fun _ => ?_)
              · exact r2
              try simp only [Act.put, List.getElem_toArray, List.getElem_cons_succ, List.getElem_cons_zero, List.setIfInBounds_toArray, List.set_cons_zero, List.set_cons_succ]
              refine wpAnyH_done (by kernel_rfl) ?_ _
              go_wp2_with fail
              go_roundw
              case rel =>
                refine ⟨i + 1, o8, n8, c8, HLT.out, by go_num, Lib.hid ⟨⟨?_, ?_, ?_⟩, ?_, ?_, ?_, ?_⟩⟩
                · exact HX8.out.setO (p := ⟨w.heap.size + 2, 67, none⟩) (by show w.heap.size ≠ w.heap.size + 2; omega) _
                · exact blk_setO HZ8.out (a := ⟨w.heap.size + 2, 67, none⟩) (by show w.heap.size + 1 ≠ w.heap.size + 2; omega) _
                · exact HB8.out.setCell (p := ⟨w.heap.size + 2, 67, none⟩) (by show w.heap.size ≤ w.heap.size + 2; omega) _
                · exact HD8.out.setAttrs hlN _
                · exact own_set HV8.out (a := ⟨w.heap.size + 2, 67, none⟩) (by show w.heap.size + 2 < w3.heap.size; have := HS3.out; omega) _
                · rw [HM.out, HSN.out]; exact own_set HR8.out (a := ⟨w.heap.size + 2, 67, none⟩) (by show w.heap.size + 2 < w4.heap.size; have := HT3.out; omega) _
                · exact size_set HS8.out _ _
              case measure => simp [intOf]; have := HLT.out; omega
            · go_simp
              refine (HLA.out _).mono ?_; rintro e w6 ⟨rfl, hb6⟩
              have r1 := (hb6.block _ (heap_lt r0)).trans r0
              have HO6 : Hid (OursB w b bN (.slice fo b.free.length fc) (.slice (some fa) b.attrs.length ac) V1 (.slice o n c) F7 (b.attrs.take i) w3.heap.size w4.heap.size w6) := Lib.hid (HO.out.below hb6)
              clear hb6 r0
              have r0 := r1
              clear r1
              refine hK.out _ _ ?_ (fun _ => ?_)
              · exact r0
              try simp only [Act.put, List.getElem_toArray, List.getElem_cons_succ, List.getElem_cons_zero, List.setIfInBounds_toArray, List.set_cons_zero, List.set_cons_succ]
              have RB6 := r0
              refine wpAnyH_ready (rs := [1, 4]) (by kernel_rfl) (by simp) ?_
              refine AllReadyH.cons rfl (fun K hK => ?_) (AllReadyH.cons rfl (fun K hK => ?_) AllReadyH.nil)
              · have k1 := (HO6.out).2.1.attrs hlN
                go_simp
                refine hK.out _ _ ?_ (fun _ => ?_)
                · exact r0
                try simp only [Act.put, List.getElem_toArray, List.getElem_cons_succ, List.getElem_cons_zero, List.setIfInBounds_toArray, List.set_cons_zero, List.set_cons_succ]
                clear k1
                refine wpAnyH_ready (rs := [4]) (by kernel_rfl) (by simp) ?_
                refine AllReadyH.cons rfl (fun K hK => ?_) AllReadyH.nil
                go_simp
                have HO7 : Hid (OursB w b bN (.slice fo b.free.length fc) (.slice (some fa) b.attrs.length ac) V1 (.slice o n c) F7 (b.attrs.take i) w3.heap.size w4.heap.size (w6.alloc (.cells #[.string x.1, .string x.2] EAt))) := Lib.hid (HO6.out.below (belNew _ _))
                have r1 := ((belNew w6 (.cells #[.string x.1, .string x.2] EAt)).block _ (heap_lt r0)).trans r0
                clear r0
                have r0 := r1
                clear r1
                refine hK.out _ _ ?_ (fun _ => ?_)
                · exact r0
                try simp only [Act.put, List.getElem_toArray, List.getElem_cons_succ, List.getElem_cons_zero, List.setIfInBounds_toArray, List.set_cons_zero, List.set_cons_succ]
                refine wpAnyH_ready (rs := [5]) (by kernel_rfl) (by simp) ?_
                refine AllReadyH.cons rfl (fun K hK => ?_) AllReadyH.nil
                rw [if_pos (by kernel_rfl)]
                refine wp_pushG (w0 := w6) (T := 30) (E := EAt) (enc := encA) Try.underlying30 infoA rfl (by decide) (by decide) (fun _ => rfl) (fun p u hu => by simp at hu; rcases hu with rfl | rfl <;> rfl) (.tmp 43) (.tmp 46) rfl w4.heap.size (.slice o n c) (b.attrs.take i) x w6.heap.size rfl rfl rfl HO6.out.2.2.2.1 (by rw [List.length_take]; omega) HO6.out.2.2.2.2 (fun v8 w8 hrow8 hb8 hg8 hat8 => ?_)
                have r1 := (hg8.block ba (HLT6.out _ RB6) (fun e => HNB.out e.symm)).trans (show w6.heap[ba]? = some (rtO x) from RB6)
                have HX8 := Lib.hid (HO6.out.1.1.keepB hb8 (by have := HT3.out; omega))
                have HZ8 := Lib.hid (HO6.out.1.2.1.keepB hb8 (by have := HT3.out; omega))
                have HB8 := Lib.hid (HO6.out.1.2.2.trans (hb8.mono (by have := HT3.out; omega)))
                have HD8 := Lib.hid (HO6.out.2.1.keepB hb8 (by have := HT3.out; omega))
                have HV8 := Lib.hid (own_grownO HO6.out.2.2.1 hg8 (fun k hk => HNE1.out k hk))
                have HS8 := Lib.hid (Nat.le_trans HO6.out.2.2.2.2 hb8.size)
                obtain ⟨o8, n8, c8, rfl⟩ := own_form hrow8
                have HR8 := Lib.hid hrow8
                clear r0 hrow8 hb8 hg8 hat8
                refine hK.out _ _ ?_ (fun _ => ?_)
                · exact r1
                try simp only [Act.put, List.getElem_toArray, List.getElem_cons_succ, List.getElem_cons_zero, List.setIfInBounds_toArray, List.set_cons_zero, List.set_cons_succ]
                refine wpAnyH_take (i := 6) (v := ?_) rfl (by kernel_rfl) (by kernel_rfl) (by kernel_rfl) (fun _ _ _ h => h) (Or.inl ⟨by rfl, ?_⟩) (by assumption) ?_
                rotate_left
                · intro wS hSw
                  (try dsimp only at hSw)
                  go_simp
                  first | done | with_reducible rfl
                try simp only [Act.put, List.getElem_toArray, List.getElem_cons_succ, List.getElem_cons_zero, List.setIfInBounds_toArray, List.set_cons_zero, List.set_cons_succ]
                refine wpAnyH_ready (rs := [7]) (by kernel_rfl) (by simp) ?_
                refine AllReadyH.cons rfl (fun K hK => ?_) AllReadyH.nil
                have k1 := HD8.out.attrs hlN
                have k2 := HD8.out.froz 67
                go_simp
                have r2 : (w8.setCell ⟨w.heap.size + 2, 67, none⟩ (.slice o8 n8 c8)).heap[ba]? = some (rtO x) := (Below.heap_setCell _ _ _ _ (fun e => by have h1 := HNB2.out; simp only [] at e; omega)).trans r1
                refine hK.out _ _ ?_ (fun _ => ?_)
                · exact r2
                try simp only [Act.put, List.getElem_toArray, List.getElem_cons_succ, List.getElem_cons_zero, List.setIfInBounds_toArray, List.set_cons_zero, List.set_cons_succ]
                refine wpAnyH_done (by kernel_rfl) ?_ _
                go_wp2_with fail
                go_roundw
                case rel =>
                  refine ⟨i + 1, o8, n8, c8, HLT.out, by go_num, Lib.hid ⟨⟨?_, ?_, ?_⟩, ?_, ?_, ?_, ?_⟩⟩
                  · exact HX8.out.setO (p := ⟨w.heap.size + 2, 67, none⟩) (by show w.heap.size ≠ w.heap.size + 2; omega) _
                  · exact blk_setO HZ8.out (a := ⟨w.heap.size + 2, 67, none⟩) (by show w.heap.size + 1 ≠ w.heap.size + 2; omega) _
                  · exact HB8.out.setCell (p := ⟨w.heap.size + 2, 67, none⟩) (by show w.heap.size ≤ w.heap.size + 2; omega) _
                  · exact HD8.out.setAttrs hlN _
                  · exact own_set HV8.out (a := ⟨w.heap.size + 2, 67, none⟩) (by show w.heap.size + 2 < w3.heap.size; have := HS3.out; omega) _
                  · rw [HM.out, HSN.out]; exact own_set HR8.out (a := ⟨w.heap.size + 2, 67, none⟩) (by show w.heap.size + 2 < w4.heap.size; have := HT3.out; omega) _
                  · exact size_set HS8.out _ _
                case measure => simp [intOf]; have := HLT.out; omega
              · go_simp
                have HO7 : Hid (OursB w b bN (.slice fo b.free.length fc) (.slice (some fa) b.attrs.length ac) V1 (.slice o n c) F7 (b.attrs.take i) w3.heap.size w4.heap.size (w6.alloc (.cells #[.string x.1, .string x.2] EAt))) := Lib.hid (HO6.out.below (belNew _ _))
                have r1 := ((belNew w6 (.cells #[.string x.1, .string x.2] EAt)).block _ (heap_lt r0)).trans r0
                clear r0
                have r0 := r1
                clear r1
                refine hK.out _ _ ?_ (fun _ => ?_)
                · exact r0
                try simp only [Act.put, List.getElem_toArray, List.getElem_cons_succ, List.getElem_cons_zero, List.setIfInBounds_toArray, List.set_cons_zero, List.set_cons_succ]
                refine wpAnyH_ready (rs := [1]) (by kernel_rfl) (by simp) ?_
                refine AllReadyH.cons rfl (fun K hK => ?_) AllReadyH.nil
                have k1 := (HO7.out).2.1.attrs hlN
                go_simp
                refine hK.out _ _ ?_ (fun _ => ?_)
                · exact r0
                try simp only [Act.put, List.getElem_toArray, List.getElem_cons_succ, List.getElem_cons_zero, List.setIfInBounds_toArray, List.set_cons_zero, List.set_cons_succ]
                clear k1
                refine wpAnyH_ready (rs := [5]) (by kernel_rfl) (by simp) ?_
                refine AllReadyH.cons rfl (fun K hK => ?_) AllReadyH.nil
                rw [if_pos (by kernel_rfl)]
                refine wp_pushG (w0 := w6) (T := 30) (E := EAt) (enc := encA) Try.underlying30 infoA rfl (by decide) (by decide) (fun _ => rfl) (fun p u hu => by simp at hu; rcases hu with rfl | rfl <;> rfl) (.tmp 43) (.tmp 46) rfl w4.heap.size (.slice o n c) (b.attrs.take i) x w6.heap.size rfl rfl rfl HO6.out.2.2.2.1 (by rw [List.length_take]; omega) HO6.out.2.2.2.2 (fun v8 w8 hrow8 hb8 hg8 hat8 => ?_)
                have r1 := (hg8.block ba (HLT6.out _ RB6) (fun e => HNB.out e.symm)).trans (show w6.heap[ba]? = some (rtO x) from RB6)
                have HX8 := Lib.hid (HO6.out.1.1.keepB hb8 (by have := HT3.out; omega))
                have HZ8 := Lib.hid (HO6.out.1.2.1.keepB hb8 (by have := HT3.out; omega))
                have HB8 := Lib.hid (HO6.out.1.2.2.trans (hb8.mono (by have := HT3.out; omega)))
                have HD8 := Lib.hid (HO6.out.2.1.keepB hb8 (by have := HT3.out; omega))
                have HV8 := Lib.hid (own_grownO HO6.out.2.2.1 hg8 (fun k hk => HNE1.out k hk))
                have HS8 := Lib.hid (Nat.le_trans HO6.out.2.2.2.2 hb8.size)
                obtain ⟨o8, n8, c8, rfl⟩ := own_form hrow8
                have HR8 := Lib.hid hrow8
                clear r0 hrow8 hb8 hg8 hat8
                refine hK.out _ _ ?_ (fun _ => ?_)
                · exact r1
                try simp only [Act.put, List.getElem_toArray, List.getElem_cons_succ, List.getElem_cons_zero, List.setIfInBounds_toArray, List.set_cons_zero, List.set_cons_succ]
                refine wpAnyH_take (i := 6) (v := ?_) rfl (by kernel_rfl) (by kernel_rfl) (by kernel_rfl) (fun _ _ _ h => h) (Or.inl ⟨by rfl, ?_⟩) (by assumption) ?_
                rotate_left
                · intro wS hSw
                  (try dsimp only at hSw)
                  go_simp
                  first | done | with_reducible rfl
                try simp only [Act.put, List.getElem_toArray, List.getElem_cons_succ, List.getElem_cons_zero, List.setIfInBounds_toArray, List.set_cons_zero, List.set_cons_succ]
                refine wpAnyH_ready (rs := [7]) (by kernel_rfl) (by simp) ?_
                refine AllReadyH.cons rfl (fun K hK => ?_) AllReadyH.nil
                have k1 := HD8.out.attrs hlN
                have k2 := HD8.out.froz 67
                go_simp
                have r2 : (w8.setCell ⟨w.heap.size + 2, 67, none⟩ (.slice o8 n8 c8)).heap[ba]? = some (rtO x) := (Below.heap_setCell _ _ _ _ (fun e => by have h1 := HNB2.out; simp only [] at e; omega)).trans r1
                refine hK.out _ _ ?_ (fun _ => ?_)
                · exact r2
                try simp only [Act.put, List.getElem_toArray, List.getElem_cons_succ, List.getElem_cons_zero, List.setIfInBounds_toArray, List.set_cons_zero, List.set_cons_succ]
                refine wpAnyH_done (by kernel_rfl) ?_ _
                go_wp2_with fail
                go_roundw
                case rel =>
                  refine ⟨i + 1, o8, n8, c8, HLT.out, by go_num, Lib.hid ⟨⟨?_, ?_, ?_⟩, ?_, ?_, ?_, ?_⟩⟩
                  · exact HX8.out.setO (p := ⟨w.heap.size + 2, 67, none⟩) (by show w.heap.size ≠ w.heap.size + 2; omega) _
                  · exact blk_setO HZ8.out (a := ⟨w.heap.size + 2, 67, none⟩) (by show w.heap.size + 1 ≠ w.heap.size + 2; omega) _
                  · exact HB8.out.setCell (p := ⟨w.heap.size + 2, 67, none⟩) (by show w.heap.size ≤ w.heap.size + 2; omega) _
                  · exact HD8.out.setAttrs hlN _
                  · exact own_set HV8.out (a := ⟨w.heap.size + 2, 67, none⟩) (by show w.heap.size + 2 < w3.heap.size; have := HS3.out; omega) _
                  · rw [HM.out, HSN.out]; exact own_set HR8.out (a := ⟨w.heap.size + 2, 67, none⟩) (by show w.heap.size + 2 < w4.heap.size; have := HT3.out; omega) _
                  · exact size_set HS8.out _ _
                case measure => simp [intOf]; have := HLT.out; omega
          · have d3 : decide ((i : Int) < 70) = false := by simp; omega
            have hm : min i 70 = 70 := by omega
            rw [hm] at HR4
            have HM : Hid (min (i + 1) 70 = 70) := Lib.hid (by omega)
            clear hm h70 hxn
            go_wp2_with fail
            go_roundw
            case rel =>
              exact ⟨i + 1, o, n, c, HLT.out, by go_num, Lib.hid ⟨⟨HX4.out, HZ4.out, HB4.out⟩, HD4.out, HV4.out, by rw [HM.out]; exact HR4.out, HS4.out⟩⟩
            case measure => simp [intOf]; have := HLT.out; omega
        · obtain rfl : i = b.attrs.length := by omega
          have d2 : decide ((b.attrs.length : Int) < (b.attrs.length : Int)) = false := by simp
          rw [min_take] at hr
          obtain ⟨v1o, v1n, v1c, rfl⟩ := own_form hv
          have HX := Lib.hid hx
          have HZ := Lib.hid hz
          have HB := Lib.hid hb
          have HD := Lib.hid hd
          have HV := Lib.hid hv
          have HR := Lib.hid hr
          have hle1 : w.heap.size + 1 < w3.heap.size := by have := HS3.out; omega
          have hle2 : w.heap.size + 1 < w4.heap.size := by have := HS3.out; have := HSA.out; omega
          clear hx hz hb hd hv hr hs hlt HI
          go_wp2_with (first
            | (refine wpLdB rfl _ rfl rfl HD.out hlN ?_)
            | (refine wpStB (b := bN) rfl _ _ rfl rfl rfl HZ.out zB_len hlN rfl rfl ?_; intro w7 hx7 hg7))
          have HBN := Lib.hid (HB.out.grown hg7 HB.out.size (fun k hk => by cases hk; omega))
          refine bodyPost_ret (resB1 Try.results10 rfl (loadVarB hx7 hlN)) rfl ⟨.slice v1o v1n v1c, .slice o n c, by rw [HEQ.out], ?_, ?_, HBN.out⟩
          · rw [HOS.out.1]
            exact own_le (own_grown HV.out hg7 hle1) (by omega)
          · rw [HOS.out.2]
            exact own_le (own_grown HR.out hg7 hle2) (by omega)
end Go.Proofs.Ytgodmnpcedfdcaa
