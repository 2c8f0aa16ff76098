/- The laws' Plain: a block as the document's. -/
import Derived.Test.YtiifbhiodegipaaGreatDoorSq
import Derived.Deep.AppendSrc
import Derived.Test.YtiifbhiodegipaaGreatDoorJPk
import Derived.Test.YtiifbhiodegipaaGreatDoorJQ
namespace Go.Proofs.YtiifbhiodegipaaGreatDoor
open Go.RowKit
theorem own_lt {w : World} {B' : Nat} {E' : TypeId} {s' n' : Nat} {v v' : Value} {xs' : List Value} (h : ∀ k, v.ownBlock = some k → k < B') (h' : w.ownsRow B' E' s' v' n' xs') : ∀ k, v.ownBlock = some k → v'.ownBlock ≠ some k := fun k hk hk' => by
  have h1 := h k hk
  have h2 := (h'.lt k hk').1
  omega
theorem loadVarD {w : World} {g : Nat} {a : Int} {s : ByteArray} {v1 v2 v3 : Value} (h : DocAt w g a s v1 v2 v3) : (loadVar TD ⟨g, 0, none⟩).run Tryz.prog w = .ok (docV a s v1 v2 v3) w := by
  obtain ⟨x0, x1, x2, x3, x4⟩ := h.cells
  have z := Tryz.sizeOf49
  have i := Tryz.isAgg49
  simp [loadVar, go_sem, x0, x1, x2, x3, x4, z, i]
theorem ownsI_of {w : World} {B n : Nat} {v : Value} {xs : List Int} (hl : xs.length = n) (h : w.ownsRow B 3 1 v n (cellsI xs)) : OwnsI w B v xs := by
  subst hl
  exact h
theorem cellsI_snoc (l : List Int) (i : Nat) (h : i < l.length) : cellsI (l.take (i + 1)) = cellsI (l.take i) ++ [.int .i64 (l.getD i 0)] := by
  unfold cellsI
  rw [List.take_add_one, List.getD_eq_getElem?_getD, List.getElem?_eq_getElem h, Option.toList_some, List.map_append]
  rfl
set_option maxRecDepth 100000 in
set_option maxHeartbeats 16000000 in
theorem plain15_any (b : BlkS) (fv av : Value) (w : World) (hf : Sees w fv b.free) (ha : SeesA w av b.attrs) (hl : b.sl.length = 64) (hok : okB b.sl) (hfo : okB b.free) (hfl : b.free.length ≤ 1000000) (hal : b.attrs.length ≤ 1000000) :
    Calls Tryz.prog 18 #[.agg (blkL b fv av).toArray] w fun e w' => ∃ v1 v2 v3, e = .returned (docV b.addr b.aff v1 v2 v3) ∧ DocRet w w' b v1 v2 v3 := by
  obtain ⟨W1, hW1⟩ : ∃ W1, W1 = (w.alloc (blkO b fv av)).alloc (docO 0 ⟨#[]⟩ NS NS NS) := ⟨_, rfl⟩
  obtain ⟨hb0, hA, hT, hsz⟩ := two_newB w (blkO b fv av) (docO 0 ⟨#[]⟩ NS NS NS)
  rw [← hW1] at hb0 hA hT hsz
  obtain ⟨W, hW⟩ : ∃ W, W = W1.alloc (docO b.addr b.aff NS NS NS) := ⟨_, rfl⟩
  have hbn := belNew W1 (docO b.addr b.aff NS NS NS)
  have hR := heap_new W1 (docO b.addr b.aff NS NS NS)
  rw [hsz] at hR
  have hs3 : W.heap.size = w.heap.size + 3 := by rw [hW]; show (W1.heap.push _).size = _; simp [hsz]
  rw [← hW] at hbn hR
  have HX1 : Hid (BlkAt W1 w.heap.size b fv av) := Lib.hid hA
  have HX0 : Hid (BlkAt W w.heap.size b fv av) := Lib.hid (HX1.out.below hbn)
  have HZ0 : Hid (DocAt W (w.heap.size + 1) 0 ⟨#[]⟩ NS NS NS) := Lib.hid ((show DocAt W1 (w.heap.size + 1) 0 ⟨#[]⟩ NS NS NS from hT).below hbn)
  have HD0 : Hid (DocAt W (w.heap.size + 2) b.addr b.aff NS NS NS) := Lib.hid hR
  have HB0 := Lib.hid (bel hb0 hbn)
  have HSZ : Hid (w.heap.size + 3 ≤ W.heap.size) := Lib.hid (Nat.le_of_eq hs3.symm)
  have HW1 := Lib.hid hW1
  have HW := Lib.hid hW
  have HS1 := Lib.hid hsz
  have HFS := Lib.hid hf
  have HAS := Lib.hid ha
  have HOK := Lib.hid hok
  have HFO := Lib.hid hfo
  have HIX := Lib.hid (fun (i : Nat) (hi : i < 64) (w : World) => index64 (get64 hl hi) hl w)
  obtain ⟨fo, fc, rfl, -⟩ := id hf
  obtain ⟨ao, ac, rfl, -⟩ := id ha
  have c0 := HX1.out.addr
  have c1 := HX1.out.aff
  clear hW1 hW hb0 hA hT hR hsz hs3 hbn hf ha hok hfo
  go_enter Tryz.func18, Tryz.ntmps18
  go_upto_region 1 with fail
  change Code.wp _ _ _ _ ((w.alloc (blkO b (.slice fo b.free.length fc) (.slice ao b.attrs.length ac))).alloc (docO 0 ⟨#[]⟩ NS NS NS))
  rw [← HW1.out]
  go_upto_region 2 with fail
  change Code.wp _ _ _ _ (W1.alloc (docO b.addr b.aff NS NS NS))
  rw [← HW.out, HS1.out]
  clear HW HW1 c0 c1 HS1 HX1
  go_wp2_with (refine wpLd64 rfl _ rfl rfl HX0.out hl ?_)
  go_loopw [17] (fun j wr => ∃ (i : Nat) (o : Option Addr) (n c : Nat), i ≤ 64 ∧ j = .int .i64 i ∧ Hid ((BlkAt wr w.heap.size b (.slice fo b.free.length fc) (.slice ao b.attrs.length ac) ∧ DocAt wr (w.heap.size + 1) 0 ⟨#[]⟩ NS NS NS ∧ Below w.heap.size w wr) ∧ DocAt wr (w.heap.size + 2) b.addr b.aff (.slice o n c) NS NS ∧ wr.ownsRow W.heap.size 3 1 (.slice o n c) i (cellsI (b.sl.take i)) ∧ W.heap.size ≤ wr.heap.size)) (fun j _ => 64 - (intOf j).toNat)
  case atStart => exact ⟨0, none, 0, 0, Nat.zero_le _, rfl, Lib.hid ⟨⟨HX0.out, HZ0.out, HB0.out⟩, HD0.out, World.ownsRow_nil _ _ _ _, Nat.le_refl _⟩⟩
  case round =>
    obtain ⟨i, o, n, c, hi, rfl, HI⟩ := hrel
    obtain ⟨⟨hx, hz, hb⟩, hd, hr, hs⟩ := HI.out
    by_cases hlt : i < 64
    · have d2 : decide ((i : Int) < 64) = true := by simp; omega
      have b0 : (0 : Int) ≤ (i : Int) := by omega
      have b1 : (i : Int) < 64 := by omega
      have hix := HIX.out i hlt wr
      have hbx := okB_get HOK.out i
      have HSN := Lib.hid (cellsI_snoc b.sl i (by omega))
      generalize b.sl.getD i 0 = x at hix hbx HSN
      have s1 : IntKind.i64.wrap x = x := IntWalk.i64_in _ (by omega)
      have HX := Lib.hid hx
      have HZ := Lib.hid hz
      have HB := Lib.hid hb
      have HD := Lib.hid hd
      have HR := Lib.hid hr
      have HS := Lib.hid hs
      have HLT := Lib.hid hlt
      have k1 := hd.cells.2.2.1
      have k2 := hd.froz 2
      have hi2 : i ≤ 1000001 := by omega
      clear hx hz hb hd hr hs hlt HI hbx
      go_upto_region 6 with (at_builtin; refine wpList_push1 (w0 := wr) Tryz.underlying46 infoI rfl (by decide) rfl (.tmp 21) (.tmp 24) rfl W.heap.size _ i _ (.int .i64 x) wr.heap.size rfl rfl rfl HR.out hi2 HS.out rfl ?_; intro v5 w5 ho5 hb5 _; have HO5 := Lib.hid ho5; have HX5 := Lib.hid (HX.out.keepB hb5 (by have := HSZ.out; omega)); have HZ5 := Lib.hid (HZ.out.keepB hb5 (by have := HSZ.out; omega)); have HD5 := Lib.hid (HD.out.keepB hb5 (by have := HSZ.out; omega)); have HB5 := Lib.hid (HB.out.trans (hb5.mono (by have := HSZ.out; omega))); have HS5 := Lib.hid (Nat.le_trans HS.out hb5.size); obtain ⟨o5, n5, c5, rfl⟩ := own_form ho5; have k1 := HD5.out.cells.2.2.1; have k2 := HD5.out.froz 2; clear ho5 hb5)
      go_wp2_with fail
      go_roundw
      case rel =>
        refine ⟨i + 1, o5, n5, c5, HLT.out, by go_num, Lib.hid ⟨⟨?_, ?_, ?_⟩, ?_, ?_, ?_⟩⟩
        · exact blk_setO HX5.out (a := ⟨w.heap.size + 2, 2, none⟩) (by show w.heap.size ≠ w.heap.size + 2; omega) _
        · exact HZ5.out.setO (p := ⟨w.heap.size + 2, 2, none⟩) (by show w.heap.size + 1 ≠ w.heap.size + 2; omega) _
        · exact HB5.out.setCell (p := ⟨w.heap.size + 2, 2, none⟩) (by show w.heap.size ≤ w.heap.size + 2; omega) _
        · exact HD5.out.set2 _
        · rw [HSN.out]; exact own_set HO5.out (a := ⟨w.heap.size + 2, 2, none⟩) (by show w.heap.size + 2 < W.heap.size; have := HSZ.out; omega) _
        · exact size_set HS5.out _ _
      case measure => simp [intOf]; have := HLT.out; omega
    · obtain rfl : i = 64 := by omega
      have d2 : decide (((64 : Nat) : Int) < 64) = false := by decide
      have htk : b.sl.take 64 = b.sl := by rw [← hl, List.take_length]
      rw [htk] at hr
      have HL1 := Lib.hid (fun k hk => (hr.lt k hk).2)
      have HX := Lib.hid hx
      have HZ := Lib.hid hz
      have HB := Lib.hid hb
      have HD := Lib.hid hd
      have HR := Lib.hid hr
      have HSA := Lib.hid hs
      have c66 := hx.free hl
      clear hx hz hb hd hr hs hlt HI htk HX0 HZ0 HD0 HB0
      obtain ⟨V1, hV1⟩ : ∃ V1, V1 = Value.slice o n c := ⟨_, rfl⟩
      rw [← hV1] at HL1 HD HR
      clear hV1
      obtain ⟨w2, rfl⟩ : ∃ w2, w2 = wr := ⟨_, rfl⟩
      go_wp2_with fail
      clear c66
      go_loopw [31] (fun j wr => ∃ (i : Nat) (o : Option Addr) (n c : Nat), i ≤ b.free.length ∧ j = .int .i64 i ∧ Hid ((BlkAt wr w.heap.size b (.slice fo b.free.length fc) (.slice ao b.attrs.length ac) ∧ DocAt wr (w.heap.size + 1) 0 ⟨#[]⟩ NS NS NS ∧ Below w.heap.size w wr) ∧ DocAt wr (w.heap.size + 2) b.addr b.aff V1 (.slice o n c) NS ∧ wr.ownsRow W.heap.size 3 1 V1 64 (cellsI b.sl) ∧ wr.ownsRow w2.heap.size 3 1 (.slice o n c) i (cellsI (b.free.take i)) ∧ w2.heap.size ≤ wr.heap.size)) (fun j _ => b.free.length - (intOf j).toNat)
      case atStart => exact ⟨0, none, 0, 0, Nat.zero_le _, rfl, Lib.hid ⟨⟨HX.out, HZ.out, HB.out⟩, HD.out, HR.out, World.ownsRow_nil _ _ _ _, Nat.le_refl _⟩⟩
      case round =>
        clear HX HZ HB HD HR
        obtain ⟨i, o, n, c, hi, rfl, HI⟩ := hrel
        obtain ⟨⟨hx, hz, hb⟩, hd, hv, hr, hs⟩ := HI.out
        by_cases hlt : i < b.free.length
        · obtain ⟨fo', fc', e0, -, hln, hlc⟩ := HFS.out.keep hb
          obtain ⟨rfl, rfl⟩ : fo = fo' ∧ fc = fc' := by cases e0; exact ⟨rfl, rfl⟩
          obtain ⟨fa, rfl⟩ : ∃ fa, fo = some fa := by
            cases fo with
            | none => rw [hln rfl] at hlt; simp at hlt
            | some fa => exact ⟨fa, rfl⟩
          have q0 := hlc fa rfl i hlt
          have d2 : decide ((i : Int) < (b.free.length : Int)) = true := by simp; omega
          have b0 : (0 : Int) ≤ (i : Int) := by omega
          have b1 : (i : Int) < (b.free.length : Int) := by omega
          have hbx := okB_get HFO.out i
          have HSN := Lib.hid (cellsI_snoc b.free i hlt)
          generalize b.free.getD i 0 = x at q0 hbx HSN
          have s1 : IntKind.i64.wrap x = x := IntWalk.i64_in _ (by omega)
          have HX := Lib.hid hx
          have HZ := Lib.hid hz
          have HB := Lib.hid hb
          have HD := Lib.hid hd
          have HV := Lib.hid hv
          have HR := Lib.hid hr
          have HS := Lib.hid hs
          have HLT := Lib.hid hlt
          have HNE := Lib.hid (own_lt HL1.out hr)
          have k1 := hd.cells.2.2.2.1
          have k2 := hd.froz 3
          have hi2 : i ≤ 1000001 := by omega
          clear hx hz hb hd hv hr hs hlt HI hbx hln hlc e0
          go_upto_region 11 with (at_builtin; refine wpList_push1 (w0 := wr) Tryz.underlying46 infoI rfl (by decide) rfl (.tmp 36) (.tmp 39) rfl w2.heap.size _ i _ (.int .i64 x) wr.heap.size rfl rfl rfl HR.out hi2 HS.out rfl ?_; intro v5 w5 ho5 hb5 hg5; have HO5 := Lib.hid ho5; have HX5 := Lib.hid (HX.out.keepB hb5 (by have := HSZ.out; have := HSA.out; omega)); have HZ5 := Lib.hid (HZ.out.keepB hb5 (by have := HSZ.out; have := HSA.out; omega)); have HD5 := Lib.hid (HD.out.keepB hb5 (by have := HSZ.out; have := HSA.out; omega)); have HV5 := Lib.hid (own_grownO HV.out hg5 (fun k hk => HNE.out k hk)); have HB5 := Lib.hid (HB.out.trans (hb5.mono (by have := HSZ.out; have := HSA.out; omega))); have HS5 := Lib.hid (Nat.le_trans HS.out hb5.size); obtain ⟨o5, n5, c5, rfl⟩ := own_form ho5; have k1 := HD5.out.cells.2.2.2.1; have k2 := HD5.out.froz 3; clear ho5 hb5 hg5)
          go_wp2_with fail
          go_roundw
          case rel =>
            (repeat apply Exists.intro)
            refine ⟨⟨i + 1, o5, n5, c5, HLT.out, by go_num, Lib.hid ⟨⟨?_, ?_, ?_⟩, ?_, ?_, ?_, ?_⟩⟩, rfl⟩
            · exact blk_setO HX5.out (a := ⟨w.heap.size + 2, 3, none⟩) (by show w.heap.size ≠ w.heap.size + 2; omega) _
            · exact HZ5.out.setO (p := ⟨w.heap.size + 2, 3, none⟩) (by show w.heap.size + 1 ≠ w.heap.size + 2; omega) _
            · exact HB5.out.setCell (p := ⟨w.heap.size + 2, 3, none⟩) (by show w.heap.size ≤ w.heap.size + 2; omega) _
            · exact HD5.out.set3 _
            · exact own_set HV5.out (a := ⟨w.heap.size + 2, 3, none⟩) (by show w.heap.size + 2 < W.heap.size; have := HSZ.out; have := HSA.out; omega) _
            · rw [HSN.out]; exact own_set HO5.out (a := ⟨w.heap.size + 2, 3, none⟩) (by show w.heap.size + 2 < w2.heap.size; have := HSZ.out; have := HSA.out; omega) _
            · exact size_set HS5.out _ _
          case measure => simp [intOf]; have := HLT.out; omega
        · obtain rfl : i = b.free.length := by omega
          have d2 : decide ((b.free.length : Int) < (b.free.length : Int)) = false := by simp
          have htk : b.free.take b.free.length = b.free := List.take_length
          rw [htk] at hr
          have HL2 := Lib.hid (fun k hk => (hr.lt k hk).2)
          have HX := Lib.hid hx
          have HZ := Lib.hid hz
          have HB := Lib.hid hb
          have HD := Lib.hid hd
          have HV := Lib.hid hv
          have HR := Lib.hid hr
          have HSB := Lib.hid hs
          have c67 := hx.attrs hl
          clear hx hz hb hd hv hr hs hlt HI htk
          obtain ⟨V2, hV2⟩ : ∃ V2, V2 = Value.slice o n c := ⟨_, rfl⟩
          rw [← hV2] at HL2 HD HR
          clear hV2
          obtain ⟨w3, rfl⟩ : ∃ w3, w3 = wr := ⟨_, rfl⟩
          go_wp2_with fail
          clear c67
          go_loopw [46] (fun j wr => ∃ (i : Nat) (o : Option Addr) (n c : Nat), i ≤ b.attrs.length ∧ j = .int .i64 i ∧ Hid ((BlkAt wr w.heap.size b (.slice fo b.free.length fc) (.slice ao b.attrs.length ac) ∧ DocAt wr (w.heap.size + 1) 0 ⟨#[]⟩ NS NS NS ∧ Below w.heap.size w wr) ∧ DocAt wr (w.heap.size + 2) b.addr b.aff V1 V2 (.slice o n c) ∧ wr.ownsRow W.heap.size 3 1 V1 64 (cellsI b.sl) ∧ wr.ownsRow w2.heap.size 3 1 V2 b.free.length (cellsI b.free) ∧ RowA ERt wr w3.heap.size (.slice o n c) (b.attrs.take i) ∧ w3.heap.size ≤ wr.heap.size)) (fun j _ => b.attrs.length - (intOf j).toNat)
          case atStart => exact ⟨0, none, 0, 0, Nat.zero_le _, rfl, Lib.hid ⟨⟨HX.out, HZ.out, HB.out⟩, HD.out, HV.out, HR.out, World.ownsRow_nil _ _ _ _, Nat.le_refl _⟩⟩
          case round =>
            clear HX HZ HB HD HV HR
            obtain ⟨i, o, n, c, hi, rfl, HI⟩ := hrel
            obtain ⟨⟨hx, hz, hb⟩, hd, hv, hv2, hr, hs⟩ := HI.out
            by_cases hlt : i < b.attrs.length
            · obtain ⟨ao', ac', e0, -, hln, hlc⟩ := HAS.out.below hb
              obtain ⟨rfl, rfl⟩ : ao = ao' ∧ ac = ac' := by cases e0; exact ⟨rfl, rfl⟩
              obtain ⟨fa, rfl⟩ : ∃ fa, ao = some fa := by
                cases ao with
                | none => rw [hln rfl] at hlt; simp at hlt
                | some fa => exact ⟨fa, rfl⟩
              have hpx : b.attrs[i]? = some (b.attrs[i]'hlt) := List.getElem?_eq_getElem hlt
              have HSN : Hid (b.attrs.take (i + 1) = b.attrs.take i ++ [b.attrs[i]'hlt]) := Lib.hid (by rw [List.take_add_one, hpx]; rfl)
              generalize b.attrs[i]'hlt = x at hpx HSN
              obtain ⟨q0, q1⟩ := hlc fa rfl i x hpx
              have q1 : wr.cell? { block := (fa.add (i * 2)).block, off := (fa.add (i * 2)).off + 1 } = some (.string x.2) := q1
              have d2 : decide ((i : Int) < (b.attrs.length : Int)) = true := by simp; omega
              have b0 : (0 : Int) ≤ (i : Int) := by omega
              have b1 : (i : Int) < (b.attrs.length : Int) := by omega
              have HX := Lib.hid hx
              have HZ := Lib.hid hz
              have HB := Lib.hid hb
              have HD := Lib.hid hd
              have HV := Lib.hid hv
              have HV2 := Lib.hid hv2
              have HR := Lib.hid hr
              have HS := Lib.hid hs
              have HLT := Lib.hid hlt
              have HNE1 : Hid (∀ k, V1.ownBlock = some k → (Value.slice o n c).ownBlock ≠ some k) := Lib.hid (fun k hk hk' => by have h1 := HL1.out k hk; have h2 := (World.ownsRow.lt hr k hk').1; have h3 := HSB.out; omega)
              have HNE2 : Hid (∀ k, V2.ownBlock = some k → (Value.slice o n c).ownBlock ≠ some k) := Lib.hid (fun k hk hk' => by have h1 := HL2.out k hk; have h2 := (World.ownsRow.lt hr k hk').1; omega)
              have hi2 : i ≤ 1000001 := by omega
              have hbn := belNew wr (atO x)
              have hxn := heap_alloc_new wr (atO x)
              have hle : w.heap.size + 3 ≤ wr.heap.size := by have := HSZ.out; have := HSA.out; have := HSB.out; omega
              clear hx hz hb hd hv hv2 hr hs hlt HI hln hlc e0 hpx
              go_upto_region 15 with fail
              change Code.wp _ _ _ _ (wr.alloc (atO x))
              have HX4 := Lib.hid (HX.out.below hbn)
              have HZ4 := Lib.hid (HZ.out.below hbn)
              have HB4 := Lib.hid (bel HB.out hbn)
              have HD4 := Lib.hid (HD.out.below hbn)
              have HV4 := Lib.hid (HV.out.alloc (atO x))
              have HV24 := Lib.hid (HV2.out.alloc (atO x))
              have HR4 := Lib.hid (HR.out.alloc (atO x))
              have HS4 : Hid (w3.heap.size ≤ (wr.alloc (atO x)).heap.size) := Lib.hid (Nat.le_trans HS.out hbn.size)
              obtain ⟨ba, hba⟩ : ∃ ba, ba = wr.heap.size := ⟨_, rfl⟩
              rw [← hba] at hxn ⊢
              generalize wr.alloc (atO x) = w5 at *
              have k1 := HD4.out.cells.2.2.2.2
              have a0 := cell0 hxn
              have a1 := cell1 hxn
              have hlt3 : w.heap.size + 3 ≤ w3.heap.size := by have := HSZ.out; have := HSA.out; have := HSB.out; omega
              have HT3 := Lib.hid hlt3
              clear hba hxn hbn hle q0 q1 HX HZ HB HD HV HV2 HR HS hlt3
              go_upto_region 16 with (at_builtin; refine wpList_pushA (w0 := w5) Tryz.underlying47 infoRA rfl (.tmp 51) (.tmp 57) rfl w3.heap.size _ (b.attrs.take i) x w5.heap.size rfl rfl rfl HR4.out (by rw [List.length_take]; omega) HS4.out ?_; intro v6 w6 ho6 hb6 hg6; have HO6 := Lib.hid ho6; have HX6 := Lib.hid (HX4.out.keepB hb6 (by have := HT3.out; omega)); have HZ6 := Lib.hid (HZ4.out.keepB hb6 (by have := HT3.out; omega)); have HD6 := Lib.hid (HD4.out.keepB hb6 (by have := HT3.out; omega)); have HV6 := Lib.hid (own_grownO HV4.out hg6 (fun k hk => HNE1.out k hk)); have HV26 := Lib.hid (own_grownO HV24.out hg6 (fun k hk => HNE2.out k hk)); have HB6 := Lib.hid (HB4.out.trans (hb6.mono (by have := HT3.out; omega))); have HS6 := Lib.hid (Nat.le_trans HS4.out hb6.size); obtain ⟨o6, n6, c6, rfl⟩ := own_form ho6; have k1 := HD6.out.cells.2.2.2.2; have k2 := HD6.out.froz 4; clear ho6 hb6 hg6 a0 a1)
              go_wp2_with fail
              go_roundw
              case rel =>
                (repeat apply Exists.intro)
                refine ⟨⟨i + 1, o6, n6, c6, HLT.out, by go_num, Lib.hid ⟨⟨?_, ?_, ?_⟩, ?_, ?_, ?_, ?_, ?_⟩⟩, rfl⟩
                · exact blk_setO HX6.out (a := ⟨w.heap.size + 2, 4, none⟩) (by show w.heap.size ≠ w.heap.size + 2; omega) _
                · exact HZ6.out.setO (p := ⟨w.heap.size + 2, 4, none⟩) (by show w.heap.size + 1 ≠ w.heap.size + 2; omega) _
                · exact HB6.out.setCell (p := ⟨w.heap.size + 2, 4, none⟩) (by show w.heap.size ≤ w.heap.size + 2; omega) _
                · exact HD6.out.set4 _
                · exact own_set HV6.out (a := ⟨w.heap.size + 2, 4, none⟩) (by show w.heap.size + 2 < W.heap.size; have := HSZ.out; omega) _
                · exact own_set HV26.out (a := ⟨w.heap.size + 2, 4, none⟩) (by show w.heap.size + 2 < w2.heap.size; have := HSZ.out; have := HSA.out; omega) _
                · rw [HSN.out]; exact own_set HO6.out (a := ⟨w.heap.size + 2, 4, none⟩) (by show w.heap.size + 2 < w3.heap.size; have := HT3.out; omega) _
                · exact size_set HS6.out _ _
              case measure => simp [intOf]; have := HLT.out; omega
            · obtain rfl : i = b.attrs.length := by omega
              have d2 : decide ((b.attrs.length : Int) < (b.attrs.length : Int)) = false := by simp
              have htk : b.attrs.take b.attrs.length = b.attrs := List.take_length
              rw [htk] at hr
              obtain ⟨v1o, v1n, v1c, rfl⟩ := own_form hv
              obtain ⟨v2o, v2n, v2c, rfl⟩ := own_form hv2
              obtain ⟨k0, k1, k2, k3, k4⟩ := hd.cells
              obtain ⟨j0, j1, j2, j3, j4⟩ := hz.cells
              have z0 := hz.froz 0
              have z1 := hz.froz 1
              have z2 := hz.froz 2
              have z3 := hz.froz 3
              have z4 := hz.froz 4
              have HF := Lib.hid (And.intro hz (And.intro hv (And.intro hv2 (And.intro hr hb))))
              clear hx hz hb hd hv hv2 hr hs hlt HI htk
              go_wp2_with fail
              have hE : (((((wr.setCell ⟨w.heap.size + 1, 0, none⟩ (.int .u32 b.addr)).setCell ⟨w.heap.size + 1, 1, none⟩ (.string b.aff)).setCell ⟨w.heap.size + 1, 2, none⟩ (.slice v1o v1n v1c)).setCell ⟨w.heap.size + 1, 3, none⟩ (.slice v2o v2n v2c)).setCell ⟨w.heap.size + 1, 4, none⟩ (.slice o n c)).heap[w.heap.size + 1]? = some (docO b.addr b.aff (.slice v1o v1n v1c) (.slice v2o v2n v2c) (.slice o n c)) := by
                have h' : wr.heap[w.heap.size + 1]? = some (.cells #[.int .u32 0, .string ⟨#[]⟩, NS, NS, NS] TD (0, 0)) := HF.out.1
                simp [World.setCell, Array.getElem?_modify, h']
              have hO : ∀ {E : TypeId} {s B nn : Nat} {v : Value} {xs : List Value}, wr.ownsRow B E s v nn xs → w.heap.size + 1 < B → (((((wr.setCell ⟨w.heap.size + 1, 0, none⟩ (.int .u32 b.addr)).setCell ⟨w.heap.size + 1, 1, none⟩ (.string b.aff)).setCell ⟨w.heap.size + 1, 2, none⟩ (.slice v1o v1n v1c)).setCell ⟨w.heap.size + 1, 3, none⟩ (.slice v2o v2n v2c)).setCell ⟨w.heap.size + 1, 4, none⟩ (.slice o n c)).ownsRow B E s v nn xs := fun h hB => own_set (own_set (own_set (own_set (own_set h hB _) hB _) hB _) hB _) hB _
              have hB5 : Below w.heap.size w (((((wr.setCell ⟨w.heap.size + 1, 0, none⟩ (.int .u32 b.addr)).setCell ⟨w.heap.size + 1, 1, none⟩ (.string b.aff)).setCell ⟨w.heap.size + 1, 2, none⟩ (.slice v1o v1n v1c)).setCell ⟨w.heap.size + 1, 3, none⟩ (.slice v2o v2n v2c)).setCell ⟨w.heap.size + 1, 4, none⟩ (.slice o n c)) :=
                ((((HF.out.2.2.2.2.setCell (p := ⟨w.heap.size + 1, 0, none⟩) (Nat.le_succ _) _).setCell (p := ⟨w.heap.size + 1, 1, none⟩) (Nat.le_succ _) _).setCell (p := ⟨w.heap.size + 1, 2, none⟩) (Nat.le_succ _) _).setCell (p := ⟨w.heap.size + 1, 3, none⟩) (Nat.le_succ _) _).setCell (p := ⟨w.heap.size + 1, 4, none⟩) (Nat.le_succ _) _
              have r1 := hO HF.out.2.1 (by have := HSZ.out; omega)
              have r2 := hO HF.out.2.2.1 (by have := HSZ.out; have := HSA.out; omega)
              have r3 := hO HF.out.2.2.2.1 (by have := HSZ.out; have := HSA.out; have := HSB.out; omega)
              clear hO k0 k1 k2 k3 k4 j0 j1 j2 j3 j4 z0 z1 z2 z3 z4
              generalize ((((wr.setCell ⟨w.heap.size + 1, 0, none⟩ (.int .u32 b.addr)).setCell ⟨w.heap.size + 1, 1, none⟩ (.string b.aff)).setCell ⟨w.heap.size + 1, 2, none⟩ (.slice v1o v1n v1c)).setCell ⟨w.heap.size + 1, 3, none⟩ (.slice v2o v2n v2c)).setCell ⟨w.heap.size + 1, 4, none⟩ (.slice o n c) = w9 at *
              refine bodyPost_ret (v := docV b.addr b.aff (.slice v1o v1n v1c) (.slice v2o v2n v2c) (.slice o n c)) (resB1 rfl rfl (loadVarD hE)) rfl ⟨_, _, _, rfl, ?_⟩
              have h3 : w.heap.size ≤ W.heap.size ∧ w.heap.size ≤ w2.heap.size ∧ w.heap.size ≤ w3.heap.size := by have := HSZ.out; have := HSA.out; have := HSB.out; omega
              have q1 := own_le r1 h3.1
              have q2 := own_le r2 h3.2.1
              have q3 := own_le r3 h3.2.2
              exact DocRet.mk (ownsI_of hl q1) q2 q3 hB5
end Go.Proofs.YtiifbhiodegipaaGreatDoor
namespace Go.Proofs.YtiifbhiodegipaaGreatDoor
open Go.RowKit
theorem wpLdBg {ops : Array Oper} {rest : List Oper} {o : Oper} {a : Act} {w : World} {Q : Exit → Act → World → Prop} {g : Nat} {b : BlkS} {fv av : Value} (hw : Region.wanted o (yielded ops a.tmps) = true) (x : Operand) (ho : o.op = .load 59 x) (hx : a.eval x = .pointer (some ⟨g, 0, none⟩)) (h : BlkAt w g b fv av) (hl : b.sl.length = 64)
    (hK : wpList Tryz.prog ops Q rest (a.put o.dst (.agg (blkL b fv av).toArray)) w) : wpList Tryz.prog ops Q (o :: rest) a w :=
  wpList_step fun K hK2 => by
    rw [if_pos hw]
    exact wp_load_mid 59 x ho g 0 hx _ _ h.whole Tryz.underlying59 rfl (by rw [infoB, blkL_len b hl]) (hK2 _ _ hK)
theorem BlkRet.sees {w w' : World} {b : BlkS} {fv av : Value} (h : BlkRet w w' b fv av) : Sees w' fv b.free ∧ SeesA w' av b.attrs := ⟨h.free.sees, RowA.sees h.attrs⟩
end Go.Proofs.YtiifbhiodegipaaGreatDoor
namespace Go.Proofs.YtiifbhiodegipaaGreatDoor
section
open Go.RowKit
abbrev encI1 (x : Int) : List Value := [.int .i64 x]
abbrev RowI1 (w : World) (B : Nat) (v : Value) (xs : List Int) : Prop := RowG 3 1 encI1 w B v xs
theorem flat_I1 : ∀ xs : List Int, xs.flatMap encI1 = cellsI xs
  | [] => rfl
  | a :: l => by
    rw [List.flatMap_cons, flat_I1 l]
    rfl
end
section
open Go.RowKit Go.Maps
end
section
open Go.RowKit
/-- A block of the document's, as a value, in its parts. -/
structure DocSees (w : World) (sl free : List Int) (attrs : List PA) (v1 v2 v3 : Value) : Prop where
  slots : SeesG 1 encI1 w v1 sl
  free : SeesG 1 encI1 w v2 free
  attrs : SeesG 2 encA w v3 attrs
theorem DocSees.below {w w' : World} {sl free : List Int} {attrs : List PA} {v1 v2 v3 : Value} (h : DocSees w sl free attrs v1 v2 v3) (hb : Below w.heap.size w w') : DocSees w' sl free attrs v1 v2 v3 := ⟨h.slots.below hb, h.free.below hb, h.attrs.below hb⟩
end
section
open Go.RowKit
end
section
open Go.RowKit
end
section
open Go.RowKit
theorem neRt_self (p : PA) (w : World) : (binOp .neq 73 (atV p) (atV p)).run Tryz.prog w = .ok (.bool false) w := by
  have hS : Tryz.prog.underlying 73 = some (.struct (Tryz.prog.fieldsOf 73)) := by kernel_rfl
  have hp : Tryz.prog.stoodInHeld 73 = false := by kernel_rfl
  have u3 := Tryz.underlying9
  have a3 := Tryz.isAgg9
  have z3 := Tryz.sizeOf9
  rw [run_neq_struct, show (10000 : Nat) = 9999 + 1 from rfl, run_equalIn_agg w 9999 73 _ _ hS hp]
  simp only [Program.fieldsOf, Tryz.underlying73]
  go_simp
set_option maxRecDepth 100000 in
set_option maxHeartbeats 8000000 in
theorem refSame_yes (y : Int) (s : ByteArray) (v1 v2 v3 u1 u2 u3 : Value) (sl free : List Int) (attrs : List PA) (w : World) (h : DocSees w sl free attrs v1 v2 v3) (h' : DocSees w sl free attrs u1 u2 u3) (hl1 : sl.length ≤ 1000000) (hl2 : free.length ≤ 1000000) (hl3 : attrs.length ≤ 1000000) :
    Calls Tryz.prog 17 #[docV y s v1 v2 v3, docV y s u1 u2 u3] w fun e w' => e = .returned (.bool true) ∧ Below w.heap.size w w' := by
  obtain ⟨a1, c1, rfl⟩ := h.slots.slice
  obtain ⟨a2, c2, rfl⟩ := h.free.slice
  obtain ⟨a3, c3, rfl⟩ := h.attrs.slice
  obtain ⟨b1, e1, rfl⟩ := h'.slots.slice
  obtain ⟨b2, e2, rfl⟩ := h'.free.slice
  obtain ⟨b3, e3, rfl⟩ := h'.attrs.slice
  obtain ⟨hb0, hA, hT, hsz⟩ := two_newB w (docO y s (.slice a1 sl.length c1) (.slice a2 free.length c2) (.slice a3 attrs.length c3)) (docO y s (.slice b1 sl.length e1) (.slice b2 free.length e2) (.slice b3 attrs.length e3))
  obtain ⟨W, hW⟩ : ∃ W, W = (w.alloc (docO y s (.slice a1 sl.length c1) (.slice a2 free.length c2) (.slice a3 attrs.length c3))).alloc (docO y s (.slice b1 sl.length e1) (.slice b2 free.length e2) (.slice b3 attrs.length e3)) := ⟨_, rfl⟩
  rw [← hW] at hb0 hA hT hsz
  have HD := Lib.hid (And.intro (show DocAt W w.heap.size y s (.slice a1 sl.length c1) (.slice a2 free.length c2) (.slice a3 attrs.length c3) from hA) (show DocAt W (w.heap.size + 1) y s (.slice b1 sl.length e1) (.slice b2 free.length e2) (.slice b3 attrs.length e3) from hT))
  have HS := Lib.hid (And.intro (h.below hb0) (h'.below hb0))
  have HB := Lib.hid hb0
  have HW := Lib.hid hW
  have nq := neRt_self
  obtain ⟨k0, k1, k2, k3, k4⟩ := HD.out.1.cells
  obtain ⟨j0, j1, j2, j3, j4⟩ := HD.out.2.cells
  clear hb0 hA hT hsz hW h h'
  have n1 : (y != y) = false := by simp
  have n2 : (s.toList != s.toList) = false := by simp
  go_enter Tryz.func17, Tryz.ntmps17
  go_upto_region 1 with fail
  change Code.wp _ _ _ _ ((w.alloc (docO y s (.slice a1 sl.length c1) (.slice a2 free.length c2) (.slice a3 attrs.length c3))).alloc (docO y s (.slice b1 sl.length e1) (.slice b2 free.length e2) (.slice b3 attrs.length e3)))
  rw [← HW.out]
  clear HW
  go_wp2_with fail
  go_loopw [50] (fun j wr => ∃ i : Nat, i ≤ sl.length ∧ j = .int .i64 i ∧ Hid (Below W.heap.size W wr)) (fun j _ => sl.length - (intOf j).toNat)
  case atStart => exact ⟨0, Nat.zero_le _, rfl, Lib.hid (Below.refl _ _)⟩
  case round =>
    obtain ⟨i, hi, rfl, HI⟩ := hrel
    have q2 := bcell HI.out k2
    have q3 := bcell HI.out j2
    by_cases hlt : i < sl.length
    · have hp : sl[i]? = some (sl[i]'hlt) := List.getElem?_eq_getElem hlt
      generalize sl[i]'hlt = p at hp
      obtain ⟨x, ex, -, hx⟩ := (HS.out.1.slots.below HI.out).at hp
      obtain ⟨z, ez, -, hz⟩ := (HS.out.2.slots.below HI.out).at hp
      subst ex
      subst ez
      have x0 : wr.cell? (x.add (i * 1)) = some (.int .i64 p) := hx 0 _ rfl
      have z0 : wr.cell? (z.add (i * 1)) = some (.int .i64 p) := hz 0 _ rfl
      rw [Nat.mul_one] at x0 z0
      have np : (p != p) = false := by simp
      have i0 : (0 : Int) ≤ (i : Int) := by omega
      have i1 : (i : Int) < (sl.length : Int) := by omega
      have d2 : decide ((i : Int) < (sl.length : Int)) = true := by simp; omega
      have w1 : IntKind.i64.wrap ((i : Int) + 1) = (i : Int) + 1 := IntWalk.i64_in _ (by omega)
      have HLT := Lib.hid hlt
      clear hx hz hp hlt
      go_upto_region 6 with fail
      refine wp_region_held_drew (S := (fun W => Below wr.heap.size wr W)) (by kernel_rfl) ?_ (fun r0 => ?_)
      · exact ⟨rfl, rfl, rfl, Nat.le_refl _, fun _ _ => rfl⟩
      refine tk 0 rfl ?_
      try simp only [Act.put, List.getElem_toArray, List.getElem_cons_zero, List.setIfInBounds_toArray, List.set_cons_zero, List.set_cons_succ]
      refine tq (v := ?_) 1 rfl ?_ ?_
      rotate_left
      · intro wS hSw
        (try dsimp only at hSw)
        have q2 := bcell hSw q2
        have q3 := bcell hSw q3
        have x0 := bcell hSw x0
        have z0 := bcell hSw z0
        go_simp
        first | done | with_reducible rfl
      try simp only [Act.put, qA, qB, qC, qD, qE, qF]
      refine tk 2 rfl ?_
      try simp only [Act.put, qA, qB, qC, qD, qE, qF]
      refine tk 3 rfl ?_
      try simp only [Act.put, qA, qB, qC, qD, qE, qF]
      refine tq (v := ?_) 4 rfl ?_ ?_
      rotate_left
      · intro wS hSw
        (try dsimp only at hSw)
        have q2 := bcell hSw q2
        have q3 := bcell hSw q3
        have x0 := bcell hSw x0
        have z0 := bcell hSw z0
        go_simp
        first | done | with_reducible rfl
      try simp only [Act.put, qA, qB, qC, qD, qE, qF]
      refine tk 5 rfl ?_
      try simp only [Act.put, qA, qB, qC, qD, qE, qF]
      refine tq (v := ?_) 6 rfl ?_ ?_
      rotate_left
      · intro wS hSw
        (try dsimp only at hSw)
        have q2 := bcell hSw q2
        have q3 := bcell hSw q3
        have x0 := bcell hSw x0
        have z0 := bcell hSw z0
        go_simp
        first | done | with_reducible rfl
      try simp only [Act.put, qA, qB, qC, qD, qE, qF]
      refine tk 7 rfl ?_
      try simp only [Act.put, qA, qB, qC, qD, qE, qF]
      refine tk 8 rfl ?_
      try simp only [Act.put, qA, qB, qC, qD, qE, qF]
      refine tq (v := ?_) 9 rfl ?_ ?_
      rotate_left
      · intro wS hSw
        (try dsimp only at hSw)
        have q2 := bcell hSw q2
        have q3 := bcell hSw q3
        have x0 := bcell hSw x0
        have z0 := bcell hSw z0
        go_simp
        first | done | with_reducible rfl
      try simp only [Act.put, qA, qB, qC, qD, qE, qF]
      refine tk 10 rfl ?_
      try simp only [Act.put, qA, qB, qC, qD, qE, qF]
      refine wpAnyH_done (by kernel_rfl) ?_ _
      go_wp2_with fail
      go_roundw
      case rel => exact ⟨i + 1, HLT.out, by simp, Lib.hid (bel HI.out r0)⟩
      case measure =>
        have := HLT.out
        simp only [intOf]
        omega
    · obtain rfl : i = sl.length := by omega
      have d2 : decide ((sl.length : Int) < (sl.length : Int)) = false := by simp
      have HJ1 := Lib.hid HI.out
      have q2 := bcell HI.out k3
      have q3 := bcell HI.out j3
      clear HI hlt
      go_wp2_with fail
      clear q2 q3
      go_loopw [68] (fun j wr => ∃ i : Nat, i ≤ free.length ∧ j = .int .i64 i ∧ Hid (Below W.heap.size W wr)) (fun j _ => free.length - (intOf j).toNat)
      case atStart => exact ⟨0, Nat.zero_le _, rfl, Lib.hid HJ1.out⟩
      case round =>
        obtain ⟨i, hi, rfl, HI⟩ := hrel
        have q2 := bcell HI.out k3
        have q3 := bcell HI.out j3
        by_cases hlt : i < free.length
        · have hp : free[i]? = some (free[i]'hlt) := List.getElem?_eq_getElem hlt
          generalize free[i]'hlt = p at hp
          obtain ⟨x, ex, -, hx⟩ := (HS.out.1.free.below HI.out).at hp
          obtain ⟨z, ez, -, hz⟩ := (HS.out.2.free.below HI.out).at hp
          subst ex
          subst ez
          have x0 : wr.cell? (x.add (i * 1)) = some (.int .i64 p) := hx 0 _ rfl
          have z0 : wr.cell? (z.add (i * 1)) = some (.int .i64 p) := hz 0 _ rfl
          rw [Nat.mul_one] at x0 z0
          have np : (p != p) = false := by simp
          have i0 : (0 : Int) ≤ (i : Int) := by omega
          have i1 : (i : Int) < (free.length : Int) := by omega
          have d2 : decide ((i : Int) < (free.length : Int)) = true := by simp; omega
          have w1 : IntKind.i64.wrap ((i : Int) + 1) = (i : Int) + 1 := IntWalk.i64_in _ (by omega)
          have HLT := Lib.hid hlt
          clear hx hz hp hlt
          go_upto_region 12 with fail
          refine wp_region_held_drew (S := (fun W => Below wr.heap.size wr W)) (by kernel_rfl) ?_ (fun r0 => ?_)
          · exact ⟨rfl, rfl, rfl, Nat.le_refl _, fun _ _ => rfl⟩
          refine tk 0 rfl ?_
          try simp only [Act.put, List.getElem_toArray, List.getElem_cons_zero, List.setIfInBounds_toArray, List.set_cons_zero, List.set_cons_succ]
          refine tq (v := ?_) 1 rfl ?_ ?_
          rotate_left
          · intro wS hSw
            (try dsimp only at hSw)
            have q2 := bcell hSw q2
            have q3 := bcell hSw q3
            have x0 := bcell hSw x0
            have z0 := bcell hSw z0
            go_simp
            first | done | with_reducible rfl
          try simp only [Act.put, qA, qB, qC, qD, qE, qF]
          refine tk 2 rfl ?_
          try simp only [Act.put, qA, qB, qC, qD, qE, qF]
          refine tk 3 rfl ?_
          try simp only [Act.put, qA, qB, qC, qD, qE, qF]
          refine tq (v := ?_) 4 rfl ?_ ?_
          rotate_left
          · intro wS hSw
            (try dsimp only at hSw)
            have q2 := bcell hSw q2
            have q3 := bcell hSw q3
            have x0 := bcell hSw x0
            have z0 := bcell hSw z0
            go_simp
            first | done | with_reducible rfl
          try simp only [Act.put, qA, qB, qC, qD, qE, qF]
          refine tk 5 rfl ?_
          try simp only [Act.put, qA, qB, qC, qD, qE, qF]
          refine tq (v := ?_) 6 rfl ?_ ?_
          rotate_left
          · intro wS hSw
            (try dsimp only at hSw)
            have q2 := bcell hSw q2
            have q3 := bcell hSw q3
            have x0 := bcell hSw x0
            have z0 := bcell hSw z0
            go_simp
            first | done | with_reducible rfl
          try simp only [Act.put, qA, qB, qC, qD, qE, qF]
          refine tk 7 rfl ?_
          try simp only [Act.put, qA, qB, qC, qD, qE, qF]
          refine tk 8 rfl ?_
          try simp only [Act.put, qA, qB, qC, qD, qE, qF]
          refine tq (v := ?_) 9 rfl ?_ ?_
          rotate_left
          · intro wS hSw
            (try dsimp only at hSw)
            have q2 := bcell hSw q2
            have q3 := bcell hSw q3
            have x0 := bcell hSw x0
            have z0 := bcell hSw z0
            go_simp
            first | done | with_reducible rfl
          try simp only [Act.put, qA, qB, qC, qD, qE, qF]
          refine tk 10 rfl ?_
          try simp only [Act.put, qA, qB, qC, qD, qE, qF]
          refine wpAnyH_done (by kernel_rfl) ?_ _
          go_wp2_with fail
          go_roundw
          case rel => exact ⟨i + 1, HLT.out, by simp, Lib.hid (bel HI.out r0)⟩
          case measure =>
            have := HLT.out
            simp only [intOf]
            omega
        · obtain rfl : i = free.length := by omega
          have d2 : decide ((free.length : Int) < (free.length : Int)) = false := by simp
          have HJ2 := Lib.hid HI.out
          have q2 := bcell HI.out k4
          have q3 := bcell HI.out j4
          clear HI hlt
          go_wp2_with fail
          clear q2 q3
          go_loopw [86] (fun j wr => ∃ i : Nat, i ≤ attrs.length ∧ j = .int .i64 i ∧ Hid (Below W.heap.size W wr)) (fun j _ => attrs.length - (intOf j).toNat)
          case atStart => exact ⟨0, Nat.zero_le _, rfl, Lib.hid HJ2.out⟩
          case round =>
            obtain ⟨i, hi, rfl, HI⟩ := hrel
            have q2 := bcell HI.out k4
            have q3 := bcell HI.out j4
            by_cases hlt : i < attrs.length
            · have hp : attrs[i]? = some (attrs[i]'hlt) := List.getElem?_eq_getElem hlt
              generalize attrs[i]'hlt = p at hp
              obtain ⟨x, ex, -, hx⟩ := (HS.out.1.attrs.below HI.out).at hp
              obtain ⟨z, ez, -, hz⟩ := (HS.out.2.attrs.below HI.out).at hp
              subst ex
              subst ez
              have x0 : wr.cell? (x.add (i * 2)) = some (.string p.1) := hx 0 _ rfl
              have x1 : wr.cell? { block := (x.add (i * 2)).block, off := (x.add (i * 2)).off + 1 } = some (.string p.2) := hx 1 _ rfl
              have z0 : wr.cell? (z.add (i * 2)) = some (.string p.1) := hz 0 _ rfl
              have z1 : wr.cell? { block := (z.add (i * 2)).block, off := (z.add (i * 2)).off + 1 } = some (.string p.2) := hz 1 _ rfl
              have i0 : (0 : Int) ≤ (i : Int) := by omega
              have i1 : (i : Int) < (attrs.length : Int) := by omega
              have d2 : decide ((i : Int) < (attrs.length : Int)) = true := by simp; omega
              have w1 : IntKind.i64.wrap ((i : Int) + 1) = (i : Int) + 1 := IntWalk.i64_in _ (by omega)
              have HLT := Lib.hid hlt
              clear hx hz hp hlt
              go_upto_region 18 with fail
              refine wp_region_held_drew (S := (fun W => Below wr.heap.size wr W)) (by kernel_rfl) ?_ (fun r0 => ?_)
              · exact ⟨rfl, rfl, rfl, Nat.le_refl _, fun _ _ => rfl⟩
              refine tk 0 rfl ?_
              try simp only [Act.put, List.getElem_toArray, List.getElem_cons_zero, List.setIfInBounds_toArray, List.set_cons_zero, List.set_cons_succ]
              refine tq (v := ?_) 1 rfl ?_ ?_
              rotate_left
              · intro wS hSw
                (try dsimp only at hSw)
                have q2 := bcell hSw q2
                have q3 := bcell hSw q3
                have x0 := bcell hSw x0
                have x1 := bcell hSw x1
                have z0 := bcell hSw z0
                have z1 := bcell hSw z1
                go_simp
                first | done | with_reducible rfl
              try simp only [Act.put, qA, qB, qC, qD, qE, qF]
              refine tk 2 rfl ?_
              try simp only [Act.put, qA, qB, qC, qD, qE, qF]
              refine tk 3 rfl ?_
              try simp only [Act.put, qA, qB, qC, qD, qE, qF]
              refine tq (v := ?_) 4 rfl ?_ ?_
              rotate_left
              · intro wS hSw
                (try dsimp only at hSw)
                have q2 := bcell hSw q2
                have q3 := bcell hSw q3
                have x0 := bcell hSw x0
                have x1 := bcell hSw x1
                have z0 := bcell hSw z0
                have z1 := bcell hSw z1
                go_simp
                first | done | with_reducible rfl
              try simp only [Act.put, qA, qB, qC, qD, qE, qF]
              refine tk 5 rfl ?_
              try simp only [Act.put, qA, qB, qC, qD, qE, qF]
              refine tq (v := ?_) 6 rfl ?_ ?_
              rotate_left
              · intro wS hSw
                (try dsimp only at hSw)
                have q2 := bcell hSw q2
                have q3 := bcell hSw q3
                have x0 := bcell hSw x0
                have x1 := bcell hSw x1
                have z0 := bcell hSw z0
                have z1 := bcell hSw z1
                go_simp
                first | done | with_reducible rfl
              try simp only [Act.put, qA, qB, qC, qD, qE, qF]
              refine tk 7 rfl ?_
              try simp only [Act.put, qA, qB, qC, qD, qE, qF]
              refine tk 8 rfl ?_
              try simp only [Act.put, qA, qB, qC, qD, qE, qF]
              refine tq (v := ?_) 9 rfl ?_ ?_
              rotate_left
              · intro wS hSw
                (try dsimp only at hSw)
                have q2 := bcell hSw q2
                have q3 := bcell hSw q3
                have x0 := bcell hSw x0
                have x1 := bcell hSw x1
                have z0 := bcell hSw z0
                have z1 := bcell hSw z1
                go_simp
                first | done | with_reducible rfl
              try simp only [Act.put, qA, qB, qC, qD, qE, qF]
              refine tk 10 rfl ?_
              try simp only [Act.put, qA, qB, qC, qD, qE, qF]
              refine wpAnyH_done (by kernel_rfl) ?_ _
              go_wp2_with fail
              go_roundw
              case rel => exact ⟨i + 1, HLT.out, by simp, Lib.hid (bel HI.out r0)⟩
              case measure =>
                have := HLT.out
                simp only [intOf]
                omega
            · obtain rfl : i = attrs.length := by omega
              have d2 : decide ((attrs.length : Int) < (attrs.length : Int)) = false := by simp
              have HJ3 := Lib.hid HI.out
              clear q2 q3 HI hlt
              go_wp2_with fail
              go_ret
              exact ⟨rfl, HB.out.trans (HJ3.out.mono HB.out.size)⟩
end
section
open Go.RowKit
end
end Go.Proofs.YtiifbhiodegipaaGreatDoor
