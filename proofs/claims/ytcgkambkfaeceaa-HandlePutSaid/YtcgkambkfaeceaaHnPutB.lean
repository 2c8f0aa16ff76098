/- Package handle: Put. -/
import Derived.Test.YtcgkambkfaeceaaHnPut
namespace Go.Proofs.Ytcgkambkfaeceaa
open Go.RowKit
set_option maxRecDepth 100000 in
set_option maxHeartbeats 4000000 in
theorem hput_no (v : Value) (L : CntL) (w : World) (h : SeesC w v L) (hb : CntBd L) (hl : L.length ≤ 4000) (hr : rightH L = false) :
    Calls Try.prog 10 #[hnV v] w fun e w' => e = .returned (.tuple #[.string ⟨#[]⟩, .int .i64 1]) ∧ Below w.heap.size w w' := by
  obtain ⟨W, hW⟩ : ∃ W, W = w.alloc (hnO v) := ⟨_, rfl⟩
  have hb0 : Below w.heap.size w W := by rw [hW]; exact belNew _ _
  have hA : W.heap[w.heap.size]? = some (hnO v) := by rw [hW]; exact heap_new w _
  have HR := Lib.hid (right_any v L W (h.below hb0) hb (by omega))
  rw [hr] at HR
  obtain ⟨ao, c, rfl, -⟩ := h
  have HW := Lib.hid hW
  have HB0 := Lib.hid hb0
  have c0 := hcell hA
  clear hW hb0 hA hr hb
  go_enter Try.func10, Try.ntmps10
  go_upto_region 1 with fail
  change Code.wp _ _ _ _ (w.alloc (hnO (.slice ao L.length c)))
  rw [← HW.out]
  clear HW
  go_wp2_with fail
  refine HR.out.mono ?_; rintro e w1 ⟨rfl, hb1⟩
  have HB1 := Lib.hid (HB0.out.trans (hb1.mono HB0.out.size))
  clear hb1
  go_wp2_with fail
  go_ret2
  exact ⟨rfl, HB1.out⟩
set_option maxRecDepth 100000 in
set_option maxHeartbeats 4000000 in
theorem hput_any (v : Value) (L : CntL) (w : World) (h : SeesC w v L) (hb : CntBd L) (hl : L.length ≤ 4000) (hr : rightH L = true) :
    Calls Try.prog 10 #[hnV v] w fun e w' => e = .returned (.tuple #[.string (strOfNums (hnB L)), .int .i64 0]) ∧ Below w.heap.size w w' := by
  have kc := fun (w : World) (C : Array Value) (n c : Nat) => Lib.run_convert_bytes_const (P := Try.prog) w 51 5 C n c Try.underlying51 Try.underlying5
  have HOK := Lib.hid ((right_iff L).1 hr).1
  obtain ⟨W, hW⟩ : ∃ W, W = w.alloc (hnO v) := ⟨_, rfl⟩
  have hb0 : Below w.heap.size w W := by rw [hW]; exact belNew _ _
  have hA : W.heap[w.heap.size]? = some (hnO v) := by rw [hW]; exact heap_new w _
  have hsW := h.below hb0
  have HR := Lib.hid (right_any v L W hsW hb (by omega))
  rw [hr] at HR
  obtain ⟨ao, c, rfl, hlc, hnil, hc⟩ := hsW
  have HW := Lib.hid hW
  have HB0 := Lib.hid hb0
  have HC := Lib.hid (And.intro hnil hc)
  have HBD := Lib.hid hb
  have c0 := hcell hA
  have hwl : IntKind.u64.wrap (L.length : Int) = (L.length : Int) := by rw [IntKind.wrap_u64]; omega
  clear hW hb0 hA hr hb hnil hc h
  go_enter Try.func10, Try.ntmps10
  go_upto_region 1 with fail
  change Code.wp _ _ _ _ (w.alloc (hnO (.slice ao L.length c)))
  rw [← HW.out]
  clear HW
  go_wp2_with fail
  refine HR.out.mono ?_; rintro e w1 ⟨rfl, hb1⟩
  have c1 := bcell hb1 c0
  have c2 := bcell (belNew w1 (.cells #[.int .u8 72] 5 (1, 2))) c1
  have HB1 := Lib.hid (belAlloc hb1 (.cells #[.int .u8 72] 5 (1, 2)))
  have HP1 := Lib.hid (putNum_first ⟨w1.heap.size, 0, none⟩ [72] L.length 2 (w1.alloc (.cells #[.int .u8 72] 5 (1, 2))) (one_sees w1 72) (by simp) (by decide) (by decide))
  clear hb1 c0
  go_wp2_with fail
  refine HP1.out.mono ?_; rintro e w2 ⟨g2, c2', rfl, ho2, hb2⟩
  have c0 := bcell hb2 c2
  have HB2 := Lib.hid (bel HB1.out hb2)
  have HO2 : Hid (Owns w2 W.heap.size (.slice (some ⟨g2, 0, none⟩) ([72] ++ putL L.length 2).length c2') ([72] ++ putL L.length 2)) := Lib.hid (by
    have := HB1.out.size
    exact ⟨ho2.1, ho2.2.imp id fun ⟨g, cap, cur, e, b, r⟩ => ⟨g, cap, cur, e, Nat.le_trans this b, r⟩⟩)
  clear hb2 ho2 c1 c2 HP1
  go_wp2_with fail
  go_loopw [4, 20] (fun u j wr => ∃ i : Nat, i ≤ L.length ∧ j = .int .i64 i ∧ Hid (∃ g c, u = .slice (some ⟨g, 0, none⟩) (([72] ++ putL L.length 2) ++ (L.take i).flatMap cnt8).length c) ∧ Hid (Owns wr W.heap.size u (([72] ++ putL L.length 2) ++ (L.take i).flatMap cnt8)) ∧ Hid (Below W.heap.size W wr)) (fun _ j _ => L.length - (intOf j).toNat)
  case atStart => exact ⟨0, Nat.zero_le _, rfl, Lib.hid ⟨g2, c2', by simp⟩, Lib.hid (by simpa using HO2.out), HB2⟩
  case round =>
    obtain ⟨i, hi, rfl, HF, HO, HBw⟩ := hrel
    by_cases hlt : i < L.length
    · obtain ⟨a, rfl⟩ : ∃ a, ao = some a := by
        cases ao with
        | none => rw [HC.out.1 rfl] at hlt; simp at hlt
        | some a => exact ⟨a, rfl⟩
      obtain ⟨q0, q1⟩ := HC.out.2 a rfl i _ (at2_get hlt)
      have q0 := bcell HBw.out q0
      have q1 := ofs1 (bcell HBw.out q1)
      have b0 : (0 : Int) ≤ (i : Int) := by omega
      have b1 : (i : Int) < (L.length : Int) := by omega
      have d1 : decide ((i : Int) < (L.length : Int)) = true := by simp; omega
      have HT : Hid ((L.take (i + 1)).flatMap cnt8 = (L.take i).flatMap cnt8 ++ (putL (at2 L i).1 4 ++ putL (at2 L i).2 2)) := Lib.hid (by
        rw [List.take_add_one, at2_get hlt]
        simp [cnt8])
      have HLT := Lib.hid hlt
      have hok := HOK.out _ (List.mem_of_getElem? (at2_get hlt))
      have hpb := at2_bd HBD.out i
      generalize at2 L i = p at q0 q1 HT hok hpb
      obtain ⟨px, pn⟩ := p
      simp only [] at q0 q1 HT hpb
      unfold CntOk at hok
      simp only [] at hok
      have hw1 : IntKind.u64.wrap px = px := by rw [IntKind.wrap_u64]; omega
      have hw2 : IntKind.u64.wrap pn = pn := by rw [IntKind.wrap_u64]; omega
      have hln : (([72] ++ putL L.length 2) ++ (L.take i).flatMap cnt8).length ≤ 50000 := by
        rw [List.length_append, cnt8_len, List.length_append, putL_ne (by decide) (by decide), List.length_take]
        have : (2 : Int).toNat = 2 := rfl
        simp
        omega
      obtain ⟨XS, hXS⟩ : ∃ XS, XS = ([72] ++ putL L.length 2) ++ (L.take i).flatMap cnt8 := ⟨_, rfl⟩
      rw [← hXS] at HF HO hln
      have hne : XS ≠ [] := by rw [hXS]; simp
      have HX := Lib.hid hXS
      obtain ⟨gu, cu, rfl⟩ := HF.out
      have HGU : Hid (gu ≠ wr.heap.size) := Lib.hid (by have h9 : gu < wr.heap.size := (HO.out.lt gu rfl).2; omega)
      obtain ⟨wA, hwA⟩ : ∃ wA, wA = wr.alloc (cntO (px, pn) 50) := ⟨_, rfl⟩
      have hbA : Below wr.heap.size wr wA := by rw [hwA]; exact belNew _ _
      have hxA : wA.heap[wr.heap.size]? = some (cntO (px, pn) 50) := by rw [hwA]; exact heap_new _ _
      obtain ⟨x0, x1⟩ := ccells hxA
      have HBA := Lib.hid (bel HBw.out hbA)
      have HP2 := Lib.hid (putNum_own W.heap.size (.slice (some ⟨gu, 0, none⟩) XS.length cu) XS px 4 wA (HO.out.keep hbA) hne (by omega) (by decide) (by decide) HBA.out.size)
      have HWA := Lib.hid hwA
      have HL4 : Hid (putL px 4 ≠ [] ∧ (putL px 4).length = 4) := Lib.hid (by
        have := putL_ne (n := px) (k := 4) (by decide) (by decide)
        have h4 : (4 : Int).toNat = 4 := rfl
        rw [h4] at this
        exact ⟨by intro e; rw [e] at this; simp at this, this⟩)
      have HLN := Lib.hid hln
      have HXW : Hid (wr.heap.size < wA.heap.size) := Lib.hid (heap_lt hxA)
      have HXA := Lib.hid hxA
      clear hwA hbA hxA hXS hne hok hpb hln
      go_upto_region 7 with fail
      clear q0 q1
      change Code.wp _ _ _ _ (wr.alloc (cntO (px, pn) 50))
      rw [← HWA.out]
      clear HWA
      go_wp2_with fail
      refine HP2.out.mono ?_; rintro e w3 ⟨g3, c3, rfl, ho3, hb3, hk3⟩
      obtain ⟨Y, hY⟩ : ∃ Y, Y = XS ++ putL px 4 := ⟨_, rfl⟩
      rw [← hY] at ho3 ⊢
      have HY := Lib.hid hY
      have hlY : Y.length ≤ 60000 := by rw [hY, List.length_append, HL4.out.2]; have := HLN.out; omega
      have hneY : Y ≠ [] := by rw [hY]; simp [HL4.out.1]
      have HB3 := Lib.hid (HBA.out.trans hb3)
      have h3 := (hk3 wr.heap.size HXW.out (fun e => HGU.out (Option.some.inj e))).trans HXA.out
      obtain ⟨y0, y1⟩ := ccells h3
      have HP3 := Lib.hid (putNum_own W.heap.size (.slice (some ⟨g3, 0, none⟩) Y.length c3) Y pn 2 w3 ho3 hneY (by omega) (by decide) (by decide) HB3.out.size)
      clear x0 x1 hb3 hk3 h3 hY hlY hneY ho3
      go_wp2_with fail
      refine HP3.out.mono ?_; rintro e w4 ⟨g4, c4, rfl, ho4, hb4, -⟩
      have HB4 := Lib.hid (HB3.out.trans hb4)
      have HO4 := Lib.hid ho4
      have hZ : Y ++ putL pn 2 = ([72] ++ putL L.length 2) ++ (L.take (i + 1)).flatMap cnt8 := by rw [HY.out, HX.out, HT.out]; simp
      obtain ⟨Y2, hY2⟩ : ∃ Y2, Y2 = Y ++ putL pn 2 := ⟨_, rfl⟩
      rw [← hY2] at HO4 hZ ⊢
      have HZ := Lib.hid hZ
      clear y0 y1 hb4 ho4 hZ hY2
      go_wp2_with fail
      go_roundw
      case rel => exact ⟨i + 1, HLT.out, by go_num, Lib.hid ⟨_, _, by rw [← HZ.out]⟩, by rw [← HZ.out]; exact HO4, HB4⟩
      case measure => simp [intOf]; have := HLT.out; omega
    · obtain rfl : i = L.length := by omega
      have d1 : decide ((L.length : Int) < (L.length : Int)) = false := by simp
      rw [List.take_length] at HO HF
      have e : ([72] ++ putL L.length 2) ++ L.flatMap cnt8 = hnB L := rfl
      rw [e] at HO HF
      have HBX := Lib.hid (HB0.out.trans (HBw.out.mono HB0.out.size))
      obtain ⟨Z, hZ⟩ : ∃ Z, Z = hnB L := ⟨_, rfl⟩
      rw [← hZ] at HO HF
      have HZ := Lib.hid hZ
      clear hZ
      obtain ⟨gu, cu, rfl⟩ := HF.out
      have HS := conv_sees HO.out.sees
      clear HO HF e
      go_wp2_with fail
      go_ret2
      exact ⟨by rw [← HZ.out]; rfl, HBX.out⟩
end Go.Proofs.Ytcgkambkfaeceaa
