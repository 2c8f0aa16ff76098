/- Package virgateref17: Put. -/
import Derived.Test.YtcgkambkfaeceaaHnLaw
import Derived.Test.YtcgkambkfaeceaaHnPut
namespace Go.Proofs.Ytcgkambkfaeceaa
open Go.RowKit
theorem wpAnyH_mono {P : Program} {ops : Array Oper} {Q : Exit → Act → World → Prop} {md : Region.Mode} {S S' : World → Prop} (hS : ∀ w, S' w → S w) :
    ∀ (fuel : Nat) (listed : Array Bool) (a : Act) (w : World), wpAnyH P md ops Q S' fuel listed a w → wpAnyH P md ops Q S fuel listed a w
  | 0, _, _, _, h => h
  | fuel + 1, _, _, _, h => ⟨h.1, fun i hi => wpOp_mono (fun a' w' h' => ⟨hS _ h'.1, wpAnyH_mono hS fuel _ a' w' h'.2⟩) (h.2 i hi)⟩
theorem strOfNums_append (a b : List Int) : strOfNums (a ++ b) = strOfNums a ++ strOfNums b := by
  apply ByteArray.ext
  simp [strOfNums]
set_option maxRecDepth 100000 in
set_option maxHeartbeats 8000000 in
theorem hrefPut_any (v : Value) (L : CntL) (w : World) (h : SeesC w v L) (hb : CntBd L) (hok : ∀ p ∈ L, CntOk p) (hl : L.length ≤ 4000) :
    Calls Try.prog 15 #[v] w fun e w' => e = .returned (.string (strOfNums (hnB L))) ∧ Below w.heap.size w w' := by
  obtain ⟨ao, c, rfl, hlc, hnil, hc⟩ := h
  have HC := Lib.hid (And.intro hnil hc)
  have HBD := Lib.hid hb
  have HOK := Lib.hid hok
  have hwl : IntKind.u64.wrap (L.length : Int) = (L.length : Int) := by rw [IntKind.wrap_u64]; omega
  have HP0 := Lib.hid (refPut_any L.length 2 w (by omega) (by omega))
  obtain ⟨A0, hA0⟩ : ∃ A0, A0 = strOfNums (putL L.length 2) := ⟨_, rfl⟩
  have hA0s : A0.size = 2 := by rw [hA0, strOfNums_size, putL_ne (by decide) (by decide)]; rfl
  have q0 : ¬ 9223372036854775807 < (⟨#[72]⟩ : ByteArray).size + A0.size := by
    have : (⟨#[72]⟩ : ByteArray).size = 1 := rfl
    omega
  have HA0 := Lib.hid hA0
  have HX0 : Hid ((⟨#[72]⟩ : ByteArray) ++ A0 = strOfNums (([72] ++ putL L.length 2) ++ ([] : CntL).flatMap cnt8)) := Lib.hid (by
    rw [List.flatMap_nil, List.append_nil, strOfNums_append, ← hA0]; rfl)
  clear hnil hc hb hok hA0 hA0s
  go_enter Try.func15, Try.ntmps15
  go_wp2_with fail
  refine HP0.out.mono ?_; rintro e w1 ⟨v1, rfl, ho1, hb1⟩
  have k0 := conv_sees ho1.sees
  rw [← HA0.out] at k0
  have HB1 := Lib.hid hb1
  clear ho1 hb1 HP0
  go_wp2_with fail
  go_loopw [3, 14] (fun u j wr => ∃ (i : Nat) (sb : ByteArray), i ≤ L.length ∧ j = .int .i64 i ∧ u = .string sb ∧ Hid (sb = strOfNums (([72] ++ putL L.length 2) ++ (L.take i).flatMap cnt8)) ∧ Hid (Below w.heap.size w wr)) (fun _ j _ => L.length - (intOf j).toNat)
  case atStart => exact ⟨0, _, Nat.zero_le _, rfl, rfl, Lib.hid (by simpa using HX0.out), HB1⟩
  case round =>
    obtain ⟨i, sb, hi, rfl, rfl, HE, HBw⟩ := hrel
    by_cases hlt : i < L.length
    · obtain ⟨a, rfl⟩ : ∃ a, ao = some a := by
        cases ao with
        | none => rw [HC.out.1 rfl] at hlt; simp at hlt
        | some a => exact ⟨a, rfl⟩
      obtain ⟨q0, q1⟩ := HC.out.2 a rfl i _ (at2_get hlt)
      have q0 := bcell HBw.out q0
      have q1 := ofs1 (bcell HBw.out q1)
      have b0 : (0 : Int) ≤ (i : Int) := by omega
      have b1 : (i : Int) < (L.length : Int) := by omega
      have d1 : decide ((i : Int) < (L.length : Int)) = true := by simp; omega
      have HT : Hid ((L.take (i + 1)).flatMap cnt8 = (L.take i).flatMap cnt8 ++ (putL (at2 L i).1 4 ++ putL (at2 L i).2 2)) := Lib.hid (by
        rw [List.take_add_one, at2_get hlt]
        simp [cnt8])
      have HLT := Lib.hid hlt
      have hok := HOK.out _ (List.mem_of_getElem? (at2_get hlt))
      have hpb := at2_bd HBD.out i
      have hsz : sb.size ≤ 50000 := by
        rw [HE.out, strOfNums_size, List.length_append, cnt8_len, List.length_append, putL_ne (by decide) (by decide), List.length_take]
        have : (2 : Int).toNat = 2 := rfl
        simp
        omega
      generalize at2 L i = p at q0 q1 HT hok hpb
      obtain ⟨px, pn⟩ := p
      simp only [] at q0 q1 HT hpb
      unfold CntOk at hok
      simp only [] at hok
      have hw1 : IntKind.u64.wrap px = px := by rw [IntKind.wrap_u64]; omega
      have hw2 : IntKind.u64.wrap pn = pn := by rw [IntKind.wrap_u64]; omega
      have HP4 := Lib.hid (fun w => refPut_any px 4 w hpb.1.1 (by omega))
      have HP2 := Lib.hid (fun w => refPut_any pn 2 w (by omega) (by omega))
      obtain ⟨A4, hA4⟩ : ∃ A4, A4 = strOfNums (putL px 4) := ⟨_, rfl⟩
      obtain ⟨A2, hA2⟩ : ∃ A2, A2 = strOfNums (putL pn 2) := ⟨_, rfl⟩
      have hs4 : A4.size = 4 := by rw [hA4, strOfNums_size, putL_ne (by decide) (by decide)]; rfl
      have hs2 : A2.size = 2 := by rw [hA2, strOfNums_size, putL_ne (by decide) (by decide)]; rfl
      have g1 : ¬ 9223372036854775807 < sb.size + A4.size := by omega
      have g2 : ¬ 9223372036854775807 < (sb ++ A4).size + A2.size := by rw [ByteArray.size_append]; omega
      have g3 : ¬ 9223372036854775807 < sb.size + A4.size + A2.size := by omega
      have HA4 := Lib.hid hA4
      have HA2 := Lib.hid hA2
      have HN : Hid (sb ++ A4 ++ A2 = strOfNums (([72] ++ putL L.length 2) ++ (L.take (i + 1)).flatMap cnt8)) := Lib.hid (by
        rw [HT.out, HE.out, hA4, hA2, ← strOfNums_append, ← strOfNums_append]
        congr 1
        simp)
      clear hA4 hA2 hs4 hs2 hpb hok hsz
      go_upto_region 5 with fail
      obtain ⟨wx, hwx⟩ : ∃ wx, wx = wr.alloc (cntO (px, pn) ER) := ⟨_, rfl⟩
      have hx1 : wx.heap[wr.heap.size]? = some (cntO (px, pn) ER) := by rw [hwx]; exact heap_new wr _
      have hbx : Below wr.heap.size wr wx := by rw [hwx]; exact belNew _ _
      change Code.wp _ _ _ _ (wr.alloc (cntO (px, pn) ER))
      rw [← hwx]
      obtain ⟨x0, x1⟩ := ccells hx1
      have HBX := Lib.hid (bel HBw.out hbx)
      clear hwx hbx hx1 q0 q1
      refine wp_region_held_drew (S := (fun W => Below wx.heap.size wx W)) (by kernel_rfl) ?_ (fun r0 => ?_)
      · exact ⟨rfl, rfl, rfl, Nat.le_refl _, fun _ _ => rfl⟩
      refine wpAnyH_take (i := 0) (v := ?_) rfl (by kernel_rfl) (by kernel_rfl) (by kernel_rfl) (fun _ _ _ h => h) (Or.inl ⟨by rfl, ?_⟩) (by assumption) ?_
      rotate_left
      · intro wS hSw
        (try dsimp only at hSw)
        go_simp
        first | done | with_reducible rfl
      try simp only [Act.put, List.getElem_toArray, List.getElem_cons_succ, List.getElem_cons_zero, List.setIfInBounds_toArray, List.set_cons_zero, List.set_cons_succ]
      refine wpAnyH_take (i := 1) (v := ?_) rfl (by kernel_rfl) (by kernel_rfl) (by kernel_rfl) (fun _ _ _ h => h) (Or.inl ⟨by rfl, ?_⟩) (by assumption) ?_
      rotate_left
      · intro wS hSw
        (try dsimp only at hSw)
        go_simp
        first | done | with_reducible rfl
      try simp only [Act.put, List.getElem_toArray, List.getElem_cons_succ, List.getElem_cons_zero, List.setIfInBounds_toArray, List.set_cons_zero, List.set_cons_succ]
      refine wpAnyH_take (i := 2) (v := ?_) rfl (by kernel_rfl) (by kernel_rfl) (by kernel_rfl) (fun _ _ _ h => h) (Or.inl ⟨by rfl, ?_⟩) (by assumption) ?_
      rotate_left
      · intro wS hSw
        (try dsimp only at hSw)
        have x0 := bcell hSw x0
        go_simp
        first | done | with_reducible rfl
      try simp only [Act.put, List.getElem_toArray, List.getElem_cons_succ, List.getElem_cons_zero, List.setIfInBounds_toArray, List.set_cons_zero, List.set_cons_succ]
      refine wpAnyH_take (i := 3) (v := ?_) rfl (by kernel_rfl) (by kernel_rfl) (by kernel_rfl) (fun _ _ _ h => h) (Or.inl ⟨by rfl, ?_⟩) (by assumption) ?_
      rotate_left
      · intro wS hSw
        (try dsimp only at hSw)
        go_simp
        first | done | with_reducible rfl
      try simp only [Act.put, List.getElem_toArray, List.getElem_cons_succ, List.getElem_cons_zero, List.setIfInBounds_toArray, List.set_cons_zero, List.set_cons_succ]
      refine wpAnyH_take (i := 7) (v := ?_) rfl (by kernel_rfl) (by kernel_rfl) (by kernel_rfl) (fun _ _ _ h => h) (Or.inl ⟨by rfl, ?_⟩) (by assumption) ?_
      rotate_left
      · intro wS hSw
        (try dsimp only at hSw)
        go_simp
        first | done | with_reducible rfl
      try simp only [Act.put, List.getElem_toArray, List.getElem_cons_succ, List.getElem_cons_zero, List.setIfInBounds_toArray, List.set_cons_zero, List.set_cons_succ]
      refine wpAnyH_take (i := 8) (v := ?_) rfl (by kernel_rfl) (by kernel_rfl) (by kernel_rfl) (fun _ _ _ h => h) (Or.inl ⟨by rfl, ?_⟩) (by assumption) ?_
      rotate_left
      · intro wS hSw
        (try dsimp only at hSw)
        have x1 := bcell hSw x1
        go_simp
        first | done | with_reducible rfl
      try simp only [Act.put, List.getElem_toArray, List.getElem_cons_succ, List.getElem_cons_zero, List.setIfInBounds_toArray, List.set_cons_zero, List.set_cons_succ]
      refine wpAnyH_take (i := 9) (v := ?_) rfl (by kernel_rfl) (by kernel_rfl) (by kernel_rfl) (fun _ _ _ h => h) (Or.inl ⟨by rfl, ?_⟩) (by assumption) ?_
      rotate_left
      · intro wS hSw
        (try dsimp only at hSw)
        go_simp
        first | done | with_reducible rfl
      try simp only [Act.put, List.getElem_toArray, List.getElem_cons_succ, List.getElem_cons_zero, List.setIfInBounds_toArray, List.set_cons_zero, List.set_cons_succ]
      refine wpAnyH_ready (rs := [4]) (by kernel_rfl) (by simp) ?_
      refine AllReadyH.cons rfl (fun K hK => ?_) AllReadyH.nil
      go_simp
      refine (HP4.out _).mono ?_; rintro e w4 ⟨v4, rfl, ho4, hb4⟩
      refine hK.out _ _ ?_ (fun r1 => ?_)
      · exact bel r0 hb4
      refine wpAnyH_mono (S' := (fun W => Below wx.heap.size wx W ∧ Sees W v4 (putL px 4))) (fun _ h => h.1) _ _ _ _ ?_
      have r1x := And.intro r1 ho4.sees
      try simp only [Act.put, List.getElem_toArray, List.getElem_cons_succ, List.getElem_cons_zero, List.setIfInBounds_toArray, List.set_cons_zero, List.set_cons_succ]
      refine wpAnyH_take (i := 5) (v := ?_) rfl (by kernel_rfl) (by kernel_rfl) (by kernel_rfl) (fun _ _ _ h => h) (Or.inl ⟨by rfl, ?_⟩) (by assumption) ?_
      rotate_left
      · intro wS hSw
        (try dsimp only at hSw)
        have k1 := conv_sees hSw.2
        rw [← HA4.out] at k1
        go_simp
        first | done | with_reducible rfl
      try simp only [Act.put, List.getElem_toArray, List.getElem_cons_succ, List.getElem_cons_zero, List.setIfInBounds_toArray, List.set_cons_zero, List.set_cons_succ]
      refine wpAnyH_take (i := 6) (v := ?_) rfl (by kernel_rfl) (by kernel_rfl) (by kernel_rfl) (fun _ _ _ h => h) (Or.inl ⟨by rfl, ?_⟩) (by assumption) ?_
      rotate_left
      · intro wS hSw
        (try dsimp only at hSw)
        go_simp
        first | done | with_reducible rfl
      try simp only [Act.put, List.getElem_toArray, List.getElem_cons_succ, List.getElem_cons_zero, List.setIfInBounds_toArray, List.set_cons_zero, List.set_cons_succ]
      refine wpAnyH_ready (rs := [10]) (by kernel_rfl) (by simp) ?_
      refine AllReadyH.cons rfl (fun K hK => ?_) AllReadyH.nil
      go_simp
      refine (HP2.out _).mono ?_; rintro e w5 ⟨v5, rfl, ho5, hb5⟩
      refine hK.out _ _ ?_ (fun r2 => ?_)
      · exact ⟨bel r1x.1 hb5, r1x.2.keep hb5⟩
      refine wpAnyH_mono (S' := (fun W => (Below wx.heap.size wx W ∧ Sees W v4 (putL px 4)) ∧ Sees W v5 (putL pn 2))) (fun _ h => h.1) _ _ _ _ ?_
      have r2x := And.intro r2 ho5.sees
      try simp only [Act.put, List.getElem_toArray, List.getElem_cons_succ, List.getElem_cons_zero, List.setIfInBounds_toArray, List.set_cons_zero, List.set_cons_succ]
      refine wpAnyH_take (i := 11) (v := ?_) rfl (by kernel_rfl) (by kernel_rfl) (by kernel_rfl) (fun _ _ _ h => h) (Or.inl ⟨by rfl, ?_⟩) (by assumption) ?_
      rotate_left
      · intro wS hSw
        (try dsimp only at hSw)
        have k1 := conv_sees hSw.2
        rw [← HA2.out] at k1
        go_simp
        first | done | with_reducible rfl
      try simp only [Act.put, List.getElem_toArray, List.getElem_cons_succ, List.getElem_cons_zero, List.setIfInBounds_toArray, List.set_cons_zero, List.set_cons_succ]
      refine wpAnyH_take (i := 12) (v := ?_) rfl (by kernel_rfl) (by kernel_rfl) (by kernel_rfl) (fun _ _ _ h => h) (Or.inl ⟨by rfl, ?_⟩) (by assumption) ?_
      rotate_left
      · intro wS hSw
        (try dsimp only at hSw)
        go_simp
        first | done | with_reducible rfl
      try simp only [Act.put, List.getElem_toArray, List.getElem_cons_succ, List.getElem_cons_zero, List.setIfInBounds_toArray, List.set_cons_zero, List.set_cons_succ]
      refine wpAnyH_take (i := 13) (v := ?_) rfl (by kernel_rfl) (by kernel_rfl) (by kernel_rfl) (fun _ _ _ h => h) (Or.inl ⟨by rfl, ?_⟩) (by assumption) ?_
      rotate_left
      · intro wS hSw
        (try dsimp only at hSw)
        go_simp
        first | done | with_reducible rfl
      try simp only [Act.put, List.getElem_toArray, List.getElem_cons_succ, List.getElem_cons_zero, List.setIfInBounds_toArray, List.set_cons_zero, List.set_cons_succ]
      refine wpAnyH_done (by kernel_rfl) ?_ _
      have HB6 := Lib.hid (bel HBX.out r2x.1.1)
      clear x0 x1
      go_wp2_with fail
      go_roundw
      case rel => exact ⟨i + 1, _, HLT.out, by go_num, rfl, HN, HB6⟩
      case measure => simp [intOf]; have := HLT.out; omega
    · obtain rfl : i = L.length := by omega
      have d1 : decide ((L.length : Int) < (L.length : Int)) = false := by simp
      have HV : Hid (sb = strOfNums (hnB L)) := Lib.hid (by rw [HE.out, List.take_length]; rfl)
      go_wp2_with fail
      go_ret
      exact ⟨by rw [← HV.out]; rfl, HBw.out⟩
end Go.Proofs.Ytcgkambkfaeceaa
