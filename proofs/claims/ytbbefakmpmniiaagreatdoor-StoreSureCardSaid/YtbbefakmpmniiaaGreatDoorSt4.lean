/- Package store: replay: a log's records, one after the other. -/
import Derived.Test.YtbbefakmpmniiaaGreatDoorSt3
namespace Go.Proofs.YtbbefakmpmniiaaGreatDoor
open Go.RowKit Go.Maps
open KV (bcell bdrew)
set_option maxRecDepth 100000 in
set_option maxHeartbeats 4000000 in
theorem sreplay_any (k B : Nat) (P : Nat → Prop) (S : KV.KSt) (v : Value) (ls : List (List Int)) (w : World) (h : KV.KvAt w k P S) (hrow : RowN w B v ls) (hP : ∀ i, P i → i < B) (hB : B ≤ w.heap.size)
    (hok : ∀ p ∈ ls, okB p ∧ p.length ≤ 100000000000000) (hrv : 0 ≤ S.rev ∧ S.rev ≤ 9223372036854775807) (hn : S.L.length + ls.length ≤ 1000000) :
    Calls Tryz.prog 35 #[ptr k, v] w fun e w' => ∃ P', e = .returned (.int .i64 (replayS S ls).1) ∧ ((replayS S ls).1 = 0 → KV.KvAt w' k P' (replayS S ls).2) ∧ (∀ i, P' i → P i ∨ w.heap.size ≤ i) ∧ KV.Touch P w w' := by
  obtain ⟨ao, c, ev, hlc, _⟩ := RowZ.sees hrow
  have HRD := Lib.hid (fun (b : Value) (xs : List Int) (w : World) => read10_dec b xs w)
  have HROW := Lib.hid hrow
  have HPB := Lib.hid hP
  have HOK := Lib.hid hok
  have HN := Lib.hid hn
  have hll : ls.length ≤ 1000000 := by omega
  generalize hrs : replayS S ls = rs at *
  have HRS := Lib.hid hrs
  clear hrow hP hok hn hrs
  subst ev
  go_enter Tryz.func35, Tryz.ntmps35
  go_wp2_with fail
  go_loopw [11] (fun j wr => ∃ (i : Nat) (Pc : Nat → Prop) (Sc : KV.KSt), i ≤ ls.length ∧ j = .int .i64 i ∧ Hid (KV.KvAt wr k Pc Sc ∧ (∀ i, Pc i → P i ∨ w.heap.size ≤ i) ∧ KV.Touch P w wr ∧ replayS Sc (ls.drop i) = rs ∧ Sc.L.length ≤ S.L.length + i ∧ 0 ≤ Sc.rev ∧ Sc.rev ≤ 9223372036854775807)) (fun j _ => ls.length - (intOf j).toNat)
  case atStart => exact ⟨0, P, S, by omega, rfl, Lib.hid ⟨h, fun i hi => Or.inl hi, KV.Touch.refl P w, by rw [List.drop_zero]; exact HRS.out, by omega, hrv.1, hrv.2⟩⟩
  case round =>
    obtain ⟨i, Pc, Sc, hi, rfl, HJ⟩ := hrel
    by_cases hlt : i < ls.length
    · have hrow' : RowN wr B (.slice ao ls.length c) ls := HROW.out.stay HJ.out.2.2.1.2.2.2.1 (fun d hd hlt => HJ.out.2.2.1.2.2.2.2 d hlt (fun hp => by have := HPB.out d hp; omega))
      obtain ⟨a, u, rfl, hcell, hsee⟩ := row_at hrow' rfl hlt
      have hmem : ls.getD i [] ∈ ls := by
        rw [List.getD, List.getElem?_eq_getElem hlt]
        exact List.getElem_mem hlt
      obtain ⟨ho1, ho2⟩ := HOK.out _ hmem
      have HD := HJ.out.2.2.2.1
      rw [drop_cons hlt []] at HD
      generalize ls.getD i [] = b at *
      have HB := Lib.hid (HRD.out u b wr hsee ho1 ho2)
      clear hmem ho1 ho2 hrow' hsee
      cases hd : decE b with
      | none =>
        rw [hd] at HB
        have HE := Lib.hid HD
        have hr1 : rs.1 = 3 := by rw [← HE.out, replayS, hd]
        have HR1 := Lib.hid hr1
        clear hd HD hr1
        go_wp2_with fail
        refine HB.out.mono ?_; rintro e w1 ⟨rfl, hb1⟩
        unfold decV
        go_wp2_with fail
        go_ret
        exact ⟨Pc, by rw [HR1.out]; rfl, fun h => absurd (HR1.out.symm.trans h) (by decide), HJ.out.2.1, HJ.out.2.2.1.trans (KV.Touch.of_below (fun _ => False) (belAlloc hb1 _)) (fun _ _ h => h.elim)⟩
      | some e =>
        rw [hd] at HB
        obtain ⟨r1, r2, _⟩ := decE_some hd
        obtain ⟨_, hks, _⟩ := KV.rightB_ok r1
        have HRV := Lib.hid (fun (w : World) (hb : Below wr.heap.size wr w) => KV.rev_any k Pc Sc w (HJ.out.1.below hb))
        have HAP := Lib.hid (fun (w : World) (hb : Below wr.heap.size wr w) => KV.apply_any k Pc Sc e w (HJ.out.1.below hb) (by unfold maxLen; omega) HJ.out.2.2.2.2.2 (by have := HJ.out.2.2.2.2.1; have := HN.out; omega))
        have HE := Lib.hid HD
        have HDD := Lib.hid hd
        have HLT := Lib.hid hlt
        clear hd HD r1 hks
        go_wp2_with fail
        refine HB.out.mono ?_; rintro e w1 ⟨rfl, hb1⟩
        unfold decV
        go_upto_region 7 with fail
        change Code.wp _ _ _ _ (w1.alloc (KV.effO e))
        obtain ⟨W2, hW2⟩ : ∃ W2, W2 = w1.alloc (KV.effO e) := ⟨_, rfl⟩
        have hT : W2.heap[w1.heap.size]? = some (KV.effO e) := by rw [hW2]; exact heap_alloc_new w1 _
        have hb2 : Below wr.heap.size wr W2 := by rw [hW2]; exact belAlloc hb1 _
        rw [← hW2]
        obtain ⟨t0, t1, t2, t3, -⟩ := KV.four hT
        have HB2 := Lib.hid hb2
        clear hT hW2 hb1 hb2
        by_cases hle : e.rev ≤ Sc.rev
        · have dle : decide (e.rev ≤ Sc.rev) = true := decide_eq_true hle
          have HLE := Lib.hid hle
          clear hle
          refine wp_region_held_drew (S := (fun W => Below W2.heap.size W2 W)) (by kernel_rfl) ?_ (fun hS0 => ?_)
          · exact ⟨rfl, rfl, rfl, Nat.le_refl _, fun _ _ => rfl⟩
          refine wpAnyH_take (i := 0) (v := ?_) rfl (by kernel_rfl) (by kernel_rfl) (by kernel_rfl) (fun _ _ _ h => h) (Or.inl ⟨by rfl, ?_⟩) (by assumption) ?_
          rotate_left
          · intro wS hSw
            (try dsimp only at hSw)
            go_simp
            first | done | with_reducible rfl
          try simp only [Act.put, List.getElem_toArray, List.getElem_cons_succ, List.getElem_cons_zero, List.setIfInBounds_toArray, List.set_cons_zero, List.set_cons_succ]
          refine wpAnyH_take (i := 1) (v := ?_) rfl (by kernel_rfl) (by kernel_rfl) (by kernel_rfl) (fun _ _ _ h => h) (Or.inl ⟨by rfl, ?_⟩) (by assumption) ?_
          rotate_left
          · intro wS hSw
            (try dsimp only at hSw)
            have t2 := bcell hSw t2
            go_simp
            first | done | with_reducible rfl
          try simp only [Act.put, List.getElem_toArray, List.getElem_cons_succ, List.getElem_cons_zero, List.setIfInBounds_toArray, List.set_cons_zero, List.set_cons_succ]
          refine wpAnyH_take (i := 2) (v := ?_) rfl (by kernel_rfl) (by kernel_rfl) (by kernel_rfl) (fun _ _ _ h => h) (Or.inl ⟨by rfl, ?_⟩) (by assumption) ?_
          rotate_left
          · intro wS hSw
            (try dsimp only at hSw)
            go_simp
            first | done | with_reducible rfl
          try simp only [Act.put, List.getElem_toArray, List.getElem_cons_succ, List.getElem_cons_zero, List.setIfInBounds_toArray, List.set_cons_zero, List.set_cons_succ]
          refine wpAnyH_ready (rs := [3]) (by kernel_rfl) (by simp) ?_
          refine AllReadyH.cons rfl (fun K hK => ?_) AllReadyH.nil
          go_simp
          refine (HRV.out _ (HB2.out.trans (hS0.mono HB2.out.size))).mono ?_; rintro e w5 ⟨rfl, rfl⟩
          refine hK.out _ _ ?_ (fun hS1 => ?_)
          · exact bel hS0 (Below.refl _ _)
          try simp only [Act.put, List.getElem_toArray, List.getElem_cons_succ, List.getElem_cons_zero, List.setIfInBounds_toArray, List.set_cons_zero, List.set_cons_succ]
          refine wpAnyH_take (i := 4) (v := ?_) rfl (by kernel_rfl) (by kernel_rfl) (by kernel_rfl) (fun _ _ _ h => h) (Or.inl ⟨by rfl, ?_⟩) (by assumption) ?_
          rotate_left
          · intro wS hSw
            (try dsimp only at hSw)
            go_simp
            first | done | with_reducible rfl
          try simp only [Act.put, List.getElem_toArray, List.getElem_cons_succ, List.getElem_cons_zero, List.setIfInBounds_toArray, List.set_cons_zero, List.set_cons_succ]
          refine wpAnyH_done (by kernel_rfl) ?_ _
          have hbw := HB2.out.trans (hS1.mono HB2.out.size)
          have hq : replayS Sc (ls.drop (i + 1)) = rs := by
            have h := HE.out
            rw [replayS, HDD.out] at h
            simpa only [if_pos HLE.out] using h
          have HF := Lib.hid (And.intro hbw hq)
          clear hbw hq hS1 t0 t1 t2 t3
          go_wp2_with fail
          go_roundw
          case rel => exact ⟨i + 1, Pc, Sc, HLT.out, by go_num, Lib.hid ⟨HJ.out.1.below HF.out.1, HJ.out.2.1, HJ.out.2.2.1.trans (KV.Touch.of_below (fun _ => False) HF.out.1) (fun _ _ h => h.elim), HF.out.2, by have := HJ.out.2.2.2.2.1; omega, HJ.out.2.2.2.2.2⟩⟩
          case measure => simp [intOf]; have := HLT.out; omega
        · have dle : decide (e.rev ≤ Sc.rev) = false := decide_eq_false hle
          have HLE := Lib.hid hle
          clear hle
          refine wp_region_held_drew (S := (fun W => Below W2.heap.size W2 W)) (by kernel_rfl) ?_ (fun hS0 => ?_)
          · exact ⟨rfl, rfl, rfl, Nat.le_refl _, fun _ _ => rfl⟩
          refine wpAnyH_take (i := 0) (v := ?_) rfl (by kernel_rfl) (by kernel_rfl) (by kernel_rfl) (fun _ _ _ h => h) (Or.inl ⟨by rfl, ?_⟩) (by assumption) ?_
          rotate_left
          · intro wS hSw
            (try dsimp only at hSw)
            go_simp
            first | done | with_reducible rfl
          try simp only [Act.put, List.getElem_toArray, List.getElem_cons_succ, List.getElem_cons_zero, List.setIfInBounds_toArray, List.set_cons_zero, List.set_cons_succ]
          refine wpAnyH_take (i := 1) (v := ?_) rfl (by kernel_rfl) (by kernel_rfl) (by kernel_rfl) (fun _ _ _ h => h) (Or.inl ⟨by rfl, ?_⟩) (by assumption) ?_
          rotate_left
          · intro wS hSw
            (try dsimp only at hSw)
            have t2 := bcell hSw t2
            go_simp
            first | done | with_reducible rfl
          try simp only [Act.put, List.getElem_toArray, List.getElem_cons_succ, List.getElem_cons_zero, List.setIfInBounds_toArray, List.set_cons_zero, List.set_cons_succ]
          refine wpAnyH_take (i := 2) (v := ?_) rfl (by kernel_rfl) (by kernel_rfl) (by kernel_rfl) (fun _ _ _ h => h) (Or.inl ⟨by rfl, ?_⟩) (by assumption) ?_
          rotate_left
          · intro wS hSw
            (try dsimp only at hSw)
            go_simp
            first | done | with_reducible rfl
          try simp only [Act.put, List.getElem_toArray, List.getElem_cons_succ, List.getElem_cons_zero, List.setIfInBounds_toArray, List.set_cons_zero, List.set_cons_succ]
          refine wpAnyH_ready (rs := [3]) (by kernel_rfl) (by simp) ?_
          refine AllReadyH.cons rfl (fun K hK => ?_) AllReadyH.nil
          go_simp
          refine (HRV.out _ (HB2.out.trans (hS0.mono HB2.out.size))).mono ?_; rintro e w5 ⟨rfl, rfl⟩
          refine hK.out _ _ ?_ (fun hS1 => ?_)
          · exact bel hS0 (Below.refl _ _)
          try simp only [Act.put, List.getElem_toArray, List.getElem_cons_succ, List.getElem_cons_zero, List.setIfInBounds_toArray, List.set_cons_zero, List.set_cons_succ]
          refine wpAnyH_take (i := 4) (v := ?_) rfl (by kernel_rfl) (by kernel_rfl) (by kernel_rfl) (fun _ _ _ h => h) (Or.inl ⟨by rfl, ?_⟩) (by assumption) ?_
          rotate_left
          · intro wS hSw
            (try dsimp only at hSw)
            go_simp
            first | done | with_reducible rfl
          try simp only [Act.put, List.getElem_toArray, List.getElem_cons_succ, List.getElem_cons_zero, List.setIfInBounds_toArray, List.set_cons_zero, List.set_cons_succ]
          refine wpAnyH_done (by kernel_rfl) ?_ _
          have t0 := bcell hS1 t0
          have t1 := bcell hS1 t1
          have t2 := bcell hS1 t2
          have t3 := bcell hS1 t3
          have HBW := Lib.hid (HB2.out.trans (hS1.mono HB2.out.size))
          clear hS1
          cases hm : KV.mayA Sc e with
          | false =>
            have HA := Lib.hid (HAP.out _ HBW.out)
            rw [hm] at HA
            simp only [Bool.false_eq_true, if_false] at HA
            have hr1 : rs.1 = 3 := by
              rw [← HE.out, replayS, HDD.out]
              simp only [if_neg HLE.out, hm, Bool.false_eq_true, if_false]
            have HR1 := Lib.hid hr1
            clear hm hr1
            go_wp2_with fail
            refine HA.out.mono ?_; rintro e w6 ⟨rfl, P6, _, hp6, ht6⟩
            have HF := Lib.hid (And.intro hp6 ht6)
            clear hp6 ht6
            go_wp2_with fail
            go_ret
            exact ⟨Pc, by rw [HR1.out]; rfl, fun h => absurd (HR1.out.symm.trans h) (by decide), HJ.out.2.1, (HJ.out.2.2.1.trans (KV.Touch.of_below (fun _ => False) HBW.out) (fun _ _ h => h.elim)).trans HF.out.2 (fun i hi hp => (HJ.out.2.1 i hp).elim id (fun h => absurd hi (by omega)))⟩
          | true =>
            have HA := Lib.hid (HAP.out _ HBW.out)
            rw [hm] at HA
            simp only [if_true] at HA
            have hq : replayS (KV.applyK Sc e) (ls.drop (i + 1)) = rs := by
              have h := HE.out
              rw [replayS, HDD.out] at h
              simpa only [if_neg HLE.out, hm, if_true] using h
            have HQ := Lib.hid (And.intro hq (applyK_len Sc e))
            have HRE := Lib.hid r2
            have HLE2 := Lib.hid (show 0 ≤ e.rev by have := HLE.out; have := HJ.out.2.2.2.2.2.1; omega)
            clear hm hq r2
            go_wp2_with fail
            refine HA.out.mono ?_; rintro _ w6 ⟨rfl, P6, hk6, hp6, ht6⟩
            have hbz := HBW.out.size
            have htw := HJ.out.2.2.1.2.2.2.1
            have HF := Lib.hid (And.intro hk6 (And.intro (show ∀ i, P6 i → P i ∨ w.heap.size ≤ i from fun i hi => (hp6 i hi).elim (HJ.out.2.1 i) (fun h => Or.inr (by omega)))
              ((HJ.out.2.2.1.trans (KV.Touch.of_below (fun _ => False) HBW.out) (fun _ _ h => h.elim)).trans ht6 (fun i hi hp => (HJ.out.2.1 i hp).elim id (fun h => absurd hi (by omega))))))
            clear hk6 hp6 ht6 hbz htw
            go_wp2_with fail
            go_roundw
            case rel => exact ⟨i + 1, P6, KV.applyK Sc e, HLT.out, by go_num, Lib.hid ⟨HF.out.1, HF.out.2.1, HF.out.2.2, HQ.out.1, by have := HJ.out.2.2.2.2.1; have := HQ.out.2; omega, HLE2.out, HRE.out⟩⟩
            case measure => simp [intOf]; have := HLT.out; omega
    · obtain rfl : i = ls.length := by omega
      have HD := HJ.out.2.2.2.1
      rw [List.drop_length, replayS] at HD
      have HD2 := Lib.hid HD
      clear HD
      go_wp2_with fail
      go_ret
      exact ⟨Pc, by rw [← HD2.out]; rfl, fun _ => by rw [← HD2.out]; exact HJ.out.1, HJ.out.2.1, HJ.out.2.2.1⟩
end Go.Proofs.YtbbefakmpmniiaaGreatDoor
