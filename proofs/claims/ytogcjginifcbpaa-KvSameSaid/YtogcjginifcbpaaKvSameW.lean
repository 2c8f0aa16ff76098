/- The walk of KvSame. Made by g_kvsamew.py. -/
import Derived.Test.YtogcjginifcbpaaKvLoop
import Derived.Test.YtogcjginifcbpaaKvEq
namespace Go.Proofs.Ytogcjginifcbpaa
open Go.RowKit Go.Maps
set_option maxRecDepth 100000 in
set_option maxHeartbeats 16000000 in
theorem lawKvSame (w : World) (v : Value) (os : List KOp) (v2 : Value) (os2 : List KOp) (h : ArgOps9 w v os) (h2 : ArgOps9 w v2 os2) : Calls Try.prog 6 #[v, v2] w fun e w' => e = .returned (.bool true) ∧ Below w.heap.size w w' := by
  obtain ⟨⟨ao, c, rfl, hlc, hnil, hc⟩, hok, hlm⟩ := h
  have HC := Lib.hid (And.intro hnil (And.intro hc hok))
  have hlm2 : os.length ≤ 9223372036854775807 := by unfold maxLen at hlm; omega
  clear hnil hc hok hlm
  obtain ⟨⟨ao2, c2, rfl, hlc2, hnil, hc⟩, hok, hlm⟩ := h2
  have HC2 := Lib.hid (And.intro hnil (And.intro hc hok))
  have hlm3 : os2.length ≤ 9223372036854775807 := by unfold maxLen at hlm; omega
  clear hnil hc hok hlm
  have NEXT : True := trivial
  go_enter Try.func6, Try.ntmps6
  go_upto_region 2 with (first
    | (go_at_call 15; clear NEXT; refine (new_step w w (Below.refl _ _)).mono ?_; rintro e w1 ⟨g, rfl, hk1, hb1⟩)
    | (go_at_call 15; refine (new_kv w1).mono ?_; rintro e w2 ⟨g2, rfl, hk2, hg2, hb2⟩)
    | go_in)
  go_upto_region 3 with fail
  obtain ⟨W2, hW2, hbW, hzW, hB1, hB2⟩ := two_new w2 (stO 0 (.slice none 0 0)) (stO 0 (.slice none 0 0))
  change Code.wp _ _ _ _ ((w2.alloc (stO 0 (.slice none 0 0))).alloc (stO 0 (.slice none 0 0)))
  rw [← hW2]
  have hg1 := hk1.1.lt
  have hg2l := hk2.lt
  have hz2 := hb2.size
  obtain ⟨B, hB⟩ : ∃ B, B = w2.heap.size := ⟨_, rfl⟩
  rw [← hB] at hB1 hB2 ⊢
  obtain ⟨B2, hBB⟩ : ∃ B2, B2 = B + 1 := ⟨_, rfl⟩
  rw [← hBB] at hB2 ⊢
  obtain ⟨F1, hF1⟩ : ∃ F1 : Nat → Prop, F1 = fun k => k = g2 ∨ k = B2 := ⟨_, rfl⟩
  have hwB : w.heap.size ≤ B := by rw [hB]; exact Nat.le_trans hk1.2.2.size hz2
  have HBw : Hid (w.heap.size ≤ B) := Lib.hid hwB
  have HBw2 : Hid (w.heap.size ≤ B2) := Lib.hid (by omega)
  have HST := Lib.hid (And.intro (hk1.below (bel hb2 hbW)) (And.intro (DocAt.start (P := (· = g)) (by show ¬ B = g; omega) hB1) (show FrameOk F1 W2 B (· = g) W2 from ⟨Nat.le_refl _, fun k hk => by
    rw [hF1] at hk
    have : g2 < W2.heap.size := by omega
    have := heap_lt hB2
    rcases hk with rfl | rfl
    · exact ⟨show ¬ k = g by omega, by omega, by omega, rfl⟩
    · exact ⟨show ¬ k = g by omega, by omega, by omega, rfl⟩⟩)))
  have HS2 := Lib.hid (And.intro (hk2.below hbW) (And.intro (DocAt.start (P := (· = g2)) (by show ¬ B2 = g2; omega) hB2) (And.intro (show w.heap.size ≤ g2 from Nat.le_trans hk1.2.2.size hg2) (And.intro (show g2 < B by omega) (show B < B2 by omega)))))
  have HF1 := Lib.hid hF1
  clear hW2 hbW hzW hB1 hB2 hg1 hg2l hz2 hB hBB hF1 hwB hk1 hk2 hg2 hb1 hb2
  go_wp2_with fail
  go_loopw [24] (fun j wra => ∃ (i : Nat) (S : KSt) (Pa : Nat → Prop) (vra : Value), i ≤ os.length ∧ j = .int .i64 i ∧ KvW w wra g Pa S ∧ DocAt wra B Pa S vra ∧ KInv S (min i 12) ∧ Aside (FrameOk F1 W2 B Pa wra ∧ ∀ d, vra.ownBlock = some d → ¬ F1 d) ∧ Aside (KGood S)) (fun j _ => os.length - (intOf j).toNat)
  case atStart => exact ⟨0, ⟨0, []⟩, _, _, Nat.zero_le _, rfl, HST.out.1, HST.out.2.1, KInv.zero, ⟨HST.out.2.2, fun d hd => by cases hd⟩, KGood.zero⟩
  case round =>
    obtain ⟨i, ⟨Ra, La⟩, Pa, vra, hi, rfl, hk, hd, hinv, hfr, hgd⟩ := hrel
    obtain ⟨wra, hwra⟩ : ∃ x, x = wr := ⟨_, rfl⟩
    subst hwra
    by_cases hlt : i < os.length
    · obtain ⟨a, rfl⟩ : ∃ a, ao = some a := by
        cases ao with
        | none => rw [HC.out.1 rfl] at hlt; simp at hlt
        | some a => exact ⟨a, rfl⟩
      have hop := HC.out.2.1 a rfl i hlt
      have hokx := HC.out.2.2 (os.getD i default) (by rw [List.getD_eq_getElem?_getD, List.getElem?_eq_getElem hlt]; exact List.getElem_mem hlt)
      generalize os.getD i default = o at hop hokx
      obtain ⟨q0, q1, q2, q3, q4, q5⟩ := hop
      have q0 := bcell hk.2.2 q0
      have q1 := off1 (bcell hk.2.2 q1)
      have q2 := off2 (bcell hk.2.2 q2)
      have q3 := off3 (bcell hk.2.2 q3)
      have q4 := off4 (bcell hk.2.2 q4)
      have q5 := off5 (bcell hk.2.2 q5)
      have b0 : (0 : Int) ≤ (i : Int) := by omega
      have b1 : (i : Int) < (os.length : Int) := by omega
      by_cases hN : i < 12
      · have d1 : decide ((i : Int) < 12) = true := by simp; omega
        have hin : KInv ⟨Ra, La⟩ i := by rwa [Nat.min_eq_left (by omega)] at hinv
        have HO := Lib.hid (ours_any o)
        have hxo := ours_ok hokx
        have hxv : (ours o).val.size ≤ 100 := cutB_le _ _
        clear hokx hinv
        generalize ours o = x at HO hxo hxv
        have hin2 := And.intro (doK_inv hin x) (doK_good hgd.out hin.2.1 x hxv)
        have HX := Lib.hid (And.intro hk (And.intro hd (And.intro hin (And.intro hxo hfr.out))))
        have HRD : Hid (∀ w', SeesI w' vra La → Calls Try.prog 20 #[stV Ra vra, opV x] w' fun e w'' => ∃ vs vi, e = .returned (.tuple #[stV (doK ⟨Ra, La⟩ x).2.rev vs, kres (doK ⟨Ra, La⟩ x).1 vi]) ∧ SeesI w'' vs (doK ⟨Ra, La⟩ x).2.L ∧ (∀ d, vs.ownBlock = some d → vra.ownBlock = some d ∨ w'.heap.size ≤ d ∧ d < w''.heap.size) ∧ RowR w'' w'.heap.size vi (doK ⟨Ra, La⟩ x).1.its ∧ Below w'.heap.size w' w'') := Lib.hid (fun w' h => refDo_any vra La Ra x w' h hin.1 (by have := hin.2.2.2.1; simp only [] at this; omega) hxo (by have := hin.2.1; have := hin.2.2.1; simp only [] at *; omega))
        have HSD : Hid (∀ w', KvW w w' g Pa ⟨Ra, La⟩ → Calls Try.prog 21 #[ptr g, opV x] w' fun e w'' => ∃ v Pa', e = .returned v ∧ KvW w w'' g Pa' (doK ⟨Ra, La⟩ x).2 ∧ (∀ k, k < w'.heap.size → ¬ Pa k → w''.heap[k]? = w'.heap[k]?) ∧ w'.heap.size ≤ w''.heap.size ∧ (∀ i, Pa' i → Pa i ∨ w'.heap.size ≤ i)) := Lib.hid (fun w' h => (do_step x h hxo.1 hxo.2.2 hin.1 (by have := hin.2.2.2.1; simp only [] at this ⊢; omega) (by have := hin.2.1; have := hin.2.2.1; simp only [] at *; omega)).mono (by
          rintro e w'' ⟨ao, c, Pa', h1, h2, h3, _, h5, h6, h7⟩
          exact ⟨_, Pa', h1, h3, h5, h6, h7⟩))
        generalize doK ⟨Ra, La⟩ x = dk at HRD HSD hin2
        obtain ⟨⟨dc, dr, dv, di⟩, ⟨R2, L2⟩⟩ := dk
        simp only [] at HRD HSD hin2
        have HIN := Lib.hid hin2
        have HLT := Lib.hid hlt
        clear hk hd hin hxo hxv hin2 hfr hgd
        go_upto_region 8 with (first
          | (go_at_call 16; refine (HO.out _).mono ?_; rintro e w2 ⟨rfl, hb2⟩)
          | go_in)
        obtain ⟨W6, hW6, hb6, hz6, h7, h8⟩ := two_new w2 (opO x) (opR x)
        change Code.wp _ _ _ _ ((w2.alloc (opO x)).alloc (opR x))
        rw [← hW6]
        obtain ⟨b7, hb7⟩ : ∃ b7, b7 = w2.heap.size := ⟨_, rfl⟩
        rw [← hb7] at h7 h8 ⊢
        have hb26 : Below wra.heap.size wra W6 := bel (bel (belNew wra (opR o)) hb2) hb6
        have hw2 : wra.heap.size ≤ b7 := by rw [hb7]; exact (bel (belNew wra (opR o)) hb2).size
        have HA := Lib.hid (And.intro (HX.out.1.below hb26) (And.intro (HX.out.2.1.below hb26) (And.intro h8 (And.intro (HX.out.2.2.2.2.1.below hb26) (show ∀ i, Pa i → i < b7 from fun i hi => Nat.lt_of_lt_of_le (HX.out.1.1.own i hi) hw2)))))
        obtain ⟨k0, k1, k2, k3, k4, k5⟩ := opcells h7
        clear hW6 hb6 hz6 h7 h8 hb7 hb26 hb2 hw2 q0 q1 q2 q3 q4 q5 HO
        go_upto_region 9 with (first
          | (go_at_call 21; refine (HSD.out W6 HA.out.1).mono ?_; rintro e w7 ⟨v7, P7, rfl, hk7, hkeep7, hz7, hP7⟩)
          | go_in)
        have hx7 : w7.heap[b7 + 1]? = some (opR x) := (hkeep7 _ (heap_lt HA.out.2.2.1) (fun hp => by have := HA.out.2.2.2.2 _ hp; omega)).trans HA.out.2.2.1
        have HB7 := Lib.hid (And.intro hk7 (And.intro (HA.out.2.1.step hkeep7 hz7 hP7) (And.intro hkeep7 (And.intro hz7 hP7))))
        obtain ⟨k0, k1, k2, k3, k4, k5⟩ := opcells hx7
        have s0 := cell0 HB7.out.2.1.2.1
        have s1 := cell1 HB7.out.2.1.2.1
        clear hk7 hkeep7 hz7 hP7 hx7
        go_upto_region 10 with (first
          | (go_at_call 20; refine (HRD.out w7 HB7.out.2.1.2.2.1).mono ?_; rintro e w8 ⟨vs, vi, rfl, hs8, hown8, hrow8, hb8⟩; obtain ⟨ao8, c8, hve, -⟩ := id hs8; subst hve; have hB8 := (hb8.block _ (heap_lt HB7.out.2.1.2.1)).trans HB7.out.2.1.2.1; have t0 := cell0 hB8; have t1 := cell1 hB8; have f0 := froz hB8 0; have f1 := froz hB8 1)
          | go_in)
        change Code.wp _ _ _ _ (put2 w8 B (.int .i64 R2) (.slice ao8 L2.length c8))
        have hk9 := (HB7.out.1.below hb8).put2 HB7.out.2.1.1 HBw.out (.int .i64 R2) (.slice ao8 L2.length c8)
        have hd9 : DocAt (put2 w8 B (.int .i64 R2) (.slice ao8 L2.length c8)) B P7 ⟨R2, L2⟩ (.slice ao8 L2.length c8) := DocAt.put (S' := ⟨R2, L2⟩) HB7.out.2.1 hb8 hs8 hown8 (fun i hi => HB7.out.1.1.own i hi)
        have hf9 := HA.out.2.2.2.1.step HB7.out.2.2.1 HB7.out.2.2.2.1 HB7.out.2.2.2.2 hb8 (.int .i64 R2) (.slice ao8 L2.length c8)
        have ho9 : ∀ d, (Value.slice ao8 L2.length c8).ownBlock = some d → ¬ F1 d := fun d hd hF => (hown8 d hd).elim (fun h1 => HX.out.2.2.2.2.2 d h1 hF) (fun h2 => by
          have h3 := (HA.out.2.2.2.1.2 d hF).2.1
          have h4 := HA.out.2.2.2.1.1
          have h5 := HB7.out.2.2.2.1
          omega)
        have HZ := Lib.hid (And.intro hk9 (And.intro hd9 (And.intro hf9 ho9)))
        generalize put2 w8 B (.int .i64 R2) (.slice ao8 L2.length c8) = w9 at HZ ⊢
        clear hk9 hd9 hf9 ho9 hB8 t0 t1 f0 f1 s0 s1 k0 k1 k2 k3 k4 k5 hb8 hrow8 hown8 hs8
        go_wp2_with fail
        go_roundw
        case rel => exact ⟨i + 1, ⟨R2, L2⟩, P7, _, by have := HLT.out; omega, by go_num, HZ.out.1, HZ.out.2.1, by rw [Nat.min_eq_left (by omega)]; exact HIN.out.1, HZ.out.2.2, HIN.out.2⟩
        case measure => have := HLT.out; simp [intOf]; omega
      · have d1 : decide ((i : Int) < 12) = false := by simp; omega
        have HLT := Lib.hid hlt
        have HX := Lib.hid (And.intro hk (And.intro hd (And.intro hinv (And.intro hfr.out hgd.out))))
        clear hk hd hinv hokx hfr hgd
        go_wp2_with fail
        go_roundw
        case rel => exact ⟨i + 1, ⟨Ra, La⟩, Pa, vra, HLT.out, by go_num, HX.out.1.below (belNew _ _), HX.out.2.1.below (belNew _ _), by rw [Nat.min_eq_right (by omega)]; have := HX.out.2.2.1; rwa [Nat.min_eq_right (by omega)] at this, ⟨HX.out.2.2.2.1.1.below (belNew _ _), HX.out.2.2.2.1.2⟩, HX.out.2.2.2.2⟩
        case measure => have := HLT.out; simp [intOf]; omega
    · obtain rfl : i = os.length := by omega
      have hin : KInv ⟨Ra, La⟩ 12 := by
        obtain ⟨i1, i2, i3, i4, i5⟩ := hinv
        exact ⟨i1, i2, by omega, by omega, i5⟩
      have hfr := hfr.out
      have hgd := hgd.out
      clear hinv
      have hFo := HF1.out
      have hf2 : F1 g2 := by rw [hFo]; exact Or.inl rfl
      have hfB : F1 B2 := by rw [hFo]; exact Or.inr rfl
      obtain ⟨F2, hF2⟩ : ∃ F2 : Nat → Prop, F2 = fun k => Pa k ∨ k = B ∨ vra.ownBlock = some k := ⟨_, rfl⟩
      have hkg2 : KvAt wra g2 (· = g2) ⟨0, []⟩ := HS2.out.1.same (fun i hi => by cases hi; exact (hfr.1.2 g2 hf2).2.2.2) hfr.1.1
      have hdB2 : DocAt wra B2 (· = g2) ⟨0, []⟩ (.slice none 0 0) := HS2.out.2.1.same (hfr.1.2 B2 hfB).2.2.2 (fun d hd => by cases hd) hfr.1.1
      have hfr2 : FrameOk F2 wra B2 (· = g2) wra := ⟨Nat.le_refl _, fun k hk2 => by
        rw [hF2] at hk2
        have h2 := HS2.out.2.2.2
        rcases hk2 with h1 | rfl | h1
        · exact ⟨fun e => (hfr.1.2 g2 hf2).1 (e ▸ h1), hk.1.own k h1, fun e => (hfr.1.2 B2 hfB).1 (e ▸ h1), rfl⟩
        · exact ⟨show ¬ k = g2 by omega, heap_lt hd.2.1, by omega, rfl⟩
        · exact ⟨fun e => hfr.2 k h1 (by rw [show k = g2 from e]; exact hf2), (hd.2.2.2 k h1).2.2, fun e => hfr.2 k h1 (by rw [e]; exact hfB), rfl⟩⟩
      have HS1 : Hid (∀ w', wra.heap.size ≤ w'.heap.size → (∀ k, F2 k → w'.heap[k]? = wra.heap[k]?) → KvAt w' g Pa ⟨Ra, La⟩ ∧ DocAt w' B Pa ⟨Ra, La⟩ vra) := Lib.hid (fun w' hz hf => by
        rw [hF2] at hf
        exact ⟨hk.1.same (fun i hi => hf i (Or.inl hi)) hz, hd.same (hf B (Or.inr (Or.inl rfl))) (fun d hd' => hf d (Or.inr (Or.inr hd'))) hz⟩)
      have HIa := Lib.hid (And.intro hin hgd)
      have HST2 := Lib.hid (And.intro (show KvW w wra g2 (· = g2) ⟨0, []⟩ from ⟨hkg2, fun i hi => by cases hi; exact HS2.out.2.2.1, hk.2.2⟩) (And.intro hdB2 (And.intro hfr2 (show ∀ d, (Value.slice none 0 0).ownBlock = some d → ¬ F2 d from fun d hd => by cases hd))))
      clear hk hd hin hfr hgd hFo hf2 hfB hF2 hkg2 hdB2 hfr2
      go_wp2_with fail
      go_loopw [48] (fun j wrb => ∃ (i : Nat) (S : KSt) (Pb : Nat → Prop) (vrb : Value), i ≤ os2.length ∧ j = .int .i64 i ∧ KvW w wrb g2 Pb S ∧ DocAt wrb B2 Pb S vrb ∧ KInv S (min i 12) ∧ Aside (FrameOk F2 wra B2 Pb wrb ∧ ∀ d, vrb.ownBlock = some d → ¬ F2 d) ∧ Aside (KGood S)) (fun j _ => os2.length - (intOf j).toNat)
      case atStart => exact ⟨0, ⟨0, []⟩, _, _, Nat.zero_le _, rfl, HST2.out.1, HST2.out.2.1, KInv.zero, ⟨HST2.out.2.2.1, HST2.out.2.2.2⟩, KGood.zero⟩
      case round =>
        obtain ⟨i, ⟨Rb, Lb⟩, Pb, vrb, hi, rfl, hk, hd, hinv, hfr, hgd⟩ := hrel
        obtain ⟨wrb, hwrb⟩ : ∃ x, x = wr := ⟨_, rfl⟩
        subst hwrb
        by_cases hlt : i < os2.length
        · obtain ⟨a, rfl⟩ : ∃ a, ao2 = some a := by
            cases ao2 with
            | none => rw [HC2.out.1 rfl] at hlt; simp at hlt
            | some a => exact ⟨a, rfl⟩
          have hop := HC2.out.2.1 a rfl i hlt
          have hokx := HC2.out.2.2 (os2.getD i default) (by rw [List.getD_eq_getElem?_getD, List.getElem?_eq_getElem hlt]; exact List.getElem_mem hlt)
          generalize os2.getD i default = o at hop hokx
          obtain ⟨q0, q1, q2, q3, q4, q5⟩ := hop
          have q0 := bcell hk.2.2 q0
          have q1 := off1 (bcell hk.2.2 q1)
          have q2 := off2 (bcell hk.2.2 q2)
          have q3 := off3 (bcell hk.2.2 q3)
          have q4 := off4 (bcell hk.2.2 q4)
          have q5 := off5 (bcell hk.2.2 q5)
          have b0 : (0 : Int) ≤ (i : Int) := by omega
          have b1 : (i : Int) < (os2.length : Int) := by omega
          by_cases hN : i < 12
          · have d1 : decide ((i : Int) < 12) = true := by simp; omega
            have hin : KInv ⟨Rb, Lb⟩ i := by rwa [Nat.min_eq_left (by omega)] at hinv
            have HO := Lib.hid (ours_any o)
            have hxo := ours_ok hokx
            have hxv : (ours o).val.size ≤ 100 := cutB_le _ _
            clear hokx hinv
            generalize ours o = x at HO hxo hxv
            have hin2 := And.intro (doK_inv hin x) (doK_good hgd.out hin.2.1 x hxv)
            have HX := Lib.hid (And.intro hk (And.intro hd (And.intro hin (And.intro hxo hfr.out))))
            have HRD : Hid (∀ w', SeesI w' vrb Lb → Calls Try.prog 20 #[stV Rb vrb, opV x] w' fun e w'' => ∃ vs vi, e = .returned (.tuple #[stV (doK ⟨Rb, Lb⟩ x).2.rev vs, kres (doK ⟨Rb, Lb⟩ x).1 vi]) ∧ SeesI w'' vs (doK ⟨Rb, Lb⟩ x).2.L ∧ (∀ d, vs.ownBlock = some d → vrb.ownBlock = some d ∨ w'.heap.size ≤ d ∧ d < w''.heap.size) ∧ RowR w'' w'.heap.size vi (doK ⟨Rb, Lb⟩ x).1.its ∧ Below w'.heap.size w' w'') := Lib.hid (fun w' h => refDo_any vrb Lb Rb x w' h hin.1 (by have := hin.2.2.2.1; simp only [] at this; omega) hxo (by have := hin.2.1; have := hin.2.2.1; simp only [] at *; omega))
            have HSD : Hid (∀ w', KvW w w' g2 Pb ⟨Rb, Lb⟩ → Calls Try.prog 21 #[ptr g2, opV x] w' fun e w'' => ∃ v Pb', e = .returned v ∧ KvW w w'' g2 Pb' (doK ⟨Rb, Lb⟩ x).2 ∧ (∀ k, k < w'.heap.size → ¬ Pb k → w''.heap[k]? = w'.heap[k]?) ∧ w'.heap.size ≤ w''.heap.size ∧ (∀ i, Pb' i → Pb i ∨ w'.heap.size ≤ i)) := Lib.hid (fun w' h => (do_step x h hxo.1 hxo.2.2 hin.1 (by have := hin.2.2.2.1; simp only [] at this ⊢; omega) (by have := hin.2.1; have := hin.2.2.1; simp only [] at *; omega)).mono (by
              rintro e w'' ⟨ao, c, Pb', h1, h2, h3, _, h5, h6, h7⟩
              exact ⟨_, Pb', h1, h3, h5, h6, h7⟩))
            generalize doK ⟨Rb, Lb⟩ x = dk at HRD HSD hin2
            obtain ⟨⟨dc, dr, dv, di⟩, ⟨R2, L2⟩⟩ := dk
            simp only [] at HRD HSD hin2
            have HIN := Lib.hid hin2
            have HLT := Lib.hid hlt
            clear hk hd hin hxo hxv hin2 hfr hgd
            go_upto_region 16 with (first
              | (go_at_call 16; refine (HO.out _).mono ?_; rintro e w2 ⟨rfl, hb2⟩)
              | go_in)
            obtain ⟨W6, hW6, hb6, hz6, h7, h8⟩ := two_new w2 (opO x) (opR x)
            change Code.wp _ _ _ _ ((w2.alloc (opO x)).alloc (opR x))
            rw [← hW6]
            obtain ⟨b7, hb7⟩ : ∃ b7, b7 = w2.heap.size := ⟨_, rfl⟩
            rw [← hb7] at h7 h8 ⊢
            have hb26 : Below wrb.heap.size wrb W6 := bel (bel (belNew wrb (opR o)) hb2) hb6
            have hw2 : wrb.heap.size ≤ b7 := by rw [hb7]; exact (bel (belNew wrb (opR o)) hb2).size
            have HA := Lib.hid (And.intro (HX.out.1.below hb26) (And.intro (HX.out.2.1.below hb26) (And.intro h8 (And.intro (HX.out.2.2.2.2.1.below hb26) (show ∀ i, Pb i → i < b7 from fun i hi => Nat.lt_of_lt_of_le (HX.out.1.1.own i hi) hw2)))))
            obtain ⟨k0, k1, k2, k3, k4, k5⟩ := opcells h7
            clear hW6 hb6 hz6 h7 h8 hb7 hb26 hb2 hw2 q0 q1 q2 q3 q4 q5 HO
            go_upto_region 17 with (first
              | (go_at_call 21; refine (HSD.out W6 HA.out.1).mono ?_; rintro e w7 ⟨v7, P7, rfl, hk7, hkeep7, hz7, hP7⟩)
              | go_in)
            have hx7 : w7.heap[b7 + 1]? = some (opR x) := (hkeep7 _ (heap_lt HA.out.2.2.1) (fun hp => by have := HA.out.2.2.2.2 _ hp; omega)).trans HA.out.2.2.1
            have HB7 := Lib.hid (And.intro hk7 (And.intro (HA.out.2.1.step hkeep7 hz7 hP7) (And.intro hkeep7 (And.intro hz7 hP7))))
            obtain ⟨k0, k1, k2, k3, k4, k5⟩ := opcells hx7
            have s0 := cell0 HB7.out.2.1.2.1
            have s1 := cell1 HB7.out.2.1.2.1
            clear hk7 hkeep7 hz7 hP7 hx7
            go_upto_region 18 with (first
              | (go_at_call 20; refine (HRD.out w7 HB7.out.2.1.2.2.1).mono ?_; rintro e w8 ⟨vs, vi, rfl, hs8, hown8, hrow8, hb8⟩; obtain ⟨ao8, c8, hve, -⟩ := id hs8; subst hve; have hB8 := (hb8.block _ (heap_lt HB7.out.2.1.2.1)).trans HB7.out.2.1.2.1; have t0 := cell0 hB8; have t1 := cell1 hB8; have f0 := froz hB8 0; have f1 := froz hB8 1)
              | go_in)
            change Code.wp _ _ _ _ (put2 w8 B2 (.int .i64 R2) (.slice ao8 L2.length c8))
            have hk9 := (HB7.out.1.below hb8).put2 HB7.out.2.1.1 HBw2.out (.int .i64 R2) (.slice ao8 L2.length c8)
            have hd9 : DocAt (put2 w8 B2 (.int .i64 R2) (.slice ao8 L2.length c8)) B2 P7 ⟨R2, L2⟩ (.slice ao8 L2.length c8) := DocAt.put (S' := ⟨R2, L2⟩) HB7.out.2.1 hb8 hs8 hown8 (fun i hi => HB7.out.1.1.own i hi)
            have hf9 := HA.out.2.2.2.1.step HB7.out.2.2.1 HB7.out.2.2.2.1 HB7.out.2.2.2.2 hb8 (.int .i64 R2) (.slice ao8 L2.length c8)
            have ho9 : ∀ d, (Value.slice ao8 L2.length c8).ownBlock = some d → ¬ F2 d := fun d hd hF => (hown8 d hd).elim (fun h1 => HX.out.2.2.2.2.2 d h1 hF) (fun h2 => by
              have h3 := (HA.out.2.2.2.1.2 d hF).2.1
              have h4 := HA.out.2.2.2.1.1
              have h5 := HB7.out.2.2.2.1
              omega)
            have HZ := Lib.hid (And.intro hk9 (And.intro hd9 (And.intro hf9 ho9)))
            generalize put2 w8 B2 (.int .i64 R2) (.slice ao8 L2.length c8) = w9 at HZ ⊢
            clear hk9 hd9 hf9 ho9 hB8 t0 t1 f0 f1 s0 s1 k0 k1 k2 k3 k4 k5 hb8 hrow8 hown8 hs8
            go_wp2_with fail
            go_roundw
            case rel => exact ⟨i + 1, ⟨R2, L2⟩, P7, _, by have := HLT.out; omega, by go_num, HZ.out.1, HZ.out.2.1, by rw [Nat.min_eq_left (by omega)]; exact HIN.out.1, HZ.out.2.2, HIN.out.2⟩
            case measure => have := HLT.out; simp [intOf]; omega
          · have d1 : decide ((i : Int) < 12) = false := by simp; omega
            have HLT := Lib.hid hlt
            have HX := Lib.hid (And.intro hk (And.intro hd (And.intro hinv (And.intro hfr.out hgd.out))))
            clear hk hd hinv hokx hfr hgd
            go_wp2_with fail
            go_roundw
            case rel => exact ⟨i + 1, ⟨Rb, Lb⟩, Pb, vrb, HLT.out, by go_num, HX.out.1.below (belNew _ _), HX.out.2.1.below (belNew _ _), by rw [Nat.min_eq_right (by omega)]; have := HX.out.2.2.1; rwa [Nat.min_eq_right (by omega)] at this, ⟨HX.out.2.2.2.1.1.below (belNew _ _), HX.out.2.2.2.1.2⟩, HX.out.2.2.2.2⟩
            case measure => have := HLT.out; simp [intOf]; omega
        · obtain rfl : i = os2.length := by omega
          have hin : KInv ⟨Rb, Lb⟩ 12 := by
            obtain ⟨i1, i2, i3, i4, i5⟩ := hinv
            exact ⟨i1, i2, by omega, by omega, i5⟩
          have hfr := hfr.out
          have hgd := hgd.out
          clear hinv
          have hS1 := HS1.out wrb hfr.1.1 (fun k hk => (hfr.1.2 k hk).2.2.2)
          obtain ⟨aoA, cA, hve, -⟩ := id hS1.2.2.2.1
          simp only [] at hve
          subst hve
          obtain ⟨aoB, cB, hve, -⟩ := id hd.2.2.1
          simp only [] at hve
          subst hve
          have HE := Lib.hid (And.intro hS1.1 (And.intro hk (And.intro hS1.2 hd)))
          have HIb := Lib.hid (And.intro hin hgd)
          have hla : La.length ≤ 12 := HIa.out.1.2.2.2.1
          have hlb : Lb.length ≤ 12 := hin.2.2.2.1
          have HKS : Hid (∀ p ∈ (⟨Ra, La⟩ : KSt).L, p.1.length ≤ maxLen) := Lib.hid (fun p hp => by
            have h1 := (HIa.out.2 p hp).1
            unfold mayK at h1
            simp [ByteArray.size] at h1
            unfold maxLen
            omega)
          clear hS1 hk hd hin hfr hgd
          by_cases hR : Ra = Rb
          · have e1 : (Ra == Rb) = true := by simpa using hR
            have e2 : decide (Ra = Rb) = true := decide_eq_true hR
            have HR2 := Lib.hid e2
            clear hR e2
            go_upto_region 19 with fail
            refine wp_region_held_drew (S := (fun X => X.heap[B]? = some (stO Ra (.slice aoA La.length cA)) ∧ X.heap[B2]? = some (stO Rb (.slice aoB Lb.length cB)))) (by kernel_rfl) ?_ (fun r0 => ?_)
            · exact ⟨HE.out.2.2.1.2.1, HE.out.2.2.2.2.1⟩
            obtain ⟨wd, hwd⟩ : ∃ wd, wd = wrb.drew := ⟨_, rfl⟩
            rw [← hwd] at r0 ⊢
            have hbd : Below wrb.heap.size wrb wd := by rw [hwd]; exact bdrew (Below.refl _ _)
            have HG := Lib.hid (And.intro (HE.out.1.below hbd) (And.intro (HE.out.2.1.below hbd) (And.intro (HE.out.2.2.1.below hbd) (HE.out.2.2.2.below hbd))))
            clear hwd hbd
            refine wpAnyH_take (i := 0) (v := ?_) rfl (by kernel_rfl) (by kernel_rfl) (by kernel_rfl) (fun _ _ _ h => h) (Or.inl ⟨by rfl, ?_⟩) (by assumption) ?_
            rotate_left
            · intro wS hSw
              (try dsimp only at hSw)
              go_simp
              first | done | with_reducible rfl
            try simp only [Act.put, List.getElem_toArray, List.getElem_cons_zero, List.setIfInBounds_toArray, List.set_cons_zero, List.set_cons_succ]
            refine wpAnyH_take (i := 1) (v := ?_) rfl (by kernel_rfl) (by kernel_rfl) (by kernel_rfl) (fun _ _ _ h => h) (Or.inl ⟨by rfl, ?_⟩) (by assumption) ?_
            rotate_left
            · intro wS hSw
              (try dsimp only at hSw)
              have s0 := cell0 hSw.1
              have s1 := cell1 hSw.1
              have t0 := cell0 hSw.2
              have t1 := cell1 hSw.2
              go_simp
              first | done | with_reducible rfl
            try simp only [Act.put, List.getElem_toArray, List.getElem_cons_succ, List.getElem_cons_zero, List.setIfInBounds_toArray, List.set_cons_zero, List.set_cons_succ]
            refine wpAnyH_take (i := 2) (v := ?_) rfl (by kernel_rfl) (by kernel_rfl) (by kernel_rfl) (fun _ _ _ h => h) (Or.inl ⟨by rfl, ?_⟩) (by assumption) ?_
            rotate_left
            · intro wS hSw
              (try dsimp only at hSw)
              go_simp
              first | done | with_reducible rfl
            try simp only [Act.put, List.getElem_toArray, List.getElem_cons_succ, List.getElem_cons_zero, List.setIfInBounds_toArray, List.set_cons_zero, List.set_cons_succ]
            refine wpAnyH_take (i := 3) (v := ?_) rfl (by kernel_rfl) (by kernel_rfl) (by kernel_rfl) (fun _ _ _ h => h) (Or.inl ⟨by rfl, ?_⟩) (by assumption) ?_
            rotate_left
            · intro wS hSw
              (try dsimp only at hSw)
              have s0 := cell0 hSw.1
              have s1 := cell1 hSw.1
              have t0 := cell0 hSw.2
              have t1 := cell1 hSw.2
              go_simp
              first | done | with_reducible rfl
            try simp only [Act.put, List.getElem_toArray, List.getElem_cons_succ, List.getElem_cons_zero, List.setIfInBounds_toArray, List.set_cons_zero, List.set_cons_succ]
            refine wpAnyH_take (i := 4) (v := ?_) rfl (by kernel_rfl) (by kernel_rfl) (by kernel_rfl) (fun _ _ _ h => h) (Or.inl ⟨by rfl, ?_⟩) (by assumption) ?_
            rotate_left
            · intro wS hSw
              (try dsimp only at hSw)
              go_simp
              first | done | with_reducible rfl
            try simp only [Act.put, List.getElem_toArray, List.getElem_cons_succ, List.getElem_cons_zero, List.setIfInBounds_toArray, List.set_cons_zero, List.set_cons_succ]
            refine wpAnyH_take (i := 5) (v := ?_) rfl (by kernel_rfl) (by kernel_rfl) (by kernel_rfl) (fun _ _ _ h => h) (Or.inl ⟨by rfl, ?_⟩) (by assumption) ?_
            rotate_left
            · intro wS hSw
              (try dsimp only at hSw)
              go_simp
              first | done | with_reducible rfl
            try simp only [Act.put, List.getElem_toArray, List.getElem_cons_succ, List.getElem_cons_zero, List.setIfInBounds_toArray, List.set_cons_zero, List.set_cons_succ]
            refine wpAnyH_take (i := 6) (v := ?_) rfl (by kernel_rfl) (by kernel_rfl) (by kernel_rfl) (fun _ _ _ h => h) (Or.inl ⟨by rfl, ?_⟩) (by assumption) ?_
            rotate_left
            · intro wS hSw
              (try dsimp only at hSw)
              go_simp
              first | done | with_reducible rfl
            try simp only [Act.put, List.getElem_toArray, List.getElem_cons_succ, List.getElem_cons_zero, List.setIfInBounds_toArray, List.set_cons_zero, List.set_cons_succ]
            refine wpAnyH_take (i := 7) (v := ?_) rfl (by kernel_rfl) (by kernel_rfl) (by kernel_rfl) (fun _ _ _ h => h) (Or.inl ⟨by rfl, ?_⟩) (by assumption) ?_
            rotate_left
            · intro wS hSw
              (try dsimp only at hSw)
              have s0 := cell0 hSw.1
              have s1 := cell1 hSw.1
              have t0 := cell0 hSw.2
              have t1 := cell1 hSw.2
              go_simp
              first | done | with_reducible rfl
            try simp only [Act.put, List.getElem_toArray, List.getElem_cons_succ, List.getElem_cons_zero, List.setIfInBounds_toArray, List.set_cons_zero, List.set_cons_succ]
            refine wpAnyH_take (i := 9) (v := ?_) rfl (by kernel_rfl) (by kernel_rfl) (by kernel_rfl) (fun _ _ _ h => h) (Or.inl ⟨by rfl, ?_⟩) (by assumption) ?_
            rotate_left
            · intro wS hSw
              (try dsimp only at hSw)
              go_simp
              first | done | with_reducible rfl
            try simp only [Act.put, List.getElem_toArray, List.getElem_cons_succ, List.getElem_cons_zero, List.setIfInBounds_toArray, List.set_cons_zero, List.set_cons_succ]
            refine wpAnyH_take (i := 10) (v := ?_) rfl (by kernel_rfl) (by kernel_rfl) (by kernel_rfl) (fun _ _ _ h => h) (Or.inl ⟨by rfl, ?_⟩) (by assumption) ?_
            rotate_left
            · intro wS hSw
              (try dsimp only at hSw)
              have s0 := cell0 hSw.1
              have s1 := cell1 hSw.1
              have t0 := cell0 hSw.2
              have t1 := cell1 hSw.2
              go_simp
              first | done | with_reducible rfl
            try simp only [Act.put, List.getElem_toArray, List.getElem_cons_succ, List.getElem_cons_zero, List.setIfInBounds_toArray, List.set_cons_zero, List.set_cons_succ]
            refine wpAnyH_ready (rs := [8]) (by kernel_rfl) (by simp) ?_
            refine AllReadyH.cons rfl (fun K hK => ?_) AllReadyH.nil
            go_simp
            refine (items9_any (.slice aoA La.length cA) La wd HG.out.2.2.1.2.2.1 (by omega)).mono ?_; rintro e w12 ⟨vq, rfl, hrq, hb12⟩
            refine hK.out _ _ ?_ (fun r1 => ?_)
            · exact ⟨(hb12.block _ (heap_lt r0.1)).trans r0.1, (hb12.block _ (heap_lt r0.2)).trans r0.2⟩
            try simp only [Act.put, List.getElem_toArray, List.getElem_cons_succ, List.getElem_cons_zero, List.setIfInBounds_toArray, List.set_cons_zero, List.set_cons_succ]
            refine wpAnyH_ready (rs := [11]) (by kernel_rfl) (by simp) ?_
            refine AllReadyH.cons rfl (fun K hK => ?_) AllReadyH.nil
            go_simp
            refine (sameItems_any vq (.slice aoB Lb.length cB) La Lb w12 (RowE.sees hrq) (HG.out.2.2.2.2.2.1.below hb12) (by unfold maxLen; omega) (by unfold maxLen; omega)).mono ?_; rintro e w13 ⟨rfl, hb13⟩
            refine hK.out _ _ ?_ (fun r2 => ?_)
            · exact ⟨(hb13.block _ (heap_lt r1.1)).trans r1.1, (hb13.block _ (heap_lt r1.2)).trans r1.2⟩
            try simp only [Act.put, List.getElem_toArray, List.getElem_cons_succ, List.getElem_cons_zero, List.setIfInBounds_toArray, List.set_cons_zero, List.set_cons_succ]
            refine wpAnyH_take (i := 12) (v := ?_) rfl (by kernel_rfl) (by kernel_rfl) (by kernel_rfl) (fun _ _ _ h => h) (Or.inl ⟨by rfl, ?_⟩) (by assumption) ?_
            rotate_left
            · intro wS hSw
              (try dsimp only at hSw)
              go_simp
              first | done | with_reducible rfl
            try simp only [Act.put, List.getElem_toArray, List.getElem_cons_succ, List.getElem_cons_zero, List.setIfInBounds_toArray, List.set_cons_zero, List.set_cons_succ]
            refine wpAnyH_take (i := 13) (v := ?_) rfl (by kernel_rfl) (by kernel_rfl) (by kernel_rfl) (fun _ _ _ h => h) (Or.inl ⟨by rfl, ?_⟩) (by assumption) ?_
            rotate_left
            · intro wS hSw
              (try dsimp only at hSw)
              go_simp
              first | done | with_reducible rfl
            try simp only [Act.put, List.getElem_toArray, List.getElem_cons_succ, List.getElem_cons_zero, List.setIfInBounds_toArray, List.set_cons_zero, List.set_cons_succ]
            refine wpAnyH_done (by kernel_rfl) ?_ _
            go_upto_region 20 with fail
            generalize hT : decide (La = Lb) = t
            have HT := Lib.hid hT
            clear hT
            have hbb : (t == t) = true := by simp
            have HW := Lib.hid (bel hb12 hb13)
            have hka := (HG.out.1.below HW.out)
            have hkb := (HG.out.2.1.below HW.out)
            have HS12 : Hid (Calls Try.prog 33 #[ptr g, ptr g2] w13 fun x w' => x = .returned (.bool t) ∧ Below w13.heap.size w13 w') := Lib.hid (by
              have := kvSame_any (ptr g) (ptr g2) ⟨Ra, La⟩ ⟨Rb, Lb⟩ w13 (Or.inr ⟨g, Pa, rfl, hka⟩) (Or.inr ⟨g2, Pb, rfl, hkb.1⟩) HIa.out.1.1 HIb.out.1.1 (by simp only []; omega) HKS.out
              simp only [] at this
              rw [HR2.out, HT.out, Bool.true_and] at this
              exact this)
            have NEXT : True := trivial
            have NEXT2 : True := trivial
            go_wp2_with (first
              | (go_at_call 33; clear NEXT; refine HS12.out.mono ?_; rintro e w14 ⟨rfl, hb14⟩)
              | (go_at_call 33; clear NEXT2; refine (show Calls Try.prog 33 #[ptr g, ptr g] w14 (fun x w' => x = .returned (.bool true) ∧ Below w14.heap.size w14 w') from by
                  have := kvSame_any (ptr g) (ptr g) ⟨Ra, La⟩ ⟨Ra, La⟩ w14 (Or.inr ⟨g, Pa, rfl, hka.below hb14⟩) (Or.inr ⟨g, Pa, rfl, hka.below hb14⟩) HIa.out.1.1 HIa.out.1.1 (by simp only []; omega) HKS.out
                  rw [decide_eq_true rfl, decide_eq_true rfl] at this
                  exact this).mono ?_; rintro e w15 ⟨rfl, hb15⟩)
              | (go_at_call 15; refine (new_kv w15).mono ?_; rintro e w16 ⟨g16, rfl, hk16, hg16, hb16⟩)
              | (go_at_call 33; refine (show Calls Try.prog 33 #[.pointer none, ptr g16] w16 (fun x w' => x = .returned (.bool true) ∧ Below w16.heap.size w16 w') from by
                  have := kvSame_any (.pointer none) (ptr g16) ⟨0, []⟩ ⟨0, []⟩ w16 (Or.inl ⟨rfl, rfl⟩) (Or.inr ⟨g16, _, rfl, hk16⟩) List.Pairwise.nil List.Pairwise.nil (by simp) (fun p hp => by cases hp)
                  rw [decide_eq_true rfl, decide_eq_true rfl] at this
                  exact this).mono ?_; rintro e w17 ⟨rfl, hb17⟩)
              | (go_at_call 26; refine (awake9_any w17).mono ?_; rintro e w18 ⟨rfl, hb18⟩)
              | go_in)
            go_ret
            exact ⟨rfl, HG.out.2.1.2.2.trans ((bel HW.out (bel hb14 (bel hb15 (bel hb16 (bel hb17 hb18))))).mono HG.out.2.1.2.2.size)⟩
          · have e1 : (Ra == Rb) = false := by simpa using hR
            have e2 : decide (Ra = Rb) = false := decide_eq_false hR
            have HR2 := Lib.hid e2
            clear hR e2
            go_upto_region 19 with fail
            refine wp_region_held_drew (S := (fun X => X.heap[B]? = some (stO Ra (.slice aoA La.length cA)) ∧ X.heap[B2]? = some (stO Rb (.slice aoB Lb.length cB)))) (by kernel_rfl) ?_ (fun r0 => ?_)
            · exact ⟨HE.out.2.2.1.2.1, HE.out.2.2.2.2.1⟩
            obtain ⟨wd, hwd⟩ : ∃ wd, wd = wrb.drew := ⟨_, rfl⟩
            rw [← hwd] at r0 ⊢
            have hbd : Below wrb.heap.size wrb wd := by rw [hwd]; exact bdrew (Below.refl _ _)
            have HG := Lib.hid (And.intro (HE.out.1.below hbd) (And.intro (HE.out.2.1.below hbd) (And.intro (HE.out.2.2.1.below hbd) (HE.out.2.2.2.below hbd))))
            clear hwd hbd
            refine wpAnyH_take (i := 0) (v := ?_) rfl (by kernel_rfl) (by kernel_rfl) (by kernel_rfl) (fun _ _ _ h => h) (Or.inl ⟨by rfl, ?_⟩) (by assumption) ?_
            rotate_left
            · intro wS hSw
              (try dsimp only at hSw)
              go_simp
              first | done | with_reducible rfl
            try simp only [Act.put, List.getElem_toArray, List.getElem_cons_zero, List.setIfInBounds_toArray, List.set_cons_zero, List.set_cons_succ]
            refine wpAnyH_take (i := 1) (v := ?_) rfl (by kernel_rfl) (by kernel_rfl) (by kernel_rfl) (fun _ _ _ h => h) (Or.inl ⟨by rfl, ?_⟩) (by assumption) ?_
            rotate_left
            · intro wS hSw
              (try dsimp only at hSw)
              have s0 := cell0 hSw.1
              have s1 := cell1 hSw.1
              have t0 := cell0 hSw.2
              have t1 := cell1 hSw.2
              go_simp
              first | done | with_reducible rfl
            try simp only [Act.put, List.getElem_toArray, List.getElem_cons_succ, List.getElem_cons_zero, List.setIfInBounds_toArray, List.set_cons_zero, List.set_cons_succ]
            refine wpAnyH_take (i := 2) (v := ?_) rfl (by kernel_rfl) (by kernel_rfl) (by kernel_rfl) (fun _ _ _ h => h) (Or.inl ⟨by rfl, ?_⟩) (by assumption) ?_
            rotate_left
            · intro wS hSw
              (try dsimp only at hSw)
              go_simp
              first | done | with_reducible rfl
            try simp only [Act.put, List.getElem_toArray, List.getElem_cons_succ, List.getElem_cons_zero, List.setIfInBounds_toArray, List.set_cons_zero, List.set_cons_succ]
            refine wpAnyH_take (i := 3) (v := ?_) rfl (by kernel_rfl) (by kernel_rfl) (by kernel_rfl) (fun _ _ _ h => h) (Or.inl ⟨by rfl, ?_⟩) (by assumption) ?_
            rotate_left
            · intro wS hSw
              (try dsimp only at hSw)
              have s0 := cell0 hSw.1
              have s1 := cell1 hSw.1
              have t0 := cell0 hSw.2
              have t1 := cell1 hSw.2
              go_simp
              first | done | with_reducible rfl
            try simp only [Act.put, List.getElem_toArray, List.getElem_cons_succ, List.getElem_cons_zero, List.setIfInBounds_toArray, List.set_cons_zero, List.set_cons_succ]
            refine wpAnyH_take (i := 4) (v := ?_) rfl (by kernel_rfl) (by kernel_rfl) (by kernel_rfl) (fun _ _ _ h => h) (Or.inl ⟨by rfl, ?_⟩) (by assumption) ?_
            rotate_left
            · intro wS hSw
              (try dsimp only at hSw)
              go_simp
              first | done | with_reducible rfl
            try simp only [Act.put, List.getElem_toArray, List.getElem_cons_succ, List.getElem_cons_zero, List.setIfInBounds_toArray, List.set_cons_zero, List.set_cons_succ]
            refine wpAnyH_take (i := 5) (v := ?_) rfl (by kernel_rfl) (by kernel_rfl) (by kernel_rfl) (fun _ _ _ h => h) (Or.inl ⟨by rfl, ?_⟩) (by assumption) ?_
            rotate_left
            · intro wS hSw
              (try dsimp only at hSw)
              go_simp
              first | done | with_reducible rfl
            try simp only [Act.put, List.getElem_toArray, List.getElem_cons_succ, List.getElem_cons_zero, List.setIfInBounds_toArray, List.set_cons_zero, List.set_cons_succ]
            refine wpAnyH_take (i := 6) (v := undef) rfl (by kernel_rfl) (by kernel_rfl) (by kernel_rfl) (fun _ _ _ h => h) (Or.inr ⟨by rfl, rfl⟩) (by assumption) ?_
            try simp only [Act.put, List.getElem_toArray, List.getElem_cons_succ, List.getElem_cons_zero, List.setIfInBounds_toArray, List.set_cons_zero, List.set_cons_succ]
            refine wpAnyH_take (i := 7) (v := undef) rfl (by kernel_rfl) (by kernel_rfl) (by kernel_rfl) (fun _ _ _ h => h) (Or.inr ⟨by rfl, rfl⟩) (by assumption) ?_
            try simp only [Act.put, List.getElem_toArray, List.getElem_cons_succ, List.getElem_cons_zero, List.setIfInBounds_toArray, List.set_cons_zero, List.set_cons_succ]
            refine wpAnyH_take (i := 8) (v := undef) rfl (by kernel_rfl) (by kernel_rfl) (by kernel_rfl) (fun _ _ _ h => h) (Or.inr ⟨by rfl, rfl⟩) (by assumption) ?_
            try simp only [Act.put, List.getElem_toArray, List.getElem_cons_succ, List.getElem_cons_zero, List.setIfInBounds_toArray, List.set_cons_zero, List.set_cons_succ]
            refine wpAnyH_take (i := 9) (v := undef) rfl (by kernel_rfl) (by kernel_rfl) (by kernel_rfl) (fun _ _ _ h => h) (Or.inr ⟨by rfl, rfl⟩) (by assumption) ?_
            try simp only [Act.put, List.getElem_toArray, List.getElem_cons_succ, List.getElem_cons_zero, List.setIfInBounds_toArray, List.set_cons_zero, List.set_cons_succ]
            refine wpAnyH_take (i := 10) (v := undef) rfl (by kernel_rfl) (by kernel_rfl) (by kernel_rfl) (fun _ _ _ h => h) (Or.inr ⟨by rfl, rfl⟩) (by assumption) ?_
            try simp only [Act.put, List.getElem_toArray, List.getElem_cons_succ, List.getElem_cons_zero, List.setIfInBounds_toArray, List.set_cons_zero, List.set_cons_succ]
            refine wpAnyH_take (i := 11) (v := undef) rfl (by kernel_rfl) (by kernel_rfl) (by kernel_rfl) (fun _ _ _ h => h) (Or.inr ⟨by rfl, rfl⟩) (by assumption) ?_
            try simp only [Act.put, List.getElem_toArray, List.getElem_cons_succ, List.getElem_cons_zero, List.setIfInBounds_toArray, List.set_cons_zero, List.set_cons_succ]
            refine wpAnyH_take (i := 12) (v := ?_) rfl (by kernel_rfl) (by kernel_rfl) (by kernel_rfl) (fun _ _ _ h => h) (Or.inl ⟨by rfl, ?_⟩) (by assumption) ?_
            rotate_left
            · intro wS hSw
              (try dsimp only at hSw)
              go_simp
              first | done | with_reducible rfl
            try simp only [Act.put, List.getElem_toArray, List.getElem_cons_succ, List.getElem_cons_zero, List.setIfInBounds_toArray, List.set_cons_zero, List.set_cons_succ]
            refine wpAnyH_take (i := 13) (v := ?_) rfl (by kernel_rfl) (by kernel_rfl) (by kernel_rfl) (fun _ _ _ h => h) (Or.inl ⟨by rfl, ?_⟩) (by assumption) ?_
            rotate_left
            · intro wS hSw
              (try dsimp only at hSw)
              go_simp
              first | done | with_reducible rfl
            try simp only [Act.put, List.getElem_toArray, List.getElem_cons_succ, List.getElem_cons_zero, List.setIfInBounds_toArray, List.set_cons_zero, List.set_cons_succ]
            refine wpAnyH_done (by kernel_rfl) ?_ _
            go_upto_region 20 with fail
            have HW := Lib.hid (Below.refl wd.heap.size wd)
            have hka := (HG.out.1.below HW.out)
            have hkb := (HG.out.2.1.below HW.out)
            have HS12 : Hid (Calls Try.prog 33 #[ptr g, ptr g2] wd fun x w' => x = .returned (.bool false) ∧ Below wd.heap.size wd w') := Lib.hid (by
              have := kvSame_any (ptr g) (ptr g2) ⟨Ra, La⟩ ⟨Rb, Lb⟩ wd (Or.inr ⟨g, Pa, rfl, hka⟩) (Or.inr ⟨g2, Pb, rfl, hkb.1⟩) HIa.out.1.1 HIb.out.1.1 (by simp only []; omega) HKS.out
              simp only [] at this
              rw [HR2.out, Bool.false_and] at this
              exact this)
            have NEXT : True := trivial
            have NEXT2 : True := trivial
            go_wp2_with (first
              | (go_at_call 33; clear NEXT; refine HS12.out.mono ?_; rintro e w14 ⟨rfl, hb14⟩)
              | (go_at_call 33; clear NEXT2; refine (show Calls Try.prog 33 #[ptr g, ptr g] w14 (fun x w' => x = .returned (.bool true) ∧ Below w14.heap.size w14 w') from by
                  have := kvSame_any (ptr g) (ptr g) ⟨Ra, La⟩ ⟨Ra, La⟩ w14 (Or.inr ⟨g, Pa, rfl, hka.below hb14⟩) (Or.inr ⟨g, Pa, rfl, hka.below hb14⟩) HIa.out.1.1 HIa.out.1.1 (by simp only []; omega) HKS.out
                  rw [decide_eq_true rfl, decide_eq_true rfl] at this
                  exact this).mono ?_; rintro e w15 ⟨rfl, hb15⟩)
              | (go_at_call 15; refine (new_kv w15).mono ?_; rintro e w16 ⟨g16, rfl, hk16, hg16, hb16⟩)
              | (go_at_call 33; refine (show Calls Try.prog 33 #[.pointer none, ptr g16] w16 (fun x w' => x = .returned (.bool true) ∧ Below w16.heap.size w16 w') from by
                  have := kvSame_any (.pointer none) (ptr g16) ⟨0, []⟩ ⟨0, []⟩ w16 (Or.inl ⟨rfl, rfl⟩) (Or.inr ⟨g16, _, rfl, hk16⟩) List.Pairwise.nil List.Pairwise.nil (by simp) (fun p hp => by cases hp)
                  rw [decide_eq_true rfl, decide_eq_true rfl] at this
                  exact this).mono ?_; rintro e w17 ⟨rfl, hb17⟩)
              | (go_at_call 26; refine (awake9_any w17).mono ?_; rintro e w18 ⟨rfl, hb18⟩)
              | go_in)
            go_ret
            exact ⟨rfl, HG.out.2.1.2.2.trans ((bel HW.out (bel hb14 (bel hb15 (bel hb16 (bel hb17 hb18))))).mono HG.out.2.1.2.2.size)⟩
end Go.Proofs.Ytogcjginifcbpaa
