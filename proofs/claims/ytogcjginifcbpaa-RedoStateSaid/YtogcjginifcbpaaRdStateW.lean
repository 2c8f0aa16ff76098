/- The walk of RedoState. Made by g_rdstatew.py. -/
import Derived.Test.YtogcjginifcbpaaKvLoop
import Derived.Test.YtogcjginifcbpaaKvEq
import Derived.Test.YtogcjginifcbpaaRdPutS
namespace Go.Proofs.Ytogcjginifcbpaa
open Go.RowKit Go.Maps
theorem rdN_fwd (L : List KEnt) (hp : ∀ p ∈ L, (0 ≤ p.2.2 ∧ p.2.2 ≤ 9223372036854775807) ∧ (⟨p.1.toArray⟩ : ByteArray).size < 4294967296 ∧ p.2.1.size < 4294967296) : ∀ k, k ≤ L.length → rdN k (some (L.flatMap itemL)) = (L.take k, some ((L.drop k).flatMap itemL))
  | 0, _ => by simp [rdN]
  | k + 1, h => by
    have ih := rdN_fwd L hp k (by omega)
    have hlt : k < L.length := by omega
    have hd : L.drop k = L[k] :: L.drop (k + 1) := List.drop_eq_getElem_cons hlt
    have hm := hp L[k] (List.getElem_mem hlt)
    obtain ⟨i1, i2, i3, i4⟩ := item_read (p := L[k]) hm.1 hm.2.1 hm.2.2 ((L.drop (k + 1)).flatMap itemL)
    rw [rdN, ih, hd, List.flatMap_cons]
    simp only []
    unfold itemOf
    rw [i1, i2, i3, i4, List.take_add_one, List.getElem?_eq_getElem hlt]
    rfl
theorem okB_items : ∀ L : List KEnt, okB (L.flatMap itemL)
  | [] => fun x hx => by cases hx
  | p :: L => by
    rw [List.flatMap_cons]
    unfold itemL longL
    exact okB_append (okB_append (okB_put _ _) (okB_append (okB_append (okB_put _ _) (okB_str _)) (okB_append (okB_put _ _) (okB_str _)))) (okB_items L)
theorem okB_state (S : KSt) : okB (stL S) := by
  unfold stL
  exact okB_append (okB_put _ _) (okB_append (okB_put _ _) (okB_items _))
theorem readState_put (S : KSt) (hs : StOk S) (ho : ofB S.rev S.L = true) (hl : (stL S).length ≤ 90000) (b : Value) (w : World) (h : Sees w b (stL S)) :
    Calls Try.prog 44 #[b] w fun x w' => ∃ g P, x = .returned (.tuple #[ptr g, .int .i64 0]) ∧ KvAt w' g P S ∧ (∀ i, P i → w.heap.size ≤ i) ∧ Below w.heap.size w w' := by
  refine (readState_any b (stL S) w h (okB_state S) hl).mono ?_
  rintro x w' ⟨n, k, hn, hk, hkn, -, hyes, -, hb⟩
  have e1 : rdU (some (stL S)) 8 = (S.rev, some (putL (S.L.length : Int) 4 ++ S.L.flatMap itemL)) := by
    unfold stL
    rw [rd_put _ rfl, numBE_put8 (by have := hs.1; omega)]
  have e2 : rdU (some (putL (S.L.length : Int) 4 ++ S.L.flatMap itemL)) 4 = ((S.L.length : Int), some (S.L.flatMap itemL)) := by
    rw [rd_put _ rfl, numBE_put4' (by have := hs.2.1; omega)]
  have e3 : rdRev (some (stL S)) = S.rev := by
    unfold rdRev
    rw [e1]
    exact IntWalk.i64_in _ (by have := hs.1; omega)
  rw [e1] at hn hkn hyes
  simp only [] at hn hkn hyes
  rw [e2] at hn hkn hyes
  simp only [] at hn hkn hyes
  have hnn : n = S.L.length := by omega
  subst hnn
  have hf := rdN_fwd S.L (fun p hp => ⟨⟨(hs.2.2 p hp).2.2.1, (hs.2.2 p hp).2.2.2⟩, by have := (hs.2.2 p hp).1; omega, by have := (hs.2.2 p hp).2.1; omega⟩) k hk
  have hkk : k = S.L.length := by
    rcases hkn with hkn | hkn
    · exact hkn
    · rw [hf] at hkn; cases hkn
  subst hkk
  rw [hf, e3] at hyes
  simp only [List.take_length, List.drop_length, List.flatMap_nil] at hyes
  obtain ⟨g, P, hx, hka, hP⟩ := hyes (by rw [ho]; rfl)
  exact ⟨g, P, hx, hka, hP, hb⟩
theorem putState_nil (w : World) : Calls Try.prog 43 #[.pointer none] w fun e w' => e = .returned (.tuple #[.slice none 0 0, .int .i64 2]) ∧ w = w' := by
  have q := eqNilK
  go_enter Try.func43, Try.ntmps43
  go_wp2_with fail
  go_ret2
  exact ⟨rfl, rfl⟩
set_option maxRecDepth 100000 in
set_option maxHeartbeats 16000000 in
theorem lawRedoState (w : World) (v : Value) (os : List KOp) (h : ArgOps9 w v os) : Calls Try.prog 12 #[v] w fun e w' => e = .returned (.bool true) ∧ Below w.heap.size w w' := by
  obtain ⟨⟨ao, c, rfl, hlc, hnil, hc⟩, hok, hlm⟩ := h
  have HC := Lib.hid (And.intro hnil (And.intro hc hok))
  have hlm2 : os.length ≤ 9223372036854775807 := by unfold maxLen at hlm; omega
  clear hnil hc hok hlm
  go_enter Try.func12, Try.ntmps12
  go_upto_region 2 with (first
    | (go_at_call 15; refine (new_step w w (Below.refl _ _)).mono ?_; rintro e w1 ⟨g, rfl, hk1, hb1⟩)
    | go_in)
  obtain ⟨W1, hW1⟩ : ∃ W1, W1 = w1.alloc (stO 0 (.slice none 0 0)) := ⟨_, rfl⟩
  change Code.wp _ _ _ _ (w1.alloc (stO 0 (.slice none 0 0)))
  rw [← hW1]
  have hbW : Below w1.heap.size w1 W1 := by rw [hW1]; exact belNew _ _
  have hbox : W1.heap[w1.heap.size]? = some (stO 0 (.slice none 0 0)) := by rw [hW1]; exact heap_alloc_new w1 _
  obtain ⟨B, hB⟩ : ∃ B, B = w1.heap.size := ⟨_, rfl⟩
  rw [← hB] at hbox ⊢
  have hk2 := hk1.below hbW
  have hd2 : DocAt W1 B (· = g) ⟨0, []⟩ (.slice none 0 0) := DocAt.start (by have := hk1.1.lt; omega) hbox
  have HBw : Hid (w.heap.size ≤ B) := Lib.hid (by rw [hB]; exact hk1.2.2.size)
  have HST := Lib.hid (And.intro hk2 hd2)
  clear hW1 hbW hbox hB hk1 hb1 hk2 hd2
  go_wp2_with fail
  go_loopw [19] (fun j wr => ∃ (i : Nat) (S : KSt) (P : Nat → Prop) (vr : Value), i ≤ os.length ∧ j = .int .i64 i ∧ KvW w wr g P S ∧ DocAt wr B P S vr ∧ KInv S (min i 20) ∧ Aside (FrameOk (fun _ => False) W1 B P wr) ∧ Aside (KGood S)) (fun j _ => os.length - (intOf j).toNat)
  case atStart => exact ⟨0, ⟨0, []⟩, _, _, Nat.zero_le _, rfl, HST.out.1, HST.out.2, KInv.zero, FrameOk.none _ _ _, KGood.zero⟩
  case round =>
    obtain ⟨i, ⟨R, L⟩, P, vr, hi, rfl, hk, hd, hinv, hfr, hgd⟩ := hrel
    by_cases hlt : i < os.length
    · obtain ⟨a, rfl⟩ : ∃ a, ao = some a := by
        cases ao with
        | none => rw [HC.out.1 rfl] at hlt; simp at hlt
        | some a => exact ⟨a, rfl⟩
      have hop := HC.out.2.1 a rfl i hlt
      have hokx := HC.out.2.2 (os.getD i default) (by rw [List.getD_eq_getElem?_getD, List.getElem?_eq_getElem hlt]; exact List.getElem_mem hlt)
      generalize os.getD i default = o at hop hokx
      obtain ⟨q0, q1, q2, q3, q4, q5⟩ := hop
      have q0 := bcell hk.2.2 q0
      have q1 := off1 (bcell hk.2.2 q1)
      have q2 := off2 (bcell hk.2.2 q2)
      have q3 := off3 (bcell hk.2.2 q3)
      have q4 := off4 (bcell hk.2.2 q4)
      have q5 := off5 (bcell hk.2.2 q5)
      have b0 : (0 : Int) ≤ (i : Int) := by omega
      have b1 : (i : Int) < (os.length : Int) := by omega
      by_cases hN : i < 20
      · have d1 : decide ((i : Int) < 20) = true := by simp; omega
        have hin : KInv ⟨R, L⟩ i := by rwa [Nat.min_eq_left (by omega)] at hinv
        have HO := Lib.hid (ours_any o)
        have hxo := ours_ok hokx
        have hxv : (ours o).val.size ≤ 100 := cutB_le _ _
        clear hokx hinv
        generalize ours o = x at HO hxo hxv
        have hin2 := And.intro (doK_inv hin x) (doK_good hgd.out hin.2.1 x hxv)
        have HX := Lib.hid (And.intro hk (And.intro hd (And.intro hin (And.intro hxo hfr.out))))
        have HRD : Hid (∀ w', SeesI w' vr L → Calls Try.prog 20 #[stV R vr, opV x] w' fun e w'' => ∃ vs vi, e = .returned (.tuple #[stV (doK ⟨R, L⟩ x).2.rev vs, kres (doK ⟨R, L⟩ x).1 vi]) ∧ SeesI w'' vs (doK ⟨R, L⟩ x).2.L ∧ (∀ d, vs.ownBlock = some d → vr.ownBlock = some d ∨ w'.heap.size ≤ d ∧ d < w''.heap.size) ∧ RowR w'' w'.heap.size vi (doK ⟨R, L⟩ x).1.its ∧ Below w'.heap.size w' w'') := Lib.hid (fun w' h => refDo_any vr L R x w' h hin.1 (by have := hin.2.2.2.1; simp only [] at this; omega) hxo (by have := hin.2.1; have := hin.2.2.1; simp only [] at *; omega))
        have HSD : Hid (∀ w', KvW w w' g P ⟨R, L⟩ → Calls Try.prog 21 #[ptr g, opV x] w' fun e w'' => ∃ v P', e = .returned v ∧ KvW w w'' g P' (doK ⟨R, L⟩ x).2 ∧ (∀ k, k < w'.heap.size → ¬ P k → w''.heap[k]? = w'.heap[k]?) ∧ w'.heap.size ≤ w''.heap.size ∧ (∀ i, P' i → P i ∨ w'.heap.size ≤ i)) := Lib.hid (fun w' h => (do_step x h hxo.1 hxo.2.2 hin.1 (by have := hin.2.2.2.1; simp only [] at this ⊢; omega) (by have := hin.2.1; have := hin.2.2.1; simp only [] at *; omega)).mono (by
          rintro e w'' ⟨ao, c, P', h1, h2, h3, _, h5, h6, h7⟩
          exact ⟨_, P', h1, h3, h5, h6, h7⟩))
        generalize doK ⟨R, L⟩ x = dk at HRD HSD hin2
        obtain ⟨⟨dc, dr, dv, di⟩, ⟨R2, L2⟩⟩ := dk
        simp only [] at HRD HSD hin2
        have HIN := Lib.hid hin2
        have HLT := Lib.hid hlt
        clear hk hd hin hxo hxv hin2 hfr hgd
        go_upto_region 7 with (first
          | (go_at_call 16; refine (HO.out _).mono ?_; rintro e w2 ⟨rfl, hb2⟩)
          | go_in)
        obtain ⟨W6, hW6, hb6, hz6, h7, h8⟩ := two_new w2 (opO x) (opR x)
        change Code.wp _ _ _ _ ((w2.alloc (opO x)).alloc (opR x))
        rw [← hW6]
        obtain ⟨b7, hb7⟩ : ∃ b7, b7 = w2.heap.size := ⟨_, rfl⟩
        rw [← hb7] at h7 h8 ⊢
        have hb26 : Below wr.heap.size wr W6 := bel (bel (belNew wr (opR o)) hb2) hb6
        have hw2 : wr.heap.size ≤ b7 := by rw [hb7]; exact (bel (belNew wr (opR o)) hb2).size
        have HA := Lib.hid (And.intro (HX.out.1.below hb26) (And.intro (HX.out.2.1.below hb26) (And.intro h8 (And.intro (HX.out.2.2.2.2.below hb26) (show ∀ i, P i → i < b7 from fun i hi => Nat.lt_of_lt_of_le (HX.out.1.1.own i hi) hw2)))))
        obtain ⟨k0, k1, k2, k3, k4, k5⟩ := opcells h7
        clear hW6 hb6 hz6 h7 h8 hb7 hb26 hb2 hw2 q0 q1 q2 q3 q4 q5 HO
        go_upto_region 8 with (first
          | (go_at_call 21; refine (HSD.out W6 HA.out.1).mono ?_; rintro e w7 ⟨v7, P7, rfl, hk7, hkeep7, hz7, hP7⟩)
          | go_in)
        have hx7 : w7.heap[b7 + 1]? = some (opR x) := (hkeep7 _ (heap_lt HA.out.2.2.1) (fun hp => by have := HA.out.2.2.2.2 _ hp; omega)).trans HA.out.2.2.1
        have HB7 := Lib.hid (And.intro hk7 (And.intro (HA.out.2.1.step hkeep7 hz7 hP7) (And.intro hkeep7 (And.intro hz7 hP7))))
        obtain ⟨k0, k1, k2, k3, k4, k5⟩ := opcells hx7
        have s0 := cell0 HB7.out.2.1.2.1
        have s1 := cell1 HB7.out.2.1.2.1
        clear hk7 hkeep7 hz7 hP7 hx7
        go_upto_region 9 with (first
          | (go_at_call 20; refine (HRD.out w7 HB7.out.2.1.2.2.1).mono ?_; rintro e w8 ⟨vs, vi, rfl, hs8, hown8, hrow8, hb8⟩; obtain ⟨ao8, c8, hve, -⟩ := id hs8; subst hve; have hB8 := (hb8.block _ (heap_lt HB7.out.2.1.2.1)).trans HB7.out.2.1.2.1; have t0 := cell0 hB8; have t1 := cell1 hB8; have f0 := froz hB8 0; have f1 := froz hB8 1)
          | go_in)
        change Code.wp _ _ _ _ (put2 w8 B (.int .i64 R2) (.slice ao8 L2.length c8))
        have hk9 := (HB7.out.1.below hb8).put2 HB7.out.2.1.1 HBw.out (.int .i64 R2) (.slice ao8 L2.length c8)
        have hd9 : DocAt (put2 w8 B (.int .i64 R2) (.slice ao8 L2.length c8)) B P7 ⟨R2, L2⟩ (.slice ao8 L2.length c8) := DocAt.put (S' := ⟨R2, L2⟩) HB7.out.2.1 hb8 hs8 hown8 (fun i hi => HB7.out.1.1.own i hi)
        have hf9 := HA.out.2.2.2.1.step HB7.out.2.2.1 HB7.out.2.2.2.1 HB7.out.2.2.2.2 hb8 (.int .i64 R2) (.slice ao8 L2.length c8)
        have HZ := Lib.hid (And.intro hk9 (And.intro hd9 hf9))
        generalize put2 w8 B (.int .i64 R2) (.slice ao8 L2.length c8) = w9 at HZ ⊢
        clear hk9 hd9 hf9 hB8 t0 t1 f0 f1 s0 s1 k0 k1 k2 k3 k4 k5 hb8 hrow8 hown8 hs8
        go_wp2_with fail
        go_roundw
        case rel => exact ⟨i + 1, ⟨R2, L2⟩, P7, _, by have := HLT.out; omega, by go_num, HZ.out.1, HZ.out.2.1, by rw [Nat.min_eq_left (by omega)]; exact HIN.out.1, HZ.out.2.2, HIN.out.2⟩
        case measure => have := HLT.out; simp [intOf]; omega
      · have d1 : decide ((i : Int) < 20) = false := by simp; omega
        have HLT := Lib.hid hlt
        have HX := Lib.hid (And.intro hk (And.intro hd (And.intro hinv (And.intro hfr.out hgd.out))))
        clear hk hd hinv hokx hfr hgd
        go_wp2_with fail
        go_roundw
        case rel => exact ⟨i + 1, ⟨R, L⟩, P, vr, HLT.out, by go_num, HX.out.1.below (belNew _ _), HX.out.2.1.below (belNew _ _), by rw [Nat.min_eq_right (by omega)]; have := HX.out.2.2.1; rwa [Nat.min_eq_right (by omega)] at this, HX.out.2.2.2.1.below (belNew _ _), HX.out.2.2.2.2⟩
        case measure => have := HLT.out; simp [intOf]; omega
    · obtain rfl : i = os.length := by omega
      have hin : KInv ⟨R, L⟩ 20 := by
        obtain ⟨i1, i2, i3, i4, i5⟩ := hinv
        exact ⟨i1, i2, by omega, by omega, i5⟩
      have hfr := hfr.out
      have hgd := hgd.out
      clear hinv
      have HK := Lib.hid (And.intro hk (And.intro hd (And.intro hin hgd)))
      have hst : StOk ⟨R, L⟩ := by
        refine ⟨⟨hin.2.1, by have := hin.2.2.1; simp only [] at *; omega⟩, by have := hin.2.2.2.1; simp only [] at *; omega, fun p hp => ?_⟩
        have h1 := hgd p hp
        have h2 := hin.2.2.2.2 p hp
        have h3 := hin.2.2.1
        have h4 := h1.1
        unfold mayK at h4
        rw [decide_eq_true_eq] at h4
        simp only [] at h2 h3
        exact ⟨by omega, by omega, by omega, by omega⟩
      have hl20 : L.length ≤ 20 := hin.2.2.2.1
      have hlen : (stL ⟨R, L⟩).length ≤ 90000 := by
        have h1 := putL_len R 8
        have h2 := putL_len (L.length : Int) 4
        have h3 := items_len hst.2.2
        unfold stL
        simp only [List.length_append] at *
        omega
      have hofb : ofB R L = true := KGood.of (S := ⟨R, L⟩) hgd hin
      have HS := Lib.hid (And.intro hst (And.intro hlen hofb))
      clear hk hd hin hfr hgd hst hlen hofb
      go_upto_region 11 with (first
        | (go_at_call 43; refine (putState_any g P ⟨R, L⟩ wr HK.out.1.1 HK.out.2.2.1.1 HS.out.1).mono ?_; rintro e w2 ⟨vb, rfl, hob, hb2⟩; obtain ⟨ao2, n2, c2, rfl⟩ := owns_slice hob)
        | go_in)
      have HOB := Lib.hid (And.intro hob.sees hb2)
      clear hob hb2
      go_upto_region 12 with (first
        | (go_at_call 44; refine (readState_put ⟨R, L⟩ HS.out.1 HS.out.2.2 HS.out.2.1 _ w2 HOB.out.1).mono ?_; rintro e w3 ⟨g3, P3, rfl, hk3, hP3, hb3⟩)
        | go_in)
      go_upto_region 13 with (first
        | (go_at_call 43; refine (putState_nil w3).mono ?_; rintro e wx ⟨rfl, rfl⟩)
        | go_in)
      obtain ⟨wz, hwz⟩ : ∃ wz, wz = w3 := ⟨_, rfl⟩
      rw [← hwz] at hk3 hb3 ⊢
      have hbz := bel HOB.out.2 hb3
      have hkz := HK.out.1.below hbz
      have hdz := HK.out.2.1.below hbz
      have HBZ := Lib.hid hkz.2.2
      obtain ⟨aoV, cV, hve, -⟩ := id hdz.2.2.1
      subst hve
      have s0 := cell0 hdz.2.1
      have s1 := cell1 hdz.2.1
      obtain ⟨ta, hta⟩ : ∃ ta, ta = strOfNums (stL ⟨R, L⟩) := ⟨_, rfl⟩
      have hsz := HOB.out.1.keep hb3
      have HCA : Hid (∀ W, Below wz.heap.size wz W → (convert 76 9 (.slice ao2 n2 c2)).run Try.prog W = .ok (.string ta) W) := Lib.hid (fun W hW => by rw [hta]; exact conv_sees (hsz.keep hW))
      have HPs : Hid (∀ w', Below wz.heap.size wz w' → Calls Try.prog 45 #[stV R (.slice aoV L.length cV)] w' fun x w'' => x = .returned (.string ta) ∧ Below w'.heap.size w' w'') := Lib.hid (fun w' hb => by
        have := refPutState_any _ L R w' (hdz.2.2.1.below hb) HS.out.1
        rw [← hta] at this
        exact this)
      have HSm : Hid (∀ w', Below wz.heap.size wz w' → Calls Try.prog 33 #[ptr g, ptr g3] w' fun x w'' => x = .returned (.bool true) ∧ Below w'.heap.size w' w'') := Lib.hid (fun w' hb => by
        have := kvSame_any (ptr g) (ptr g3) ⟨R, L⟩ ⟨R, L⟩ w' (Or.inr ⟨g, P, rfl, (hkz.below hb).1⟩) (Or.inr ⟨g3, P3, rfl, hk3.below hb⟩) HK.out.2.2.1.1 HK.out.2.2.1.1 (by simp only []; omega) (fun p hp => by have := (HS.out.1.2.2 p hp).1; simp [ByteArray.size] at this; unfold maxLen; omega)
        rw [decide_eq_true rfl, decide_eq_true rfl] at this
        exact this)
      clear hk3 hb3 hbz hkz hdz hsz hta hwz hP3
      refine wp_region_held_drew (S := (fun W => Below wz.heap.size wz W)) (by kernel_rfl) ?_ (fun r0 => ?_)
      · exact ⟨rfl, rfl, rfl, Nat.le_refl _, fun _ _ => rfl⟩
      refine wpAnyH_take (i := 0) (v := ?_) rfl (by kernel_rfl) (by kernel_rfl) (by kernel_rfl) (fun _ _ _ h => h) (Or.inl ⟨by rfl, ?_⟩) (by assumption) ?_
      rotate_left
      · intro wS hSw
        (try dsimp only at hSw)
        go_simp
        first | done | with_reducible rfl
      try simp only [Act.put, List.getElem_toArray, List.getElem_cons_zero, List.setIfInBounds_toArray, List.set_cons_zero, List.set_cons_succ]
      refine wpAnyH_take (i := 1) (v := ?_) rfl (by kernel_rfl) (by kernel_rfl) (by kernel_rfl) (fun _ _ _ h => h) (Or.inl ⟨by rfl, ?_⟩) (by assumption) ?_
      rotate_left
      · intro wS hSw
        (try dsimp only at hSw)
        go_simp
        first | done | with_reducible rfl
      try simp only [Act.put, List.getElem_toArray, List.getElem_cons_succ, List.getElem_cons_zero, List.setIfInBounds_toArray, List.set_cons_zero, List.set_cons_succ]
      refine wpAnyH_take (i := 2) (v := ?_) rfl (by kernel_rfl) (by kernel_rfl) (by kernel_rfl) (fun _ _ _ h => h) (Or.inl ⟨by rfl, ?_⟩) (by assumption) ?_
      rotate_left
      · intro wS hSw
        (try dsimp only at hSw)
        go_simp
        first | done | with_reducible rfl
      try simp only [Act.put, List.getElem_toArray, List.getElem_cons_succ, List.getElem_cons_zero, List.setIfInBounds_toArray, List.set_cons_zero, List.set_cons_succ]
      refine wpAnyH_take (i := 3) (v := ?_) rfl (by kernel_rfl) (by kernel_rfl) (by kernel_rfl) (fun _ _ _ h => h) (Or.inl ⟨by rfl, ?_⟩) (by assumption) ?_
      rotate_left
      · intro wS hSw
        (try dsimp only at hSw)
        go_simp
        first | done | with_reducible rfl
      try simp only [Act.put, List.getElem_toArray, List.getElem_cons_succ, List.getElem_cons_zero, List.setIfInBounds_toArray, List.set_cons_zero, List.set_cons_succ]
      refine wpAnyH_take (i := 4) (v := ?_) rfl (by kernel_rfl) (by kernel_rfl) (by kernel_rfl) (fun _ _ _ h => h) (Or.inl ⟨by rfl, ?_⟩) (by assumption) ?_
      rotate_left
      · intro wS hSw
        (try dsimp only at hSw)
        have hcv := HCA.out _ hSw
        go_simp
        first | done | with_reducible rfl
      try simp only [Act.put, List.getElem_toArray, List.getElem_cons_succ, List.getElem_cons_zero, List.setIfInBounds_toArray, List.set_cons_zero, List.set_cons_succ]
      refine wpAnyH_take (i := 5) (v := ?_) rfl (by kernel_rfl) (by kernel_rfl) (by kernel_rfl) (fun _ _ _ h => h) (Or.inl ⟨by rfl, ?_⟩) (by assumption) ?_
      rotate_left
      · intro wS hSw
        (try dsimp only at hSw)
        have s0 := bcell hSw s0
        have s1 := bcell hSw s1
        go_simp
        first | done | with_reducible rfl
      try simp only [Act.put, List.getElem_toArray, List.getElem_cons_succ, List.getElem_cons_zero, List.setIfInBounds_toArray, List.set_cons_zero, List.set_cons_succ]
      refine wpAnyH_ready (rs := [6]) (by kernel_rfl) (by simp) ?_
      refine AllReadyH.cons rfl (fun K hK => ?_) AllReadyH.nil
      go_simp
      refine (HPs.out _ r0).mono ?_; rintro x w8 ⟨rfl, hb8⟩
      refine hK.out _ _ ?_ (fun r1 => ?_)
      · exact bel r0 hb8
      try simp only [Act.put, List.getElem_toArray, List.getElem_cons_succ, List.getElem_cons_zero, List.setIfInBounds_toArray, List.set_cons_zero, List.set_cons_succ]
      refine wpAnyH_take (i := 7) (v := ?_) rfl (by kernel_rfl) (by kernel_rfl) (by kernel_rfl) (fun _ _ _ h => h) (Or.inl ⟨by rfl, ?_⟩) (by assumption) ?_
      rotate_left
      · intro wS hSw
        (try dsimp only at hSw)
        go_simp
        first | done | with_reducible rfl
      try simp only [Act.put, List.getElem_toArray, List.getElem_cons_succ, List.getElem_cons_zero, List.setIfInBounds_toArray, List.set_cons_zero, List.set_cons_succ]
      refine wpAnyH_take (i := 8) (v := ?_) rfl (by kernel_rfl) (by kernel_rfl) (by kernel_rfl) (fun _ _ _ h => h) (Or.inl ⟨by rfl, ?_⟩) (by assumption) ?_
      rotate_left
      · intro wS hSw
        (try dsimp only at hSw)
        go_simp
        first | done | with_reducible rfl
      try simp only [Act.put, List.getElem_toArray, List.getElem_cons_succ, List.getElem_cons_zero, List.setIfInBounds_toArray, List.set_cons_zero, List.set_cons_succ]
      refine wpAnyH_take (i := 9) (v := ?_) rfl (by kernel_rfl) (by kernel_rfl) (by kernel_rfl) (fun _ _ _ h => h) (Or.inl ⟨by rfl, ?_⟩) (by assumption) ?_
      rotate_left
      · intro wS hSw
        (try dsimp only at hSw)
        go_simp
        first | done | with_reducible rfl
      try simp only [Act.put, List.getElem_toArray, List.getElem_cons_succ, List.getElem_cons_zero, List.setIfInBounds_toArray, List.set_cons_zero, List.set_cons_succ]
      refine wpAnyH_take (i := 10) (v := ?_) rfl (by kernel_rfl) (by kernel_rfl) (by kernel_rfl) (fun _ _ _ h => h) (Or.inl ⟨by rfl, ?_⟩) (by assumption) ?_
      rotate_left
      · intro wS hSw
        (try dsimp only at hSw)
        go_simp
        first | done | with_reducible rfl
      try simp only [Act.put, List.getElem_toArray, List.getElem_cons_succ, List.getElem_cons_zero, List.setIfInBounds_toArray, List.set_cons_zero, List.set_cons_succ]
      refine wpAnyH_take (i := 11) (v := ?_) rfl (by kernel_rfl) (by kernel_rfl) (by kernel_rfl) (fun _ _ _ h => h) (Or.inl ⟨by rfl, ?_⟩) (by assumption) ?_
      rotate_left
      · intro wS hSw
        (try dsimp only at hSw)
        go_simp
        first | done | with_reducible rfl
      try simp only [Act.put, List.getElem_toArray, List.getElem_cons_succ, List.getElem_cons_zero, List.setIfInBounds_toArray, List.set_cons_zero, List.set_cons_succ]
      refine wpAnyH_take (i := 12) (v := ?_) rfl (by kernel_rfl) (by kernel_rfl) (by kernel_rfl) (fun _ _ _ h => h) (Or.inl ⟨by rfl, ?_⟩) (by assumption) ?_
      rotate_left
      · intro wS hSw
        (try dsimp only at hSw)
        go_simp
        first | done | with_reducible rfl
      try simp only [Act.put, List.getElem_toArray, List.getElem_cons_succ, List.getElem_cons_zero, List.setIfInBounds_toArray, List.set_cons_zero, List.set_cons_succ]
      refine wpAnyH_take (i := 13) (v := ?_) rfl (by kernel_rfl) (by kernel_rfl) (by kernel_rfl) (fun _ _ _ h => h) (Or.inl ⟨by rfl, ?_⟩) (by assumption) ?_
      rotate_left
      · intro wS hSw
        (try dsimp only at hSw)
        go_simp
        first | done | with_reducible rfl
      try simp only [Act.put, List.getElem_toArray, List.getElem_cons_succ, List.getElem_cons_zero, List.setIfInBounds_toArray, List.set_cons_zero, List.set_cons_succ]
      refine wpAnyH_take (i := 14) (v := ?_) rfl (by kernel_rfl) (by kernel_rfl) (by kernel_rfl) (fun _ _ _ h => h) (Or.inl ⟨by rfl, ?_⟩) (by assumption) ?_
      rotate_left
      · intro wS hSw
        (try dsimp only at hSw)
        go_simp
        first | done | with_reducible rfl
      try simp only [Act.put, List.getElem_toArray, List.getElem_cons_succ, List.getElem_cons_zero, List.setIfInBounds_toArray, List.set_cons_zero, List.set_cons_succ]
      refine wpAnyH_take (i := 15) (v := ?_) rfl (by kernel_rfl) (by kernel_rfl) (by kernel_rfl) (fun _ _ _ h => h) (Or.inl ⟨by rfl, ?_⟩) (by assumption) ?_
      rotate_left
      · intro wS hSw
        (try dsimp only at hSw)
        go_simp
        first | done | with_reducible rfl
      try simp only [Act.put, List.getElem_toArray, List.getElem_cons_succ, List.getElem_cons_zero, List.setIfInBounds_toArray, List.set_cons_zero, List.set_cons_succ]
      refine wpAnyH_ready (rs := [16]) (by kernel_rfl) (by simp) ?_
      refine AllReadyH.cons rfl (fun K hK => ?_) AllReadyH.nil
      go_simp
      refine (HSm.out _ r1).mono ?_; rintro x w9 ⟨rfl, hb9⟩
      refine hK.out _ _ ?_ (fun r2 => ?_)
      · exact bel r1 hb9
      try simp only [Act.put, List.getElem_toArray, List.getElem_cons_succ, List.getElem_cons_zero, List.setIfInBounds_toArray, List.set_cons_zero, List.set_cons_succ]
      refine wpAnyH_take (i := 17) (v := ?_) rfl (by kernel_rfl) (by kernel_rfl) (by kernel_rfl) (fun _ _ _ h => h) (Or.inl ⟨by rfl, ?_⟩) (by assumption) ?_
      rotate_left
      · intro wS hSw
        (try dsimp only at hSw)
        go_simp
        first | done | with_reducible rfl
      try simp only [Act.put, List.getElem_toArray, List.getElem_cons_succ, List.getElem_cons_zero, List.setIfInBounds_toArray, List.set_cons_zero, List.set_cons_succ]
      refine wpAnyH_take (i := 18) (v := ?_) rfl (by kernel_rfl) (by kernel_rfl) (by kernel_rfl) (fun _ _ _ h => h) (Or.inl ⟨by rfl, ?_⟩) (by assumption) ?_
      rotate_left
      · intro wS hSw
        (try dsimp only at hSw)
        go_simp
        first | done | with_reducible rfl
      try simp only [Act.put, List.getElem_toArray, List.getElem_cons_succ, List.getElem_cons_zero, List.setIfInBounds_toArray, List.set_cons_zero, List.set_cons_succ]
      refine wpAnyH_take (i := 19) (v := ?_) rfl (by kernel_rfl) (by kernel_rfl) (by kernel_rfl) (fun _ _ _ h => h) (Or.inl ⟨by rfl, ?_⟩) (by assumption) ?_
      rotate_left
      · intro wS hSw
        (try dsimp only at hSw)
        go_simp
        first | done | with_reducible rfl
      try simp only [Act.put, List.getElem_toArray, List.getElem_cons_succ, List.getElem_cons_zero, List.setIfInBounds_toArray, List.set_cons_zero, List.set_cons_succ]
      refine wpAnyH_take (i := 20) (v := ?_) rfl (by kernel_rfl) (by kernel_rfl) (by kernel_rfl) (fun _ _ _ h => h) (Or.inl ⟨by rfl, ?_⟩) (by assumption) ?_
      rotate_left
      · intro wS hSw
        (try dsimp only at hSw)
        go_simp
        first | done | with_reducible rfl
      try simp only [Act.put, List.getElem_toArray, List.getElem_cons_succ, List.getElem_cons_zero, List.setIfInBounds_toArray, List.set_cons_zero, List.set_cons_succ]
      refine wpAnyH_take (i := 21) (v := ?_) rfl (by kernel_rfl) (by kernel_rfl) (by kernel_rfl) (fun _ _ _ h => h) (Or.inl ⟨by rfl, ?_⟩) (by assumption) ?_
      rotate_left
      · intro wS hSw
        (try dsimp only at hSw)
        go_simp
        first | done | with_reducible rfl
      try simp only [Act.put, List.getElem_toArray, List.getElem_cons_succ, List.getElem_cons_zero, List.setIfInBounds_toArray, List.set_cons_zero, List.set_cons_succ]
      refine wpAnyH_take (i := 22) (v := ?_) rfl (by kernel_rfl) (by kernel_rfl) (by kernel_rfl) (fun _ _ _ h => h) (Or.inl ⟨by rfl, ?_⟩) (by assumption) ?_
      rotate_left
      · intro wS hSw
        (try dsimp only at hSw)
        go_simp
        first | done | with_reducible rfl
      try simp only [Act.put, List.getElem_toArray, List.getElem_cons_succ, List.getElem_cons_zero, List.setIfInBounds_toArray, List.set_cons_zero, List.set_cons_succ]
      refine wpAnyH_ready (rs := [23]) (by kernel_rfl) (by simp) ?_
      refine AllReadyH.cons rfl (fun K hK => ?_) AllReadyH.nil
      go_simp
      refine (awake10_any _).mono ?_; rintro x w10 ⟨rfl, hb10⟩
      refine hK.out _ _ ?_ (fun r3 => ?_)
      · exact bel r2 hb10
      try simp only [Act.put, List.getElem_toArray, List.getElem_cons_succ, List.getElem_cons_zero, List.setIfInBounds_toArray, List.set_cons_zero, List.set_cons_succ]
      refine wpAnyH_take (i := 24) (v := ?_) rfl (by kernel_rfl) (by kernel_rfl) (by kernel_rfl) (fun _ _ _ h => h) (Or.inl ⟨by rfl, ?_⟩) (by assumption) ?_
      rotate_left
      · intro wS hSw
        (try dsimp only at hSw)
        go_simp
        first | done | with_reducible rfl
      try simp only [Act.put, List.getElem_toArray, List.getElem_cons_succ, List.getElem_cons_zero, List.setIfInBounds_toArray, List.set_cons_zero, List.set_cons_succ]
      refine wpAnyH_take (i := 25) (v := ?_) rfl (by kernel_rfl) (by kernel_rfl) (by kernel_rfl) (fun _ _ _ h => h) (Or.inl ⟨by rfl, ?_⟩) (by assumption) ?_
      rotate_left
      · intro wS hSw
        (try dsimp only at hSw)
        go_simp
        first | done | with_reducible rfl
      try simp only [Act.put, List.getElem_toArray, List.getElem_cons_succ, List.getElem_cons_zero, List.setIfInBounds_toArray, List.set_cons_zero, List.set_cons_succ]
      refine wpAnyH_done (by kernel_rfl) ?_ _
      go_wp2_with fail
      go_ret
      exact ⟨rfl, HBZ.out.trans (r3.mono HBZ.out.size)⟩
end Go.Proofs.Ytogcjginifcbpaa
