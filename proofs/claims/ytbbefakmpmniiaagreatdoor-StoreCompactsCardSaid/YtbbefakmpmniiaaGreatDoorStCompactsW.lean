/- The walk of StoreCompacts. -/
import Derived.Test.YtbbefakmpmniiaaGreatDoorSt16
import Derived.Test.YtbbefakmpmniiaaGreatDoorStOpensW
namespace Go.Proofs.YtbbefakmpmniiaaGreatDoor
open Go.RowKit Go.Maps
open KV (bcell bdrew)
/-- What Open leaves, where what it comes to is known. -/
theorem opens_of {w w' : World} {g N n : Nat} {P : Nat → Prop} {D : DSt} {ev : Int} {e : Ending} {S : KV.KSt} (h : OpensS w g P N D ev e w') (hop : opS D = (0, S))
    (hg : ∀ m x D', AllIs (recsOf (readD D nLog.data.toList).1) (readD D nLog.data.toList).1 m x → settleD D nLog.data.toList (readD D nLog.data.toList).1.length m = (0, D') → GoodS n false ⟨D', m, false⟩ S) :
    ∃ P' s k l Pk T, e = .returned (.tuple #[ptr s, .int .i64 0]) ∧ SAll w' s g l k P' Pk T S (max ev 1) 0 false ∧ GoodS n false T S ∧ Step P P' w w' ∧ (∀ i, Pk i → w.heap.size ≤ i) ∧ w.heap.size ≤ l ∧ w.heap.size ≤ s := by
  obtain ⟨P', D', hD, hS, hop', hF, hset, -, hyes⟩ := h
  have hz : (ldS D).1 = 0 := by
    by_cases hz : (ldS D).1 = 0
    · exact hz
    · unfold opS at hop
      rw [if_neg hz] at hop
      exact (Prod.mk.inj hop).1
  obtain ⟨m, x, ha, hs⟩ := hset hz
  obtain ⟨s, k, l, Pk, n', x', he, ha', hA, h1, h2, h3⟩ := hyes (by rw [hop])
  obtain ⟨-, rfl, -⟩ := AllIs.same _ _ _ _ _ _ _ ha ha'
  rw [hop] at hA
  exact ⟨P', s, k, l, Pk, _, he, hA, hg m x D' ha hs, hS, h1, h2, h3⟩
/-- The same, of a disk that a store has left whole. -/
theorem opens_good {w w' : World} {g N n : Nat} {P : Nat → Prop} {T : WSt} {ev : Int} {e : Ending} {S : KV.KSt} (h : OpensS w g P N T.D ev e w') (hG : GoodS n false T S) :
    ∃ P' s k l Pk T', e = .returned (.tuple #[ptr s, .int .i64 0]) ∧ SAll w' s g l k P' Pk T' S (max ev 1) 0 false ∧ GoodS n false T' S ∧ Step P P' w w' ∧ (∀ i, Pk i → w.heap.size ≤ i) ∧ w.heap.size ≤ l ∧ w.heap.size ≤ s := by
  obtain ⟨h1, h2, h3, hg, ps, hs, hsz⟩ := hG
  obtain ⟨o1, o2, o3, o4⟩ := open_shape hs h2
  refine opens_of h o1 (fun m x D' ha hd => ?_)
  rw [o2] at ha
  obtain ⟨-, rfl, -⟩ := AllIs.same _ _ _ _ _ _ _ ha o3
  rw [o4] at hd
  obtain rfl := (Prod.mk.inj hd).2
  exact ⟨rfl, h2, h3, hg, ps, hs, rfl⟩
theorem good0 : GoodS 0 false ⟨⟨[], false, false, 0⟩, 0, false⟩ ⟨0, []⟩ :=
  ⟨rfl, rfl, rfl, KvG.zero, [], ⟨⟨0, []⟩, none, none, none, rfl, Or.inl ⟨rfl, rfl⟩, Or.inl ⟨rfl, rfl⟩, SpareOk.none, by rw [replayS], (fun p hp => by cases hp), Nat.le_refl _, fun p hp => by cases hp⟩, rfl⟩
theorem free0 : DFree 0 ⟨[], false, false, 0⟩ := ⟨rfl, rfl, Nat.le_refl _, fun f hf => by cases hf⟩
theorem GoodS.free {n : Nat} {T : WSt} {S : KV.KSt} (h : GoodS n false T S) (hn : n ≤ 100) : DFree 3 T.D := ⟨h.2.1, h.2.2.1, (h.small hn).1, fun f hf => by have := (h.small hn).2.1 f hf; omega⟩
set_option maxRecDepth 100000 in
set_option maxHeartbeats 16000000 in
theorem lawStoreCompacts (w : World) (ev : Int) (v : Value) (os : List KV.KOp) (_ : -9223372036854775808 ≤ ev) (_ : ev ≤ 9223372036854775807) (h : KV.ArgOps9 w v os) (hE : Env w) :
    Calls Tryz.prog 7 #[.int .i64 ev, v] w fun e w' => e = .returned (.bool true) ∧ Below w.heap.size w w' := by
  obtain ⟨⟨ao, c, rfl, hlc, hnil, hc⟩, hok, hlm⟩ := h
  have HC := Lib.hid (And.intro hnil (And.intro hc hok))
  have HAw := Lib.hid (fun (w1 : World) (hb : Below w.heap.size w w1) => awake11_any w1 (hE.below hb))
  have HE := Lib.hid hE
  clear hnil hc hok hE
  go_enter Tryz.func7, Tryz.ntmps7
  go_wp2_with fail
  refine (new_disk w).mono ?_; rintro e w1 ⟨g, rfl, hD1, hg, hb1⟩
  have HO1 := Lib.hid (sopen_any g _ 0 _ ev w1 hD1 free0 (by decide) (HE.out.below hb1))
  have HB1 := Lib.hid (And.intro hb1 hg)
  clear hD1 hb1 hg
  go_wp2_with fail
  refine HO1.out.mono ?_; rintro e w2 hpost
  obtain ⟨P2, s, k, l, Q2, T2, rfl, hA2, hG2, hS2, hq2, hl2, hs2⟩ := opens_good (T := ⟨⟨[], false, false, 0⟩, 0, false⟩) hpost good0
  have hge2 : ∀ i, (P2 i ∨ Q2 i ∨ i = l ∨ i = s) → w.heap.size ≤ i := fun i hi => by
    have hz := HB1.out.1.size
    rcases hi with hi | hi | hi | hi
    · exact (hS2.2 i hi).elim (fun h => by rw [show i = g from h]; exact HB1.out.2) (fun h => by omega)
    · have := hq2 i hi; omega
    · omega
    · omega
  have hB2 : Below w.heap.size w w2 := HB1.out.1.trans (hS2.1.below HB1.out.1.size (fun i hi => by rw [show i = g from hi]; exact HB1.out.2))
  have hlm2 : os.length ≤ 9223372036854775807 := by unfold maxLen at hlm; omega
  clear hpost hS2 hq2 hl2 hs2 HO1 hlm
  go_wp2_with fail
  go_loopw [30] (fun j wr => ∃ (i : Nat) (S : KV.KSt) (P Q : Nat → Prop) (T : WSt) (n : Int), i ≤ os.length ∧ j = .int .i64 i ∧ Hid (SAll wr s g l k P Q T S (max ev 1) n false ∧ GoodS (min i 20) false T S ∧ (0 ≤ n ∧ n ≤ (min i 20 : Nat)) ∧ (∀ i, (P i ∨ Q i ∨ i = l ∨ i = s) → w.heap.size ≤ i) ∧ Below w.heap.size w wr)) (fun j _ => os.length - (intOf j).toNat)
  case atStart => exact ⟨0, ⟨0, []⟩, P2, Q2, T2, 0, Nat.zero_le _, rfl, Lib.hid ⟨hA2, hG2.mono (Nat.zero_le _), ⟨by decide, by simp⟩, hge2, hB2⟩⟩
  case round =>
    obtain ⟨i, S, P, Q, T, n, hi, rfl, HJ⟩ := hrel
    clear hA2 hG2 hge2 hB2
    by_cases hlt : i < os.length
    · obtain ⟨a, rfl⟩ : ∃ a, ao = some a := by
        cases ao with
        | none => rw [HC.out.1 rfl] at hlt; simp at hlt
        | some a => exact ⟨a, rfl⟩
      have hop := HC.out.2.1 a rfl i hlt
      have hokx := HC.out.2.2 (os.getD i default) (by rw [List.getD_eq_getElem?_getD, List.getElem?_eq_getElem hlt]; exact List.getElem_mem hlt)
      generalize os.getD i default = o at hop hokx
      have HBW := Lib.hid HJ.out.2.2.2.2
      obtain ⟨q0, q1, q2, q3, q4, q5⟩ := hop
      have q0 := bcell HBW.out q0
      have q1 := KV.off1 (bcell HBW.out q1)
      have q2 := KV.off2 (bcell HBW.out q2)
      have q3 := KV.off3 (bcell HBW.out q3)
      have q4 := KV.off4 (bcell HBW.out q4)
      have q5 := KV.off5 (bcell HBW.out q5)
      have b0 : (0 : Int) ≤ (i : Int) := by omega
      have b1 : (i : Int) < (os.length : Int) := by omega
      have HLT := Lib.hid hlt
      by_cases h20 : i < 20
      · have d1 : decide ((i : Int) < (20 : Int)) = true := by simp; omega
        have HO := Lib.hid (KV.ours_any o)
        have hv : (KV.ours o).val.size ≤ 100 := KV.cutB_le _ _
        have hk2 : (KV.ours o).key.size ≤ maxLen := Nat.le_trans (KV.cutB_le _ _) (by decide)
        have hk3 : (KV.ours o).iff.size ≤ maxLen := hokx.2.2
        have HX := Lib.hid (And.intro hv (And.intro hk2 hk3))
        have HM : Hid (min i 20 = i ∧ min (i + 1) 20 = i + 1 ∧ i < 20) := Lib.hid ⟨by omega, by omega, h20⟩
        clear hv hk2 hk3 hokx hlt hi h20
        generalize KV.ours o = x at HO HX
        go_upto_region 8 with (first
          | (go_at_call 13; refine (HO.out _).mono ?_; rintro e w2 ⟨rfl, hb2⟩)
          | go_in)
        obtain ⟨w3, hw3⟩ : ∃ w3, w3 = (w2.alloc (KV.opO x)).alloc (KV.opR x) := ⟨_, rfl⟩
        have hb3 : Below wr.heap.size wr w3 := by rw [hw3]; exact belAlloc (belAlloc (bel (belNew _ (KV.opR o)) hb2) (KV.opO x)) (KV.opR x)
        have hx3 : w3.heap[w2.heap.size]? = some (KV.opO x) := by rw [hw3, Below.heap_alloc _ _ _ (by simp)]; exact heap_alloc_new w2 _
        rw [← hw3]
        have hB3 := HBW.out.trans (hb3.mono HBW.out.size)
        have hA3 := HJ.out.1.below hb3
        have hG3 := HJ.out.2.1
        rw [HM.out.1] at hG3
        have HD := Lib.hid (sdo_good s g l k P Q i false T S (max ev 1) n x w w3 hA3 hG3 (by have := HM.out.2.2; omega) HX.out.1 HX.out.2.1 HX.out.2.2 HE.out hB3 HJ.out.2.2.2.1 HJ.out.2.2.1.1 (by have := HJ.out.2.2.1.2; have := HM.out.2.2; omega))
        have H3 := Lib.hid hB3
        obtain ⟨x0, x1, x2, x3, x4, x5⟩ := KV.opcells hx3
        clear hw3 hb3 hb2 hB3 hA3 hG3 q0 q1 q2 q3 q4 q5
        go_wp2_with fail
        refine HD.out.mono ?_; rintro e w4 ⟨P4, Q4, T4, n4, S4, hst4, ⟨vv, rfl, -, -, hG4, hA4, hn0, hn1⟩ | ⟨-, ha, -⟩⟩
        · obtain ⟨hge4, hb4⟩ := hst4.ge HJ.out.2.2.2.1 H3.out.size
          have H4 := Lib.hid (And.intro hA4 (And.intro hG4 (And.intro (And.intro hn0 hn1) (And.intro hge4 (H3.out.trans hb4)))))
          clear hst4 hG4 hA4 hn0 hn1 hge4 hb4 x0 x1 x2 x3 x4 x5 hx3
          go_wp2_with fail
          go_roundw
          case rel => exact ⟨i + 1, S4, P4, Q4, T4, n4, HLT.out, by go_num, Lib.hid ⟨H4.out.1, by rw [HM.out.2.1]; exact H4.out.2.1, ⟨H4.out.2.2.1.1, by have := H4.out.2.2.1.2; have := HJ.out.2.2.1.2; have := HM.out; omega⟩, H4.out.2.2.2⟩⟩
          case measure => simp [intOf]; have := HLT.out; omega
        · cases ha
      · have d1 : decide ((i : Int) < (20 : Int)) = false := by simp; omega
        have HM : Hid (min (i + 1) 20 = min i 20) := Lib.hid (by omega)
        clear h20 hlt hi hokx
        go_wp2_with fail
        go_roundw
        case rel =>
          have hbn := belNew wr (KV.opR o)
          exact ⟨i + 1, S, P, Q, T, n, HLT.out, by go_num, Lib.hid ⟨HJ.out.1.below hbn, by rw [HM.out]; exact HJ.out.2.1, by rw [HM.out]; exact HJ.out.2.2.1, HJ.out.2.2.2.1, HBW.out.trans (hbn.mono HBW.out.size)⟩⟩
        case measure => simp [intOf]; have := HLT.out; omega
    · obtain rfl : i = os.length := by omega
      obtain ⟨m, hm⟩ : ∃ m, m = min os.length 20 := ⟨_, rfl⟩
      have hm20 : m ≤ 20 := by omega
      have HJ2 := HJ.out
      rw [← hm] at HJ2
      have HA := Lib.hid HJ2.1
      have HG := Lib.hid HJ2.2.1
      have HGE := Lib.hid HJ2.2.2.2.1
      have HBW := Lib.hid HJ2.2.2.2.2
      have hri := HJ2.2.1.2.2.2.1.1
      have HRI : Hid (KV.Rising S.L ∧ S.L.length ≤ 1000000) := Lib.hid ⟨hri.1, by have := hri.2.2.2.1; omega⟩
      have HRV := Lib.hid (srev_any s g l k P Q T S (max ev 1) n false wr HJ2.1)
      have HAL := Lib.hid (sall_any s g l k P Q T S (max ev 1) n false wr HJ2.1 HRI.out.1 HRI.out.2)
      clear hm HJ HJ2 hri hlt hi
      go_wp2_with fail
      refine HRV.out.mono ?_; rintro e wz ⟨rfl, rfl⟩
      go_wp2_with fail
      refine HAL.out.mono ?_; rintro e w3 ⟨vy, rfl, hry, hb3⟩
      obtain ⟨ay, cy, rfl⟩ := rowForm hry
      have hB3 := HBW.out.trans (hb3.mono HBW.out.size)
      have HCP := Lib.hid (sCompact_good s g l k P Q m T S (max ev 1) n w w3 (HA.out.below hb3) HG.out (by omega) HE.out hB3 (fun i hi => HGE.out i (Or.inl hi)))
      have H3 := Lib.hid (And.intro hry (And.intro hb3 hB3))
      have HLT : Hid (∀ i, (P i ∨ Q i ∨ i = l ∨ i = s) → i < wr.heap.size) := Lib.hid (fun i hi => by
        rcases hi with hi | hi | hi | hi
        · exact DiskAt.lt HA.out.2.1 hi
        · exact KV.KvAt.own HA.out.2.2.2.1 i hi
        · rw [hi]; exact heap_lt HA.out.2.2.1
        · rw [hi]; exact heap_lt HA.out.1)
      clear hry hb3 hB3
      go_wp2_with fail
      refine HCP.out.mono ?_; rintro e w4 ⟨P4, T4, rfl, hG4, hA4, hst4, fa, fb, fc, hf4, hfa⟩
      obtain ⟨hge4, hb4⟩ := hst4.ge HGE.out H3.out.2.2.size
      have hry4 := rowStay H3.out.1 (fun d hd hlt => hst4.1.2.2.2.2 d hlt (fun h => by have := HLT.out d h; omega))
      have hB4 := H3.out.2.2.trans hb4
      have hrd : ∃ er, readD T4.D nLog.data.toList = ([], er) ∧ (er = 0 ∨ er = 6) := by
        unfold readD
        rw [kL_eq, hf4, f3_L, hG4.2.1]
        rcases hfa with rfl | rfl
        · exact ⟨6, rfl, Or.inr rfl⟩
        · exact ⟨0, rfl, Or.inl rfl⟩
      obtain ⟨er, her, her2⟩ := hrd
      have HRD := Lib.hid (read_any g P4 T4.D nLog w4 hA4.2.1 (by decide) (by have := hG4.at (by omega) nLog.data.toList; omega))
      rw [her] at HRD
      have H4 := Lib.hid (And.intro hA4 (And.intro hG4 (And.intro hge4 (And.intro hB4 hry4))))
      have HK4 : Hid (∀ d, wr.heap.size ≤ d → d < w3.heap.size → w4.heap[d]? = w3.heap[d]?) := Lib.hid (fun d hd hlt => hst4.1.2.2.2.2 d hlt (fun h => by have := HLT.out d h; omega))
      have HZ4 := Lib.hid hst4.1.2.2.2.1
      have HLT4 : Hid (∀ d, wr.heap.size ≤ d → d < w3.heap.size → ¬ P4 d) := Lib.hid (fun d hd hlt hp => (hst4.2.1 d hp).elim (fun h => by have := HLT.out d (Or.inl h); omega) (fun h => by omega))
      clear hG4 hA4 hst4 hf4 hfa hge4 hb4 hry4 hB4 her
      go_wp2_with fail
      refine HRD.out.mono ?_; rintro e w5 ⟨vr, rfl, hor, hb5⟩
      have hor := hor.sees
      obtain ⟨ar, cr, hvr, -⟩ := hor
      subst hvr
      have hB5 := H4.out.2.2.2.1.trans (hb5.mono H4.out.2.2.2.1.size)
      have HO5 := Lib.hid (sopen_any g P4 3 T4.D ev w5 (H4.out.1.2.1.below hb5) (H4.out.2.1.free (by omega)) (by decide) (HE.out.below hB5))
      have H5 := Lib.hid (And.intro hb5 hB5)
      clear hb5 hB5
      go_wp2_with fail
      refine HO5.out.mono ?_; rintro e w6 hpost
      obtain ⟨P6, s', k', l', Q6, T6, rfl, hA6, hG6, hS6, hq6, hl6, hs6⟩ := opens_good hpost H4.out.2.1
      have hAs6 := (H4.out.1.below H5.out.1).moved hS6 hA6.2.1
      obtain ⟨hP6, hb6⟩ := hS6.ge (fun i hi => H4.out.2.2.1 i (Or.inl hi)) H5.out.2.size
      have hB6 := H5.out.2.trans hb6
      have HAL2 := Lib.hid (sall_any s' g l' k' P6 Q6 T6 S (max ev 1) 0 false w6 hA6 HRI.out.1 HRI.out.2)
      have hry6 := rowStay H3.out.1 (fun d hd hlt => by
        have z4 := HZ4.out
        have z5 := H5.out.1.size
        rw [hS6.1.2.2.2.2 d (by omega) (HLT4.out d hd hlt), H5.out.1.block d (by omega), HK4.out d hd hlt])
      have H6 := Lib.hid (And.intro hA6 (And.intro hAs6 (And.intro hB6 hry6)))
      clear hpost hA6 hG6 hS6 hq6 hl6 hs6 hAs6 hP6 hb6 hB6 hry6
      go_wp2_with fail
      refine HAL2.out.mono ?_; rintro e W7 ⟨vx, rfl, hrx, hb7⟩
      obtain ⟨ax, cx, rfl⟩ := rowForm hrx
      have HRV1 := Lib.hid (srev_any s g l k P6 Q _ S (max ev 1) 0 false W7 (H6.out.2.1.below hb7))
      have HLG1 := Lib.hid (slog_any s g k l (max ev 1) 0 false W7 (H6.out.2.1.below hb7).1)
      have HRV2 := Lib.hid (srev_any s' g l' k' P6 Q6 T6 S (max ev 1) 0 false W7 (H6.out.1.below hb7))
      have hsx := KV.RowE.sees hrx
      have hsy := KV.SeesI.below (KV.RowE.sees H6.out.2.2.2) hb7
      obtain ⟨ax', cx', ex, hlx, hnx, hcx⟩ := hsx
      obtain ⟨ay', cy', ey, hly, hny, hcy⟩ := hsy
      obtain ⟨rfl, rfl⟩ : ax = ax' ∧ cx = cx' := by simpa using ex
      obtain ⟨rfl, rfl⟩ : ay = ay' ∧ cy = cy' := by simpa using ey
      have HCX := Lib.hid (And.intro hnx hcx)
      have HCY := Lib.hid (And.intro hny hcy)
      have HB7 := Lib.hid (H6.out.2.2.1.trans (hb7.mono H6.out.2.2.1.size))
      have HNE := Lib.hid neItemC
      have hll : S.L.length ≤ 9223372036854775807 := by have := HRI.out.2; omega
      clear hrx hb7 ex ey hnx hcx hny hcy
      rcases her2 with rfl | rfl
      · go_wp2_with fail
        refine HRV1.out.mono ?_; rintro e wz ⟨rfl, rfl⟩
        go_wp2_with fail
        refine HRV2.out.mono ?_; rintro e wz ⟨rfl, rfl⟩
        go_wp2_with fail
        refine HLG1.out.mono ?_; rintro e wz ⟨rfl, rfl⟩
        go_wp2_with fail
        go_loopw [110] (fun j wr => ∃ i : Nat, i ≤ S.L.length ∧ j = .int .i64 i ∧ Below W7.heap.size W7 wr) (fun j _ => S.L.length - (intOf j).toNat)
        case atStart => exact ⟨0, Nat.zero_le _, rfl, Below.refl _ _⟩
        case round =>
          obtain ⟨i, hi, rfl, hBw⟩ := hrel
          by_cases hlt : i < S.L.length
          · obtain ⟨a, rfl⟩ : ∃ a, ax = some a := by
              cases ax with
              | none => rw [HCX.out.1 rfl] at hlt; simp at hlt
              | some a => exact ⟨a, rfl⟩
            obtain ⟨a', rfl⟩ : ∃ a, ay = some a := by
              cases ay with
              | none => rw [HCY.out.1 rfl] at hlt; simp at hlt
              | some a => exact ⟨a, rfl⟩
            obtain ⟨p, hp⟩ : ∃ p, S.L[i]? = some p := ⟨_, List.getElem?_eq_getElem hlt⟩
            obtain ⟨p0, p1, p2⟩ := HCX.out.2 a rfl i p hp
            have p0 := bcell hBw p0
            have p1 := KV.ofs1 (bcell hBw p1)
            have p2 := KV.ofs2 (bcell hBw p2)
            obtain ⟨q0, q1, q2⟩ := HCY.out.2 a' rfl i p hp
            have q0 := bcell hBw q0
            have q1 := KV.ofs1 (bcell hBw q1)
            have q2 := KV.ofs2 (bcell hBw q2)
            have b0 : (0 : Int) ≤ (i : Int) := by omega
            have b1 : (i : Int) < (S.L.length : Int) := by omega
            have hne := HNE.out p p
            rw [decide_eq_true (rfl : p = p)] at hne
            have HLT : Hid (i < S.L.length ∧ i + 1 ≤ S.L.length ∧ S.L.length - (i + 1) < S.L.length - i) := Lib.hid ⟨hlt, by omega, by omega⟩
            clear hp
            go_upto_region 20 with fail
            obtain ⟨wx, hwx⟩ : ∃ wx, wx = wr := ⟨_, rfl⟩
            subst hwx
            refine wp_region_held_drew (S := (fun W => Below wx.heap.size wx W)) (by kernel_rfl) ?_ (fun r0 => ?_)
            · exact ⟨rfl, rfl, rfl, Nat.le_refl _, fun _ _ => rfl⟩
            refine wpAnyH_take (i := 0) (v := ?_) rfl (by kernel_rfl) (by kernel_rfl) (by kernel_rfl) (fun _ _ _ h => h) (Or.inl ⟨by rfl, ?_⟩) (by assumption) ?_
            rotate_left
            · intro wS hSw
              (try dsimp only at hSw)
              go_simp
              first | done | with_reducible rfl
            try simp only [Act.put, List.getElem_toArray, List.getElem_cons_succ, List.getElem_cons_zero, List.setIfInBounds_toArray, List.set_cons_zero, List.set_cons_succ]
            refine wpAnyH_take (i := 1) (v := ?_) rfl (by kernel_rfl) (by kernel_rfl) (by kernel_rfl) (fun _ _ _ h => h) (Or.inl ⟨by rfl, ?_⟩) (by assumption) ?_
            rotate_left
            · intro wS hSw
              (try dsimp only at hSw)
              go_simp
              first | done | with_reducible rfl
            try simp only [Act.put, List.getElem_toArray, List.getElem_cons_succ, List.getElem_cons_zero, List.setIfInBounds_toArray, List.set_cons_zero, List.set_cons_succ]
            refine wpAnyH_take (i := 2) (v := ?_) rfl (by kernel_rfl) (by kernel_rfl) (by kernel_rfl) (fun _ _ _ h => h) (Or.inl ⟨by rfl, ?_⟩) (by assumption) ?_
            rotate_left
            · intro wS hSw
              (try dsimp only at hSw)
              go_simp
              first | done | with_reducible rfl
            try simp only [Act.put, List.getElem_toArray, List.getElem_cons_succ, List.getElem_cons_zero, List.setIfInBounds_toArray, List.set_cons_zero, List.set_cons_succ]
            refine wpAnyH_take (i := 3) (v := ?_) rfl (by kernel_rfl) (by kernel_rfl) (by kernel_rfl) (fun _ _ _ h => h) (Or.inl ⟨by rfl, ?_⟩) (by assumption) ?_
            rotate_left
            · intro wS hSw
              (try dsimp only at hSw)
              have p0 := bcell hSw p0
              have p1 := bcell hSw p1
              have p2 := bcell hSw p2
              have q0 := bcell hSw q0
              have q1 := bcell hSw q1
              have q2 := bcell hSw q2
              go_simp
              first | done | with_reducible rfl
            try simp only [Act.put, List.getElem_toArray, List.getElem_cons_succ, List.getElem_cons_zero, List.setIfInBounds_toArray, List.set_cons_zero, List.set_cons_succ]
            refine wpAnyH_take (i := 4) (v := ?_) rfl (by kernel_rfl) (by kernel_rfl) (by kernel_rfl) (fun _ _ _ h => h) (Or.inl ⟨by rfl, ?_⟩) (by assumption) ?_
            rotate_left
            · intro wS hSw
              (try dsimp only at hSw)
              go_simp
              first | done | with_reducible rfl
            try simp only [Act.put, List.getElem_toArray, List.getElem_cons_succ, List.getElem_cons_zero, List.setIfInBounds_toArray, List.set_cons_zero, List.set_cons_succ]
            refine wpAnyH_take (i := 5) (v := ?_) rfl (by kernel_rfl) (by kernel_rfl) (by kernel_rfl) (fun _ _ _ h => h) (Or.inl ⟨by rfl, ?_⟩) (by assumption) ?_
            rotate_left
            · intro wS hSw
              (try dsimp only at hSw)
              go_simp
              first | done | with_reducible rfl
            try simp only [Act.put, List.getElem_toArray, List.getElem_cons_succ, List.getElem_cons_zero, List.setIfInBounds_toArray, List.set_cons_zero, List.set_cons_succ]
            refine wpAnyH_take (i := 6) (v := ?_) rfl (by kernel_rfl) (by kernel_rfl) (by kernel_rfl) (fun _ _ _ h => h) (Or.inl ⟨by rfl, ?_⟩) (by assumption) ?_
            rotate_left
            · intro wS hSw
              (try dsimp only at hSw)
              go_simp
              first | done | with_reducible rfl
            try simp only [Act.put, List.getElem_toArray, List.getElem_cons_succ, List.getElem_cons_zero, List.setIfInBounds_toArray, List.set_cons_zero, List.set_cons_succ]
            refine wpAnyH_take (i := 7) (v := ?_) rfl (by kernel_rfl) (by kernel_rfl) (by kernel_rfl) (fun _ _ _ h => h) (Or.inl ⟨by rfl, ?_⟩) (by assumption) ?_
            rotate_left
            · intro wS hSw
              (try dsimp only at hSw)
              have p0 := bcell hSw p0
              have p1 := bcell hSw p1
              have p2 := bcell hSw p2
              have q0 := bcell hSw q0
              have q1 := bcell hSw q1
              have q2 := bcell hSw q2
              go_simp
              first | done | with_reducible rfl
            try simp only [Act.put, List.getElem_toArray, List.getElem_cons_succ, List.getElem_cons_zero, List.setIfInBounds_toArray, List.set_cons_zero, List.set_cons_succ]
            refine wpAnyH_take (i := 8) (v := ?_) rfl (by kernel_rfl) (by kernel_rfl) (by kernel_rfl) (fun _ _ _ h => h) (Or.inl ⟨by rfl, ?_⟩) (by assumption) ?_
            rotate_left
            · intro wS hSw
              (try dsimp only at hSw)
              go_simp
              first | done | with_reducible rfl
            try simp only [Act.put, List.getElem_toArray, List.getElem_cons_succ, List.getElem_cons_zero, List.setIfInBounds_toArray, List.set_cons_zero, List.set_cons_succ]
            refine wpAnyH_done (by kernel_rfl) ?_ _
            have HBX := Lib.hid (hBw.trans (r0.mono hBw.size))
            clear r0 p0 p1 p2 q0 q1 q2 hBw
            go_wp2_with fail
            go_roundw
            case rel => exact ⟨i + 1, HLT.out.2.1, by go_num, HBX.out⟩
            case measure => simp [intOf]; have := HLT.out; omega
          · obtain rfl : i = S.L.length := by omega
            have HBW := Lib.hid (HB7.out.trans (hBw.mono HB7.out.size))
            clear hBw
            go_wp2_with fail
            refine (HAw.out _ HBW.out).mono ?_; rintro e w8 ⟨rfl, hb8⟩
            have HB8 := Lib.hid (HBW.out.trans (hb8.mono HBW.out.size))
            clear hb8
            go_wp2_with fail
            go_ret
            exact ⟨rfl, HB8.out⟩
      · go_wp2_with fail
        refine HRV1.out.mono ?_; rintro e wz ⟨rfl, rfl⟩
        go_wp2_with fail
        refine HRV2.out.mono ?_; rintro e wz ⟨rfl, rfl⟩
        go_wp2_with fail
        refine HLG1.out.mono ?_; rintro e wz ⟨rfl, rfl⟩
        go_wp2_with fail
        go_loopw [110] (fun j wr => ∃ i : Nat, i ≤ S.L.length ∧ j = .int .i64 i ∧ Below W7.heap.size W7 wr) (fun j _ => S.L.length - (intOf j).toNat)
        case atStart => exact ⟨0, Nat.zero_le _, rfl, Below.refl _ _⟩
        case round =>
          obtain ⟨i, hi, rfl, hBw⟩ := hrel
          by_cases hlt : i < S.L.length
          · obtain ⟨a, rfl⟩ : ∃ a, ax = some a := by
              cases ax with
              | none => rw [HCX.out.1 rfl] at hlt; simp at hlt
              | some a => exact ⟨a, rfl⟩
            obtain ⟨a', rfl⟩ : ∃ a, ay = some a := by
              cases ay with
              | none => rw [HCY.out.1 rfl] at hlt; simp at hlt
              | some a => exact ⟨a, rfl⟩
            obtain ⟨p, hp⟩ : ∃ p, S.L[i]? = some p := ⟨_, List.getElem?_eq_getElem hlt⟩
            obtain ⟨p0, p1, p2⟩ := HCX.out.2 a rfl i p hp
            have p0 := bcell hBw p0
            have p1 := KV.ofs1 (bcell hBw p1)
            have p2 := KV.ofs2 (bcell hBw p2)
            obtain ⟨q0, q1, q2⟩ := HCY.out.2 a' rfl i p hp
            have q0 := bcell hBw q0
            have q1 := KV.ofs1 (bcell hBw q1)
            have q2 := KV.ofs2 (bcell hBw q2)
            have b0 : (0 : Int) ≤ (i : Int) := by omega
            have b1 : (i : Int) < (S.L.length : Int) := by omega
            have hne := HNE.out p p
            rw [decide_eq_true (rfl : p = p)] at hne
            have HLT : Hid (i < S.L.length ∧ i + 1 ≤ S.L.length ∧ S.L.length - (i + 1) < S.L.length - i) := Lib.hid ⟨hlt, by omega, by omega⟩
            clear hp
            go_upto_region 20 with fail
            obtain ⟨wx, hwx⟩ : ∃ wx, wx = wr := ⟨_, rfl⟩
            subst hwx
            refine wp_region_held_drew (S := (fun W => Below wx.heap.size wx W)) (by kernel_rfl) ?_ (fun r0 => ?_)
            · exact ⟨rfl, rfl, rfl, Nat.le_refl _, fun _ _ => rfl⟩
            refine wpAnyH_take (i := 0) (v := ?_) rfl (by kernel_rfl) (by kernel_rfl) (by kernel_rfl) (fun _ _ _ h => h) (Or.inl ⟨by rfl, ?_⟩) (by assumption) ?_
            rotate_left
            · intro wS hSw
              (try dsimp only at hSw)
              go_simp
              first | done | with_reducible rfl
            try simp only [Act.put, List.getElem_toArray, List.getElem_cons_succ, List.getElem_cons_zero, List.setIfInBounds_toArray, List.set_cons_zero, List.set_cons_succ]
            refine wpAnyH_take (i := 1) (v := ?_) rfl (by kernel_rfl) (by kernel_rfl) (by kernel_rfl) (fun _ _ _ h => h) (Or.inl ⟨by rfl, ?_⟩) (by assumption) ?_
            rotate_left
            · intro wS hSw
              (try dsimp only at hSw)
              go_simp
              first | done | with_reducible rfl
            try simp only [Act.put, List.getElem_toArray, List.getElem_cons_succ, List.getElem_cons_zero, List.setIfInBounds_toArray, List.set_cons_zero, List.set_cons_succ]
            refine wpAnyH_take (i := 2) (v := ?_) rfl (by kernel_rfl) (by kernel_rfl) (by kernel_rfl) (fun _ _ _ h => h) (Or.inl ⟨by rfl, ?_⟩) (by assumption) ?_
            rotate_left
            · intro wS hSw
              (try dsimp only at hSw)
              go_simp
              first | done | with_reducible rfl
            try simp only [Act.put, List.getElem_toArray, List.getElem_cons_succ, List.getElem_cons_zero, List.setIfInBounds_toArray, List.set_cons_zero, List.set_cons_succ]
            refine wpAnyH_take (i := 3) (v := ?_) rfl (by kernel_rfl) (by kernel_rfl) (by kernel_rfl) (fun _ _ _ h => h) (Or.inl ⟨by rfl, ?_⟩) (by assumption) ?_
            rotate_left
            · intro wS hSw
              (try dsimp only at hSw)
              have p0 := bcell hSw p0
              have p1 := bcell hSw p1
              have p2 := bcell hSw p2
              have q0 := bcell hSw q0
              have q1 := bcell hSw q1
              have q2 := bcell hSw q2
              go_simp
              first | done | with_reducible rfl
            try simp only [Act.put, List.getElem_toArray, List.getElem_cons_succ, List.getElem_cons_zero, List.setIfInBounds_toArray, List.set_cons_zero, List.set_cons_succ]
            refine wpAnyH_take (i := 4) (v := ?_) rfl (by kernel_rfl) (by kernel_rfl) (by kernel_rfl) (fun _ _ _ h => h) (Or.inl ⟨by rfl, ?_⟩) (by assumption) ?_
            rotate_left
            · intro wS hSw
              (try dsimp only at hSw)
              go_simp
              first | done | with_reducible rfl
            try simp only [Act.put, List.getElem_toArray, List.getElem_cons_succ, List.getElem_cons_zero, List.setIfInBounds_toArray, List.set_cons_zero, List.set_cons_succ]
            refine wpAnyH_take (i := 5) (v := ?_) rfl (by kernel_rfl) (by kernel_rfl) (by kernel_rfl) (fun _ _ _ h => h) (Or.inl ⟨by rfl, ?_⟩) (by assumption) ?_
            rotate_left
            · intro wS hSw
              (try dsimp only at hSw)
              go_simp
              first | done | with_reducible rfl
            try simp only [Act.put, List.getElem_toArray, List.getElem_cons_succ, List.getElem_cons_zero, List.setIfInBounds_toArray, List.set_cons_zero, List.set_cons_succ]
            refine wpAnyH_take (i := 6) (v := ?_) rfl (by kernel_rfl) (by kernel_rfl) (by kernel_rfl) (fun _ _ _ h => h) (Or.inl ⟨by rfl, ?_⟩) (by assumption) ?_
            rotate_left
            · intro wS hSw
              (try dsimp only at hSw)
              go_simp
              first | done | with_reducible rfl
            try simp only [Act.put, List.getElem_toArray, List.getElem_cons_succ, List.getElem_cons_zero, List.setIfInBounds_toArray, List.set_cons_zero, List.set_cons_succ]
            refine wpAnyH_take (i := 7) (v := ?_) rfl (by kernel_rfl) (by kernel_rfl) (by kernel_rfl) (fun _ _ _ h => h) (Or.inl ⟨by rfl, ?_⟩) (by assumption) ?_
            rotate_left
            · intro wS hSw
              (try dsimp only at hSw)
              have p0 := bcell hSw p0
              have p1 := bcell hSw p1
              have p2 := bcell hSw p2
              have q0 := bcell hSw q0
              have q1 := bcell hSw q1
              have q2 := bcell hSw q2
              go_simp
              first | done | with_reducible rfl
            try simp only [Act.put, List.getElem_toArray, List.getElem_cons_succ, List.getElem_cons_zero, List.setIfInBounds_toArray, List.set_cons_zero, List.set_cons_succ]
            refine wpAnyH_take (i := 8) (v := ?_) rfl (by kernel_rfl) (by kernel_rfl) (by kernel_rfl) (fun _ _ _ h => h) (Or.inl ⟨by rfl, ?_⟩) (by assumption) ?_
            rotate_left
            · intro wS hSw
              (try dsimp only at hSw)
              go_simp
              first | done | with_reducible rfl
            try simp only [Act.put, List.getElem_toArray, List.getElem_cons_succ, List.getElem_cons_zero, List.setIfInBounds_toArray, List.set_cons_zero, List.set_cons_succ]
            refine wpAnyH_done (by kernel_rfl) ?_ _
            have HBX := Lib.hid (hBw.trans (r0.mono hBw.size))
            clear r0 p0 p1 p2 q0 q1 q2 hBw
            go_wp2_with fail
            go_roundw
            case rel => exact ⟨i + 1, HLT.out.2.1, by go_num, HBX.out⟩
            case measure => simp [intOf]; have := HLT.out; omega
          · obtain rfl : i = S.L.length := by omega
            have HBW := Lib.hid (HB7.out.trans (hBw.mono HB7.out.size))
            clear hBw
            go_wp2_with fail
            refine (HAw.out _ HBW.out).mono ?_; rintro e w8 ⟨rfl, hb8⟩
            have HB8 := Lib.hid (HBW.out.trans (hb8.mono HBW.out.size))
            clear hb8
            go_wp2_with fail
            go_ret
            exact ⟨rfl, HB8.out⟩
end Go.Proofs.YtbbefakmpmniiaaGreatDoor
