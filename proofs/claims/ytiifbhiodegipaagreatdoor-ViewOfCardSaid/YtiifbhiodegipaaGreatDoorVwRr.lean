/- The document's view: Read of a block's key, any. Made by g_vwrq.py. -/
import Derived.Test.YtiifbhiodegipaaGreatDoorVwOf
import Derived.Test.YtiifbhiodegipaaGreatDoorVwRq
namespace Go.Proofs.YtiifbhiodegipaaGreatDoor
open Go.RowKit
theorem db_form {w w' : World} {s : ByteArray} {e : Ending} (h : DbPost w s e w') : ∃ A F o1 n1 c1 o2 n2 c2 o3 n3 c3, e = .returned (.tuple #[docV A F (.slice o1 n1 c1) (.slice o2 n2 c2) (.slice o3 n3 c3), .bool (imOk s)]) ∧ Below w.heap.size w w' ∧ (imOk s = true → A = (imC s).addr ∧ F = (imC s).aff ∧ DocSees w' (imC s).sl (imC s).free (imC s).attrs (.slice o1 n1 c1) (.slice o2 n2 c2) (.slice o3 n3 c3) ∧ ∀ d, ((Value.slice o1 n1 c1).ownBlock = some d ∨ (Value.slice o2 n2 c2).ownBlock = some d ∨ (Value.slice o3 n3 c3).ownBlock = some d) → w.heap.size ≤ d ∧ d < w'.heap.size) := by
  unfold DbPost at h
  rw [dbOk_eq] at h
  split at h
  · rename_i hk
    obtain ⟨v1, v2, v3, rfl, hds, hb, hlo⟩ := h
    obtain ⟨a1, c1, rfl⟩ := hds.slots.slice
    obtain ⟨a2, c2, rfl⟩ := hds.free.slice
    obtain ⟨a3, c3, rfl⟩ := hds.attrs.slice
    exact ⟨_, _, a1, _, c1, a2, _, c2, a3, _, c3, by rw [hk], hb, fun _ => ⟨rfl, rfl, hds, hlo⟩⟩
  · rename_i hk
    obtain ⟨rfl, hb⟩ := h
    exact ⟨0, ⟨#[]⟩, none, 0, 0, none, 0, 0, none, 0, 0, by rw [Bool.eq_false_iff.2 hk], hb, fun h => absurd h hk⟩
theorem DocSees.keep18 {w w' : World} {sl free : List Int} {attrs : List PA} {v1 v2 v3 : Value} (h : DocSees w sl free attrs v1 v2 v3) (hb : ∀ d, (v1.ownBlock = some d ∨ v2.ownBlock = some d ∨ v3.ownBlock = some d) → d < w.heap.size → w'.heap[d]? = w.heap[d]?) : DocSees w' sl free attrs v1 v2 v3 :=
  ⟨h.slots.keep (fun d hd => hb d (Or.inl hd)), h.free.keep (fun d hd => hb d (Or.inr (Or.inl hd))), h.attrs.keep (fun d hd => hb d (Or.inr (Or.inr hd)))⟩
def rdBl (k v : ByteArray) : DR := match dnet (NM.rest k NM.pBlk).data.toList with
  | some p => if (imOk v && (p.2 == 26 && p.1 == (imC v).addr)) = true then .blk (imC v) else .no
  | none => .no
set_option maxRecDepth 100000 in
set_option maxHeartbeats 16000000 in
theorem refReadBl_any (k val : ByteArray) (w : World) (hk : k.size ≤ 590) (hv : val.size ≤ 600) (hP : NM.starts k NM.pPool = false) (hB : NM.starts k NM.pBlk = true) :
    Calls Tryz.prog 26 #[.string k, .string val] w (RdPost w (rdBl k val)) := by
  have hkm : k.size ≤ maxLen := Nat.le_trans hk (by decide)
  have HB1 := Lib.hid (fun w => refBehind_any k NM.pPool w hkm (by decide))
  rw [hP, if_neg (by simp)] at HB1
  have HB2 := Lib.hid (fun w => refBehind_any k NM.pBlk w hkm (by decide))
  rw [hB, if_pos rfl] at HB2
  have hrk : (NM.rest k NM.pBlk).size ≤ 590 := Nat.le_trans (NM.rest_size k NM.pBlk) hk
  have d0 := notLock hB rfl (by decide)
  obtain ⟨W, hW⟩ : ∃ W, W = w.alloc (.cells recZ.toArray TRec) := ⟨_, rfl⟩
  have hb0 : Below w.heap.size w W := by rw [hW]; exact belNew w _
  have hR : At W w.heap.size TRec recZ := by rw [hW]; exact heap_alloc_new w _
  have HW := Lib.hid hW
  have H0 := Lib.hid (And.intro hb0 hR)
  clear hW hb0 hR hkm
  have HN := Lib.hid (fun w => refNetV_any (NM.rest k NM.pBlk) w (by omega))
  have HBK := Lib.hid (fun w => refBlock_any val w hv)
  obtain ⟨R, hR⟩ : ∃ R, R = rdBl k val := ⟨_, rfl⟩
  rw [← hR]
  have HR : Hid (R = match dnet (NM.rest k NM.pBlk).data.toList with | some p => if (imOk val && (p.2 == 26 && p.1 == (imC val).addr)) = true then .blk (imC val) else .no | none => .no) := Lib.hid hR
  obtain ⟨A, B, kb, hV, hV1, hV2⟩ := netV_form2 (dnet (NM.rest k NM.pBlk).data.toList)
  rw [hV] at HN
  have HV := Lib.hid (And.intro hV1 hV2)
  clear hR hP hB hk hv hrk hV hV1 hV2
  generalize NM.rest k NM.pBlk = rs at *
  go_enter Tryz.func26, Tryz.ntmps26
  go_upto_region 1 with fail
  change Code.wp _ _ _ _ (w.alloc (.cells recZ.toArray TRec))
  rw [← HW.out]
  clear HW
  go_wp2_with fail
  refine (HB1.out _).mono ?_; rintro e w1 ⟨rfl, hb1⟩
  go_wp2_with fail
  refine (HB2.out _).mono ?_; rintro e w2 ⟨rfl, hb2⟩
  have HQ := Lib.hid (bel hb1 hb2)
  clear hb1 hb2
  have HX := Lib.hid (And.intro (bel H0.out.1 HQ.out) ((HQ.out.block _ (heap_lt H0.out.2)).trans H0.out.2))
  clear HQ H0
  go_wp2_with fail
  refine (HN.out _).mono ?_; rintro e wn ⟨rfl, hbn⟩
  have hb5 := bel hbn (belNew wn (netRO A B))
  have hn5 : (wn.alloc (netRO A B)).heap[wn.heap.size]? = some (.cells #[.int .u32 A, .int .i64 B] 43 (0, 0)) := heap_alloc_new wn _
  have HX5 := Lib.hid (And.intro (bel HX.out.1 hb5) ((hb5.block _ (heap_lt HX.out.2)).trans HX.out.2))
  go_upto_region 17 with fail
  obtain ⟨w5, hw5⟩ : ∃ w5, w5 = wn.alloc (netRO A B) := ⟨_, rfl⟩
  rw [← hw5] at HX5 hn5 ⊢
  obtain ⟨gn, hgn⟩ : ∃ gn, gn = wn.heap.size := ⟨_, rfl⟩
  rw [← hgn] at hn5 ⊢
  have HN5 := Lib.hid hn5
  clear hgn hw5 hbn hb5 hn5 HN HX
  obtain ⟨ok, hok⟩ : ∃ ok, ok = imOk val := ⟨_, rfl⟩
  have HOK := Lib.hid hok
  clear hok
  go_wp2_with fail
  refine (HBK.out _).mono ?_; intro e w6 hdb
  obtain ⟨A', F', o1, n1, c1, o2, n2, c2, o3, n3, c3, rfl, hb6, hds⟩ := db_form hdb
  rw [← HOK.out] at hds ⊢
  clear hdb HBK
  have hb7 := bel hb6 (belNew w6 (docO A' F' (.slice o1 n1 c1) (.slice o2 n2 c2) (.slice o3 n3 c3)))
  have HX := Lib.hid (And.intro (bel HX5.out.1 hb7) ((hb7.block _ (heap_lt HX5.out.2)).trans HX5.out.2))
  have hn7 := (hb7.block _ (heap_lt HN5.out)).trans HN5.out
  have hd7 := heap_alloc_new w6 (docO A' F' (.slice o1 n1 c1) (.slice o2 n2 c2) (.slice o3 n3 c3))
  have HDS : Hid (ok = true → A' = (imC val).addr ∧ F' = (imC val).aff ∧ DocSees (w6.alloc (docO A' F' (.slice o1 n1 c1) (.slice o2 n2 c2) (.slice o3 n3 c3))) (imC val).sl (imC val).free (imC val).attrs (.slice o1 n1 c1) (.slice o2 n2 c2) (.slice o3 n3 c3) ∧ ∀ d, ((Value.slice o1 n1 c1).ownBlock = some d ∨ (Value.slice o2 n2 c2).ownBlock = some d ∨ (Value.slice o3 n3 c3).ownBlock = some d) → w.heap.size < d ∧ d < (w6.alloc (docO A' F' (.slice o1 n1 c1) (.slice o2 n2 c2) (.slice o3 n3 c3))).heap.size) := Lib.hid (fun h => ⟨(hds h).1, (hds h).2.1, (hds h).2.2.1.below (belNew w6 _), fun d hd => ⟨Nat.lt_of_lt_of_le (heap_lt HX5.out.2) ((hds h).2.2.2 d hd).1, Nat.lt_of_lt_of_le ((hds h).2.2.2 d hd).2 (belNew w6 _).size⟩⟩)
  go_upto_region 18 with fail
  obtain ⟨w7, hw7⟩ : ∃ w7, w7 = w6.alloc (docO A' F' (.slice o1 n1 c1) (.slice o2 n2 c2) (.slice o3 n3 c3)) := ⟨_, rfl⟩
  rw [← hw7] at HX hn7 hd7 HDS ⊢
  obtain ⟨k0, k1⟩ := cells2 hn7
  obtain ⟨b0, b1, b2, b3, b4⟩ := vcells5 hd7
  clear hw7 hb6 hb7 hn7 hd7 hds HX5 HN5
  generalize hdb : (B == 26) = db
  generalize hda : (A == A') = da
  have HDD := Lib.hid (And.intro hdb hda)
  cases kb with
  | false =>
    obtain rfl : R = .no := by rw [HR.out, HV.out.2 rfl]
    clear HV HR HDS HDD HOK
    go_wp2_with (refine wpStG (T := TRec) (L0 := recZ) (L := recZ) rfl _ _ rfl rfl rfl HX.out.2 (n := 14) rfl rfl infoRec (recN_one _ _ _) ?_; intro w7 hx7 hg7)
    refine bodyPost_ret (resB1 Tryz.results26 rfl (At.load hx7 (n := 14) rfl infoRec Tryz.underlying52)) rfl ⟨sNo4, rfl, trivial, (fun d h => noOwn d h), HX.out.1.grown hg7 HX.out.1.size (fun k hk => by cases hk; exact Nat.le_refl _)⟩
  | true =>
    have HRE : Hid (R = if (imOk val && (B == 26 && A == (imC val).addr)) = true then .blk (imC val) else .no) := Lib.hid (by rw [HR.out, HV.out.1 rfl])
    clear HR HV
    cases ok with
    | false =>
      obtain rfl : R = .no := by rw [HRE.out, ← HOK.out]; rfl
      clear HRE HDS HDD HOK
      go_wp2_with (refine wpStG (T := TRec) (L0 := recZ) (L := recZ) rfl _ _ rfl rfl rfl HX.out.2 (n := 14) rfl rfl infoRec (recN_one _ _ _) ?_; intro w7 hx7 hg7)
      refine bodyPost_ret (resB1 Tryz.results26 rfl (At.load hx7 (n := 14) rfl infoRec Tryz.underlying52)) rfl ⟨sNo4, rfl, trivial, (fun d h => noOwn d h), HX.out.1.grown hg7 HX.out.1.size (fun k hk => by cases hk; exact Nat.le_refl _)⟩
    | true =>
      obtain ⟨rfl, rfl, hds⟩ := HDS.out rfl
      have HD := Lib.hid hds
      have HRF : Hid (R = if (db && da) = true then .blk (imC val) else .no) := Lib.hid (by rw [HRE.out, ← HOK.out, HDD.out.1, HDD.out.2]; rfl)
      clear HRE HDS HDD HOK hds
      cases db with
      | false =>
        obtain rfl : R = .no := by rw [HRF.out]; rfl
        clear HRF HD
        go_wp2_with (refine wpStG (T := TRec) (L0 := recZ) (L := recZ) rfl _ _ rfl rfl rfl HX.out.2 (n := 14) rfl rfl infoRec (recN_one _ _ _) ?_; intro w7 hx7 hg7)
        refine bodyPost_ret (resB1 Tryz.results26 rfl (At.load hx7 (n := 14) rfl infoRec Tryz.underlying52)) rfl ⟨sNo4, rfl, trivial, (fun d h => noOwn d h), HX.out.1.grown hg7 HX.out.1.size (fun k hk => by cases hk; exact Nat.le_refl _)⟩
      | true =>
        cases da with
        | false =>
          obtain rfl : R = .no := by rw [HRF.out]; rfl
          clear HRF HD
          go_wp2_with (refine wpStG (T := TRec) (L0 := recZ) (L := recZ) rfl _ _ rfl rfl rfl HX.out.2 (n := 14) rfl rfl infoRec (recN_one _ _ _) ?_; intro w7 hx7 hg7)
          refine bodyPost_ret (resB1 Tryz.results26 rfl (At.load hx7 (n := 14) rfl infoRec Tryz.underlying52)) rfl ⟨sNo4, rfl, trivial, (fun d h => noOwn d h), HX.out.1.grown hg7 HX.out.1.size (fun k hk => by cases hk; exact Nat.le_refl _)⟩
        | true =>
          obtain rfl : R = .blk (imC val) := by rw [HRF.out]; rfl
          clear HRF
          go_wp2_with (refine wpStG (T := TRec) (L0 := recZ) (L := recL 2 (imC val).addr (imC val).aff (.slice o1 n1 c1) (.slice o2 n2 c2) (.slice o3 n3 c3)) rfl _ _ rfl rfl rfl HX.out.2 (n := 14) rfl rfl infoRec (recL_one _ _ _ _ _ _ _ _ _ _ _ _) ?_; intro w7 hx7 hg7)
          refine bodyPost_ret (resB1 Tryz.results26 rfl (At.load hx7 (n := 14) rfl infoRec Tryz.underlying52)) rfl ⟨((o1, n1, c1), (o2, n2, c2), (o3, n3, c3), sNo), rfl, (show DocSees _ _ _ _ (.slice o1 n1 c1) (.slice o2 n2 c2) (.slice o3 n3 c3) from HD.out.1.keep18 (fun d hd hl => hg7.block d hl (fun e => by cases e; exact absurd (HD.out.2 _ hd).1 (Nat.lt_irrefl _)))), (fun d hd => by rcases hd with h | h | h | h; exact (HD.out.2 d (Or.inl h)).imp Nat.le_of_lt (Nat.lt_of_lt_of_le · hg7.size); exact (HD.out.2 d (Or.inr (Or.inl h))).imp Nat.le_of_lt (Nat.lt_of_lt_of_le · hg7.size); exact (HD.out.2 d (Or.inr (Or.inr h))).imp Nat.le_of_lt (Nat.lt_of_lt_of_le · hg7.size); cases h), HX.out.1.grown hg7 HX.out.1.size (fun k hk => by cases hk; exact Nat.le_refl _)⟩
end Go.Proofs.YtiifbhiodegipaaGreatDoor
namespace Go.Proofs.YtiifbhiodegipaaGreatDoor
open Go.RowKit
def rdAf (k v : ByteArray) : DR := match affP (NM.rest k NM.pAff), affRd v with
  | some p, some st => .aff p.1 p.2 st
  | _, _ => .no
theorem recAo_eq (o : Option (ByteArray × Int)) (q : Option Int) : recAo o q = encR ((match o, q with
  | some p, some st => DR.aff p.1 p.2 st
  | _, _ => DR.no), sNo4) := by
  cases o with
  | none => rfl
  | some p => cases q <;> rfl
theorem rdAf_ok (w : World) (k v : ByteArray) : ROk w (rdAf k v, sNo4) := by
  unfold rdAf
  cases affP (NM.rest k NM.pAff) with
  | none => trivial
  | some p => cases affRd v <;> trivial
def rdHn (k v : ByteArray) : DR := if (HN.okHB v && NM.okName (NM.rest k NM.pHan).data.toList) = true then .han (NM.rest k NM.pHan) (HN.readR v).1 else .no
theorem ct_form {w w' : World} {s : ByteArray} {v : Value} (h : HN.okHB s = true → HN.SeesC w' v (HN.readR s).1 ∧ ∀ d, v.ownBlock = some d → w.heap.size ≤ d ∧ d < w'.heap.size) : ∃ o n c, ctV (HN.okHB s) v = .tuple #[.slice o n c, .bool (HN.okHB s)] ∧ (HN.okHB s = true → HN.SeesC w' (.slice o n c) (HN.readR s).1 ∧ ∀ d, (Value.slice o n c).ownBlock = some d → w.heap.size ≤ d ∧ d < w'.heap.size) := by
  cases hk : HN.okHB s with
  | false => exact ⟨none, 0, 0, rfl, (fun h => by cases h)⟩
  | true =>
    have h' := h hk
    obtain ⟨ao, c, rfl, -⟩ := id h'.1
    exact ⟨ao, _, c, rfl, fun _ => h'⟩
set_option maxRecDepth 100000 in
set_option maxHeartbeats 16000000 in
theorem refReadAf_any (k val : ByteArray) (w : World) (hk : k.size ≤ 590) (hP : NM.starts k NM.pPool = false) (hB : NM.starts k NM.pBlk = false) (hA : NM.starts k NM.pAff = true) :
    Calls Tryz.prog 26 #[.string k, .string val] w (RdPost w (rdAf k val)) := by
  have hkm : k.size ≤ maxLen := Nat.le_trans hk (by decide)
  have HB1 := Lib.hid (fun w => refBehind_any k NM.pPool w hkm (by decide))
  rw [hP, if_neg (by simp)] at HB1
  have HB2 := Lib.hid (fun w => refBehind_any k NM.pBlk w hkm (by decide))
  rw [hB, if_neg (by simp)] at HB2
  have HB3 := Lib.hid (fun w => refBehind_any k NM.pAff w hkm (by decide))
  rw [hA, if_pos rfl] at HB3
  have hrk : (NM.rest k NM.pAff).size ≤ 590 := Nat.le_trans (NM.rest_size k NM.pAff) hk
  have d0 := notLock hA rfl (by decide)
  obtain ⟨W, hW⟩ : ∃ W, W = w.alloc (.cells recZ.toArray TRec) := ⟨_, rfl⟩
  have hb0 : Below w.heap.size w W := by rw [hW]; exact belNew w _
  have hR : At W w.heap.size TRec recZ := by rw [hW]; exact heap_alloc_new w _
  have HW := Lib.hid hW
  have H0 := Lib.hid (And.intro hb0 hR)
  clear hW hb0 hR hkm
  have HAF := Lib.hid (fun w => refAff18_any (NM.rest k NM.pAff) val w hrk)
  obtain ⟨L, hL⟩ : ∃ L, L = recAo (affP (NM.rest k NM.pAff)) (affRd val) := ⟨_, rfl⟩
  rw [← hL] at HAF
  have HL : Hid (L = encR (rdAf k val, sNo4)) := Lib.hid (hL.trans (recAo_eq _ _))
  have HOK := Lib.hid (fun w => rdAf_ok w k val)
  clear hP hB hA hk hrk hL
  generalize rdAf k val = R at *
  generalize NM.rest k NM.pAff = rs at *
  go_enter Tryz.func26, Tryz.ntmps26
  go_upto_region 1 with fail
  change Code.wp _ _ _ _ (w.alloc (.cells recZ.toArray TRec))
  rw [← HW.out]
  clear HW
  go_wp2_with fail
  refine (HB1.out _).mono ?_; rintro e w1 ⟨rfl, hb1⟩
  go_wp2_with fail
  refine (HB2.out _).mono ?_; rintro e w2 ⟨rfl, hb2⟩
  go_wp2_with fail
  refine (HB3.out _).mono ?_; rintro e w3 ⟨rfl, hb3⟩
  have HQ := Lib.hid (bel (bel hb1 hb2) hb3)
  clear hb1 hb2 hb3
  have HX := Lib.hid (And.intro (bel H0.out.1 HQ.out) ((HQ.out.block _ (heap_lt H0.out.2)).trans H0.out.2))
  clear HQ H0
  go_wp2_with fail
  refine (HAF.out _).mono ?_; rintro e w6 ⟨rfl, hb6⟩
  have HX6 := Lib.hid (And.intro (bel HX.out.1 hb6) ((hb6.block _ (heap_lt HX.out.2)).trans HX.out.2))
  clear hb6 HX HAF
  obtain rfl := HL.out
  go_wp2_with (refine wpStG (T := TRec) (L0 := recZ) (L := encR (R, sNo4)) rfl _ _ rfl rfl rfl HX6.out.2 (n := 14) rfl (encR_len _) infoRec (encR_one _) ?_; intro w7 hx7 hg7)
  refine bodyPost_ret (resB1 Tryz.results26 rfl (At.load hx7 (n := 14) (encR_len _) infoRec Tryz.underlying52)) rfl ⟨sNo4, rfl, HOK.out _, (fun d h => noOwn d h), HX6.out.1.grown hg7 HX6.out.1.size (fun k hk => by cases hk; exact Nat.le_refl _)⟩
set_option maxRecDepth 100000 in
set_option maxHeartbeats 16000000 in
theorem refReadHn_any (k val : ByteArray) (w : World) (hk : k.size ≤ 590) (hv : val.size ≤ 600) (hP : NM.starts k NM.pPool = false) (hB : NM.starts k NM.pBlk = false) (hA : NM.starts k NM.pAff = false) (hH : NM.starts k NM.pHan = true) :
    Calls Tryz.prog 26 #[.string k, .string val] w (RdPost w (rdHn k val)) := by
  have hkm : k.size ≤ maxLen := Nat.le_trans hk (by decide)
  have HB1 := Lib.hid (fun w => refBehind_any k NM.pPool w hkm (by decide))
  rw [hP, if_neg (by simp)] at HB1
  have HB2 := Lib.hid (fun w => refBehind_any k NM.pBlk w hkm (by decide))
  rw [hB, if_neg (by simp)] at HB2
  have HB3 := Lib.hid (fun w => refBehind_any k NM.pAff w hkm (by decide))
  rw [hA, if_neg (by simp)] at HB3
  have HB4 := Lib.hid (fun w => refBehind_any k NM.pHan w hkm (by decide))
  rw [hH, if_pos rfl] at HB4
  have hrk : (NM.rest k NM.pHan).size ≤ 590 := Nat.le_trans (NM.rest_size k NM.pHan) hk
  have d0 := notLock hH rfl (by decide)
  obtain ⟨W, hW⟩ : ∃ W, W = w.alloc (.cells recZ.toArray TRec) := ⟨_, rfl⟩
  have hb0 : Below w.heap.size w W := by rw [hW]; exact belNew w _
  have hR : At W w.heap.size TRec recZ := by rw [hW]; exact heap_alloc_new w _
  have HW := Lib.hid hW
  have H0 := Lib.hid (And.intro hb0 hR)
  clear hW hb0 hR hkm
  have HCT := Lib.hid (fun w => refCounts_any val w hv)
  have HRT := Lib.hid (fun w => NM.refRight12_any (NM.rest k NM.pHan) w (by unfold maxLen; omega))
  obtain ⟨R, hR⟩ : ∃ R, R = rdHn k val := ⟨_, rfl⟩
  rw [← hR]
  have HR : Hid (R = if (HN.okHB val && NM.okName (NM.rest k NM.pHan).data.toList) = true then .han (NM.rest k NM.pHan) (HN.readR val).1 else .no) := Lib.hid hR
  clear hR hP hB hA hH hk hrk hv
  generalize NM.rest k NM.pHan = rs at *
  generalize hon : NM.okName rs.data.toList = on at *
  go_enter Tryz.func26, Tryz.ntmps26
  go_upto_region 1 with fail
  change Code.wp _ _ _ _ (w.alloc (.cells recZ.toArray TRec))
  rw [← HW.out]
  clear HW
  go_wp2_with fail
  refine (HB1.out _).mono ?_; rintro e w1 ⟨rfl, hb1⟩
  go_wp2_with fail
  refine (HB2.out _).mono ?_; rintro e w2 ⟨rfl, hb2⟩
  go_wp2_with fail
  refine (HB3.out _).mono ?_; rintro e w3 ⟨rfl, hb3⟩
  go_wp2_with fail
  refine (HB4.out _).mono ?_; rintro e w4 ⟨rfl, hb4⟩
  have HQ := Lib.hid (bel (bel (bel hb1 hb2) hb3) hb4)
  clear hb1 hb2 hb3 hb4
  have HX := Lib.hid (And.intro (bel H0.out.1 HQ.out) ((HQ.out.block _ (heap_lt H0.out.2)).trans H0.out.2))
  clear HQ H0
  go_wp2_with fail
  refine (HCT.out _).mono ?_; rintro e w6 ⟨v, rfl, hsc, hb6⟩
  obtain ⟨o1, n1, c1, hcv, hse⟩ := ct_form hsc
  rw [hcv]
  obtain ⟨ok, hok⟩ : ∃ ok, ok = HN.okHB val := ⟨_, rfl⟩
  have HSE : Hid (ok = true → HN.SeesC w6 (.slice o1 n1 c1) (HN.readR val).1 ∧ ∀ d, (Value.slice o1 n1 c1).ownBlock = some d → w.heap.size < d ∧ d < w6.heap.size) := Lib.hid (fun h => ⟨(hse (hok.symm.trans h)).1, fun d hd => ⟨Nat.lt_of_lt_of_le (heap_lt HX.out.2) ((hse (hok.symm.trans h)).2 d hd).1, ((hse (hok.symm.trans h)).2 d hd).2⟩⟩)
  rw [← hok]
  have HRE : Hid (R = if (ok && on) = true then .han rs (HN.readR val).1 else .no) := Lib.hid (by rw [hok]; exact HR.out)
  have HX6 := Lib.hid (And.intro (bel HX.out.1 hb6) ((hb6.block _ (heap_lt HX.out.2)).trans HX.out.2))
  clear hb6 hsc hcv hse hok HX HCT HR
  cases ok with
  | false =>
    obtain rfl : R = .no := by rw [HRE.out]; rfl
    clear HRE HSE
    go_wp2_with (refine wpStG (T := TRec) (L0 := recZ) (L := recZ) rfl _ _ rfl rfl rfl HX6.out.2 (n := 14) rfl rfl infoRec (recN_one _ _ _) ?_; intro w7 hx7 hg7)
    refine bodyPost_ret (resB1 Tryz.results26 rfl (At.load hx7 (n := 14) rfl infoRec Tryz.underlying52)) rfl ⟨sNo4, rfl, trivial, (fun d h => noOwn d h), HX6.out.1.grown hg7 HX6.out.1.size (fun k hk => by cases hk; exact Nat.le_refl _)⟩
  | true =>
    have HS := Lib.hid (HSE.out rfl)
    clear HSE
    cases on with
    | false =>
      obtain rfl : R = .no := by rw [HRE.out]; rfl
      clear HRE HS
      go_wp2_with fail
      refine (HRT.out _).mono ?_; rintro e w8 ⟨rfl, rfl⟩
      go_wp2_with (refine wpStG (T := TRec) (L0 := recZ) (L := recZ) rfl _ _ rfl rfl rfl HX6.out.2 (n := 14) rfl rfl infoRec (recN_one _ _ _) ?_; intro w7 hx7 hg7)
      refine bodyPost_ret (resB1 Tryz.results26 rfl (At.load hx7 (n := 14) rfl infoRec Tryz.underlying52)) rfl ⟨sNo4, rfl, trivial, (fun d h => noOwn d h), HX6.out.1.grown hg7 HX6.out.1.size (fun k hk => by cases hk; exact Nat.le_refl _)⟩
    | true =>
      obtain rfl : R = .han rs (HN.readR val).1 := by rw [HRE.out]; rfl
      clear HRE
      go_wp2_with fail
      refine (HRT.out _).mono ?_; rintro e w8 ⟨rfl, rfl⟩
      go_wp2_with (refine wpStG (T := TRec) (L0 := recZ) (L := recH rs (slV (o1, n1, c1))) rfl _ _ rfl rfl rfl HX6.out.2 (n := 14) rfl rfl infoRec (recH_one _ _) ?_; intro w7 hx7 hg7)
      refine bodyPost_ret (resB1 Tryz.results26 rfl (At.load hx7 (n := 14) rfl infoRec Tryz.underlying52)) rfl ⟨(sNo, sNo, sNo, (o1, n1, c1)), rfl, (show HN.SeesC _ (.slice o1 n1 c1) _ from HS.out.1.keep (fun d hd hl => hg7.block d hl (fun e => by cases e; exact absurd (HS.out.2 _ hd).1 (Nat.lt_irrefl _)))), (fun d hd => by rcases hd with h | h | h | h; cases h; cases h; cases h; exact (HS.out.2 d h).imp Nat.le_of_lt (Nat.lt_of_lt_of_le · hg7.size)), HX6.out.1.grown hg7 HX6.out.1.size (fun k hk => by cases hk; exact Nat.le_refl _)⟩
def rdNd (k v : ByteArray) : DR := match rdN k v with
  | some g => .nod (NM.rest k NM.pNod) g
  | none => .no
theorem recNo_eq (k v : ByteArray) : recNo k (rdN k v) = encR (rdNd k v, sNo4) := by
  unfold rdNd
  cases rdN k v <;> rfl
theorem rdNd_ok (w : World) (k v : ByteArray) : ROk w (rdNd k v, sNo4) := by
  unfold rdNd
  cases rdN k v <;> trivial
/-- What an item says. -/
def rdAny (k v : ByteArray) : DR := if lockB k v = true then .lock else
  if NM.starts k NM.pPool = true then rdPl k v else
  if NM.starts k NM.pBlk = true then rdBl k v else
  if NM.starts k NM.pAff = true then rdAf k v else
  if NM.starts k NM.pHan = true then rdHn k v else rdNd k v
theorem refReadAny (k val : ByteArray) (w : World) (hk : k.size ≤ 590) (hv : val.size ≤ 600) :
    Calls Tryz.prog 26 #[.string k, .string val] w (RdPost w (rdAny k val)) := by
  unfold rdAny
  by_cases hl : lockB k val = true
  · rw [if_pos hl]
    exact refReadLk_any k val w hl
  rw [if_neg hl]
  by_cases hP : NM.starts k NM.pPool = true
  · rw [if_pos hP]
    exact refReadPl_any k val w hk hP
  rw [if_neg hP]
  have hP := Bool.eq_false_iff.2 hP
  by_cases hB : NM.starts k NM.pBlk = true
  · rw [if_pos hB]
    exact refReadBl_any k val w hk hv hP hB
  rw [if_neg hB]
  have hB := Bool.eq_false_iff.2 hB
  by_cases hA : NM.starts k NM.pAff = true
  · rw [if_pos hA]
    exact refReadAf_any k val w hk hP hB hA
  rw [if_neg hA]
  have hA := Bool.eq_false_iff.2 hA
  by_cases hH : NM.starts k NM.pHan = true
  · rw [if_pos hH]
    exact refReadHn_any k val w hk hv hP hB hA hH
  rw [if_neg hH]
  have hH := Bool.eq_false_iff.2 hH
  refine (refReadNod_any k val w (by omega) (Bool.eq_false_iff.2 hl) hP hB hA hH).mono ?_
  rintro e w' ⟨rfl, hb⟩
  exact ⟨sNo4, by rw [recNo_eq], rdNd_ok _ _ _, (fun d h => noOwn d h), hb⟩
end Go.Proofs.YtiifbhiodegipaaGreatDoor
namespace Go.Proofs.YtiifbhiodegipaaGreatDoor
open Go.RowKit
def cut18 (s : ByteArray) (n : Nat) : ByteArray := if n < s.size then s.extract 0 n else s
theorem cut18_le (s : ByteArray) (n : Nat) : (cut18 s n).size ≤ n := by
  unfold cut18
  split
  · simp only [ByteArray.size_extract]; omega
  · omega
def cutIt (p : IT) : IT := (cut18 p.1 130, cut18 p.2.1 600, p.2.2)
def fewL (L : List IT) : List IT := (L.take 12).map cutIt
abbrev TKIt : TypeId := 91
abbrev itK (k v : ByteArray) (r : Int) : Obj := .cells #[.string k, .string v, .int .i64 r] TKIt
theorem encIt_len (p : IT) : (encIt p).length = 3 := rfl
theorem encIt_1 (p : IT) : ∀ u ∈ encIt p, u.oneCell' = true := fun u hu => by simp [encIt] at hu; rcases hu with rfl | rfl | rfl <;> rfl
theorem infoKIt : (Tryz.prog.info? TKIt).map (fun i => (i.zero, i.size, i.bytes)) = some (some (.agg #[.string ⟨#[]⟩, .string ⟨#[]⟩, .int .i64 0]), 3, 40) := by kernel_rfl
theorem infoIt : (Tryz.prog.info? 89).map (fun i => (i.zero, i.size, i.bytes)) = some (some (.agg #[.string ⟨#[]⟩, .string ⟨#[]⟩, .int .i64 0]), 3, 40) := by kernel_rfl
theorem fewL_snoc {L : List IT} {i : Nat} {q : IT} (h : L[i]? = some q) : (L.take (i + 1)).map cutIt = (L.take i).map cutIt ++ [cutIt q] := by
  rw [List.take_add_one, h, List.map_append]
  rfl
set_option maxRecDepth 100000 in
set_option maxHeartbeats 8000000 in
theorem items18_any (v : Value) (L : List IT) (w : World) (hv : SeesIt w v L) (hl : L.length ≤ 1000) :
    Calls Tryz.prog 8 #[v] w fun e w' => ∃ v', e = .returned v' ∧ SeesIt w' v' L ∧ Below w.heap.size w w' := by
  obtain ⟨ao, c, rfl, hlc, hnil, hc⟩ := hv
  have HC := Lib.hid (And.intro hnil hc)
  have HL := Lib.hid hl
  clear hnil hc hl
  go_enter Tryz.func8, Tryz.ntmps8
  go_wp2_with fail
  go_loopw [3, 8] (fun o j wr => ∃ (i : Nat) (q : Option Addr) (d : Nat), i ≤ L.length ∧ o = .slice q i d ∧ j = .int .i64 i ∧ Hid (RowG 89 3 encIt wr w.heap.size (.slice q i d) (L.take i) ∧ Below w.heap.size w wr)) (fun _ j _ => L.length - (intOf j).toNat)
  case atStart => exact ⟨0, none, 0, Nat.zero_le _, rfl, rfl, Lib.hid ⟨RowG.nil _ _ _ _ _, Below.refl _ _⟩⟩
  case round =>
    obtain ⟨i, q, d, hi, rfl, rfl, HI⟩ := hrel
    by_cases hlt : i < L.length
    · obtain ⟨a, rfl⟩ : ∃ a, ao = some a := by
        cases ao with
        | none => rw [HC.out.1 rfl] at hlt; simp at hlt
        | some a => exact ⟨a, rfl⟩
      obtain ⟨x, hget⟩ : ∃ x, L[i]? = some x := ⟨_, List.getElem?_eq_getElem hlt⟩
      have qc := HC.out.2 a rfl i x hget
      obtain ⟨k, v, r⟩ := x
      have q0 : wr.cell? (a.add (i * 3)) = some (.string k) := bcell HI.out.2 (qc 0 (.string k) rfl)
      have q1 : wr.cell? { block := (a.add (i * 3)).block, off := (a.add (i * 3)).off + 1 } = some (.string v) := ofsV (by omega) (bcell HI.out.2 (qc 1 (.string v) rfl))
      have q2 : wr.cell? { block := (a.add (i * 3)).block, off := (a.add (i * 3)).off + 2 } = some (.int .i64 r) := ofsV (by omega) (bcell HI.out.2 (qc 2 (.int .i64 r) rfl))
      have b0 : (0 : Int) ≤ (i : Int) := by omega
      have b1 : (i : Int) < (L.length : Int) := by omega
      have htk : L.take (i + 1) = L.take i ++ [(k, v, r)] := by rw [List.take_add_one, hget]; rfl
      have b2 : (i : Int) < 1000 := by have := HL.out; omega
      have hlen : (L.take i).length = i := by rw [List.length_take]; omega
      have HQ := Lib.hid (And.intro htk (And.intro hlt hlen))
      have hbx := belNew wr (itK k v r)
      have hr := HI.out.1.below hbx
      have hB := HI.out.2.trans (hbx.mono HI.out.2.size)
      have hk := heap_alloc_new wr (itK k v r)
      clear qc htk hget hlt hlen
      go_upto_region 5 with fail
      change Code.wp _ _ _ _ (wr.alloc (itK k v r))
      obtain ⟨wx, hwx⟩ : ∃ wx, wx = wr.alloc (itK k v r) := ⟨_, rfl⟩
      rw [← hwx] at hr hB hk ⊢
      obtain ⟨x0, x1, x2⟩ := cell3 hk
      have HX := Lib.hid (And.intro hr hB)
      clear hwx hbx hr hB hk q0 q1 q2
      go_wp2_with (at_builtin; refine wpList_pushG (w0 := wx) (T := 34) (E := 89) (enc := encIt) Tryz.underlying34 infoIt rfl (by decide) (by decide) (fun _ => rfl) encIt_1 rfl (.tmp 12) (.tmp 20) rfl w.heap.size (.slice q i d) (L.take i) (k, v, r) wx.heap.size rfl rfl rfl HX.out.1 (by rw [HQ.out.2.2]; omega) HX.out.2.size ?_; intro v8 w8 ho8 hb8 hg8 hat8; obtain ⟨o8, c8, he8⟩ := ho8.slice; rw [List.length_append, HQ.out.2.2] at he8; have he8 : v8 = .slice o8 (i + 1) c8 := he8; subst he8; have H8 := Lib.hid (And.intro ho8 hb8); clear ho8 hb8 hg8 hat8)
      go_roundw
      case rel => exact ⟨i + 1, o8, c8, HQ.out.2.1, rfl, by go_num, Lib.hid ⟨by rw [HQ.out.1]; exact H8.out.1, HX.out.2.trans H8.out.2⟩⟩
      case measure => have := HQ.out.2.1; simp [intOf]; omega
    · obtain rfl : i = L.length := by omega
      have HR : Hid (SeesIt wr (.slice q L.length d) L ∧ Below w.heap.size w wr) := Lib.hid ⟨by have h := HI.out.1.sees encIt_len; rwa [List.take_length] at h, HI.out.2⟩
      go_wp2_with fail
      go_ret
      exact ⟨_, rfl, HR.out.1, HR.out.2⟩
theorem vfrozK {w : World} {g : Nat} {a b c : Value} {t : TypeId} (h : w.heap[g]? = some (.cells #[a, b, c] t (0, 0))) (i : Nat) : w.frozen? ⟨g, i, none⟩ = false := by simp [World.frozen?, h]
abbrev FX (w wx : World) (q : Option Addr) (i d g : Nat) (X : List IT) (k v : ByteArray) (r : Int) : Prop := Below w.heap.size w wx ∧ RowG TKIt 3 encIt wx w.heap.size (.slice q i d) X ∧ wx.heap[g]? = some (.cells #[.string k, .string v, .int .i64 r] TKIt (0, 0)) ∧ w.heap.size ≤ g ∧ ∀ e, (Value.slice q i d).ownBlock = some e → e ≠ g
theorem setK_keep {w wx : World} {q : Option Addr} {i d g : Nat} {X : List IT} {k v : ByteArray} {r : Int} (h : FX w wx q i d g X k v r) (a : Nat) (u : Value) : Below w.heap.size w (wx.setCell ⟨g, a, none⟩ u) ∧ RowG TKIt 3 encIt (wx.setCell ⟨g, a, none⟩ u) w.heap.size (.slice q i d) X :=
  ⟨h.1.trans ⟨rfl, rfl, rfl, by simp, fun j hj => Below.heap_setCell _ _ _ _ (fun e => by have e : j = g := e; have := h.2.2.2.1; omega)⟩, h.2.1.keep (fun e he _ => Below.heap_setCell _ _ _ _ (fun x => h.2.2.2.2 e he x))⟩
theorem setK0 {w wx : World} {q : Option Addr} {i d g : Nat} {X : List IT} {k v : ByteArray} {r : Int} (h : FX w wx q i d g X k v r) (k' : ByteArray) : FX w (wx.setCell ⟨g, 0, none⟩ (.string k')) q i d g X k' v r :=
  ⟨(setK_keep h 0 _).1, (setK_keep h 0 _).2, by have h3 := h.2.2.1; simp [World.setCell, Array.getElem?_modify, h3], h.2.2.2⟩
theorem setK1 {w wx : World} {q : Option Addr} {i d g : Nat} {X : List IT} {k v : ByteArray} {r : Int} (h : FX w wx q i d g X k v r) (v' : ByteArray) : FX w (wx.setCell ⟨g, 1, none⟩ (.string v')) q i d g X k v' r :=
  ⟨(setK_keep h 1 _).1, (setK_keep h 1 _).2, by have h3 := h.2.2.1; simp [World.setCell, Array.getElem?_modify, h3], h.2.2.2⟩
set_option maxRecDepth 100000 in
set_option maxHeartbeats 8000000 in
theorem few18_any (v : Value) (L : List IT) (w : World) (hv : SeesIt w v L) (hl : L.length ≤ maxLen) :
    Calls Tryz.prog 6 #[v] w fun e w' => ∃ v', e = .returned v' ∧ SeesIt w' v' (fewL L) ∧ Below w.heap.size w w' := by
  obtain ⟨ao, c, rfl, hlc, hnil, hc⟩ := hv
  have HC := Lib.hid (And.intro hnil hc)
  have HL := Lib.hid hl
  clear hnil hc hl
  go_enter Tryz.func6, Tryz.ntmps6
  go_wp2_with fail
  go_loopw [3, 8] (fun o j wr => ∃ (i : Nat) (q : Option Addr) (d : Nat), i ≤ L.length ∧ i ≤ 12 ∧ o = .slice q i d ∧ j = .int .i64 i ∧ Hid (RowG TKIt 3 encIt wr w.heap.size (.slice q i d) ((L.take i).map cutIt) ∧ Below w.heap.size w wr)) (fun _ j _ => L.length - (intOf j).toNat)
  case atStart => exact ⟨0, none, 0, Nat.zero_le _, Nat.zero_le _, rfl, rfl, Lib.hid ⟨RowG.nil _ _ _ _ _, Below.refl _ _⟩⟩
  case round =>
    obtain ⟨i, q, d, hi, hi12, rfl, rfl, HI⟩ := hrel
    by_cases hlt : i < L.length
    · obtain ⟨a, rfl⟩ : ∃ a, ao = some a := by
        cases ao with
        | none => rw [HC.out.1 rfl] at hlt; simp at hlt
        | some a => exact ⟨a, rfl⟩
      obtain ⟨x, hget⟩ : ∃ x, L[i]? = some x := ⟨_, List.getElem?_eq_getElem hlt⟩
      have qc := HC.out.2 a rfl i x hget
      obtain ⟨k, v, r⟩ := x
      have q0 : wr.cell? (a.add (i * 3)) = some (.string k) := bcell HI.out.2 (qc 0 (.string k) rfl)
      have q1 : wr.cell? { block := (a.add (i * 3)).block, off := (a.add (i * 3)).off + 1 } = some (.string v) := ofsV (by omega) (bcell HI.out.2 (qc 1 (.string v) rfl))
      have q2 : wr.cell? { block := (a.add (i * 3)).block, off := (a.add (i * 3)).off + 2 } = some (.int .i64 r) := ofsV (by omega) (bcell HI.out.2 (qc 2 (.int .i64 r) rfl))
      have b0 : (0 : Int) ≤ (i : Int) := by omega
      have b1 : (i : Int) < (L.length : Int) := by omega
      have b2 : (i : Int) ≤ 12 := by omega
      have hbx := belNew wr (itK k v r)
      have hr := HI.out.1.below hbx
      have hB := HI.out.2.trans (hbx.mono HI.out.2.size)
      have hk := heap_alloc_new wr (itK k v r)
      have hz : w.heap.size ≤ wr.heap.size := HI.out.2.size
      by_cases h12 : i < 12
      · have d12 : decide ((12 : Int) ≤ (i : Int)) = false := by simp <;> omega
        have n12 : ¬ 12 ≤ i := by omega
        have hsn := fewL_snoc hget
        have hlen : ((L.take i).map cutIt).length = i := by rw [List.length_map, List.length_take]; omega
        have HQ := Lib.hid (And.intro hsn (And.intro hlt (And.intro hlen h12)))
        clear qc hget hlt hsn hlen
        go_upto_region 5 with fail
        change Code.wp _ _ _ _ (wr.alloc (itK k v r))
        obtain ⟨wx, hwx⟩ : ∃ wx, wx = wr.alloc (itK k v r) := ⟨_, rfl⟩
        rw [← hwx] at hr hB hk ⊢
        obtain ⟨g, hg⟩ : ∃ g, g = wr.heap.size := ⟨_, rfl⟩
        rw [← hg] at hk hz ⊢
        have HX : Hid (Below w.heap.size w wx ∧ RowG TKIt 3 encIt wx w.heap.size (.slice q i d) ((L.take i).map cutIt) ∧ wx.heap[g]? = some (.cells #[.string k, .string v, .int .i64 r] TKIt (0, 0)) ∧ w.heap.size ≤ g ∧ ∀ e, (Value.slice q i d).ownBlock = some e → e ≠ g) := Lib.hid ⟨hB, hr, hk, hz, fun e he => by have := (HI.out.1.form e he).2; omega⟩
        clear hwx hg hbx hr hB hk hz q0 q1 q2 HI
        by_cases hvl : 600 < v.size
        · have dv : decide ((600 : Int) < (v.size : Int)) = true := by simp <;> omega
          have vl1 : (600 : Int) ≤ (v.size : Int) := by omega
          have HV : Hid (cut18 v 600 = v.extract 0 600) := Lib.hid (if_pos hvl)
          obtain ⟨x0, x1, x2⟩ := cell3 HX.out.2.2.1
          have f1 := vfrozK HX.out.2.2.1 1
          go_upto_region 8 with fail
          change Code.wp _ _ _ _ (wx.setCell ⟨g, 1, none⟩ (.string (v.extract 0 600)))
          have hX := setK1 HX.out (v.extract 0 600)
          obtain ⟨wy, hwy⟩ : ∃ wy, wy = wx.setCell ⟨g, 1, none⟩ (.string (v.extract 0 600)) := ⟨_, rfl⟩
          rw [← hwy] at hX ⊢
          clear hwy x0 x1 x2 f1 HX
          obtain ⟨wx, hwx⟩ : ∃ wx, wx = wy := ⟨_, rfl⟩
          subst hwx
          have HX := Lib.hid hX
          clear hX
          by_cases hkl : 130 < k.size
          · have dk : decide ((130 : Int) < (k.size : Int)) = true := by simp <;> omega
            have kl1 : (130 : Int) ≤ (k.size : Int) := by omega
            have HCU : Hid (cutIt (k, v, r) = (k.extract 0 130, v.extract 0 600, r)) := Lib.hid (by have e1 : cut18 k 130 = k.extract 0 130 := if_pos hkl; have e2 := HV.out; show (cut18 k 130, cut18 v 600, r) = _; rw [e1, e2])
            clear HV
            obtain ⟨x0, x1, x2⟩ := cell3 HX.out.2.2.1
            have f0 := vfrozK HX.out.2.2.1 0
            go_upto_region 10 with fail
            change Code.wp _ _ _ _ (wx.setCell ⟨g, 0, none⟩ (.string (k.extract 0 130)))
            have hX := setK0 HX.out (k.extract 0 130)
            obtain ⟨wy, hwy⟩ : ∃ wy, wy = wx.setCell ⟨g, 0, none⟩ (.string (k.extract 0 130)) := ⟨_, rfl⟩
            rw [← hwy] at hX ⊢
            clear hwy x0 x1 x2 f0 HX
            obtain ⟨wx, hwx⟩ : ∃ wx, wx = wy := ⟨_, rfl⟩
            subst hwx
            have HX := Lib.hid hX
            clear hX
            obtain ⟨x0, x1, x2⟩ := cell3 HX.out.2.2.1
            go_wp2_with (at_builtin; refine wpList_pushG (w0 := wx) (T := 22) (E := TKIt) (enc := encIt) Tryz.underlying22 infoKIt rfl (by decide) (by decide) (fun _ => rfl) encIt_1 rfl (.tmp 31) (.tmp 33) rfl w.heap.size (.slice q i d) ((L.take i).map cutIt) (k.extract 0 130, v.extract 0 600, r) wx.heap.size rfl rfl rfl HX.out.2.1 (by rw [HQ.out.2.2.1]; omega) HX.out.1.size ?_; intro v8 w8 ho8 hb8 hg8 hat8; obtain ⟨o8, c8, he8⟩ := ho8.slice; rw [List.length_append, HQ.out.2.2.1] at he8; have he8 : v8 = .slice o8 (i + 1) c8 := he8; subst he8; have H8 := Lib.hid (And.intro ho8 hb8); clear ho8 hb8 hg8 hat8)
            go_roundw
            case rel => exact ⟨i + 1, o8, c8, HQ.out.2.1, by have := HQ.out.2.2.2; omega, rfl, by go_num, Lib.hid ⟨by rw [HQ.out.1, show cutIt (k, v, r) = (k.extract 0 130, v.extract 0 600, r) from HCU.out]; exact H8.out.1, HX.out.1.trans H8.out.2⟩⟩
            case measure => have := HQ.out.2.1; simp [intOf]; omega
          · have dk : decide ((130 : Int) < (k.size : Int)) = false := by simp <;> omega
            have HCU : Hid (cutIt (k, v, r) = (k, v.extract 0 600, r)) := Lib.hid (by have e1 : cut18 k 130 = k := if_neg hkl; have e2 := HV.out; show (cut18 k 130, cut18 v 600, r) = _; rw [e1, e2])
            clear HV
            obtain ⟨x0, x1, x2⟩ := cell3 HX.out.2.2.1
            go_upto_region 10 with fail
            go_wp2_with (at_builtin; refine wpList_pushG (w0 := wx) (T := 22) (E := TKIt) (enc := encIt) Tryz.underlying22 infoKIt rfl (by decide) (by decide) (fun _ => rfl) encIt_1 rfl (.tmp 31) (.tmp 33) rfl w.heap.size (.slice q i d) ((L.take i).map cutIt) (k, v.extract 0 600, r) wx.heap.size rfl rfl rfl HX.out.2.1 (by rw [HQ.out.2.2.1]; omega) HX.out.1.size ?_; intro v8 w8 ho8 hb8 hg8 hat8; obtain ⟨o8, c8, he8⟩ := ho8.slice; rw [List.length_append, HQ.out.2.2.1] at he8; have he8 : v8 = .slice o8 (i + 1) c8 := he8; subst he8; have H8 := Lib.hid (And.intro ho8 hb8); clear ho8 hb8 hg8 hat8)
            go_roundw
            case rel => exact ⟨i + 1, o8, c8, HQ.out.2.1, by have := HQ.out.2.2.2; omega, rfl, by go_num, Lib.hid ⟨by rw [HQ.out.1, show cutIt (k, v, r) = (k, v.extract 0 600, r) from HCU.out]; exact H8.out.1, HX.out.1.trans H8.out.2⟩⟩
            case measure => have := HQ.out.2.1; simp [intOf]; omega
        · have dv : decide ((600 : Int) < (v.size : Int)) = false := by simp <;> omega
          have HV : Hid (cut18 v 600 = v) := Lib.hid (if_neg hvl)
          by_cases hkl : 130 < k.size
          · have dk : decide ((130 : Int) < (k.size : Int)) = true := by simp <;> omega
            have kl1 : (130 : Int) ≤ (k.size : Int) := by omega
            have HCU : Hid (cutIt (k, v, r) = (k.extract 0 130, v, r)) := Lib.hid (by have e1 : cut18 k 130 = k.extract 0 130 := if_pos hkl; have e2 := HV.out; show (cut18 k 130, cut18 v 600, r) = _; rw [e1, e2])
            clear HV
            obtain ⟨x0, x1, x2⟩ := cell3 HX.out.2.2.1
            have f0 := vfrozK HX.out.2.2.1 0
            go_upto_region 10 with fail
            change Code.wp _ _ _ _ (wx.setCell ⟨g, 0, none⟩ (.string (k.extract 0 130)))
            have hX := setK0 HX.out (k.extract 0 130)
            obtain ⟨wy, hwy⟩ : ∃ wy, wy = wx.setCell ⟨g, 0, none⟩ (.string (k.extract 0 130)) := ⟨_, rfl⟩
            rw [← hwy] at hX ⊢
            clear hwy x0 x1 x2 f0 HX
            obtain ⟨wx, hwx⟩ : ∃ wx, wx = wy := ⟨_, rfl⟩
            subst hwx
            have HX := Lib.hid hX
            clear hX
            obtain ⟨x0, x1, x2⟩ := cell3 HX.out.2.2.1
            go_wp2_with (at_builtin; refine wpList_pushG (w0 := wx) (T := 22) (E := TKIt) (enc := encIt) Tryz.underlying22 infoKIt rfl (by decide) (by decide) (fun _ => rfl) encIt_1 rfl (.tmp 31) (.tmp 33) rfl w.heap.size (.slice q i d) ((L.take i).map cutIt) (k.extract 0 130, v, r) wx.heap.size rfl rfl rfl HX.out.2.1 (by rw [HQ.out.2.2.1]; omega) HX.out.1.size ?_; intro v8 w8 ho8 hb8 hg8 hat8; obtain ⟨o8, c8, he8⟩ := ho8.slice; rw [List.length_append, HQ.out.2.2.1] at he8; have he8 : v8 = .slice o8 (i + 1) c8 := he8; subst he8; have H8 := Lib.hid (And.intro ho8 hb8); clear ho8 hb8 hg8 hat8)
            go_roundw
            case rel => exact ⟨i + 1, o8, c8, HQ.out.2.1, by have := HQ.out.2.2.2; omega, rfl, by go_num, Lib.hid ⟨by rw [HQ.out.1, show cutIt (k, v, r) = (k.extract 0 130, v, r) from HCU.out]; exact H8.out.1, HX.out.1.trans H8.out.2⟩⟩
            case measure => have := HQ.out.2.1; simp [intOf]; omega
          · have dk : decide ((130 : Int) < (k.size : Int)) = false := by simp <;> omega
            have HCU : Hid (cutIt (k, v, r) = (k, v, r)) := Lib.hid (by have e1 : cut18 k 130 = k := if_neg hkl; have e2 := HV.out; show (cut18 k 130, cut18 v 600, r) = _; rw [e1, e2])
            clear HV
            obtain ⟨x0, x1, x2⟩ := cell3 HX.out.2.2.1
            go_upto_region 10 with fail
            go_wp2_with (at_builtin; refine wpList_pushG (w0 := wx) (T := 22) (E := TKIt) (enc := encIt) Tryz.underlying22 infoKIt rfl (by decide) (by decide) (fun _ => rfl) encIt_1 rfl (.tmp 31) (.tmp 33) rfl w.heap.size (.slice q i d) ((L.take i).map cutIt) (k, v, r) wx.heap.size rfl rfl rfl HX.out.2.1 (by rw [HQ.out.2.2.1]; omega) HX.out.1.size ?_; intro v8 w8 ho8 hb8 hg8 hat8; obtain ⟨o8, c8, he8⟩ := ho8.slice; rw [List.length_append, HQ.out.2.2.1] at he8; have he8 : v8 = .slice o8 (i + 1) c8 := he8; subst he8; have H8 := Lib.hid (And.intro ho8 hb8); clear ho8 hb8 hg8 hat8)
            go_roundw
            case rel => exact ⟨i + 1, o8, c8, HQ.out.2.1, by have := HQ.out.2.2.2; omega, rfl, by go_num, Lib.hid ⟨by rw [HQ.out.1, show cutIt (k, v, r) = (k, v, r) from HCU.out]; exact H8.out.1, HX.out.1.trans H8.out.2⟩⟩
            case measure => have := HQ.out.2.1; simp [intOf]; omega
      · have d12 : decide ((12 : Int) ≤ (i : Int)) = true := by simp <;> omega
        have n12 : 12 ≤ i := by omega
        have HR : Hid (SeesIt (wr.alloc (itK k v r)) (.slice q i d) (fewL L) ∧ Below w.heap.size w (wr.alloc (itK k v r))) := Lib.hid ⟨by
          have h := hr.sees encIt_len
          have e : i = 12 := by omega
          subst e
          exact h, hB⟩
        clear qc hget hlt hbx hr hB hk hz HI
        go_wp2_with fail
        go_ret
        exact ⟨_, rfl, HR.out.1, HR.out.2⟩
    · obtain rfl : i = L.length := by omega
      have HR : Hid (SeesIt wr (.slice q L.length d) (fewL L) ∧ Below w.heap.size w wr) := Lib.hid ⟨by
        have h := HI.out.1.sees encIt_len
        unfold fewL
        rw [List.take_length] at h
        rwa [List.take_of_length_le hi12], HI.out.2⟩
      go_wp2_with fail
      go_ret
      exact ⟨_, rfl, HR.out.1, HR.out.2⟩
end Go.Proofs.YtiifbhiodegipaaGreatDoor
