/- The document's view: an affinity, by its key and its value. Made by g_vwaf.py. -/
import Derived.Test.YtiifbhiodegipaaGreatDoorVwRn
import Derived.Test.YtiifbhiodegipaaGreatDoorVwNet
import Derived.Test.YtiifbhiodegipaaGreatDoorRCb
import Derived.StillTailTactics
namespace Go.Proofs.YtiifbhiodegipaaGreatDoor
open Go.RowKit
theorem bcell18 {w W : World} {a : Addr} {v : Value} (hb : Below w.heap.size w W) (h : w.cell? a = some v) : W.cell? a = some v := (hb.cell (cell_lt8 h)).trans h
def affP (r : ByteArray) : Option (ByteArray × Int) := match NM.rblk (NM.cutB r).data.toList with
  | some a => if NM.okName (NM.cutN r).data.toList = true then some (NM.cutN r, a) else none
  | none => none
def recA (n : ByteArray) (a st : Int) : List Value := [.int .i64 3, .string n, .int .u32 a, .int .u32 0, .int .i64 0, .bool false, .int .u32 0, .string ⟨#[]⟩, NS, NS, NS, .int .i64 st, NS, .bool false]
theorem recA_one (n : ByteArray) (a st : Int) : ∀ v ∈ recA n a st, v.oneCell' = true := by
  intro v hv
  simp only [recA, List.mem_cons, List.not_mem_nil, or_false] at hv
  rcases hv with rfl | rfl | rfl | rfl | rfl | rfl | rfl | rfl | rfl | rfl | rfl | rfl | rfl | rfl <;> rfl
abbrev recZ : List Value := recN 0 ⟨#[]⟩ false
def recAo (o : Option (ByteArray × Int)) (q : Option Int) : List Value := match o, q with
  | some p, some st => recA p.1 p.2 st
  | _, _ => recZ
theorem cut_at {s : ByteArray} {i : Nat} (hi : i < s.size) (h47 : s.data.toList.getD i 0 = 47) (hno : (47 : UInt8) ∉ s.data.toList.take i) : NM.cutN s = s.extract 0 i ∧ NM.cutB s = s.extract (i + 1) s.size := by
  have hl : i < s.data.toList.length := by rw [Array.length_toList]; exact hi
  have hd : s.data.toList = s.data.toList.take i ++ 47 :: s.data.toList.drop (i + 1) := by
    have h2 : s.data.toList[i] = 47 := by rw [← h47, List.getD_eq_getElem?_getD, List.getElem?_eq_getElem hl]; rfl
    rw [← h2, ← List.drop_eq_getElem_cons hl, List.take_append_drop]
  have hc := NM.cutS_app _ (s.data.toList.drop (i + 1)) hno
  rw [← hd] at hc
  unfold NM.cutS at hc
  have hs : NM.slash.data.toList = [47] := rfl
  unfold NM.cutN NM.cutB
  rw [hs, hc]
  refine ⟨?_, ?_⟩
  · exact ByteArray.ext (Array.ext' (NM.ext_take s i).symm)
  · exact ByteArray.ext (Array.ext' (NM.ext_drop s (i + 1)).symm)
theorem affP_no {s : ByteArray} (hno : (47 : UInt8) ∉ s.data.toList) : affP s = none := by
  have hc := NM.cutS_none _ hno
  unfold NM.cutS at hc
  have hs : NM.slash.data.toList = [47] := rfl
  have hB : (NM.cutB s).data.toList = [] := by
    unfold NM.cutB
    rw [hs, hc]
  unfold affP
  rw [hB, NM.rblk_nil]
theorem affP_yes {s : ByteArray} {i : Nat} (hi : i < s.size) (h47 : s.data.toList.getD i 0 = 47) (hno : (47 : UInt8) ∉ s.data.toList.take i) :
    affP s = match dnet (s.extract (i + 1) s.size).data.toList with
      | some p => if p.2 = 26 then (if NM.okName (s.extract 0 i).data.toList = true then some (s.extract 0 i, p.1) else none) else none
      | none => none := by
  obtain ⟨h1, h2⟩ := cut_at hi h47 hno
  unfold affP NM.rblk
  rw [h1, h2, dnet_eq]
  cases NM.rnet (s.extract (i + 1) s.size).data.toList with
  | none => rfl
  | some p =>
    simp only []
    by_cases h : p.2 = 26
    · rw [if_pos h, if_pos h]
    · rw [if_neg h, if_neg h]
theorem affRd_list (v : ByteArray) : affRd v = if (v.toList == (⟨#[65]⟩ ++ strOfNums [1] : ByteArray).toList) = true then some 1 else if (v.toList == (⟨#[65]⟩ ++ strOfNums [2] : ByteArray).toList) = true then some 2 else if (v.toList == (⟨#[65]⟩ ++ strOfNums [3] : ByteArray).toList) = true then some 3 else none := by
  rw [affRd_eq]
  have h1 := bt_eq v (⟨#[65]⟩ ++ strOfNums [1])
  have h2 := bt_eq v (⟨#[65]⟩ ++ strOfNums [2])
  have h3 := bt_eq v (⟨#[65]⟩ ++ strOfNums [3])
  have e1 : (⟨#[65]⟩ ++ strOfNums [1] : ByteArray) = ⟨#[65, 1]⟩ := by decide +kernel
  have e2 : (⟨#[65]⟩ ++ strOfNums [2] : ByteArray) = ⟨#[65, 2]⟩ := by decide +kernel
  have e3 : (⟨#[65]⟩ ++ strOfNums [3] : ByteArray) = ⟨#[65, 3]⟩ := by decide +kernel
  rw [h1, h2, h3, e1, e2, e3]
  simp only [decide_eq_true_eq]
set_option maxRecDepth 100000 in
set_option maxHeartbeats 16000000 in
theorem refAff18_any (s val : ByteArray) (w : World) (hs : s.size ≤ 590) :
    Calls Tryz.prog 51 #[.string s, .string val] w fun e w' => e = .returned (.agg (recAo (affP s) (affRd val)).toArray) ∧ Below w.heap.size w w' := by
  have hlen : s.data.toList.length = s.size := Array.length_toList
  have HLN := Lib.hid hlen
  obtain ⟨W, hW⟩ : ∃ W, W = w.alloc (.cells recZ.toArray TRec) := ⟨_, rfl⟩
  have hb0 : Below w.heap.size w W := by rw [hW]; exact belNew w _
  have hR : At W w.heap.size TRec recZ := by rw [hW]; exact heap_alloc_new w _
  have HW := Lib.hid hW
  have H0 := Lib.hid (And.intro hb0 hR)
  have HCV := Lib.hid (fun (w : World) (c : Int) => conv_sees (RC.one_sees0 w c))
  clear hW hb0 hR hlen
  generalize hAP : affP s = AP
  generalize hST : affRd val = ST
  have HAP := Lib.hid hAP
  have HST := Lib.hid hST
  clear hAP hST
  go_enter Tryz.func51, Tryz.ntmps51
  go_upto_region 1 with fail
  change Code.wp _ _ _ _ (w.alloc (.cells recZ.toArray TRec))
  rw [← HW.out]
  clear HW
  go_wp2_with fail
  go_loop [5] (fun j => ∃ i : Nat, i ≤ s.size ∧ j = .int .i64 i ∧ Hid ((47 : UInt8) ∉ s.data.toList.take i)) (fun j => s.size - (intOf j).toNat)
  case atStart => exact ⟨0, Nat.zero_le _, rfl, Lib.hid (by simp)⟩
  case round =>
    obtain ⟨i, hi, rfl, hno⟩ := hrel
    by_cases hlt : i < s.size
    · have hbx := NM.byte0x s i hlt
      by_cases h47 : (s[i].toNat : Int) = 47
      · have d47 : ((s[i].toNat : Int) == 47) = true := by simpa using h47
        have h48 : s.data.toList.getD i 0 = 47 := by
          rw [hbx]
          exact UInt8.toNat_inj.1 (by simpa using (by omega : s[i].toNat = 47))
        have HP := HAP.out.symm.trans (affP_yes hlt h48 hno.out)
        have hz1 : (s.extract 0 i).size ≤ 590 := by simp only [ByteArray.size_extract]; omega
        have hz2 : (s.extract (i + 1) s.size).size ≤ 590 := by simp only [ByteArray.size_extract]; omega
        have HNT := Lib.hid (fun w => refNetV_any (s.extract (i + 1) s.size) w (by omega))
        have HRT := Lib.hid (fun w => NM.refRight12_any (s.extract 0 i) w (by unfold maxLen; omega))
        have HVL := HST.out.symm.trans (affRd_list val)
        clear HAP HST
        have b0 : (i : Int) ≤ s.size := by omega
        have b1 : (i : Int) + 1 ≤ s.size := by omega
        have b2 : (i : Int) < 600 := by omega
        have w1e : IntKind.i64.wrap ((i : Int) + 1) = (i : Int) + 1 := IntWalk.i64_in _ (by omega)
        have b3 : 0 ≤ (i : Int) + 1 := by omega
        have c3 : ((i : Int) + 1).toNat = i + 1 := by omega
        clear h48 hbx h47 hno hz1 hz2
        generalize hv1 : (val.toList == (⟨#[65]⟩ ++ strOfNums [1] : ByteArray).toList) = v1 at HVL
        generalize hv2 : (val.toList == (⟨#[65]⟩ ++ strOfNums [2] : ByteArray).toList) = v2 at HVL
        generalize hv3 : (val.toList == (⟨#[65]⟩ ++ strOfNums [3] : ByteArray).toList) = v3 at HVL
        generalize NM.okName (s.extract 0 i).data.toList = OKN at *
        have HVH := Lib.hid HVL
        clear HVL
        generalize hDN : dnet (s.extract (i + 1) s.size).data.toList = o at *
        cases o with
        | none =>
          subst HP
          change Hid (∀ w, Calls Tryz.prog 47 #[.string (s.extract (i + 1) s.size)] w fun e w' => e = .returned (.tuple #[.agg #[.int .u32 0, .int .i64 0], .bool false]) ∧ Below w.heap.size w w') at HNT
          go_upto_region 5 with fail
          go_wp2_with fail
          refine (HNT.out _).mono ?_; rintro e w1 ⟨rfl, hb1⟩
          obtain ⟨W5, hW5⟩ : ∃ W5, W5 = w1.alloc (netRO 0 0) := ⟨_, rfl⟩
          have hb5 := bel hb1 (belNew w1 (netRO 0 0))
          have hn5 : W5.heap[w1.heap.size]? = some (.cells #[.int .u32 0, .int .i64 0] 43 (0, 0)) := by rw [hW5]; exact heap_alloc_new w1 _
          rw [← hW5] at hb5
          have H5 := Lib.hid (And.intro (bel H0.out.1 hb5) ((hb5.block _ (heap_lt H0.out.2)).trans H0.out.2))
          have HW5 := Lib.hid hW5
          obtain ⟨n0, n1⟩ := cells2 hn5
          clear hb1 hb5 hn5 hW5
          go_upto_region 6 with fail
          change Code.wp _ _ _ _ (w1.alloc (netRO 0 0))
          rw [← HW5.out]
          clear HW5
          go_wp2_with fail
          refine wp_loop_rounds 4 ?_
          rw [rounds_succ]
          go_wp2_with fail
          rw [rounds_succ]
          go_wp2_with fail
          rw [rounds_succ]
          go_wp2_with fail
          rw [rounds_succ]
          go_wp2_with (refine wpStG (T := TRec) (L0 := recZ) (L := recZ) rfl _ _ rfl rfl rfl H5.out.2 (n := 14) rfl rfl infoRec (recN_one _ _ _) ?_; intro w7 hx7 hg7)
          refine bodyPost_ret (resB1 Tryz.results51 rfl (At.load hx7 (n := 14) rfl infoRec Tryz.underlying52)) rfl ⟨rfl, H5.out.1.grown hg7 H5.out.1.size (fun k hk => by cases hk; exact Nat.le_refl _)⟩
        | some p =>
          obtain ⟨a, b⟩ := p
          by_cases h26 : b = 26
          · subst h26
            cases OKN with
            | false =>
              subst HP
              change Hid (∀ w, Calls Tryz.prog 47 #[.string (s.extract (i + 1) s.size)] w fun e w' => e = .returned (.tuple #[.agg #[.int .u32 a, .int .i64 26], .bool true]) ∧ Below w.heap.size w w') at HNT
              go_upto_region 5 with fail
              go_wp2_with fail
              refine (HNT.out _).mono ?_; rintro e w1 ⟨rfl, hb1⟩
              obtain ⟨W5, hW5⟩ : ∃ W5, W5 = w1.alloc (netRO a 26) := ⟨_, rfl⟩
              have hb5 := bel hb1 (belNew w1 (netRO a 26))
              have hn5 : W5.heap[w1.heap.size]? = some (.cells #[.int .u32 a, .int .i64 26] 43 (0, 0)) := by rw [hW5]; exact heap_alloc_new w1 _
              rw [← hW5] at hb5
              have H5 := Lib.hid (And.intro (bel H0.out.1 hb5) ((hb5.block _ (heap_lt H0.out.2)).trans H0.out.2))
              have HW5 := Lib.hid hW5
              obtain ⟨n0, n1⟩ := cells2 hn5
              clear hb1 hb5 hn5 hW5
              go_upto_region 6 with fail
              change Code.wp _ _ _ _ (w1.alloc (netRO a 26))
              rw [← HW5.out]
              clear HW5
              go_wp2_with fail
              refine wp_loop_rounds 4 ?_
              rw [rounds_succ]
              go_wp2_with fail
              refine (HRT.out _).mono ?_; rintro e w8 ⟨rfl, rfl⟩
              go_wp2_with fail
              rw [rounds_succ]
              go_wp2_with fail
              refine (HRT.out _).mono ?_; rintro e w8 ⟨rfl, rfl⟩
              go_wp2_with fail
              rw [rounds_succ]
              go_wp2_with fail
              refine (HRT.out _).mono ?_; rintro e w8 ⟨rfl, rfl⟩
              go_wp2_with fail
              rw [rounds_succ]
              go_wp2_with (refine wpStG (T := TRec) (L0 := recZ) (L := recZ) rfl _ _ rfl rfl rfl H5.out.2 (n := 14) rfl rfl infoRec (recN_one _ _ _) ?_; intro w7 hx7 hg7)
              refine bodyPost_ret (resB1 Tryz.results51 rfl (At.load hx7 (n := 14) rfl infoRec Tryz.underlying52)) rfl ⟨rfl, H5.out.1.grown hg7 H5.out.1.size (fun k hk => by cases hk; exact Nat.le_refl _)⟩
            | true =>
              subst HP
              cases v1 with
              | true =>
                obtain rfl : ST = some 1 := HVH.out
                change Hid (∀ w, Calls Tryz.prog 47 #[.string (s.extract (i + 1) s.size)] w fun e w' => e = .returned (.tuple #[.agg #[.int .u32 a, .int .i64 26], .bool true]) ∧ Below w.heap.size w w') at HNT
                go_upto_region 5 with fail
                go_wp2_with fail
                refine (HNT.out _).mono ?_; rintro e w1 ⟨rfl, hb1⟩
                obtain ⟨W5, hW5⟩ : ∃ W5, W5 = w1.alloc (netRO a 26) := ⟨_, rfl⟩
                have hb5 := bel hb1 (belNew w1 (netRO a 26))
                have hn5 : W5.heap[w1.heap.size]? = some (.cells #[.int .u32 a, .int .i64 26] 43 (0, 0)) := by rw [hW5]; exact heap_alloc_new w1 _
                rw [← hW5] at hb5
                have H5 := Lib.hid (And.intro (bel H0.out.1 hb5) ((hb5.block _ (heap_lt H0.out.2)).trans H0.out.2))
                have HW5 := Lib.hid hW5
                obtain ⟨n0, n1⟩ := cells2 hn5
                clear hb1 hb5 hn5 hW5
                go_upto_region 6 with fail
                change Code.wp _ _ _ _ (w1.alloc (netRO a 26))
                rw [← HW5.out]
                clear HW5
                go_wp2_with fail
                refine wp_loop_rounds 1 ?_
                rw [rounds_succ]
                go_wp2_with fail
                refine (HRT.out _).mono ?_; rintro e w8 ⟨rfl, rfl⟩
                have hcv1 := HCV.out W5 1
                have hb1 := belNew W5 (.cells #[.int .u8 1] 5)
                have Q1 := Lib.hid (And.intro (bel H5.out.1 hb1) ((hb1.block _ (heap_lt H5.out.2)).trans H5.out.2))
                have n0 := bcell18 hb1 n0
                have n1 := bcell18 hb1 n1
                clear hb1
                go_wp2_with fail
                clear hcv1
                obtain ⟨X, hX⟩ : ∃ X, X = (W5.alloc (.cells #[.int .u8 1] 5)) := ⟨_, rfl⟩
                rw [← hX] at n0 n1 Q1 ⊢
                clear hX
                go_still_tail 7, (by kernel_rfl)
                change wpList _ _ _ _ _ (X).drew
                obtain ⟨w9, hw9⟩ : ∃ w9, w9 = (X).drew := ⟨_, rfl⟩
                have H9 : Hid (Below w.heap.size w w9 ∧ At w9 w.heap.size TRec recZ) := Lib.hid (by rw [hw9]; exact ⟨bel Q1.out.1 (vdrew _), Q1.out.2⟩)
                rw [← hw9]
                clear hw9
                go_wp2_with (refine wpStG (T := TRec) (L0 := recZ) (L := recA (s.extract 0 i) a 1) rfl _ _ rfl rfl rfl H9.out.2 (n := 14) rfl rfl infoRec (recA_one _ _ _) ?_; intro w7 hx7 hg7)
                refine bodyPost_ret (resB1 Tryz.results51 rfl (At.load hx7 (n := 14) rfl infoRec Tryz.underlying52)) rfl ⟨rfl, H9.out.1.grown hg7 H9.out.1.size (fun k hk => by cases hk; exact Nat.le_refl _)⟩
              | false =>
                cases v2 with
                | true =>
                  obtain rfl : ST = some 2 := HVH.out
                  change Hid (∀ w, Calls Tryz.prog 47 #[.string (s.extract (i + 1) s.size)] w fun e w' => e = .returned (.tuple #[.agg #[.int .u32 a, .int .i64 26], .bool true]) ∧ Below w.heap.size w w') at HNT
                  go_upto_region 5 with fail
                  go_wp2_with fail
                  refine (HNT.out _).mono ?_; rintro e w1 ⟨rfl, hb1⟩
                  obtain ⟨W5, hW5⟩ : ∃ W5, W5 = w1.alloc (netRO a 26) := ⟨_, rfl⟩
                  have hb5 := bel hb1 (belNew w1 (netRO a 26))
                  have hn5 : W5.heap[w1.heap.size]? = some (.cells #[.int .u32 a, .int .i64 26] 43 (0, 0)) := by rw [hW5]; exact heap_alloc_new w1 _
                  rw [← hW5] at hb5
                  have H5 := Lib.hid (And.intro (bel H0.out.1 hb5) ((hb5.block _ (heap_lt H0.out.2)).trans H0.out.2))
                  have HW5 := Lib.hid hW5
                  obtain ⟨n0, n1⟩ := cells2 hn5
                  clear hb1 hb5 hn5 hW5
                  go_upto_region 6 with fail
                  change Code.wp _ _ _ _ (w1.alloc (netRO a 26))
                  rw [← HW5.out]
                  clear HW5
                  go_wp2_with fail
                  refine wp_loop_rounds 2 ?_
                  rw [rounds_succ]
                  go_wp2_with fail
                  refine (HRT.out _).mono ?_; rintro e w8 ⟨rfl, rfl⟩
                  have hcv1 := HCV.out W5 1
                  have hb1 := belNew W5 (.cells #[.int .u8 1] 5)
                  have Q1 := Lib.hid (And.intro (bel H5.out.1 hb1) ((hb1.block _ (heap_lt H5.out.2)).trans H5.out.2))
                  have n0 := bcell18 hb1 n0
                  have n1 := bcell18 hb1 n1
                  clear hb1
                  go_wp2_with fail
                  clear hcv1
                  rw [rounds_succ]
                  go_wp2_with fail
                  refine (HRT.out _).mono ?_; rintro e w8 ⟨rfl, rfl⟩
                  have hcv2 := HCV.out (W5.alloc (.cells #[.int .u8 1] 5)) 2
                  rw [show (W5.alloc (.cells #[.int .u8 1] 5)).heap.size = W5.heap.size + 1 from by simp] at hcv2
                  have hb2 := belNew (W5.alloc (.cells #[.int .u8 1] 5)) (.cells #[.int .u8 2] 5)
                  have Q2 := Lib.hid (And.intro (bel Q1.out.1 hb2) ((hb2.block _ (heap_lt Q1.out.2)).trans Q1.out.2))
                  have n0 := bcell18 hb2 n0
                  have n1 := bcell18 hb2 n1
                  clear hb2
                  go_wp2_with fail
                  clear hcv2
                  obtain ⟨X, hX⟩ : ∃ X, X = ((W5.alloc (.cells #[.int .u8 1] 5)).alloc (.cells #[.int .u8 2] 5)) := ⟨_, rfl⟩
                  rw [← hX] at n0 n1 Q2 ⊢
                  clear hX
                  go_still_tail 7, (by kernel_rfl)
                  change wpList _ _ _ _ _ (X).drew
                  obtain ⟨w9, hw9⟩ : ∃ w9, w9 = (X).drew := ⟨_, rfl⟩
                  have H9 : Hid (Below w.heap.size w w9 ∧ At w9 w.heap.size TRec recZ) := Lib.hid (by rw [hw9]; exact ⟨bel Q2.out.1 (vdrew _), Q2.out.2⟩)
                  rw [← hw9]
                  clear hw9
                  go_wp2_with (refine wpStG (T := TRec) (L0 := recZ) (L := recA (s.extract 0 i) a 2) rfl _ _ rfl rfl rfl H9.out.2 (n := 14) rfl rfl infoRec (recA_one _ _ _) ?_; intro w7 hx7 hg7)
                  refine bodyPost_ret (resB1 Tryz.results51 rfl (At.load hx7 (n := 14) rfl infoRec Tryz.underlying52)) rfl ⟨rfl, H9.out.1.grown hg7 H9.out.1.size (fun k hk => by cases hk; exact Nat.le_refl _)⟩
                | false =>
                  cases v3 with
                  | true =>
                    obtain rfl : ST = some 3 := HVH.out
                    change Hid (∀ w, Calls Tryz.prog 47 #[.string (s.extract (i + 1) s.size)] w fun e w' => e = .returned (.tuple #[.agg #[.int .u32 a, .int .i64 26], .bool true]) ∧ Below w.heap.size w w') at HNT
                    go_upto_region 5 with fail
                    go_wp2_with fail
                    refine (HNT.out _).mono ?_; rintro e w1 ⟨rfl, hb1⟩
                    obtain ⟨W5, hW5⟩ : ∃ W5, W5 = w1.alloc (netRO a 26) := ⟨_, rfl⟩
                    have hb5 := bel hb1 (belNew w1 (netRO a 26))
                    have hn5 : W5.heap[w1.heap.size]? = some (.cells #[.int .u32 a, .int .i64 26] 43 (0, 0)) := by rw [hW5]; exact heap_alloc_new w1 _
                    rw [← hW5] at hb5
                    have H5 := Lib.hid (And.intro (bel H0.out.1 hb5) ((hb5.block _ (heap_lt H0.out.2)).trans H0.out.2))
                    have HW5 := Lib.hid hW5
                    obtain ⟨n0, n1⟩ := cells2 hn5
                    clear hb1 hb5 hn5 hW5
                    go_upto_region 6 with fail
                    change Code.wp _ _ _ _ (w1.alloc (netRO a 26))
                    rw [← HW5.out]
                    clear HW5
                    go_wp2_with fail
                    refine wp_loop_rounds 3 ?_
                    rw [rounds_succ]
                    go_wp2_with fail
                    refine (HRT.out _).mono ?_; rintro e w8 ⟨rfl, rfl⟩
                    have hcv1 := HCV.out W5 1
                    have hb1 := belNew W5 (.cells #[.int .u8 1] 5)
                    have Q1 := Lib.hid (And.intro (bel H5.out.1 hb1) ((hb1.block _ (heap_lt H5.out.2)).trans H5.out.2))
                    have n0 := bcell18 hb1 n0
                    have n1 := bcell18 hb1 n1
                    clear hb1
                    go_wp2_with fail
                    clear hcv1
                    rw [rounds_succ]
                    go_wp2_with fail
                    refine (HRT.out _).mono ?_; rintro e w8 ⟨rfl, rfl⟩
                    have hcv2 := HCV.out (W5.alloc (.cells #[.int .u8 1] 5)) 2
                    rw [show (W5.alloc (.cells #[.int .u8 1] 5)).heap.size = W5.heap.size + 1 from by simp] at hcv2
                    have hb2 := belNew (W5.alloc (.cells #[.int .u8 1] 5)) (.cells #[.int .u8 2] 5)
                    have Q2 := Lib.hid (And.intro (bel Q1.out.1 hb2) ((hb2.block _ (heap_lt Q1.out.2)).trans Q1.out.2))
                    have n0 := bcell18 hb2 n0
                    have n1 := bcell18 hb2 n1
                    clear hb2
                    go_wp2_with fail
                    clear hcv2
                    rw [rounds_succ]
                    go_wp2_with fail
                    refine (HRT.out _).mono ?_; rintro e w8 ⟨rfl, rfl⟩
                    have hcv3 := HCV.out ((W5.alloc (.cells #[.int .u8 1] 5)).alloc (.cells #[.int .u8 2] 5)) 3
                    rw [show ((W5.alloc (.cells #[.int .u8 1] 5)).alloc (.cells #[.int .u8 2] 5)).heap.size = W5.heap.size + 2 from by simp] at hcv3
                    have hb3 := belNew ((W5.alloc (.cells #[.int .u8 1] 5)).alloc (.cells #[.int .u8 2] 5)) (.cells #[.int .u8 3] 5)
                    have Q3 := Lib.hid (And.intro (bel Q2.out.1 hb3) ((hb3.block _ (heap_lt Q2.out.2)).trans Q2.out.2))
                    have n0 := bcell18 hb3 n0
                    have n1 := bcell18 hb3 n1
                    clear hb3
                    go_wp2_with fail
                    clear hcv3
                    obtain ⟨X, hX⟩ : ∃ X, X = (((W5.alloc (.cells #[.int .u8 1] 5)).alloc (.cells #[.int .u8 2] 5)).alloc (.cells #[.int .u8 3] 5)) := ⟨_, rfl⟩
                    rw [← hX] at n0 n1 Q3 ⊢
                    clear hX
                    go_still_tail 7, (by kernel_rfl)
                    change wpList _ _ _ _ _ (X).drew
                    obtain ⟨w9, hw9⟩ : ∃ w9, w9 = (X).drew := ⟨_, rfl⟩
                    have H9 : Hid (Below w.heap.size w w9 ∧ At w9 w.heap.size TRec recZ) := Lib.hid (by rw [hw9]; exact ⟨bel Q3.out.1 (vdrew _), Q3.out.2⟩)
                    rw [← hw9]
                    clear hw9
                    go_wp2_with (refine wpStG (T := TRec) (L0 := recZ) (L := recA (s.extract 0 i) a 3) rfl _ _ rfl rfl rfl H9.out.2 (n := 14) rfl rfl infoRec (recA_one _ _ _) ?_; intro w7 hx7 hg7)
                    refine bodyPost_ret (resB1 Tryz.results51 rfl (At.load hx7 (n := 14) rfl infoRec Tryz.underlying52)) rfl ⟨rfl, H9.out.1.grown hg7 H9.out.1.size (fun k hk => by cases hk; exact Nat.le_refl _)⟩
                  | false =>
                    obtain rfl : ST = none := HVH.out
                    change Hid (∀ w, Calls Tryz.prog 47 #[.string (s.extract (i + 1) s.size)] w fun e w' => e = .returned (.tuple #[.agg #[.int .u32 a, .int .i64 26], .bool true]) ∧ Below w.heap.size w w') at HNT
                    go_upto_region 5 with fail
                    go_wp2_with fail
                    refine (HNT.out _).mono ?_; rintro e w1 ⟨rfl, hb1⟩
                    obtain ⟨W5, hW5⟩ : ∃ W5, W5 = w1.alloc (netRO a 26) := ⟨_, rfl⟩
                    have hb5 := bel hb1 (belNew w1 (netRO a 26))
                    have hn5 : W5.heap[w1.heap.size]? = some (.cells #[.int .u32 a, .int .i64 26] 43 (0, 0)) := by rw [hW5]; exact heap_alloc_new w1 _
                    rw [← hW5] at hb5
                    have H5 := Lib.hid (And.intro (bel H0.out.1 hb5) ((hb5.block _ (heap_lt H0.out.2)).trans H0.out.2))
                    have HW5 := Lib.hid hW5
                    obtain ⟨n0, n1⟩ := cells2 hn5
                    clear hb1 hb5 hn5 hW5
                    go_upto_region 6 with fail
                    change Code.wp _ _ _ _ (w1.alloc (netRO a 26))
                    rw [← HW5.out]
                    clear HW5
                    go_wp2_with fail
                    refine wp_loop_rounds 4 ?_
                    rw [rounds_succ]
                    go_wp2_with fail
                    refine (HRT.out _).mono ?_; rintro e w8 ⟨rfl, rfl⟩
                    have hcv1 := HCV.out W5 1
                    have hb1 := belNew W5 (.cells #[.int .u8 1] 5)
                    have Q1 := Lib.hid (And.intro (bel H5.out.1 hb1) ((hb1.block _ (heap_lt H5.out.2)).trans H5.out.2))
                    have n0 := bcell18 hb1 n0
                    have n1 := bcell18 hb1 n1
                    clear hb1
                    go_wp2_with fail
                    clear hcv1
                    rw [rounds_succ]
                    go_wp2_with fail
                    refine (HRT.out _).mono ?_; rintro e w8 ⟨rfl, rfl⟩
                    have hcv2 := HCV.out (W5.alloc (.cells #[.int .u8 1] 5)) 2
                    rw [show (W5.alloc (.cells #[.int .u8 1] 5)).heap.size = W5.heap.size + 1 from by simp] at hcv2
                    have hb2 := belNew (W5.alloc (.cells #[.int .u8 1] 5)) (.cells #[.int .u8 2] 5)
                    have Q2 := Lib.hid (And.intro (bel Q1.out.1 hb2) ((hb2.block _ (heap_lt Q1.out.2)).trans Q1.out.2))
                    have n0 := bcell18 hb2 n0
                    have n1 := bcell18 hb2 n1
                    clear hb2
                    go_wp2_with fail
                    clear hcv2
                    rw [rounds_succ]
                    go_wp2_with fail
                    refine (HRT.out _).mono ?_; rintro e w8 ⟨rfl, rfl⟩
                    have hcv3 := HCV.out ((W5.alloc (.cells #[.int .u8 1] 5)).alloc (.cells #[.int .u8 2] 5)) 3
                    rw [show ((W5.alloc (.cells #[.int .u8 1] 5)).alloc (.cells #[.int .u8 2] 5)).heap.size = W5.heap.size + 2 from by simp] at hcv3
                    have hb3 := belNew ((W5.alloc (.cells #[.int .u8 1] 5)).alloc (.cells #[.int .u8 2] 5)) (.cells #[.int .u8 3] 5)
                    have Q3 := Lib.hid (And.intro (bel Q2.out.1 hb3) ((hb3.block _ (heap_lt Q2.out.2)).trans Q2.out.2))
                    have n0 := bcell18 hb3 n0
                    have n1 := bcell18 hb3 n1
                    clear hb3
                    go_wp2_with fail
                    clear hcv3
                    rw [rounds_succ]
                    go_wp2_with (refine wpStG (T := TRec) (L0 := recZ) (L := recZ) rfl _ _ rfl rfl rfl Q3.out.2 (n := 14) rfl rfl infoRec (recN_one _ _ _) ?_; intro w7 hx7 hg7)
                    refine bodyPost_ret (resB1 Tryz.results51 rfl (At.load hx7 (n := 14) rfl infoRec Tryz.underlying52)) rfl ⟨rfl, Q3.out.1.grown hg7 Q3.out.1.size (fun k hk => by cases hk; exact Nat.le_refl _)⟩
          · have d26 : (b == 26) = false := by simpa using h26
            have hAP : AP = none := by rw [HP]; exact if_neg h26
            subst hAP
            change Hid (∀ w, Calls Tryz.prog 47 #[.string (s.extract (i + 1) s.size)] w fun e w' => e = .returned (.tuple #[.agg #[.int .u32 a, .int .i64 b], .bool true]) ∧ Below w.heap.size w w') at HNT
            go_upto_region 5 with fail
            go_wp2_with fail
            refine (HNT.out _).mono ?_; rintro e w1 ⟨rfl, hb1⟩
            obtain ⟨W5, hW5⟩ : ∃ W5, W5 = w1.alloc (netRO a b) := ⟨_, rfl⟩
            have hb5 := bel hb1 (belNew w1 (netRO a b))
            have hn5 : W5.heap[w1.heap.size]? = some (.cells #[.int .u32 a, .int .i64 b] 43 (0, 0)) := by rw [hW5]; exact heap_alloc_new w1 _
            rw [← hW5] at hb5
            have H5 := Lib.hid (And.intro (bel H0.out.1 hb5) ((hb5.block _ (heap_lt H0.out.2)).trans H0.out.2))
            have HW5 := Lib.hid hW5
            obtain ⟨n0, n1⟩ := cells2 hn5
            clear hb1 hb5 hn5 hW5
            go_upto_region 6 with fail
            change Code.wp _ _ _ _ (w1.alloc (netRO a b))
            rw [← HW5.out]
            clear HW5
            go_wp2_with fail
            refine wp_loop_rounds 4 ?_
            rw [rounds_succ]
            go_wp2_with fail
            rw [rounds_succ]
            go_wp2_with fail
            rw [rounds_succ]
            go_wp2_with fail
            rw [rounds_succ]
            go_wp2_with (refine wpStG (T := TRec) (L0 := recZ) (L := recZ) rfl _ _ rfl rfl rfl H5.out.2 (n := 14) rfl rfl infoRec (recN_one _ _ _) ?_; intro w7 hx7 hg7)
            refine bodyPost_ret (resB1 Tryz.results51 rfl (At.load hx7 (n := 14) rfl infoRec Tryz.underlying52)) rfl ⟨rfl, H5.out.1.grown hg7 H5.out.1.size (fun k hk => by cases hk; exact Nat.le_refl _)⟩
      · have d47 : ((s[i].toNat : Int) == 47) = false := by simpa using h47
        have hnn : (47 : UInt8) ∉ s.data.toList.take (i + 1) := by
          have h1 : s.data.toList.take (i + 1) = s.data.toList.take i ++ [s[i]] := by
            rw [List.take_add_one, List.getElem?_eq_getElem (by rw [HLN.out]; exact hlt)]
            rfl
          rw [h1]
          intro hm
          rcases List.mem_append.1 hm with h | h
          · exact hno.out h
          · rw [List.mem_singleton] at h
            exact h47 (by rw [← h]; rfl)
        have HNN := Lib.hid hnn
        have b2 : (i : Int) < 600 := by omega
        have HLT := Lib.hid hlt
        clear hbx hnn h47
        go_wp2_with fail
        go_round
        case rel => exact ⟨i + 1, HLT.out, by go_num, HNN⟩
        case measure => have := HLT.out; simp [intOf]; omega
    · obtain rfl : i = s.size := by omega
      have hD : AP = none := HAP.out.symm.trans (affP_no (by have h := hno.out; rwa [← HLN.out, List.take_length] at h))
      clear HAP
      subst hD
      go_wp2_with (refine wpStG (T := TRec) (L0 := recZ) (L := recZ) rfl _ _ rfl rfl rfl H0.out.2 (n := 14) rfl rfl infoRec (recN_one _ _ _) ?_; intro w7 hx7 hg7)
      refine bodyPost_ret (resB1 Tryz.results51 rfl (At.load hx7 (n := 14) rfl infoRec Tryz.underlying52)) rfl ⟨rfl, H0.out.1.grown hg7 H0.out.1.size (fun k hk => by cases hk; exact Nat.le_refl _)⟩
end Go.Proofs.YtiifbhiodegipaaGreatDoor
