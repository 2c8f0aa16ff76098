/- The walk of ViewApart. -/
import Derived.Test.YtlbgjmnihenmaaaGreatDoorVwRd
import Derived.Test.YtlbgjmnihenmaaaGreatDoorVwTk
import Derived.Test.YtlbgjmnihenmaaaGreatDoorVwOf
import Derived.Test.YtlbgjmnihenmaaaGreatDoorVwFree
namespace Go.Proofs.YtlbgjmnihenmaaaGreatDoor
open Go.RowKit
abbrev exKey : ByteArray := ⟨#[112, 111, 111, 108, 47, 49, 48, 46, 48, 46, 48, 46, 48, 45, 50, 54]⟩
abbrev exVal : ByteArray := ⟨#[80, 10, 0, 0, 0, 26, 1]⟩
theorem ex_of : plOf exKey = some (167772160, 26) := by decide +kernel
theorem ex_rd : plRd exVal = some (167772160, 26, true) := by decide +kernel
theorem ex_tk : tkPB exKey exVal vw0 = some { vw0 with pools := [(167772160, 26, true)] } := by
  unfold tkPB tkP
  rw [ex_of, ex_rd]
  have h : lockB exKey exVal = false := by decide +kernel
  rw [h]
  rfl
/-- Of one item. -/
theorem of_one (k v : ByteArray) (r : Int) (x : Value) (w : World) (hx : SeesIt w x [(k, v, r)]) (hE : NM.Env w) (hk : k.size ≤ 900) (hv : v.size ≤ 1000) (hlk : lockB k v = false)
    (hA : NM.starts k NM.pAff = false) (hH : NM.starts k NM.pHan = false) (hN : NM.starts k NM.pNod = false) :
    Calls Tryz.prog 7 #[x] w (OfPost w 1 (tkPB k v vw0)) := by
  have h := vwOf_any tkPB x [(k, v, r)] w hx hE (by simp) (fun p hp => by rw [List.mem_singleton.1 hp]; exact hk)
    (Lib.hid (fun i q s p B g wr hq _ hV hW => by
      have hi : i = 0 := by
        have := (List.getElem?_eq_some_iff.1 hq).1
        simp at this
        exact this
      subst hi
      obtain rfl : (k, v, r) = q := by simpa using hq
      exact take_pb k v r B g 0 p s wr hV hW hk hv (by omega) hlk hA hH hN))
  have e : vwN tkPB [(k, v, r)] [(k, v, r)].length = tkPB k v vw0 := by
    show vwN tkPB [(k, v, r)] 1 = _
    rw [vwN]
    rfl
  rw [e] at h
  exact h
theorem sees_one (w : World) (k v : ByteArray) (r : Int) : SeesIt (w.alloc (itO k v r)) (.slice (some ⟨w.heap.size, 0, none⟩) 1 1) [(k, v, r)] := by
  have hI := It3.new w k v r
  refine ⟨some ⟨w.heap.size, 0, none⟩, 1, rfl, Nat.le_refl _, (fun h => by cases h), fun a ha i p hp j u hu => ?_⟩
  cases ha
  have hi : i = 0 := by
    have := (List.getElem?_eq_some_iff.1 hp).1
    simp at this
    exact this
  subst hi
  obtain rfl : (k, v, r) = p := by simpa using hp
  match j, hu with
  | 0, hu => cases hu; exact hI.1
  | 1, hu => cases hu; exact hI.2.1
  | 2, hu => cases hu; exact hI.2.2.1
theorem rec_kind (a b c d e f g h i j k l m n : Value) (w : World) : (Instr.field 52 (.agg #[a, b, c, d, e, f, g, h, i, j, k, l, m, n]) 0).run Tryz.prog w = .ok a w := by kernel_rfl
set_option maxRecDepth 100000 in
set_option maxHeartbeats 8000000 in
theorem awake18_any (w : World) (hE : NM.Env w) :
    Calls Tryz.prog 10 #[] w fun e w' => e = .returned (.bool true) ∧ Below w.heap.size w w' := by
  obtain ⟨W, hW⟩ : ∃ W, W = w.alloc (itO exKey exVal 1) := ⟨_, rfl⟩
  have hb0 := belNew w (itO exKey exVal 1)
  have hs : SeesIt W (.slice (some ⟨w.heap.size, 0, none⟩) 1 1) [(exKey, exVal, 1)] := by
    have hI := It3.new w exKey exVal 1
    rw [← hW] at hI
    refine ⟨some ⟨w.heap.size, 0, none⟩, 1, rfl, Nat.le_refl _, (fun h => by cases h), fun a ha i p hp j u hu => ?_⟩
    cases ha
    have hi : i = 0 := by
      have := (List.getElem?_eq_some_iff.1 hp).1
      simp at this
      exact this
    subst hi
    obtain rfl : (exKey, exVal, (1 : Int)) = p := by simpa using hp
    match j, hu with
    | 0, hu => cases hu; exact hI.1
    | 1, hu => cases hu; exact hI.2.1
    | 2, hu => cases hu; exact hI.2.2.1
  rw [← hW] at hb0
  have HO := Lib.hid (of_one exKey exVal 1 _ W hs (hE.below hb0) (by decide) (by decide) (by decide +kernel) (by decide +kernel) (by decide +kernel) (by decide +kernel))
  rw [ex_tk] at HO
  have HW := Lib.hid hW
  clear hW hs hE
  go_enter Tryz.func10, Tryz.ntmps10
  go_wp2_with fail
  change Calls _ _ _ (w.alloc (itO exKey exVal 1)) _
  rw [← HW.out]
  refine HO.out.mono ?_; rintro e w1 ⟨g, p, rfl, hV, hb1⟩
  obtain ⟨pv, bv, ma, mh, mn, X⟩ := p
  obtain ⟨po, pc, rfl⟩ : ∃ po pc, pv = .slice po 1 pc := hV.pools.slice
  have hX : X = [] := by
    have h : X.map (·.1) = [] := hV.xs
    cases X with
    | nil => rfl
    | cons x X => cases h
  subst hX
  obtain ⟨bo, bc, rfl⟩ : ∃ bo bc, bv = .slice bo 0 bc := hV.blks.slice
  obtain ⟨a, hpa, -, hca⟩ := SeesG.at (i := 0) (p := ((167772160 : Int), (26 : Int), true)) (hV.pools.sees encP_len) rfl
  subst hpa
  have HB1 := Lib.hid (bel hb0 hb1)
  have hb2 := belNew w1 (.cells #[.slice (some a) 1 pc, .slice bo 0 bc, .map (some ma), .map (some mh), .map (some mn)] 30)
  have hv2 := heap_alloc_new w1 (.cells #[.slice (some a) 1 pc, .slice bo 0 bc, .map (some ma), .map (some mh), .map (some mn)] 30)
  have hf := freeE (167772160, 26, true) a pc bo bc (some ma) (some mh) (some mn)
  have HC := Lib.hid hca
  clear hV hb1 hb0 HO HW hca
  dsimp only [vwL]
  go_upto_region 2 with fail
  obtain ⟨w2, hw2⟩ : ∃ w2, w2 = w1.alloc (.cells #[.slice (some a) 1 pc, .slice bo 0 bc, .map (some ma), .map (some mh), .map (some mn)] 30) := ⟨_, rfl⟩
  rw [← hw2] at hb2 hv2 ⊢
  have HF := Lib.hid (hf w2 (by decide) (by decide) (by decide +kernel) rfl (by decide +kernel) (fun j u hu => by
    have h := HC.out j u hu
    exact bcell hb2 h))
  obtain ⟨y0, y1, y2, y3, y4⟩ := vcells5 hv2
  have HV2 := Lib.hid hv2
  have HB2 := Lib.hid (bel HB1.out hb2)
  clear hw2 hb2 hv2 hf
  go_wp2_with fail
  refine HF.out.mono ?_; rintro e w3 ⟨rfl, hb3⟩
  have z0 := bcell hb3 y0
  clear y0 y1 y2 y3 y4
  go_wp2_with fail
  go_ret
  exact ⟨rfl, bel HB2.out hb3⟩
set_option maxRecDepth 100000 in
set_option maxHeartbeats 16000000 in
theorem lawApart (val : ByteArray) (a b : Int) (w : World) (hE : NM.Env w) (ha : 0 ≤ a) (ha' : a < 4294967296) (hb : 0 ≤ b) (hb' : b < 4294967296) :
    Calls Tryz.prog 5 #[.string val, .int .u32 a, .int .u32 b] w fun e w' => e = .returned (.bool true) ∧ Below w.heap.size w w' := by
  have HNA := Lib.hid (fun w => lawNet_any a ha ha' w)
  have HNB := Lib.hid (fun w => lawNet_any b hb hb' w)
  have hsa := blkS_size a ha ha'
  have hsb := blkS_size b hb hb'
  have za : ¬ 9223372036854775807 < 6 + (blkS a).size := by omega
  have zb : ¬ 9223372036854775807 < 6 + (blkS b).size := by omega
  have HAW := Lib.hid (fun w h => awake18_any w h)
  obtain ⟨T, hT, hTs⟩ : ∃ T : ByteArray, T = (if 600 < val.size then val.extract 0 600 else val) ∧ T.size ≤ 600 := ⟨_, rfl, by
    split
    · rw [ByteArray.size_extract]; omega
    · omega⟩
  have HRA := Lib.hid (fun w => refReadBlk_any a T w ha ha' hTs)
  have HRB := Lib.hid (fun w => refReadBlk_any b T w hb hb' hTs)
  have hks : (NM.pBlk ++ blkS b).size ≤ 900 := by rw [ByteArray.size_append]; show 6 + _ ≤ 900; omega
  have hlk : lockB (NM.pBlk ++ blkS b) T = false := by unfold lockB; rw [lock_no]; rfl
  have HOF := Lib.hid (fun x w hx hE => of_one (NM.pBlk ++ blkS b) T 1 x w hx hE hks (by omega) hlk (starts_blk NM.pAff (blkS b) ⟨97, [102, 102, 47], rfl, by decide⟩) (starts_blk NM.pHan (blkS b) ⟨104, [97, 110, 100, 108, 101, 47], rfl, by decide⟩) (starts_blk NM.pNod (blkS b) ⟨110, [111, 100, 101, 47], rfl, by decide⟩))
  have htk : tkPB (NM.pBlk ++ blkS b) T vw0 = if rdK b T = true then some { vw0 with blks := [imC T] } else none := by
    unfold tkPB
    rw [hlk, if_neg (by simp)]
    have h1 : plOf (NM.pBlk ++ blkS b) = none := by
      unfold plOf
      rw [starts_blk NM.pPool (blkS b) ⟨112, [111, 111, 108, 47], rfl, by decide⟩]
      split <;> rfl
    unfold tkP tkB
    rw [h1, blOf_blk b hb hb']
    simp only []
    unfold rdK
    by_cases h : imOk T = true ∧ (imC T).addr = b - b % 64
    · rw [if_pos h, if_pos (by rw [h.1, h.2]; simp)]
      rfl
    · rw [if_neg h, if_neg (fun x => h (by simpa using x))]
  rw [htk] at HOF
  have HEV := Lib.hid hE
  have wa : IntKind.u32.wrap (a - a.tmod 64) = a - a % 64 := by rw [IntKind.wrap_u32]; have : a.tmod 64 = a % 64 := Int.tmod_eq_emod_of_nonneg ha; omega
  have wb : IntKind.u32.wrap (b - b.tmod 64) = b - b % 64 := by rw [IntKind.wrap_u32]; have : b.tmod 64 = b % 64 := Int.tmod_eq_emod_of_nonneg hb; omega
  clear ha ha' hb hb'
  by_cases hs : 600 < val.size
  · rw [if_pos hs] at hT
    have d0 : decide ((600 : Int) < (val.size : Int)) = true := by simp; omega
    have hs2 : (600 : Int) ≤ (val.size : Int) := by omega
    have hex : val.extract 0 600 = T := hT.symm
    clear hs
    cases hra : rdK a T with
    | true =>
      rw [hra, if_pos rfl] at HRA
      by_cases hd : a - a % 64 = b - b % 64
      · have hrb : rdK b T = true := by unfold rdK at hra ⊢; rw [← hd]; exact hra
        rw [hrb, if_pos rfl] at HRB HOF
        have dd : ((a - a % 64) != (b - b % 64)) = false := by simp [hd]
        have dd2 : ((a - a % 64) == (b - b % 64)) = true := by simp [hd]
        clear hra hrb hd hT hTs hks hlk htk hsa hsb hE
        generalize a - a % 64 = fa at *
        generalize b - b % 64 = fb at *
        go_enter Tryz.func5, Tryz.ntmps5
        go_wp2_with fail
        refine (HNA.out _).mono ?_; rintro e w1 ⟨rfl, hb1⟩
        go_wp2_with fail
        change Calls _ _ #[.string (NM.pBlk ++ blkS a), .string T] _ _
        refine (HRA.out _).mono ?_; rintro e w2 ⟨ba, bf, a1, n1, c1, a2, n2, c2, a3, n3, c3, rfl, hb2⟩
        dsimp only [recV, recL]
        have hb3 := bel (bel hb1 hb2) (belNew w2 (.cells (recL 2 ba bf (.slice a1 n1 c1) (.slice a2 n2 c2) (.slice a3 n3 c3)).toArray TRec))
        have hk3 := heap_alloc_new w2 (.cells (recL 2 ba bf (.slice a1 n1 c1) (.slice a2 n2 c2) (.slice a3 n3 c3)).toArray TRec)
        go_upto_region 4 with fail
        obtain ⟨w3, hw3⟩ : ∃ w3, w3 = w2.alloc (.cells (recL 2 ba bf (.slice a1 n1 c1) (.slice a2 n2 c2) (.slice a3 n3 c3)).toArray TRec) := ⟨_, rfl⟩
        change Code.wp _ _ _ _ (w2.alloc (.cells (recL 2 ba bf (.slice a1 n1 c1) (.slice a2 n2 c2) (.slice a3 n3 c3)).toArray TRec))
        rw [← hw3]
        rw [← hw3] at hb3 hk3
        have hk : w3.cell? ⟨w2.heap.size, 0, none⟩ = some (.int .i64 2) := by simp [World.cell?, hk3, recL]
        have HB3 := Lib.hid hb3
        clear hw3 hb1 hb2 hb3 hk3
        go_wp2_with fail
        refine (HNB.out _).mono ?_; rintro e w7 ⟨rfl, hb7⟩
        have HB7 := Lib.hid (bel HB3.out hb7)
        have hk7 := bcell hb7 hk
        clear hb7 hk
        go_wp2_with fail
        obtain ⟨W4, hW4⟩ : ∃ W4, W4 = w7.alloc (itO (NM.pBlk ++ blkS b) T 1) := ⟨_, rfl⟩
        change Calls _ _ _ (w7.alloc (itO (NM.pBlk ++ blkS b) T 1)) _
        rw [← hW4]
        have hs4 := sees_one w7 (NM.pBlk ++ blkS b) T 1
        have hb4 := belNew w7 (itO (NM.pBlk ++ blkS b) T 1)
        rw [← hW4] at hs4 hb4
        have HB4 := Lib.hid (bel HB7.out hb4)
        have hk4 := bcell hb4 hk7
        clear hW4 hb4 hk7
        refine (HOF.out _ W4 hs4 (HEV.out.below HB4.out)).mono ?_; rintro e w5 ⟨gv, pp, rfl, hV, hb5⟩
        obtain ⟨pv, bv, ma, mh, mn, X⟩ := pp
        obtain ⟨po, pc, rfl⟩ : ∃ po pc, pv = .slice po 0 pc := hV.pools.slice
        obtain ⟨bo, bc, rfl⟩ : ∃ bo bc, bv = .slice bo X.length bc := hV.blks.slice
        clear hV
        generalize X.length = nX at *
        dsimp only [vwL]
        have hb6 := bel hb5 (belNew w5 (.cells #[.slice po 0 pc, .slice bo nX bc, .map (some ma), .map (some mh), .map (some mn)] 30))
        go_upto_region 5 with fail
        obtain ⟨w6, hw6⟩ : ∃ w6, w6 = w5.alloc (.cells #[.slice po 0 pc, .slice bo nX bc, .map (some ma), .map (some mh), .map (some mn)] 30) := ⟨_, rfl⟩
        rw [← hw6] at hb6 ⊢
        have hk6 := bcell hb6 hk4
        have HB6 := Lib.hid (bel HB4.out hb6)
        clear hw6 hb5 hb6 hk4 hs4
        go_wp2_with fail
        refine (HNB.out _).mono ?_; rintro e w8 ⟨rfl, hb8⟩
        go_wp2_with fail
        change Calls _ _ #[.string (NM.pBlk ++ blkS b), .string T] _ _
        refine (HRB.out _).mono ?_; rintro e w9 ⟨xa, xf, x1, y1, z1, x2, y2, z2, x3, y3, z3, rfl, hb9⟩
        dsimp only [recV, recL]
        have hfl := rec_kind
        have HB9 := Lib.hid (bel (bel HB6.out hb8) hb9)
        clear hb8 hb9
        go_wp2_with fail
        refine (HAW.out _ (HEV.out.below HB9.out)).mono ?_; rintro e w10 ⟨rfl, hb10⟩
        go_wp2_with fail
        go_ret
        exact ⟨rfl, bel HB9.out hb10⟩
      · have hrb : rdK b T = false := by
          cases h : rdK b T with
          | false => rfl
          | true =>
            unfold rdK at hra h
            simp only [Bool.and_eq_true, decide_eq_true_eq] at hra h
            exact absurd (hra.2.symm.trans h.2) hd
        rw [hrb, if_neg (by simp)] at HRB HOF
        have dd : ((a - a % 64) != (b - b % 64)) = true := by simp [hd]
        have dd2 : ((a - a % 64) == (b - b % 64)) = false := by simp [hd]
        clear hra hrb hd hT hTs hks hlk htk hsa hsb hE
        generalize a - a % 64 = fa at *
        generalize b - b % 64 = fb at *
        go_enter Tryz.func5, Tryz.ntmps5
        go_wp2_with fail
        refine (HNA.out _).mono ?_; rintro e w1 ⟨rfl, hb1⟩
        go_wp2_with fail
        change Calls _ _ #[.string (NM.pBlk ++ blkS a), .string T] _ _
        refine (HRA.out _).mono ?_; rintro e w2 ⟨ba, bf, a1, n1, c1, a2, n2, c2, a3, n3, c3, rfl, hb2⟩
        dsimp only [recV, recL]
        have hb3 := bel (bel hb1 hb2) (belNew w2 (.cells (recL 2 ba bf (.slice a1 n1 c1) (.slice a2 n2 c2) (.slice a3 n3 c3)).toArray TRec))
        have hk3 := heap_alloc_new w2 (.cells (recL 2 ba bf (.slice a1 n1 c1) (.slice a2 n2 c2) (.slice a3 n3 c3)).toArray TRec)
        go_upto_region 4 with fail
        obtain ⟨w3, hw3⟩ : ∃ w3, w3 = w2.alloc (.cells (recL 2 ba bf (.slice a1 n1 c1) (.slice a2 n2 c2) (.slice a3 n3 c3)).toArray TRec) := ⟨_, rfl⟩
        change Code.wp _ _ _ _ (w2.alloc (.cells (recL 2 ba bf (.slice a1 n1 c1) (.slice a2 n2 c2) (.slice a3 n3 c3)).toArray TRec))
        rw [← hw3]
        rw [← hw3] at hb3 hk3
        have hk : w3.cell? ⟨w2.heap.size, 0, none⟩ = some (.int .i64 2) := by simp [World.cell?, hk3, recL]
        have HB3 := Lib.hid hb3
        clear hw3 hb1 hb2 hb3 hk3
        go_wp2_with fail
        refine (HNB.out _).mono ?_; rintro e w7 ⟨rfl, hb7⟩
        have HB7 := Lib.hid (bel HB3.out hb7)
        have hk7 := bcell hb7 hk
        clear hb7 hk
        go_wp2_with fail
        obtain ⟨W4, hW4⟩ : ∃ W4, W4 = w7.alloc (itO (NM.pBlk ++ blkS b) T 1) := ⟨_, rfl⟩
        change Calls _ _ _ (w7.alloc (itO (NM.pBlk ++ blkS b) T 1)) _
        rw [← hW4]
        have hs4 := sees_one w7 (NM.pBlk ++ blkS b) T 1
        have hb4 := belNew w7 (itO (NM.pBlk ++ blkS b) T 1)
        rw [← hW4] at hs4 hb4
        have HB4 := Lib.hid (bel HB7.out hb4)
        have hk4 := bcell hb4 hk7
        clear hW4 hb4 hk7
        refine (HOF.out _ W4 hs4 (HEV.out.below HB4.out)).mono ?_; rintro e w5 ⟨rfl, hb5⟩
        have hb6 := bel hb5 (belNew w5 (.cells #[NS, NS, .map none, .map none, .map none] 30))
        go_upto_region 5 with fail
        obtain ⟨w6, hw6⟩ : ∃ w6, w6 = w5.alloc (.cells #[NS, NS, .map none, .map none, .map none] 30) := ⟨_, rfl⟩
        rw [← hw6] at hb6 ⊢
        have hk6 := bcell hb6 hk4
        have HB6 := Lib.hid (bel HB4.out hb6)
        clear hw6 hb5 hb6 hk4 hs4
        go_wp2_with fail
        refine (HAW.out _ (HEV.out.below HB6.out)).mono ?_; rintro e w8 ⟨rfl, hb8⟩
        go_wp2_with fail
        go_ret
        exact ⟨rfl, bel HB6.out hb8⟩
    | false =>
      rw [hra, if_neg (by simp)] at HRA
      cases hrb : rdK b T with
      | true =>
        rw [hrb, if_pos rfl] at HRB HOF
        clear hra hrb hT hTs hks hlk htk hsa hsb hE
        go_enter Tryz.func5, Tryz.ntmps5
        go_wp2_with fail
        refine (HNA.out _).mono ?_; rintro e w1 ⟨rfl, hb1⟩
        go_wp2_with fail
        change Calls _ _ #[.string (NM.pBlk ++ blkS a), .string T] _ _
        refine (HRA.out _).mono ?_; rintro e w2 ⟨ba, bf, a1, n1, c1, a2, n2, c2, a3, n3, c3, rfl, hb2⟩
        dsimp only [recV, recL]
        have hb3 := bel (bel hb1 hb2) (belNew w2 (.cells (recL 0 ba bf (.slice a1 n1 c1) (.slice a2 n2 c2) (.slice a3 n3 c3)).toArray TRec))
        have hk3 := heap_alloc_new w2 (.cells (recL 0 ba bf (.slice a1 n1 c1) (.slice a2 n2 c2) (.slice a3 n3 c3)).toArray TRec)
        go_upto_region 4 with fail
        obtain ⟨w3, hw3⟩ : ∃ w3, w3 = w2.alloc (.cells (recL 0 ba bf (.slice a1 n1 c1) (.slice a2 n2 c2) (.slice a3 n3 c3)).toArray TRec) := ⟨_, rfl⟩
        change Code.wp _ _ _ _ (w2.alloc (.cells (recL 0 ba bf (.slice a1 n1 c1) (.slice a2 n2 c2) (.slice a3 n3 c3)).toArray TRec))
        rw [← hw3]
        rw [← hw3] at hb3 hk3
        have hk : w3.cell? ⟨w2.heap.size, 0, none⟩ = some (.int .i64 0) := by simp [World.cell?, hk3, recL]
        have HB3 := Lib.hid hb3
        clear hw3 hb1 hb2 hb3 hk3
        go_wp2_with fail
        refine (HNB.out _).mono ?_; rintro e w7 ⟨rfl, hb7⟩
        have HB7 := Lib.hid (bel HB3.out hb7)
        have hk7 := bcell hb7 hk
        clear hb7 hk
        go_wp2_with fail
        obtain ⟨W4, hW4⟩ : ∃ W4, W4 = w7.alloc (itO (NM.pBlk ++ blkS b) T 1) := ⟨_, rfl⟩
        change Calls _ _ _ (w7.alloc (itO (NM.pBlk ++ blkS b) T 1)) _
        rw [← hW4]
        have hs4 := sees_one w7 (NM.pBlk ++ blkS b) T 1
        have hb4 := belNew w7 (itO (NM.pBlk ++ blkS b) T 1)
        rw [← hW4] at hs4 hb4
        have HB4 := Lib.hid (bel HB7.out hb4)
        have hk4 := bcell hb4 hk7
        clear hW4 hb4 hk7
        refine (HOF.out _ W4 hs4 (HEV.out.below HB4.out)).mono ?_; rintro e w5 ⟨gv, pp, rfl, hV, hb5⟩
        obtain ⟨pv, bv, ma, mh, mn, X⟩ := pp
        obtain ⟨po, pc, rfl⟩ : ∃ po pc, pv = .slice po 0 pc := hV.pools.slice
        obtain ⟨bo, bc, rfl⟩ : ∃ bo bc, bv = .slice bo X.length bc := hV.blks.slice
        clear hV
        generalize X.length = nX at *
        dsimp only [vwL]
        have hb6 := bel hb5 (belNew w5 (.cells #[.slice po 0 pc, .slice bo nX bc, .map (some ma), .map (some mh), .map (some mn)] 30))
        go_upto_region 5 with fail
        obtain ⟨w6, hw6⟩ : ∃ w6, w6 = w5.alloc (.cells #[.slice po 0 pc, .slice bo nX bc, .map (some ma), .map (some mh), .map (some mn)] 30) := ⟨_, rfl⟩
        rw [← hw6] at hb6 ⊢
        have hk6 := bcell hb6 hk4
        have HB6 := Lib.hid (bel HB4.out hb6)
        clear hw6 hb5 hb6 hk4 hs4
        go_wp2_with fail
        refine (HNB.out _).mono ?_; rintro e w8 ⟨rfl, hb8⟩
        go_wp2_with fail
        change Calls _ _ #[.string (NM.pBlk ++ blkS b), .string T] _ _
        refine (HRB.out _).mono ?_; rintro e w9 ⟨xa, xf, x1, y1, z1, x2, y2, z2, x3, y3, z3, rfl, hb9⟩
        dsimp only [recV, recL]
        have hfl := rec_kind
        have HB9 := Lib.hid (bel (bel HB6.out hb8) hb9)
        clear hb8 hb9
        go_wp2_with fail
        refine (HAW.out _ (HEV.out.below HB9.out)).mono ?_; rintro e w10 ⟨rfl, hb10⟩
        go_wp2_with fail
        go_ret
        exact ⟨rfl, bel HB9.out hb10⟩
      | false =>
        rw [hrb, if_neg (by simp)] at HRB HOF
        clear hra hrb hT hTs hks hlk htk hsa hsb hE
        go_enter Tryz.func5, Tryz.ntmps5
        go_wp2_with fail
        refine (HNA.out _).mono ?_; rintro e w1 ⟨rfl, hb1⟩
        go_wp2_with fail
        change Calls _ _ #[.string (NM.pBlk ++ blkS a), .string T] _ _
        refine (HRA.out _).mono ?_; rintro e w2 ⟨ba, bf, a1, n1, c1, a2, n2, c2, a3, n3, c3, rfl, hb2⟩
        dsimp only [recV, recL]
        have hb3 := bel (bel hb1 hb2) (belNew w2 (.cells (recL 0 ba bf (.slice a1 n1 c1) (.slice a2 n2 c2) (.slice a3 n3 c3)).toArray TRec))
        have hk3 := heap_alloc_new w2 (.cells (recL 0 ba bf (.slice a1 n1 c1) (.slice a2 n2 c2) (.slice a3 n3 c3)).toArray TRec)
        go_upto_region 4 with fail
        obtain ⟨w3, hw3⟩ : ∃ w3, w3 = w2.alloc (.cells (recL 0 ba bf (.slice a1 n1 c1) (.slice a2 n2 c2) (.slice a3 n3 c3)).toArray TRec) := ⟨_, rfl⟩
        change Code.wp _ _ _ _ (w2.alloc (.cells (recL 0 ba bf (.slice a1 n1 c1) (.slice a2 n2 c2) (.slice a3 n3 c3)).toArray TRec))
        rw [← hw3]
        rw [← hw3] at hb3 hk3
        have hk : w3.cell? ⟨w2.heap.size, 0, none⟩ = some (.int .i64 0) := by simp [World.cell?, hk3, recL]
        have HB3 := Lib.hid hb3
        clear hw3 hb1 hb2 hb3 hk3
        go_wp2_with fail
        refine (HNB.out _).mono ?_; rintro e w7 ⟨rfl, hb7⟩
        have HB7 := Lib.hid (bel HB3.out hb7)
        have hk7 := bcell hb7 hk
        clear hb7 hk
        go_wp2_with fail
        obtain ⟨W4, hW4⟩ : ∃ W4, W4 = w7.alloc (itO (NM.pBlk ++ blkS b) T 1) := ⟨_, rfl⟩
        change Calls _ _ _ (w7.alloc (itO (NM.pBlk ++ blkS b) T 1)) _
        rw [← hW4]
        have hs4 := sees_one w7 (NM.pBlk ++ blkS b) T 1
        have hb4 := belNew w7 (itO (NM.pBlk ++ blkS b) T 1)
        rw [← hW4] at hs4 hb4
        have HB4 := Lib.hid (bel HB7.out hb4)
        have hk4 := bcell hb4 hk7
        clear hW4 hb4 hk7
        refine (HOF.out _ W4 hs4 (HEV.out.below HB4.out)).mono ?_; rintro e w5 ⟨rfl, hb5⟩
        have hb6 := bel hb5 (belNew w5 (.cells #[NS, NS, .map none, .map none, .map none] 30))
        go_upto_region 5 with fail
        obtain ⟨w6, hw6⟩ : ∃ w6, w6 = w5.alloc (.cells #[NS, NS, .map none, .map none, .map none] 30) := ⟨_, rfl⟩
        rw [← hw6] at hb6 ⊢
        have hk6 := bcell hb6 hk4
        have HB6 := Lib.hid (bel HB4.out hb6)
        clear hw6 hb5 hb6 hk4 hs4
        go_wp2_with fail
        refine (HNB.out _).mono ?_; rintro e w8 ⟨rfl, hb8⟩
        go_wp2_with fail
        change Calls _ _ #[.string (NM.pBlk ++ blkS b), .string T] _ _
        refine (HRB.out _).mono ?_; rintro e w9 ⟨xa, xf, x1, y1, z1, x2, y2, z2, x3, y3, z3, rfl, hb9⟩
        dsimp only [recV, recL]
        have hfl := rec_kind
        have HB9 := Lib.hid (bel (bel HB6.out hb8) hb9)
        clear hb8 hb9
        go_wp2_with fail
        refine (HAW.out _ (HEV.out.below HB9.out)).mono ?_; rintro e w10 ⟨rfl, hb10⟩
        go_wp2_with fail
        go_ret
        exact ⟨rfl, bel HB9.out hb10⟩
  · rw [if_neg hs] at hT
    have d0 : decide ((600 : Int) < (val.size : Int)) = false := by simp; omega
    have hs3 : ¬ (600 : Int) < (val.size : Int) := by omega
    subst hT
    clear hs
    cases hra : rdK a T with
    | true =>
      rw [hra, if_pos rfl] at HRA
      by_cases hd : a - a % 64 = b - b % 64
      · have hrb : rdK b T = true := by unfold rdK at hra ⊢; rw [← hd]; exact hra
        rw [hrb, if_pos rfl] at HRB HOF
        have dd : ((a - a % 64) != (b - b % 64)) = false := by simp [hd]
        have dd2 : ((a - a % 64) == (b - b % 64)) = true := by simp [hd]
        clear hra hrb hd hTs hks hlk htk hsa hsb hE
        generalize a - a % 64 = fa at *
        generalize b - b % 64 = fb at *
        go_enter Tryz.func5, Tryz.ntmps5
        go_wp2_with fail
        refine (HNA.out _).mono ?_; rintro e w1 ⟨rfl, hb1⟩
        go_wp2_with fail
        change Calls _ _ #[.string (NM.pBlk ++ blkS a), .string T] _ _
        refine (HRA.out _).mono ?_; rintro e w2 ⟨ba, bf, a1, n1, c1, a2, n2, c2, a3, n3, c3, rfl, hb2⟩
        dsimp only [recV, recL]
        have hb3 := bel (bel hb1 hb2) (belNew w2 (.cells (recL 2 ba bf (.slice a1 n1 c1) (.slice a2 n2 c2) (.slice a3 n3 c3)).toArray TRec))
        have hk3 := heap_alloc_new w2 (.cells (recL 2 ba bf (.slice a1 n1 c1) (.slice a2 n2 c2) (.slice a3 n3 c3)).toArray TRec)
        go_upto_region 4 with fail
        obtain ⟨w3, hw3⟩ : ∃ w3, w3 = w2.alloc (.cells (recL 2 ba bf (.slice a1 n1 c1) (.slice a2 n2 c2) (.slice a3 n3 c3)).toArray TRec) := ⟨_, rfl⟩
        change Code.wp _ _ _ _ (w2.alloc (.cells (recL 2 ba bf (.slice a1 n1 c1) (.slice a2 n2 c2) (.slice a3 n3 c3)).toArray TRec))
        rw [← hw3]
        rw [← hw3] at hb3 hk3
        have hk : w3.cell? ⟨w2.heap.size, 0, none⟩ = some (.int .i64 2) := by simp [World.cell?, hk3, recL]
        have HB3 := Lib.hid hb3
        clear hw3 hb1 hb2 hb3 hk3
        go_wp2_with fail
        refine (HNB.out _).mono ?_; rintro e w7 ⟨rfl, hb7⟩
        have HB7 := Lib.hid (bel HB3.out hb7)
        have hk7 := bcell hb7 hk
        clear hb7 hk
        go_wp2_with fail
        obtain ⟨W4, hW4⟩ : ∃ W4, W4 = w7.alloc (itO (NM.pBlk ++ blkS b) T 1) := ⟨_, rfl⟩
        change Calls _ _ _ (w7.alloc (itO (NM.pBlk ++ blkS b) T 1)) _
        rw [← hW4]
        have hs4 := sees_one w7 (NM.pBlk ++ blkS b) T 1
        have hb4 := belNew w7 (itO (NM.pBlk ++ blkS b) T 1)
        rw [← hW4] at hs4 hb4
        have HB4 := Lib.hid (bel HB7.out hb4)
        have hk4 := bcell hb4 hk7
        clear hW4 hb4 hk7
        refine (HOF.out _ W4 hs4 (HEV.out.below HB4.out)).mono ?_; rintro e w5 ⟨gv, pp, rfl, hV, hb5⟩
        obtain ⟨pv, bv, ma, mh, mn, X⟩ := pp
        obtain ⟨po, pc, rfl⟩ : ∃ po pc, pv = .slice po 0 pc := hV.pools.slice
        obtain ⟨bo, bc, rfl⟩ : ∃ bo bc, bv = .slice bo X.length bc := hV.blks.slice
        clear hV
        generalize X.length = nX at *
        dsimp only [vwL]
        have hb6 := bel hb5 (belNew w5 (.cells #[.slice po 0 pc, .slice bo nX bc, .map (some ma), .map (some mh), .map (some mn)] 30))
        go_upto_region 5 with fail
        obtain ⟨w6, hw6⟩ : ∃ w6, w6 = w5.alloc (.cells #[.slice po 0 pc, .slice bo nX bc, .map (some ma), .map (some mh), .map (some mn)] 30) := ⟨_, rfl⟩
        rw [← hw6] at hb6 ⊢
        have hk6 := bcell hb6 hk4
        have HB6 := Lib.hid (bel HB4.out hb6)
        clear hw6 hb5 hb6 hk4 hs4
        go_wp2_with fail
        refine (HNB.out _).mono ?_; rintro e w8 ⟨rfl, hb8⟩
        go_wp2_with fail
        change Calls _ _ #[.string (NM.pBlk ++ blkS b), .string T] _ _
        refine (HRB.out _).mono ?_; rintro e w9 ⟨xa, xf, x1, y1, z1, x2, y2, z2, x3, y3, z3, rfl, hb9⟩
        dsimp only [recV, recL]
        have hfl := rec_kind
        have HB9 := Lib.hid (bel (bel HB6.out hb8) hb9)
        clear hb8 hb9
        go_wp2_with fail
        refine (HAW.out _ (HEV.out.below HB9.out)).mono ?_; rintro e w10 ⟨rfl, hb10⟩
        go_wp2_with fail
        go_ret
        exact ⟨rfl, bel HB9.out hb10⟩
      · have hrb : rdK b T = false := by
          cases h : rdK b T with
          | false => rfl
          | true =>
            unfold rdK at hra h
            simp only [Bool.and_eq_true, decide_eq_true_eq] at hra h
            exact absurd (hra.2.symm.trans h.2) hd
        rw [hrb, if_neg (by simp)] at HRB HOF
        have dd : ((a - a % 64) != (b - b % 64)) = true := by simp [hd]
        have dd2 : ((a - a % 64) == (b - b % 64)) = false := by simp [hd]
        clear hra hrb hd hTs hks hlk htk hsa hsb hE
        generalize a - a % 64 = fa at *
        generalize b - b % 64 = fb at *
        go_enter Tryz.func5, Tryz.ntmps5
        go_wp2_with fail
        refine (HNA.out _).mono ?_; rintro e w1 ⟨rfl, hb1⟩
        go_wp2_with fail
        change Calls _ _ #[.string (NM.pBlk ++ blkS a), .string T] _ _
        refine (HRA.out _).mono ?_; rintro e w2 ⟨ba, bf, a1, n1, c1, a2, n2, c2, a3, n3, c3, rfl, hb2⟩
        dsimp only [recV, recL]
        have hb3 := bel (bel hb1 hb2) (belNew w2 (.cells (recL 2 ba bf (.slice a1 n1 c1) (.slice a2 n2 c2) (.slice a3 n3 c3)).toArray TRec))
        have hk3 := heap_alloc_new w2 (.cells (recL 2 ba bf (.slice a1 n1 c1) (.slice a2 n2 c2) (.slice a3 n3 c3)).toArray TRec)
        go_upto_region 4 with fail
        obtain ⟨w3, hw3⟩ : ∃ w3, w3 = w2.alloc (.cells (recL 2 ba bf (.slice a1 n1 c1) (.slice a2 n2 c2) (.slice a3 n3 c3)).toArray TRec) := ⟨_, rfl⟩
        change Code.wp _ _ _ _ (w2.alloc (.cells (recL 2 ba bf (.slice a1 n1 c1) (.slice a2 n2 c2) (.slice a3 n3 c3)).toArray TRec))
        rw [← hw3]
        rw [← hw3] at hb3 hk3
        have hk : w3.cell? ⟨w2.heap.size, 0, none⟩ = some (.int .i64 2) := by simp [World.cell?, hk3, recL]
        have HB3 := Lib.hid hb3
        clear hw3 hb1 hb2 hb3 hk3
        go_wp2_with fail
        refine (HNB.out _).mono ?_; rintro e w7 ⟨rfl, hb7⟩
        have HB7 := Lib.hid (bel HB3.out hb7)
        have hk7 := bcell hb7 hk
        clear hb7 hk
        go_wp2_with fail
        obtain ⟨W4, hW4⟩ : ∃ W4, W4 = w7.alloc (itO (NM.pBlk ++ blkS b) T 1) := ⟨_, rfl⟩
        change Calls _ _ _ (w7.alloc (itO (NM.pBlk ++ blkS b) T 1)) _
        rw [← hW4]
        have hs4 := sees_one w7 (NM.pBlk ++ blkS b) T 1
        have hb4 := belNew w7 (itO (NM.pBlk ++ blkS b) T 1)
        rw [← hW4] at hs4 hb4
        have HB4 := Lib.hid (bel HB7.out hb4)
        have hk4 := bcell hb4 hk7
        clear hW4 hb4 hk7
        refine (HOF.out _ W4 hs4 (HEV.out.below HB4.out)).mono ?_; rintro e w5 ⟨rfl, hb5⟩
        have hb6 := bel hb5 (belNew w5 (.cells #[NS, NS, .map none, .map none, .map none] 30))
        go_upto_region 5 with fail
        obtain ⟨w6, hw6⟩ : ∃ w6, w6 = w5.alloc (.cells #[NS, NS, .map none, .map none, .map none] 30) := ⟨_, rfl⟩
        rw [← hw6] at hb6 ⊢
        have hk6 := bcell hb6 hk4
        have HB6 := Lib.hid (bel HB4.out hb6)
        clear hw6 hb5 hb6 hk4 hs4
        go_wp2_with fail
        refine (HAW.out _ (HEV.out.below HB6.out)).mono ?_; rintro e w8 ⟨rfl, hb8⟩
        go_wp2_with fail
        go_ret
        exact ⟨rfl, bel HB6.out hb8⟩
    | false =>
      rw [hra, if_neg (by simp)] at HRA
      cases hrb : rdK b T with
      | true =>
        rw [hrb, if_pos rfl] at HRB HOF
        clear hra hrb hTs hks hlk htk hsa hsb hE
        go_enter Tryz.func5, Tryz.ntmps5
        go_wp2_with fail
        refine (HNA.out _).mono ?_; rintro e w1 ⟨rfl, hb1⟩
        go_wp2_with fail
        change Calls _ _ #[.string (NM.pBlk ++ blkS a), .string T] _ _
        refine (HRA.out _).mono ?_; rintro e w2 ⟨ba, bf, a1, n1, c1, a2, n2, c2, a3, n3, c3, rfl, hb2⟩
        dsimp only [recV, recL]
        have hb3 := bel (bel hb1 hb2) (belNew w2 (.cells (recL 0 ba bf (.slice a1 n1 c1) (.slice a2 n2 c2) (.slice a3 n3 c3)).toArray TRec))
        have hk3 := heap_alloc_new w2 (.cells (recL 0 ba bf (.slice a1 n1 c1) (.slice a2 n2 c2) (.slice a3 n3 c3)).toArray TRec)
        go_upto_region 4 with fail
        obtain ⟨w3, hw3⟩ : ∃ w3, w3 = w2.alloc (.cells (recL 0 ba bf (.slice a1 n1 c1) (.slice a2 n2 c2) (.slice a3 n3 c3)).toArray TRec) := ⟨_, rfl⟩
        change Code.wp _ _ _ _ (w2.alloc (.cells (recL 0 ba bf (.slice a1 n1 c1) (.slice a2 n2 c2) (.slice a3 n3 c3)).toArray TRec))
        rw [← hw3]
        rw [← hw3] at hb3 hk3
        have hk : w3.cell? ⟨w2.heap.size, 0, none⟩ = some (.int .i64 0) := by simp [World.cell?, hk3, recL]
        have HB3 := Lib.hid hb3
        clear hw3 hb1 hb2 hb3 hk3
        go_wp2_with fail
        refine (HNB.out _).mono ?_; rintro e w7 ⟨rfl, hb7⟩
        have HB7 := Lib.hid (bel HB3.out hb7)
        have hk7 := bcell hb7 hk
        clear hb7 hk
        go_wp2_with fail
        obtain ⟨W4, hW4⟩ : ∃ W4, W4 = w7.alloc (itO (NM.pBlk ++ blkS b) T 1) := ⟨_, rfl⟩
        change Calls _ _ _ (w7.alloc (itO (NM.pBlk ++ blkS b) T 1)) _
        rw [← hW4]
        have hs4 := sees_one w7 (NM.pBlk ++ blkS b) T 1
        have hb4 := belNew w7 (itO (NM.pBlk ++ blkS b) T 1)
        rw [← hW4] at hs4 hb4
        have HB4 := Lib.hid (bel HB7.out hb4)
        have hk4 := bcell hb4 hk7
        clear hW4 hb4 hk7
        refine (HOF.out _ W4 hs4 (HEV.out.below HB4.out)).mono ?_; rintro e w5 ⟨gv, pp, rfl, hV, hb5⟩
        obtain ⟨pv, bv, ma, mh, mn, X⟩ := pp
        obtain ⟨po, pc, rfl⟩ : ∃ po pc, pv = .slice po 0 pc := hV.pools.slice
        obtain ⟨bo, bc, rfl⟩ : ∃ bo bc, bv = .slice bo X.length bc := hV.blks.slice
        clear hV
        generalize X.length = nX at *
        dsimp only [vwL]
        have hb6 := bel hb5 (belNew w5 (.cells #[.slice po 0 pc, .slice bo nX bc, .map (some ma), .map (some mh), .map (some mn)] 30))
        go_upto_region 5 with fail
        obtain ⟨w6, hw6⟩ : ∃ w6, w6 = w5.alloc (.cells #[.slice po 0 pc, .slice bo nX bc, .map (some ma), .map (some mh), .map (some mn)] 30) := ⟨_, rfl⟩
        rw [← hw6] at hb6 ⊢
        have hk6 := bcell hb6 hk4
        have HB6 := Lib.hid (bel HB4.out hb6)
        clear hw6 hb5 hb6 hk4 hs4
        go_wp2_with fail
        refine (HNB.out _).mono ?_; rintro e w8 ⟨rfl, hb8⟩
        go_wp2_with fail
        change Calls _ _ #[.string (NM.pBlk ++ blkS b), .string T] _ _
        refine (HRB.out _).mono ?_; rintro e w9 ⟨xa, xf, x1, y1, z1, x2, y2, z2, x3, y3, z3, rfl, hb9⟩
        dsimp only [recV, recL]
        have hfl := rec_kind
        have HB9 := Lib.hid (bel (bel HB6.out hb8) hb9)
        clear hb8 hb9
        go_wp2_with fail
        refine (HAW.out _ (HEV.out.below HB9.out)).mono ?_; rintro e w10 ⟨rfl, hb10⟩
        go_wp2_with fail
        go_ret
        exact ⟨rfl, bel HB9.out hb10⟩
      | false =>
        rw [hrb, if_neg (by simp)] at HRB HOF
        clear hra hrb hTs hks hlk htk hsa hsb hE
        go_enter Tryz.func5, Tryz.ntmps5
        go_wp2_with fail
        refine (HNA.out _).mono ?_; rintro e w1 ⟨rfl, hb1⟩
        go_wp2_with fail
        change Calls _ _ #[.string (NM.pBlk ++ blkS a), .string T] _ _
        refine (HRA.out _).mono ?_; rintro e w2 ⟨ba, bf, a1, n1, c1, a2, n2, c2, a3, n3, c3, rfl, hb2⟩
        dsimp only [recV, recL]
        have hb3 := bel (bel hb1 hb2) (belNew w2 (.cells (recL 0 ba bf (.slice a1 n1 c1) (.slice a2 n2 c2) (.slice a3 n3 c3)).toArray TRec))
        have hk3 := heap_alloc_new w2 (.cells (recL 0 ba bf (.slice a1 n1 c1) (.slice a2 n2 c2) (.slice a3 n3 c3)).toArray TRec)
        go_upto_region 4 with fail
        obtain ⟨w3, hw3⟩ : ∃ w3, w3 = w2.alloc (.cells (recL 0 ba bf (.slice a1 n1 c1) (.slice a2 n2 c2) (.slice a3 n3 c3)).toArray TRec) := ⟨_, rfl⟩
        change Code.wp _ _ _ _ (w2.alloc (.cells (recL 0 ba bf (.slice a1 n1 c1) (.slice a2 n2 c2) (.slice a3 n3 c3)).toArray TRec))
        rw [← hw3]
        rw [← hw3] at hb3 hk3
        have hk : w3.cell? ⟨w2.heap.size, 0, none⟩ = some (.int .i64 0) := by simp [World.cell?, hk3, recL]
        have HB3 := Lib.hid hb3
        clear hw3 hb1 hb2 hb3 hk3
        go_wp2_with fail
        refine (HNB.out _).mono ?_; rintro e w7 ⟨rfl, hb7⟩
        have HB7 := Lib.hid (bel HB3.out hb7)
        have hk7 := bcell hb7 hk
        clear hb7 hk
        go_wp2_with fail
        obtain ⟨W4, hW4⟩ : ∃ W4, W4 = w7.alloc (itO (NM.pBlk ++ blkS b) T 1) := ⟨_, rfl⟩
        change Calls _ _ _ (w7.alloc (itO (NM.pBlk ++ blkS b) T 1)) _
        rw [← hW4]
        have hs4 := sees_one w7 (NM.pBlk ++ blkS b) T 1
        have hb4 := belNew w7 (itO (NM.pBlk ++ blkS b) T 1)
        rw [← hW4] at hs4 hb4
        have HB4 := Lib.hid (bel HB7.out hb4)
        have hk4 := bcell hb4 hk7
        clear hW4 hb4 hk7
        refine (HOF.out _ W4 hs4 (HEV.out.below HB4.out)).mono ?_; rintro e w5 ⟨rfl, hb5⟩
        have hb6 := bel hb5 (belNew w5 (.cells #[NS, NS, .map none, .map none, .map none] 30))
        go_upto_region 5 with fail
        obtain ⟨w6, hw6⟩ : ∃ w6, w6 = w5.alloc (.cells #[NS, NS, .map none, .map none, .map none] 30) := ⟨_, rfl⟩
        rw [← hw6] at hb6 ⊢
        have hk6 := bcell hb6 hk4
        have HB6 := Lib.hid (bel HB4.out hb6)
        clear hw6 hb5 hb6 hk4 hs4
        go_wp2_with fail
        refine (HNB.out _).mono ?_; rintro e w8 ⟨rfl, hb8⟩
        go_wp2_with fail
        change Calls _ _ #[.string (NM.pBlk ++ blkS b), .string T] _ _
        refine (HRB.out _).mono ?_; rintro e w9 ⟨xa, xf, x1, y1, z1, x2, y2, z2, x3, y3, z3, rfl, hb9⟩
        dsimp only [recV, recL]
        have hfl := rec_kind
        have HB9 := Lib.hid (bel (bel HB6.out hb8) hb9)
        clear hb8 hb9
        go_wp2_with fail
        refine (HAW.out _ (HEV.out.below HB9.out)).mono ?_; rintro e w10 ⟨rfl, hb10⟩
        go_wp2_with fail
        go_ret
        exact ⟨rfl, bel HB9.out hb10⟩
end Go.Proofs.YtlbgjmnihenmaaaGreatDoor
