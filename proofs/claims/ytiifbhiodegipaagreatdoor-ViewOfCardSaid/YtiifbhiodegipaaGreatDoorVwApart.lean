/- The walk of ViewApart. -/
import Derived.Test.YtiifbhiodegipaaGreatDoorVwRd
import Derived.Test.YtiifbhiodegipaaGreatDoorVwTk
import Derived.Test.YtiifbhiodegipaaGreatDoorVwOf
import Derived.Test.YtiifbhiodegipaaGreatDoorVwPool
namespace Go.Proofs.YtiifbhiodegipaaGreatDoor
open Go.RowKit
abbrev exKey : ByteArray := ⟨#[112, 111, 111, 108, 47, 49, 48, 46, 48, 46, 48, 46, 48, 45, 50, 54]⟩
abbrev exVal : ByteArray := ⟨#[80, 10, 0, 0, 0, 26, 1]⟩
theorem ex_of : plOf exKey = some (167772160, 26) := by decide +kernel
theorem ex_rd : plRd exVal = some (167772160, 26, true) := by decide +kernel
theorem ex_tk : tkPB exKey exVal vw0 = some { vw0 with pools := [(167772160, 26, true)] } := by
  unfold tkPB tkP
  rw [ex_of, ex_rd]
  have h : lockB exKey exVal = false := by decide +kernel
  rw [h]
  rfl
/-- Of one item. -/
theorem of_one (k v : ByteArray) (r : Int) (x : Value) (w : World) (hx : SeesIt w x [(k, v, r)]) (hE : NM.Env w) (hk : k.size ≤ 900) (hv : v.size ≤ 1000) (hlk : lockB k v = false)
    (hA : NM.starts k NM.pAff = false) (hH : NM.starts k NM.pHan = false) (hN : NM.starts k NM.pNod = false) :
    Calls Tryz.prog 7 #[x] w (OfPost w 1 (tkPB k v vw0)) := by
  have h := vwOf_any tkPB x [(k, v, r)] w hx hE (by simp) (fun p hp => by rw [List.mem_singleton.1 hp]; exact hk)
    (Lib.hid (fun i q s p B g wr hq _ hV hW => by
      have hi : i = 0 := by
        have := (List.getElem?_eq_some_iff.1 hq).1
        simp at this
        exact this
      subst hi
      obtain rfl : (k, v, r) = q := by simpa using hq
      exact take_pb k v r B g 0 p s wr hV hW hk hv (by omega) hlk hA hH hN))
  have e : vwN tkPB [(k, v, r)] [(k, v, r)].length = tkPB k v vw0 := by
    show vwN tkPB [(k, v, r)] 1 = _
    rw [vwN]
    rfl
  rw [e] at h
  exact h
set_option maxRecDepth 100000 in
set_option maxHeartbeats 8000000 in
theorem awake18_any (w : World) (hE : NM.Env w) :
    Calls Tryz.prog 10 #[] w fun e w' => e = .returned (.bool true) ∧ Below w.heap.size w w' := by
  obtain ⟨W, hW⟩ : ∃ W, W = w.alloc (itO exKey exVal 1) := ⟨_, rfl⟩
  have hb0 := belNew w (itO exKey exVal 1)
  have hs : SeesIt W (.slice (some ⟨w.heap.size, 0, none⟩) 1 1) [(exKey, exVal, 1)] := by
    have hI := It3.new w exKey exVal 1
    rw [← hW] at hI
    refine ⟨some ⟨w.heap.size, 0, none⟩, 1, rfl, Nat.le_refl _, (fun h => by cases h), fun a ha i p hp j u hu => ?_⟩
    cases ha
    have hi : i = 0 := by
      have := (List.getElem?_eq_some_iff.1 hp).1
      simp at this
      exact this
    subst hi
    obtain rfl : (exKey, exVal, (1 : Int)) = p := by simpa using hp
    match j, hu with
    | 0, hu => cases hu; exact hI.1
    | 1, hu => cases hu; exact hI.2.1
    | 2, hu => cases hu; exact hI.2.2.1
  rw [← hW] at hb0
  have HO := Lib.hid (of_one exKey exVal 1 _ W hs (hE.below hb0) (by decide) (by decide) (by decide +kernel) (by decide +kernel) (by decide +kernel) (by decide +kernel))
  rw [ex_tk] at HO
  have HW := Lib.hid hW
  clear hW hs hE
  go_enter Tryz.func10, Tryz.ntmps10
  go_wp2_with fail
  change Calls _ _ _ (w.alloc (itO exKey exVal 1)) _
  rw [← HW.out]
  refine HO.out.mono ?_; rintro e w1 ⟨g, p, rfl, hV, hb1⟩
  obtain ⟨pv, bv, ma, mh, mn, X, HH⟩ := p
  obtain ⟨po, pc, rfl⟩ : ∃ po pc, pv = .slice po 1 pc := hV.pools.slice
  have hX : X = [] := by
    have h : X.map (·.1) = [] := hV.xs
    cases X with
    | nil => rfl
    | cons x X => cases h
  subst hX
  obtain ⟨bo, bc, rfl⟩ : ∃ bo bc, bv = .slice bo 0 bc := hV.blks.slice
  obtain ⟨a, hpa, -, hca⟩ := SeesG.at (i := 0) (p := ((167772160 : Int), (26 : Int), true)) (hV.pools.sees encP_len) rfl
  subst hpa
  have HB1 := Lib.hid (bel hb0 hb1)
  have hb2 := belNew w1 (.cells #[.slice (some a) 1 pc, .slice bo 0 bc, .map (some ma), .map (some mh), .map (some mn)] 30)
  have hv2 := heap_alloc_new w1 (.cells #[.slice (some a) 1 pc, .slice bo 0 bc, .map (some ma), .map (some mh), .map (some mn)] 30)
  have hf := freeE (167772160, 26, true) a pc bo bc (some ma) (some mh) (some mn)
  have HC := Lib.hid hca
  clear hV hb1 hb0 HO HW hca
  dsimp only [vwL]
  go_upto_region 2 with fail
  obtain ⟨w2, hw2⟩ : ∃ w2, w2 = w1.alloc (.cells #[.slice (some a) 1 pc, .slice bo 0 bc, .map (some ma), .map (some mh), .map (some mn)] 30) := ⟨_, rfl⟩
  rw [← hw2] at hb2 hv2 ⊢
  have HF := Lib.hid (hf w2 (by decide) (by decide) (by decide +kernel) rfl (by decide +kernel) (fun j u hu => by
    have h := HC.out j u hu
    exact bcell hb2 h))
  obtain ⟨y0, y1, y2, y3, y4⟩ := vcells5 hv2
  have HV2 := Lib.hid hv2
  have HB2 := Lib.hid (bel HB1.out hb2)
  clear hw2 hb2 hv2 hf
  go_wp2_with fail
  refine HF.out.mono ?_; rintro e w3 ⟨rfl, hb3⟩
  have z0 := bcell hb3 y0
  clear y0 y1 y2 y3 y4
  go_wp2_with fail
  go_ret
  exact ⟨rfl, bel HB2.out hb3⟩
end Go.Proofs.YtiifbhiodegipaaGreatDoor
