/- Package view: any item is taken, or not. Made by g_vwtk2.py. -/
import Derived.Test.YtiifbhiodegipaaGreatDoorVwHan
import Derived.Test.YtiifbhiodegipaaGreatDoorVwPool
import Derived.Test.YtiifbhiodegipaaGreatDoorVwBlk
namespace Go.Proofs.YtiifbhiodegipaaGreatDoor
open Go.RowKit
theorem VwIs.stay {w w' : World} {B g k : Nat} {p : VwP} {s : VwS} (h : VwIs w B g k p s) (hb : Below w.heap.size w w') : VwOut w B g k p w' s := by
  have h' := h.below hb
  obtain ⟨h1, h2, h3, h4, h5, ⟨na, ha, hA⟩, ⟨nh, hh, hH⟩, ⟨nn, hn, hN⟩, h9, h10, h11, h12, h13⟩ := h'
  exact ⟨p, ⟨h1, h2, h3, h4, h5, ⟨na, by omega, hA⟩, ⟨nh, by omega, hH⟩, ⟨nn, by omega, hN⟩, by omega, by omega, h11, h12, h13⟩, Tch.of_below hb, fun d hd => Or.inl hd⟩
/-- What an item comes to. -/
def tkAny (k v : ByteArray) (s : VwS) : Option VwS := if lockB k v = true then some s else match tkP k v s with
  | some s' => some s'
  | none => match tkB k v s with
    | some s' => some s'
    | none => match tkA k v s with
      | some s' => some s'
      | none => match tkH k v s with
        | some s' => some s'
        | none => tkN k v s
set_option maxRecDepth 100000 in
set_option maxHeartbeats 8000000 in
theorem take_any (k v : ByteArray) (r : Int) (B g c : Nat) (p : VwP) (s : VwS) (w : World) (h : VwIs w B g c p s) (hE : NM.Env w) (hk : k.size ≤ 900) (hv : v.size ≤ 1000) (hc : c ≤ 1000000) :
    Calls Tryz.prog 28 #[.pointer (some ⟨g, 0, none⟩), itA k v r] w (TkPost w B g c p (tkAny k v s)) := by
  obtain ⟨W, hW⟩ : ∃ W, W = w.alloc (itO k v r) := ⟨_, rfl⟩
  have hb0 := belNew w (itO k v r)
  have hI := It3.new w k v r
  rw [← hW] at hb0 hI
  have HL := Lib.hid (isLock_any k v r W)
  have HP := Lib.hid (fun w h hE => takePool_any k v r B g c p s w h hE hk hv hc)
  have HB := Lib.hid (fun w h hE => takeBlock_any k v r B g c p s w h hE hk (by omega) hc)
  have HA := Lib.hid (fun w h hE => takeAff_any k v r B g c p s w h hE hk hv hc)
  have HH := Lib.hid (fun w h => takeHandle_any k v r B g c p s w h hk hv hc)
  have HN := Lib.hid (fun w h => takeNode_any k v r B g c p s w h hk hv hc)
  have HX := Lib.hid (And.intro (h.below hb0) (hE.below hb0))
  have HW := Lib.hid hW
  have HS := Lib.hid h
  unfold tkAny
  generalize lockB k v = o0 at *
  generalize tkP k v s = o1 at *
  generalize tkB k v s = o2 at *
  generalize tkA k v s = o3 at *
  generalize tkH k v s = o4 at *
  generalize tkN k v s = o5 at *
  clear hW h hE
  cases o0 with
  | true =>
    rw [if_pos rfl]
    show Calls _ _ _ _ (fun e w' => e = .returned (.bool true) ∧ VwOut w B g c p w' s)
    go_enter Tryz.func28, Tryz.ntmps28
    go_upto_region 1 with fail
    change Code.wp _ _ _ _ (w.alloc (itO k v r))
    rw [← HW.out]
    obtain ⟨x0, x1, x2, x3⟩ := id hI
    go_wp2_with fail
    refine HL.out.mono ?_; rintro e w1 ⟨rfl, hb1⟩
    go_wp2_with fail
    go_ret
    exact ⟨rfl, HS.out.stay (bel hb0 hb1)⟩
  | false =>
    rw [if_neg (by simp)]
    cases o1 with
    | some s1 =>
      simp only [TkPost] at HP ⊢
      go_enter Tryz.func28, Tryz.ntmps28
      go_upto_region 1 with fail
      change Code.wp _ _ _ _ (w.alloc (itO k v r))
      rw [← HW.out]
      obtain ⟨x0, x1, x2, x3⟩ := id hI
      go_wp2_with fail
      refine HL.out.mono ?_; rintro e w1 ⟨rfl, hb1⟩
      have HQ := Lib.hid hb1
      clear hb1
      obtain ⟨x0, x1, x2, x3⟩ := id (hI.keep HQ.out)
      go_wp2_with fail
      refine (HP.out _ (HX.out.1.below HQ.out) (HX.out.2.below HQ.out)).mono ?_; rintro e w2 ⟨rfl, ho⟩
      have HO := Lib.hid (ho.of_below (bel hb0 HQ.out))
      clear ho x0 x1 x2 x3
      go_wp2_with fail
      go_ret
      exact ⟨rfl, HO.out⟩
    | none =>
      cases o2 with
      | some s2 =>
        simp only [TkPost] at HP HB ⊢
        go_enter Tryz.func28, Tryz.ntmps28
        go_upto_region 1 with fail
        change Code.wp _ _ _ _ (w.alloc (itO k v r))
        rw [← HW.out]
        obtain ⟨x0, x1, x2, x3⟩ := id hI
        go_wp2_with fail
        refine HL.out.mono ?_; rintro e w1 ⟨rfl, hb1⟩
        have HQ := Lib.hid hb1
        clear hb1
        obtain ⟨x0, x1, x2, x3⟩ := id (hI.keep HQ.out)
        go_wp2_with fail
        refine (HP.out _ (HX.out.1.below HQ.out) (HX.out.2.below HQ.out)).mono ?_; rintro e w2 ⟨rfl, hb2⟩
        have HQ := Lib.hid (bel HQ.out hb2)
        clear hb2
        obtain ⟨x0, x1, x2, x3⟩ := id (hI.keep HQ.out)
        go_wp2_with fail
        refine (HB.out _ (HX.out.1.below HQ.out) (HX.out.2.below HQ.out)).mono ?_; rintro e w3 ⟨rfl, ho⟩
        have HO := Lib.hid (ho.of_below (bel hb0 HQ.out))
        clear ho x0 x1 x2 x3
        go_wp2_with fail
        go_ret
        exact ⟨rfl, HO.out⟩
      | none =>
        cases o3 with
        | some s3 =>
          simp only [TkPost] at HP HB HA ⊢
          go_enter Tryz.func28, Tryz.ntmps28
          go_upto_region 1 with fail
          change Code.wp _ _ _ _ (w.alloc (itO k v r))
          rw [← HW.out]
          obtain ⟨x0, x1, x2, x3⟩ := id hI
          go_wp2_with fail
          refine HL.out.mono ?_; rintro e w1 ⟨rfl, hb1⟩
          have HQ := Lib.hid hb1
          clear hb1
          obtain ⟨x0, x1, x2, x3⟩ := id (hI.keep HQ.out)
          go_wp2_with fail
          refine (HP.out _ (HX.out.1.below HQ.out) (HX.out.2.below HQ.out)).mono ?_; rintro e w2 ⟨rfl, hb2⟩
          have HQ := Lib.hid (bel HQ.out hb2)
          clear hb2
          obtain ⟨x0, x1, x2, x3⟩ := id (hI.keep HQ.out)
          go_wp2_with fail
          refine (HB.out _ (HX.out.1.below HQ.out) (HX.out.2.below HQ.out)).mono ?_; rintro e w3 ⟨rfl, hb3⟩
          have HQ := Lib.hid (bel HQ.out hb3)
          clear hb3
          obtain ⟨x0, x1, x2, x3⟩ := id (hI.keep HQ.out)
          go_wp2_with fail
          refine (HA.out _ (HX.out.1.below HQ.out) (HX.out.2.below HQ.out)).mono ?_; rintro e w4 ⟨rfl, ho⟩
          have HO := Lib.hid (ho.of_below (bel hb0 HQ.out))
          clear ho x0 x1 x2 x3
          go_wp2_with fail
          go_ret
          exact ⟨rfl, HO.out⟩
        | none =>
          cases o4 with
          | some s4 =>
            simp only [TkPost] at HP HB HA HH ⊢
            go_enter Tryz.func28, Tryz.ntmps28
            go_upto_region 1 with fail
            change Code.wp _ _ _ _ (w.alloc (itO k v r))
            rw [← HW.out]
            obtain ⟨x0, x1, x2, x3⟩ := id hI
            go_wp2_with fail
            refine HL.out.mono ?_; rintro e w1 ⟨rfl, hb1⟩
            have HQ := Lib.hid hb1
            clear hb1
            obtain ⟨x0, x1, x2, x3⟩ := id (hI.keep HQ.out)
            go_wp2_with fail
            refine (HP.out _ (HX.out.1.below HQ.out) (HX.out.2.below HQ.out)).mono ?_; rintro e w2 ⟨rfl, hb2⟩
            have HQ := Lib.hid (bel HQ.out hb2)
            clear hb2
            obtain ⟨x0, x1, x2, x3⟩ := id (hI.keep HQ.out)
            go_wp2_with fail
            refine (HB.out _ (HX.out.1.below HQ.out) (HX.out.2.below HQ.out)).mono ?_; rintro e w3 ⟨rfl, hb3⟩
            have HQ := Lib.hid (bel HQ.out hb3)
            clear hb3
            obtain ⟨x0, x1, x2, x3⟩ := id (hI.keep HQ.out)
            go_wp2_with fail
            refine (HA.out _ (HX.out.1.below HQ.out) (HX.out.2.below HQ.out)).mono ?_; rintro e w4 ⟨rfl, hb4⟩
            have HQ := Lib.hid (bel HQ.out hb4)
            clear hb4
            obtain ⟨x0, x1, x2, x3⟩ := id (hI.keep HQ.out)
            go_wp2_with fail
            refine (HH.out _ (HX.out.1.below HQ.out)).mono ?_; rintro e w5 ⟨rfl, ho⟩
            have HO := Lib.hid (ho.of_below (bel hb0 HQ.out))
            clear ho x0 x1 x2 x3
            go_wp2_with fail
            go_ret
            exact ⟨rfl, HO.out⟩
          | none =>
            cases o5 with
            | some s5 =>
              simp only [TkPost] at HP HB HA HH HN ⊢
              go_enter Tryz.func28, Tryz.ntmps28
              go_upto_region 1 with fail
              change Code.wp _ _ _ _ (w.alloc (itO k v r))
              rw [← HW.out]
              obtain ⟨x0, x1, x2, x3⟩ := id hI
              go_wp2_with fail
              refine HL.out.mono ?_; rintro e w1 ⟨rfl, hb1⟩
              have HQ := Lib.hid hb1
              clear hb1
              obtain ⟨x0, x1, x2, x3⟩ := id (hI.keep HQ.out)
              go_wp2_with fail
              refine (HP.out _ (HX.out.1.below HQ.out) (HX.out.2.below HQ.out)).mono ?_; rintro e w2 ⟨rfl, hb2⟩
              have HQ := Lib.hid (bel HQ.out hb2)
              clear hb2
              obtain ⟨x0, x1, x2, x3⟩ := id (hI.keep HQ.out)
              go_wp2_with fail
              refine (HB.out _ (HX.out.1.below HQ.out) (HX.out.2.below HQ.out)).mono ?_; rintro e w3 ⟨rfl, hb3⟩
              have HQ := Lib.hid (bel HQ.out hb3)
              clear hb3
              obtain ⟨x0, x1, x2, x3⟩ := id (hI.keep HQ.out)
              go_wp2_with fail
              refine (HA.out _ (HX.out.1.below HQ.out) (HX.out.2.below HQ.out)).mono ?_; rintro e w4 ⟨rfl, hb4⟩
              have HQ := Lib.hid (bel HQ.out hb4)
              clear hb4
              obtain ⟨x0, x1, x2, x3⟩ := id (hI.keep HQ.out)
              go_wp2_with fail
              refine (HH.out _ (HX.out.1.below HQ.out)).mono ?_; rintro e w5 ⟨rfl, hb5⟩
              have HQ := Lib.hid (bel HQ.out hb5)
              clear hb5
              obtain ⟨x0, x1, x2, x3⟩ := id (hI.keep HQ.out)
              go_wp2_with fail
              refine (HN.out _ (HX.out.1.below HQ.out)).mono ?_; rintro e w6 ⟨rfl, ho⟩
              have HO := Lib.hid (ho.of_below (bel hb0 HQ.out))
              clear ho x0 x1 x2 x3
              go_wp2_with fail
              go_ret
              exact ⟨rfl, HO.out⟩
            | none =>
              simp only [TkPost] at HP HB HA HH HN ⊢
              go_enter Tryz.func28, Tryz.ntmps28
              go_upto_region 1 with fail
              change Code.wp _ _ _ _ (w.alloc (itO k v r))
              rw [← HW.out]
              obtain ⟨x0, x1, x2, x3⟩ := id hI
              go_wp2_with fail
              refine HL.out.mono ?_; rintro e w1 ⟨rfl, hb1⟩
              have HQ := Lib.hid hb1
              clear hb1
              obtain ⟨x0, x1, x2, x3⟩ := id (hI.keep HQ.out)
              go_wp2_with fail
              refine (HP.out _ (HX.out.1.below HQ.out) (HX.out.2.below HQ.out)).mono ?_; rintro e w2 ⟨rfl, hb2⟩
              have HQ := Lib.hid (bel HQ.out hb2)
              clear hb2
              obtain ⟨x0, x1, x2, x3⟩ := id (hI.keep HQ.out)
              go_wp2_with fail
              refine (HB.out _ (HX.out.1.below HQ.out) (HX.out.2.below HQ.out)).mono ?_; rintro e w3 ⟨rfl, hb3⟩
              have HQ := Lib.hid (bel HQ.out hb3)
              clear hb3
              obtain ⟨x0, x1, x2, x3⟩ := id (hI.keep HQ.out)
              go_wp2_with fail
              refine (HA.out _ (HX.out.1.below HQ.out) (HX.out.2.below HQ.out)).mono ?_; rintro e w4 ⟨rfl, hb4⟩
              have HQ := Lib.hid (bel HQ.out hb4)
              clear hb4
              obtain ⟨x0, x1, x2, x3⟩ := id (hI.keep HQ.out)
              go_wp2_with fail
              refine (HH.out _ (HX.out.1.below HQ.out)).mono ?_; rintro e w5 ⟨rfl, hb5⟩
              have HQ := Lib.hid (bel HQ.out hb5)
              clear hb5
              obtain ⟨x0, x1, x2, x3⟩ := id (hI.keep HQ.out)
              go_wp2_with fail
              refine (HN.out _ (HX.out.1.below HQ.out)).mono ?_; rintro e w6 ⟨rfl, hb6⟩
              have HQ := Lib.hid (bel HQ.out hb6)
              clear hb6
              go_wp2_with fail
              go_ret
              exact ⟨rfl, bel hb0 HQ.out⟩
/-- Of, of any items that are not too many. -/
theorem vwOf_all (v : Value) (L : List IT) (w : World) (hv : SeesIt w v L) (hE : NM.Env w) (hl : L.length ≤ 1000) (hks : ∀ p ∈ L, p.1.size ≤ 900) (hvs : ∀ p ∈ L, p.2.1.size ≤ 1000) :
    Calls Tryz.prog 7 #[v] w (OfPost w L.length (vwN tkAny L L.length)) :=
  vwOf_any tkAny v L w hv hE hl hks (Lib.hid fun i q s p B g wr hi _ hV hEr => take_any q.1 q.2.1 q.2.2 B g i p s wr hV hEr (hks q (List.mem_of_getElem? hi)) (hvs q (List.mem_of_getElem? hi)) (by have := (List.getElem?_eq_some_iff.1 hi).1; omega))
end Go.Proofs.YtiifbhiodegipaaGreatDoor
