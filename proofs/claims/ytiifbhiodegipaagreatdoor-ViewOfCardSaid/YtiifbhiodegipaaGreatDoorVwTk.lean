/- Package view: an item is taken. -/
import Derived.Test.YtiifbhiodegipaaGreatDoorVwPool
import Derived.Test.YtiifbhiodegipaaGreatDoorVwBlk
import Derived.Test.YtiifbhiodegipaaGreatDoorVwNo
namespace Go.Proofs.YtiifbhiodegipaaGreatDoor
open Go.RowKit
/-- What an item of a pool, a block, or the lock comes to. -/
def tkPB (k v : ByteArray) (s : VwS) : Option VwS := if lockB k v = true then some s else match tkP k v s with
  | some s' => some s'
  | none => tkB k v s
set_option maxRecDepth 100000 in
set_option maxHeartbeats 8000000 in
theorem take_pb (k v : ByteArray) (r : Int) (B g c : Nat) (p : VwP) (s : VwS) (w : World) (h : VwIs w B g c p s) (hE : NM.Env w) (hk : k.size ≤ 900) (hv : v.size ≤ 1000) (hc : c ≤ 1000000) (hlk : lockB k v = false)
    (hA : NM.starts k NM.pAff = false) (hH : NM.starts k NM.pHan = false) (hN : NM.starts k NM.pNod = false) :
    Calls Tryz.prog 28 #[.pointer (some ⟨g, 0, none⟩), itA k v r] w (TkPost w B g c p (tkPB k v s)) := by
  obtain ⟨W, hW⟩ : ∃ W, W = w.alloc (itO k v r) := ⟨_, rfl⟩
  have hb0 := belNew w (itO k v r)
  have hI := It3.new w k v r
  rw [← hW] at hb0 hI
  have HL := Lib.hid (isLock_any k v r W)
  rw [hlk] at HL
  have HP := Lib.hid (fun w h hE => takePool_any k v r B g c p s w h hE hk hv hc)
  have HB := Lib.hid (fun w h hE => takeBlock_any k v r B g c p s w h hE hk (by omega) hc)
  have HA := Lib.hid (fun w hE => takeAff_no k v r g w hE hk hA)
  have HH := Lib.hid (fun w => takeHandle_no k v r g w hk hH)
  have HN := Lib.hid (fun w => takeNode_no k v r g w hk hN)
  have HX := Lib.hid (And.intro (h.below hb0) (hE.below hb0))
  have HW := Lib.hid hW
  unfold tkPB
  rw [hlk, if_neg (by simp)]
  generalize tkP k v s = o1 at *
  generalize tkB k v s = o2 at *
  clear hW h hE hA hH hN hlk
  cases o1 with
  | some s' =>
    simp only [TkPost] at HP ⊢
    go_enter Tryz.func28, Tryz.ntmps28
    go_upto_region 1 with fail
    change Code.wp _ _ _ _ (w.alloc (itO k v r))
    rw [← HW.out]
    obtain ⟨c0, c1, c2, c3⟩ := id hI
    go_wp2_with fail
    refine HL.out.mono ?_; rintro e w1 ⟨rfl, hb1⟩
    obtain ⟨x0, x1, x2, x3⟩ := id (hI.keep hb1)
    clear c0 c1 c2 c3
    go_wp2_with fail
    refine (HP.out w1 (HX.out.1.below hb1) (HX.out.2.below hb1)).mono ?_; rintro e w2 ⟨rfl, ho⟩
    have HO := Lib.hid (ho.of_below (bel hb0 hb1))
    clear ho x0 x1 x2 x3
    go_wp2_with fail
    go_ret
    exact ⟨rfl, HO.out⟩
  | none =>
    cases o2 with
    | some s' =>
      simp only [TkPost] at HP HB ⊢
      go_enter Tryz.func28, Tryz.ntmps28
      go_upto_region 1 with fail
      change Code.wp _ _ _ _ (w.alloc (itO k v r))
      rw [← HW.out]
      obtain ⟨c0, c1, c2, c3⟩ := id hI
      go_wp2_with fail
      refine HL.out.mono ?_; rintro e w1 ⟨rfl, hb1⟩
      obtain ⟨x0, x1, x2, x3⟩ := id (hI.keep hb1)
      clear c0 c1 c2 c3
      go_wp2_with fail
      refine (HP.out w1 (HX.out.1.below hb1) (HX.out.2.below hb1)).mono ?_; rintro e w2 ⟨rfl, hb2⟩
      have hb2' := bel hb1 hb2
      obtain ⟨y0, y1, y2, y3⟩ := id (hI.keep hb2')
      clear x0 x1 x2 x3
      go_wp2_with fail
      refine (HB.out w2 (HX.out.1.below hb2') (HX.out.2.below hb2')).mono ?_; rintro e w3 ⟨rfl, ho⟩
      have HO := Lib.hid (ho.of_below (bel hb0 hb2'))
      clear ho y0 y1 y2 y3
      go_wp2_with fail
      go_ret
      exact ⟨rfl, HO.out⟩
    | none =>
      simp only [TkPost] at HP HB ⊢
      go_enter Tryz.func28, Tryz.ntmps28
      go_upto_region 1 with fail
      change Code.wp _ _ _ _ (w.alloc (itO k v r))
      rw [← HW.out]
      obtain ⟨c0, c1, c2, c3⟩ := id hI
      go_wp2_with fail
      refine HL.out.mono ?_; rintro e w1 ⟨rfl, hb1⟩
      obtain ⟨x0, x1, x2, x3⟩ := id (hI.keep hb1)
      clear c0 c1 c2 c3
      go_wp2_with fail
      refine (HP.out w1 (HX.out.1.below hb1) (HX.out.2.below hb1)).mono ?_; rintro e w2 ⟨rfl, hb2⟩
      have hb2' := bel hb1 hb2
      obtain ⟨x0, x1, x2, x3⟩ := id (hI.keep hb2')
      go_wp2_with fail
      refine (HB.out w2 (HX.out.1.below hb2') (HX.out.2.below hb2')).mono ?_; rintro e w3 ⟨rfl, hb3⟩
      have hb3' := bel hb2' hb3
      obtain ⟨x0, x1, x2, x3⟩ := id (hI.keep hb3')
      go_wp2_with fail
      refine (HA.out w3 (HX.out.2.below hb3')).mono ?_; rintro e w4 ⟨rfl, hb4⟩
      have hb4' := bel hb3' hb4
      obtain ⟨x0, x1, x2, x3⟩ := id (hI.keep hb4')
      go_wp2_with fail
      refine (HH.out w4).mono ?_; rintro e w5 ⟨rfl, hb5⟩
      have hb5' := bel hb4' hb5
      obtain ⟨x0, x1, x2, x3⟩ := id (hI.keep hb5')
      go_wp2_with fail
      refine (HN.out w5).mono ?_; rintro e w6 ⟨rfl, hb6⟩
      have hb6' := bel hb5' hb6
      go_wp2_with fail
      go_ret
      exact ⟨rfl, bel hb0 hb6'⟩
end Go.Proofs.YtiifbhiodegipaaGreatDoor
