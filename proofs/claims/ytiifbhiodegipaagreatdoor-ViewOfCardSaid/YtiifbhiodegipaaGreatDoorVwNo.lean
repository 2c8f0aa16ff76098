/- Package view: keys of other things are not taken as affinities, handles, nodes. -/
import Derived.Test.YtiifbhiodegipaaGreatDoorVwB
import Derived.Test.YtiifbhiodegipaaGreatDoorNMd
namespace Go.Proofs.YtiifbhiodegipaaGreatDoor
open Go.RowKit
set_option maxRecDepth 100000 in
set_option maxHeartbeats 8000000 in
theorem takeAff_no (k v : ByteArray) (r : Int) (g : Nat) (w : World) (hE : NM.Env w) (hk : k.size ≤ 900) (hn : NM.starts k NM.pAff = false) :
    Calls Tryz.prog 58 #[.pointer (some ⟨g, 0, none⟩), itA k v r] w fun e w' => e = .returned (.bool false) ∧ Below w.heap.size w w' := by
  obtain ⟨W, hW⟩ : ∃ W, W = w.alloc (itO k v r) := ⟨_, rfl⟩
  have hb0 := belNew w (itO k v r)
  have hI := It3.new w k v r
  rw [← hW] at hb0 hI
  have HO := Lib.hid (NM.ofAff_any k W (hE.below hb0) hk)
  have hv : NM.affV (NM.starts k NM.pAff) (NM.rblk (NM.cutB (NM.rest k NM.pAff)).data.toList) (NM.okName (NM.cutN (NM.rest k NM.pAff)).data.toList) (NM.cutN (NM.rest k NM.pAff)) = .tuple #[.string NM.em, .int .u32 0, .bool false] := by
    rw [hn]
    unfold NM.affV
    split <;> rfl
  rw [hv] at HO
  have HW := Lib.hid hW
  clear hv hW hE hn
  go_enter Tryz.func58, Tryz.ntmps58
  go_upto_region 1 with fail
  change Code.wp _ _ _ _ (w.alloc (itO k v r))
  rw [← HW.out]
  obtain ⟨c0, c1, c2, c3⟩ := id hI
  go_wp2_with fail
  refine HO.out.mono ?_; rintro e w1 ⟨rfl, hb1⟩
  go_wp2_with fail
  go_ret
  exact ⟨rfl, bel hb0 hb1⟩
set_option maxRecDepth 100000 in
set_option maxHeartbeats 8000000 in
theorem takeHandle_no (k v : ByteArray) (r : Int) (g : Nat) (w : World) (hk : k.size ≤ 900) (hn : NM.starts k NM.pHan = false) :
    Calls Tryz.prog 59 #[.pointer (some ⟨g, 0, none⟩), itA k v r] w fun e w' => e = .returned (.bool false) ∧ Below w.heap.size w w' := by
  obtain ⟨W, hW⟩ : ∃ W, W = w.alloc (itO k v r) := ⟨_, rfl⟩
  have hb0 := belNew w (itO k v r)
  have hI := It3.new w k v r
  rw [← hW] at hb0 hI
  have HO := Lib.hid (NM.ofHandle_any k (by unfold maxLen; omega) W)
  have hv : (NM.starts k NM.pHan && NM.okName (NM.rest k NM.pHan).data.toList) = false := by rw [hn]; rfl
  rw [hv, if_neg (by simp)] at HO
  have HW := Lib.hid hW
  clear hv hW hn
  go_enter Tryz.func59, Tryz.ntmps59
  go_upto_region 1 with fail
  change Code.wp _ _ _ _ (w.alloc (itO k v r))
  rw [← HW.out]
  obtain ⟨c0, c1, c2, c3⟩ := id hI
  go_wp2_with fail
  refine HO.out.mono ?_; rintro e w1 ⟨rfl, hb1⟩
  go_wp2_with fail
  go_ret
  exact ⟨rfl, bel hb0 hb1⟩
set_option maxRecDepth 100000 in
set_option maxHeartbeats 8000000 in
theorem takeNode_no (k v : ByteArray) (r : Int) (g : Nat) (w : World) (hk : k.size ≤ 900) (hn : NM.starts k NM.pNod = false) :
    Calls Tryz.prog 60 #[.pointer (some ⟨g, 0, none⟩), itA k v r] w fun e w' => e = .returned (.bool false) ∧ Below w.heap.size w w' := by
  obtain ⟨W, hW⟩ : ∃ W, W = w.alloc (itO k v r) := ⟨_, rfl⟩
  have hb0 := belNew w (itO k v r)
  have hI := It3.new w k v r
  rw [← hW] at hb0 hI
  have HO := Lib.hid (NM.ofNode_any k (by unfold maxLen; omega) W)
  have hv : (NM.starts k NM.pNod && NM.okName (NM.rest k NM.pNod).data.toList) = false := by rw [hn]; rfl
  rw [hv, if_neg (by simp)] at HO
  have HW := Lib.hid hW
  clear hv hW hn
  go_enter Tryz.func60, Tryz.ntmps60
  go_upto_region 1 with fail
  change Code.wp _ _ _ _ (w.alloc (itO k v r))
  rw [← HW.out]
  obtain ⟨c0, c1, c2, c3⟩ := id hI
  go_wp2_with fail
  refine HO.out.mono ?_; rintro e w1 ⟨rfl, hb1⟩
  go_wp2_with fail
  go_ret
  exact ⟨rfl, bel hb0 hb1⟩
end Go.Proofs.YtiifbhiodegipaaGreatDoor
