/- Package virgateref15: In; the laws' Attr. -/
import Derived.Test.YtgodmnpcedfdcaaBkZ
namespace Go.Proofs.Ytgodmnpcedfdcaa
open Go.RowKit
/-- A block of the document's, as a value. -/
abbrev docV (a : Int) (s : ByteArray) (v1 v2 v3 : Value) : Value := .agg #[.int .u32 a, .string s, v1, v2, v3]
set_option maxRecDepth 100000 in
theorem inD_any (a : Int) (s : ByteArray) (v1 v2 v3 : Value) (x : Int) (w : World) (hx : 0 ≤ x) (hx' : x < 4294967296) :
    Calls Try.prog 65 #[docV a s v1 v2 v3, .int .u32 x] w fun e w' => e = .returned (.bool (inB a x)) ∧ Below w.heap.size w w' := by
  have h1 : x.tmod 64 = x % 64 := by rw [Int.tmod_eq_emod_of_nonneg hx]
  have h2 : IntKind.u32.wrap (x % 64) = x % 64 := IntWalk.u32_in _ (by omega)
  have h3 : IntKind.u32.wrap (x - x % 64) = x - x % 64 := IntWalk.u32_in _ (by omega)
  have h4 : inB a x = (x - x % 64 == a) := by unfold inB; by_cases h : x - x % 64 = a <;> simp [h]
  rw [h4]
  clear h4
  go_enter Try.func65, Try.ntmps65
  go_wp2_with fail
  go_ret
  exact ⟨rfl, belNew _ _⟩
set_option maxRecDepth 100000 in
theorem lawAttr_any (p : PA) (w : World) : Calls Try.prog 16 #[atV p] w fun e w' => e = .returned (atV p) ∧ Below w.heap.size w w' := by
  go_enter Try.func16, Try.ntmps16
  go_wp2_with fail
  refine bodyPost_ret (v := atV p) ?_ rfl ⟨rfl, belAlloc (belNew _ _) _⟩
  simp [results, Try.results16, go_sem]
theorem SeesA_nil (w : World) : SeesA w NS [] := ⟨none, 0, rfl, Nat.le_refl _, fun _ => rfl, fun _ h => by cases h⟩
set_option maxRecDepth 100000 in
set_option maxHeartbeats 4000000 in
theorem zero15_any (b : BlkS) (fv av : Value) (w : World) (hf : Sees w fv b.free) (ha : SeesA w av b.attrs) (hl : b.sl.length = 64) (h1 : b.free.length ≤ maxLen) (h3 : b.attrs.length ≤ maxLen) :
    Calls Try.prog 28 #[.agg (blkL b fv av).toArray] w fun e w' => e = .returned (.bool (sameS b zB)) ∧ Below w.heap.size w w' := by
  obtain ⟨W, hW⟩ : ∃ W, W = w.alloc (blkO b fv av) := ⟨_, rfl⟩
  have hb0 := belNew w (blkO b fv av)
  have hA := heap_new w (blkO b fv av)
  rw [← hW] at hb0 hA
  have HX0 : Hid (BlkAt W w.heap.size b fv av) := Lib.hid hA
  have HB0 := Lib.hid hb0
  have HW := Lib.hid hW
  have HSM := Lib.hid (same15_any b zB fv av NS NS W (hf.keep hb0) (ha.below hb0) (Sees.nil W) (SeesA_nil W) hl zB_len h1 (Nat.zero_le _) h3 (Nat.zero_le _))
  generalize sameS b zB = R at *
  clear hW hb0 hA hf ha h1 h3
  go_enter Try.func28, Try.ntmps28
  go_upto_region 1 with fail
  change Code.wp _ _ _ _ (w.alloc (blkO b fv av))
  rw [← HW.out]
  clear HW
  go_wp2_with (refine wpLdB rfl _ rfl rfl HX0.out hl ?_)
  refine HSM.out.mono ?_; rintro e w1 ⟨rfl, hb1⟩
  go_wp2_with fail
  go_ret
  exact ⟨rfl, HB0.out.trans (hb1.mono HB0.out.size)⟩
end Go.Proofs.Ytgodmnpcedfdcaa
