/- Package names: chapter 12's example. -/
import Derived.Test.YthpeimdjcibmgaaDoorNmOfP
namespace Go.Proofs.YthpeimdjcibmgaaDoor
open Go.RowKit Go.Maps
abbrev exKey : ByteArray := ⟨#[98, 108, 111, 99, 107, 47, 49, 48, 46, 48, 46, 48, 46, 54, 52, 45, 50, 54]⟩
theorem exTxt : blkTxt 167772230 = [49, 48, 46, 48, 46, 48, 46, 54, 52, 45, 50, 54] := by kernel_rfl
theorem exStarts : starts exKey pBlk = true := by decide
theorem exRest : (rest exKey pBlk).data.toList = [49, 48, 46, 48, 46, 48, 46, 54, 52, 45, 50, 54] := by kernel_rfl
theorem exBlk : rblk [49, 48, 46, 48, 46, 48, 46, 54, 52, 45, 50, 54] = some 167772224 := by kernel_rfl
set_option maxRecDepth 100000 in
theorem awake12_any (w : World) (hE : Env w) :
    Calls Tryd.prog 14 #[] w fun e w' => e = .returned (.bool true) ∧ Below w.heap.size w w' := by
  have HB := Lib.hid (blockKey_any 167772230 (by decide) (by decide) w hE)
  have hk : (⟨([98, 108, 111, 99, 107, 47] ++ blkTxt 167772230).toArray⟩ : ByteArray) = exKey := by rw [exTxt]; rfl
  rw [hk] at HB
  clear hk
  have HO : Hid (∀ w', Below w.heap.size w w' → Calls Tryd.prog 10 #[.string exKey] w' fun e w'' => e = .returned (.tuple #[.int .u32 167772224, .bool true]) ∧ Below w'.heap.size w' w'') := Lib.hid (fun w' hb => by
    have h := ofBlock_any exKey w' (hE.below hb) (by decide)
    rw [exStarts, if_pos rfl, exRest, exBlk] at h
    exact h)
  clear hE
  go_enter Tryd.func14, Tryd.ntmps14
  go_wp2_with (first
    | (go_at_call 11; refine HB.out.mono ?_; rintro e w1 ⟨rfl, hb1⟩)
    | (go_at_call 10; refine (HO.out w1 hb1).mono ?_; rintro e w2 ⟨rfl, hb2⟩)
    | go_in)
  refine bodyPost_ret (v := .bool true) (by simp [results, Tryd.results14, go_sem]) rfl ⟨rfl, bel hb1 hb2⟩
end Go.Proofs.YthpeimdjcibmgaaDoor
