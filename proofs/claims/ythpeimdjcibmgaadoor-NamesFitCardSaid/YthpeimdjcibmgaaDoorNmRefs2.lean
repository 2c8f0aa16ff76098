/- Package names: the document's own keys of blocks and affinities. -/
import Derived.Test.YthpeimdjcibmgaaDoorNmRefs
namespace Go.Proofs.YthpeimdjcibmgaaDoor
open Go.RowKit Go.Maps
theorem may_blk (a : Int) (ha : 0 ≤ a) (ha' : a < 4294967296) : mayB (a - a % 64) 26 = true := by
  have h : (a - a % 64) % 64 = 0 := by omega
  have h2 : bitsOk 26 = true := by decide
  unfold mayB
  rw [hole26, h, h2]
  rfl
theorem blk_size (a : Int) (ha : 0 ≤ a) (ha' : a < 4294967296) : (⟨(blkTxt a).toArray⟩ : ByteArray).size ≤ 20 := by
  rw [size_mk]; exact keyTxt_len _ _ (by omega) (by omega)
theorem refBlkNet (a : Int) (ha : 0 ≤ a) (ha' : a < 4294967296) (w : World) :
    Calls Tryd.prog 28 #[.agg #[.int .u32 (a - a % 64), .int .i64 26]] w fun e w' => e = .returned (.string ⟨(blkTxt a).toArray⟩) ∧ Below w.heap.size w w' :=
  refNet_any _ _ (may_blk a ha ha') (by omega) (by omega) (by omega) (by omega) w
theorem refBlock_any (a : Int) (ha : 0 ≤ a) (ha' : a < 4294967296) (w : World) :
    Calls Tryd.prog 12 #[.int .u32 a] w fun e w' => e = .returned (.string (pBlk ++ ⟨(blkTxt a).toArray⟩)) ∧ Below w.heap.size w w' := by
  have HF : Hid (∀ w, Calls Tryd.prog 13 #[.int .u32 a] w fun e w' => e = .returned (.int .u32 (a - a % 64)) ∧ Below w.heap.size w w') := Lib.hid (fun w => refFirst_any a ha ha' w)
  have HN : Hid (∀ w, Calls Tryd.prog 28 #[.agg #[.int .u32 (a - a % 64), .int .i64 26]] w fun e w' => e = .returned (.string ⟨(blkTxt a).toArray⟩) ∧ Below w.heap.size w w') := Lib.hid (fun w => refBlkNet a ha ha' w)
  have q := blk_size a ha ha'
  generalize (⟨(blkTxt a).toArray⟩ : ByteArray) = X at *
  generalize a - a % 64 = b at *
  have z1 : ¬ 9223372036854775807 < 6 + X.size := by omega
  clear ha ha' q
  go_enter Tryd.func12, Tryd.ntmps12
  go_wp2_with (first
    | (go_at_call 13; refine (HF.out _).mono ?_; rintro e w1 ⟨rfl, hb1⟩)
    | (go_at_call 28; refine (HN.out _).mono ?_; rintro e w2 ⟨rfl, hb2⟩)
    | go_in)
  refine bodyPost_ret (v := .string (pBlk ++ X)) (by simp [results, Tryd.results12, go_sem]) rfl ⟨rfl, bel hb1 hb2⟩
theorem refAff_any (s : ByteArray) (a : Int) (hs : s.size ≤ 100) (ha : 0 ≤ a) (ha' : a < 4294967296) (w : World) :
    Calls Tryd.prog 24 #[.string s, .int .u32 a] w fun e w' => e = .returned (.string (pAff ++ s ++ slash ++ ⟨(blkTxt a).toArray⟩)) ∧ Below w.heap.size w w' := by
  have HF : Hid (∀ w, Calls Tryd.prog 13 #[.int .u32 a] w fun e w' => e = .returned (.int .u32 (a - a % 64)) ∧ Below w.heap.size w w') := Lib.hid (fun w => refFirst_any a ha ha' w)
  have HN : Hid (∀ w, Calls Tryd.prog 28 #[.agg #[.int .u32 (a - a % 64), .int .i64 26]] w fun e w' => e = .returned (.string ⟨(blkTxt a).toArray⟩) ∧ Below w.heap.size w w') := Lib.hid (fun w => refBlkNet a ha ha' w)
  have q := blk_size a ha ha'
  generalize (⟨(blkTxt a).toArray⟩ : ByteArray) = X at *
  generalize a - a % 64 = b at *
  have z1 : ¬ 9223372036854775807 < 4 + s.size := by omega
  have z2 : ¬ 9223372036854775807 < 4 + s.size + 1 := by omega
  have z3 : ¬ 9223372036854775807 < 4 + s.size + 1 + X.size := by omega
  clear ha ha' q hs
  go_enter Tryd.func24, Tryd.ntmps24
  go_wp2_with (first
    | (go_at_call 13; refine (HF.out _).mono ?_; rintro e w1 ⟨rfl, hb1⟩)
    | (go_at_call 28; refine (HN.out _).mono ?_; rintro e w2 ⟨rfl, hb2⟩)
    | go_in)
  refine bodyPost_ret (v := .string (pAff ++ s ++ slash ++ X)) (by simp [results, Tryd.results24, go_sem]) rfl ⟨rfl, bel hb1 hb2⟩
end Go.Proofs.YthpeimdjcibmgaaDoor
