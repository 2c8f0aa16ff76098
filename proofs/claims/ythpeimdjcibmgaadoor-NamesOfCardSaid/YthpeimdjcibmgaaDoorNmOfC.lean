/- Package names: the block that a key is of. -/
import Derived.Test.YthpeimdjcibmgaaDoorNmOfB
namespace Go.Proofs.YthpeimdjcibmgaaDoor
open Go.RowKit Go.Maps
theorem ofBlock_any (s : ByteArray) (w : World) (hE : Env w) (hs : s.size ≤ 900) :
    Calls Tryd.prog 10 #[.string s] w fun e w' => e = .returned (if starts s pBlk = true then rblkV (rblk (rest s pBlk).data.toList) else .tuple #[.int .u32 0, .bool false]) ∧ Below w.heap.size w w' := by
  have HC := Lib.hid (Tryd.strings_CutPrefix s pBlk w)
  have HR := Lib.hid (readBlock_any (rest s pBlk) w hE (Nat.le_trans (rest_size s pBlk) hs))
  have hr : (⟨(Lib.trimPrefix s.data.toList pBlk.data.toList).toArray⟩ : ByteArray) = rest s pBlk := rfl
  rw [hr] at HC
  clear hr
  have hz : (Lib.hasPrefix s.data.toList pBlk.data.toList) = starts s pBlk := rfl
  rw [hz] at HC
  generalize starts s pBlk = S at *
  generalize rest s pBlk = r at *
  clear hz hs hE
  cases S with
  | false =>
    rw [if_neg (by simp)]
    go_enter Tryd.func10, Tryd.ntmps10
    go_wp2_with (first
      | (go_at_call 29; refine HC.out.mono ?_; rintro e w1 ⟨rfl, rfl⟩)
      | go_in)
    refine bodyPost_ret (v := .tuple #[.int .u32 0, .bool false]) (by simp [results, Tryd.results10, go_sem]) rfl ⟨rfl, Below.refl _ _⟩
  | true =>
    rw [if_pos rfl]
    generalize rblk r.data.toList = R at *
    cases R with
    | none =>
      simp only [rblkV] at HR ⊢
      go_enter Tryd.func10, Tryd.ntmps10
      go_wp2_with (first
        | (go_at_call 29; refine HC.out.mono ?_; rintro e w1 ⟨rfl, rfl⟩)
        | (go_at_call 31; refine HR.out.mono ?_; rintro e w1 ⟨rfl, hb1⟩)
        | go_in)
      refine bodyPost_ret (v := .tuple #[.int .u32 0, .bool false]) (by simp [results, Tryd.results10, go_sem]) rfl ⟨rfl, hb1⟩
    | some a =>
      simp only [rblkV] at HR ⊢
      go_enter Tryd.func10, Tryd.ntmps10
      go_wp2_with (first
        | (go_at_call 29; refine HC.out.mono ?_; rintro e w1 ⟨rfl, rfl⟩)
        | (go_at_call 31; refine HR.out.mono ?_; rintro e w1 ⟨rfl, hb1⟩)
        | go_in)
      refine bodyPost_ret (v := .tuple #[.int .u32 a, .bool true]) (by simp [results, Tryd.results10, go_sem]) rfl ⟨rfl, hb1⟩
end Go.Proofs.YthpeimdjcibmgaaDoor
