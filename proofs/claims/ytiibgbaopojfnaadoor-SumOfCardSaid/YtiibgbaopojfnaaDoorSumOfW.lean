/- The walk of SumOf. -/
import Derived.Test.YtiibgbaopojfnaaDoorSumW
namespace Go.Proofs.YtiibgbaopojfnaaDoor
open Go.RowKit
set_option maxHeartbeats 2000000 in
theorem lawOf (w : World) (s : Int) (b : Value) (xs : List Int) (s0 : 0 ≤ s) (s1 : s < 4294967296) (h : Sees w b xs) (hok : okB xs) (hm : xs.length ≤ maxLen) (hE : Env w) :
    Calls Tryd.prog 3 #[.int .u32 s, b] w fun e w' => e = .returned (.bool true) ∧ Below w.heap.size w w' := by
  obtain ⟨S, rfl⟩ := Int.eq_ofNat_of_zero_le s0
  have HF := Lib.hid (few_any b xs w h hm)
  obtain ⟨L, hL⟩ : ∃ L, L = xs.take 300 := ⟨_, rfl⟩
  have hLl : L.length ≤ 100000000000000 := by rw [hL, List.length_take]; omega
  have hLo := Lib.hid (show okB L by rw [hL]; exact hok.take _)
  rw [← hL] at HF
  clear hL h hok hm
  go_enter Tryd.func3, Tryd.ntmps3
  go_wp2_with fail
  refine HF.out.mono ?_; rintro e w0 ⟨v0, rfl, hs0, rfl⟩
  go_wp2_with fail
  refine (of_any v0 L _ hs0 hLo.out hLl hE).mono ?_; rintro e w' ⟨rfl, rfl⟩
  go_wp2_with fail
  refine (refOf_any v0 L _ hs0 hLo.out hLl).mono ?_; rintro e w' ⟨rfl, rfl⟩
  go_wp2_with fail
  refine (more_any S (by omega) v0 L _ hs0 hLo.out hLl hE).mono ?_; rintro e w' ⟨rfl, rfl⟩
  go_wp2_with fail
  refine (refMore_any S (by omega) v0 L _ hs0 hLo.out hLl).mono ?_; rintro e w' ⟨rfl, rfl⟩
  go_wp2_with fail
  refine (awakeS_any _ hE).mono ?_; rintro e w' ⟨rfl, hb⟩
  go_wp2_with fail
  go_ret
  exact ⟨rfl, hb⟩
end Go.Proofs.YtiibgbaopojfnaaDoor
