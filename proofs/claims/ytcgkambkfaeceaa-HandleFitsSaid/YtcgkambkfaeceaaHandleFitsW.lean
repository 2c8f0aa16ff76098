/- HandleFits: a right handle's bytes may be a value of a store. -/
import Derived.Test.YtcgkambkfaeceaaHnAwake
import Derived.Test.YtcgkambkfaeceaaHnPutB
import Derived.Test.YtcgkambkfaeceaaHnOpen
namespace Go.Proofs.Ytcgkambkfaeceaa
open Go.RowKit
set_option maxRecDepth 100000 in
set_option maxHeartbeats 8000000 in
theorem lawFits (w : World) (v : Value) (L : CntL) (h : SeesC w v L) (hb : CntBd L) (hl : L.length ≤ maxLen) :
    Calls Try.prog 7 #[v] w fun e w' => e = .returned (.bool true) ∧ Below w.heap.size w w' := by
  have HOU := Lib.hid (ours_any v L w h (by unfold maxLen at hl; omega))
  have HBT := Lib.hid (hb.take 40)
  have hl2 : (L.take 40).length ≤ 40 := by rw [List.length_take]; omega
  have HAW := Lib.hid (fun w => awake17_any w)
  generalize L.take 40 = M at HOU HBT hl2
  clear h hb hl
  cases hr : rightH M with
  | false =>
    go_enter Try.func7, Try.ntmps7
    go_wp2_with fail
    refine HOU.out.mono ?_; rintro e w1 ⟨v1, rfl, ho1, hb1⟩
    have hs1 := ho1.sees.below (belNew w1 (hnO v1))
    have hb2 := belAlloc hb1 (hnO v1)
    have HP := Lib.hid (hput_no v1 M (w1.alloc (hnO v1)) hs1 HBT.out (by omega) hr)
    have HB2 := Lib.hid hb2
    obtain ⟨ao, n, c, rfl⟩ := sl_form ho1
    clear ho1 hb1 hs1 hb2
    go_wp2_with fail
    refine HP.out.mono ?_; rintro e w3 ⟨rfl, hb3⟩
    have HB3 := Lib.hid (bel HB2.out hb3)
    clear hb3
    go_wp2_with fail
    refine (HAW.out _).mono ?_; rintro e w4 ⟨rfl, hb4⟩
    have HB4 := Lib.hid (bel HB3.out hb4)
    clear hb4
    go_wp2_with fail
    go_ret
    exact ⟨rfl, HB4.out⟩
  | true =>
    have hsz : (strOfNums (hnB M)).size = 3 + 6 * M.length := by rw [strOfNums_size, hnB_len]
    obtain ⟨Z, hZ⟩ : ∃ Z, Z = strOfNums (hnB M) := ⟨_, rfl⟩
    rw [← hZ] at hsz
    have hw1 : IntKind.i64.wrap (6 * (M.length : Int)) = 6 * (M.length : Int) := IntWalk.i64_in _ (by omega)
    have hw2 : IntKind.i64.wrap (3 + 6 * (M.length : Int)) = 3 + 6 * (M.length : Int) := IntWalk.i64_in _ (by omega)
    have dq : ((Z.size : Int) == 3 + 6 * (M.length : Int)) = true := by rw [hsz]; simp
    have dl : decide ((Z.size : Int) ≤ 65536) = true := by rw [hsz]; simp; omega
    have HSZ := Lib.hid hsz
    have HZ := Lib.hid hZ
    clear hsz hZ
    go_enter Try.func7, Try.ntmps7
    go_wp2_with fail
    refine HOU.out.mono ?_; rintro e w1 ⟨v1, rfl, ho1, hb1⟩
    have hs1 := ho1.sees.below (belNew w1 (hnO v1))
    have hb2 := belAlloc hb1 (hnO v1)
    have HP := Lib.hid (hput_any v1 M (w1.alloc (hnO v1)) hs1 HBT.out (by omega) hr)
    rw [← HZ.out] at HP
    have HB2 := Lib.hid hb2
    obtain ⟨ao, c, rfl, -⟩ := ho1.sees
    have c1 := hcell (heap_new w1 (hnO (.slice ao M.length c)))
    clear ho1 hb1 hs1 hb2
    go_wp2_with fail
    refine HP.out.mono ?_; rintro e w3 ⟨rfl, hb3⟩
    have c1 := bcell hb3 c1
    have HB3 := Lib.hid (bel HB2.out hb3)
    clear hb3
    go_wp2_with fail
    refine (HAW.out _).mono ?_; rintro e w4 ⟨rfl, hb4⟩
    have HB4 := Lib.hid (bel HB3.out hb4)
    clear hb4
    go_wp2_with fail
    go_ret
    exact ⟨rfl, HB4.out⟩
end Go.Proofs.Ytcgkambkfaeceaa
