/- The law's text of a block's net. -/
import Derived.Test.YtlbgjmnihenmaaaGreatDoorVwNet
namespace Go.Proofs.YtlbgjmnihenmaaaGreatDoor
open Go.RowKit
abbrev blkS (a : Int) : ByteArray := ⟨(NM.blkTxt a).toArray⟩
theorem blkS_size (a : Int) (ha : 0 ≤ a) (ha' : a < 4294967296) : (blkS a).size ≤ 20 := NM.blk_size a ha ha'
theorem dec26 : Lib.decDigits 26 = [50, 54] := by decide +kernel
theorem net26 (a : Int) (ha : 0 ≤ a) (ha' : a < 4294967296) : NM.netText (a - a % 64) 26 = NM.ipTxt (a - a % 64) ++ [47, 50, 54] := by
  unfold NM.netText
  rw [if_pos (NM.may_blk a ha ha'), NM.netTxt_eq, show (26 : Int).toNat = 26 from rfl, dec26]
  simp
theorem blk26 (a : Int) (ha : 0 ≤ a) (ha' : a < 4294967296) : NM.blkTxt a = NM.ipTxt (a - a % 64) ++ [45, 50, 54] := by
  unfold NM.blkTxt
  rw [NM.keyTxt_eq (NM.may_blk a ha ha'), show (26 : Int).toNat = 26 from rfl, dec26]
  simp
set_option maxRecDepth 100000 in
set_option maxHeartbeats 4000000 in
theorem lawNet_any (a : Int) (ha : 0 ≤ a) (ha' : a < 4294967296) (w : World) :
    Calls Tryz.prog 27 #[.int .u32 a] w fun e w' => e = .returned (.string (blkS a)) ∧ Below w.heap.size w w' := by
  have HC := Lib.hid (fun w => NM.refNetPrint_any (a - a % 64) 26 (by omega) (by omega) (by omega) (by omega) w)
  have hsz := blkS_size a ha ha'
  have h1 : (⟨(NM.netText (a - a % 64) 26).toArray⟩ : ByteArray).size = (NM.ipTxt (a - a % 64)).length + 3 := by
    rw [net26 a ha ha']
    show (NM.ipTxt (a - a % 64) ++ [47, 50, 54]).toArray.size = _
    simp
  have h2 : (blkS a).size = (NM.ipTxt (a - a % 64)).length + 3 := by
    show (NM.blkTxt a).toArray.size = _
    rw [blk26 a ha ha']
    simp
  have h3 : (⟨(NM.netText (a - a % 64) 26).toArray⟩ : ByteArray).extract 0 (NM.ipTxt (a - a % 64)).length ++ ⟨#[45, 50, 54]⟩ = blkS a := by
    refine ByteArray.ext (Array.ext' ?_)
    simp only [ByteArray.data_append, Array.toList_append]
    rw [NM.ext_take]
    show (NM.netText (a - a % 64) 26).take _ ++ [45, 50, 54] = NM.blkTxt a
    rw [net26 a ha ha', blk26 a ha ha', List.take_left']
    rfl
  have w1 : IntKind.u32.wrap (a - a.tmod 64) = a - a % 64 := by rw [IntKind.wrap_u32]; have : a.tmod 64 = a % 64 := Int.tmod_eq_emod_of_nonneg ha; omega
  have HS := Lib.hid (And.intro h2 (And.intro h3 hsz))
  generalize (⟨(NM.netText (a - a % 64) 26).toArray⟩ : ByteArray) = T at *
  generalize (NM.ipTxt (a - a % 64)).length = n at *
  have hn : n ≤ 17 := by omega
  clear h2 h3 hsz ha ha'
  generalize a - a % 64 = b at *
  go_enter Tryz.func27, Tryz.ntmps27
  go_wp2_with fail
  refine (HC.out _).mono ?_; rintro e w2 ⟨rfl, hb1⟩
  have b0 : (n : Int) ≤ (n : Int) + 3 := by omega
  have b1 : ((n : Int)).toNat = n := by omega
  have z1 : ¬ 9223372036854775807 < n + 3 := by omega
  go_wp2_with fail
  go_ret
  exact ⟨by rw [HS.out.2.1]; rfl, hb1⟩
end Go.Proofs.YtlbgjmnihenmaaaGreatDoor
