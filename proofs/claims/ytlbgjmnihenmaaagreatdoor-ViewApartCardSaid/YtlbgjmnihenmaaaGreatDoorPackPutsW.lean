/- The walk of PackPuts. -/
import Derived.Test.YtlbgjmnihenmaaaGreatDoorJPk
import Derived.Deep.RegionHeld3
namespace Go.Proofs.YtlbgjmnihenmaaaGreatDoor
open Go.RowKit
set_option maxHeartbeats 400000 in
theorem refNumB_any (v : Value) (t : List Int) (w : World) (h : Sees w v t) (hok : okB t) (hl : t.length ≤ 8) :
    Calls Tryz.prog 111 #[v] w fun e w' => e = .returned (.int .u64 (numBE t)) ∧ w = w' := by
  obtain ⟨ao, c, rfl, hlc, hnil, hc⟩ := h
  have HO := Lib.hid hok
  have A1 : Aside (∀ a, ao = some a → ∀ i, i < t.length → w.cell? (a.add i) = some (.int .u8 (t.getD i 0))) := hc
  clear hc hok
  go_enter Tryz.func111, Tryz.ntmps111
  go_wp2_with fail
  go_loop [3, 5, 8] (fun n _ j => ∃ i : Nat, i ≤ t.length ∧ j = .int .i64 i ∧ n = .int .u64 (numBE (t.take i))) (fun _ _ j => t.length - (intOf j).toNat)
  case atStart => exact ⟨0, by omega, rfl, rfl⟩
  case round =>
    obtain ⟨i, hi, rfl, rfl⟩ := hrel
    by_cases hlt : i < t.length
    · obtain ⟨a, rfl⟩ : ∃ a, ao = some a := by
        cases ao with
        | none => rw [hnil rfl] at hlt; simp at hlt
        | some a => exact ⟨a, rfl⟩
      have hcell := A1 a rfl i hlt
      obtain ⟨b0, b1⟩ := getD_ok HO.out hlt
      rw [getD_get hlt] at b0 b1
      obtain ⟨n0, n1⟩ := numBE_bd (t.take i) (HO.out.take i)
      have n2 := pow256 (t.take i).length (by rw [List.length_take]; omega)
      have n3 : numBE (t.take i) < 72057594037927936 := Int.lt_of_lt_of_le n1 n2
      clear n1 n2
      have s1 : IntKind.u64.wrap (numBE (t.take i) * 256) = numBE (t.take i) * 256 := IntWalk.u64_in _ (by omega)
      have s2 : IntKind.u64.wrap t[i] = t[i] := IntWalk.u64_in _ (by omega)
      have s3 : IntKind.u64.wrap (numBE (t.take i) * 256 + t[i]) = numBE (t.take i) * 256 + t[i] := IntWalk.u64_in _ (by omega)
      go_wp2
      go_round
      case rel => exact ⟨i + 1, by omega, by go_num, by rw [take_snocI t i hlt, numBE_snoc, getD_get hlt]⟩
      case measure => simp [intOf]; omega
    · have HV : Hid (numBE (t.take i) = numBE t) := Lib.hid (by rw [List.take_of_length_le (by omega)])
      go_wp2
      go_ret
      exact ⟨congrArg (fun n => Ending.returned (.int .u64 n)) HV.out, rfl⟩
theorem strOf_strI (s : ByteArray) : strOfNums (strI s) = s := by
  apply ByteArray.ext
  unfold strOfNums strI
  simp only [List.map_map]
  rw [show ((fun n : Int => UInt8.ofNat n.toNat) ∘ fun b : UInt8 => (b.toNat : Int)) = id from funext fun b => by simp]
  simp
end Go.Proofs.YtlbgjmnihenmaaaGreatDoor
