/- The walk of PackPuts. -/
import Derived.Test.YtkjdfelmjanpcaaDoorPkP
import Derived.Test.YtkjdfelmjanpcaaDoorPackNilW
import Derived.Deep.RegionHeld3
namespace Go.Proofs.YtkjdfelmjanpcaaDoor
open Go.RowKit
/-- The condition that a region holds may be made stronger on the way. -/
theorem wpAnyH_mono {P : Program} {ops : Array Oper} {Q : Exit → Act → World → Prop} {md : Region.Mode} {S S' : World → Prop} (hS : ∀ w, S' w → S w) :
    ∀ (fuel : Nat) (listed : Array Bool) (a : Act) (w : World), wpAnyH P md ops Q S' fuel listed a w → wpAnyH P md ops Q S fuel listed a w
  | 0, _, _, _, h => h
  | fuel + 1, _, _, _, h => ⟨h.1, fun i hi => wpOp_mono (fun a' w' h' => ⟨hS _ h'.1, wpAnyH_mono hS fuel _ a' w' h'.2⟩) (h.2 i hi)⟩
theorem strOfNums_append (a b : List Int) : strOfNums (a ++ b) = strOfNums a ++ strOfNums b := by
  apply ByteArray.ext
  simp [strOfNums]
set_option maxHeartbeats 400000 in
theorem refNumB_any (v : Value) (t : List Int) (w : World) (h : Sees w v t) (hok : okB t) (hl : t.length ≤ 8) :
    Calls Tryd.prog 84 #[v] w fun e w' => e = .returned (.int .u64 (numBE t)) ∧ w = w' := by
  obtain ⟨ao, c, rfl, hlc, hnil, hc⟩ := h
  have HO := Lib.hid hok
  have A1 : Aside (∀ a, ao = some a → ∀ i, i < t.length → w.cell? (a.add i) = some (.int .u8 (t.getD i 0))) := hc
  clear hc hok
  go_enter Tryd.func84, Tryd.ntmps84
  go_wp2_with fail
  go_loop [3, 5, 8] (fun n _ j => ∃ i : Nat, i ≤ t.length ∧ j = .int .i64 i ∧ n = .int .u64 (numBE (t.take i))) (fun _ _ j => t.length - (intOf j).toNat)
  case atStart => exact ⟨0, by omega, rfl, rfl⟩
  case round =>
    obtain ⟨i, hi, rfl, rfl⟩ := hrel
    by_cases hlt : i < t.length
    · obtain ⟨a, rfl⟩ : ∃ a, ao = some a := by
        cases ao with
        | none => rw [hnil rfl] at hlt; simp at hlt
        | some a => exact ⟨a, rfl⟩
      have hcell := A1 a rfl i hlt
      obtain ⟨b0, b1⟩ := getD_ok HO.out hlt
      rw [getD_get hlt] at b0 b1
      obtain ⟨n0, n1⟩ := numBE_bd (t.take i) (HO.out.take i)
      have n2 := pow256 (t.take i).length (by rw [List.length_take]; omega)
      have n3 : numBE (t.take i) < 72057594037927936 := Int.lt_of_lt_of_le n1 n2
      clear n1 n2
      have s1 : IntKind.u64.wrap (numBE (t.take i) * 256) = numBE (t.take i) * 256 := IntWalk.u64_in _ (by omega)
      have s2 : IntKind.u64.wrap t[i] = t[i] := IntWalk.u64_in _ (by omega)
      have s3 : IntKind.u64.wrap (numBE (t.take i) * 256 + t[i]) = numBE (t.take i) * 256 + t[i] := IntWalk.u64_in _ (by omega)
      go_wp2
      go_round
      case rel => exact ⟨i + 1, by omega, by go_num, by rw [take_snocI t i hlt, numBE_snoc, getD_get hlt]⟩
      case measure => simp [intOf]; omega
    · have HV : Hid (numBE (t.take i) = numBE t) := Lib.hid (by rw [List.take_of_length_le (by omega)])
      go_wp2
      go_ret
      exact ⟨congrArg (fun n => Ending.returned (.int .u64 n)) HV.out, rfl⟩
theorem strOf_strI (s : ByteArray) : strOfNums (strI s) = s := by
  apply ByteArray.ext
  unfold strOfNums strI
  simp only [List.map_map]
  rw [show ((fun n : Int => UInt8.ofNat n.toNat) ∘ fun b : UInt8 => (b.toNat : Int)) = id from funext fun b => by simp]
  simp
theorem okB_append {a b : List Int} (ha : okB a) (hb : okB b) : okB (a ++ b) := fun x hx => (List.mem_append.1 hx).elim (ha x) (hb x)
theorem okB_num (n : Int) : ∀ k, okB (numBytes n k)
  | 0 => fun x hx => by cases hx
  | k + 1 => fun x hx => by
    rcases List.mem_cons.1 hx with rfl | hx
    · have := Int.emod_nonneg (n / 256 ^ k) (show (256 : Int) ≠ 0 by omega)
      have := Int.emod_lt_of_pos (n / 256 ^ k) (show (0 : Int) < 256 by omega)
      omega
    · exact okB_num n k x hx
theorem okB_put (n k : Int) : okB (putL n k) := by
  unfold putL
  split
  · exact okB_num _ _
  · intro x hx; cases hx
theorem putL_len (n k : Int) : (putL n k).length ≤ 8 := by
  unfold putL wOk
  split
  · rename_i h
    rw [numBytes_length]
    have := of_decide_eq_true h
    omega
  · simp
theorem okB_str (s : ByteArray) : okB (strI s) := fun x hx => by
  obtain ⟨b, _, rfl⟩ := List.mem_map.1 hx
  have := b.toNat_lt
  omega
theorem okB_text {s : ByteArray} (hs : s.size ≤ 64) : okB (textL s) := fun x hx => by
  rcases List.mem_cons.1 hx with rfl | hx
  · omega
  · exact okB_str s x hx
theorem rd_ahead (a b : List Int) : rdB (some (a ++ b)) a.length = (a, some b) := by
  rw [rdB_yes (by simp)]
  simp
theorem rd_put {n k : Int} (b : List Int) (hk : wOk k = true) : rdU (some (putL n k ++ b)) k = (numBE (putL n k), some b) := by
  have e : (putL n k).length = k.toNat := by unfold putL; rw [if_pos hk, numBytes_length]
  have h1 := of_decide_eq_true hk
  unfold rdU
  have h2 := rd_ahead (putL n k) b
  rw [e, show ((k.toNat : Nat) : Int) = k from by omega] at h2
  rw [if_pos hk, h2]
theorem rd_text {s : ByteArray} (hs : s.size ≤ 64) : rdT (some (textL s)) = (strI s, some []) := by
  have e : rdU (some (textL s)) 1 = ((s.size : Int), some (strI s)) := by
    unfold rdU
    rw [if_pos (by decide), show textL s = [(s.size : Int)] ++ strI s from rfl, show (1 : Int) = [(s.size : Int)].length from rfl, rd_ahead]
    simp [numBE]
  unfold rdT
  rw [e, if_pos (by simp; omega)]
  simp only []
  have := rd_ahead (strI s) []
  rwa [List.append_nil, strI_length] at this
end Go.Proofs.YtkjdfelmjanpcaaDoor
