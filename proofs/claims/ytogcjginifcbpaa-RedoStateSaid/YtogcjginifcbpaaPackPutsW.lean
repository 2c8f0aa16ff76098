/- The walk of PackPuts. -/
import Derived.Test.YtogcjginifcbpaaPkP
import Derived.Test.YtogcjginifcbpaaPackNilW
import Derived.Deep.RegionHeld3
namespace Go.Proofs.Ytogcjginifcbpaa
open Go.RowKit
/-- The condition that a region holds may be made stronger on the way. -/
theorem wpAnyH_mono {P : Program} {ops : Array Oper} {Q : Exit → Act → World → Prop} {md : Region.Mode} {S S' : World → Prop} (hS : ∀ w, S' w → S w) :
    ∀ (fuel : Nat) (listed : Array Bool) (a : Act) (w : World), wpAnyH P md ops Q S' fuel listed a w → wpAnyH P md ops Q S fuel listed a w
  | 0, _, _, _, h => h
  | fuel + 1, _, _, _, h => ⟨h.1, fun i hi => wpOp_mono (fun a' w' h' => ⟨hS _ h'.1, wpAnyH_mono hS fuel _ a' w' h'.2⟩) (h.2 i hi)⟩
theorem strOfNums_append (a b : List Int) : strOfNums (a ++ b) = strOfNums a ++ strOfNums b := by
  apply ByteArray.ext
  simp [strOfNums]
theorem strOf_strI (s : ByteArray) : strOfNums (strI s) = s := by
  apply ByteArray.ext
  unfold strOfNums strI
  simp only [List.map_map]
  rw [show ((fun n : Int => UInt8.ofNat n.toNat) ∘ fun b : UInt8 => (b.toNat : Int)) = id from funext fun b => by simp]
  simp
theorem okB_append {a b : List Int} (ha : okB a) (hb : okB b) : okB (a ++ b) := fun x hx => (List.mem_append.1 hx).elim (ha x) (hb x)
theorem okB_num (n : Int) : ∀ k, okB (numBytes n k)
  | 0 => fun x hx => by cases hx
  | k + 1 => fun x hx => by
    rcases List.mem_cons.1 hx with rfl | hx
    · have := Int.emod_nonneg (n / 256 ^ k) (show (256 : Int) ≠ 0 by omega)
      have := Int.emod_lt_of_pos (n / 256 ^ k) (show (0 : Int) < 256 by omega)
      omega
    · exact okB_num n k x hx
theorem okB_put (n k : Int) : okB (putL n k) := by
  unfold putL
  split
  · exact okB_num _ _
  · intro x hx; cases hx
theorem putL_len (n k : Int) : (putL n k).length ≤ 8 := by
  unfold putL wOk
  split
  · rename_i h
    rw [numBytes_length]
    have := of_decide_eq_true h
    omega
  · simp
theorem okB_str (s : ByteArray) : okB (strI s) := fun x hx => by
  obtain ⟨b, _, rfl⟩ := List.mem_map.1 hx
  have := b.toNat_lt
  omega
theorem okB_text {s : ByteArray} (hs : s.size ≤ 64) : okB (textL s) := fun x hx => by
  rcases List.mem_cons.1 hx with rfl | hx
  · omega
  · exact okB_str s x hx
theorem rd_ahead (a b : List Int) : rdB (some (a ++ b)) a.length = (a, some b) := by
  rw [rdB_yes (by simp)]
  simp
theorem rd_put {n k : Int} (b : List Int) (hk : wOk k = true) : rdU (some (putL n k ++ b)) k = (numBE (putL n k), some b) := by
  have e : (putL n k).length = k.toNat := by unfold putL; rw [if_pos hk, numBytes_length]
  have h1 := of_decide_eq_true hk
  unfold rdU
  have h2 := rd_ahead (putL n k) b
  rw [e, show ((k.toNat : Nat) : Int) = k from by omega] at h2
  rw [if_pos hk, h2]
theorem rd_text {s : ByteArray} (hs : s.size ≤ 64) : rdT (some (textL s)) = (strI s, some []) := by
  have e : rdU (some (textL s)) 1 = ((s.size : Int), some (strI s)) := by
    unfold rdU
    rw [if_pos (by decide), show textL s = [(s.size : Int)] ++ strI s from rfl, show (1 : Int) = [(s.size : Int)].length from rfl, rd_ahead]
    simp [numBE]
  unfold rdT
  rw [e, if_pos (by simp; omega)]
  simp only []
  have := rd_ahead (strI s) []
  rwa [List.append_nil, strI_length] at this
end Go.Proofs.Ytogcjginifcbpaa
