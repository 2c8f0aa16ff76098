/- The walks of FrameSize and FrameAll, and what a frame at the beginning of bytes comes to. -/
import Derived.Test.YtkjdfelmjanpcaaDoorFrAll
namespace Go.Proofs.YtkjdfelmjanpcaaDoor
open Go.RowKit
theorem numBE_put4 (n : Nat) (h : n < 4294967296) : numBE (putL (n : Int) 4) = n := by
  rw [putL4]
  simp only [numBytes, numBE, List.foldl_cons, List.foldl_nil]
  simp
  omega
theorem frame_cnt {p t : List Int} (h2 : p.length ≤ 1048576) : cntL (frameL p ++ t) = p.length ∧ recL (frameL p ++ t) = p ∧ ((frameL p ++ t).drop 4).take 4 = putL (ofN p) 4 := by
  have e1 : (frameL p ++ t).take 4 = putL p.length 4 := by
    unfold frameL
    rw [List.append_assoc, List.append_assoc, List.take_append_of_le_length (by rw [putL4_len]; omega), List.take_of_length_le (by rw [putL4_len]; omega)]
  have e2 : (frameL p ++ t).drop 4 = putL (ofN p) 4 ++ (p ++ t) := by
    unfold frameL
    rw [List.append_assoc, List.append_assoc]
    have := List.drop_left (l₁ := putL p.length 4) (l₂ := putL (ofN p) 4 ++ (p ++ t))
    rwa [putL4_len] at this
  have e3 : (frameL p ++ t).drop 8 = p ++ t := by
    rw [show (8 : Nat) = 4 + 4 from rfl, ← List.drop_drop, e2]
    have := List.drop_left (l₁ := putL (ofN p) 4) (l₂ := p ++ t)
    rwa [putL4_len] at this
  have e4 : cntL (frameL p ++ t) = p.length := by
    unfold cntL
    rw [e1, numBE_put4 _ (by omega)]
    rfl
  refine ⟨e4, ?_, ?_⟩
  · unfold recL
    rw [e3, e4, List.take_left]
  · rw [e2]
    have := List.take_left (l₁ := putL (ofN p) 4) (l₂ := p ++ t)
    rwa [putL4_len] at this
theorem next_frame {p t : List Int} (hok : okB p) (h1 : 1 ≤ p.length) (h2 : p.length ≤ 1048576) : nextE (frameL p ++ t) = 0 ∧ nextP (frameL p ++ t) = p ∧ nextN (frameL p ++ t) = 8 + p.length := by
  obtain ⟨a, b, c⟩ := frame_cnt (t := t) h2
  have hl : (frameL p ++ t).length = 8 + p.length + t.length := by rw [List.length_append, frameL_len]
  have e : nextE (frameL p ++ t) = 0 := by
    unfold nextE
    rw [if_neg (by omega), if_neg (by omega), a, if_neg (by omega), if_neg (by omega), b, c, numBE_put4 _ (ofN_lt hok), if_pos rfl]
  unfold nextP nextN
  rw [e, b]
  exact ⟨rfl, rfl, rfl⟩
end Go.Proofs.YtkjdfelmjanpcaaDoor
