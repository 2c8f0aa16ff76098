/- The walk of DiskSyncs. -/
import Derived.Test.YtkjdfelmjanpcaaDoorDkLaw
namespace Go.Proofs.YtkjdfelmjanpcaaDoor
open Go.RowKit Go.Maps
/-- What is there of the file f: nothing yet, or bytes of which so many are sure; and the text that was sure last. -/
def SyncInv (D : DSt) (S : List Int) (m : Nat) : Prop := (D.fs = [] ∧ S = []) ∨ ∃ xs su, D.fs = [([102], (xs, su))] ∧ su ≤ xs.length ∧ xs.take S.length = S ∧ S.length ≤ su ∧ xs.length ≤ m
theorem SyncInv.nil : SyncInv ⟨[], false, false, 0⟩ [] 0 := Or.inl ⟨rfl, rfl⟩
theorem get1 (u : List Int × Nat) : getE [(([102] : List UInt8), u)] [102] = some u := rfl
theorem put1 (u v : List Int × Nat) : putE [102] v [(([102] : List UInt8), u)] = [([102], v)] := rfl
theorem put0 (v : List Int × Nat) : putE [102] v ([] : List FEnt) = [([102], v)] := rfl
theorem SyncInv.app {D : DSt} {S t : List Int} {m : Nat} (h : SyncInv D S m) (ht : t.length ≤ 40) : SyncInv (appD D [102] t).2 S (m + 40) := by
  unfold appD
  by_cases hl : D.lost = true
  · rw [if_pos hl]
    rcases h with h | ⟨xs, su, h1, h2, h3, h4, h5⟩
    · exact Or.inl h
    · exact Or.inr ⟨xs, su, h1, h2, h3, h4, by omega⟩
  · rw [if_neg hl]
    rcases h with ⟨h1, h2⟩ | ⟨xs, su, h1, h2, h3, h4, h5⟩
    · refine Or.inr ⟨t, 0, ?_, Nat.zero_le _, by rw [h2]; rfl, by rw [h2]; exact Nat.le_refl _, by omega⟩
      show putE [102] (((getE D.fs [102]).getD ([], 0)).1 ++ t, ((getE D.fs [102]).getD ([], 0)).2) D.fs = _
      rw [h1]
      exact put0 _
    · refine Or.inr ⟨xs ++ t, su, ?_, by rw [List.length_append]; omega, ?_, h4, by rw [List.length_append]; omega⟩
      · show putE [102] (((getE D.fs [102]).getD ([], 0)).1 ++ t, ((getE D.fs [102]).getD ([], 0)).2) D.fs = _
        rw [h1, get1]
        exact put1 _ _
      · rw [List.take_append_of_le_length (by omega)]
        exact h3
/-- Behind an Append that is told as done the file is there, and the disk is not lost. -/
theorem app_done {D : DSt} {S t : List Int} {m : Nat} (h : SyncInv D S m) (he : (appD D [102] t).1 = 0) : (appD D [102] t).2.lost = false ∧ ∃ xs su, (appD D [102] t).2.fs = [([102], (xs, su))] := by
  unfold appD at he ⊢
  by_cases hl : D.lost = true
  · rw [if_pos hl] at he; cases he
  · rw [if_neg hl] at he ⊢
    have hlost : lost1 D.lost D.armed D.left = false := by
      cases hh : lost1 D.lost D.armed D.left with
      | false => rfl
      | true => unfold errW at he; rw [hh] at he; cases he
    refine ⟨hlost, ?_⟩
    rcases h with ⟨h1, h2⟩ | ⟨xs, su, h1, _⟩
    · exact ⟨_, _, by simp only []; rw [h1]; exact put0 _⟩
    · exact ⟨_, _, by simp only []; rw [h1]; exact put1 _ _⟩
theorem SyncInv.sync {D : DSt} {S xs : List Int} {su m : Nat} (h : SyncInv D S m) (hf : D.fs = [([102], (xs, su))]) (_ : D.lost = false) :
    (SyncInv (syncD D [102]).2 S m) ∧ ((syncD D [102]).1 = 0 → SyncInv (syncD D [102]).2 xs m) := by
  rcases h with ⟨h1, h2⟩ | ⟨xs', su', h1, h2, h3, h4, h5⟩
  · rw [h1] at hf; cases hf
  · rw [h1] at hf
    obtain ⟨rfl, rfl⟩ : xs' = xs ∧ su' = su := by
      have := List.cons.inj hf
      have h6 := (Prod.mk.inj this.1).2
      exact ⟨(Prod.mk.inj h6).1, (Prod.mk.inj h6).2⟩
    unfold syncD
    rw [h1, get1]
    simp only []
    by_cases hh : lost1 D.lost D.armed D.left = true
    · rw [if_pos hh]
      exact ⟨Or.inr ⟨xs', su', rfl, h2, h3, h4, h5⟩, fun h => by cases h⟩
    · rw [if_neg hh]
      exact ⟨Or.inr ⟨xs', xs'.length, put1 (xs', su') _, Nat.le_refl _, h3, by omega, h5⟩, fun _ => Or.inr ⟨xs', xs'.length, put1 (xs', su') _, Nat.le_refl _, List.take_length, Nat.le_refl _, h5⟩⟩
theorem SyncInv.crash {D : DSt} {S : List Int} {m : Nat} (h : SyncInv D S m) (ks : List Int) : S.length ≤ (readD (crashD D ks) [102]).1.length ∧ (readD (crashD D ks) [102]).1.take S.length = S ∧ (readD (crashD D ks) [102]).1.length ≤ m := by
  rcases h with ⟨h1, h2⟩ | ⟨xs, su, h1, h2, h3, h4, h5⟩
  · have e : readD (crashD D ks) [102] = ([], 6) := by unfold readD crashD; rw [h1]; rfl
    rw [e, h2]
    exact ⟨Nat.le_refl _, rfl, Nat.zero_le _⟩
  · have hc := crashN_le ks 0 (u := (xs, su)) h2
    simp only [] at hc
    have e : readD (crashD D ks) [102] = (xs.take (crashN ks 0 (xs, su)), 0) := by unfold readD crashD; rw [h1]; rfl
    rw [e]
    simp only []
    have hl : (xs.take (crashN ks 0 (xs, su))).length = crashN ks 0 (xs, su) := by rw [List.length_take]; omega
    refine ⟨by omega, ?_, by omega⟩
    rw [List.take_take, Nat.min_eq_left (by omega)]
    exact h3
theorem SyncInv.small {D : DSt} {S : List Int} {m : Nat} (h : SyncInv D S m) (hm : m ≤ 1000) : D.fs.length ≤ 1000000 ∧ (∀ f ∈ D.fs, f.1.length ≤ maxLen ∧ f.2.1.length ≤ 100000000000) ∧ ((getE D.fs [102]).getD ([], 0)).1.length ≤ m ∧ S.length ≤ m := by
  rcases h with ⟨h1, h2⟩ | ⟨xs, su, h1, h2, h3, h4, h5⟩
  · rw [h1, h2]
    exact ⟨Nat.zero_le _, (fun f hf => by cases hf), Nat.zero_le _, Nat.zero_le _⟩
  · rw [h1, get1]
    refine ⟨by show 1 ≤ 1000000; omega, fun f hf => ?_, h5, by omega⟩
    obtain rfl := List.mem_singleton.1 hf
    exact ⟨by show 1 ≤ maxLen; unfold maxLen; omega, by show xs.length ≤ _; omega⟩
theorem sees_hd {w : World} {ao : Option Addr} {c : Nat} {xs : List Int} (h : Sees w (.slice ao xs.length c) xs) {n : Nat} (hn : n ≤ xs.length) : Sees w (.slice ao n c) (xs.take n) := by
  obtain ⟨ao0, c0, he, hlc, hnil, hc⟩ := h
  cases he
  have e : (xs.take n).length = n := by rw [List.length_take]; omega
  refine ⟨ao, c, by rw [e], by omega, fun h => by rw [hnil h]; exact List.take_nil, fun a ha i hi => ?_⟩
  rw [e] at hi
  rw [hc a ha i (by omega)]
  simp only [List.getD, List.getElem?_take, if_pos hi]
end Go.Proofs.YtkjdfelmjanpcaaDoor
