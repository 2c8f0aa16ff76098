/- The first of one sign by another one: the library's contract for the evaluator. -/
import Derived.Test.YtkldglhihfjclaaGreatDoorShelf
import Derived.Test.YtkldglhihfjclaaGreatDoorEvXe
namespace Go.Proofs.YtkldglhihfjclaaGreatDoor
open Go.RowKit Go.Ev
theorem index_one (a c : UInt8) (l : List UInt8) : Lib.index (c :: l) [a] = if c = a then 0 else if Lib.index l [a] == -1 then -1 else Lib.index l [a] + 1 := by
  rw [Lib.index]
  by_cases h : c = a
  · subst h; simp
  · have : ([a] : List UInt8).isPrefixOf (c :: l) = false := by simp [List.isPrefixOf]; exact fun e => h e.symm
    rw [this, if_neg h]; rfl
theorem idx_case (l : List UInt8) (a : UInt8) : Lib.index l [a] = -1 ∨ ∃ i : Nat, Lib.index l [a] = i := by
  induction l with
  | nil => exact Or.inl rfl
  | cons c l ih =>
    rw [index_one]
    split
    · exact Or.inr ⟨0, rfl⟩
    · rcases ih with h | ⟨i, h⟩
      · rw [h]; exact Or.inl rfl
      · rw [h]
        exact Or.inr ⟨i + 1, if_neg (by simp)⟩
theorem repl_at (a b : UInt8) : ∀ l : List UInt8, (Lib.index l [a] = -1 → replN a b l = l) ∧ (∀ i : Nat, Lib.index l [a] = i → i < l.length ∧ replN a b l = l.take i ++ [b] ++ l.drop (i + 1))
  | [] => ⟨fun _ => rfl, fun i h => by have h2 : Lib.index [] [a] = -1 := rfl; omega⟩
  | c :: l => by
    obtain ⟨h1, h2⟩ := repl_at a b l
    rw [index_one]
    by_cases hc : c = a
    · rw [if_pos hc]
      refine ⟨fun h => by omega, fun i h => ?_⟩
      obtain rfl : i = 0 := by omega
      exact ⟨Nat.succ_pos _, by rw [replN_cons, if_pos hc]; rfl⟩
    · rw [if_neg hc]
      by_cases hi : Lib.index l [a] = -1
      · have e : (Lib.index l [a] == -1) = true := by simpa using hi
        rw [if_pos e]
        exact ⟨fun _ => by rw [replN_cons, if_neg hc, h1 hi], fun i h => by omega⟩
      · have e : ¬ (Lib.index l [a] == -1) = true := by simpa using hi
        rw [if_neg e]
        refine ⟨fun h => ?_, fun i h => ?_⟩
        · exfalso
          rcases idx_case l a with h5 | ⟨j, h5⟩
          · exact hi h5
          · omega
        · cases i with
          | zero =>
            exfalso
            omega
          | succ i =>
            obtain ⟨h3, h4⟩ := h2 i (by omega)
            exact ⟨Nat.succ_lt_succ h3, by rw [replN_cons, if_neg hc, h4]; rfl⟩
theorem one_ok : OneOk Tryz.prog 120 ⟨0, 0, none⟩ := by
  intro s a b m w hs hab hm
  have hne : (⟨#[a]⟩ : ByteArray) ≠ ⟨#[b]⟩ := fun e => hab (by
    have h1 := congrArg (fun x : ByteArray => x.data.toList) e
    simpa using h1)
  rcases idx_case s.data.toList a with hi | ⟨i, hi⟩
  · have h0 : Lib.countB s ⟨#[a]⟩ = 0 := Lib.count_miss hi
    refine (Tryz.strings_Replace_absent s ⟨#[a]⟩ ⟨#[b]⟩ 1 m w (by omega) hm (Nat.le_refl 1) hne (by decide) h0).mono ?_
    rintro e w' ⟨rfl, rfl⟩
    refine ⟨?_, Below.refl _ _⟩
    rw [(repl_at a b s.data.toList).1 hi]
  · have h1 : Lib.countB s ⟨#[a]⟩ = 1 + Lib.count (s.data.toList.drop (i + 1)) [a] := Lib.count_hit (by simp) hi
    have hle : Lib.countB s ⟨#[a]⟩ ≤ s.size := Lib.countB_le ⟨#[a]⟩ (Nat.le_refl 1) s.size s (Nat.le_refl _)
    obtain ⟨hl, hr⟩ := (repl_at a b s.data.toList).2 i hi
    refine (Tryz.strings_Replace_some s ⟨#[a]⟩ ⟨#[b]⟩ 1 m w (by omega) hm (Nat.le_refl 1) hne (by decide) (by omega) (by have : (⟨#[b]⟩ : ByteArray).size = 1 := rfl; rw [this]; omega)).mono ?_
    rintro e w' ⟨rfl, hb⟩
    refine ⟨?_, hb⟩
    have hn : Lib.replaceNum s.data.toList [a] 1 = 1 := by
      unfold Lib.replaceNum
      have : Lib.count s.data.toList [a] = Lib.countB s ⟨#[a]⟩ := rfl
      rw [if_neg (by rw [this]; omega)]
      rfl
    have hk : Lib.replaceK [a] [b] 1 s.data.toList = replN a b s.data.toList := by
      rw [hr]
      exact Lib.replaceK_hit [a] [b] 0 s.data.toList i hi
    show Ending.returned (.string ⟨(Lib.replaceK [a] [b] (Lib.replaceNum s.data.toList [a] 1) s.data.toList).toArray⟩) = _
    rw [hn, hk]
theorem one_sound {G : Nat → Option Obj} {o : Obj} (hG : G 0 = some o) {m : Int} (hm : ∀ w : World, w.heap[(0 : Nat)]? = some o → w.cell? ⟨0, 0, none⟩ = some (.int .i64 m)) :
    CallOk Tryz.prog G (xOne 120) := xOne_sound one_ok hG hm
end Go.Proofs.YtkldglhihfjclaaGreatDoor
