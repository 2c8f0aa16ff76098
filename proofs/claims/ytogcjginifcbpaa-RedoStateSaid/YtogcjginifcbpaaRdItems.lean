/- Package redo: readItems: what is read of any bytes as items. -/
import Derived.Test.YtogcjginifcbpaaRdAny
namespace Go.Proofs.Ytogcjginifcbpaa
open Go.RowKit Go.Maps
/-- The item that is read next. -/
def itemOf (st : Option (List Int)) : KEnt := (kl (strOfNums (rdK st).1), (strOfNums (rdV st).1, rdRev st))
/-- So many items, one behind the other. -/
def rdN : Nat → Option (List Int) → List KEnt × Option (List Int)
  | 0, st => ([], st)
  | k + 1, st => ((rdN k st).1 ++ [itemOf (rdN k st).2], (rdV (rdN k st).2).2)
theorem rdN_len (st : Option (List Int)) : ∀ k, (rdN k st).1.length = k
  | 0 => rfl
  | k + 1 => by rw [rdN, List.length_append, rdN_len st k]; rfl
theorem RdP.belowN {g B n : Nat} {st : Option (List Int)} {w w' : World} (hr : RdP g B st w) (hb : Below n w w') (hg : g < n) : RdP g B st w' := by
  obtain ⟨v, hv, hs, ho, hok, hl, hB⟩ := hr
  exact ⟨v, (hb.block g hg).trans hv, sees_heap hs (fun d hd _ => hb.block d (by have := ho d hd; omega)), ho, hok, hl, hB⟩
theorem row_sliceI {w : World} {B : Nat} {v : Value} {L : List KEnt} (h : RowI w B v L) : ∃ ao c, v = .slice ao L.length c := by
  obtain ⟨ao, c, e, _⟩ := RowE.sees h
  exact ⟨ao, c, e⟩
/-- How much there is to read; nothing of one that is bad. -/
def left (st : Option (List Int)) : Nat := match st with
  | some l => l.length + 1
  | none => 0
theorem rdB_left {st : Option (List Int)} (n : Int) : left (rdB st n).2 ≤ left st := by
  cases h : (rdB st n).2 with
  | none => exact Nat.zero_le _
  | some l' =>
    obtain ⟨l, rfl, e, _⟩ := rdB_back h
    show l'.length + 1 ≤ l.length + 1
    have := congrArg List.length e
    rw [List.length_append] at this
    omega
theorem rdU_left {st : Option (List Int)} (k : Int) : left (rdU st k).2 ≤ left st := by
  unfold rdU
  split
  · exact rdB_left k
  · exact Nat.zero_le _
theorem rdL_left (st : Option (List Int)) : left (rdL st).2 ≤ left st := Nat.le_trans (rdB_left _) (rdU_left 4)
theorem rdU8_left {l : List Int} : left (rdU (some l) 8).2 < left (some l) := by
  cases h : (rdU (some l) 8).2 with
  | none => exact Nat.succ_pos _
  | some l' =>
    unfold rdU at h
    rw [if_pos (by decide)] at h
    obtain ⟨l2, e2, e, hn⟩ := rdB_back h
    obtain rfl := Option.some.inj e2
    show l'.length + 1 < l.length + 1
    have := congrArg List.length e
    rw [List.length_append] at this
    omega
theorem rdV_left (l : List Int) : left (rdV (some l)).2 < left (some l) :=
  Nat.lt_of_le_of_lt (rdL_left _) (Nat.lt_of_le_of_lt (rdL_left _) rdU8_left)
theorem rdN_left (st : Option (List Int)) : ∀ k, (∀ j, j < k → (rdN j st).2 ≠ none) → k + left (rdN k st).2 ≤ left st
  | 0, _ => by show 0 + left st ≤ left st; omega
  | k + 1, h => by
    have ih := rdN_left st k (fun j hj => h j (by omega))
    have hk := h k (by omega)
    rw [rdN]
    cases hs : (rdN k st).2 with
    | none => exact absurd hs hk
    | some l =>
      have := rdV_left l
      rw [hs] at ih
      simp only []
      omega
theorem grown_belowN {a b c : World} {r : Option Nat} (h : a.grownBy b r) (k : Below a.heap.size b c) : a.grownBy c r := ⟨k.os.trans h.os, k.tape.trans h.tape, k.output.trans h.output, Nat.le_trans h.size k.size, fun i hi hne => (k.block i hi).trans (h.block i hi hne)⟩
set_option maxRecDepth 100000 in
set_option maxHeartbeats 8000000 in
theorem readItems_any (g B : Nat) (st : Option (List Int)) (n : Nat) (w : World) (h : RdP g B st w) (hl : left st ≤ 100000) (hn : n < 4294967296) :
    Calls Try.prog 66 #[.pointer (some ⟨g, 0, none⟩), .int .u64 n] w fun e w' => ∃ (k : Nat) (v : Value), e = .returned v ∧ RowI w' w.heap.size v (rdN k st).1 ∧ RdP g B (rdN k st).2 w' ∧ k ≤ n ∧ (k = n ∨ (rdN k st).2 = none) ∧ k ≤ 100000 ∧ w.grownBy w' (some g) := by
  have hgl : g < w.heap.size := by obtain ⟨v, hv, _⟩ := h; exact heap_lt hv
  have H := Lib.hid (And.intro h (And.intro hl hgl))
  have hBg : B ≤ g := by obtain ⟨v, _, _, _, _, _, hB⟩ := h; exact hB
  have HBG := Lib.hid hBg
  clear h hl hgl hBg
  go_enter Try.func66, Try.ntmps66
  go_wp2_with fail
  go_loopw [5] (fun v wr => ∃ (k : Nat) (ao : Option Addr) (c : Nat), k ≤ n ∧ v = .slice ao k c ∧ RowI wr w.heap.size v (rdN k st).1 ∧ RdP g B (rdN k st).2 wr ∧ Aside (∀ j, j < k → (rdN j st).2 ≠ none) ∧ w.grownBy wr (some g)) (fun v _ => match v with | .slice _ k _ => left (rdN k st).2 | _ => 0)
  case atStart => exact ⟨0, none, 0, Nat.zero_le _, rfl, World.ownsRow_nil _ _ _ _, H.out.1, fun j hj => by omega, grown_below (Below.refl _ _)⟩
  case round =>
    obtain ⟨k, ao, c, hk, rfl, hrow, hrd, hgood, hg⟩ := hrel
    have hkl := rdN_left st k hgood.out
    have hk5 : k ≤ 100000 := by have := H.out.2.1; omega
    have s1 : IntKind.u64.wrap (k : Int) = (k : Int) := IntWalk.u64_in _ (by omega)
    have HR := Lib.hid (And.intro hrow (And.intro hrd (And.intro hg hgood.out)))
    clear hrow hrd hg hgood
    by_cases hlt : k < n
    · have d1 : decide ((k : Int) < (n : Int)) = true := by simp; omega
      have HBd := Lib.hid (bad_any g B _ wr HR.out.2.1)
      have HIt := Lib.hid (readItem_any g B _ wr HR.out.2.1)
      cases hs : (rdN k st).2 with
      | none =>
        rw [hs] at HBd
        have HN := Lib.hid hs
        clear hs HIt
        go_wp2_with (first
          | (go_at_call 82; refine HBd.out.mono ?_; rintro e wx ⟨rfl, rfl⟩)
          | go_in)
        go_ret
        exact ⟨k, _, rfl, HR.out.1, HR.out.2.1, hk, Or.inr HN.out, hk5, HR.out.2.2.1⟩
      | some l =>
        rw [hs] at HBd
        have HN := Lib.hid hs
        have hlen : (rdN k st).1.length ≤ 1000000 := by rw [rdN_len]; omega
        clear hs
        go_wp2_with (first
          | (go_at_call 82; refine HBd.out.mono ?_; rintro e wx ⟨rfl, rfl⟩)
          | (go_at_call 62; refine HIt.out.mono ?_; rintro e w2 ⟨rfl, hR2, hg2⟩
             have hrow2 : RowI w2 w.heap.size (.slice ao k c) (rdN k st).1 := World.ownsRow.kept HR.out.1 hg2 (row_neE HR.out.1 H.out.2.2)
             have hz2 := HR.out.2.2.1.size
             have hz3 := hg2.size)
          | (at_builtin; refine wpList_push Try.underlying34 infoK rfl (.tmp 16) (.tmp 19) rfl w.heap.size (.slice ao k c) (rdN k st).1 (strOfNums (rdK (rdN k st).2).1) (strOfNums (rdV (rdN k st).2).1, rdRev (rdN k st).2) w2.heap.size rfl rfl rfl hrow2 (by omega) (by omega) ?_; intro v3 w3 hrow3 hb3 hg3; obtain ⟨ao3, c3, hv3⟩ := row_sliceI hrow3; have hl3 : ((rdN k st).1 ++ [((strOfNums (rdK (rdN k st).2).1).data.toList, (strOfNums (rdV (rdN k st).2).1, rdRev (rdN k st).2))]).length = k + 1 := by rw [List.length_append, rdN_len, List.length_singleton]
             rw [hl3] at hv3; subst hv3)
          | go_in)
        go_roundw
        case rel =>
          refine ⟨k + 1, ao3, c3, by omega, rfl, hrow3, hR2.belowN hb3 H.out.2.2, fun j hj => ?_, grown_belowN (grown_trans HR.out.2.2.1 hg2) hb3⟩
          by_cases hjk : j = k
          · rw [hjk, HN.out]; simp
          · exact HR.out.2.2.2 j (by omega)
        case measure =>
          show left (rdV (rdN k st).2).2 < left (rdN k st).2
          rw [HN.out]
          exact rdV_left l
    · have d1 : decide ((k : Int) < (n : Int)) = false := by simp; omega
      go_wp2_with fail
      go_ret
      exact ⟨k, _, rfl, HR.out.1, HR.out.2.1, hk, Or.inl (by omega), hk5, HR.out.2.2.1⟩
end Go.Proofs.Ytogcjginifcbpaa
