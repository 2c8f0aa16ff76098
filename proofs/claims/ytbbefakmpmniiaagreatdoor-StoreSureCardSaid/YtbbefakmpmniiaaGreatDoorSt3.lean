/- Package store: what a log's records do to a state. -/
import Derived.Test.YtbbefakmpmniiaaGreatDoorSt2
import Derived.Test.YtbbefakmpmniiaaGreatDoorSRd
namespace Go.Proofs.YtbbefakmpmniiaaGreatDoor
open Go.RowKit Go.Maps
/-- Which effect bytes are, if any. -/
def IsEff (xs : List Int) (e : KV.KEff) : Prop := KV.rightB e = true ∧ e.rev ≤ 9223372036854775807 ∧ KV.effL e = xs
open Classical in
noncomputable def decE (xs : List Int) : Option KV.KEff := if h : ∃ e, IsEff xs e then some h.choose else none
theorem decE_some {xs : List Int} {e : KV.KEff} (h : decE xs = some e) : IsEff xs e := by
  unfold decE at h
  split at h
  · rename_i hx
    cases h
    exact hx.choose_spec
  · cases h
theorem decE_none {xs : List Int} (h : decE xs = none) (e : KV.KEff) : ¬ IsEff xs e := by
  unfold decE at h
  split at h
  · cases h
  · rename_i hx
    exact fun he => hx ⟨e, he⟩
def decV (xs : List Int) : Option KV.KEff → Value
  | some e => .tuple #[KV.effV e, .int .i64 0]
  | none => .tuple #[KV.effV KV.eff0, .int .i64 3]
theorem read10_dec (b : Value) (xs : List Int) (w : World) (h : Sees w b xs) (hok : okB xs) (hl : xs.length ≤ 100000000000000) :
    Calls Tryz.prog 62 #[b] w fun x w' => x = .returned (decV xs (decE xs)) ∧ Below w.heap.size w w' := by
  cases hd : decE xs with
  | some e =>
    obtain ⟨h1, h2, rfl⟩ := decE_some hd
    exact KV.read10_put e h1 h2 b w h
  | none =>
    refine (KV.read10_any b xs w h hok hl).mono ?_
    rintro x w' ⟨⟨e, _, h1, h2, h3⟩ | rfl, hb⟩
    · exact absurd ⟨h1, h2, h3⟩ (decE_none hd e)
    · exact ⟨rfl, hb⟩
/-- What a log's records do to a state, and what is told of it. -/
noncomputable def replayS : KV.KSt → List (List Int) → Int × KV.KSt
  | S, [] => (0, S)
  | S, b :: t => match decE b with
    | none => (3, S)
    | some e => if e.rev ≤ S.rev then replayS S t else if KV.mayA S e = true then replayS (KV.applyK S e) t else (3, S)
theorem applyK_len (S : KV.KSt) (e : KV.KEff) : (KV.applyK S e).L.length ≤ S.L.length + 1 := by
  unfold KV.applyK
  split
  · exact Nat.le_trans (KV.delE_le _ _) (Nat.le_succ _)
  · exact KV.putE_len _ _ _
theorem drop_cons {α : Type} {l : List α} {i : Nat} (h : i < l.length) (d : α) : l.drop i = l.getD i d :: l.drop (i + 1) := by
  rw [List.drop_eq_getElem_cons h]
  simp [List.getD, List.getElem?_eq_getElem h]
theorem row_at {w : World} {B : Nat} {v : Value} {ls : List (List Int)} (h : RowN w B v ls) {ao : Option Addr} {c : Nat} (hv : v = .slice ao ls.length c) {i : Nat} (hi : i < ls.length) :
    ∃ a u, ao = some a ∧ w.cell? (a.add i) = some u ∧ Sees w u (ls.getD i []) := by
  obtain ⟨ao', c', e, _, hn, hc⟩ := RowZ.sees h
  rw [hv] at e
  obtain ⟨rfl, rfl⟩ : ao = ao' ∧ c = c' := by simpa using e
  cases ao with
  | none => rw [hn rfl] at hi; simp at hi
  | some a =>
    obtain ⟨u, h1, h2⟩ := hc a rfl i hi
    exact ⟨a, u, rfl, h1, h2⟩
end Go.Proofs.YtbbefakmpmniiaaGreatDoor
