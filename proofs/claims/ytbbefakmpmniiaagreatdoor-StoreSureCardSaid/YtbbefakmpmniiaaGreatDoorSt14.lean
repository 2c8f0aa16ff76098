/- Package store: Open, whatever the disk has: one contract. -/
import Derived.Test.YtbbefakmpmniiaaGreatDoorSt13
import Derived.Test.YtbbefakmpmniiaaGreatDoorSt11
namespace Go.Proofs.YtbbefakmpmniiaaGreatDoor
open Go.RowKit Go.Maps
theorem AllIs.ex : ∀ (m : Nat) (l : List Int), l.length ≤ m → ∃ ls k e, AllIs ls l k e
  | 0, l, h => ⟨[], 0, nextE l, rfl, by simp, by
      obtain rfl := List.length_eq_zero_iff.1 (Nat.le_zero.1 h)
      decide⟩
  | m + 1, l, h => by
    by_cases h0 : nextE l = 0
    · obtain ⟨r1, r2, r3⟩ := next_room h0
      obtain ⟨ls, k, e, h1, h2, h3⟩ := AllIs.ex m (l.drop (nextN l)) (by rw [List.length_drop]; omega)
      refine ⟨nextP l :: ls, nextN l + k, e, ⟨h0, rfl, k, h1, rfl⟩, ?_, h3⟩
      rw [← List.drop_drop]
      exact h2
    · exact ⟨[], 0, nextE l, rfl, by simp, h0⟩
/-- The records that bytes begin with. -/
noncomputable def recsOf (xs : List Int) : List (List Int) := (AllIs.ex xs.length xs (Nat.le_refl _)).choose
theorem recsOf_all (xs : List Int) : ∃ n x, AllIs (recsOf xs) xs n x := (AllIs.ex xs.length xs (Nat.le_refl _)).choose_spec
theorem recsOf_eq {ls : List (List Int)} {xs : List Int} {n x : Nat} (h : AllIs ls xs n x) : recsOf xs = ls := by
  obtain ⟨n', x', h'⟩ := recsOf_all xs
  exact (AllIs.same _ _ _ _ _ _ _ h' h).1
theorem steps_ok : ∀ (ls : List (List Int)) (l : List Int) (k : Nat), Steps ls l k → okB l → ∀ p ∈ ls, okB p ∧ p.length ≤ l.length
  | [], _, _, _, _ => fun p hp => by cases hp
  | q :: ls, l, k, h, ho => by
    obtain ⟨h1, h2, k', h3, -⟩ := h
    intro p hp
    rcases List.mem_cons.1 hp with rfl | hp
    · rw [← h2]
      unfold nextP
      rw [if_pos h1]
      unfold recL
      refine ⟨fun x hx => ho x (List.mem_of_mem_drop (List.mem_of_mem_take hx)), ?_⟩
      simp only [List.length_take, List.length_drop]
      omega
    · have h4 := steps_ok ls _ _ h3 (fun x hx => ho x (List.mem_of_mem_drop hx)) p hp
      exact ⟨h4.1, by have := h4.2; rw [List.length_drop] at this; omega⟩
/-- What Open tells of a disk, and the state it then has. -/
noncomputable def opS (D : DSt) : Int × KV.KSt := if (ldS D).1 = 0 then replayS (ldS D).2 (recsOf (readD D nLog.data.toList).1) else ((ldS D).1, ⟨0, []⟩)
/-- A disk that is there, with no arm, and short files. -/
def DFree (N : Nat) (D : DSt) : Prop := D.lost = false ∧ D.armed = false ∧ D.fs.length ≤ N ∧ FsSmall 90000 D.fs
/-- What Open leaves. -/
def OpensS (w : World) (g : Nat) (P : Nat → Prop) (N : Nat) (D : DSt) (ev : Int) (e : Ending) (w' : World) : Prop :=
  ∃ P' D', DiskAt w' g P' D' ∧ Step P P' w w' ∧ opS D' = opS D ∧ DFree (N + 1) D' ∧ ((ldS D).1 = 0 → ∃ n x, AllIs (recsOf (readD D nLog.data.toList).1) (readD D nLog.data.toList).1 n x ∧ settleD D nLog.data.toList (readD D nLog.data.toList).1.length n = (0, D')) ∧
    ((opS D).1 ≠ 0 → e = .returned (.tuple #[.pointer none, .int .i64 (opS D).1])) ∧
    ((opS D).1 = 0 → ∃ s k l Pk n x, e = .returned (.tuple #[ptr s, .int .i64 0]) ∧ AllIs (recsOf (readD D nLog.data.toList).1) (readD D nLog.data.toList).1 n x ∧ SAll w' s g l k P' Pk ⟨D', n, false⟩ (opS D).2 (max ev 1) 0 false ∧ (∀ i, Pk i → w.heap.size ≤ i) ∧ w.heap.size ≤ l ∧ w.heap.size ≤ s)
theorem sopen_any (g : Nat) (P : Nat → Prop) (N : Nat) (D : DSt) (ev : Int) (w : World) (h : DiskAt w g P D) (hD : DFree N D) (hN : N ≤ 999) (hE : Env w) :
    Calls Tryz.prog 10 #[ptr g, .int .i64 ev] w (OpensS w g P N D ev) := by
  obtain ⟨hl, ha, hn, hs⟩ := hD
  have hLD := sload_any g P D w h (hs.get _) hE
  by_cases hz : (ldS D).1 = 0
  · obtain ⟨n, x, hall⟩ := recsOf_all (readD D nLog.data.toList).1
    obtain ⟨D', hd, hr', hro, hl', ha', hn', hs'⟩ := settle_free hl ha hall
    have hln := Nat.le_trans (ldS_len D) (Nat.succ_le_succ (hs.get nSnap.data.toList))
    have hrl : (readD D nLog.data.toList).1.length ≤ 90000 := Nat.le_trans (readD_len _) (hs.get _)
    have hrn := Steps.room _ _ _ hall.1
    obtain ⟨o1, o2, o3⟩ := ldS_ok hz
    have e1 : opS D = replayS (ldS D).2 (recsOf (readD D nLog.data.toList).1) := by unfold opS; rw [if_pos hz]
    have e2 : opS D' = opS D := by
      rw [e1]
      unfold opS
      rw [ldS_same (hro nSnap.data.toList (by decide)), if_pos hz, hr']
      rw [recsOf_eq (all_take hall)]
    have he12 : (readD D nLog.data.toList).2 ≠ 12 := by
      unfold readD
      cases hg : getE D.fs nLog.data.toList with
      | none => simp
      | some u => simp [hl]
    have hok := steps_ok _ _ _ hall.1 (readD_ok h.oks nLog.data.toList)
    have hok2 : ∀ p ∈ recsOf (readD D nLog.data.toList).1, okB p ∧ p.length ≤ 100000000000000 := fun p hp => ⟨(hok p hp).1, by have := (hok p hp).2; omega⟩
    have hDF : DFree (N + 1) D' := ⟨hl', ha', by omega, hs' _ hs⟩
    have HL : Hid (Calls Tryz.prog 33 #[ptr g] w fun e w' => ∃ k Pk, e = .returned (.tuple #[ptr k, .int .i64 0]) ∧ KV.KvAt w' k Pk (ldS D).2 ∧ (∀ i, Pk i → w.heap.size ≤ i) ∧ Below w.heap.size w w') := Lib.hid (hLD.mono (by
      rintro e w' ⟨h1, -, hb⟩
      obtain ⟨k, Pk, r1, r2, r3, -⟩ := h1 hz
      exact ⟨k, Pk, r1, r2, r3, hb⟩))
    by_cases hzz : (replayS (ldS D).2 (recsOf (readD D nLog.data.toList).1)).1 = 0
    · refine (sopen_core g P D D' ev (ldS D).2 _ _ _ n x w h HL (by omega) (fun f hf => by have := hs f hf; omega) hE rfl he12 hall hd hok2 ⟨o2, o3⟩ (by omega) hzz).mono ?_
      rintro e w' ⟨s, k, l, P', Pk, rfl, q1, q2, q3, q4, q5, q6, q7, q8, q9, q10, q11⟩
      refine ⟨P', D', q2, q11, e2, hDF, fun _ => ⟨n, x, hall, hd⟩, fun hne => absurd (by rw [e1]; exact hzz) hne, fun _ => ⟨s, k, l, Pk, n, x, rfl, hall, ?_, fun i hi => (q5 i hi).1, q8, q9⟩⟩
      rw [e1]
      exact SAll.of w q1 q2 q3 q4 q5 q6 q7 q10
    · refine (sopen_bad2 g P D D' ev (ldS D).2 _ _ _ n x w h HL (by omega) (fun f hf => by have := hs f hf; omega) hE rfl he12 hall hd hok2 ⟨o2, o3⟩ (by omega) _ rfl hzz).mono ?_
      rintro e w' ⟨P', rfl, q2, q3⟩
      exact ⟨P', D', q2, q3, e2, hDF, fun _ => ⟨n, x, hall, hd⟩, fun _ => by rw [e1], fun h0 => absurd (by rw [← e1]; exact h0) hzz⟩
  · have e1 : opS D = ((ldS D).1, ⟨0, []⟩) := by unfold opS; rw [if_neg hz]
    refine (sopen_bad1 g ev (ldS D).1 hz w (Lib.hid (hLD.mono (by rintro e w' ⟨-, h2, hb⟩; exact ⟨h2 hz, hb⟩)))).mono ?_
    rintro e w' ⟨rfl, hb⟩
    exact ⟨P, D, h.below hb, ⟨Touch.of_below P hb, fun i hi => Or.inl hi⟩, rfl, ⟨hl, ha, by omega, hs⟩, fun h0 => absurd h0 hz, fun _ => by rw [e1], fun h0 => by rw [e1] at h0; exact absurd h0 hz⟩
end Go.Proofs.YtbbefakmpmniiaaGreatDoor
