/- Package store: Open, whatever the disk has. -/
import Derived.Test.YtbbefakmpmniiaaGreatDoorSt12
import Derived.Test.YtbbefakmpmniiaaGreatDoorSWl
namespace Go.Proofs.YtbbefakmpmniiaaGreatDoor
open Go.RowKit Go.Maps
theorem dgetE_ins {β : Type} (k k' : List UInt8) (u : β) : ∀ L : List (List UInt8 × β), (∀ p ∈ L, p.1 ≠ k) → getE (insE (k, u) L) k' = if k' = k then some u else getE L k'
  | [], _ => by
    unfold insE getE
    by_cases e : k' = k
    · subst e; simp
    · rw [if_neg e]; simp [Ne.symm e]
  | a :: L, hno => by
    have ih := dgetE_ins k k' u L (fun p hp => hno p (List.mem_cons_of_mem _ hp))
    have hak : a.1 ≠ k := hno a List.mem_cons_self
    rw [insE]
    split
    · unfold getE
      rw [List.find?_cons]
      by_cases e : k' = k
      · subst e; simp
      · rw [if_neg e, show ((k, u).1 == k') = false from by simpa using Ne.symm e]
    · unfold getE at ih ⊢
      rw [List.find?_cons, List.find?_cons]
      by_cases e2 : a.1 = k'
      · rw [show (a.1 == k') = true from by simpa using e2, if_neg (by rw [← e2]; exact hak)]
      · rw [show (a.1 == k') = false from by simpa using e2]
        exact ih
theorem dgetE_del {β : Type} (k k' : List UInt8) : ∀ L : List (List UInt8 × β), getE (delE k L) k' = if k' = k then none else getE L k'
  | [] => by unfold delE getE; simp
  | a :: L => by
    have ih := dgetE_del k k' L
    unfold delE getE at ih ⊢
    by_cases ha : a.1 = k
    · rw [List.filter_cons_of_neg (by simp [ha])]
      rw [ih]
      by_cases e : k' = k
      · rw [if_pos e, if_pos e]
      · rw [if_neg e, if_neg e, List.find?_cons, show (a.1 == k') = false from by simpa [ha] using Ne.symm e]
    · rw [List.filter_cons_of_pos (by simp [ha]), List.find?_cons, List.find?_cons]
      by_cases e2 : a.1 = k'
      · rw [show (a.1 == k') = true from by simpa using e2, if_neg (by rw [← e2]; exact ha)]
      · rw [show (a.1 == k') = false from by simpa using e2]
        exact ih
theorem dgetE_put {β : Type} (k k' : List UInt8) (u : β) (L : List (List UInt8 × β)) : getE (putE k u L) k' = if k' = k then some u else getE L k' := by
  unfold putE
  rw [dgetE_ins k k' u (delE k L) (fun p hp => by have := (List.mem_filter.1 hp).2; simpa using this), dgetE_del]
  split <;> rfl
theorem mem_put {β : Type} {k : List UInt8} {v : β} {L : List (List UInt8 × β)} {f : List UInt8 × β} (h : f ∈ putE k v L) : f = (k, v) ∨ f ∈ L := by
  unfold putE at h
  rcases List.mem_cons.1 ((insE_perm _ _).mem_iff.1 h) with h | h
  · exact Or.inl h
  · exact Or.inr (List.mem_filter.1 h).1
/-- All files are short. -/
def FsSmall (N : Nat) (fs : List FEnt) : Prop := ∀ f ∈ fs, f.2.1.length ≤ N
theorem FsSmall.get {N : Nat} {fs : List FEnt} (h : FsSmall N fs) (k : List UInt8) : ((getE fs k).getD ([], 0)).1.length ≤ N := by
  cases hg : getE fs k with
  | none => exact Nat.zero_le _
  | some u => exact h _ (getE_mem hg)
theorem FsSmall.put {N : Nat} {fs : List FEnt} (h : FsSmall N fs) (k : List UInt8) {u : List Int × Nat} (hu : u.1.length ≤ N) : FsSmall N (putE k u fs) := fun f hf => by
  rcases mem_put hf with rfl | hf
  · exact hu
  · exact h f hf
/-- A disk that is there, and has no arm: its log is settled without a word, and then is what it was read as. -/
theorem settle_free {D : DSt} (hl : D.lost = false) (ha : D.armed = false) {k : List UInt8} {ls : List (List Int)} {n x : Nat} (hall : AllIs ls (readD D k).1 n x) :
    ∃ D', settleD D k (readD D k).1.length n = (0, D') ∧ readD D' k = ((readD D k).1.take n, (readD D k).2) ∧ (∀ k', k' ≠ k → readD D' k' = readD D k') ∧ D'.lost = false ∧ D'.armed = false ∧ D'.fs.length ≤ D.fs.length + 1 ∧ ∀ N, FsSmall N D.fs → FsSmall N D'.fs := by
  have hl1 : lost1 D.lost D.armed D.left = false := by rw [hl, ha]; rfl
  have hn := (Steps.room _ _ _ hall.1).2
  unfold readD at hall hn ⊢
  unfold settleD cutD syncD
  cases hg : getE D.fs k with
  | none =>
    rw [hg] at hn
    have hn0 : n = 0 := Nat.le_zero.1 hn
    subst hn0
    refine ⟨D, ?_, ?_, fun k' _ => rfl, hl, ha, Nat.le_succ _, fun N h => h⟩
    · simp
    · rw [hg]; rfl
  | some u =>
    have hn2 : n ≤ u.1.length := by rw [hg] at hn; simpa [hl] using hn
    clear hn hall
    simp only [hl, Bool.false_eq_true, if_false]
    by_cases hlt : n < u.1.length
    · rw [if_pos hlt, if_neg (by omega), show lost1 false D.armed D.left = false by have h := hl1; rwa [hl] at h]
      simp only [Bool.false_eq_true, if_false]
      refine ⟨_, rfl, ?_, fun k' hk => ?_, rfl, ha, putE_length _ _ _, fun N h => h.put k ?_⟩
      · simp only [dgetE_put, if_true, Int.toNat_natCast, Bool.false_eq_true, if_false]
      · simp only [dgetE_put, if_neg hk, Bool.false_eq_true, if_false]
      · simp only [List.length_take, Int.toNat_natCast]
        have := h _ (getE_mem hg)
        have : u.1.length ≤ N := this
        omega
    · obtain rfl : n = u.1.length := by omega
      rw [if_neg hlt]
      simp only [Option.getD_some]
      by_cases hs : u.2 < u.1.length
      · rw [if_pos hs, show lost1 false D.armed D.left = false by have h := hl1; rwa [hl] at h]
        simp only [Bool.false_eq_true, if_false]
        refine ⟨_, rfl, ?_, fun k' hk => ?_, rfl, ha, putE_length _ _ _, fun N h => h.put k (h _ (getE_mem hg))⟩
        · simp only [dgetE_put, if_true, Bool.false_eq_true, if_false, List.take_length]
        · simp only [dgetE_put, if_neg hk, Bool.false_eq_true, if_false]
      · rw [if_neg hs]
        refine ⟨D, rfl, ?_, fun k' _ => by rw [hl]; simp, hl, ha, Nat.le_succ _, fun N h => h⟩
        rw [hg, hl]
        simp
theorem ldS_same {D D' : DSt} (h : readD D' nSnap.data.toList = readD D nSnap.data.toList) : ldS D' = ldS D := by
  unfold ldS loadD
  rw [h]
set_option maxRecDepth 100000 in
theorem sopen_bad1 (g : Nat) (ev c : Int) (hc : c ≠ 0) (w : World) (HL : Hid (Calls Tryz.prog 33 #[ptr g] w fun e w' => e = .returned (.tuple #[.pointer none, .int .i64 c]) ∧ Below w.heap.size w w')) :
    Calls Tryz.prog 10 #[ptr g, .int .i64 ev] w fun e w' => e = .returned (.tuple #[.pointer none, .int .i64 c]) ∧ Below w.heap.size w w' := by
  have d3 : (c == 0) = false := by simpa using hc
  have d4 : (c != 0) = true := by simpa using hc
  clear hc
  go_enter Tryz.func10, Tryz.ntmps10
  go_wp2_with fail
  refine HL.out.mono ?_; rintro e w1 ⟨rfl, hb1⟩
  go_wp2_with fail
  go_ret2
  exact ⟨rfl, hb1⟩
set_option maxRecDepth 100000 in
set_option maxHeartbeats 4000000 in
theorem sopen_bad2 (g : Nat) (P : Nat → Prop) (D D' : DSt) (ev : Int) (S0 : KV.KSt) (xs : List Int) (er : Int) (ls : List (List Int)) (n x : Nat) (w : World) (h : DiskAt w g P D)
    (HL : Hid (Calls Tryz.prog 33 #[ptr g] w fun e w' => ∃ k Pk, e = .returned (.tuple #[ptr k, .int .i64 0]) ∧ KV.KvAt w' k Pk S0 ∧ (∀ i, Pk i → w.heap.size ≤ i) ∧ Below w.heap.size w w'))
    (hn : D.fs.length ≤ 1000) (hall : ∀ f ∈ D.fs, f.2.1.length ≤ 100000) (hE : Env w)
    (hr : readD D nLog.data.toList = (xs, er)) (he : er ≠ 12) (ha : AllIs ls xs n x) (hd : settleD D nLog.data.toList xs.length n = (0, D'))
    (hok : ∀ p ∈ ls, okB p ∧ p.length ≤ 100000000000000) (hrv : 0 ≤ S0.rev ∧ S0.rev ≤ 9223372036854775807) (hnl : S0.L.length + ls.length ≤ 1000000) (c : Int) (hz : (replayS S0 ls).1 = c) (hc : c ≠ 0) :
    Calls Tryz.prog 10 #[ptr g, .int .i64 ev] w fun e w' => ∃ P', e = .returned (.tuple #[.pointer none, .int .i64 c]) ∧ DiskAt w' g P' D' ∧ Step P P' w w' := by
  have HO := Lib.hid (fun (w1 : World) (hb : Below w.heap.size w w1) => open_ok g P D D' nLog xs er ls n x w1 (h.below hb) (by decide) (by decide) hn hall (hE.below hb) hr he ha hd)
  have HRP := Lib.hid (fun (k B : Nat) (Pk : Nat → Prop) (v : Value) (w1 : World) (hk : KV.KvAt w1 k Pk S0) (hrow : RowN w1 B v ls) (hP : ∀ i, Pk i → i < B) (hB : B ≤ w1.heap.size) => sreplay_any k B Pk S0 v ls w1 hk hrow hP hB hok hrv hnl)
  rw [hz] at HRP
  have H := Lib.hid h
  have d3 : (c == 0) = false := by simpa using hc
  have d4 : (c != 0) = true := by simpa using hc
  clear h hn hall hE hr he ha hd hok hrv hnl hz hc
  go_enter Tryz.func10, Tryz.ntmps10
  go_wp2_with fail
  refine HL.out.mono ?_; rintro e w1 ⟨k, Pk, rfl, hk, hpk, hb1⟩
  have HK := Lib.hid (And.intro hk (And.intro hpk hb1))
  clear hk hpk hb1 HL
  go_wp2_with fail
  refine (HO.out w1 HK.out.2.2).mono ?_; rintro e w2 ⟨P2, l, v, rfl, hd2, hl2, hrow, hPl, hwl, hS2⟩
  have hk2 : KV.KvAt w2 k Pk S0 := HK.out.1.keep hS2.1 (fun i hi hp => by
    have h1 := HK.out.2.1 i hi
    have h2 := DiskAt.lt H.out hp
    omega)
  have hr2 := hrow w2 (Touch.refl _ w2)
  have HW2 := Lib.hid (And.intro hd2 (And.intro hl2 (And.intro hPl (And.intro hwl (And.intro hS2 (And.intro hk2 hr2))))))
  clear hd2 hl2 hrow hPl hwl hS2 hk2 hr2
  go_wp2_with fail
  refine (HRP.out k w1.heap.size Pk v w2 HW2.out.2.2.2.2.2.1 HW2.out.2.2.2.2.2.2 (fun i hi => KV.KvAt.own HK.out.1 i hi) HW2.out.2.2.2.2.1.1.2.2.2.1).mono ?_; rintro e w3 ⟨P3, rfl, -, hp3, ht3⟩
  have HW3 := Lib.hid (And.intro hp3 ht3)
  clear hp3 ht3
  go_wp2_with fail
  go_ret2
  have hk1 := fun i hi => KV.KvAt.own HK.out.1 i hi
  have z1 := HK.out.2.2.size
  have z2 := HW2.out.2.2.2.2.1.1.2.2.2.1
  have hq2 : ∀ i, P2 i → ¬ Pk i := fun i hp hi => by
    have h1 := HK.out.2.1 i hi
    have h2 := hk1 i hi
    rcases HW2.out.2.2.2.2.1.2 i hp with h | h
    · have h2 := DiskAt.lt H.out h; omega
    · omega
  have hd3 := HW2.out.1.keep (touchK HW3.out.2) hq2
  have ht : Touch P w w3 := ((Touch.of_below P HK.out.2.2).trans HW2.out.2.2.2.2.1.1 (fun _ _ h => h)).trans (touchK HW3.out.2) (fun i hi h => absurd (HK.out.2.1 i h) (by omega))
  exact ⟨P2, rfl, hd3, ht, fun i hi => (HW2.out.2.2.2.2.1.2 i hi).imp id (fun h => by omega)⟩
end Go.Proofs.YtbbefakmpmniiaaGreatDoor
