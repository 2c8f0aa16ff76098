/- Package store: the three files of its disk; what saving, appending, clearing and a crash make of them. -/
import Derived.Test.YtbbefakmpmniiaaGreatDoorSt14
namespace Go.Proofs.YtbbefakmpmniiaaGreatDoor
open Go.RowKit Go.Maps
abbrev FO := Option (List Int × Nat)
def kL : List UInt8 := [108, 111, 103]
def kN : List UInt8 := [115, 110, 97, 112]
def kP : List UInt8 := [115, 110, 97, 112, 126]
theorem kL_eq : nLog.data.toList = kL := rfl
theorem kN_eq : nSnap.data.toList = kN := rfl
theorem kP_eq : (tilde nSnap).data.toList = kP := by kernel_rfl
def optF (k : List UInt8) : FO → List FEnt
  | none => []
  | some u => [(k, u)]
/-- The log, the saved state, and what is not yet saved. -/
def fs3 (a b c : FO) : List FEnt := optF kL a ++ (optF kN b ++ optF kP c)
theorem f3_L (a b c : FO) : getE (fs3 a b c) kL = a := by cases a <;> cases b <;> cases c <;> rfl
theorem f3_N (a b c : FO) : getE (fs3 a b c) kN = b := by cases a <;> cases b <;> cases c <;> rfl
theorem f3_P (a b c : FO) : getE (fs3 a b c) kP = c := by cases a <;> cases b <;> cases c <;> rfl
theorem f3_putL (a b c : FO) (v : List Int × Nat) : putE kL v (fs3 a b c) = fs3 (some v) b c := by cases a <;> cases b <;> cases c <;> rfl
theorem f3_putP (a b c : FO) (v : List Int × Nat) : putE kP v (fs3 a b c) = fs3 a b (some v) := by cases a <;> cases b <;> cases c <;> rfl
theorem f3_delP (a b c : FO) : delE kP (fs3 a b c) = fs3 a b none := by cases a <;> cases b <;> cases c <;> rfl
theorem f3_mv (a b : FO) (v v' : List Int × Nat) : putE kN v (delE kP (fs3 a b (some v'))) = fs3 a (some v) none := by cases a <;> cases b <;> rfl
theorem f3_len (a b c : FO) : (fs3 a b c).length ≤ 3 := by cases a <;> cases b <;> cases c <;> simp [fs3, optF]
theorem f3_mem {a b c : FO} {f : FEnt} (h : f ∈ fs3 a b c) : f.1.length ≤ 5 ∧ (a = some f.2 ∨ b = some f.2 ∨ c = some f.2) := by
  unfold fs3 at h
  rcases List.mem_append.1 h with h | h
  · cases a with
    | none => cases h
    | some u => obtain rfl := List.mem_singleton.1 h; exact ⟨by show kL.length ≤ 5; decide, Or.inl rfl⟩
  · rcases List.mem_append.1 h with h | h
    · cases b with
      | none => cases h
      | some u => obtain rfl := List.mem_singleton.1 h; exact ⟨by show kN.length ≤ 5; decide, Or.inr (Or.inl rfl)⟩
    · cases c with
      | none => cases h
      | some u => obtain rfl := List.mem_singleton.1 h; exact ⟨by show kP.length ≤ 5; decide, Or.inr (Or.inr rfl)⟩
/-- What a crash makes of them. -/
theorem f3_crash (a b c : FO) (ks : List Int) : ∃ i j m : Nat, crashF ks 0 (fs3 a b c) = fs3 (a.map (crashU ks i)) (b.map (crashU ks j)) (c.map (crashU ks m)) := by
  cases a <;> cases b <;> cases c
  · exact ⟨0, 0, 0, rfl⟩
  · exact ⟨0, 0, 0, rfl⟩
  · exact ⟨0, 0, 0, rfl⟩
  · exact ⟨0, 0, 1, rfl⟩
  · exact ⟨0, 0, 0, rfl⟩
  · exact ⟨0, 0, 1, rfl⟩
  · exact ⟨0, 1, 0, rfl⟩
  · exact ⟨0, 1, 2, rfl⟩
theorem crashU_full (ks : List Int) (i : Nat) (xs : List Int) : crashU ks i (xs, xs.length) = (xs, xs.length) := by
  have h := crashN_le ks i (u := (xs, xs.length)) (Nat.le_refl _)
  have e : crashN ks i (xs, xs.length) = xs.length := by simp only [] at h; omega
  unfold crashU
  rw [e]
  simp only [List.take_length]
/-- Bytes that may stand beside: what is sure of them is some of them, and they are not too many. -/
def SpareOk (c : FO) : Prop := ∀ u, c = some u → u.2 ≤ u.1.length ∧ u.1.length ≤ 80000
theorem SpareOk.none : SpareOk none := fun u h => by cases h
theorem SpareOk.crash {c : FO} (h : SpareOk c) (ks : List Int) (m : Nat) : SpareOk (c.map (crashU ks m)) := fun u hu => by
  cases c with
  | none => cases hu
  | some v =>
    obtain ⟨h1, h2⟩ := h v rfl
    have hn := crashN_le ks m (u := v) h1
    obtain rfl := Option.some.inj hu
    unfold crashU
    simp only [List.length_take]
    omega
theorem seal_len3 (X : List Int) : (sealL X).length = X.length + 4 := by unfold sealL; rw [List.length_append]; rfl
theorem three_rm {a b c : FO} {D : DSt} (hf : D.fs = fs3 a b c) (hl : D.lost = false) :
    (∃ D1, rmD D kP = (0, D1) ∧ D1.fs = fs3 a b none ∧ D1.lost = false ∧ D1.armed = D.armed) ∨ ∃ D1, rmD D kP = (12, D1) ∧ D1.fs = fs3 a b c ∧ D.armed = true := by
  unfold rmD removeD
  rw [hf, f3_P]
  cases c with
  | none => exact Or.inl ⟨D, rfl, hf, hl, rfl⟩
  | some u =>
    simp only []
    by_cases h1 : lost1 D.lost D.armed D.left = true
    · rw [if_pos h1]
      refine Or.inr ⟨_, rfl, rfl, ?_⟩
      unfold lost1 at h1
      rw [hl] at h1
      simp only [Bool.false_or, Bool.and_eq_true] at h1
      exact h1.1
    · rw [if_neg h1]
      exact Or.inl ⟨_, rfl, f3_delP a b (some u), rfl, rfl⟩
theorem lost_armed {l ar : Bool} {n : Int} (h : lost1 l ar n = true) (hl : l = false) : ar = true := by
  unfold lost1 at h
  rw [hl] at h
  simp only [Bool.false_or, Bool.and_eq_true] at h
  exact h.1
theorem three_app {a b : FO} {D : DSt} (hf : D.fs = fs3 a b none) (hl : D.lost = false) (t : List Int) :
    (∃ D1, appD D kP t = (0, D1) ∧ D1.fs = fs3 a b (some (t, 0)) ∧ D1.lost = false ∧ D1.armed = D.armed) ∨ ∃ D1, appD D kP t = (12, D1) ∧ D1.fs = fs3 a b (some (t, 0)) ∧ D.armed = true := by
  unfold appD
  rw [if_neg (by rw [hl]; simp), hf, f3_P]
  simp only [Option.getD_none, List.nil_append]
  rw [f3_putP]
  by_cases h1 : lost1 D.lost D.armed D.left = true
  · right
    exact ⟨_, by unfold errW; rw [if_pos h1], rfl, lost_armed h1 hl⟩
  · left
    refine ⟨⟨fs3 a b (some (t, 0)), lost1 D.lost D.armed D.left, D.armed, left1 D.lost D.armed D.left⟩, by unfold errW; rw [if_neg h1], rfl, ?_, rfl⟩
    simpa using h1
theorem three_sync {a b : FO} {t : List Int} {D : DSt} {u : Nat} (hf : D.fs = fs3 a b (some (t, u))) (hl : D.lost = false) :
    (∃ D1, syncD D kP = (0, D1) ∧ D1.fs = fs3 a b (some (t, t.length)) ∧ D1.lost = false ∧ D1.armed = D.armed) ∨ ∃ D1, syncD D kP = (12, D1) ∧ D1.fs = fs3 a b (some (t, u)) ∧ D.armed = true := by
  unfold syncD
  rw [hf, f3_P]
  simp only []
  by_cases h1 : lost1 D.lost D.armed D.left = true
  · rw [if_pos h1]
    exact Or.inr ⟨_, rfl, rfl, lost_armed h1 hl⟩
  · rw [if_neg h1]
    exact Or.inl ⟨_, rfl, f3_putP a b _ _, rfl, rfl⟩
theorem three_mv {a b : FO} {t : List Int} {D : DSt} {u : Nat} (hf : D.fs = fs3 a b (some (t, u))) (hl : D.lost = false) :
    (∃ D1, renameD D kP kN = (0, D1) ∧ D1.fs = fs3 a (some (t, u)) none ∧ D1.lost = false ∧ D1.armed = D.armed) ∨ ∃ D1, renameD D kP kN = (12, D1) ∧ D1.fs = fs3 a b (some (t, u)) ∧ D.armed = true := by
  unfold renameD
  rw [hf, f3_P]
  simp only []
  rw [if_neg (by decide)]
  by_cases h1 : lost1 D.lost D.armed D.left = true
  · rw [if_pos h1]
    exact Or.inr ⟨_, rfl, rfl, lost_armed h1 hl⟩
  · rw [if_neg h1]
    exact Or.inl ⟨_, rfl, f3_mv a b (t, u) (t, u), rfl, rfl⟩
/-- Saving: it is done, or the disk is lost at it, and what was saved is what it was. -/
theorem three_save {a b c : FO} {x : List Int} {D : DSt} (hf : D.fs = fs3 a b c) (hl : D.lost = false) (hs : SpareOk c) (hx : x.length ≤ 79000) :
    (∃ D', saveD D nSnap x = (0, D') ∧ D'.fs = fs3 a (some (sealL x, (sealL x).length)) none ∧ D'.lost = false ∧ D'.armed = D.armed) ∨
    ∃ D' c', saveD D nSnap x = (12, D') ∧ D'.fs = fs3 a b c' ∧ SpareOk c' ∧ D.armed = true := by
  have hsl := seal_len3 x
  have small : ∀ k, k ≤ (sealL x).length → SpareOk (some (sealL x, k)) := fun k hk u hu => by
    obtain rfl := Option.some.inj hu
    exact ⟨hk, by simp only []; omega⟩
  unfold saveD stepsD
  rw [kN_eq, kP_eq]
  rcases three_rm hf hl with ⟨D1, e1, f1, l1, a1⟩ | ⟨D1, e1, f1, a1⟩
  · rw [e1]
    simp only [if_true]
    rcases three_app f1 l1 (sealL x) with ⟨D2, e2, f2, l2, a2⟩ | ⟨D2, e2, f2, a2⟩
    · rw [e2]
      simp only [if_true]
      rcases three_sync f2 l2 with ⟨D3, e3, f3, l3, a3⟩ | ⟨D3, e3, f3, a3⟩
      · rw [e3]
        simp only [if_true]
        rcases three_mv f3 l3 with ⟨D4, e4, f4, l4, a4⟩ | ⟨D4, e4, f4, a4⟩
        · exact Or.inl ⟨D4, e4, f4, l4, a4.trans (a3.trans (a2.trans a1))⟩
        · exact Or.inr ⟨D4, _, e4, f4, small _ (Nat.le_refl _), a1.symm.trans (a2.symm.trans (a3.symm.trans a4))⟩
      · rw [e3]
        exact Or.inr ⟨D3, _, rfl, f3, small _ (Nat.zero_le _), a1.symm.trans (a2.symm.trans a3)⟩
    · rw [e2]
      exact Or.inr ⟨D2, _, rfl, f2, small _ (Nat.zero_le _), a1.symm.trans a2⟩
  · rw [e1]
    exact Or.inr ⟨D1, c, rfl, f1, hs, a1⟩
/-- Clearing the log. -/
theorem three_clear {a b c : FO} {D : DSt} {n : Nat} (hf : D.fs = fs3 a b c) (hl : D.lost = false) :
    (∃ D', walC ⟨D, n, false⟩ nLog.data.toList = (0, ⟨D', 0, false⟩) ∧ (∃ a', D'.fs = fs3 a' b c ∧ (a' = none ∨ a' = some ([], 0))) ∧ D'.lost = false ∧ D'.armed = D.armed) ∨
    ∃ D', walC ⟨D, n, false⟩ nLog.data.toList = (12, ⟨D', 0, true⟩) ∧ D'.fs = fs3 a b c ∧ D.armed = true := by
  cases a with
  | none =>
    have hc : cutD D kL 0 = (6, D) := by unfold cutD; rw [hf, f3_L]
    left
    refine ⟨D, ?_, ⟨none, hf, Or.inl rfl⟩, hl, rfl⟩
    unfold walC
    rw [kL_eq]
    simp only []
    rw [if_neg (by simp), hc, if_pos (Or.inr rfl)]
  | some u =>
    have hc : cutD D kL 0 = if lost1 D.lost D.armed D.left = true then (12, { D with lost := true, left := left1 D.lost D.armed D.left }) else (0, ⟨fs3 (some ([], 0)) b c, false, D.armed, left1 D.lost D.armed D.left⟩) := by
      unfold cutD
      rw [hf, f3_L]
      simp only []
      rw [if_neg (by omega), f3_putL]
      rfl
    by_cases h1 : lost1 D.lost D.armed D.left = true
    · rw [if_pos h1] at hc
      right
      refine ⟨{ D with lost := true, left := left1 D.lost D.armed D.left }, ?_, hf, lost_armed h1 hl⟩
      unfold walC
      rw [kL_eq]
      simp only []
      rw [if_neg (by simp), hc, if_neg (by simp)]
    · rw [if_neg h1] at hc
      left
      refine ⟨⟨fs3 (some ([], 0)) b c, false, D.armed, left1 D.lost D.armed D.left⟩, ?_, ⟨some ([], 0), rfl, Or.inr rfl⟩, rfl, rfl⟩
      unfold walC
      rw [kL_eq]
      simp only []
      rw [if_neg (by simp), hc, if_pos (Or.inl rfl)]
/-- Frames of records that are not empty, nor too long. -/
def goodF (ps : List (List Int)) : Prop := ∀ p ∈ ps, okB p ∧ 1 ≤ p.length ∧ p.length ≤ 400
theorem goodF_snoc {ps : List (List Int)} {p : List Int} (h : goodF ps) (hp : okB p ∧ 1 ≤ p.length ∧ p.length ≤ 400) : goodF (ps ++ [p]) := fun q hq => by
  rcases List.mem_append.1 hq with hq | hq
  · exact h q hq
  · rw [List.mem_singleton.1 hq]; exact hp
theorem goodF_len : ∀ (ps : List (List Int)), goodF ps → (flatF ps).length ≤ 408 * ps.length
  | [], _ => Nat.zero_le _
  | p :: ps, h => by
    have ih := goodF_len ps (fun q hq => h q (List.mem_cons_of_mem _ hq))
    have h1 := (h p List.mem_cons_self).2.2
    have e : (flatF (p :: ps)).length = (frameL p).length + (flatF ps).length := by unfold flatF; rw [List.flatMap_cons, List.length_append]
    rw [e, frameL_len, List.length_cons]
    omega
theorem goodF_steps : ∀ (ps : List (List Int)) (t : List Int), goodF ps → Steps ps (flatF ps ++ t) (flatF ps).length
  | [], _, _ => rfl
  | p :: ps, t, h => by
    obtain ⟨h1, h2, h3⟩ := h p List.mem_cons_self
    have e : flatF (p :: ps) = frameL p ++ flatF ps := by unfold flatF; rw [List.flatMap_cons]
    obtain ⟨n1, n2, n3⟩ := next_frame (t := flatF ps ++ t) h1 h2 (by omega)
    rw [e, List.append_assoc]
    refine ⟨n1, n2, (flatF ps).length, ?_, ?_⟩
    · rw [n3, ← frameL_len p, List.drop_left]
      exact goodF_steps ps t (fun q hq => h q (List.mem_cons_of_mem _ hq))
    · rw [n3, List.length_append, frameL_len]
theorem goodF_all (ps : List (List Int)) (h : goodF ps) : AllIs ps (flatF ps) (flatF ps).length 6 := by
  have := goodF_steps ps [] h
  rw [List.append_nil] at this
  refine ⟨this, ?_, by decide⟩
  rw [List.drop_length]
  rfl
/-- The records of frames, of which the last one may be cut off. -/
theorem goodF_torn {ps : List (List Int)} {p : List Int} (hg : goodF (ps ++ [p])) {c : Nat} (h1 : (flatF ps).length ≤ c) (h2 : c ≤ (flatF (ps ++ [p])).length) :
    (c = (flatF (ps ++ [p])).length) ∨ (c < (flatF (ps ++ [p])).length ∧ ∃ x, AllIs ps ((flatF (ps ++ [p])).take c) (flatF ps).length x) := by
  have hF : flatF (ps ++ [p]) = flatF ps ++ frameL p := flatF_snoc ps p
  have hgp := hg p (by simp)
  have hg0 : goodF ps := fun q hq => hg q (by simp [hq])
  by_cases hc : c = (flatF (ps ++ [p])).length
  · exact Or.inl hc
  · have hlen : (flatF (ps ++ [p])).length = (flatF ps).length + (frameL p).length := by rw [hF, List.length_append]
    have et : (flatF (ps ++ [p])).take c = flatF ps ++ (frameL p ++ []).take (c - (flatF ps).length) := by
      rw [hF, List.append_nil, List.take_append, List.take_of_length_le h1]
    refine Or.inr ⟨by omega, ?_⟩
    rw [et]
    refine ⟨if c - (flatF ps).length = 0 then 6 else 4, goodF_steps ps _ hg0, ?_, by split <;> decide⟩
    rw [List.drop_left]
    exact next_torn hgp.2.1 (by omega) (by omega)
/-- One record more: it is there and sure, or the disk is lost at it. -/
theorem three_append {ps : List (List Int)} {a b c : FO} {D : DSt} {p : List Int} (hf : D.fs = fs3 a b c) (hl : D.lost = false) (ha : (a = none ∧ ps = []) ∨ a = some (flatF ps, (flatF ps).length)) (hp : p ≠ []) :
    (∃ D', walA ⟨D, (flatF ps).length, false⟩ nLog.data.toList p = (0, ⟨D', (flatF (ps ++ [p])).length, false⟩) ∧ D'.fs = fs3 (some (flatF (ps ++ [p]), (flatF (ps ++ [p])).length)) b c ∧ D'.lost = false ∧ D'.armed = D.armed) ∨
    ∃ D', walA ⟨D, (flatF ps).length, false⟩ nLog.data.toList p = (12, ⟨D', 0, true⟩) ∧ D'.fs = fs3 (some (flatF (ps ++ [p]), (flatF ps).length)) b c ∧ D.armed = true := by
  have hF : flatF (ps ++ [p]) = flatF ps ++ frameL p := flatF_snoc ps p
  have hFl : (flatF (ps ++ [p])).length = (flatF ps).length + (8 + p.length) := by rw [hF, List.length_append, frameL_len]
  have hga : (a.getD ([], 0)) = (flatF ps, (flatF ps).length) := by
    rcases ha with ⟨rfl, rfl⟩ | rfl
    · rfl
    · rfl
  have happ : appD D kL (frameL p) = (errW D.lost D.armed D.left, ⟨fs3 (some (flatF ps ++ frameL p, (flatF ps).length)) b c, lost1 D.lost D.armed D.left, D.armed, left1 D.lost D.armed D.left⟩) := by
    unfold appD
    rw [if_neg (by rw [hl]; simp), hf, f3_L, hga, f3_putL]
  obtain ⟨l1, hl1⟩ : ∃ l1, l1 = lost1 D.lost D.armed D.left := ⟨_, rfl⟩
  have hE : errW D.lost D.armed D.left = if l1 then 12 else 0 := by unfold errW; rw [hl1]
  rw [← hl1, hE] at happ
  unfold walA
  rw [if_neg (by simp), if_neg hp, kL_eq]
  unfold writeL
  simp only []
  rw [happ]
  cases l1 with
  | true =>
    right
    refine ⟨⟨fs3 (some (flatF ps ++ frameL p, (flatF ps).length)) b c, true, D.armed, left1 D.lost D.armed D.left⟩, ?_, by rw [hF], lost_armed hl1.symm hl⟩
    simp only [if_true, show ((12 : Int) = 0) = False from by simp, if_false]
  | false =>
    simp only [Bool.false_eq_true, if_false, if_true]
    unfold syncD
    simp only []
    rw [f3_L]
    simp only []
    by_cases h2 : lost1 false D.armed (left1 D.lost D.armed D.left) = true
    · right
      refine ⟨⟨fs3 (some (flatF ps ++ frameL p, (flatF ps).length)) b c, true, D.armed, left1 false D.armed (left1 D.lost D.armed D.left)⟩, ?_, by rw [hF], lost_armed h2 rfl⟩
      rw [if_pos h2]
      simp only []
      rw [if_neg (by decide)]
    · left
      refine ⟨⟨fs3 (some (flatF (ps ++ [p]), (flatF (ps ++ [p])).length)) b c, false, D.armed, left1 false D.armed (left1 D.lost D.armed D.left)⟩, ?_, rfl, rfl, rfl⟩
      have hl2 : (flatF ps ++ frameL p).length = (flatF ps).length + (8 + p.length) := by rw [← hF]; exact hFl
      rw [if_neg h2]
      simp only [if_true]
      rw [hF, hl2, f3_putL]
end Go.Proofs.YtbbefakmpmniiaaGreatDoor
