/- Package store: load, whatever the disk has. -/
import Derived.Test.YtbbefakmpmniiaaGreatDoorSt5
import Derived.Test.YtbbefakmpmniiaaGreatDoorSRs
namespace Go.Proofs.YtbbefakmpmniiaaGreatDoor
open Go.RowKit Go.Maps
/-- How many items are told ahead of them. -/
def lstN (xs : List Int) : Nat := (rdU (rdU (some xs) 8).2 4).1.toNat
/-- Which state bytes are, if any. -/
def lst (xs : List Int) : Option KV.KSt :=
  if (doneB (KV.rdN (lstN xs) (rdU (rdU (some xs) 8).2 4).2).2 && KV.ofB (KV.rdRev (some xs)) (KV.rdN (lstN xs) (rdU (rdU (some xs) 8).2 4).2).1) = true then
    some ⟨KV.rdRev (some xs), (KV.rdN (lstN xs) (rdU (rdU (some xs) 8).2 4).2).1⟩ else none
theorem rdV_none : (KV.rdV none).2 = none := rfl
theorem rdN_none (st : Option (List Int)) (k : Nat) (h : (KV.rdN k st).2 = none) : ∀ j, (KV.rdN (k + j) st).2 = none
  | 0 => h
  | j + 1 => by
    show (KV.rdV (KV.rdN (k + j) st).2).2 = none
    rw [rdN_none st k h j]
    exact rdV_none
theorem lst_ok {xs : List Int} {S : KV.KSt} (h : lst xs = some S) : KV.ofB S.rev S.L = true ∧ 0 ≤ S.rev ∧ S.rev ≤ 9223372036854775807 := by
  unfold lst at h
  split at h
  · rename_i hc
    obtain rfl := Option.some.inj h
    rw [Bool.and_eq_true] at hc
    have ho := hc.2
    refine ⟨ho, ?_, KV.rdRev_le _⟩
    unfold KV.ofB at ho
    rw [Bool.and_eq_true, decide_eq_true_eq] at ho
    exact ho.1
  · cases h
/-- A state has no more items than its bytes are. -/
theorem lst_len {xs : List Int} {S : KV.KSt} (h : lst xs = some S) : S.L.length ≤ xs.length + 1 := by
  unfold lst at h
  split at h
  · rename_i hc
    obtain rfl := Option.some.inj h
    rw [Bool.and_eq_true] at hc
    have hd := KV.done_nilL hc.1
    have h1 := KV.rdN_left (rdU (rdU (some xs) 8).2 4).2 (lstN xs) (fun j hj hN => by
      have h2 := rdN_none _ j hN (lstN xs - j)
      rw [show j + (lstN xs - j) = lstN xs by omega, hd] at h2
      cases h2)
    have h3 := Nat.le_trans (KV.rdU_left (st := (rdU (some xs) 8).2) 4) (KV.rdU_left (st := some xs) 8)
    have h4 : KV.left (some xs) = xs.length + 1 := rfl
    rw [KV.rdN_len]
    omega
  · cases h
set_option maxRecDepth 100000 in
theorem readState_lst (b : Value) (xs : List Int) (w : World) (h : Sees w b xs) (hok : okB xs) (hl : xs.length ≤ 90000) :
    Calls Tryz.prog 59 #[b] w fun x w' => (∀ S, lst xs = some S → ∃ g P, x = .returned (.tuple #[ptr g, .int .i64 0]) ∧ KV.KvAt w' g P S ∧ (∀ i, P i → w.heap.size ≤ i) ∧ S.L.length ≤ 100000) ∧
      (lst xs = none → x = .returned (.tuple #[.pointer none, .int .i64 3])) ∧ Below w.heap.size w w' := by
  refine (KV.readState_any b xs w h hok hl).mono ?_
  rintro x w' ⟨n, k, hn, hk, hkn, hk5, hyes, hno, hb⟩
  have en : lstN xs = n := by unfold lstN; rw [hn]; rfl
  rcases hkn with rfl | hkn
  · refine ⟨fun S hS => ?_, fun hN => ?_, hb⟩
    · unfold lst at hS
      rw [en] at hS
      split at hS
      · rename_i hc
        obtain rfl := Option.some.inj hS
        obtain ⟨g, P, h1, h2, h3⟩ := hyes hc
        exact ⟨g, P, h1, h2, h3, by rw [KV.rdN_len]; exact hk5⟩
      · cases hS
    · unfold lst at hN
      rw [en] at hN
      split at hN
      · cases hN
      · rename_i hc
        exact hno (by simpa using hc)
  · have h1 : (doneB (KV.rdN k (rdU (rdU (some xs) 8).2 4).2).2 && KV.ofB (KV.rdRev (some xs)) (KV.rdN k (rdU (rdU (some xs) 8).2 4).2).1) = false := by rw [hkn]; rfl
    have h2 := rdN_none _ k hkn (n - k)
    rw [show k + (n - k) = n by omega] at h2
    have h3 : lst xs = none := by
      unfold lst
      rw [en, h2]
      rfl
    exact ⟨(fun S hS => by rw [h3] at hS; cases hS), fun _ => hno h1, hb⟩
/-- What load tells of a disk. -/
def ldS (D : DSt) : Int × KV.KSt :=
  if (loadD D nSnap.data.toList).2 = 6 then (0, ⟨0, []⟩) else if (loadD D nSnap.data.toList).2 = 0 then (match lst (loadD D nSnap.data.toList).1 with | some S => (0, S) | none => (3, ⟨0, []⟩)) else ((loadD D nSnap.data.toList).2, ⟨0, []⟩)
theorem loadD_len (D : DSt) (k : List UInt8) : (loadD D k).1.length ≤ ((getE D.fs k).getD ([], 0)).1.length := by
  have h := readD_len (D := D) k
  unfold loadD
  split
  · split
    · exact Nat.le_trans (by simp only [List.length_take]; omega) h
    · exact Nat.zero_le _
  · exact Nat.zero_le _
theorem loadD_ok {D : DSt} (h : ∀ f ∈ D.fs, okB f.2.1) (k : List UInt8) : okB (loadD D k).1 := by
  have h := readD_ok h k
  unfold loadD
  split
  · split
    · exact h.take _
    · intro x hx; cases hx
  · intro x hx; cases hx
set_option maxRecDepth 100000 in
theorem sload_err (g : Nat) (P : Nat → Prop) (D : DSt) (w : World) (h : DiskAt w g P D) (hn : ((getE D.fs nSnap.data.toList).getD ([], 0)).1.length ≤ 1000000) (hE : Env w) (c : Int) (hl : (loadD D nSnap.data.toList).2 = c) (hc6 : c ≠ 6) (hc0 : c ≠ 0) :
    Calls Tryz.prog 33 #[ptr g] w fun e w' => e = .returned (.tuple #[.pointer none, .int .i64 c]) ∧ Below w.heap.size w w' := by
  have HL := Lib.hid (load_any g P D nSnap w h (by decide) hn hE)
  rw [hl] at HL
  have d1 : (c == 6) = false := by simpa using hc6
  have d2 : (c != 6) = true := by simpa using hc6
  have d3 : (c == 0) = false := by simpa using hc0
  have d4 : (c != 0) = true := by simpa using hc0
  clear h hn hE hl hc6 hc0
  go_enter Tryz.func33, Tryz.ntmps33
  go_wp2_with fail
  refine HL.out.mono ?_; rintro e w1 ⟨v, rfl, _, _, hb1⟩
  go_wp2_with fail
  go_ret2
  exact ⟨rfl, hb1⟩
set_option maxRecDepth 100000 in
theorem sload_read (g : Nat) (P : Nat → Prop) (D : DSt) (w : World) (h : DiskAt w g P D) (hn : ((getE D.fs nSnap.data.toList).getD ([], 0)).1.length ≤ 90000) (hE : Env w) (hl : (loadD D nSnap.data.toList).2 = 0) :
    Calls Tryz.prog 33 #[ptr g] w fun x w' => (∀ S, lst (loadD D nSnap.data.toList).1 = some S → ∃ g P, x = .returned (.tuple #[ptr g, .int .i64 0]) ∧ KV.KvAt w' g P S ∧ (∀ i, P i → w.heap.size ≤ i) ∧ S.L.length ≤ 100000) ∧
      (lst (loadD D nSnap.data.toList).1 = none → x = .returned (.tuple #[.pointer none, .int .i64 3])) ∧ Below w.heap.size w w' := by
  have HL := Lib.hid (load_any g P D nSnap w h (by decide) (by omega) hE)
  rw [hl] at HL
  have HRS := Lib.hid (fun (v : Value) (w1 : World) (hs : Sees w1 v (loadD D nSnap.data.toList).1) => readState_lst v (loadD D nSnap.data.toList).1 w1 hs (loadD_ok h.oks _) (Nat.le_trans (loadD_len D _) hn))
  generalize (loadD D nSnap.data.toList).1 = xs at HL HRS ⊢
  clear h hn hE hl
  go_enter Tryz.func33, Tryz.ntmps33
  go_wp2_with fail
  refine HL.out.mono ?_; rintro e w1 ⟨v, rfl, hs, _, hb1⟩
  have HB1 := Lib.hid hb1
  have HR := Lib.hid (HRS.out v w1 hs)
  clear hb1 hs
  go_wp2_with fail
  refine HR.out.mono ?_; rintro e w2 ⟨hy, hno, hb2⟩
  cases hS : lst xs with
  | some S =>
    obtain ⟨k, Pk, rfl, hk, hpk, hln⟩ := hy S hS
    have HK := Lib.hid (And.intro hk (And.intro hpk (And.intro hln hb2)))
    clear hy hno hk hpk hln hb2
    have HS := Lib.hid hS
    clear hS
    go_wp2_with fail
    go_ret2
    refine ⟨fun S' hS' => ⟨k, Pk, rfl, ?_, fun i hi => Nat.le_trans HB1.out.size (HK.out.2.1 i hi), ?_⟩, (fun hN => by first | (cases hN; done) | (rw [HS.out] at hN; cases hN)), HB1.out.trans (HK.out.2.2.2.mono HB1.out.size)⟩
    · (try rw [HS.out] at hS'); obtain rfl := Option.some.inj hS'; exact HK.out.1
    · (try rw [HS.out] at hS'); obtain rfl := Option.some.inj hS'; exact HK.out.2.2.1
  | none =>
    obtain rfl := hno hS
    have HK := Lib.hid hb2
    clear hy hno hb2
    have HS := Lib.hid hS
    clear hS
    go_wp2_with fail
    go_ret2
    exact ⟨(fun S' hS' => by first | (cases hS'; done) | (rw [HS.out] at hS'; cases hS')), fun _ => rfl, HB1.out.trans (HK.out.mono HB1.out.size)⟩
/-- load, whatever the disk has. -/
theorem sload_any (g : Nat) (P : Nat → Prop) (D : DSt) (w : World) (h : DiskAt w g P D) (hn : ((getE D.fs nSnap.data.toList).getD ([], 0)).1.length ≤ 90000) (hE : Env w) :
    Calls Tryz.prog 33 #[ptr g] w fun e w' => ((ldS D).1 = 0 → ∃ k Pk, e = .returned (.tuple #[ptr k, .int .i64 0]) ∧ KV.KvAt w' k Pk (ldS D).2 ∧ (∀ i, Pk i → w.heap.size ≤ i) ∧ (ldS D).2.L.length ≤ 100000) ∧
      ((ldS D).1 ≠ 0 → e = .returned (.tuple #[.pointer none, .int .i64 (ldS D).1])) ∧ Below w.heap.size w w' := by
  by_cases h6 : (loadD D nSnap.data.toList).2 = 6
  · have e : ldS D = (0, ⟨0, []⟩) := by unfold ldS; rw [if_pos h6]
    rw [e]
    refine (sload_new g P D w h (by omega) hE h6).mono ?_
    rintro e w' ⟨k, rfl, hk, hkk, hb⟩
    exact ⟨fun _ => ⟨k, _, rfl, hk, fun i hi => by rw [show i = k from hi]; exact hkk, Nat.zero_le _⟩, fun hn => absurd rfl hn, hb⟩
  · by_cases h0 : (loadD D nSnap.data.toList).2 = 0
    · refine (sload_read g P D w h hn hE h0).mono ?_
      rintro e w' ⟨hy, hno, hb⟩
      unfold ldS
      rw [if_neg h6, if_pos h0]
      cases hS : lst (loadD D nSnap.data.toList).1 with
      | some S =>
        obtain ⟨k, Pk, r⟩ := hy S hS
        exact ⟨fun _ => ⟨k, Pk, r⟩, fun hn => absurd rfl hn, hb⟩
      | none => exact ⟨fun h => absurd h (by decide), fun _ => hno hS, hb⟩
    · have e : ldS D = ((loadD D nSnap.data.toList).2, ⟨0, []⟩) := by unfold ldS; rw [if_neg h6, if_neg h0]
      rw [e]
      refine (sload_err g P D w h (by omega) hE _ rfl h6 h0).mono ?_
      rintro e w' ⟨rfl, hb⟩
      exact ⟨fun h => absurd h h0, fun _ => rfl, hb⟩
/-- What load tells is right. -/
theorem ldS_ok {D : DSt} (h : (ldS D).1 = 0) : KV.ofB (ldS D).2.rev (ldS D).2.L = true ∧ 0 ≤ (ldS D).2.rev ∧ (ldS D).2.rev ≤ 9223372036854775807 := by
  unfold ldS at h ⊢
  split at h
  · rename_i h6
    rw [if_pos h6]
    exact ⟨rfl, by decide, by decide⟩
  · rename_i h6
    rw [if_neg h6]
    split at h
    · rename_i h0
      rw [if_pos h0]
      cases hS : lst (loadD D nSnap.data.toList).1 with
      | some S => exact lst_ok hS
      | none => rw [hS] at h; exact absurd h (by decide)
    · rename_i h0
      exact absurd h h0
theorem ldS_len (D : DSt) : (ldS D).2.L.length ≤ ((getE D.fs nSnap.data.toList).getD ([], 0)).1.length + 1 := by
  have h := loadD_len D nSnap.data.toList
  unfold ldS
  split
  · exact Nat.zero_le _
  · split
    · cases hS : lst (loadD D nSnap.data.toList).1 with
      | some S => exact Nat.le_trans (lst_len hS) (by omega)
      | none => exact Nat.zero_le _
    · exact Nat.zero_le _
end Go.Proofs.YtbbefakmpmniiaaGreatDoor
