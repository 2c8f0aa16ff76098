/- Package kv: mayWrite, get, has, effectOf. -/
import Derived.Test.YtholgmcfgnifdaaKvA
namespace Go.Proofs.Ytholgmcfgnifdaa
open Go.RowKit Go.Maps
def mayW (o : KOp) : Bool := if o.kind = 3 ∨ o.kind = 4 then mayK o.key && mayV o.val else if o.kind = 5 then mayK o.key else false
set_option maxHeartbeats 1000000 in
theorem mayWrite_any (o : KOp) (w : World) : Calls Try.prog 44 #[opV o] w fun e w' => e = .returned (.bool (mayW o)) ∧ Below w.heap.size w w' := by
  obtain ⟨k, key, val, rv, ifk, ir⟩ := o
  have HK : Hid (∀ w, Calls Try.prog 46 #[.string key] w fun e w' => e = .returned (.bool (mayK key)) ∧ w = w') := Lib.hid (mayKey_any key)
  have HV : Hid (∀ w, Calls Try.prog 47 #[.string val] w fun e w' => e = .returned (.bool (mayV val)) ∧ w = w') := Lib.hid (mayVal_any val)
  have HB := Lib.hid (belNew w (.cells #[.int .i64 k, .string key, .string val, .int .i64 rv, .string ifk, .int .i64 ir] 37))
  by_cases h3 : k = 3 ∨ k = 4
  · have HR : Hid (mayW ⟨k, key, val, rv, ifk, ir⟩ = (mayK key && mayV val)) := Lib.hid (by unfold mayW; rw [if_pos h3])
    generalize mayK key = b1 at HK HR
    generalize mayV val = b2 at HV HR
    rcases h3 with rfl | rfl <;> cases b1 <;> cases b2
    all_goals
      go_enter Try.func44, Try.ntmps44
      go_wp2_with (first | (go_at_call 46; refine (HK.out _).mono ?_; rintro e w' ⟨rfl, rfl⟩) | (go_at_call 47; refine (HV.out _).mono ?_; rintro e w' ⟨rfl, rfl⟩))
      go_ret
      exact ⟨congrArg (fun b => Ending.returned (.bool b)) HR.out.symm, HB.out⟩
  · have d3 : (k == 3) = false := by simp; omega
    have d4 : (k == 4) = false := by simp; omega
    by_cases h5 : k = 5
    · have HR : Hid (mayW ⟨k, key, val, rv, ifk, ir⟩ = mayK key) := Lib.hid (by unfold mayW; rw [if_neg h3, if_pos h5])
      have d5 : (k == 5) = true := by simpa using h5
      clear h3 h5
      go_enter Try.func44, Try.ntmps44
      go_wp2_with (first | (go_at_call 46; refine (HK.out _).mono ?_; rintro e w' ⟨rfl, rfl⟩))
      go_ret
      exact ⟨congrArg (fun b => Ending.returned (.bool b)) HR.out.symm, HB.out⟩
    · have HR : Hid (mayW ⟨k, key, val, rv, ifk, ir⟩ = false) := Lib.hid (by unfold mayW; rw [if_neg h3, if_neg h5])
      have d5 : (k == 5) = false := by simpa using h5
      clear h3 h5
      go_enter Try.func44, Try.ntmps44
      go_wp2_with fail
      go_ret
      exact ⟨congrArg (fun b => Ending.returned (.bool b)) HR.out.symm, HB.out⟩
abbrev resV (code rev : Int) (val : ByteArray) (its : Value) : Value := .agg #[.int .i64 code, .int .i64 rev, .string val, its]
def getR (L : List KEnt) (key : ByteArray) : Int × Int × ByteArray := if there L key = true then (0, revOf L key, valOf L key) else (6, 0, emp)
set_option maxRecDepth 100000 in
set_option maxHeartbeats 1000000 in
theorem get_any (g : Nat) (P : Nat → Prop) (S : KSt) (key : ByteArray) (w : World) (h : KvAt w g P S) (hs : key.size ≤ maxLen) :
    Calls Try.prog 31 #[ptr g, .string key] w fun e w' => e = .returned (resV (getR S.L key).1 (getR S.L key).2.1 (getR S.L key).2.2 (.slice none 0 0)) ∧ Below w.heap.size w w' := by
  obtain ⟨mb, c0, c1, hL⟩ := h.cells
  have hz := World.block_lt_of_cell? w _ c0
  have hb1 := belNew w (.cells #[.int .i64 0, .int .i64 0, .string emp, .slice none 0 0] 49)
  have hL0 := hL _ hb1 key hs
  have c1' : (w.alloc (.cells #[.int .i64 0, .int .i64 0, .string emp, .slice none 0 0] 49)).cell? ⟨g, 1, none⟩ = some (.map mb) := by rw [World.cell?_alloc_lt w _ ⟨g, 1, none⟩ hz]; exact c1
  unfold getR revOf valOf
  cases ht : there S.L key with
  | true =>
    rw [ht] at hL0
    generalize gotU S.L key = u at hL0
    obtain ⟨u1, u2, u3⟩ := u
    clear hL h c0 c1 hb1 ht
    go_enter Try.func31, Try.ntmps31
    go_wp2
    refine bodyPost_ret (v := resV 0 u3 u2 (.slice none 0 0)) (by simp [results, Try.results31, go_sem]) rfl ⟨rfl, ?_⟩
    repeat (first | exact Below.refl _ _ | refine Below.setCell ?_ (by simp) _ | refine Below.alloc ?_ (by simp) _)
  | false =>
    rw [ht] at hL0
    generalize gotU S.L key = u at hL0
    obtain ⟨u1, u2, u3⟩ := u
    clear hL h c0 c1 hb1 ht
    go_enter Try.func31, Try.ntmps31
    go_wp2
    refine bodyPost_ret (v := resV 6 0 emp (.slice none 0 0)) (by simp [results, Try.results31, go_sem]) rfl ⟨rfl, ?_⟩
    repeat (first | exact Below.refl _ _ | refine Below.setCell ?_ (by simp) _ | refine Below.alloc ?_ (by simp) _)
def stands (L : List KEnt) (key : ByteArray) (rev : Int) : Bool := there L key && decide (revOf L key = rev)
set_option maxRecDepth 100000 in
set_option maxHeartbeats 1000000 in
theorem has_any (g : Nat) (P : Nat → Prop) (S : KSt) (key : ByteArray) (rev : Int) (w : World) (h : KvAt w g P S) (hs : key.size ≤ maxLen) :
    Calls Try.prog 45 #[ptr g, .string key, .int .i64 rev] w fun e w' => e = .returned (.bool (stands S.L key rev)) ∧ Below w.heap.size w w' := by
  obtain ⟨mb, c0, c1, hL⟩ := h.cells
  have hL0 := hL _ (Below.refl _ w) key hs
  unfold stands revOf
  cases ht : there S.L key with
  | true =>
    rw [ht] at hL0
    generalize gotU S.L key = u at hL0
    obtain ⟨u1, u2, u3⟩ := u
    clear hL h c0 ht
    go_enter Try.func45, Try.ntmps45
    go_wp2
    go_ret
    refine ⟨rfl, ?_⟩
    repeat (first | exact Below.refl _ _ | refine Below.setCell ?_ (by simp) _ | refine Below.alloc ?_ (by simp) _)
  | false =>
    rw [ht] at hL0
    generalize gotU S.L key = u at hL0
    obtain ⟨u1, u2, u3⟩ := u
    clear hL h c0 ht
    go_enter Try.func45, Try.ntmps45
    go_wp2
    go_ret
    refine ⟨rfl, ?_⟩
    repeat (first | exact Below.refl _ _ | refine Below.setCell ?_ (by simp) _ | refine Below.alloc ?_ (by simp) _)
def effOf (o : KOp) (rev : Int) : KEff := if o.kind = 5 then ⟨o.key, emp, rev, true⟩ else ⟨o.key, o.val, rev, false⟩
set_option maxRecDepth 100000 in
set_option maxHeartbeats 1000000 in
theorem effectOf_any (o : KOp) (rev : Int) (w : World) : Calls Try.prog 33 #[opV o, .int .i64 rev] w fun e w' => e = .returned (effV (effOf o rev)) ∧ Below w.heap.size w w' := by
  obtain ⟨k, key, val, rv, ifk, ir⟩ := o
  unfold effOf
  by_cases h5 : k = 5
  · have d5 : (k == 5) = true := by simpa using h5
    rw [if_pos h5]
    clear h5
    go_enter Try.func33, Try.ntmps33
    go_wp2
    refine bodyPost_ret (v := effV ⟨key, emp, rev, true⟩) (by simp [results, Try.results33, go_sem]) rfl ⟨rfl, ?_⟩
    repeat (first | exact Below.refl _ _ | refine Below.setCell ?_ (by simp) _ | refine Below.alloc ?_ (by simp) _)
  · have d5 : (k == 5) = false := by simpa using h5
    rw [if_neg h5]
    clear h5
    go_enter Try.func33, Try.ntmps33
    go_wp2
    refine bodyPost_ret (v := effV ⟨key, val, rev, false⟩) (by simp [results, Try.results33, go_sem]) rfl ⟨rfl, ?_⟩
    repeat (first | exact Below.refl _ _ | refine Below.setCell ?_ (by simp) _ | refine Below.alloc ?_ (by simp) _)
end Go.Proofs.Ytholgmcfgnifdaa
