/- Package recs: flags, states, the reader behind a record's first byte; bytes of nodes and affinities. -/
import Derived.Test.YtcfmknocpjjklaaPkP
import Derived.Lib.ConvBytes
import Derived.Lib.SlBytesConst
namespace Go.Proofs.Ytcfmknocpjjklaa
open Go.RowKit
abbrev rest (s p : ByteArray) : ByteArray := ⟨(Lib.trimPrefix s.data.toList p.data.toList).toArray⟩
abbrev starts (s p : ByteArray) : Bool := Lib.hasPrefix s.data.toList p.data.toList
abbrev em : ByteArray := ⟨#[]⟩
theorem rest_size (s p : ByteArray) : (rest s p).size ≤ s.size := by
  have h : (Lib.trimPrefix s.data.toList p.data.toList).length ≤ s.data.toList.length := by
    unfold Lib.trimPrefix
    split
    · rw [List.length_drop]; omega
    · exact Nat.le_refl _
  have e1 : (rest s p).size = (Lib.trimPrefix s.data.toList p.data.toList).length := List.size_toArray
  have e2 : s.data.toList.length = s.size := Array.length_toList
  rw [e1]; omega
theorem add0 (g n : Nat) : (⟨g, 0, none⟩ : Addr).add n = ⟨g, n, none⟩ := by
  unfold Addr.add
  by_cases h : n = 0
  · subst h; rfl
  · simp [h]
theorem bytes_below (w : World) (e : TypeId) (s : ByteArray) : Below w.heap.size w (Lib.bytesWorld w e s) :=
  ⟨rfl, rfl, rfl, by rw [Lib.bytesWorld_size]; omega, fun k hk => Lib.bytesWorld_at_old w e s k hk⟩
theorem bytes_sees (w : World) (s : ByteArray) : Sees (Lib.bytesWorld w 5 s) (.slice (some ⟨w.heap.size, 0, none⟩) s.size (grownCap w s.size 0 5)) (strI s) := by
  refine ⟨some ⟨w.heap.size, 0, none⟩, grownCap w s.size 0 5, by rw [strI_length], by rw [strI_length]; exact grownCap_ge w s.size 0 5, (fun h => by cases h), fun a ha i hi => ?_⟩
  cases ha
  rw [strI_length] at hi
  rw [add0, Lib.bytesWorld_cell w _ s i hi]
  have hl : i < s.data.toList.length := by rw [Array.length_toList]; exact hi
  unfold strI
  simp [List.getD, List.getElem?_eq_getElem hl]
theorem okB_strI (s : ByteArray) : okB (strI s) := fun x hx => by
  unfold strI at hx
  obtain ⟨b, _, rfl⟩ := List.mem_map.1 hx
  have := b.toNat_lt
  omega
def stB (x : Int) : Bool := decide (1 ≤ x ∧ x ≤ 3)
theorem mayStand_any (x : Int) (w : World) : Calls Try.prog 35 #[.int .i64 x] w fun e w' => e = .returned (.bool (stB x)) ∧ w = w' := by
  by_cases h1 : 1 ≤ x
  · have d1 : decide (1 ≤ x) = true := decide_eq_true h1
    by_cases h3 : x ≤ 3
    · have d3 : decide (x ≤ 3) = true := decide_eq_true h3
      have hv : stB x = true := decide_eq_true ⟨h1, h3⟩
      rw [hv]; clear hv
      go_enter Try.func35, Try.ntmps35
      go_wp2
      go_ret
      exact ⟨rfl, rfl⟩
    · have d3 : decide (x ≤ 3) = false := decide_eq_false h3
      have hv : stB x = false := decide_eq_false (fun h => h3 h.2)
      rw [hv]; clear hv
      go_enter Try.func35, Try.ntmps35
      go_wp2
      go_ret
      exact ⟨rfl, rfl⟩
  · have d1 : decide (1 ≤ x) = false := decide_eq_false h1
    have hv : stB x = false := decide_eq_false (fun h => h1 h.1)
    rw [hv]; clear hv
    go_enter Try.func35, Try.ntmps35
    go_wp2
    go_ret
    exact ⟨rfl, rfl⟩
def flagI (o : Bool) : Int := if o = true then 1 else 0
theorem putL_flag (o : Bool) : putL (flagI o) 1 = [flagI o] := by cases o <;> decide
theorem putFlag_any (b : Value) (xs : List Int) (o : Bool) (w : World) (h : Sees w b xs) (hl : xs.length ≤ 100000000000000) :
    Calls Try.prog 27 #[b, .bool o] w fun e w' => ∃ v, e = .returned v ∧ Owns w' w.heap.size v (xs ++ [flagI o]) ∧ Below w.heap.size w w' := by
  have HP := Lib.hid (put_any b xs (flagI o) 1 w h hl)
  rw [putL_flag] at HP
  cases o with
  | false =>
    have HP : Hid (Calls Try.prog 26 #[b, .int .u64 0, .int .i64 1] w fun e w' => ∃ v, e = .returned v ∧ Owns w' w.heap.size v (xs ++ [0]) ∧ Below w.heap.size w w') := HP
    show Calls _ _ _ w fun e w' => ∃ v, e = .returned v ∧ Owns w' w.heap.size v (xs ++ [0]) ∧ Below w.heap.size w w'
    go_enter Try.func27, Try.ntmps27
    go_wp2_with fail
    refine HP.out.mono ?_; rintro e w1 ⟨v, rfl, ho, hb⟩
    go_wp2_with fail
    go_ret
    exact ⟨v, rfl, ho, hb⟩
  | true =>
    have HP : Hid (Calls Try.prog 26 #[b, .int .u64 1, .int .i64 1] w fun e w' => ∃ v, e = .returned v ∧ Owns w' w.heap.size v (xs ++ [1]) ∧ Below w.heap.size w w') := HP
    show Calls _ _ _ w fun e w' => ∃ v, e = .returned v ∧ Owns w' w.heap.size v (xs ++ [1]) ∧ Below w.heap.size w w'
    go_enter Try.func27, Try.ntmps27
    go_wp2_with fail
    refine HP.out.mono ?_; rintro e w1 ⟨v, rfl, ho, hb⟩
    go_wp2_with fail
    go_ret
    exact ⟨v, rfl, ho, hb⟩
theorem behind_any (p s : ByteArray) (hs : s.size ≤ 1000) (w : World) :
    Calls Try.prog 30 #[.string p, .string s] w fun e w' => ∃ g, e = .returned (.tuple #[.pointer (some ⟨g, 0, none⟩), .bool (starts s p)]) ∧ RdP g g (some (strI (rest s p))) w' ∧ w.heap.size ≤ g ∧ Below w.heap.size w w' := by
  have HC := Lib.hid (Try.strings_CutPrefix s p w)
  have hr : (⟨(Lib.trimPrefix s.data.toList p.data.toList).toArray⟩ : ByteArray) = rest s p := rfl
  rw [hr] at HC
  have hz : (Lib.hasPrefix s.data.toList p.data.toList) = starts s p := rfl
  rw [hz] at HC
  have hsz : (rest s p).size ≤ 1000 := Nat.le_trans (rest_size s p) hs
  clear hr hz hs
  generalize starts s p = S at *
  generalize rest s p = r at *
  have hcv := Lib.run_convert_string_bytes (P := Try.prog) w 9 57 5 r Try.underlying9 Try.underlying57 Try.underlying5
  have hbz := bytes_below w 5 r
  have hse := bytes_sees w r
  obtain ⟨wz, hwz⟩ : ∃ wz, wz = Lib.bytesWorld w 5 r := ⟨_, rfl⟩
  rw [← hwz] at hcv hbz hse
  have HN := Lib.hid (new_any _ (strI r) wz hse (okB_strI r) (by rw [strI_length]; omega))
  have HB := Lib.hid hbz
  clear hwz hbz hse hsz
  go_enter Try.func30, Try.ntmps30
  go_wp2_with (first
    | (go_at_call 44; refine HC.out.mono ?_; rintro e w1 ⟨rfl, rfl⟩)
    | (go_at_call 45; refine HN.out.mono ?_; rintro e w2 ⟨g, rfl, hR, hg, hb⟩)
    | go_in)
  go_ret2
  exact ⟨g, rfl, hR, by have := HB.out.size; omega, bel HB.out hb⟩
theorem readFlag_any (g B : Nat) (st : Option (List Int)) (w : World) (h : RdP g B st w) :
    Calls Try.prog 32 #[.pointer (some ⟨g, 0, none⟩)] w fun e w' => e = .returned (.tuple #[.bool ((rdU st 1).1 == 1), .bool (decide ((rdU st 1).1 ≤ 1))]) ∧ RdP g B (rdU st 1).2 w' ∧ w.grownBy w' (some g) := by
  have HU := Lib.hid (u_any g B st 1 w h)
  generalize rdU st 1 = u at *
  go_enter Try.func32, Try.ntmps32
  go_wp2_with (first
    | (go_at_call 31; refine HU.out.mono ?_; rintro e w1 ⟨rfl, hR, hg⟩)
    | go_in)
  go_ret2
  exact ⟨rfl, hR, hg⟩
end Go.Proofs.Ytcfmknocpjjklaa
