/- The document's block: who may own, which attribute may be, how often a number is in a list. -/
import Derived.Test.YtlbgjmnihenmaaaGreatDoorBkF
namespace Go.Proofs.YtlbgjmnihenmaaaGreatDoor
open Go.RowKit Go.Maps
theorem refR_any (s : ByteArray) (w : World) (hs : s.size ≤ maxLen) : Calls Tryz.prog 53 #[.string s] w fun e w' => e = .returned (.bool (okName s.data.toList)) ∧ Below w.heap.size w w' :=
  (refRight12_any s w hs).mono fun _ _ h => ⟨h.1, h.2 ▸ Below.refl _ _⟩
abbrev rtO (p : ByteArray × ByteArray) : Obj := .cells #[.string p.1, .string p.2] 73
theorem refOwner_any (s : ByteArray) (hs : s.size ≤ maxLen) (w : World) : Calls Tryz.prog 112 #[.string s] w fun e w' => e = .returned (.bool (ownB s)) ∧ Below w.heap.size w w' := by
  have HR := Lib.hid (refR_any s w hs)
  have HS := str_empty s
  unfold ownB
  generalize okName s.data.toList = q at HR ⊢
  cases hd : decide (s.size = 0) with
  | true =>
    rw [hd] at HS
    go_enter Tryz.func112, Tryz.ntmps112
    go_wp2_with fail
    go_ret
    exact ⟨rfl, Below.refl _ _⟩
  | false =>
    rw [hd] at HS
    go_enter Tryz.func112, Tryz.ntmps112
    go_wp2_with fail
    refine HR.out.mono ?_; rintro e w1 ⟨rfl, hb1⟩
    have HB1 := Lib.hid hb1
    clear hb1
    go_wp2_with fail
    go_ret
    exact ⟨rfl, HB1.out⟩
set_option maxRecDepth 100000 in
theorem refMayA_any (p : ByteArray × ByteArray) (h1 : p.1.size ≤ maxLen) (h2 : p.2.size ≤ maxLen) (w : World) : Calls Tryz.prog 113 #[atV p] w fun e w' => e = .returned (.bool (mayP p)) ∧ Below w.heap.size w w' := by
  obtain ⟨w1, hw1⟩ : ∃ w1, w1 = w.alloc (rtO p) := ⟨_, rfl⟩
  have hx1 : w1.heap[w.heap.size]? = some (rtO p) := by rw [hw1]; exact heap_alloc_new w _
  have hb : Below w.heap.size w w1 := by rw [hw1]; exact belNew w _
  obtain ⟨c0, c1⟩ := cells2 hx1
  have HB := Lib.hid (And.intro hb hx1)
  have HR1 := Lib.hid (fun w => refR_any p.1 w h1)
  have HR2 := Lib.hid (fun w => refR_any p.2 w h2)
  unfold mayP
  generalize okName p.1.data.toList = q1 at HR1 ⊢
  generalize okName p.2.data.toList = q2 at HR2 ⊢
  clear hx1 hb
  go_enter Tryz.func113, Tryz.ntmps113
  go_upto_region 1 with fail
  change Code.wp _ _ _ _ (w.alloc (rtO p))
  rw [← hw1]
  clear hw1
  go_wp2_with fail
  refine (HR1.out _).mono ?_; rintro e w2 ⟨rfl, hb2⟩
  have hx2 := (hb2.block _ (heap_lt HB.out.2)).trans HB.out.2
  obtain ⟨c0, c1⟩ := cells2 hx2
  have HB2 := Lib.hid (HB.out.1.trans (hb2.mono HB.out.1.size))
  clear hb2 hx2
  cases q1 with
  | true =>
    go_wp2_with fail
    refine (HR2.out _).mono ?_; rintro e w3 ⟨rfl, hb3⟩
    have HB3 := Lib.hid (HB2.out.trans (hb3.mono HB2.out.size))
    clear hb3
    go_wp2_with fail
    go_ret
    exact ⟨rfl, HB3.out⟩
  | false =>
    go_wp2_with fail
    go_ret
    exact ⟨rfl, HB2.out⟩
/-- How often a number is in a list. -/
def cntN (l : List Int) (k : Int) : Nat := (l.filter (fun x => x == k)).length
theorem cntN_take (l : List Int) (k : Int) (i : Nat) (h : i < l.length) : cntN (l.take (i + 1)) k = cntN (l.take i) k + (if l.getD i 0 == k then 1 else 0) := by
  have e : l.take (i + 1) = l.take i ++ [l[i]] := by rw [List.take_add_one, List.getElem?_eq_getElem h]; rfl
  have g : l.getD i 0 = l[i] := by rw [List.getD_eq_getElem?_getD, List.getElem?_eq_getElem h]; rfl
  unfold cntN
  rw [e, g, List.filter_append, List.length_append]
  generalize l[i] = x
  cases hk : (x == k) with
  | true => simp only [List.filter, hk]; rfl
  | false => simp only [List.filter, hk]; rfl
theorem cntN_le (l : List Int) (k : Int) : cntN l k ≤ l.length := List.length_filter_le _ _
/-- A list of numbers, as it reads. -/
def SeesN (w : World) (v : Value) (xs : List Int) : Prop :=
  ∃ (ao : Option Addr) (c : Nat), v = .slice ao xs.length c ∧ xs.length ≤ c ∧ (ao = none → xs = []) ∧ ∀ a, ao = some a → ∀ i, i < xs.length → w.cell? (a.add i) = some (.int .i64 (xs.getD i 0))
set_option maxRecDepth 100000 in
set_option maxHeartbeats 4000000 in
theorem refCount_any (v : Value) (l : List Int) (k : Int) (w : World) (h : SeesN w v l) (hl : l.length ≤ 1000000) :
    Calls Tryz.prog 114 #[v, .int .i64 k] w fun e w' => e = .returned (.int .i64 (cntN l k)) ∧ w = w' := by
  obtain ⟨ao, c, rfl, hlc, hnil, hc⟩ := h
  have HC := Lib.hid (And.intro hnil hc)
  have HL := Lib.hid hl
  have hl2 : l.length ≤ 9223372036854775807 := by omega
  clear hnil hc hl
  go_enter Tryz.func114, Tryz.ntmps114
  go_wp2_with fail
  go_loop [5, 10] (fun n j => ∃ i : Nat, i ≤ l.length ∧ j = .int .i64 i ∧ n = .int .i64 (cntN (l.take i) k)) (fun n j => l.length - (intOf j).toNat)
  case atStart => exact ⟨0, Nat.zero_le _, rfl, rfl⟩
  case round =>
    obtain ⟨i, hi, rfl, rfl⟩ := hrel
    by_cases hlt : i < l.length
    · obtain ⟨a, rfl⟩ : ∃ a, ao = some a := by
        cases ao with
        | none => rw [HC.out.1 rfl] at hlt; simp at hlt
        | some a => exact ⟨a, rfl⟩
      have q := HC.out.2 a rfl i hlt
      have hT := cntN_take l k i hlt
      have hle : cntN (l.take i) k ≤ 1000000 := Nat.le_trans (cntN_le _ _) (by rw [List.length_take]; have := HL.out; omega)
      generalize l.getD i 0 = x at q hT
      generalize hn : cntN (l.take i) k = n at hT hle ⊢
      have HT := Lib.hid hT
      clear hT hn
      cases hx : (x == k) with
      | true =>
        go_wp2_with fail
        go_round
        case rel => exact ⟨i + 1, hlt, by go_num, by rw [HT.out, hx]; go_num⟩
        case measure => simp [intOf]; omega
      | false =>
        go_wp2_with fail
        go_round
        case rel => exact ⟨i + 1, hlt, by go_num, by rw [HT.out, hx]; go_num⟩
        case measure => simp [intOf]; omega
    · obtain rfl : i = l.length := by omega
      go_wp2_with fail
      go_ret
      exact ⟨rfl, rfl⟩
end Go.Proofs.YtlbgjmnihenmaaaGreatDoor
