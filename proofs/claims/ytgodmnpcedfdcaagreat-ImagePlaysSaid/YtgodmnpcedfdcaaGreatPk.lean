/- Package pack: bytes as they lie in memory, and what Put and its reference come to. Conditions: the bounds said of each. -/
import Derived.Test.YtgodmnpcedfdcaaGreatShelf
import Derived.Test.YtgodmnpcedfdcaaGreatRows
import Derived.WalkKit
import Derived.WalkSmall
import Derived.IntWalk
import Derived.Lib.SliceRun
import Derived.Laws.BytesArg
import Derived.Laws.OwnMore
import Derived.Lib.Hide
namespace Go.Proofs.YtgodmnpcedfdcaaGreat
open Go.RowKit
theorem info8 : (Tryz.prog.info? 5).map (fun i => (i.zero, i.size, i.bytes)) = some (some (.int .u8 0), 1, 1) := by kernel_rfl
abbrev cells8 (xs : List Int) : List Value := xs.map (Value.int .u8)
/-- A value that reads as these bytes. -/
def Sees (w : World) (v : Value) (xs : List Int) : Prop :=
  ∃ (ao : Option Addr) (c : Nat), v = .slice ao xs.length c ∧ xs.length ≤ c ∧ (ao = none → xs = []) ∧ ∀ a, ao = some a → ∀ i, i < xs.length → w.cell? (a.add i) = some (.int .u8 (xs.getD i 0))
/-- A value of the call's own that holds these bytes. -/
abbrev Owns (w : World) (B : Nat) (v : Value) (xs : List Int) : Prop := w.ownsRow B 5 1 v xs.length (cells8 xs)
theorem cell_lt8 {w : World} {a : Addr} {v : Value} (h : w.cell? a = some v) : a.block < w.heap.size := by
  rcases Nat.lt_or_ge a.block w.heap.size with hlt | hge
  · exact hlt
  · simp [World.cell?, Array.getElem?_eq_none hge] at h
theorem add_block (a : Addr) (i : Nat) : (a.add i).block = a.block := by unfold Addr.add; split <;> rfl
theorem Sees.keep {w w' : World} {v : Value} {xs : List Int} (h : Sees w v xs) (hb : Below w.heap.size w w') : Sees w' v xs := by
  obtain ⟨ao, c, e, hl, hn, hc⟩ := h
  exact ⟨ao, c, e, hl, hn, fun a ha i hi => by rw [hb.cell (cell_lt8 (hc a ha i hi))]; exact hc a ha i hi⟩
theorem Sees.nil (w : World) : Sees w (.slice none 0 0) [] := ⟨none, 0, rfl, Nat.le_refl _, fun _ => rfl, fun _ h => by cases h⟩
theorem getD_cells {xs : List Int} {i : Nat} (h : i < xs.length) : (cells8 xs)[i]? = some (.int .u8 (xs.getD i 0)) := by
  simp [List.getD, List.getElem?_eq_getElem h]
theorem Owns.sees {w : World} {B : Nat} {v : Value} {xs : List Int} (h : Owns w B v xs) : Sees w v xs := by
  have hc := fun g hg => World.ownsRow.cells h (g := g) hg
  obtain ⟨_, ⟨rfl, hn⟩ | ⟨g, cap, cur, rfl, _, _, hnc, _, _, _⟩⟩ := h
  · obtain rfl := List.eq_nil_of_length_eq_zero hn
    exact Sees.nil w
  · exact ⟨some ⟨g, 0, none⟩, cap, rfl, hnc, (fun e => by cases e), fun a ha i hi => (by cases ha; exact hc g rfl i _ (getD_cells hi))⟩
theorem Owns.nil (w : World) (B : Nat) : Owns w B (.slice none 0 0) [] := World.ownsRow_nil _ _ _ _
theorem bel {w a b : World} (h : Below w.heap.size w a) (k : Below a.heap.size a b) : Below w.heap.size w b := h.trans (k.mono h.size)
theorem belNew (w : World) (o : Obj) : Below w.heap.size w (w.alloc o) := (Below.refl _ _).alloc (Nat.le_refl _) _
theorem belAlloc {w a : World} (h : Below w.heap.size w a) (o : Obj) : Below w.heap.size w (a.alloc o) := h.alloc h.size _
theorem clone_any (b : Value) (xs : List Int) (w : World) (h : Sees w b xs) (hl : xs.length ≤ 140737488355328) :
    Calls Tryz.prog 69 #[b] w fun e w' => ∃ v, e = .returned v ∧ Owns w' w.heap.size v xs ∧ Below w.heap.size w w' := by
  obtain ⟨ao, c, rfl, hlc, hn, hc⟩ := h
  cases ao with
  | none =>
    obtain rfl := hn rfl
    exact (Tryz.bytes_Clone_nil _ _ w).mono fun e w' ⟨he, hw⟩ => ⟨_, he, hw ▸ Owns.nil _ _, hw ▸ Below.refl _ _⟩
  | some a =>
    exact (Tryz.bytes_Clone_at a xs.length c xs w rfl hl (hc a rfl)).mono fun e w' ⟨v, he, ho, _, hb⟩ => ⟨v, he, ho, hb⟩
/-! Numbers as bytes. -/
def wOk (k : Int) : Bool := decide (1 ≤ k ∧ k ≤ 8)
set_option maxHeartbeats 400000 in
theorem mayWidth_any (k : Int) (w : World) :
    Calls Tryz.prog 70 #[.int .i64 k] w fun e w' => e = .returned (.bool (wOk k)) ∧ w = w' := by
  by_cases h0 : 1 ≤ k
  · have d0 : decide (1 ≤ k) = true := by simpa using h0
    have HV : Hid (decide (k ≤ 8) = wOk k) := Lib.hid (by unfold wOk; rw [Bool.eq_iff_iff]; simp [h0])
    go_enter Tryz.func70, Tryz.ntmps70
    go_wp2
    go_ret
    exact ⟨congrArg (fun b => Ending.returned (.bool b)) HV.out, rfl⟩
  · have d0 : decide (1 ≤ k) = false := by simpa using h0
    have HV : Hid (false = wOk k) := Lib.hid (by unfold wOk; simp; omega)
    go_enter Tryz.func70, Tryz.ntmps70
    go_wp2
    go_ret
    exact ⟨congrArg (fun b => Ending.returned (.bool b)) HV.out, rfl⟩
/-- The lowest k bytes of a number, the highest one first. -/
def numBytes (n : Int) : Nat → List Int
  | 0 => []
  | k + 1 => n / 256 ^ k % 256 :: numBytes n k
theorem numBytes_length (n : Int) : ∀ k, (numBytes n k).length = k
  | 0 => rfl
  | k + 1 => by simp [numBytes, numBytes_length n k]
/-- n as a number of width k; nothing, if there is no such width. -/
def putL (n k : Int) : List Int := if wOk k = true then numBytes n k.toNat else []
theorem numBytes_take (n : Int) (k : Nat) : ∀ i, i ≤ k → (numBytes n k).take i = (List.range i).map fun j => n / 256 ^ (k - 1 - j) % 256 := by
  intro i
  induction k generalizing i with
  | zero => intro h; cases Nat.le_zero.1 h; rfl
  | succ k ih =>
    intro h
    cases i with
    | zero => rfl
    | succ i =>
      rw [numBytes, List.take_succ_cons, ih i (by omega), List.range_succ_eq_map, List.map_cons, List.map_map]
      congr 1
      apply List.map_congr_left
      intro j hj
      have := List.mem_range.1 hj
      simp only [Function.comp_apply]
      rw [show k + 1 - 1 - (j + 1) = k - 1 - j from by omega]
theorem numBytes_snoc (n : Int) (k i : Nat) (h : i < k) : (numBytes n k).take (i + 1) = (numBytes n k).take i ++ [n / 256 ^ (k - 1 - i) % 256] := by
  rw [numBytes_take n k _ h, numBytes_take n k _ (by omega), List.range_succ, List.map_append]
  rfl
theorem shr_byte (n : Int) (m : Nat) : n / 2 ^ (8 * m) % 256 = n / 256 ^ m % 256 := by
  rw [show (256 : Int) = 2 ^ 8 from rfl, ← Int.pow_mul]
set_option maxHeartbeats 2000000 in
theorem put_any (b : Value) (xs : List Int) (n k : Int) (w : World) (h : Sees w b xs) (hl : xs.length ≤ 100000000000000) :
    Calls Tryz.prog 66 #[b, .int .u64 n, .int .i64 k] w fun e w' => ∃ v, e = .returned v ∧ Owns w' w.heap.size v (xs ++ putL n k) ∧ Below w.heap.size w w' := by
  obtain ⟨i0, hi, hz0, hz1, hz2⟩ := info_parts info8
  have HC := Lib.hid (clone_any b xs w h (by omega))
  by_cases hk : wOk k = true
  · have HM : Hid (∀ w, Calls Tryz.prog 70 #[.int .i64 k] w fun e w' => e = .returned (.bool true) ∧ w = w') := Lib.hid (fun w => by rw [← hk]; exact mayWidth_any k w)
    have HP : Hid (putL n k = numBytes n k.toNat) := Lib.hid (by unfold putL; rw [if_pos hk])
    obtain ⟨k0, k1⟩ : 1 ≤ k ∧ k ≤ 8 := by unfold wOk at hk; exact of_decide_eq_true hk
    clear hk
    go_enter Tryz.func66, Tryz.ntmps66
    go_wp2_with fail
    refine HC.out.mono ?_; rintro e w1 ⟨v1, rfl, ho1, hb1⟩
    go_wp2_with fail
    refine (HM.out _).mono ?_; rintro e w2 ⟨rfl, rfl⟩
    go_wp2_with fail
    go_loopw [7, 8, 16] (fun v _ j wr => ∃ i : Nat, (i : Int) ≤ k ∧ j = .int .i64 i ∧ Owns wr w.heap.size v (xs ++ (numBytes n k.toNat).take i) ∧ Below w.heap.size w wr) (fun _ _ j _ => (k - intOf j).toNat)
    case atStart => exact ⟨0, by omega, rfl, by simpa using ho1, hb1⟩
    case round =>
      obtain ⟨i, hik, rfl, hown, hbel⟩ := hrel
      by_cases hlt : (i : Int) < k
      · have hlt' : i < k.toNat := by omega
        have s1 : IntKind.i64.wrap (k - 1) = k - 1 := IntWalk.i64_in _ (by omega)
        have s2 : IntKind.i64.wrap (k - 1 - i) = k - 1 - i := IntWalk.i64_in _ (by omega)
        have s3 : IntKind.i64.wrap (8 * (k - 1 - i)) = 8 * (k - 1 - i) := IntWalk.i64_in _ (by omega)
        have s4 : ¬ 8 * (k - 1 - i) < 0 := by omega
        have hlen : ((xs ++ (numBytes n k.toNat).take i).length) = xs.length + i := by rw [List.length_append, List.length_take, numBytes_length]; omega
        have hsz := hbel.size
        go_wp2_with (first | (at_builtin; refine wpList_append_own _ rfl _ _ 25 rfl w.heap.size 5 i0 (.int .u8 0) 1 1 Tryz.underlying25 hi hz0 hz1 hz2 rfl (by decide) _ _ _ rfl (hown.alloc _) ⟨wr.heap.size, 0, none⟩ 1 1 [.int .u8 (n / 2 ^ (8 * (k - 1 - i)).toNat % 256)] rfl rfl ?qc1 ?qc2 ?qc3 ?qc4 ?qc5 ?_) | go_in)
        case qc2 => first | rfl | (intro u hu; simp at hu; subst hu; rfl)
        case qc3 => unfold maxLen; omega
        case qc4 => omega
        case qc5 => first | omega | (simp; omega)
        intro v' w2 hown' hgrow _
        go_wp2
        go_roundw
        case rel =>
          refine ⟨i + 1, by omega, by go_num, ?_, ?_⟩
          · have e : xs ++ (numBytes n k.toNat).take (i + 1) = xs ++ (numBytes n k.toNat).take i ++ [n / 2 ^ (8 * (k - 1 - i)).toNat % 256] := by
              rw [numBytes_snoc n _ i hlt', List.append_assoc, show (8 * (k - 1 - (i : Int))).toNat = 8 * (k.toNat - 1 - i) from by omega, shr_byte]
            unfold Owns cells8
            rw [e, List.length_append, hlen]
            simpa only [List.length_singleton, List.map_append, List.map_take, List.map_cons, List.map_nil, List.append_assoc] using hown'
          · exact (belAlloc hbel _).grown hgrow (by simp; omega) (fun g hg => (hown.lt g hg).1)
        case measure => simp [intOf]; omega
      · have e : (numBytes n k.toNat).take i = numBytes n k.toNat := List.take_of_length_le (by rw [numBytes_length]; omega)
        rw [e] at hown
        go_wp2_with fail
        go_ret
        exact ⟨_, rfl, by rw [HP.out]; exact hown, hbel⟩
  · have hkf : wOk k = false := by simpa using hk
    have HM : Hid (∀ w, Calls Tryz.prog 70 #[.int .i64 k] w fun e w' => e = .returned (.bool false) ∧ w = w') := Lib.hid (fun w => by rw [← hkf]; exact mayWidth_any k w)
    have HP : Hid (putL n k = []) := Lib.hid (by unfold putL; rw [if_neg hk])
    clear hk hkf
    go_enter Tryz.func66, Tryz.ntmps66
    go_wp2_with fail
    refine HC.out.mono ?_; rintro e w1 ⟨v1, rfl, ho1, hb1⟩
    go_wp2_with fail
    refine (HM.out _).mono ?_; rintro e w2 ⟨rfl, rfl⟩
    go_wp2_with fail
    go_ret
    exact ⟨_, rfl, by rw [HP.out, List.append_nil]; exact ho1, hb1⟩
end Go.Proofs.YtgodmnpcedfdcaaGreat
