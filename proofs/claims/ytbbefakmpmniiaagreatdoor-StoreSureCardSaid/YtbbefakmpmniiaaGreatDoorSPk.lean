/- Joined: Pk PkR PkT PkP PackNilW PackPutsW PkRef PkOpen Rows2. -/
import Derived.Test.YtbbefakmpmniiaaGreatDoorShelf
import Derived.Test.YtbbefakmpmniiaaGreatDoorRows
import Derived.WalkKit
import Derived.WalkSmall
import Derived.IntWalk
import Derived.Lib.SliceRun
import Derived.Laws.BytesArg
import Derived.Laws.OwnMore
import Derived.Lib.Hide
import Derived.OneCell
import Derived.Laws.BitsAllLaws
import Derived.Deep.QuietTactic
import Derived.Deep.AppendSrc
import Derived.Deep.RegionHeld3
import Derived.ProofKit
import Derived.OpenShut
import Derived.ChangeSlices
import Derived.Carry
import Derived.Deep.Matrix
namespace Go.Proofs.YtbbefakmpmniiaaGreatDoor
section
open Go.RowKit
theorem info8 : (Tryz.prog.info? 5).map (fun i => (i.zero, i.size, i.bytes)) = some (some (.int .u8 0), 1, 1) := by kernel_rfl
abbrev cells8 (xs : List Int) : List Value := xs.map (Value.int .u8)
/-- A value that reads as these bytes. -/
def Sees (w : World) (v : Value) (xs : List Int) : Prop :=
  ∃ (ao : Option Addr) (c : Nat), v = .slice ao xs.length c ∧ xs.length ≤ c ∧ (ao = none → xs = []) ∧ ∀ a, ao = some a → ∀ i, i < xs.length → w.cell? (a.add i) = some (.int .u8 (xs.getD i 0))
/-- A value of the call's own that holds these bytes. -/
abbrev Owns (w : World) (B : Nat) (v : Value) (xs : List Int) : Prop := w.ownsRow B 5 1 v xs.length (cells8 xs)
theorem cell_lt8 {w : World} {a : Addr} {v : Value} (h : w.cell? a = some v) : a.block < w.heap.size := by
  rcases Nat.lt_or_ge a.block w.heap.size with hlt | hge
  · exact hlt
  · simp [World.cell?, Array.getElem?_eq_none hge] at h
theorem add_block (a : Addr) (i : Nat) : (a.add i).block = a.block := by unfold Addr.add; split <;> rfl
theorem Sees.keep {w w' : World} {v : Value} {xs : List Int} (h : Sees w v xs) (hb : Below w.heap.size w w') : Sees w' v xs := by
  obtain ⟨ao, c, e, hl, hn, hc⟩ := h
  exact ⟨ao, c, e, hl, hn, fun a ha i hi => by rw [hb.cell (cell_lt8 (hc a ha i hi))]; exact hc a ha i hi⟩
theorem Sees.nil (w : World) : Sees w (.slice none 0 0) [] := ⟨none, 0, rfl, Nat.le_refl _, fun _ => rfl, fun _ h => by cases h⟩
theorem getD_cells {xs : List Int} {i : Nat} (h : i < xs.length) : (cells8 xs)[i]? = some (.int .u8 (xs.getD i 0)) := by
  simp [List.getD, List.getElem?_eq_getElem h]
theorem Owns.sees {w : World} {B : Nat} {v : Value} {xs : List Int} (h : Owns w B v xs) : Sees w v xs := by
  have hc := fun g hg => World.ownsRow.cells h (g := g) hg
  obtain ⟨_, ⟨rfl, hn⟩ | ⟨g, cap, cur, rfl, _, _, hnc, _, _, _⟩⟩ := h
  · obtain rfl := List.eq_nil_of_length_eq_zero hn
    exact Sees.nil w
  · exact ⟨some ⟨g, 0, none⟩, cap, rfl, hnc, (fun e => by cases e), fun a ha i hi => (by cases ha; exact hc g rfl i _ (getD_cells hi))⟩
theorem Owns.nil (w : World) (B : Nat) : Owns w B (.slice none 0 0) [] := World.ownsRow_nil _ _ _ _
theorem bel {w a b : World} (h : Below w.heap.size w a) (k : Below a.heap.size a b) : Below w.heap.size w b := h.trans (k.mono h.size)
theorem belNew (w : World) (o : Obj) : Below w.heap.size w (w.alloc o) := (Below.refl _ _).alloc (Nat.le_refl _) _
theorem belAlloc {w a : World} (h : Below w.heap.size w a) (o : Obj) : Below w.heap.size w (a.alloc o) := h.alloc h.size _
theorem clone_any (b : Value) (xs : List Int) (w : World) (h : Sees w b xs) (hl : xs.length ≤ 140737488355328) :
    Calls Tryz.prog 54 #[b] w fun e w' => ∃ v, e = .returned v ∧ Owns w' w.heap.size v xs ∧ Below w.heap.size w w' := by
  obtain ⟨ao, c, rfl, hlc, hn, hc⟩ := h
  cases ao with
  | none =>
    obtain rfl := hn rfl
    exact (Tryz.bytes_Clone_nil _ _ w).mono fun e w' ⟨he, hw⟩ => ⟨_, he, hw ▸ Owns.nil _ _, hw ▸ Below.refl _ _⟩
  | some a =>
    exact (Tryz.bytes_Clone_at a xs.length c xs w rfl hl (hc a rfl)).mono fun e w' ⟨v, he, ho, _, hb⟩ => ⟨v, he, ho, hb⟩
/-! Numbers as bytes. -/
def wOk (k : Int) : Bool := decide (1 ≤ k ∧ k ≤ 8)
set_option maxHeartbeats 400000 in
theorem mayWidth_any (k : Int) (w : World) :
    Calls Tryz.prog 141 #[.int .i64 k] w fun e w' => e = .returned (.bool (wOk k)) ∧ w = w' := by
  by_cases h0 : 1 ≤ k
  · have d0 : decide (1 ≤ k) = true := by simpa using h0
    have HV : Hid (decide (k ≤ 8) = wOk k) := Lib.hid (by unfold wOk; rw [Bool.eq_iff_iff]; simp [h0])
    go_enter Tryz.func141, Tryz.ntmps141
    go_wp2
    go_ret
    exact ⟨congrArg (fun b => Ending.returned (.bool b)) HV.out, rfl⟩
  · have d0 : decide (1 ≤ k) = false := by simpa using h0
    have HV : Hid (false = wOk k) := Lib.hid (by unfold wOk; simp; omega)
    go_enter Tryz.func141, Tryz.ntmps141
    go_wp2
    go_ret
    exact ⟨congrArg (fun b => Ending.returned (.bool b)) HV.out, rfl⟩
/-- The lowest k bytes of a number, the highest one first. -/
def numBytes (n : Int) : Nat → List Int
  | 0 => []
  | k + 1 => n / 256 ^ k % 256 :: numBytes n k
theorem numBytes_length (n : Int) : ∀ k, (numBytes n k).length = k
  | 0 => rfl
  | k + 1 => by simp [numBytes, numBytes_length n k]
/-- n as a number of width k; nothing, if there is no such width. -/
def putL (n k : Int) : List Int := if wOk k = true then numBytes n k.toNat else []
theorem numBytes_take (n : Int) (k : Nat) : ∀ i, i ≤ k → (numBytes n k).take i = (List.range i).map fun j => n / 256 ^ (k - 1 - j) % 256 := by
  intro i
  induction k generalizing i with
  | zero => intro h; cases Nat.le_zero.1 h; rfl
  | succ k ih =>
    intro h
    cases i with
    | zero => rfl
    | succ i =>
      rw [numBytes, List.take_succ_cons, ih i (by omega), List.range_succ_eq_map, List.map_cons, List.map_map]
      congr 1
      apply List.map_congr_left
      intro j hj
      have := List.mem_range.1 hj
      simp only [Function.comp_apply]
      rw [show k + 1 - 1 - (j + 1) = k - 1 - j from by omega]
theorem numBytes_snoc (n : Int) (k i : Nat) (h : i < k) : (numBytes n k).take (i + 1) = (numBytes n k).take i ++ [n / 256 ^ (k - 1 - i) % 256] := by
  rw [numBytes_take n k _ h, numBytes_take n k _ (by omega), List.range_succ, List.map_append]
  rfl
theorem shr_byte (n : Int) (m : Nat) : n / 2 ^ (8 * m) % 256 = n / 256 ^ m % 256 := by
  rw [show (256 : Int) = 2 ^ 8 from rfl, ← Int.pow_mul]
set_option maxHeartbeats 2000000 in
theorem put_any (b : Value) (xs : List Int) (n k : Int) (w : World) (h : Sees w b xs) (hl : xs.length ≤ 100000000000000) :
    Calls Tryz.prog 151 #[b, .int .u64 n, .int .i64 k] w fun e w' => ∃ v, e = .returned v ∧ Owns w' w.heap.size v (xs ++ putL n k) ∧ Below w.heap.size w w' := by
  obtain ⟨i0, hi, hz0, hz1, hz2⟩ := info_parts info8
  have HC := Lib.hid (clone_any b xs w h (by omega))
  by_cases hk : wOk k = true
  · have HM : Hid (∀ w, Calls Tryz.prog 141 #[.int .i64 k] w fun e w' => e = .returned (.bool true) ∧ w = w') := Lib.hid (fun w => by rw [← hk]; exact mayWidth_any k w)
    have HP : Hid (putL n k = numBytes n k.toNat) := Lib.hid (by unfold putL; rw [if_pos hk])
    obtain ⟨k0, k1⟩ : 1 ≤ k ∧ k ≤ 8 := by unfold wOk at hk; exact of_decide_eq_true hk
    clear hk
    go_enter Tryz.func151, Tryz.ntmps151
    go_wp2_with fail
    refine HC.out.mono ?_; rintro e w1 ⟨v1, rfl, ho1, hb1⟩
    go_wp2_with fail
    refine (HM.out _).mono ?_; rintro e w2 ⟨rfl, rfl⟩
    go_wp2_with fail
    go_loopw [7, 8, 16] (fun v _ j wr => ∃ i : Nat, (i : Int) ≤ k ∧ j = .int .i64 i ∧ Owns wr w.heap.size v (xs ++ (numBytes n k.toNat).take i) ∧ Below w.heap.size w wr) (fun _ _ j _ => (k - intOf j).toNat)
    case atStart => exact ⟨0, by omega, rfl, by simpa using ho1, hb1⟩
    case round =>
      obtain ⟨i, hik, rfl, hown, hbel⟩ := hrel
      by_cases hlt : (i : Int) < k
      · have hlt' : i < k.toNat := by omega
        have s1 : IntKind.i64.wrap (k - 1) = k - 1 := IntWalk.i64_in _ (by omega)
        have s2 : IntKind.i64.wrap (k - 1 - i) = k - 1 - i := IntWalk.i64_in _ (by omega)
        have s3 : IntKind.i64.wrap (8 * (k - 1 - i)) = 8 * (k - 1 - i) := IntWalk.i64_in _ (by omega)
        have s4 : ¬ 8 * (k - 1 - i) < 0 := by omega
        have hlen : ((xs ++ (numBytes n k.toNat).take i).length) = xs.length + i := by rw [List.length_append, List.length_take, numBytes_length]; omega
        have hsz := hbel.size
        go_wp2_with (first | (at_builtin; refine wpList_append_own _ rfl _ _ 70 rfl w.heap.size 5 i0 (.int .u8 0) 1 1 Tryz.underlying70 hi hz0 hz1 hz2 rfl (by decide) _ _ _ rfl (hown.alloc _) ⟨wr.heap.size, 0, none⟩ 1 1 [.int .u8 (n / 2 ^ (8 * (k - 1 - i)).toNat % 256)] rfl rfl ?qc1 ?qc2 ?qc3 ?qc4 ?qc5 ?_) | go_in)
        case qc2 => first | rfl | (intro u hu; simp at hu; subst hu; rfl)
        case qc3 => unfold maxLen; omega
        case qc4 => omega
        case qc5 => first | omega | (simp; omega)
        intro v' w2 hown' hgrow _
        go_wp2
        go_roundw
        case rel =>
          refine ⟨i + 1, by omega, by go_num, ?_, ?_⟩
          · have e : xs ++ (numBytes n k.toNat).take (i + 1) = xs ++ (numBytes n k.toNat).take i ++ [n / 2 ^ (8 * (k - 1 - i)).toNat % 256] := by
              rw [numBytes_snoc n _ i hlt', List.append_assoc, show (8 * (k - 1 - (i : Int))).toNat = 8 * (k.toNat - 1 - i) from by omega, shr_byte]
            unfold Owns cells8
            rw [e, List.length_append, hlen]
            simpa only [List.length_singleton, List.map_append, List.map_take, List.map_cons, List.map_nil, List.append_assoc] using hown'
          · exact (belAlloc hbel _).grown hgrow (by simp; omega) (fun g hg => (hown.lt g hg).1)
        case measure => simp [intOf]; omega
      · have e : (numBytes n k.toNat).take i = numBytes n k.toNat := List.take_of_length_le (by rw [numBytes_length]; omega)
        rw [e] at hown
        go_wp2_with fail
        go_ret
        exact ⟨_, rfl, by rw [HP.out]; exact hown, hbel⟩
  · have hkf : wOk k = false := by simpa using hk
    have HM : Hid (∀ w, Calls Tryz.prog 141 #[.int .i64 k] w fun e w' => e = .returned (.bool false) ∧ w = w') := Lib.hid (fun w => by rw [← hkf]; exact mayWidth_any k w)
    have HP : Hid (putL n k = []) := Lib.hid (by unfold putL; rw [if_neg hk])
    clear hk hkf
    go_enter Tryz.func151, Tryz.ntmps151
    go_wp2_with fail
    refine HC.out.mono ?_; rintro e w1 ⟨v1, rfl, ho1, hb1⟩
    go_wp2_with fail
    refine (HM.out _).mono ?_; rintro e w2 ⟨rfl, rfl⟩
    go_wp2_with fail
    go_ret
    exact ⟨_, rfl, by rw [HP.out, List.append_nil]; exact ho1, hb1⟩
end
section
open Go.RowKit
def okB (l : List Int) : Prop := ∀ x ∈ l, 0 ≤ x ∧ x ≤ 255
theorem okB.take {l : List Int} (h : okB l) (n : Nat) : okB (l.take n) := fun x hx => h x (List.mem_of_mem_take hx)
theorem okB.drop {l : List Int} (h : okB l) (n : Nat) : okB (l.drop n) := fun x hx => h x (List.mem_of_mem_drop hx)
/-- What a read of n bytes tells, and leaves; none: bad. -/
def rdB (st : Option (List Int)) (n : Int) : List Int × Option (List Int) := match st with
  | some l => if 0 ≤ n ∧ n ≤ l.length then (l.take n.toNat, some (l.drop n.toNat)) else ([], none)
  | none => ([], none)
/-- Bytes' number, the highest one first. -/
def numBE (l : List Int) : Int := l.foldl (fun n c => n * 256 + c) 0
def rdU (st : Option (List Int)) (k : Int) : Int × Option (List Int) := if wOk k = true then (numBE (rdB st k).1, (rdB st k).2) else (0, none)
def rdT (st : Option (List Int)) : List Int × Option (List Int) := if (rdU st 1).1 ≤ 64 then rdB (rdU st 1).2 (rdU st 1).1 else ([], none)
/-- A reader in block g; its bytes lie below block B. -/
def RdP (g B : Nat) (st : Option (List Int)) (w : World) : Prop :=
  ∃ v, w.heap[g]? = some (.cells #[v, .bool st.isNone] 208 (0, 0)) ∧ Sees w v (st.getD []) ∧ (∀ d, v.ownBlock = some d → d < B) ∧ okB (st.getD []) ∧ (st.getD []).length ≤ 100000000000000 ∧ B ≤ g
theorem sees_heap {w w' : World} {v : Value} {xs : List Int} (h : Sees w v xs) (hb : ∀ d, v.ownBlock = some d → d < w.heap.size → w'.heap[d]? = w.heap[d]?) : Sees w' v xs := by
  obtain ⟨ao, c, rfl, hl, hn, hc⟩ := h
  exact ⟨ao, c, rfl, hl, hn, fun a ha i hi => by
    have h1 := hc a ha i hi
    have h2 := cell_lt8 h1
    rw [World.cell?_of_block (w := w) (w' := w') (by subst ha; rw [add_block]; exact hb _ rfl (by rwa [add_block] at h2))]
    exact h1⟩
theorem heap_lt {w : World} {g : Nat} {o : Obj} (h : w.heap[g]? = some o) : g < w.heap.size := (Array.getElem?_eq_some_iff.1 h).1
theorem RdP.grown {g B h : Nat} {st : Option (List Int)} {w w' : World} (hr : RdP g B st w) (hg : w.grownBy w' (some h)) (h1 : h ≠ g) (h2 : B ≤ h) : RdP g B st w' := by
  obtain ⟨v, hb, hs, hd, ho, hl, hB⟩ := hr
  refine ⟨v, ?_, sees_heap hs (fun d hd' hlt => hg.block d hlt (fun e => ?_)), hd, ho, hl, hB⟩
  · rw [hg.block g (heap_lt hb) (fun e => h1 (Option.some.inj e).symm)]; exact hb
  · have := hd d hd'; cases e; omega
theorem RdP.below {g B : Nat} {st : Option (List Int)} {w w' : World} (hr : RdP g B st w) (hb : Below w.heap.size w w') : RdP g B st w' := by
  obtain ⟨v, h, hs, hd, ho, hl, hB⟩ := hr
  exact ⟨v, (hb.block g (heap_lt h)).trans h, hs.keep hb, hd, ho, hl, hB⟩
theorem cell0 {w : World} {g : Nat} {x y : Value} {t : TypeId} (h : w.heap[g]? = some (.cells #[x, y] t (0, 0))) : w.cell? ⟨g, 0, none⟩ = some x := by simp [World.cell?, h]
theorem cell1 {w : World} {g : Nat} {x y : Value} {t : TypeId} (h : w.heap[g]? = some (.cells #[x, y] t (0, 0))) : w.cell? ⟨g, 1, none⟩ = some y := by simp [World.cell?, h]
theorem froz {w : World} {g : Nat} {x y : Value} {t : TypeId} (h : w.heap[g]? = some (.cells #[x, y] t (0, 0))) (i : Nat) : w.frozen? ⟨g, i, none⟩ = false := by simp [World.frozen?, h]
set_option maxRecDepth 100000 in
set_option maxHeartbeats 400000 in
theorem left_any (g B : Nat) (st : Option (List Int)) (w : World) (h : RdP g B st w) :
    Calls Tryz.prog 145 #[.pointer (some ⟨g, 0, none⟩)] w fun e w' => e = .returned (.int .i64 (st.getD []).length) ∧ w = w' := by
  obtain ⟨v, hb, ⟨ao, c, rfl, _⟩, _⟩ := h
  have c0 := cell0 hb
  have q : ∀ (w : World) (a : Option Addr), (binOp .eql 175 (.pointer a) (.pointer none)).run Tryz.prog w = .ok (.bool a.isNone) w := fun w a => by cases a <;> rfl
  go_enter Tryz.func145, Tryz.ntmps145
  go_wp2
  go_ret
  exact ⟨rfl, rfl⟩
set_option maxHeartbeats 400000 in
theorem bad_any (g B : Nat) (st : Option (List Int)) (w : World) (h : RdP g B st w) :
    Calls Tryz.prog 144 #[.pointer (some ⟨g, 0, none⟩)] w fun e w' => e = .returned (.bool st.isNone) ∧ w = w' := by
  obtain ⟨v, hb, _⟩ := h
  have c1 := cell1 hb
  go_enter Tryz.func144, Tryz.ntmps144
  go_wp2
  go_ret
  exact ⟨rfl, rfl⟩
set_option maxHeartbeats 400000 in
theorem left_nil (w : World) :
    Calls Tryz.prog 145 #[.pointer none] w fun e w' => e = .returned (.int .i64 0) ∧ w = w' := by
  go_enter Tryz.func145, Tryz.ntmps145
  go_wp2
  go_ret
  exact ⟨rfl, rfl⟩
set_option maxHeartbeats 400000 in
theorem bad_nil (w : World) :
    Calls Tryz.prog 144 #[.pointer none] w fun e w' => e = .returned (.bool true) ∧ w = w' := by
  go_enter Tryz.func144, Tryz.ntmps144
  go_wp2
  go_ret
  exact ⟨rfl, rfl⟩
set_option maxHeartbeats 400000 in
theorem spoil_nil (w : World) :
    Calls Tryz.prog 142 #[.pointer none] w fun e w' => e = .returned (.tuple #[]) ∧ w = w' := by
  go_enter Tryz.func142, Tryz.ntmps142
  go_wp2
  go_end0
  exact ⟨rfl, rfl⟩
theorem two_set {w : World} {g : Nat} {x y : Value} {t : TypeId} (h : w.heap[g]? = some (.cells #[x, y] t (0, 0))) (a b : Value) :
    ((w.setCell ⟨g, 0, none⟩ a).setCell ⟨g, 1, none⟩ b).heap[g]? = some (.cells #[a, b] t (0, 0)) := by
  have hl := heap_lt h
  have hg : w.heap[g] = .cells #[x, y] t (0, 0) := by simpa [Array.getElem?_eq_getElem hl] using h
  simp [World.setCell, Array.getElem?_modify, h]
theorem one_set {w : World} {g : Nat} {x y : Value} {t : TypeId} (h : w.heap[g]? = some (.cells #[x, y] t (0, 0))) (a : Value) :
    (w.setCell ⟨g, 0, none⟩ a).heap[g]? = some (.cells #[a, y] t (0, 0)) := by
  have hl := heap_lt h
  simp [World.setCell, Array.getElem?_modify, h]
theorem grown_set (w : World) (g i : Nat) (a : Value) : w.grownBy (w.setCell ⟨g, i, none⟩ a) (some g) :=
  ⟨rfl, rfl, rfl, by simp [World.setCell], fun k _ hne => Below.heap_setCell _ _ _ _ (fun e => hne (by rw [e]))⟩
theorem grown_trans {a b c : World} {r : Option Nat} (h : a.grownBy b r) (k : b.grownBy c r) : a.grownBy c r :=
  ⟨k.os.trans h.os, k.tape.trans h.tape, k.output.trans h.output, Nat.le_trans h.size k.size, fun i hi hne => (k.block i (Nat.lt_of_lt_of_le hi h.size) hne).trans (h.block i hi hne)⟩
theorem grown_drewN {a b : World} {r : Option Nat} (h : a.grownBy b r) (n : Nat) : a.grownBy (b.drewN n) r := grown_trans h ⟨rfl, rfl, rfl, Nat.le_refl _, fun _ _ _ => rfl⟩
set_option maxHeartbeats 400000 in
theorem spoil_any (g B : Nat) (st : Option (List Int)) (w : World) (h : RdP g B st w) :
    Calls Tryz.prog 142 #[.pointer (some ⟨g, 0, none⟩)] w fun e w' => e = .returned (.tuple #[]) ∧ RdP g B none w' ∧ w.grownBy w' (some g) := by
  obtain ⟨v, hb, _, _, _, _, hB⟩ := h
  have c0 := cell0 hb
  have c1 := cell1 hb
  have f0 := froz hb 0
  have f1 := froz hb 1
  have K : Hid (RdP g B none ((w.setCell ⟨g, 0, none⟩ (.slice none 0 0)).setCell ⟨g, 1, none⟩ (.bool true)) ∧ w.grownBy ((w.setCell ⟨g, 0, none⟩ (.slice none 0 0)).setCell ⟨g, 1, none⟩ (.bool true)) (some g)) :=
    Lib.hid ⟨⟨_, two_set hb _ _, Sees.nil _, (fun d h => by cases h), (fun x h => by cases h), Nat.zero_le _, hB⟩, grown_trans (grown_set w g 0 _) (grown_set _ g 1 _)⟩
  clear hb
  go_enter Tryz.func142, Tryz.ntmps142
  go_wp2
  go_end0
  exact ⟨rfl, K.out⟩
theorem rdB_no {st : Option (List Int)} {n : Int} (h : ¬ (st.isNone = false ∧ 0 ≤ n ∧ n ≤ (st.getD []).length)) : rdB st n = ([], none) := by
  cases st with
  | none => rfl
  | some l => simp only [rdB]; rw [if_neg (fun hh => h ⟨rfl, hh.1, hh.2⟩)]
theorem rdB_yes {l : List Int} {n : Nat} (h : n ≤ l.length) : rdB (some l) n = (l.take n, some (l.drop n)) := by
  simp only [rdB]; rw [if_pos ⟨by omega, by omega⟩, Int.toNat_natCast]
set_option maxHeartbeats 1000000 in
theorem bytes_no (g B : Nat) (st : Option (List Int)) (n : Int) (w : World) (h : RdP g B st w) (hno : ¬ (st.isNone = false ∧ 0 ≤ n ∧ n ≤ (st.getD []).length)) :
    Calls Tryz.prog 143 #[.pointer (some ⟨g, 0, none⟩), .int .i64 n] w fun e w' => e = .returned (.slice none 0 0) ∧ RdP g B none w' ∧ w.grownBy w' (some g) := by
  have H1 := Lib.hid (bad_any g B st _ h)
  have H2 := Lib.hid (left_any g B st _ h)
  have H3 := Lib.hid (spoil_any g B st _ h)
  clear h
  by_cases h0 : n < 0
  · have d0 : decide (n < 0) = true := by simpa using h0
    clear hno
    go_enter Tryz.func143, Tryz.ntmps143
    go_wp2_with fail
    refine H3.out.mono ?_; rintro e w1 ⟨rfl, h1⟩
    go_wp2_with fail
    go_ret
    exact ⟨rfl, h1⟩
  · have d0 : decide (n < 0) = false := by simpa using h0
    by_cases h1 : ((st.getD []).length : Int) < n
    · have d1 : decide (((st.getD []).length : Int) < n) = true := by simpa using h1
      clear hno
      go_enter Tryz.func143, Tryz.ntmps143
      go_wp2_with fail
      refine H2.out.mono ?_; rintro e w1 ⟨rfl, rfl⟩
      go_wp2_with fail
      refine H3.out.mono ?_; rintro e w1 ⟨rfl, h1⟩
      go_wp2_with fail
      go_ret
      exact ⟨rfl, h1⟩
    · have d1 : decide (((st.getD []).length : Int) < n) = false := by simpa using h1
      have hb : st.isNone = true := by
        cases hs : st.isNone with
        | true => rfl
        | false => exact absurd ⟨hs, by omega, by omega⟩ hno
      rw [hb] at H1
      clear hno
      go_enter Tryz.func143, Tryz.ntmps143
      go_wp2_with fail
      refine H2.out.mono ?_; rintro e w1 ⟨rfl, rfl⟩
      go_wp2_with fail
      refine H1.out.mono ?_; rintro e w1 ⟨rfl, rfl⟩
      go_wp2_with fail
      refine H3.out.mono ?_; rintro e w1 ⟨rfl, h1⟩
      go_wp2_with fail
      go_ret
      exact ⟨rfl, h1⟩
set_option maxHeartbeats 1000000 in
theorem bytes_nil (n : Int) (w : World) :
    Calls Tryz.prog 143 #[.pointer none, .int .i64 n] w fun e w' => e = .returned (.slice none 0 0) ∧ w = w' := by
  by_cases h0 : n < 0
  · have d0 : decide (n < 0) = true := by simpa using h0
    go_enter Tryz.func143, Tryz.ntmps143
    go_wp2_with fail
    refine (spoil_nil _).mono ?_; rintro e w1 ⟨rfl, rfl⟩
    go_wp2_with fail
    go_ret
    exact ⟨rfl, rfl⟩
  · have d0 : decide (n < 0) = false := by simpa using h0
    by_cases h1 : 0 < n
    · have d1 : decide (0 < n) = true := by simpa using h1
      go_enter Tryz.func143, Tryz.ntmps143
      go_wp2_with fail
      refine (left_nil _).mono ?_; rintro e w1 ⟨rfl, rfl⟩
      go_wp2_with fail
      refine (spoil_nil _).mono ?_; rintro e w1 ⟨rfl, rfl⟩
      go_wp2_with fail
      go_ret
      exact ⟨rfl, rfl⟩
    · have d1 : decide (0 < n) = false := by simpa using h1
      go_enter Tryz.func143, Tryz.ntmps143
      go_wp2_with fail
      refine (left_nil _).mono ?_; rintro e w1 ⟨rfl, rfl⟩
      go_wp2_with fail
      refine (bad_nil _).mono ?_; rintro e w1 ⟨rfl, rfl⟩
      go_wp2_with fail
      refine (spoil_nil _).mono ?_; rintro e w1 ⟨rfl, rfl⟩
      go_wp2_with fail
      go_ret
      exact ⟨rfl, rfl⟩
theorem bytes_end {g B : Nat} {l : List Int} {n : Nat} {w : World} {ao : Option Addr} {c : Nat} {t0 : TypeId} (ht : t0 = 208) (hb : w.heap[g]? = some (.cells #[.slice ao l.length c, .bool false] t0 (0, 0))) (hc : ∀ a, ao = some a → ∀ i, i < l.length → w.cell? (a.add i) = some (.int .u8 (l.getD i 0)))
    (hlc : l.length ≤ c) (hnil : ao = none → l = []) (hd : ∀ d, (Value.slice ao l.length c).ownBlock = some d → d < B) (ho : okB l) (hl : l.length ≤ 100000000000000) (hB : B ≤ g) (hn : n ≤ l.length)
    (ao' : Option Addr) (h' : ao' = ao.map (fun x => x.add n) ∨ c = n ∧ ao' = ao) (v : Value) (hv : v = .slice ao' (l.length - n) (c - n)) :
    Sees (w.setCell ⟨g, 0, none⟩ v) (.slice ao n n) (l.take n) ∧ (∀ d, (Value.slice ao n n).ownBlock = some d → d < B) ∧ RdP g B (some (l.drop n)) (w.setCell ⟨g, 0, none⟩ v) ∧ w.grownBy (w.setCell ⟨g, 0, none⟩ v) (some g) := by
  subst hv ht
  have hcc : ∀ a, ao = some a → ∀ i, i < l.length → (w.setCell ⟨g, 0, none⟩ (.slice ao' (l.length - n) (c - n))).cell? (a.add i) = some (.int .u8 (l.getD i 0)) := fun a ha i hi => by
    rw [World.cell?_of_block (w := w) (Below.heap_setCell _ _ _ _ (by
      have h1 := hd a.block (by subst ha; rfl)
      rw [add_block]; simp only []; omega))]
    exact hc a ha i hi
  refine ⟨⟨ao, n, by rw [List.length_take, Nat.min_eq_left hn], by rw [List.length_take]; omega, fun h => by rw [hnil h]; exact List.take_nil, fun a ha i hi => ?_⟩, fun d h => hd d (by cases ao with | none => cases h | some a => exact h), ?_, grown_set _ _ _ _⟩
  · rw [List.length_take] at hi
    rw [hcc a ha i (by omega)]
    simp only [List.getD, List.getElem?_take, if_pos (show i < n by omega)]
  · refine ⟨_, one_set hb _, ⟨ao', c - n, by rw [Option.getD_some, List.length_drop], by rw [Option.getD_some, List.length_drop]; omega, fun h => ?_, fun a ha i hi => ?_⟩, fun d h => hd d ?_, fun x hx => ho x (List.mem_of_mem_drop hx), by rw [Option.getD_some, List.length_drop]; omega, hB⟩
    · rcases h' with h' | ⟨h1, h'⟩
      · rw [h] at h'
        cases ao with
        | none => rw [hnil rfl]; simp
        | some a => cases h'
      · rw [Option.getD_some]; exact List.drop_eq_nil_of_le (by omega)
    · rw [Option.getD_some, List.length_drop] at hi
      rcases h' with h' | ⟨h1, h'⟩
      · cases ao with
        | none => rw [h'] at ha; cases ha
        | some b =>
          rw [h'] at ha
          cases ha
          rw [Addr.add_add, hcc b rfl (n + i) (by omega)]
          simp [List.getD, List.getElem?_drop]
      · omega
    · rcases h' with h' | ⟨h1, h'⟩
      · cases ao with
        | none => rw [h'] at h; cases h
        | some b =>
          rw [h'] at h
          simp only [Option.map_some, Value.ownBlock, add_block] at h ⊢
          exact h
      · rw [h'] at h
        cases ao with
        | none => cases h
        | some b => exact h
set_option maxHeartbeats 1000000 in
theorem bytes_yes (g B : Nat) (l : List Int) (n : Nat) (w : World) (h : RdP g B (some l) w) (hn : n ≤ l.length) :
    Calls Tryz.prog 143 #[.pointer (some ⟨g, 0, none⟩), .int .i64 n] w fun e w' => ∃ v, e = .returned v ∧ Sees w' v (l.take n) ∧ (∀ d, v.ownBlock = some d → d < B) ∧ RdP g B (some (l.drop n)) w' ∧ w.grownBy w' (some g) := by
  have H1 := Lib.hid (bad_any g B (some l) _ h)
  have H2 := Lib.hid (left_any g B (some l) _ h)
  obtain ⟨v, hb, ⟨ao, c, rfl, hlc, hnil, hc⟩, hd, ho, hl, hB⟩ := h
  simp only [Option.getD_some] at hlc hnil hc hd ho hl hb
  have c0 := cell0 hb
  have f0 := froz hb 0
  have d0 : decide ((n : Int) < 0) = false := by simp
  have d1 : decide ((l.length : Int) < (n : Int)) = false := by simp; omega
  have A1 : Aside (w.heap[g]? = some (.cells #[.slice ao l.length c, .bool (some l).isNone] 208 (0, 0))) := hb
  have A2 : Aside (∀ a, ao = some a → ∀ i, i < l.length → w.cell? (a.add i) = some (.int .u8 (l.getD i 0))) := hc
  clear hb hc
  go_enter Tryz.func143, Tryz.ntmps143
  go_wp2_with fail
  refine H2.out.mono ?_; rintro e w1 ⟨rfl, rfl⟩
  go_wp2_with fail
  refine H1.out.mono ?_; rintro e w1 ⟨rfl, rfl⟩
  go_wp2_with fail
  all_goals go_ret
  all_goals refine ⟨_, rfl, ?_⟩
  · exact bytes_end rfl A1 A2 hlc hnil hd ho hl hB hn _ (Or.inr ⟨by assumption, rfl⟩) _ (by have hh : c = n := (by assumption); rw [hh, Nat.sub_self])
  · exact bytes_end rfl A1 A2 hlc hnil hd ho hl hB hn _ (Or.inl rfl) _ rfl
theorem bytes_any (g B : Nat) (st : Option (List Int)) (n : Int) (w : World) (h : RdP g B st w) :
    Calls Tryz.prog 143 #[.pointer (some ⟨g, 0, none⟩), .int .i64 n] w fun e w' => ∃ v, e = .returned v ∧ Sees w' v (rdB st n).1 ∧ (∀ d, v.ownBlock = some d → d < B) ∧ RdP g B (rdB st n).2 w' ∧ w.grownBy w' (some g) := by
  by_cases hy : st.isNone = false ∧ 0 ≤ n ∧ n ≤ (st.getD []).length
  · obtain ⟨h1, h2, h3⟩ := hy
    cases st with
    | none => cases h1
    | some l =>
      obtain ⟨k, rfl⟩ := Int.eq_ofNat_of_zero_le h2
      have hk : k ≤ l.length := by rw [Option.getD_some] at h3; omega
      rw [rdB_yes hk]
      exact bytes_yes g B l k w h hk
  · rw [rdB_no hy]
    exact (bytes_no g B st n w h hy).mono fun e w' ⟨he, hr, hg⟩ => ⟨_, he, Sees.nil _, (fun d hd => by cases hd), hr, hg⟩
theorem rdB_len (st : Option (List Int)) (n : Int) : ((rdB st n).1.length : Int) ≤ max n 0 := by
  cases st with
  | none => simp [rdB]; omega
  | some l =>
    simp only [rdB]
    split
    · simp only [List.length_take]; omega
    · simp; omega
theorem rdB_ok {st : Option (List Int)} (h : okB (st.getD [])) (n : Int) : okB (rdB st n).1 := by
  cases st with
  | none => intro x hx; cases hx
  | some l =>
    simp only [rdB]
    split
    · exact h.take _
    · intro x hx; cases hx
theorem numBE_snoc (l : List Int) (c : Int) : numBE (l ++ [c]) = numBE l * 256 + c := by simp [numBE]
theorem numBE_bdA : ∀ (l : List Int) (a : Int), okB l → 0 ≤ a → 0 ≤ l.foldl (fun n c => n * 256 + c) a ∧ l.foldl (fun n c => n * 256 + c) a < (a + 1) * 256 ^ l.length
  | [], a, _, h => by simp; omega
  | c :: l, a, ho, h => by
    have h2 := ho c (by simp)
    have ih := numBE_bdA l (a * 256 + c) (fun x hx => ho x (by simp [hx])) (by omega)
    rw [List.foldl_cons, List.length_cons, Int.pow_succ]
    refine ⟨ih.1, Int.lt_of_lt_of_le ih.2 ?_⟩
    rw [Int.mul_comm (256 ^ l.length), ← Int.mul_assoc]
    exact Int.mul_le_mul_of_nonneg_right (by omega) (Int.le_of_lt (Int.pow_pos (by omega)))
theorem numBE_bd (l : List Int) (h : okB l) : 0 ≤ numBE l ∧ numBE l < 256 ^ l.length := by
  have := numBE_bdA l 0 h (by omega)
  rwa [Int.zero_add, Int.one_mul] at this
theorem take_snocI (l : List Int) (i : Nat) (h : i < l.length) : l.take (i + 1) = l.take i ++ [l.getD i 0] := by
  rw [List.take_add_one, List.getElem?_eq_getElem h]
  simp [List.getD, List.getElem?_eq_getElem h]
theorem getD_ok {l : List Int} (h : okB l) {i : Nat} (hi : i < l.length) : 0 ≤ l.getD i 0 ∧ l.getD i 0 ≤ 255 := by
  simp only [List.getD, List.getElem?_eq_getElem hi, Option.getD_some]
  exact h _ (List.getElem_mem hi)
theorem getD_get {l : List Int} {i : Nat} (h : i < l.length) : l.getD i 0 = l[i] := by simp [List.getD, List.getElem?_eq_getElem h]
theorem or_byte (a c : Int) (ha : 0 ≤ a) (ha' : a * 256 < 18446744073709551616) (hc : 0 ≤ c) (hc' : c ≤ 255) : bits .or .u64 (a * 256) (IntKind.u64.wrap c) = a * 256 + c := by
  obtain ⟨A, rfl⟩ := Int.eq_ofNat_of_zero_le ha
  obtain ⟨C, rfl⟩ := Int.eq_ofNat_of_zero_le hc
  rw [IntWalk.u64_in _ ⟨by omega, by omega⟩, u64_or _ _ (by omega) (by omega) (by omega) (by omega), Int.toNat_natCast, show ((A : Int) * 256).toNat = A <<< 8 from by rw [Nat.shiftLeft_eq]; omega,
    ← Nat.shiftLeft_add_eq_or_of_lt (show C < 2 ^ 8 by omega), Nat.shiftLeft_eq]
  omega
theorem pow256 (i : Nat) (h : i ≤ 7) : (256 : Int) ^ i ≤ 72057594037927936 := by
  have h1 : (256 : Nat) ^ i ≤ 256 ^ 7 := Nat.pow_le_pow_right (by omega) h
  have h2 : ((256 ^ i : Nat) : Int) ≤ ((256 ^ 7 : Nat) : Int) := Int.ofNat_le.2 h1
  simpa using h2
set_option maxHeartbeats 1000000 in
theorem u_any (g B : Nat) (st : Option (List Int)) (k : Int) (w : World) (h : RdP g B st w) :
    Calls Tryz.prog 96 #[.pointer (some ⟨g, 0, none⟩), .int .i64 k] w fun e w' => e = .returned (.int .u64 (rdU st k).1) ∧ RdP g B (rdU st k).2 w' ∧ w.grownBy w' (some g) := by
  by_cases hk : wOk k = true
  · have HM : Hid (∀ w, Calls Tryz.prog 141 #[.int .i64 k] w fun e w' => e = .returned (.bool true) ∧ w = w') := Lib.hid (fun w => by rw [← hk]; exact mayWidth_any k w)
    have HP : Hid (rdU st k = (numBE (rdB st k).1, (rdB st k).2)) := Lib.hid (by unfold rdU; rw [if_pos hk])
    have HB := Lib.hid (bytes_any g B st k w h)
    obtain ⟨k0, k1⟩ : 1 ≤ k ∧ k ≤ 8 := by unfold wOk at hk; exact of_decide_eq_true hk
    have hlen := rdB_len st k
    have hok : okB (rdB st k).1 := by obtain ⟨_, _, _, _, ho, _⟩ := h; exact rdB_ok ho k
    obtain ⟨t, ht⟩ : ∃ t, (rdB st k).1 = t := ⟨_, rfl⟩
    rw [ht] at hlen hok HP HB
    have HO := Lib.hid hok
    clear hk h hok ht
    go_enter Tryz.func96, Tryz.ntmps96
    go_wp2_with fail
    refine (HM.out _).mono ?_; rintro e w1 ⟨rfl, rfl⟩
    go_wp2_with fail
    refine HB.out.mono ?_; rintro e w1 ⟨v, rfl, ⟨ao, c, rfl, hlc, hnil, hc⟩, -, hR⟩
    have A1 : Aside (∀ a, ao = some a → ∀ i, i < t.length → w1.cell? (a.add i) = some (.int .u8 (t.getD i 0))) := hc
    clear hc
    go_wp2_with fail
    go_loop [5, 7, 17] (fun n _ j => ∃ i : Nat, i ≤ t.length ∧ j = .int .i64 i ∧ n = .int .u64 (numBE (t.take i))) (fun _ _ j => t.length - (intOf j).toNat)
    case atStart => exact ⟨0, by omega, rfl, rfl⟩
    case round =>
      obtain ⟨i, hi, rfl, rfl⟩ := hrel
      by_cases hlt : i < t.length
      · obtain ⟨a, rfl⟩ : ∃ a, ao = some a := by
          cases ao with
          | none => rw [hnil rfl] at hlt; simp at hlt
          | some a => exact ⟨a, rfl⟩
        have hcell := A1 a rfl i hlt
        obtain ⟨b0, b1⟩ := getD_ok HO.out hlt
        obtain ⟨n0, n1⟩ := numBE_bd (t.take i) (HO.out.take i)
        have n2 := pow256 (t.take i).length (by rw [List.length_take]; omega)
        go_wp2
        go_round
        case rel =>
          refine ⟨i + 1, by omega, by go_num, ?_⟩
          rw [take_snocI t i hlt, numBE_snoc]
          rw [getD_get hlt] at b0 b1 ⊢
          exact congrArg (Value.int .u64) (or_byte _ _ n0 (by rw [List.length_take, Nat.min_eq_left hi] at n1 n2; omega) b0 b1)
        case measure => simp [intOf]; omega
      · have e : t.take i = t := List.take_of_length_le (by omega)
        have HV : Hid ((rdU st k).1 = numBE (t.take i) ∧ (rdU st k).2 = (rdB st k).2) := Lib.hid (by rw [HP.out, e]; exact ⟨rfl, rfl⟩)
        clear e
        go_wp2
        go_ret
        rw [HV.out.1, HV.out.2]
        exact ⟨rfl, hR⟩
  · have hkf : wOk k = false := by simpa using hk
    have HM : Hid (∀ w, Calls Tryz.prog 141 #[.int .i64 k] w fun e w' => e = .returned (.bool false) ∧ w = w') := Lib.hid (fun w => by rw [← hkf]; exact mayWidth_any k w)
    have HP : Hid (rdU st k = (0, none)) := Lib.hid (by unfold rdU; rw [if_neg hk])
    have HS := Lib.hid (spoil_any g B st w h)
    clear hk hkf h
    go_enter Tryz.func96, Tryz.ntmps96
    go_wp2_with fail
    refine (HM.out _).mono ?_; rintro e w1 ⟨rfl, rfl⟩
    go_wp2_with fail
    refine HS.out.mono ?_; rintro e w1 ⟨rfl, hR⟩
    go_wp2_with fail
    go_ret
    rw [HP.out]
    exact ⟨rfl, hR⟩
theorem conv_sees {w : World} {v : Value} {xs : List Int} (h : Sees w v xs) : (convert 70 9 v).run Tryz.prog w = .ok (.string (strOfNums xs)) w := by
  obtain ⟨ao, c, rfl, hlc, hnil, hc⟩ := h
  cases ao with
  | none =>
    obtain rfl := hnil rfl
    exact run_convert_bytes_nil w 70 5 Tryz.underlying70 Tryz.underlying5 _ _ 9 Tryz.underlying9
  | some a =>
    have hl : (loadCells a xs.length).run Tryz.prog w = .ok (xs.map (Value.int .u8)).toArray w := by
      have := run_loadCells_list (P := Tryz.prog) w a (xs.map (Value.int .u8)) (fun j v hj => by
        have hjl : j < xs.length := by
          rcases Nat.lt_or_ge j xs.length with h | h
          · exact h
          · simp [List.getElem?_eq_none (show (xs.map (Value.int .u8)).length ≤ j by simpa using h)] at hj
        rw [hc a rfl j hjl]
        simp [List.getElem?_eq_getElem hjl] at hj
        subst hj
        simp [List.getD, List.getElem?_eq_getElem hjl])
      simpa using this
    rw [run_convert_bytes_string w _ _ _ _ _ _ Tryz.underlying70 Tryz.underlying5 Tryz.underlying9, run_bytesToString w _ _ _ xs hl, foldl_push_bytes]
    simp [strOfNums, ByteArray.empty, ByteArray.emptyWithCapacity]
    rfl
set_option maxHeartbeats 1000000 in
theorem new_any (b : Value) (xs : List Int) (w : World) (h : Sees w b xs) (hok : okB xs) (hl : xs.length ≤ 100000000000000) :
    Calls Tryz.prog 95 #[b] w fun e w' => ∃ g, e = .returned (.pointer (some ⟨g, 0, none⟩)) ∧ RdP g g (some xs) w' ∧ w.heap.size ≤ g ∧ Below w.heap.size w w' := by
  have HC := Lib.hid (clone_any b xs w h (by omega))
  go_enter Tryz.func95, Tryz.ntmps95
  go_wp2_with fail
  refine HC.out.mono ?_; rintro e w1 ⟨v1, rfl, ho1, hb1⟩
  obtain ⟨ao1, c1, rfl, _⟩ := ho1.sees
  go_wp2_with fail
  go_ret
  refine ⟨w1.heap.size, rfl, ⟨.slice ao1 xs.length c1, ?_, ?_, ?_, hok, hl, Nat.le_refl _⟩, hb1.size, belAlloc hb1 _⟩
  · show (w1.heap.push _)[w1.heap.size]? = _
    simp
  · exact ho1.sees.keep (belNew _ _)
  · exact fun d hd => (ho1.lt d hd).2
theorem rdU_ok {g B : Nat} {st : Option (List Int)} {w : World} (h : RdP g B st w) (k : Int) : 0 ≤ (rdU st k).1 ∧ (rdU st k).1 < 256 ^ k.toNat := by
  obtain ⟨_, _, _, _, ho, _⟩ := h
  unfold rdU
  split
  · have h1 := numBE_bd _ (rdB_ok ho k)
    have h2 := rdB_len st k
    refine ⟨h1.1, Int.lt_of_lt_of_le h1.2 ?_⟩
    have h3 : (256 : Nat) ^ (rdB st k).1.length ≤ 256 ^ k.toNat := Nat.pow_le_pow_right (by omega) (by omega)
    have h4 : ((256 ^ (rdB st k).1.length : Nat) : Int) ≤ ((256 ^ k.toNat : Nat) : Int) := Int.ofNat_le.2 h3
    simpa using h4
  · exact ⟨Int.le_refl _, Int.pow_pos (by omega)⟩
theorem Owns.at {w : World} {B : Nat} {v : Value} {xs : List Int} (h : Owns w B v xs) (hx : xs ≠ []) :
    ∃ g cap, v = .slice (some ⟨g, 0, none⟩) xs.length cap ∧ B ≤ g ∧ g < w.heap.size ∧ xs.length ≤ cap ∧ (∀ i, i < xs.length → w.cell? ⟨g, i, none⟩ = some (.int .u8 (xs.getD i 0))) ∧ ∀ i, w.frozen? ⟨g, i, none⟩ = false := by
  have h0 := h
  obtain ⟨_, ⟨rfl, hn⟩ | ⟨g, cap, cur, rfl, hB, hb, hnc, _, _, _⟩⟩ := h
  · exact absurd (List.eq_nil_of_length_eq_zero hn) hx
  · refine ⟨g, cap, rfl, hB, heap_lt hb, hnc, fun i hi => ?_, fun i => World.ownsRow.frozenAt h0 i⟩
    rw [World.ownsRow.cellAt h0 i (by omega), getD_cells hi]
theorem Owns.le {w : World} {B B' : Nat} {v : Value} {xs : List Int} (h : Owns w B v xs) (hb : B' ≤ B) : Owns w B' v xs := ⟨h.1, h.2.imp id fun ⟨a, b, c, d, e, f⟩ => ⟨a, b, c, d, Nat.le_trans hb e, f⟩⟩
theorem Owns.keep {w w' : World} {B : Nat} {v : Value} {xs : List Int} (h : Owns w B v xs) (hb : Below w.heap.size w w') : Owns w' B v xs :=
  ⟨h.1, h.2.imp id fun ⟨g, cap, cur, e, hB, hg, r⟩ => ⟨g, cap, cur, e, hB, (hb.block g (heap_lt hg)).trans hg, r⟩⟩
end
section
open Go.RowKit
def doneB (st : Option (List Int)) : Bool := !st.isNone && ((st.getD []).length : Int) == 0
set_option maxHeartbeats 400000 in
theorem done_any (g B : Nat) (st : Option (List Int)) (w : World) (h : RdP g B st w) :
    Calls Tryz.prog 98 #[.pointer (some ⟨g, 0, none⟩)] w fun e w' => e = .returned (.bool (doneB st)) ∧ w = w' := by
  have H1 := Lib.hid (bad_any g B st _ h)
  have H2 := Lib.hid (left_any g B st _ h)
  clear h
  unfold doneB
  cases hs : st.isNone with
  | true =>
    rw [hs] at H1
    go_enter Tryz.func98, Tryz.ntmps98
    go_wp2_with fail
    refine H1.out.mono ?_; rintro e w1 ⟨rfl, rfl⟩
    go_wp2_with fail
    go_ret
    exact ⟨rfl, rfl⟩
  | false =>
    rw [hs] at H1
    go_enter Tryz.func98, Tryz.ntmps98
    go_wp2_with fail
    refine H1.out.mono ?_; rintro e w1 ⟨rfl, rfl⟩
    go_wp2_with fail
    refine H2.out.mono ?_; rintro e w1 ⟨rfl, rfl⟩
    go_wp2_with fail
    go_ret
    exact ⟨by simp, rfl⟩
set_option maxHeartbeats 400000 in
theorem done_nil (w : World) :
    Calls Tryz.prog 98 #[.pointer none] w fun e w' => e = .returned (.bool false) ∧ w = w' := by
  go_enter Tryz.func98, Tryz.ntmps98
  go_wp2_with fail
  refine (bad_nil _).mono ?_; rintro e w1 ⟨rfl, rfl⟩
  go_wp2_with fail
  go_ret
  exact ⟨rfl, rfl⟩
set_option maxHeartbeats 400000 in
theorem u_nil (k : Int) (w : World) :
    Calls Tryz.prog 96 #[.pointer none, .int .i64 k] w fun e w' => e = .returned (.int .u64 0) ∧ w = w' := by
  by_cases hk : wOk k = true
  · have HM : Hid (∀ w, Calls Tryz.prog 141 #[.int .i64 k] w fun e w' => e = .returned (.bool true) ∧ w = w') := Lib.hid (fun w => by rw [← hk]; exact mayWidth_any k w)
    clear hk
    go_enter Tryz.func96, Tryz.ntmps96
    go_wp2_with fail
    refine (HM.out _).mono ?_; rintro e w1 ⟨rfl, rfl⟩
    go_wp2_with fail
    refine (bytes_nil _ _).mono ?_; rintro e w1 ⟨rfl, rfl⟩
    go_wp2_with fail
    refine wp_loop_rounds 1 ?_
    rw [rounds_succ]
    go_wp2
    go_ret
    exact ⟨rfl, rfl⟩
  · have hkf : wOk k = false := by simpa using hk
    have HM : Hid (∀ w, Calls Tryz.prog 141 #[.int .i64 k] w fun e w' => e = .returned (.bool false) ∧ w = w') := Lib.hid (fun w => by rw [← hkf]; exact mayWidth_any k w)
    clear hk hkf
    go_enter Tryz.func96, Tryz.ntmps96
    go_wp2_with fail
    refine (HM.out _).mono ?_; rintro e w1 ⟨rfl, rfl⟩
    go_wp2_with fail
    refine (spoil_nil _).mono ?_; rintro e w1 ⟨rfl, rfl⟩
    go_wp2_with fail
    go_ret
    exact ⟨rfl, rfl⟩
end
section
open Go.RowKit
theorem set_zero (m : Nat) (l : List Int) (u : Int) : (List.replicate (m + 1) (0 : Int) ++ l).set m u = List.replicate m 0 ++ u :: l := by
  rw [List.replicate_succ', List.append_assoc, List.set_append_right _ _ (by simp)]
  simp
set_option maxHeartbeats 2000000 in
theorem refPut_any (n k : Int) (w : World) (hn : 0 ≤ n) (hn' : n < 18446744073709551616) :
    Calls Tryz.prog 75 #[.int .u64 n, .int .i64 k] w fun e w' => ∃ v, e = .returned v ∧ Owns w' w.heap.size v (putL n k) ∧ Below w.heap.size w w' := by
  obtain ⟨i0, hi, hz0, hz1, hz2⟩ := info_parts info8
  by_cases h0 : k < 1
  · have d0 : decide (k < 1) = true := by simpa using h0
    have HP : Hid (putL n k = []) := Lib.hid (by unfold putL wOk; rw [if_neg (by simp; omega)])
    go_enter Tryz.func75, Tryz.ntmps75
    go_wp2_with fail
    go_ret
    exact ⟨_, rfl, by rw [HP.out]; exact Owns.nil _ _, Below.refl _ _⟩
  · have d0 : decide (k < 1) = false := by simpa using h0
    by_cases h1 : 8 < k
    · have d1 : decide (8 < k) = true := by simpa using h1
      have HP : Hid (putL n k = []) := Lib.hid (by unfold putL wOk; rw [if_neg (by simp; omega)])
      go_enter Tryz.func75, Tryz.ntmps75
      go_wp2_with fail
      go_ret
      exact ⟨_, rfl, by rw [HP.out]; exact Owns.nil _ _, Below.refl _ _⟩
    · have d1 : decide (8 < k) = false := by simpa using h1
      obtain ⟨K, rfl⟩ := Int.eq_ofNat_of_zero_le (show 0 ≤ k by omega)
      have HP : Hid (putL n K = numBytes n K) := Lib.hid (by unfold putL wOk; rw [if_pos (by simp; omega), Int.toNat_natCast])
      have s0 : IntKind.i64.wrap ((K : Int) - 1) = K - 1 := IntWalk.i64_in _ (by omega)
      go_enter Tryz.func75, Tryz.ntmps75
      go_wp2_with (first | (refine wpList_make_full _ rfl _ _ 70 rfl w.heap.size 5 i0 (.int .u8 0) 1 Tryz.underlying70 hi hz0 hz1 .i64 .i64 K K K rfl rfl rfl rfl (by rw [hz2]; omega) (by unfold maxLen; omega) (Nat.le_refl _) ?_; intro w1 hown1 hgrow1) | go_in)
      have hown2 : w1.ownsRow w.heap.size 5 1 (.slice (some ⟨w.heap.size, 0, none⟩) K K) K (cells8 (List.replicate K 0 ++ numBytes n 0)) := by
        rw [numBytes, List.append_nil, cells8, List.map_replicate]
        simpa [toList_madeCells_one, Value.cells] using hown1
      have hb1 : Below w.heap.size w w1 := (Below.refl _ w).grown hgrow1 (Nat.le_refl _) (fun k hk => by cases hk)
      clear hown1 hgrow1
      go_loopw [0, 6] (fun x j wr => ∃ i : Nat, i ≤ K ∧ j = .int .i64 (K - 1 - i) ∧ x = .int .u64 (n / 256 ^ i) ∧ wr.ownsRow w.heap.size 5 1 (.slice (some ⟨w.heap.size, 0, none⟩) K K) K (cells8 (List.replicate (K - i) 0 ++ numBytes n i)) ∧ Below w.heap.size w wr)
        (fun _ j _ => (intOf j + 1).toNat)
      case atStart => exact ⟨0, by omega, by simp, by simp, hown2, hb1⟩
      case round =>
        obtain ⟨i, hi', hj, rfl, hown, hbel⟩ := hrel
        by_cases hlt : i < K
        · obtain ⟨m, rfl⟩ : ∃ m, K = i + 1 + m := ⟨K - i - 1, by omega⟩
          rw [show ((i + 1 + m : Nat) : Int) - 1 - i = m from by omega] at hj
          subst hj
          rw [show i + 1 + m - i = m + 1 from by omega] at hown
          have hc : wr.cell? ⟨w.heap.size, m, none⟩ = some (.int .u8 0) := by
            rw [World.ownsRow.cellAt hown m (by omega), getD_cells (by simp; omega)]
            simp [List.getD, List.getElem?_append]
          have hf := World.ownsRow.frozenAt hown m
          have hq : 0 ≤ n / 256 ^ i := Int.ediv_nonneg hn (Int.le_of_lt (Int.pow_pos (by omega)))
          have hq' : n / 256 ^ i < 18446744073709551616 := Int.lt_of_le_of_lt (Int.ediv_le_self _ hn) hn'
          go_wp2
          go_roundw
          case rel =>
            refine ⟨i + 1, by omega, by go_num, ?_, ?_, hbel.setCell (p := ⟨w.heap.size, m, none⟩) (Nat.le_refl _) _⟩
            · rw [Int.pow_succ, Int.ediv_ediv_of_nonneg (Int.le_of_lt (Int.pow_pos (by omega)))]
            · have h2 := World.ownsRow.stored hown m (.int .u8 (n / 256 ^ i % 256))
              rw [cells8, ← List.map_set, set_zero] at h2
              rw [show i + 1 + m - (i + 1) = m from by omega]
              exact h2.1
          case measure => simp [intOf]
        · obtain rfl : i = K := by omega
          rw [show (i : Int) - 1 - i = -1 from by omega] at hj
          subst hj
          rw [Nat.sub_self, List.replicate_zero, List.nil_append] at hown
          go_wp2
          go_ret
          refine ⟨_, rfl, ?_, hbel⟩
          rw [HP.out]
          unfold Owns
          rw [numBytes_length]
          exact hown
def strI (s : ByteArray) : List Int := s.data.toList.map fun b => (b.toNat : Int)
theorem byteCells_strI (s : ByteArray) : byteCells s = cells8 (strI s) := by unfold byteCells strI cells8; rw [List.map_map]; rfl
theorem strI_length (s : ByteArray) : (strI s).length = s.size := by unfold strI; rw [List.length_map, Array.length_toList]; rfl
theorem setCells_row (g : Nat) (e : TypeId) : ∀ (vs : List Value) (o : Nat) (w : World) (cur : Array Value), w.heap[g]? = some (.cells cur e (0, 0)) → o + vs.length ≤ cur.size →
    ∃ cur', (w.setCells g o vs).heap[g]? = some (.cells cur' e (0, 0)) ∧ cur'.size = cur.size ∧ cur'.toList.take (o + vs.length) = cur.toList.take o ++ vs ∧ w.grownBy (w.setCells g o vs) (some g)
  | [], o, w, cur, h, _ => ⟨cur, h, rfl, by simp, World.grownBy.refl _ _⟩
  | v :: r, o, w, cur, h, hl => by
    rw [List.length_cons] at hl
    have h1 : (w.setCell ⟨g, o, none⟩ v).heap[g]? = some (.cells (cur.setIfInBounds o v) e (0, 0)) := by
      simp [World.setCell, Array.getElem?_modify, h]
    obtain ⟨cur', h2, h3, h4, h5⟩ := setCells_row g e r (o + 1) _ _ h1 (by rw [Array.size_setIfInBounds]; omega)
    refine ⟨cur', h2, by rw [h3, Array.size_setIfInBounds], ?_, grown_trans (grown_set w g o v) h5⟩
    rw [List.length_cons, show o + (r.length + 1) = o + 1 + r.length from by omega, h4, Array.toList_setIfInBounds, List.take_set, List.take_add_one, List.append_cons]
    congr 1
    rw [List.getElem?_eq_getElem (by rw [Array.length_toList]; omega), Option.toList_some, List.set_append_right _ _ (by rw [List.length_take]; omega), List.length_take, show o - min o cur.toList.length = 0 from by (simp; omega)]
    rfl
/-- append of a string to bytes of the call's own. -/
theorem run_append_str (w : World) (B : Nat) (ty : TypeId) (g cap : Nat) (xs : List Int) (s : ByteArray) (hown : Owns w B (.slice (some ⟨g, 0, none⟩) xs.length cap) xs) (hb : (xs ++ strI s).length ≤ 140737488355328) (hB : B ≤ w.heap.size) :
    ∃ v' w', (Builtin.append_ #[70, 9] ty #[.slice (some ⟨g, 0, none⟩) xs.length cap, .string s]).run Tryz.prog w = .ok v' w' ∧ Owns w' B v' (xs ++ strI s) ∧ w.grownBy w' (some g) := by
  obtain ⟨i0, hi, hz0, hz1, hz2⟩ := info_parts info8
  have hown0 := hown
  obtain ⟨hxl, ⟨h0, _⟩ | ⟨g', cap', cur, he, hbg, hg, hnc, hcm, hcs, htake⟩⟩ := hown
  · cases h0
  cases he
  have hl : (xs ++ strI s).length = xs.length + s.size := by rw [List.length_append, strI_length]
  rw [hl] at hb
  have hsrc := Src.ofString (P := Tryz.prog) w Tryz.underlying9 s
  by_cases hroom : xs.length + s.size ≤ cap
  · have hc : ∀ j, j < (byteCells s).length → (w.cell? ⟨g, 0 + xs.length * i0.size + j, none⟩).isSome = true := fun j hj => by
      rw [byteCells_length] at hj
      rw [hz1, Nat.mul_one, Nat.zero_add]
      simp only [World.cell?, hg]
      simp
      omega
    have hf : ∀ j, j < (byteCells s).length → w.frozen? ⟨g, 0 + xs.length * i0.size + j, none⟩ = false := fun j _ => World.ownsRow.frozenAt hown0 _
    have hsrc' : Src Tryz.prog i0.size 9 (.string s) s.size (byteCells s) w := by rw [hz1]; exact hsrc
    have hr := run_append_room_src (P := Tryz.prog) w 70 9 ty 5 i0 Tryz.underlying70 hi g 0 xs.length cap (.string s) s.size (byteCells s) hsrc' hroom hc hf
    rw [hz1, Nat.mul_one, Nat.zero_add] at hr
    obtain ⟨cur', q1, q2, q3, q4⟩ := setCells_row g 5 (byteCells s) xs.length w cur hg (by rw [byteCells_length, hcs]; omega)
    refine ⟨_, _, hr, ⟨by rw [List.length_map, Nat.mul_one], Or.inr ⟨g, cap, cur', by rw [hl], hbg, q1, by rw [hl]; exact hroom, hcm, by rw [q2, hcs], ?_⟩⟩, q4⟩
    rw [hl, Nat.mul_one, ← byteCells_length s, q3]
    rw [Nat.mul_one] at htake
    rw [htake, byteCells_strI, cells8, ← List.map_append]
  · have hold : (Builtin.firstCells i0.size xs.length (.slice (some ⟨g, 0, none⟩) xs.length cap)).run Tryz.prog w.drew = .ok (cells8 xs).toArray w.drew := by
      rw [hz1]
      exact run_firstCells_some w.drew 1 xs.length ⟨g, 0, none⟩ xs.length cap (cells8 xs) (by simp) (fun j u hj => by simpa using World.ownsRow.cells hown0 (g := g) rfl j u hj)
    have hsrc' : Src Tryz.prog i0.size 9 (.string s) s.size (byteCells s) w := by rw [hz1]; exact hsrc
    have hr := run_append_grow_src (P := Tryz.prog) w 70 9 ty 5 i0 (.int .u8 0) Tryz.underlying70 hi hz0 (some ⟨g, 0, none⟩) xs.length cap (cells8 xs) hold (.string s) s.size (byteCells s) hsrc' (by omega) (by omega) (growslice_fits (by omega) (by rw [hz2]; omega))
    have hge := grownCap_ge w (xs.length + s.size) cap 5
    have hcm2 : grownCap w (xs.length + s.size) cap 5 ≤ maxLen := grownCap_le_maxLen w _ _ _ (by unfold maxLen; omega)
    refine ⟨_, _, hr, ⟨by rw [List.length_map, Nat.mul_one], Or.inr ⟨w.heap.size, _, _, by rw [hl], hB, heap_alloc_new w.drew _, by rw [hl]; exact hge, hcm2, ?_, ?_⟩⟩, ⟨rfl, rfl, rfl, by simp, fun k hk _ => Below.heap_alloc w.drew _ k hk⟩⟩
    · simp only [Array.size_append, List.size_toArray, List.length_append, byteCells_length, size_zeroCells, List.length_map]
      rw [show (Value.int .u8 0).cells.size = 1 from rfl]
      omega
    · rw [Array.toList_append, List.toList_toArray, byteCells_strI, cells8, cells8, ← List.map_append, Nat.mul_one]
      exact List.take_left' (by rw [List.length_map])
theorem wpList_append_str {w : World} {ops : Array Oper} {rest : List Oper} {o : Oper} {a : Act} {Q : Exit → Act → World → Prop} (hgd : o.guard = none) (s x : Operand)
    (ho : o.op = .call { callee := .builtin .append, args := #[s, x], argTypes := #[70, 9] }) (B g cap : Nat) (xs : List Int) (st : ByteArray)
    (hs : a.eval s = .slice (some ⟨g, 0, none⟩) xs.length cap) (hx : a.eval x = .string st) (hown : Owns w B (.slice (some ⟨g, 0, none⟩) xs.length cap) xs) (hb : (xs ++ strI st).length ≤ 140737488355328) (hB : B ≤ w.heap.size)
    (h : ∀ v' w', Owns w' B v' (xs ++ strI st) → w.grownBy w' (some g) → wpList Tryz.prog ops Q rest (a.put o.dst v') w') : wpList Tryz.prog ops Q (o :: rest) a w :=
  wpList_plain hgd fun _ hK => by
    obtain ⟨v', w', hr, h2, h3⟩ := run_append_str w B o.type g cap xs st hown hb hB
    unfold Oper.wp execOp
    simp only [ho, resolve, invoke, builtin, Sem.run_bind, Sem.run_pure, Result.andThen_ok, List.map_toArray, List.map_cons, List.map_nil, hs, hx, hr]
    exact hK _ _ (h v' w' h2 h3)
/-- A text as bytes. -/
def textL (s : ByteArray) : List Int := (s.size : Int) :: strI s
theorem putL_one (n : Nat) (h : n ≤ 64) : putL n 1 = [(n : Int)] := by
  have e : putL n 1 = numBytes n 1 := by unfold putL wOk; rw [if_pos (by decide)]; rfl
  rw [e]
  simp only [numBytes, Int.pow_zero, Int.ediv_one]
  rw [Int.emod_eq_of_lt (by omega) (by omega)]
end
section
open Go.RowKit
theorem put258 : putL 258 2 = [1, 2] := by decide
end
section
open Go.RowKit
/-- The condition that a region holds may be made stronger on the way. -/
theorem wpAnyH_mono {P : Program} {ops : Array Oper} {Q : Exit → Act → World → Prop} {md : Region.Mode} {S S' : World → Prop} (hS : ∀ w, S' w → S w) :
    ∀ (fuel : Nat) (listed : Array Bool) (a : Act) (w : World), wpAnyH P md ops Q S' fuel listed a w → wpAnyH P md ops Q S fuel listed a w
  | 0, _, _, _, h => h
  | fuel + 1, _, _, _, h => ⟨h.1, fun i hi => wpOp_mono (fun a' w' h' => ⟨hS _ h'.1, wpAnyH_mono hS fuel _ a' w' h'.2⟩) (h.2 i hi)⟩
theorem strOfNums_append (a b : List Int) : strOfNums (a ++ b) = strOfNums a ++ strOfNums b := by
  apply ByteArray.ext
  simp [strOfNums]
set_option maxHeartbeats 400000 in
theorem refNumB_any (v : Value) (t : List Int) (w : World) (h : Sees w v t) (hok : okB t) (hl : t.length ≤ 8) :
    Calls Tryz.prog 150 #[v] w fun e w' => e = .returned (.int .u64 (numBE t)) ∧ w = w' := by
  obtain ⟨ao, c, rfl, hlc, hnil, hc⟩ := h
  have HO := Lib.hid hok
  have A1 : Aside (∀ a, ao = some a → ∀ i, i < t.length → w.cell? (a.add i) = some (.int .u8 (t.getD i 0))) := hc
  clear hc hok
  go_enter Tryz.func150, Tryz.ntmps150
  go_wp2_with fail
  go_loop [3, 5, 8] (fun n _ j => ∃ i : Nat, i ≤ t.length ∧ j = .int .i64 i ∧ n = .int .u64 (numBE (t.take i))) (fun _ _ j => t.length - (intOf j).toNat)
  case atStart => exact ⟨0, by omega, rfl, rfl⟩
  case round =>
    obtain ⟨i, hi, rfl, rfl⟩ := hrel
    by_cases hlt : i < t.length
    · obtain ⟨a, rfl⟩ : ∃ a, ao = some a := by
        cases ao with
        | none => rw [hnil rfl] at hlt; simp at hlt
        | some a => exact ⟨a, rfl⟩
      have hcell := A1 a rfl i hlt
      obtain ⟨b0, b1⟩ := getD_ok HO.out hlt
      rw [getD_get hlt] at b0 b1
      obtain ⟨n0, n1⟩ := numBE_bd (t.take i) (HO.out.take i)
      have n2 := pow256 (t.take i).length (by rw [List.length_take]; omega)
      have n3 : numBE (t.take i) < 72057594037927936 := Int.lt_of_lt_of_le n1 n2
      clear n1 n2
      have s1 : IntKind.u64.wrap (numBE (t.take i) * 256) = numBE (t.take i) * 256 := IntWalk.u64_in _ (by omega)
      have s2 : IntKind.u64.wrap t[i] = t[i] := IntWalk.u64_in _ (by omega)
      have s3 : IntKind.u64.wrap (numBE (t.take i) * 256 + t[i]) = numBE (t.take i) * 256 + t[i] := IntWalk.u64_in _ (by omega)
      go_wp2
      go_round
      case rel => exact ⟨i + 1, by omega, by go_num, by rw [take_snocI t i hlt, numBE_snoc, getD_get hlt]⟩
      case measure => simp [intOf]; omega
    · have HV : Hid (numBE (t.take i) = numBE t) := Lib.hid (by rw [List.take_of_length_le (by omega)])
      go_wp2
      go_ret
      exact ⟨congrArg (fun n => Ending.returned (.int .u64 n)) HV.out, rfl⟩
theorem strOf_strI (s : ByteArray) : strOfNums (strI s) = s := by
  apply ByteArray.ext
  unfold strOfNums strI
  simp only [List.map_map]
  rw [show ((fun n : Int => UInt8.ofNat n.toNat) ∘ fun b : UInt8 => (b.toNat : Int)) = id from funext fun b => by simp]
  simp
theorem okB_append {a b : List Int} (ha : okB a) (hb : okB b) : okB (a ++ b) := fun x hx => (List.mem_append.1 hx).elim (ha x) (hb x)
theorem okB_num (n : Int) : ∀ k, okB (numBytes n k)
  | 0 => fun x hx => by cases hx
  | k + 1 => fun x hx => by
    rcases List.mem_cons.1 hx with rfl | hx
    · have := Int.emod_nonneg (n / 256 ^ k) (show (256 : Int) ≠ 0 by omega)
      have := Int.emod_lt_of_pos (n / 256 ^ k) (show (0 : Int) < 256 by omega)
      omega
    · exact okB_num n k x hx
theorem okB_put (n k : Int) : okB (putL n k) := by
  unfold putL
  split
  · exact okB_num _ _
  · intro x hx; cases hx
theorem putL_len (n k : Int) : (putL n k).length ≤ 8 := by
  unfold putL wOk
  split
  · rename_i h
    rw [numBytes_length]
    have := of_decide_eq_true h
    omega
  · simp
theorem okB_str (s : ByteArray) : okB (strI s) := fun x hx => by
  obtain ⟨b, _, rfl⟩ := List.mem_map.1 hx
  have := b.toNat_lt
  omega
theorem okB_text {s : ByteArray} (hs : s.size ≤ 64) : okB (textL s) := fun x hx => by
  rcases List.mem_cons.1 hx with rfl | hx
  · omega
  · exact okB_str s x hx
theorem rd_ahead (a b : List Int) : rdB (some (a ++ b)) a.length = (a, some b) := by
  rw [rdB_yes (by simp)]
  simp
theorem rd_put {n k : Int} (b : List Int) (hk : wOk k = true) : rdU (some (putL n k ++ b)) k = (numBE (putL n k), some b) := by
  have e : (putL n k).length = k.toNat := by unfold putL; rw [if_pos hk, numBytes_length]
  have h1 := of_decide_eq_true hk
  unfold rdU
  have h2 := rd_ahead (putL n k) b
  rw [e, show ((k.toNat : Nat) : Int) = k from by omega] at h2
  rw [if_pos hk, h2]
theorem rd_text {s : ByteArray} (hs : s.size ≤ 64) : rdT (some (textL s)) = (strI s, some []) := by
  have e : rdU (some (textL s)) 1 = ((s.size : Int), some (strI s)) := by
    unfold rdU
    rw [if_pos (by decide), show textL s = [(s.size : Int)] ++ strI s from rfl, show (1 : Int) = [(s.size : Int)].length from rfl, rd_ahead]
    simp [numBE]
  unfold rdT
  rw [e, if_pos (by simp; omega)]
  simp only []
  have := rd_ahead (strI s) []
  rwa [List.append_nil, strI_length] at this
end
section
open Go.RowKit
theorem sees_or {w w' : World} {v : Value} {xs : List Int} {B : Nat} (h : Sees w v xs) (hd : xs = [] ∨ ∀ d, v.ownBlock = some d → d < B) (hb : ∀ d, d < B → d < w.heap.size → w'.heap[d]? = w.heap[d]?) : Sees w' v xs := by
  rcases hd with rfl | hd
  · obtain ⟨ao, c, he, hl, _, _⟩ := h
    exact ⟨ao, c, he, hl, fun _ => rfl, fun a _ i hi => by cases hi⟩
  · exact sees_heap h fun d hd' hlt => hb d (hd d hd') hlt
theorem cell3 {w : World} {g : Nat} {x y z : Value} {t : TypeId} (h : w.heap[g]? = some (.cells #[x, y, z] t (0, 0))) : w.cell? ⟨g, 0, none⟩ = some x ∧ w.cell? ⟨g, 1, none⟩ = some y ∧ w.cell? ⟨g, 2, none⟩ = some z := by simp [World.cell?, h]
theorem froz3 {w : World} {g : Nat} {x y z : Value} {t : TypeId} (h : w.heap[g]? = some (.cells #[x, y, z] t (0, 0))) (i : Nat) : w.frozen? ⟨g, i, none⟩ = false := by simp [World.frozen?, h]
theorem set3_1 {w : World} {g : Nat} {x y z : Value} {t : TypeId} (h : w.heap[g]? = some (.cells #[x, y, z] t (0, 0))) (a : Value) : (w.setCell ⟨g, 1, none⟩ a).heap[g]? = some (.cells #[x, a, z] t (0, 0)) := by simp [World.setCell, Array.getElem?_modify, h]
theorem set3_2 {w : World} {g : Nat} {x y z : Value} {t : TypeId} (h : w.heap[g]? = some (.cells #[x, y, z] t (0, 0))) (a : Value) : (w.setCell ⟨g, 2, none⟩ a).heap[g]? = some (.cells #[x, y, a] t (0, 0)) := by simp [World.setCell, Array.getElem?_modify, h]
/-- A piece of bytes. -/
theorem sees_piece {w : World} {ao : Option Addr} {c : Nat} {xs : List Int} (h : Sees w (.slice ao xs.length c) xs) {i n : Nat} (hin : i + n ≤ xs.length) (ao' : Option Addr) (h' : ao' = ao.map (fun x => x.add i) ∨ c = i ∧ ao' = ao) :
    Sees w (.slice ao' n (c - i)) ((xs.drop i).take n) ∧ ∀ d, (Value.slice ao' n (c - i)).ownBlock = some d → (Value.slice ao xs.length c).ownBlock = some d := by
  obtain ⟨ao0, c0, he, hlc, hnil, hc⟩ := h
  cases he
  have e : ((xs.drop i).take n).length = n := by rw [List.length_take, List.length_drop]; omega
  refine ⟨⟨ao', c - i, by rw [e], by omega, fun h => ?_, fun a ha j hj => ?_⟩, fun d hd => ?_⟩
  · rcases h' with h' | ⟨h1, h'⟩
    · rw [h] at h'
      cases ao with
      | none => rw [hnil rfl]; simp
      | some a => cases h'
    · exact List.eq_nil_of_length_eq_zero (by omega)
  · rw [e] at hj
    rcases h' with h' | ⟨h1, h'⟩
    · cases ao with
      | none => rw [h'] at ha; cases ha
      | some b =>
        rw [h'] at ha
        cases ha
        rw [Addr.add_add, hc b rfl (i + j) (by omega)]
        simp [List.getD, List.getElem?_drop, hj]
    · omega
  · rcases h' with h' | ⟨h1, h'⟩
    · cases ao with
      | none => rw [h'] at hd; cases hd
      | some b =>
        rw [h'] at hd
        simp only [Option.map_some, Value.ownBlock, add_block] at hd ⊢
        exact hd
    · rw [h'] at hd
      cases ao with
      | none => cases hd
      | some b => exact hd
end
section
open Go.ChangeShapes Go.WideShapes Go.ChangeAt Go.RowKit
theorem laidOutK : laidOutB Tryz.prog = true := by kernel_rfl
theorem wf_u8 {x : Int} (h : (Lit.int .u8 x).wf = true) : 0 ≤ x ∧ x ≤ 255 := by have := bounds_u8 h; omega
theorem wf_i64 {x : Int} (h : (Lit.int .i64 x).wf = true) : -9223372036854775808 ≤ x ∧ x ≤ 9223372036854775807 := by have := bounds_i64 h; omega
theorem wf_u64 {x : Int} (h : (Lit.int .u64 x).wf = true) : 0 ≤ x ∧ x < 18446744073709551616 := by have := bounds_u64 h; omega
theorem wf_u32 {x : Int} (h : (Lit.int .u32 x).wf = true) : 0 ≤ x ∧ x < 4294967296 := by have := bounds_u32 h; omega
theorem wf_u16 {x : Int} (h : (Lit.int .u16 x).wf = true) : 0 ≤ x ∧ x < 65536 := by have := bounds_u16 h; omega
theorem cellsU8 : Tryz.prog.cellsOf 5 = 1 := by kernel_rfl
section
variable {H : Type} {enc : TypeId × Value → H} {W : World} {base : Nat} {v : Value} {d : DataW H} {p : List MemPlace}
set_option maxRecDepth 100000 in
theorem open_bytes (hval : Value.okWide Tryz.prog W .any base 70 v) (h : DataW.Trod enc Tryz.prog W 0 (fun _ => true) true 70 v d p) :
    ∃ xs, Sees W v xs ∧ okB xs ∧ xs.length ≤ maxLen := by
  obtain ⟨a0, len, cap, rfl⟩ := okWide_slice Tryz.underlying70 hval
  obtain ⟨fuel, hf⟩ := h
  rcases open_ints Tryz.underlying70 Tryz.underlying5 cellsU8 hf with ⟨hcs, _⟩ | ⟨a, len', cap', zs, hcs, _, hl, hm, hz, _, hcell, hwz⟩
  · simp [Value.cells] at hcs
    obtain ⟨rfl, rfl, rfl⟩ := hcs
    exact ⟨[], Sees.nil W, (fun x hx => by cases hx), Nat.zero_le _⟩
  · simp [Value.cells] at hcs
    obtain ⟨rfl, rfl, rfl⟩ := hcs
    simp only [if_true] at hz
    have e : (zs.take len).length = len := by rw [List.length_take]; omega
    refine ⟨zs.take len, ⟨some a, cap, by rw [e], by omega, (fun h => by cases h), fun b hb i hi => ?_⟩, fun x hx => wf_u8 (hwz x (List.mem_of_mem_take hx)), by omega⟩
    cases hb
    rw [e] at hi
    rw [hcell i (by omega)]
    simp only [List.getD, List.getElem?_take, if_pos hi]
end
end
section
open Go.RowKit
/-- A value that reads as a row of slices which read so. -/
def SeesRow (w : World) (v : Value) (ls : List (List Int)) : Prop :=
  ∃ (ao : Option Addr) (c : Nat), v = .slice ao ls.length c ∧ ls.length ≤ c ∧ (ao = none → ls = []) ∧ ∀ a, ao = some a → ∀ i, i < ls.length → ∃ u, w.cell? (a.add i) = some u ∧ Sees w u (ls.getD i [])
theorem SeesRow.keep {w w' : World} {v : Value} {ls : List (List Int)} (h : SeesRow w v ls) (hb : Below w.heap.size w w') : SeesRow w' v ls := by
  obtain ⟨ao, c, e, hl, hn, hc⟩ := h
  exact ⟨ao, c, e, hl, hn, fun a ha i hi => by
    obtain ⟨u, h1, h2⟩ := hc a ha i hi
    exact ⟨u, by rw [hb.cell (cell_lt8 h1)]; exact h1, h2.keep hb⟩⟩
/-- A row of slices that came in. -/
def ArgRow (w : World) (v : Value) (ls : List (List Int)) : Prop := SeesRow w v ls ∧ (∀ p ∈ ls, okB p ∧ p.length ≤ maxLen) ∧ ls.length ≤ maxLen
section
open Go.ChangeShapes Go.WideShapes Go.ChangeAt
variable {H : Type} {enc : TypeId × Value → H} {W : World} {base : Nat} {v : Value} {d : DataW H} {p : List MemPlace}
set_option maxRecDepth 100000 in
theorem open_rows (hval : Value.okWide Tryz.prog W .any base 97 v) (h : DataW.Trod enc Tryz.prog W 0 (fun _ => true) true 97 v d p) : ∃ ls, ArgRow W v ls := by
  obtain ⟨a0, len, cap, rfl⟩ := okWide_slice Tryz.underlying97 hval
  obtain ⟨fuel, hf⟩ := h
  rcases Go.Deep.open_int_rows Tryz.underlying97 Tryz.underlying70 Tryz.underlying5 (by kernel_rfl) cellsU8 hf with ⟨hcs, _⟩ | ⟨a, len', cap', A, L, C, Z, hcs, _, hl, hm, _, hall⟩
  · simp [Value.cells] at hcs
    obtain ⟨rfl, rfl, rfl⟩ := hcs
    exact ⟨[], ⟨none, 0, rfl, Nat.le_refl _, fun _ => rfl, fun a h => by cases h⟩, (fun p hp => by cases hp), Nat.zero_le _⟩
  · simp [Value.cells] at hcs
    obtain ⟨rfl, rfl, rfl⟩ := hcs
    refine ⟨(List.range len).map fun i => (Z i).take (L i), ⟨some a, cap, by simp, by simp; omega, (fun h => by cases h), fun b hb i hi => ?_⟩, fun p hp => ?_, by simp; omega⟩
    · cases hb
      simp only [List.length_map, List.length_range] at hi
      obtain ⟨h1, h2, h3, h4, h5, h6, h7⟩ := hall i (by omega)
      have eg : ((List.range len).map fun i => (Z i).take (L i)).getD i [] = (Z i).take (L i) := by simp [List.getD, hi]
      have el : ((Z i).take (L i)).length = L i := by rw [List.length_take]; omega
      rw [eg]
      refine ⟨_, h1, A i, C i, by rw [el], by omega, fun hn => ?_, fun a' ha' j hj => ?_⟩
      · have := h6 hn
        exact List.eq_nil_of_length_eq_zero (by omega)
      · rw [el] at hj
        rw [(h7 a' ha').2 j (by omega)]
        simp only [List.getD, List.getElem?_take, if_pos hj]
    · obtain ⟨i, hi, rfl⟩ := List.mem_map.1 hp
      have hi' := List.mem_range.1 hi
      obtain ⟨h1, h2, h3, h4, h5, h6, h7⟩ := hall i (by omega)
      exact ⟨fun x hx => wf_u8 (h5 x (List.mem_of_mem_take hx)), by rw [List.length_take]; omega⟩
end
/-- A value that reads as numbers of 16 bits. -/
def SeesU (w : World) (v : Value) (ks : List Int) : Prop :=
  ∃ (ao : Option Addr) (c : Nat), v = .slice ao ks.length c ∧ ks.length ≤ c ∧ (ao = none → ks = []) ∧ ∀ a, ao = some a → ∀ i, i < ks.length → w.cell? (a.add i) = some (.int .u16 (ks.getD i 0))
theorem cellsU16 : Tryz.prog.cellsOf 125 = 1 := by kernel_rfl
section
open Go.ChangeShapes Go.WideShapes Go.ChangeAt
variable {H : Type} {enc : TypeId × Value → H} {W : World} {base : Nat} {v : Value} {d : DataW H} {p : List MemPlace}
set_option maxRecDepth 100000 in
theorem open_u16s (hval : Value.okWide Tryz.prog W .any base 76 v) (h : DataW.Trod enc Tryz.prog W 0 (fun _ => true) true 76 v d p) :
    ∃ xs, SeesU W v xs ∧ (∀ x ∈ xs, 0 ≤ x ∧ x < 65536) ∧ xs.length ≤ maxLen := by
  obtain ⟨a0, len, cap, rfl⟩ := okWide_slice Tryz.underlying76 hval
  obtain ⟨fuel, hf⟩ := h
  rcases open_ints Tryz.underlying76 Tryz.underlying125 cellsU16 hf with ⟨hcs, _⟩ | ⟨a, len', cap', zs, hcs, _, hl, hm, hz, _, hcell, hwz⟩
  · simp [Value.cells] at hcs
    obtain ⟨rfl, rfl, rfl⟩ := hcs
    exact ⟨[], ⟨none, 0, rfl, Nat.le_refl _, fun _ => rfl, fun a h => by cases h⟩, (fun x hx => by cases hx), Nat.zero_le _⟩
  · simp [Value.cells] at hcs
    obtain ⟨rfl, rfl, rfl⟩ := hcs
    simp only [if_true] at hz
    have e : (zs.take len).length = len := by rw [List.length_take]; omega
    refine ⟨zs.take len, ⟨some a, cap, by rw [e], by omega, (fun h => by cases h), fun b hb i hi => ?_⟩, fun x hx => wf_u16 (hwz x (List.mem_of_mem_take hx)), by omega⟩
    cases hb
    rw [e] at hi
    rw [hcell i (by omega)]
    simp only [List.getD, List.getElem?_take, if_pos hi]
end
end
end Go.Proofs.YtbbefakmpmniiaaGreatDoor
