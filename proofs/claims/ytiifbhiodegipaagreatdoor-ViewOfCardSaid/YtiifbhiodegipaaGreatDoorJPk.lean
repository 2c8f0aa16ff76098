/- Joined: Pk PkR PkT PkP. -/
import Derived.Maps.AppendAt
import Derived.Maps.OwnOps
import Derived.Maps.OwnSet
import Derived.Maps.Views
import Derived.Deep.RegionHeld3
import Derived.Test.YtiifbhiodegipaaGreatDoorShelf
import Derived.Test.YtiifbhiodegipaaGreatDoorRows
import Derived.WalkKit
import Derived.WalkSmall
import Derived.IntWalk
import Derived.Lib.SliceRun
import Derived.Laws.BytesArg
import Derived.Laws.OwnMore
import Derived.Lib.Hide
import Derived.OneCell
import Derived.Laws.BitsAllLaws
import Derived.Deep.QuietTactic
import Derived.Deep.AppendSrc
namespace Go.Proofs.YtiifbhiodegipaaGreatDoor
section
open Go.RowKit
theorem info8 : (Tryz.prog.info? 5).map (fun i => (i.zero, i.size, i.bytes)) = some (some (.int .u8 0), 1, 1) := by kernel_rfl
abbrev cells8 (xs : List Int) : List Value := xs.map (Value.int .u8)
/-- A value that reads as these bytes. -/
def Sees (w : World) (v : Value) (xs : List Int) : Prop :=
  ∃ (ao : Option Addr) (c : Nat), v = .slice ao xs.length c ∧ xs.length ≤ c ∧ (ao = none → xs = []) ∧ ∀ a, ao = some a → ∀ i, i < xs.length → w.cell? (a.add i) = some (.int .u8 (xs.getD i 0))
/-- A value of the call's own that holds these bytes. -/
abbrev Owns (w : World) (B : Nat) (v : Value) (xs : List Int) : Prop := w.ownsRow B 5 1 v xs.length (cells8 xs)
theorem cell_lt8 {w : World} {a : Addr} {v : Value} (h : w.cell? a = some v) : a.block < w.heap.size := by
  rcases Nat.lt_or_ge a.block w.heap.size with hlt | hge
  · exact hlt
  · simp [World.cell?, Array.getElem?_eq_none hge] at h
theorem add_block (a : Addr) (i : Nat) : (a.add i).block = a.block := by unfold Addr.add; split <;> rfl
theorem Sees.keep {w w' : World} {v : Value} {xs : List Int} (h : Sees w v xs) (hb : Below w.heap.size w w') : Sees w' v xs := by
  obtain ⟨ao, c, e, hl, hn, hc⟩ := h
  exact ⟨ao, c, e, hl, hn, fun a ha i hi => by rw [hb.cell (cell_lt8 (hc a ha i hi))]; exact hc a ha i hi⟩
theorem Sees.nil (w : World) : Sees w (.slice none 0 0) [] := ⟨none, 0, rfl, Nat.le_refl _, fun _ => rfl, fun _ h => by cases h⟩
theorem getD_cells {xs : List Int} {i : Nat} (h : i < xs.length) : (cells8 xs)[i]? = some (.int .u8 (xs.getD i 0)) := by
  simp [List.getD, List.getElem?_eq_getElem h]
theorem Owns.sees {w : World} {B : Nat} {v : Value} {xs : List Int} (h : Owns w B v xs) : Sees w v xs := by
  have hc := fun g hg => World.ownsRow.cells h (g := g) hg
  obtain ⟨_, ⟨rfl, hn⟩ | ⟨g, cap, cur, rfl, _, _, hnc, _, _, _⟩⟩ := h
  · obtain rfl := List.eq_nil_of_length_eq_zero hn
    exact Sees.nil w
  · exact ⟨some ⟨g, 0, none⟩, cap, rfl, hnc, (fun e => by cases e), fun a ha i hi => (by cases ha; exact hc g rfl i _ (getD_cells hi))⟩
theorem Owns.nil (w : World) (B : Nat) : Owns w B (.slice none 0 0) [] := World.ownsRow_nil _ _ _ _
theorem bel {w a b : World} (h : Below w.heap.size w a) (k : Below a.heap.size a b) : Below w.heap.size w b := h.trans (k.mono h.size)
theorem belNew (w : World) (o : Obj) : Below w.heap.size w (w.alloc o) := (Below.refl _ _).alloc (Nat.le_refl _) _
theorem belAlloc {w a : World} (h : Below w.heap.size w a) (o : Obj) : Below w.heap.size w (a.alloc o) := h.alloc h.size _
theorem clone_any (b : Value) (xs : List Int) (w : World) (h : Sees w b xs) (hl : xs.length ≤ 140737488355328) :
    Calls Tryz.prog 162 #[b] w fun e w' => ∃ v, e = .returned v ∧ Owns w' w.heap.size v xs ∧ Below w.heap.size w w' := by
  obtain ⟨ao, c, rfl, hlc, hn, hc⟩ := h
  cases ao with
  | none =>
    obtain rfl := hn rfl
    exact (Tryz.bytes_Clone_nil _ _ w).mono fun e w' ⟨he, hw⟩ => ⟨_, he, hw ▸ Owns.nil _ _, hw ▸ Below.refl _ _⟩
  | some a =>
    exact (Tryz.bytes_Clone_at a xs.length c xs w rfl hl (hc a rfl)).mono fun e w' ⟨v, he, ho, _, hb⟩ => ⟨v, he, ho, hb⟩
/-! Numbers as bytes. -/
def wOk (k : Int) : Bool := decide (1 ≤ k ∧ k ≤ 8)
set_option maxHeartbeats 400000 in
theorem mayWidth_any (k : Int) (w : World) :
    Calls Tryz.prog 157 #[.int .i64 k] w fun e w' => e = .returned (.bool (wOk k)) ∧ w = w' := by
  by_cases h0 : 1 ≤ k
  · have d0 : decide (1 ≤ k) = true := by simpa using h0
    have HV : Hid (decide (k ≤ 8) = wOk k) := Lib.hid (by unfold wOk; rw [Bool.eq_iff_iff]; simp [h0])
    go_enter Tryz.func157, Tryz.ntmps157
    go_wp2
    go_ret
    exact ⟨congrArg (fun b => Ending.returned (.bool b)) HV.out, rfl⟩
  · have d0 : decide (1 ≤ k) = false := by simpa using h0
    have HV : Hid (false = wOk k) := Lib.hid (by unfold wOk; simp; omega)
    go_enter Tryz.func157, Tryz.ntmps157
    go_wp2
    go_ret
    exact ⟨congrArg (fun b => Ending.returned (.bool b)) HV.out, rfl⟩
/-- The lowest k bytes of a number, the highest one first. -/
def numBytes (n : Int) : Nat → List Int
  | 0 => []
  | k + 1 => n / 256 ^ k % 256 :: numBytes n k
theorem numBytes_length (n : Int) : ∀ k, (numBytes n k).length = k
  | 0 => rfl
  | k + 1 => by simp [numBytes, numBytes_length n k]
/-- n as a number of width k; nothing, if there is no such width. -/
def putL (n k : Int) : List Int := if wOk k = true then numBytes n k.toNat else []
end
section
open Go.RowKit
def okB (l : List Int) : Prop := ∀ x ∈ l, 0 ≤ x ∧ x ≤ 255
theorem okB.take {l : List Int} (h : okB l) (n : Nat) : okB (l.take n) := fun x hx => h x (List.mem_of_mem_take hx)
theorem okB.drop {l : List Int} (h : okB l) (n : Nat) : okB (l.drop n) := fun x hx => h x (List.mem_of_mem_drop hx)
/-- What a read of n bytes tells, and leaves; none: bad. -/
def rdB (st : Option (List Int)) (n : Int) : List Int × Option (List Int) := match st with
  | some l => if 0 ≤ n ∧ n ≤ l.length then (l.take n.toNat, some (l.drop n.toNat)) else ([], none)
  | none => ([], none)
/-- Bytes' number, the highest one first. -/
def numBE (l : List Int) : Int := l.foldl (fun n c => n * 256 + c) 0
def rdU (st : Option (List Int)) (k : Int) : Int × Option (List Int) := if wOk k = true then (numBE (rdB st k).1, (rdB st k).2) else (0, none)
def rdT (st : Option (List Int)) : List Int × Option (List Int) := if (rdU st 1).1 ≤ 64 then rdB (rdU st 1).2 (rdU st 1).1 else ([], none)
/-- A reader in block g; its bytes lie below block B. -/
def RdP (g B : Nat) (st : Option (List Int)) (w : World) : Prop :=
  ∃ v, w.heap[g]? = some (.cells #[v, .bool st.isNone] 222 (0, 0)) ∧ Sees w v (st.getD []) ∧ (∀ d, v.ownBlock = some d → d < B) ∧ okB (st.getD []) ∧ (st.getD []).length ≤ 100000000000000 ∧ B ≤ g
theorem sees_heap {w w' : World} {v : Value} {xs : List Int} (h : Sees w v xs) (hb : ∀ d, v.ownBlock = some d → d < w.heap.size → w'.heap[d]? = w.heap[d]?) : Sees w' v xs := by
  obtain ⟨ao, c, rfl, hl, hn, hc⟩ := h
  exact ⟨ao, c, rfl, hl, hn, fun a ha i hi => by
    have h1 := hc a ha i hi
    have h2 := cell_lt8 h1
    rw [World.cell?_of_block (w := w) (w' := w') (by subst ha; rw [add_block]; exact hb _ rfl (by rwa [add_block] at h2))]
    exact h1⟩
theorem heap_lt {w : World} {g : Nat} {o : Obj} (h : w.heap[g]? = some o) : g < w.heap.size := (Array.getElem?_eq_some_iff.1 h).1
theorem RdP.grown {g B h : Nat} {st : Option (List Int)} {w w' : World} (hr : RdP g B st w) (hg : w.grownBy w' (some h)) (h1 : h ≠ g) (h2 : B ≤ h) : RdP g B st w' := by
  obtain ⟨v, hb, hs, hd, ho, hl, hB⟩ := hr
  refine ⟨v, ?_, sees_heap hs (fun d hd' hlt => hg.block d hlt (fun e => ?_)), hd, ho, hl, hB⟩
  · rw [hg.block g (heap_lt hb) (fun e => h1 (Option.some.inj e).symm)]; exact hb
  · have := hd d hd'; cases e; omega
theorem RdP.below {g B : Nat} {st : Option (List Int)} {w w' : World} (hr : RdP g B st w) (hb : Below w.heap.size w w') : RdP g B st w' := by
  obtain ⟨v, h, hs, hd, ho, hl, hB⟩ := hr
  exact ⟨v, (hb.block g (heap_lt h)).trans h, hs.keep hb, hd, ho, hl, hB⟩
theorem cell0 {w : World} {g : Nat} {x y : Value} {t : TypeId} (h : w.heap[g]? = some (.cells #[x, y] t (0, 0))) : w.cell? ⟨g, 0, none⟩ = some x := by simp [World.cell?, h]
theorem cell1 {w : World} {g : Nat} {x y : Value} {t : TypeId} (h : w.heap[g]? = some (.cells #[x, y] t (0, 0))) : w.cell? ⟨g, 1, none⟩ = some y := by simp [World.cell?, h]
theorem froz {w : World} {g : Nat} {x y : Value} {t : TypeId} (h : w.heap[g]? = some (.cells #[x, y] t (0, 0))) (i : Nat) : w.frozen? ⟨g, i, none⟩ = false := by simp [World.frozen?, h]
set_option maxRecDepth 100000 in
set_option maxHeartbeats 400000 in
theorem left_any (g B : Nat) (st : Option (List Int)) (w : World) (h : RdP g B st w) :
    Calls Tryz.prog 161 #[.pointer (some ⟨g, 0, none⟩)] w fun e w' => e = .returned (.int .i64 (st.getD []).length) ∧ w = w' := by
  obtain ⟨v, hb, ⟨ao, c, rfl, _⟩, _⟩ := h
  have c0 := cell0 hb
  have q : ∀ (w : World) (a : Option Addr), (binOp .eql 195 (.pointer a) (.pointer none)).run Tryz.prog w = .ok (.bool a.isNone) w := fun w a => by cases a <;> rfl
  go_enter Tryz.func161, Tryz.ntmps161
  go_wp2
  go_ret
  exact ⟨rfl, rfl⟩
set_option maxHeartbeats 400000 in
theorem bad_any (g B : Nat) (st : Option (List Int)) (w : World) (h : RdP g B st w) :
    Calls Tryz.prog 160 #[.pointer (some ⟨g, 0, none⟩)] w fun e w' => e = .returned (.bool st.isNone) ∧ w = w' := by
  obtain ⟨v, hb, _⟩ := h
  have c1 := cell1 hb
  go_enter Tryz.func160, Tryz.ntmps160
  go_wp2
  go_ret
  exact ⟨rfl, rfl⟩
theorem two_set {w : World} {g : Nat} {x y : Value} {t : TypeId} (h : w.heap[g]? = some (.cells #[x, y] t (0, 0))) (a b : Value) :
    ((w.setCell ⟨g, 0, none⟩ a).setCell ⟨g, 1, none⟩ b).heap[g]? = some (.cells #[a, b] t (0, 0)) := by
  have hl := heap_lt h
  have hg : w.heap[g] = .cells #[x, y] t (0, 0) := by simpa [Array.getElem?_eq_getElem hl] using h
  simp [World.setCell, Array.getElem?_modify, h]
theorem one_set {w : World} {g : Nat} {x y : Value} {t : TypeId} (h : w.heap[g]? = some (.cells #[x, y] t (0, 0))) (a : Value) :
    (w.setCell ⟨g, 0, none⟩ a).heap[g]? = some (.cells #[a, y] t (0, 0)) := by
  have hl := heap_lt h
  simp [World.setCell, Array.getElem?_modify, h]
theorem grown_set (w : World) (g i : Nat) (a : Value) : w.grownBy (w.setCell ⟨g, i, none⟩ a) (some g) :=
  ⟨rfl, rfl, rfl, by simp [World.setCell], fun k _ hne => Below.heap_setCell _ _ _ _ (fun e => hne (by rw [e]))⟩
theorem grown_trans {a b c : World} {r : Option Nat} (h : a.grownBy b r) (k : b.grownBy c r) : a.grownBy c r :=
  ⟨k.os.trans h.os, k.tape.trans h.tape, k.output.trans h.output, Nat.le_trans h.size k.size, fun i hi hne => (k.block i (Nat.lt_of_lt_of_le hi h.size) hne).trans (h.block i hi hne)⟩
set_option maxHeartbeats 400000 in
theorem spoil_any (g B : Nat) (st : Option (List Int)) (w : World) (h : RdP g B st w) :
    Calls Tryz.prog 158 #[.pointer (some ⟨g, 0, none⟩)] w fun e w' => e = .returned (.tuple #[]) ∧ RdP g B none w' ∧ w.grownBy w' (some g) := by
  obtain ⟨v, hb, _, _, _, _, hB⟩ := h
  have c0 := cell0 hb
  have c1 := cell1 hb
  have f0 := froz hb 0
  have f1 := froz hb 1
  have K : Hid (RdP g B none ((w.setCell ⟨g, 0, none⟩ (.slice none 0 0)).setCell ⟨g, 1, none⟩ (.bool true)) ∧ w.grownBy ((w.setCell ⟨g, 0, none⟩ (.slice none 0 0)).setCell ⟨g, 1, none⟩ (.bool true)) (some g)) :=
    Lib.hid ⟨⟨_, two_set hb _ _, Sees.nil _, (fun d h => by cases h), (fun x h => by cases h), Nat.zero_le _, hB⟩, grown_trans (grown_set w g 0 _) (grown_set _ g 1 _)⟩
  clear hb
  go_enter Tryz.func158, Tryz.ntmps158
  go_wp2
  go_end0
  exact ⟨rfl, K.out⟩
theorem rdB_no {st : Option (List Int)} {n : Int} (h : ¬ (st.isNone = false ∧ 0 ≤ n ∧ n ≤ (st.getD []).length)) : rdB st n = ([], none) := by
  cases st with
  | none => rfl
  | some l => simp only [rdB]; rw [if_neg (fun hh => h ⟨rfl, hh.1, hh.2⟩)]
theorem rdB_yes {l : List Int} {n : Nat} (h : n ≤ l.length) : rdB (some l) n = (l.take n, some (l.drop n)) := by
  simp only [rdB]; rw [if_pos ⟨by omega, by omega⟩, Int.toNat_natCast]
set_option maxHeartbeats 1000000 in
theorem bytes_no (g B : Nat) (st : Option (List Int)) (n : Int) (w : World) (h : RdP g B st w) (hno : ¬ (st.isNone = false ∧ 0 ≤ n ∧ n ≤ (st.getD []).length)) :
    Calls Tryz.prog 159 #[.pointer (some ⟨g, 0, none⟩), .int .i64 n] w fun e w' => e = .returned (.slice none 0 0) ∧ RdP g B none w' ∧ w.grownBy w' (some g) := by
  have H1 := Lib.hid (bad_any g B st _ h)
  have H2 := Lib.hid (left_any g B st _ h)
  have H3 := Lib.hid (spoil_any g B st _ h)
  clear h
  by_cases h0 : n < 0
  · have d0 : decide (n < 0) = true := by simpa using h0
    clear hno
    go_enter Tryz.func159, Tryz.ntmps159
    go_wp2_with fail
    refine H3.out.mono ?_; rintro e w1 ⟨rfl, h1⟩
    go_wp2_with fail
    go_ret
    exact ⟨rfl, h1⟩
  · have d0 : decide (n < 0) = false := by simpa using h0
    by_cases h1 : ((st.getD []).length : Int) < n
    · have d1 : decide (((st.getD []).length : Int) < n) = true := by simpa using h1
      clear hno
      go_enter Tryz.func159, Tryz.ntmps159
      go_wp2_with fail
      refine H2.out.mono ?_; rintro e w1 ⟨rfl, rfl⟩
      go_wp2_with fail
      refine H3.out.mono ?_; rintro e w1 ⟨rfl, h1⟩
      go_wp2_with fail
      go_ret
      exact ⟨rfl, h1⟩
    · have d1 : decide (((st.getD []).length : Int) < n) = false := by simpa using h1
      have hb : st.isNone = true := by
        cases hs : st.isNone with
        | true => rfl
        | false => exact absurd ⟨hs, by omega, by omega⟩ hno
      rw [hb] at H1
      clear hno
      go_enter Tryz.func159, Tryz.ntmps159
      go_wp2_with fail
      refine H2.out.mono ?_; rintro e w1 ⟨rfl, rfl⟩
      go_wp2_with fail
      refine H1.out.mono ?_; rintro e w1 ⟨rfl, rfl⟩
      go_wp2_with fail
      refine H3.out.mono ?_; rintro e w1 ⟨rfl, h1⟩
      go_wp2_with fail
      go_ret
      exact ⟨rfl, h1⟩
theorem bytes_end {g B : Nat} {l : List Int} {n : Nat} {w : World} {ao : Option Addr} {c : Nat} {t0 : TypeId} (ht : t0 = 222) (hb : w.heap[g]? = some (.cells #[.slice ao l.length c, .bool false] t0 (0, 0))) (hc : ∀ a, ao = some a → ∀ i, i < l.length → w.cell? (a.add i) = some (.int .u8 (l.getD i 0)))
    (hlc : l.length ≤ c) (hnil : ao = none → l = []) (hd : ∀ d, (Value.slice ao l.length c).ownBlock = some d → d < B) (ho : okB l) (hl : l.length ≤ 100000000000000) (hB : B ≤ g) (hn : n ≤ l.length)
    (ao' : Option Addr) (h' : ao' = ao.map (fun x => x.add n) ∨ c = n ∧ ao' = ao) (v : Value) (hv : v = .slice ao' (l.length - n) (c - n)) :
    Sees (w.setCell ⟨g, 0, none⟩ v) (.slice ao n n) (l.take n) ∧ (∀ d, (Value.slice ao n n).ownBlock = some d → d < B) ∧ RdP g B (some (l.drop n)) (w.setCell ⟨g, 0, none⟩ v) ∧ w.grownBy (w.setCell ⟨g, 0, none⟩ v) (some g) := by
  subst hv ht
  have hcc : ∀ a, ao = some a → ∀ i, i < l.length → (w.setCell ⟨g, 0, none⟩ (.slice ao' (l.length - n) (c - n))).cell? (a.add i) = some (.int .u8 (l.getD i 0)) := fun a ha i hi => by
    rw [World.cell?_of_block (w := w) (Below.heap_setCell _ _ _ _ (by
      have h1 := hd a.block (by subst ha; rfl)
      rw [add_block]; simp only []; omega))]
    exact hc a ha i hi
  refine ⟨⟨ao, n, by rw [List.length_take, Nat.min_eq_left hn], by rw [List.length_take]; omega, fun h => by rw [hnil h]; exact List.take_nil, fun a ha i hi => ?_⟩, fun d h => hd d (by cases ao with | none => cases h | some a => exact h), ?_, grown_set _ _ _ _⟩
  · rw [List.length_take] at hi
    rw [hcc a ha i (by omega)]
    simp only [List.getD, List.getElem?_take, if_pos (show i < n by omega)]
  · refine ⟨_, one_set hb _, ⟨ao', c - n, by rw [Option.getD_some, List.length_drop], by rw [Option.getD_some, List.length_drop]; omega, fun h => ?_, fun a ha i hi => ?_⟩, fun d h => hd d ?_, fun x hx => ho x (List.mem_of_mem_drop hx), by rw [Option.getD_some, List.length_drop]; omega, hB⟩
    · rcases h' with h' | ⟨h1, h'⟩
      · rw [h] at h'
        cases ao with
        | none => rw [hnil rfl]; simp
        | some a => cases h'
      · rw [Option.getD_some]; exact List.drop_eq_nil_of_le (by omega)
    · rw [Option.getD_some, List.length_drop] at hi
      rcases h' with h' | ⟨h1, h'⟩
      · cases ao with
        | none => rw [h'] at ha; cases ha
        | some b =>
          rw [h'] at ha
          cases ha
          rw [Addr.add_add, hcc b rfl (n + i) (by omega)]
          simp [List.getD, List.getElem?_drop]
      · omega
    · rcases h' with h' | ⟨h1, h'⟩
      · cases ao with
        | none => rw [h'] at h; cases h
        | some b =>
          rw [h'] at h
          simp only [Option.map_some, Value.ownBlock, add_block] at h ⊢
          exact h
      · rw [h'] at h
        cases ao with
        | none => cases h
        | some b => exact h
set_option maxHeartbeats 1000000 in
theorem bytes_yes (g B : Nat) (l : List Int) (n : Nat) (w : World) (h : RdP g B (some l) w) (hn : n ≤ l.length) :
    Calls Tryz.prog 159 #[.pointer (some ⟨g, 0, none⟩), .int .i64 n] w fun e w' => ∃ v, e = .returned v ∧ Sees w' v (l.take n) ∧ (∀ d, v.ownBlock = some d → d < B) ∧ RdP g B (some (l.drop n)) w' ∧ w.grownBy w' (some g) := by
  have H1 := Lib.hid (bad_any g B (some l) _ h)
  have H2 := Lib.hid (left_any g B (some l) _ h)
  obtain ⟨v, hb, ⟨ao, c, rfl, hlc, hnil, hc⟩, hd, ho, hl, hB⟩ := h
  simp only [Option.getD_some] at hlc hnil hc hd ho hl hb
  have c0 := cell0 hb
  have f0 := froz hb 0
  have d0 : decide ((n : Int) < 0) = false := by simp
  have d1 : decide ((l.length : Int) < (n : Int)) = false := by simp; omega
  have A1 : Aside (w.heap[g]? = some (.cells #[.slice ao l.length c, .bool (some l).isNone] 222 (0, 0))) := hb
  have A2 : Aside (∀ a, ao = some a → ∀ i, i < l.length → w.cell? (a.add i) = some (.int .u8 (l.getD i 0))) := hc
  clear hb hc
  go_enter Tryz.func159, Tryz.ntmps159
  go_wp2_with fail
  refine H2.out.mono ?_; rintro e w1 ⟨rfl, rfl⟩
  go_wp2_with fail
  refine H1.out.mono ?_; rintro e w1 ⟨rfl, rfl⟩
  go_wp2_with fail
  all_goals go_ret
  all_goals refine ⟨_, rfl, ?_⟩
  · exact bytes_end rfl A1 A2 hlc hnil hd ho hl hB hn _ (Or.inr ⟨by assumption, rfl⟩) _ (by have hh : c = n := (by assumption); rw [hh, Nat.sub_self])
  · exact bytes_end rfl A1 A2 hlc hnil hd ho hl hB hn _ (Or.inl rfl) _ rfl
theorem bytes_any (g B : Nat) (st : Option (List Int)) (n : Int) (w : World) (h : RdP g B st w) :
    Calls Tryz.prog 159 #[.pointer (some ⟨g, 0, none⟩), .int .i64 n] w fun e w' => ∃ v, e = .returned v ∧ Sees w' v (rdB st n).1 ∧ (∀ d, v.ownBlock = some d → d < B) ∧ RdP g B (rdB st n).2 w' ∧ w.grownBy w' (some g) := by
  by_cases hy : st.isNone = false ∧ 0 ≤ n ∧ n ≤ (st.getD []).length
  · obtain ⟨h1, h2, h3⟩ := hy
    cases st with
    | none => cases h1
    | some l =>
      obtain ⟨k, rfl⟩ := Int.eq_ofNat_of_zero_le h2
      have hk : k ≤ l.length := by rw [Option.getD_some] at h3; omega
      rw [rdB_yes hk]
      exact bytes_yes g B l k w h hk
  · rw [rdB_no hy]
    exact (bytes_no g B st n w h hy).mono fun e w' ⟨he, hr, hg⟩ => ⟨_, he, Sees.nil _, (fun d hd => by cases hd), hr, hg⟩
theorem rdB_len (st : Option (List Int)) (n : Int) : ((rdB st n).1.length : Int) ≤ max n 0 := by
  cases st with
  | none => simp [rdB]; omega
  | some l =>
    simp only [rdB]
    split
    · simp only [List.length_take]; omega
    · simp; omega
theorem rdB_ok {st : Option (List Int)} (h : okB (st.getD [])) (n : Int) : okB (rdB st n).1 := by
  cases st with
  | none => intro x hx; cases hx
  | some l =>
    simp only [rdB]
    split
    · exact h.take _
    · intro x hx; cases hx
theorem numBE_snoc (l : List Int) (c : Int) : numBE (l ++ [c]) = numBE l * 256 + c := by simp [numBE]
theorem numBE_bdA : ∀ (l : List Int) (a : Int), okB l → 0 ≤ a → 0 ≤ l.foldl (fun n c => n * 256 + c) a ∧ l.foldl (fun n c => n * 256 + c) a < (a + 1) * 256 ^ l.length
  | [], a, _, h => by simp; omega
  | c :: l, a, ho, h => by
    have h2 := ho c (by simp)
    have ih := numBE_bdA l (a * 256 + c) (fun x hx => ho x (by simp [hx])) (by omega)
    rw [List.foldl_cons, List.length_cons, Int.pow_succ]
    refine ⟨ih.1, Int.lt_of_lt_of_le ih.2 ?_⟩
    rw [Int.mul_comm (256 ^ l.length), ← Int.mul_assoc]
    exact Int.mul_le_mul_of_nonneg_right (by omega) (Int.le_of_lt (Int.pow_pos (by omega)))
theorem numBE_bd (l : List Int) (h : okB l) : 0 ≤ numBE l ∧ numBE l < 256 ^ l.length := by
  have := numBE_bdA l 0 h (by omega)
  rwa [Int.zero_add, Int.one_mul] at this
theorem take_snocI (l : List Int) (i : Nat) (h : i < l.length) : l.take (i + 1) = l.take i ++ [l.getD i 0] := by
  rw [List.take_add_one, List.getElem?_eq_getElem h]
  simp [List.getD, List.getElem?_eq_getElem h]
theorem getD_ok {l : List Int} (h : okB l) {i : Nat} (hi : i < l.length) : 0 ≤ l.getD i 0 ∧ l.getD i 0 ≤ 255 := by
  simp only [List.getD, List.getElem?_eq_getElem hi, Option.getD_some]
  exact h _ (List.getElem_mem hi)
theorem getD_get {l : List Int} {i : Nat} (h : i < l.length) : l.getD i 0 = l[i] := by simp [List.getD, List.getElem?_eq_getElem h]
theorem or_byte (a c : Int) (ha : 0 ≤ a) (ha' : a * 256 < 18446744073709551616) (hc : 0 ≤ c) (hc' : c ≤ 255) : bits .or .u64 (a * 256) (IntKind.u64.wrap c) = a * 256 + c := by
  obtain ⟨A, rfl⟩ := Int.eq_ofNat_of_zero_le ha
  obtain ⟨C, rfl⟩ := Int.eq_ofNat_of_zero_le hc
  rw [IntWalk.u64_in _ ⟨by omega, by omega⟩, u64_or _ _ (by omega) (by omega) (by omega) (by omega), Int.toNat_natCast, show ((A : Int) * 256).toNat = A <<< 8 from by rw [Nat.shiftLeft_eq]; omega,
    ← Nat.shiftLeft_add_eq_or_of_lt (show C < 2 ^ 8 by omega), Nat.shiftLeft_eq]
  omega
theorem pow256 (i : Nat) (h : i ≤ 7) : (256 : Int) ^ i ≤ 72057594037927936 := by
  have h1 : (256 : Nat) ^ i ≤ 256 ^ 7 := Nat.pow_le_pow_right (by omega) h
  have h2 : ((256 ^ i : Nat) : Int) ≤ ((256 ^ 7 : Nat) : Int) := Int.ofNat_le.2 h1
  simpa using h2
set_option maxHeartbeats 1000000 in
theorem u_any (g B : Nat) (st : Option (List Int)) (k : Int) (w : World) (h : RdP g B st w) :
    Calls Tryz.prog 121 #[.pointer (some ⟨g, 0, none⟩), .int .i64 k] w fun e w' => e = .returned (.int .u64 (rdU st k).1) ∧ RdP g B (rdU st k).2 w' ∧ w.grownBy w' (some g) := by
  by_cases hk : wOk k = true
  · have HM : Hid (∀ w, Calls Tryz.prog 157 #[.int .i64 k] w fun e w' => e = .returned (.bool true) ∧ w = w') := Lib.hid (fun w => by rw [← hk]; exact mayWidth_any k w)
    have HP : Hid (rdU st k = (numBE (rdB st k).1, (rdB st k).2)) := Lib.hid (by unfold rdU; rw [if_pos hk])
    have HB := Lib.hid (bytes_any g B st k w h)
    obtain ⟨k0, k1⟩ : 1 ≤ k ∧ k ≤ 8 := by unfold wOk at hk; exact of_decide_eq_true hk
    have hlen := rdB_len st k
    have hok : okB (rdB st k).1 := by obtain ⟨_, _, _, _, ho, _⟩ := h; exact rdB_ok ho k
    obtain ⟨t, ht⟩ : ∃ t, (rdB st k).1 = t := ⟨_, rfl⟩
    rw [ht] at hlen hok HP HB
    have HO := Lib.hid hok
    clear hk h hok ht
    go_enter Tryz.func121, Tryz.ntmps121
    go_wp2_with fail
    refine (HM.out _).mono ?_; rintro e w1 ⟨rfl, rfl⟩
    go_wp2_with fail
    refine HB.out.mono ?_; rintro e w1 ⟨v, rfl, ⟨ao, c, rfl, hlc, hnil, hc⟩, -, hR⟩
    have A1 : Aside (∀ a, ao = some a → ∀ i, i < t.length → w1.cell? (a.add i) = some (.int .u8 (t.getD i 0))) := hc
    clear hc
    go_wp2_with fail
    go_loop [5, 7, 17] (fun n _ j => ∃ i : Nat, i ≤ t.length ∧ j = .int .i64 i ∧ n = .int .u64 (numBE (t.take i))) (fun _ _ j => t.length - (intOf j).toNat)
    case atStart => exact ⟨0, by omega, rfl, rfl⟩
    case round =>
      obtain ⟨i, hi, rfl, rfl⟩ := hrel
      by_cases hlt : i < t.length
      · obtain ⟨a, rfl⟩ : ∃ a, ao = some a := by
          cases ao with
          | none => rw [hnil rfl] at hlt; simp at hlt
          | some a => exact ⟨a, rfl⟩
        have hcell := A1 a rfl i hlt
        obtain ⟨b0, b1⟩ := getD_ok HO.out hlt
        obtain ⟨n0, n1⟩ := numBE_bd (t.take i) (HO.out.take i)
        have n2 := pow256 (t.take i).length (by rw [List.length_take]; omega)
        go_wp2
        go_round
        case rel =>
          refine ⟨i + 1, by omega, by go_num, ?_⟩
          rw [take_snocI t i hlt, numBE_snoc]
          rw [getD_get hlt] at b0 b1 ⊢
          exact congrArg (Value.int .u64) (or_byte _ _ n0 (by rw [List.length_take, Nat.min_eq_left hi] at n1 n2; omega) b0 b1)
        case measure => simp [intOf]; omega
      · have e : t.take i = t := List.take_of_length_le (by omega)
        have HV : Hid ((rdU st k).1 = numBE (t.take i) ∧ (rdU st k).2 = (rdB st k).2) := Lib.hid (by rw [HP.out, e]; exact ⟨rfl, rfl⟩)
        clear e
        go_wp2
        go_ret
        rw [HV.out.1, HV.out.2]
        exact ⟨rfl, hR⟩
  · have hkf : wOk k = false := by simpa using hk
    have HM : Hid (∀ w, Calls Tryz.prog 157 #[.int .i64 k] w fun e w' => e = .returned (.bool false) ∧ w = w') := Lib.hid (fun w => by rw [← hkf]; exact mayWidth_any k w)
    have HP : Hid (rdU st k = (0, none)) := Lib.hid (by unfold rdU; rw [if_neg hk])
    have HS := Lib.hid (spoil_any g B st w h)
    clear hk hkf h
    go_enter Tryz.func121, Tryz.ntmps121
    go_wp2_with fail
    refine (HM.out _).mono ?_; rintro e w1 ⟨rfl, rfl⟩
    go_wp2_with fail
    refine HS.out.mono ?_; rintro e w1 ⟨rfl, hR⟩
    go_wp2_with fail
    go_ret
    rw [HP.out]
    exact ⟨rfl, hR⟩
theorem conv_sees {w : World} {v : Value} {xs : List Int} (h : Sees w v xs) : (convert 56 9 v).run Tryz.prog w = .ok (.string (strOfNums xs)) w := by
  obtain ⟨ao, c, rfl, hlc, hnil, hc⟩ := h
  cases ao with
  | none =>
    obtain rfl := hnil rfl
    exact run_convert_bytes_nil w 56 5 Tryz.underlying56 Tryz.underlying5 _ _ 9 Tryz.underlying9
  | some a =>
    have hl : (loadCells a xs.length).run Tryz.prog w = .ok (xs.map (Value.int .u8)).toArray w := by
      have := run_loadCells_list (P := Tryz.prog) w a (xs.map (Value.int .u8)) (fun j v hj => by
        have hjl : j < xs.length := by
          rcases Nat.lt_or_ge j xs.length with h | h
          · exact h
          · simp [List.getElem?_eq_none (show (xs.map (Value.int .u8)).length ≤ j by simpa using h)] at hj
        rw [hc a rfl j hjl]
        simp [List.getElem?_eq_getElem hjl] at hj
        subst hj
        simp [List.getD, List.getElem?_eq_getElem hjl])
      simpa using this
    rw [run_convert_bytes_string w _ _ _ _ _ _ Tryz.underlying56 Tryz.underlying5 Tryz.underlying9, run_bytesToString w _ _ _ xs hl, foldl_push_bytes]
    simp [strOfNums, ByteArray.empty, ByteArray.emptyWithCapacity]
    rfl
set_option maxHeartbeats 1000000 in
theorem new_any (b : Value) (xs : List Int) (w : World) (h : Sees w b xs) (hok : okB xs) (hl : xs.length ≤ 100000000000000) :
    Calls Tryz.prog 126 #[b] w fun e w' => ∃ g, e = .returned (.pointer (some ⟨g, 0, none⟩)) ∧ RdP g g (some xs) w' ∧ w.heap.size ≤ g ∧ Below w.heap.size w w' := by
  have HC := Lib.hid (clone_any b xs w h (by omega))
  go_enter Tryz.func126, Tryz.ntmps126
  go_wp2_with fail
  refine HC.out.mono ?_; rintro e w1 ⟨v1, rfl, ho1, hb1⟩
  obtain ⟨ao1, c1, rfl, _⟩ := ho1.sees
  go_wp2_with fail
  go_ret
  refine ⟨w1.heap.size, rfl, ⟨.slice ao1 xs.length c1, ?_, ?_, ?_, hok, hl, Nat.le_refl _⟩, hb1.size, belAlloc hb1 _⟩
  · show (w1.heap.push _)[w1.heap.size]? = _
    simp
  · exact ho1.sees.keep (belNew _ _)
  · exact fun d hd => (ho1.lt d hd).2
theorem rdU_ok {g B : Nat} {st : Option (List Int)} {w : World} (h : RdP g B st w) (k : Int) : 0 ≤ (rdU st k).1 ∧ (rdU st k).1 < 256 ^ k.toNat := by
  obtain ⟨_, _, _, _, ho, _⟩ := h
  unfold rdU
  split
  · have h1 := numBE_bd _ (rdB_ok ho k)
    have h2 := rdB_len st k
    refine ⟨h1.1, Int.lt_of_lt_of_le h1.2 ?_⟩
    have h3 : (256 : Nat) ^ (rdB st k).1.length ≤ 256 ^ k.toNat := Nat.pow_le_pow_right (by omega) (by omega)
    have h4 : ((256 ^ (rdB st k).1.length : Nat) : Int) ≤ ((256 ^ k.toNat : Nat) : Int) := Int.ofNat_le.2 h3
    simpa using h4
  · exact ⟨Int.le_refl _, Int.pow_pos (by omega)⟩
theorem Owns.at {w : World} {B : Nat} {v : Value} {xs : List Int} (h : Owns w B v xs) (hx : xs ≠ []) :
    ∃ g cap, v = .slice (some ⟨g, 0, none⟩) xs.length cap ∧ B ≤ g ∧ g < w.heap.size ∧ xs.length ≤ cap ∧ (∀ i, i < xs.length → w.cell? ⟨g, i, none⟩ = some (.int .u8 (xs.getD i 0))) ∧ ∀ i, w.frozen? ⟨g, i, none⟩ = false := by
  have h0 := h
  obtain ⟨_, ⟨rfl, hn⟩ | ⟨g, cap, cur, rfl, hB, hb, hnc, _, _, _⟩⟩ := h
  · exact absurd (List.eq_nil_of_length_eq_zero hn) hx
  · refine ⟨g, cap, rfl, hB, heap_lt hb, hnc, fun i hi => ?_, fun i => World.ownsRow.frozenAt h0 i⟩
    rw [World.ownsRow.cellAt h0 i (by omega), getD_cells hi]
theorem Owns.le {w : World} {B B' : Nat} {v : Value} {xs : List Int} (h : Owns w B v xs) (hb : B' ≤ B) : Owns w B' v xs := ⟨h.1, h.2.imp id fun ⟨a, b, c, d, e, f⟩ => ⟨a, b, c, d, Nat.le_trans hb e, f⟩⟩
theorem Owns.keep {w w' : World} {B : Nat} {v : Value} {xs : List Int} (h : Owns w B v xs) (hb : Below w.heap.size w w') : Owns w' B v xs :=
  ⟨h.1, h.2.imp id fun ⟨g, cap, cur, e, hB, hg, r⟩ => ⟨g, cap, cur, e, hB, (hb.block g (heap_lt hg)).trans hg, r⟩⟩
end
section
open Go.RowKit
def doneB (st : Option (List Int)) : Bool := !st.isNone && ((st.getD []).length : Int) == 0
set_option maxHeartbeats 400000 in
theorem done_any (g B : Nat) (st : Option (List Int)) (w : World) (h : RdP g B st w) :
    Calls Tryz.prog 123 #[.pointer (some ⟨g, 0, none⟩)] w fun e w' => e = .returned (.bool (doneB st)) ∧ w = w' := by
  have H1 := Lib.hid (bad_any g B st _ h)
  have H2 := Lib.hid (left_any g B st _ h)
  clear h
  unfold doneB
  cases hs : st.isNone with
  | true =>
    rw [hs] at H1
    go_enter Tryz.func123, Tryz.ntmps123
    go_wp2_with fail
    refine H1.out.mono ?_; rintro e w1 ⟨rfl, rfl⟩
    go_wp2_with fail
    go_ret
    exact ⟨rfl, rfl⟩
  | false =>
    rw [hs] at H1
    go_enter Tryz.func123, Tryz.ntmps123
    go_wp2_with fail
    refine H1.out.mono ?_; rintro e w1 ⟨rfl, rfl⟩
    go_wp2_with fail
    refine H2.out.mono ?_; rintro e w1 ⟨rfl, rfl⟩
    go_wp2_with fail
    go_ret
    exact ⟨by simp, rfl⟩
set_option maxHeartbeats 1000000 in
theorem text_any (g B : Nat) (st : Option (List Int)) (w : World) (h : RdP g B st w) :
    Calls Tryz.prog 127 #[.pointer (some ⟨g, 0, none⟩)] w fun e w' => e = .returned (.string (strOfNums (rdT st).1)) ∧ RdP g B (rdT st).2 w' ∧ w.grownBy w' (some g) := by
  have HU := Lib.hid (u_any g B st 1 w h)
  obtain ⟨b0, b1⟩ := rdU_ok h 1
  have b1' : (rdU st 1).1 < 256 := b1
  clear b1 h
  by_cases hgt : 64 < (rdU st 1).1
  · have d0 : decide (64 < (rdU st 1).1) = true := by simpa using hgt
    have HP : Hid (rdT st = ([], none)) := Lib.hid (by unfold rdT; rw [if_neg (by omega)])
    go_enter Tryz.func127, Tryz.ntmps127
    go_wp2_with fail
    refine HU.out.mono ?_; rintro e w1 ⟨rfl, hR, hg⟩
    go_wp2_with fail
    refine (spoil_any g B _ _ hR).mono ?_; rintro e w2 ⟨rfl, hR2, hg2⟩
    go_wp2_with fail
    go_ret
    rw [HP.out]
    exact ⟨rfl, hR2, grown_trans hg hg2⟩
  · have d0 : decide (64 < (rdU st 1).1) = false := by simpa using hgt
    have HP : Hid (rdT st = rdB (rdU st 1).2 (rdU st 1).1) := Lib.hid (by unfold rdT; rw [if_pos (by omega)])
    have s1 : IntKind.i64.wrap (rdU st 1).1 = (rdU st 1).1 := IntWalk.i64_in _ (by omega)
    go_enter Tryz.func127, Tryz.ntmps127
    go_wp2_with fail
    refine HU.out.mono ?_; rintro e w1 ⟨rfl, hR, hg⟩
    go_wp2_with fail
    refine (bytes_any g B _ _ _ hR).mono ?_; rintro e w2 ⟨v, rfl, hs, -, hR2, hg2⟩
    have hcv := conv_sees hs
    go_wp2_with fail
    go_ret
    rw [HP.out]
    exact ⟨rfl, hR2, grown_trans hg hg2⟩
end
section
open Go.RowKit
theorem set_zero (m : Nat) (l : List Int) (u : Int) : (List.replicate (m + 1) (0 : Int) ++ l).set m u = List.replicate m 0 ++ u :: l := by
  rw [List.replicate_succ', List.append_assoc, List.set_append_right _ _ (by simp)]
  simp
set_option maxHeartbeats 2000000 in
theorem refPut_any (n k : Int) (w : World) (hn : 0 ≤ n) (hn' : n < 18446744073709551616) :
    Calls Tryz.prog 78 #[.int .u64 n, .int .i64 k] w fun e w' => ∃ v, e = .returned v ∧ Owns w' w.heap.size v (putL n k) ∧ Below w.heap.size w w' := by
  obtain ⟨i0, hi, hz0, hz1, hz2⟩ := info_parts info8
  by_cases h0 : k < 1
  · have d0 : decide (k < 1) = true := by simpa using h0
    have HP : Hid (putL n k = []) := Lib.hid (by unfold putL wOk; rw [if_neg (by simp; omega)])
    go_enter Tryz.func78, Tryz.ntmps78
    go_wp2_with fail
    go_ret
    exact ⟨_, rfl, by rw [HP.out]; exact Owns.nil _ _, Below.refl _ _⟩
  · have d0 : decide (k < 1) = false := by simpa using h0
    by_cases h1 : 8 < k
    · have d1 : decide (8 < k) = true := by simpa using h1
      have HP : Hid (putL n k = []) := Lib.hid (by unfold putL wOk; rw [if_neg (by simp; omega)])
      go_enter Tryz.func78, Tryz.ntmps78
      go_wp2_with fail
      go_ret
      exact ⟨_, rfl, by rw [HP.out]; exact Owns.nil _ _, Below.refl _ _⟩
    · have d1 : decide (8 < k) = false := by simpa using h1
      obtain ⟨K, rfl⟩ := Int.eq_ofNat_of_zero_le (show 0 ≤ k by omega)
      have HP : Hid (putL n K = numBytes n K) := Lib.hid (by unfold putL wOk; rw [if_pos (by simp; omega), Int.toNat_natCast])
      have s0 : IntKind.i64.wrap ((K : Int) - 1) = K - 1 := IntWalk.i64_in _ (by omega)
      go_enter Tryz.func78, Tryz.ntmps78
      go_wp2_with (first | (refine wpList_make_full _ rfl _ _ 56 rfl w.heap.size 5 i0 (.int .u8 0) 1 Tryz.underlying56 hi hz0 hz1 .i64 .i64 K K K rfl rfl rfl rfl (by rw [hz2]; omega) (by unfold maxLen; omega) (Nat.le_refl _) ?_; intro w1 hown1 hgrow1) | go_in)
      have hown2 : w1.ownsRow w.heap.size 5 1 (.slice (some ⟨w.heap.size, 0, none⟩) K K) K (cells8 (List.replicate K 0 ++ numBytes n 0)) := by
        rw [numBytes, List.append_nil, cells8, List.map_replicate]
        simpa [toList_madeCells_one, Value.cells] using hown1
      have hb1 : Below w.heap.size w w1 := (Below.refl _ w).grown hgrow1 (Nat.le_refl _) (fun k hk => by cases hk)
      clear hown1 hgrow1
      go_loopw [0, 6] (fun x j wr => ∃ i : Nat, i ≤ K ∧ j = .int .i64 (K - 1 - i) ∧ x = .int .u64 (n / 256 ^ i) ∧ wr.ownsRow w.heap.size 5 1 (.slice (some ⟨w.heap.size, 0, none⟩) K K) K (cells8 (List.replicate (K - i) 0 ++ numBytes n i)) ∧ Below w.heap.size w wr)
        (fun _ j _ => (intOf j + 1).toNat)
      case atStart => exact ⟨0, by omega, by simp, by simp, hown2, hb1⟩
      case round =>
        obtain ⟨i, hi', hj, rfl, hown, hbel⟩ := hrel
        by_cases hlt : i < K
        · obtain ⟨m, rfl⟩ : ∃ m, K = i + 1 + m := ⟨K - i - 1, by omega⟩
          rw [show ((i + 1 + m : Nat) : Int) - 1 - i = m from by omega] at hj
          subst hj
          rw [show i + 1 + m - i = m + 1 from by omega] at hown
          have hc : wr.cell? ⟨w.heap.size, m, none⟩ = some (.int .u8 0) := by
            rw [World.ownsRow.cellAt hown m (by omega), getD_cells (by simp; omega)]
            simp [List.getD, List.getElem?_append]
          have hf := World.ownsRow.frozenAt hown m
          have hq : 0 ≤ n / 256 ^ i := Int.ediv_nonneg hn (Int.le_of_lt (Int.pow_pos (by omega)))
          have hq' : n / 256 ^ i < 18446744073709551616 := Int.lt_of_le_of_lt (Int.ediv_le_self _ hn) hn'
          go_wp2
          go_roundw
          case rel =>
            refine ⟨i + 1, by omega, by go_num, ?_, ?_, hbel.setCell (p := ⟨w.heap.size, m, none⟩) (Nat.le_refl _) _⟩
            · rw [Int.pow_succ, Int.ediv_ediv_of_nonneg (Int.le_of_lt (Int.pow_pos (by omega)))]
            · have h2 := World.ownsRow.stored hown m (.int .u8 (n / 256 ^ i % 256))
              rw [cells8, ← List.map_set, set_zero] at h2
              rw [show i + 1 + m - (i + 1) = m from by omega]
              exact h2.1
          case measure => simp [intOf]
        · obtain rfl : i = K := by omega
          rw [show (i : Int) - 1 - i = -1 from by omega] at hj
          subst hj
          rw [Nat.sub_self, List.replicate_zero, List.nil_append] at hown
          go_wp2
          go_ret
          refine ⟨_, rfl, ?_, hbel⟩
          rw [HP.out]
          unfold Owns
          rw [numBytes_length]
          exact hown
def strI (s : ByteArray) : List Int := s.data.toList.map fun b => (b.toNat : Int)
theorem byteCells_strI (s : ByteArray) : byteCells s = cells8 (strI s) := by unfold byteCells strI cells8; rw [List.map_map]; rfl
theorem strI_length (s : ByteArray) : (strI s).length = s.size := by unfold strI; rw [List.length_map, Array.length_toList]; rfl
theorem setCells_row (g : Nat) (e : TypeId) : ∀ (vs : List Value) (o : Nat) (w : World) (cur : Array Value), w.heap[g]? = some (.cells cur e (0, 0)) → o + vs.length ≤ cur.size →
    ∃ cur', (w.setCells g o vs).heap[g]? = some (.cells cur' e (0, 0)) ∧ cur'.size = cur.size ∧ cur'.toList.take (o + vs.length) = cur.toList.take o ++ vs ∧ w.grownBy (w.setCells g o vs) (some g)
  | [], o, w, cur, h, _ => ⟨cur, h, rfl, by simp, World.grownBy.refl _ _⟩
  | v :: r, o, w, cur, h, hl => by
    rw [List.length_cons] at hl
    have h1 : (w.setCell ⟨g, o, none⟩ v).heap[g]? = some (.cells (cur.setIfInBounds o v) e (0, 0)) := by
      simp [World.setCell, Array.getElem?_modify, h]
    obtain ⟨cur', h2, h3, h4, h5⟩ := setCells_row g e r (o + 1) _ _ h1 (by rw [Array.size_setIfInBounds]; omega)
    refine ⟨cur', h2, by rw [h3, Array.size_setIfInBounds], ?_, grown_trans (grown_set w g o v) h5⟩
    rw [List.length_cons, show o + (r.length + 1) = o + 1 + r.length from by omega, h4, Array.toList_setIfInBounds, List.take_set, List.take_add_one, List.append_cons]
    congr 1
    rw [List.getElem?_eq_getElem (by rw [Array.length_toList]; omega), Option.toList_some, List.set_append_right _ _ (by rw [List.length_take]; omega), List.length_take, show o - min o cur.toList.length = 0 from by (simp; omega)]
    rfl
/-- append of a string to bytes of the call's own. -/
theorem run_append_str (w : World) (B : Nat) (ty : TypeId) (g cap : Nat) (xs : List Int) (s : ByteArray) (hown : Owns w B (.slice (some ⟨g, 0, none⟩) xs.length cap) xs) (hb : (xs ++ strI s).length ≤ 140737488355328) (hB : B ≤ w.heap.size) :
    ∃ v' w', (Builtin.append_ #[56, 9] ty #[.slice (some ⟨g, 0, none⟩) xs.length cap, .string s]).run Tryz.prog w = .ok v' w' ∧ Owns w' B v' (xs ++ strI s) ∧ w.grownBy w' (some g) := by
  obtain ⟨i0, hi, hz0, hz1, hz2⟩ := info_parts info8
  have hown0 := hown
  obtain ⟨hxl, ⟨h0, _⟩ | ⟨g', cap', cur, he, hbg, hg, hnc, hcm, hcs, htake⟩⟩ := hown
  · cases h0
  cases he
  have hl : (xs ++ strI s).length = xs.length + s.size := by rw [List.length_append, strI_length]
  rw [hl] at hb
  have hsrc := Src.ofString (P := Tryz.prog) w Tryz.underlying9 s
  by_cases hroom : xs.length + s.size ≤ cap
  · have hc : ∀ j, j < (byteCells s).length → (w.cell? ⟨g, 0 + xs.length * i0.size + j, none⟩).isSome = true := fun j hj => by
      rw [byteCells_length] at hj
      rw [hz1, Nat.mul_one, Nat.zero_add]
      simp only [World.cell?, hg]
      simp
      omega
    have hf : ∀ j, j < (byteCells s).length → w.frozen? ⟨g, 0 + xs.length * i0.size + j, none⟩ = false := fun j _ => World.ownsRow.frozenAt hown0 _
    have hsrc' : Src Tryz.prog i0.size 9 (.string s) s.size (byteCells s) w := by rw [hz1]; exact hsrc
    have hr := run_append_room_src (P := Tryz.prog) w 56 9 ty 5 i0 Tryz.underlying56 hi g 0 xs.length cap (.string s) s.size (byteCells s) hsrc' hroom hc hf
    rw [hz1, Nat.mul_one, Nat.zero_add] at hr
    obtain ⟨cur', q1, q2, q3, q4⟩ := setCells_row g 5 (byteCells s) xs.length w cur hg (by rw [byteCells_length, hcs]; omega)
    refine ⟨_, _, hr, ⟨by rw [List.length_map, Nat.mul_one], Or.inr ⟨g, cap, cur', by rw [hl], hbg, q1, by rw [hl]; exact hroom, hcm, by rw [q2, hcs], ?_⟩⟩, q4⟩
    rw [hl, Nat.mul_one, ← byteCells_length s, q3]
    rw [Nat.mul_one] at htake
    rw [htake, byteCells_strI, cells8, ← List.map_append]
  · have hold : (Builtin.firstCells i0.size xs.length (.slice (some ⟨g, 0, none⟩) xs.length cap)).run Tryz.prog w.drew = .ok (cells8 xs).toArray w.drew := by
      rw [hz1]
      exact run_firstCells_some w.drew 1 xs.length ⟨g, 0, none⟩ xs.length cap (cells8 xs) (by simp) (fun j u hj => by simpa using World.ownsRow.cells hown0 (g := g) rfl j u hj)
    have hsrc' : Src Tryz.prog i0.size 9 (.string s) s.size (byteCells s) w := by rw [hz1]; exact hsrc
    have hr := run_append_grow_src (P := Tryz.prog) w 56 9 ty 5 i0 (.int .u8 0) Tryz.underlying56 hi hz0 (some ⟨g, 0, none⟩) xs.length cap (cells8 xs) hold (.string s) s.size (byteCells s) hsrc' (by omega) (by omega) (growslice_fits (by omega) (by rw [hz2]; omega))
    have hge := grownCap_ge w (xs.length + s.size) cap 5
    have hcm2 : grownCap w (xs.length + s.size) cap 5 ≤ maxLen := grownCap_le_maxLen w _ _ _ (by unfold maxLen; omega)
    refine ⟨_, _, hr, ⟨by rw [List.length_map, Nat.mul_one], Or.inr ⟨w.heap.size, _, _, by rw [hl], hB, heap_alloc_new w.drew _, by rw [hl]; exact hge, hcm2, ?_, ?_⟩⟩, ⟨rfl, rfl, rfl, by simp, fun k hk _ => Below.heap_alloc w.drew _ k hk⟩⟩
    · simp only [Array.size_append, List.size_toArray, List.length_append, byteCells_length, size_zeroCells, List.length_map]
      rw [show (Value.int .u8 0).cells.size = 1 from rfl]
      omega
    · rw [Array.toList_append, List.toList_toArray, byteCells_strI, cells8, cells8, ← List.map_append, Nat.mul_one]
      exact List.take_left' (by rw [List.length_map])
theorem wpList_append_str {w : World} {ops : Array Oper} {rest : List Oper} {o : Oper} {a : Act} {Q : Exit → Act → World → Prop} (hgd : o.guard = none) (s x : Operand)
    (ho : o.op = .call { callee := .builtin .append, args := #[s, x], argTypes := #[56, 9] }) (B g cap : Nat) (xs : List Int) (st : ByteArray)
    (hs : a.eval s = .slice (some ⟨g, 0, none⟩) xs.length cap) (hx : a.eval x = .string st) (hown : Owns w B (.slice (some ⟨g, 0, none⟩) xs.length cap) xs) (hb : (xs ++ strI st).length ≤ 140737488355328) (hB : B ≤ w.heap.size)
    (h : ∀ v' w', Owns w' B v' (xs ++ strI st) → w.grownBy w' (some g) → wpList Tryz.prog ops Q rest (a.put o.dst v') w') : wpList Tryz.prog ops Q (o :: rest) a w :=
  wpList_plain hgd fun _ hK => by
    obtain ⟨v', w', hr, h2, h3⟩ := run_append_str w B o.type g cap xs st hown hb hB
    unfold Oper.wp execOp
    simp only [ho, resolve, invoke, builtin, Sem.run_bind, Sem.run_pure, Result.andThen_ok, List.map_toArray, List.map_cons, List.map_nil, hs, hx, hr]
    exact hK _ _ (h v' w' h2 h3)
/-- A text as bytes. -/
def textL (s : ByteArray) : List Int := (s.size : Int) :: strI s
set_option maxHeartbeats 1000000 in
theorem refText_any (s : ByteArray) (w : World) (hs : s.size ≤ 64) :
    Calls Tryz.prog 115 #[.string s] w fun e w' => ∃ v, e = .returned v ∧ Owns w' w.heap.size v (textL s) ∧ Below w.heap.size w w' := by
  have s0 : IntKind.u8.wrap (s.size : Int) = s.size := IntWalk.u8_in _ (by omega)
  have ho : Owns (w.alloc (.cells #[.int .u8 s.size] 5)) w.heap.size (.slice (some ⟨w.heap.size, 0, none⟩) [(s.size : Int)].length 1) [(s.size : Int)] :=
    World.ownsRow_lit w #[.int .u8 s.size] 1 (Nat.le_refl _) (by unfold maxLen; omega) rfl
  have HO := Lib.hid ho
  clear ho
  go_enter Tryz.func115, Tryz.ntmps115
  go_wp2_with (first | (at_builtin; refine wpList_append_str rfl _ _ rfl w.heap.size w.heap.size 1 [(s.size : Int)] s rfl rfl HO.out (by rw [List.length_append, strI_length]; simp; omega) (by simp) ?_; intro v2 w2 ho3 hg3) | go_in)
  go_ret
  exact ⟨_, rfl, ho3, (belNew w _).grown hg3 (by simp) (fun k hk => by cases hk; exact Nat.le_refl _)⟩
end
end Go.Proofs.YtiifbhiodegipaaGreatDoor
namespace Go.Proofs.YtiifbhiodegipaaGreatDoor
open Go.RowKit
abbrev itO (k v : ByteArray) (r : Int) : Obj := .cells #[.string k, .string v, .int .i64 r] 89
abbrev itA (k v : ByteArray) (r : Int) : Value := .agg #[.string k, .string v, .int .i64 r]
def It3 (g : Nat) (k v : ByteArray) (r : Int) (W : World) : Prop := W.cell? ⟨g, 0, none⟩ = some (.string k) ∧ W.cell? ⟨g, 1, none⟩ = some (.string v) ∧ W.cell? ⟨g, 2, none⟩ = some (.int .i64 r) ∧ g < W.heap.size
theorem It3.keep {g : Nat} {k v : ByteArray} {r : Int} {W W' : World} (h : It3 g k v r W) (hb : Below W.heap.size W W') : It3 g k v r W' :=
  ⟨by rw [hb.cell (p := ⟨g, 0, none⟩) h.2.2.2]; exact h.1, by rw [hb.cell (p := ⟨g, 1, none⟩) h.2.2.2]; exact h.2.1, by rw [hb.cell (p := ⟨g, 2, none⟩) h.2.2.2]; exact h.2.2.1, Nat.lt_of_lt_of_le h.2.2.2 hb.size⟩
theorem It3.new (w : World) (k v : ByteArray) (r : Int) : It3 w.heap.size k v r (w.alloc (itO k v r)) := by
  refine ⟨?_, ?_, ?_, ?_⟩ <;> simp
def lockB (k v : ByteArray) : Bool := k.toList == [108, 111, 99, 107] && v.toList == [76]
set_option maxHeartbeats 4000000 in
theorem isLock_any (k v : ByteArray) (r : Int) (w : World) :
    Calls Tryz.prog 55 #[itA k v r] w fun e w' => e = .returned (.bool (lockB k v)) ∧ Below w.heap.size w w' := by
  have hc := It3.new w k v r
  have hb0 := belNew w (itO k v r)
  unfold lockB
  cases h1 : k.toList == [108, 111, 99, 107] with
  | false =>
    go_enter Tryz.func55, Tryz.ntmps55
    obtain ⟨c0, c1, c2, c3⟩ := id hc
    go_wp2_with fail
    go_ret
    exact ⟨rfl, hb0⟩
  | true =>
    cases h2 : v.toList == [76] with
    | false =>
      go_enter Tryz.func55, Tryz.ntmps55
      obtain ⟨c0, c1, c2, c3⟩ := id hc
      go_wp2_with fail
      go_ret
      exact ⟨rfl, hb0⟩
    | true =>
      go_enter Tryz.func55, Tryz.ntmps55
      obtain ⟨c0, c1, c2, c3⟩ := id hc
      go_wp2_with fail
      go_ret
      exact ⟨rfl, hb0⟩
end Go.Proofs.YtiifbhiodegipaaGreatDoor
namespace Go.Proofs.YtiifbhiodegipaaGreatDoor
open Go.RowKit
/-- The condition that a region holds may be made stronger on the way. -/
theorem wpAnyH_mono {P : Program} {ops : Array Oper} {Q : Exit → Act → World → Prop} {md : Region.Mode} {S S' : World → Prop} (hS : ∀ w, S' w → S w) :
    ∀ (fuel : Nat) (listed : Array Bool) (a : Act) (w : World), wpAnyH P md ops Q S' fuel listed a w → wpAnyH P md ops Q S fuel listed a w
  | 0, _, _, _, h => h
  | fuel + 1, _, _, _, h => ⟨h.1, fun i hi => wpOp_mono (fun a' w' h' => ⟨hS _ h'.1, wpAnyH_mono hS fuel _ a' w' h'.2⟩) (h.2 i hi)⟩
theorem strOfNums_append (a b : List Int) : strOfNums (a ++ b) = strOfNums a ++ strOfNums b := by
  apply ByteArray.ext
  simp [strOfNums]
set_option maxHeartbeats 400000 in
theorem refNumB_any (v : Value) (t : List Int) (w : World) (h : Sees w v t) (hok : okB t) (hl : t.length ≤ 8) :
    Calls Tryz.prog 111 #[v] w fun e w' => e = .returned (.int .u64 (numBE t)) ∧ w = w' := by
  obtain ⟨ao, c, rfl, hlc, hnil, hc⟩ := h
  have HO := Lib.hid hok
  have A1 : Aside (∀ a, ao = some a → ∀ i, i < t.length → w.cell? (a.add i) = some (.int .u8 (t.getD i 0))) := hc
  clear hc hok
  go_enter Tryz.func111, Tryz.ntmps111
  go_wp2_with fail
  go_loop [3, 5, 8] (fun n _ j => ∃ i : Nat, i ≤ t.length ∧ j = .int .i64 i ∧ n = .int .u64 (numBE (t.take i))) (fun _ _ j => t.length - (intOf j).toNat)
  case atStart => exact ⟨0, by omega, rfl, rfl⟩
  case round =>
    obtain ⟨i, hi, rfl, rfl⟩ := hrel
    by_cases hlt : i < t.length
    · obtain ⟨a, rfl⟩ : ∃ a, ao = some a := by
        cases ao with
        | none => rw [hnil rfl] at hlt; simp at hlt
        | some a => exact ⟨a, rfl⟩
      have hcell := A1 a rfl i hlt
      obtain ⟨b0, b1⟩ := getD_ok HO.out hlt
      rw [getD_get hlt] at b0 b1
      obtain ⟨n0, n1⟩ := numBE_bd (t.take i) (HO.out.take i)
      have n2 := pow256 (t.take i).length (by rw [List.length_take]; omega)
      have n3 : numBE (t.take i) < 72057594037927936 := Int.lt_of_lt_of_le n1 n2
      clear n1 n2
      have s1 : IntKind.u64.wrap (numBE (t.take i) * 256) = numBE (t.take i) * 256 := IntWalk.u64_in _ (by omega)
      have s2 : IntKind.u64.wrap t[i] = t[i] := IntWalk.u64_in _ (by omega)
      have s3 : IntKind.u64.wrap (numBE (t.take i) * 256 + t[i]) = numBE (t.take i) * 256 + t[i] := IntWalk.u64_in _ (by omega)
      go_wp2
      go_round
      case rel => exact ⟨i + 1, by omega, by go_num, by rw [take_snocI t i hlt, numBE_snoc, getD_get hlt]⟩
      case measure => simp [intOf]; omega
    · have HV : Hid (numBE (t.take i) = numBE t) := Lib.hid (by rw [List.take_of_length_le (by omega)])
      go_wp2
      go_ret
      exact ⟨congrArg (fun n => Ending.returned (.int .u64 n)) HV.out, rfl⟩
theorem strOf_strI (s : ByteArray) : strOfNums (strI s) = s := by
  apply ByteArray.ext
  unfold strOfNums strI
  simp only [List.map_map]
  rw [show ((fun n : Int => UInt8.ofNat n.toNat) ∘ fun b : UInt8 => (b.toNat : Int)) = id from funext fun b => by simp]
  simp
theorem rd_ahead (a b : List Int) : rdB (some (a ++ b)) a.length = (a, some b) := by
  rw [rdB_yes (by simp)]
  simp
theorem rd_put {n k : Int} (b : List Int) (hk : wOk k = true) : rdU (some (putL n k ++ b)) k = (numBE (putL n k), some b) := by
  have e : (putL n k).length = k.toNat := by unfold putL; rw [if_pos hk, numBytes_length]
  have h1 := of_decide_eq_true hk
  unfold rdU
  have h2 := rd_ahead (putL n k) b
  rw [e, show ((k.toNat : Nat) : Int) = k from by omega] at h2
  rw [if_pos hk, h2]
end Go.Proofs.YtiifbhiodegipaaGreatDoor
namespace Go.Proofs.YtiifbhiodegipaaGreatDoor
open Go.RowKit Go.Maps
namespace VM
abbrev Ent := Lit × Value
/-- How an element reads: as itself. -/
def Rv (v : Value) : Option (DataW Value × List MemPlace) := some (.held v, [])
def datum (fs : List Ent) : DataW Value := .map (fs.map fun p => (p.1, DataW.held p.2))
def getE {β : Type} (fs : List (Lit × β)) (k : Lit) : Option β := (fs.find? (fun p => p.1.sameKey k)).map (·.2)
def insE {β : Type} (x : Lit × β) : List (Lit × β) → List (Lit × β)
  | [] => [x]
  | y :: r => if x.1.before y.1 then x :: y :: r else y :: insE x r
def delE {β : Type} (k : Lit) (fs : List (Lit × β)) : List (Lit × β) := fs.filter (fun p => !p.1.sameKey k)
def putE {β : Type} (k : Lit) (v : β) (fs : List (Lit × β)) : List (Lit × β) := insE (k, v) (delE k fs)
theorem insE_eq (x : Ent) : ∀ fs : List Ent, (insE x fs).map (fun p => (p.1, DataW.held p.2)) = DataW.insert (x.1, DataW.held x.2) (fs.map fun p => (p.1, DataW.held p.2))
  | [] => rfl
  | y :: r => by
    rw [insE, List.map_cons, DataW.insert]
    by_cases h : x.1.before y.1 = true
    · rw [if_pos h, if_pos (show x.1.before y.1 = true from h)]
      rfl
    · rw [if_neg h, if_neg (show ¬ x.1.before y.1 = true from h), List.map_cons, insE_eq x r]
theorem delE_eq (k : Lit) (fs : List Ent) : (delE k fs).map (fun p => (p.1, DataW.held p.2)) = (fs.map fun p => (p.1, (DataW.held p.2 : DataW Value))).filter (fun p => !p.1.sameKey k) := by
  unfold delE
  rw [List.filter_map]
  rfl
theorem datum_put (k : Lit) (v : Value) (fs : List Ent) : (datum fs).put k (.held v) = datum (putE k v fs) := by
  unfold datum putE
  rw [insE_eq, delE_eq]
  rfl
theorem datum_at (k : Lit) (z : DataW Value) : ∀ fs : List Ent, (datum fs).atKey k z = match getE fs k with | some v => .held v | none => z
  | [] => rfl
  | p :: r => by
    have ih := datum_at k z r
    unfold datum DataW.atKey getE at ih ⊢
    simp only [List.map_cons, List.find?_cons] at ih ⊢
    cases h : p.1.sameKey k with
    | true => rfl
    | false => exact ih
/-- Block b holds just these entries; keys are of type K. -/
def MapIs (K : TypeId) (w : World) (b n : Nat) (fs : List Ent) : Prop := w.ownsMap Tryz.prog K Rv b n (datum fs)
section
variable {K T E : TypeId} {w : World} {b n : Nat} {fs : List Ent}
theorem MapIs.lt (h : MapIs K w b n fs) : b < w.heap.size := World.ownsMap.lt h
theorem MapIs.made (K : TypeId) (w : World) : MapIs K (w.alloc (.map #[] 0)) w.heap.size 0 [] := World.ownsMap_made w _ _ _
theorem MapIs.heap {w' : World} (h : MapIs K w b n fs) (hb : w'.heap[b]? = w.heap[b]?) : MapIs K w' b n fs := by
  obtain ⟨es, clock, h1, F, hs, hD⟩ := h
  exact ⟨es, clock, hb.trans h1, F, hs, hD⟩
theorem MapIs.below {w' : World} (h : MapIs K w b n fs) (hb : Below w.heap.size w w') : MapIs K w' b n fs := h.heap (hb.block _ h.lt)
theorem MapIs.look (h : MapIs K w b n fs) (hK : Keyed Tryz.prog K) (ht : Tryz.prog.underlying T = some (.map K E)) {z : Value} (hz : (zeroValue E).run Tryz.prog w = .ok z w) {key : Value} {kl : Lit} (hk : keyOf Tryz.prog K key = some kl) (c : Bool) :
    (Instr.lookup T (.map (some b)) key c).run Tryz.prog w = .ok (if c then .tuple #[(getE fs kl).getD z, .bool (getE fs kl).isSome] else (getE fs kl).getD z) w := by
  obtain ⟨es, clock, hb, F, hsz, hD⟩ := h
  rcases fit_look c hK ht hz hb F hk with ⟨hrun, _, hat⟩ | ⟨e0, y, _, _, hrun, hRv, hat, _⟩
  · have h1 := hat (.held z)
    have h2 := hat .nil
    rw [← hD, datum_at] at h1 h2
    cases hg : getE fs kl with
    | none => rw [hrun]; rfl
    | some v => rw [hg] at h2; cases h2
  · have h2 := hat .nil
    rw [← hD, datum_at] at h2
    have e : y = (DataW.held e0.val, []) := by unfold Rv at hRv; exact (Option.some.inj hRv).symm
    rw [e] at h2
    cases hg : getE fs kl with
    | none => rw [hg] at h2; cases h2
    | some v =>
      rw [hg] at h2
      obtain rfl : v = e0.val := DataW.held.inj h2
      rw [hrun]
      rfl
theorem MapIs.put (h : MapIs K w b n fs) (hK : Keyed Tryz.prog K) (ht : Tryz.prog.underlying T = some (.map K E)) (hn : n < maxLen) {key : Value} {kl : Lit} (hk : keyOf Tryz.prog K key = some kl) (v : Value) :
    ∃ w', (Instr.mapUpdate T (.map (some b)) key v).run Tryz.prog w = .ok () w' ∧ MapIs K w' b (n + 1) (putE kl v fs) ∧ w.grownBy w' (some b) := by
  obtain ⟨w', hrun, h1, h2⟩ := World.ownsMap.update h hK ht hn hk (show Rv v = some (.held v, []) from rfl)
  rw [datum_put] at h1
  exact ⟨w', hrun, h1, h2⟩
theorem size_datum (fs : List Ent) : Maps.size (datum fs) = fs.length := by unfold datum; rw [size_eq, List.length_map]
theorem MapIs.len (h : MapIs K w b n fs) (ht : Tryz.prog.underlying T = some (.map K E)) (ty : TypeId) : (Builtin.len_ #[T] ty #[.map (some b)]).run Tryz.prog w = .ok (.int .i64 fs.length) w := by
  have := World.ownsMap.len h ht ty
  rwa [size_datum] at this
end
theorem same_iff {a b : Lit} (h : WideAt.IsKeyLit b) : a.sameKey b = true ↔ a = b := by
  cases a <;> cases b <;> first
    | (simp [WideAt.IsKeyLit] at h; done)
    | (simp [Lit.sameKey]; done)
theorem find_ins {β : Type} {x : Lit × β} {q : Lit × β → Bool} (hx : q x = false) : ∀ L : List (Lit × β), (insE x L).find? q = L.find? q
  | [] => by simp [insE, hx]
  | y :: r => by
    rw [insE]
    split
    · simp [hx]
    · rw [List.find?_cons, List.find?_cons, find_ins hx r]
theorem find_insT {β : Type} {x : Lit × β} {q : Lit × β → Bool} (hx : q x = true) : ∀ L : List (Lit × β), L.find? q = none → (insE x L).find? q = some x
  | [], _ => by simp [insE, hx]
  | y :: r, h => by
    rw [List.find?_cons] at h
    rw [insE]
    cases hy : q y with
    | true => rw [hy] at h; cases h
    | false =>
      rw [hy] at h
      split
      · simp [hx]
      · rw [List.find?_cons, hy]
        exact find_insT hx r h
theorem get_put {β : Type} {k : Lit} (hk : WideAt.IsKeyLit k) (v : β) (fs : List (Lit × β)) : getE (putE k v fs) k = some v := by
  unfold getE putE
  rw [find_insT (q := fun p => p.1.sameKey k) (x := (k, v)) ((same_iff hk).2 rfl)]
  · rfl
  · rw [List.find?_eq_none]
    intro p hp hq
    have := (List.mem_filter.1 hp).2
    rw [hq] at this
    cases this
theorem get_put_ne {β : Type} {k k' : Lit} (hk : WideAt.IsKeyLit k) (hk' : WideAt.IsKeyLit k') (hne : k ≠ k') (v : β) (fs : List (Lit × β)) : getE (putE k v fs) k' = getE fs k' := by
  unfold getE putE
  rw [find_ins (q := fun p => p.1.sameKey k') (x := (k, v)) (by
    cases h : k.sameKey k' with
    | false => rfl
    | true => exact absurd ((same_iff hk').1 h) hne)]
  unfold delE
  congr 1
  induction fs with
  | nil => rfl
  | cons y r ih =>
    rw [List.filter_cons, List.find?_cons]
    cases h1 : y.1.sameKey k with
    | true =>
      have e1 : y.1 = k := (same_iff hk).1 h1
      have h2 : y.1.sameKey k' = false := by
        cases h : y.1.sameKey k' with
        | false => rfl
        | true => exact absurd (e1.symm.trans ((same_iff hk').1 h)) hne
      rw [h2]
      exact ih
    | false =>
      simp only [Bool.not_false, if_true]
      rw [List.find?_cons]
      cases y.1.sameKey k' with
      | true => rfl
      | false => exact ih
theorem ins_length {β : Type} (x : Lit × β) : ∀ L : List (Lit × β), (insE x L).length = L.length + 1
  | [] => rfl
  | y :: r => by
    rw [insE]
    split
    · rfl
    · rw [List.length_cons, ins_length x r, List.length_cons]
theorem put_new {β : Type} {k : Lit} (v : β) {fs : List (Lit × β)} (h : getE fs k = none) : (putE k v fs).length = fs.length + 1 := by
  unfold putE
  rw [ins_length]
  congr 1
  unfold delE
  rw [List.filter_eq_self.2]
  intro p hp
  unfold getE at h
  rw [Option.map_eq_none_iff, List.find?_eq_none] at h
  have := h p hp
  simpa using this
end VM
end Go.Proofs.YtiifbhiodegipaaGreatDoor
namespace Go.Proofs.YtiifbhiodegipaaGreatDoor
open Go.RowKit Go.Maps
abbrev RowG {α : Type} (E : TypeId) (s : Nat) (enc : α → List Value) (w : World) (B : Nat) (v : Value) (L : List α) : Prop := w.ownsRow B E s v L.length (L.flatMap enc)
def SeesG {α : Type} (s : Nat) (enc : α → List Value) (w : World) (v : Value) (L : List α) : Prop :=
  ∃ (ao : Option Addr) (c : Nat), v = .slice ao L.length c ∧ L.length ≤ c ∧ (ao = none → L = []) ∧ ∀ a, ao = some a → ∀ i p, L[i]? = some p → ∀ j u, (enc p)[j]? = some u → w.cell? ((a.add (i * s)).add j) = some u
theorem flat_atG {α : Type} {s : Nat} {enc : α → List Value} (he : ∀ p, (enc p).length = s) : ∀ (L : List α) (i j : Nat) (f : α), L[i]? = some f → j < s → (L.flatMap enc)[i * s + j]? = (enc f)[j]?
  | [], i, j, f, h, _ => by simp at h
  | a :: L, 0, j, f, h, hj => by
    obtain rfl : a = f := by simpa using h
    rw [List.flatMap_cons, Nat.zero_mul, Nat.zero_add, List.getElem?_append_left (by rw [he]; omega)]
  | a :: L, i + 1, j, f, h, hj => by
    rw [List.flatMap_cons, List.getElem?_append_right (by rw [he, Nat.succ_mul]; omega)]
    have e : (i + 1) * s + j - (enc a).length = i * s + j := by rw [he, Nat.succ_mul]; omega
    rw [e]
    exact flat_atG he L i j f (by simpa using h) hj
theorem RowG.sees {α : Type} {E : TypeId} {s : Nat} {enc : α → List Value} {w : World} {B : Nat} {v : Value} {L : List α} (h : RowG E s enc w B v L) (he : ∀ p, (enc p).length = s) : SeesG s enc w v L := by
  rcases h.2 with ⟨e, h0⟩ | ⟨g, cap, cur, e, _, hb, hn, _⟩
  · have h1 : L = [] := List.eq_nil_of_length_eq_zero h0
    subst h1
    exact ⟨none, 0, e, Nat.le_refl _, (fun _ => rfl), (fun a ha => by cases ha)⟩
  · refine ⟨_, _, e, hn, (fun h => by cases h), fun a ha i f hf j u hu => ?_⟩
    cases ha
    have hj : j < s := by
      have := (List.getElem?_eq_some_iff.1 hu).1
      rwa [he] at this
    have hc := World.ownsRow.cells h (g := g) (by rw [e]; rfl)
    have h0 := hc (i * s + j) u ((flat_atG he L i j f hf hj).trans hu)
    rw [Addr.add_add]
    exact h0
theorem SeesG.keep {α : Type} {s : Nat} {enc : α → List Value} {w w' : World} {v : Value} {L : List α} (h : SeesG s enc w v L) (hb : ∀ d, v.ownBlock = some d → d < w.heap.size → w'.heap[d]? = w.heap[d]?) : SeesG s enc w' v L := by
  obtain ⟨ao, c, rfl, h1, h2, h3⟩ := h
  refine ⟨ao, c, rfl, h1, h2, fun a ha i f hf j u hu => ?_⟩
  have q1 := h3 a ha i f hf j u hu
  subst ha
  have hl : a.block < w.heap.size := by have := cell_lt8 q1; rwa [add_block, add_block] at this
  exact (World.cell?_of_block (by rw [add_block, add_block]; exact hb a.block rfl hl)).trans q1
theorem SeesG.below {α : Type} {s : Nat} {enc : α → List Value} {w w' : World} {v : Value} {L : List α} (h : SeesG s enc w v L) (hb : Below w.heap.size w w') : SeesG s enc w' v L := h.keep (fun d _ hd => hb.block d hd)
theorem SeesG.slice {α : Type} {s : Nat} {enc : α → List Value} {w : World} {v : Value} {L : List α} (h : SeesG s enc w v L) : ∃ ao c, v = .slice ao L.length c := by
  obtain ⟨ao, c, e, -⟩ := h
  exact ⟨ao, c, e⟩
theorem SeesG.at {α : Type} {s : Nat} {enc : α → List Value} {w : World} {ao : Option Addr} {n c : Nat} {L : List α} (h : SeesG s enc w (.slice ao n c) L) {i : Nat} {p : α} (hp : L[i]? = some p) : ∃ a, ao = some a ∧ n = L.length ∧ ∀ j u, (enc p)[j]? = some u → w.cell? ((a.add (i * s)).add j) = some u := by
  obtain ⟨ao', c', e, -, hn, hc⟩ := h
  injection e with e1 e2 e3
  subst e1
  cases ao with
  | none => rw [hn rfl] at hp; simp at hp
  | some a => exact ⟨a, rfl, e2, hc a rfl i p hp⟩
theorem RowG.keep {α : Type} {E : TypeId} {s : Nat} {enc : α → List Value} {w w' : World} {B : Nat} {v : Value} {L : List α} (h : RowG E s enc w B v L) (hk : ∀ d, v.ownBlock = some d → d < w.heap.size → w'.heap[d]? = w.heap[d]?) : RowG E s enc w' B v L :=
  ⟨h.1, h.2.imp id fun ⟨k, cap, cur, e, b', hb, r⟩ => ⟨k, cap, cur, e, b', (hk k (by rw [e]; rfl) (heap_lt hb)).trans hb, r⟩⟩
theorem RowG.below {α : Type} {E : TypeId} {s : Nat} {enc : α → List Value} {w w' : World} {B : Nat} {v : Value} {L : List α} (h : RowG E s enc w B v L) (hb : Below w.heap.size w w') : RowG E s enc w' B v L := h.keep (fun d _ hd => hb.block d hd)
theorem RowG.le {α : Type} {E : TypeId} {s : Nat} {enc : α → List Value} {w : World} {B B' : Nat} {v : Value} {L : List α} (h : RowG E s enc w B v L) (hb : B' ≤ B) : RowG E s enc w B' v L := ⟨h.1, h.2.imp id fun ⟨g, cap, cur, e, b, r⟩ => ⟨g, cap, cur, e, Nat.le_trans hb b, r⟩⟩
theorem RowG.nil {α : Type} (E : TypeId) (s : Nat) (enc : α → List Value) (w : World) (B : Nat) : RowG E s enc w B (.slice none 0 0) [] := World.ownsRow_nil _ _ _ _
theorem RowG.slice {α : Type} {E : TypeId} {s : Nat} {enc : α → List Value} {w : World} {B : Nat} {v : Value} {L : List α} (h : RowG E s enc w B v L) : ∃ ao c, v = .slice ao L.length c := by
  rcases h.2 with ⟨e, h0⟩ | ⟨g, cap, cur, e, _⟩
  · exact ⟨none, 0, by rw [e, h0]⟩
  · exact ⟨_, _, e⟩
theorem RowG.form {α : Type} {E : TypeId} {s : Nat} {enc : α → List Value} {w : World} {B : Nat} {v : Value} {L : List α} (h : RowG E s enc w B v L) : ∀ k, v.ownBlock = some k → B ≤ k ∧ k < w.heap.size := fun k hk => World.ownsRow.lt h k hk
/-- append of one element, alone in the newest block, to a row of the call's own. -/
theorem wpList_pushG {α : Type} {T E : TypeId} {s bytes : Nat} {enc : α → List Value} {z : Value} (hTE : Tryz.prog.underlying T = some (.slice E)) (hI : (Tryz.prog.info? E).map (fun i => (i.zero, i.size, i.bytes)) = some (some z, s, bytes)) (hzs : z.cells.size = s) (hs0 : 0 < s) (hby : bytes ≤ 1000000)
    (he : ∀ p, (enc p).length = s) (h1 : ∀ p, ∀ u ∈ enc p, u.oneCell' = true) {w0 : World} {ops : Array Oper} {rest : List Oper} {o : Oper} {a : Act} {Q : Exit → Act → World → Prop} (hgd : o.guard = none) (sv x : Operand)
    (ho : o.op = .call { callee := .builtin .append, args := #[sv, x], argTypes := #[T, T] }) (B : Nat) (v : Value) (L : List α) (p : α)
    (k : Nat) (hk : k = w0.heap.size) (hs : a.eval sv = v) (hx : a.eval x = .slice (some ⟨k, 0, none⟩) 1 1) (hrow : RowG E s enc w0 B v L) (hlen : L.length ≤ 1000001) (hB : B ≤ w0.heap.size)
    (h : ∀ v' w', RowG E s enc w' B v' (L ++ [p]) → Below B w0 w' → w0.grownBy w' v.ownBlock → (v'.ownBlock = v.ownBlock ∨ v'.ownBlock = some (w0.heap.size + 1)) → wpList Tryz.prog ops Q rest (a.put o.dst v') w') :
    wpList Tryz.prog ops Q (o :: rest) a (w0.alloc (.cells (enc p).toArray E)) := by
  subst hk
  obtain ⟨i0, hi, hz0, hz1, hz2⟩ := info_parts hI
  have hbk := heap_alloc_new w0 (.cells (enc p).toArray E)
  have hlb : (L.length + 1) * bytes ≤ 140737488355328 := by
    have h2 : (L.length + 1) * bytes ≤ 1000002 * 1000000 := Nat.mul_le_mul (by omega) hby
    omega
  refine wpList_append_own_at _ hgd sv x T ho B E i0 z s bytes hTE hi hz0 hz1 hz2 hzs hs0 v _ _ hs (hrow.alloc _) ⟨w0.heap.size, 0, none⟩ 1 1 (enc p) hx (by rw [he, Nat.one_mul]) (fun j y hj => ?_) (h1 p) (by unfold maxLen; omega) hlb (by simp; omega) ?_
  · have e0 : (⟨w0.heap.size, 0, none⟩ : Addr).add j = ⟨w0.heap.size, j, none⟩ := by
      unfold Addr.add
      by_cases h : j = 0
      · rw [h]; rfl
      · simp [h]
    rw [e0]
    unfold World.cell?
    simp only []
    rw [hbk]
    simpa using hj
  · intro v' w' hown' hgrow _ hat
    have hg0 : w0.grownBy w' v.ownBlock := World.grownBy.trans (b := w0.alloc (.cells (enc p).toArray E)) ⟨rfl, rfl, rfl, by simp, fun k hk _ => Below.heap_alloc w0 _ k hk⟩ hgrow
    refine h v' w' ?_ ((Below.refl B w0).grown hg0 hB (fun k hk => (hrow.lt k hk).1)) hg0 (by simpa using hat)
    have e1 : (L ++ [p]).length = L.length + 1 := by simp
    have e2 : (L ++ [p]).flatMap enc = L.flatMap enc ++ enc p := by simp [List.flatMap_append]
    show w'.ownsRow _ _ _ _ _ _
    rw [e1, e2]
    exact hown'
/-- The same in a region that draws. -/
theorem wp_pushG {α : Type} {T E : TypeId} {s bytes : Nat} {enc : α → List Value} {z : Value} (hTE : Tryz.prog.underlying T = some (.slice E)) (hI : (Tryz.prog.info? E).map (fun i => (i.zero, i.size, i.bytes)) = some (some z, s, bytes)) (hzs : z.cells.size = s) (hs0 : 0 < s) (hby : bytes ≤ 1000000)
    (he : ∀ p, (enc p).length = s) (h1 : ∀ p, ∀ u ∈ enc p, u.oneCell' = true) {w0 : World} {o : Oper} {a : Act} {K : Act → World → Prop} {Q : Exit → Act → World → Prop} (sv x : Operand)
    (ho : o.op = .call { callee := .builtin .append, args := #[sv, x], argTypes := #[T, T] }) (B : Nat) (v : Value) (L : List α) (p : α)
    (k : Nat) (hk : k = w0.heap.size) (hs : a.eval sv = v) (hx : a.eval x = .slice (some ⟨k, 0, none⟩) 1 1) (hrow : RowG E s enc w0 B v L) (hlen : L.length ≤ 1000001) (hB : B ≤ w0.heap.size)
    (h : ∀ v' w', RowG E s enc w' B v' (L ++ [p]) → Below B w0 w' → w0.grownBy w' v.ownBlock → (v'.ownBlock = v.ownBlock ∨ v'.ownBlock = some (w0.heap.size + 1)) → K (a.put o.dst v') w') :
    o.wp Tryz.prog a (w0.alloc (.cells (enc p).toArray E)) K Q := by
  subst hk
  obtain ⟨i0, hi, hz0, hz1, hz2⟩ := info_parts hI
  have hbk := heap_alloc_new w0 (.cells (enc p).toArray E)
  have hlb : (L.length + 1) * bytes ≤ 140737488355328 := by
    have h2 : (L.length + 1) * bytes ≤ 1000002 * 1000000 := Nat.mul_le_mul (by omega) hby
    omega
  have hnews : ∀ j y, (enc p)[j]? = some y → (w0.alloc (.cells (enc p).toArray E)).cell? ((⟨w0.heap.size, 0, none⟩ : Addr).add j) = some y := fun j y hj => by
    have e0 : (⟨w0.heap.size, 0, none⟩ : Addr).add j = ⟨w0.heap.size, j, none⟩ := by
      unfold Addr.add
      by_cases h : j = 0
      · rw [h]; rfl
      · simp [h]
    rw [e0]
    unfold World.cell?
    simp only []
    rw [hbk]
    simpa using hj
  obtain ⟨v', w', hr, hown', hgrow, _, hat⟩ := run_append_own_at (P := Tryz.prog) (w0.alloc (.cells (enc p).toArray E)) B T o.type E i0 z s bytes hTE hi hz0 hz1 hz2 hzs hs0 v _ _ (hrow.alloc _) ⟨w0.heap.size, 0, none⟩ 1 1 (enc p) (by rw [he, Nat.one_mul]) hnews (h1 p) (by unfold maxLen; omega) hlb (by simp; omega)
  unfold Oper.wp execOp
  simp only [ho, resolve, invoke, builtin, Sem.run_bind, Sem.run_pure, Result.andThen_ok, List.map_toArray, List.map_cons, List.map_nil, hs, hx, hr]
  have hg0 : w0.grownBy w' v.ownBlock := World.grownBy.trans (b := w0.alloc (.cells (enc p).toArray E)) ⟨rfl, rfl, rfl, by simp, fun k hk _ => Below.heap_alloc w0 _ k hk⟩ hgrow
  refine h v' w' ?_ ((Below.refl B w0).grown hg0 hB (fun k hk => (hrow.lt k hk).1)) hg0 (by simpa using hat)
  have e1 : (L ++ [p]).length = L.length + 1 := by simp
  have e2 : (L ++ [p]).flatMap enc = L.flatMap enc ++ enc p := by simp [List.flatMap_append]
  show w'.ownsRow _ _ _ _ _ _
  rw [e1, e2]
  exact hown'
end Go.Proofs.YtiifbhiodegipaaGreatDoor
