/- The document's own disk: all its calls, over a state. -/
import Derived.Test.YtkjdfelmjanpcaaDoorDkCut
import Derived.Maps.AppendAt
namespace Go.Proofs.YtkjdfelmjanpcaaDoor
section
open Go.RowKit Go.Maps
def encF (f : FEnt) : List Value := [.string ⟨f.1.toArray⟩, .string (strOfNums f.2.1), .int .i64 (f.2.2 : Nat)]
/-- A row of the document's files. -/
abbrev RowF (w : World) (B : Nat) (v : Value) (L : List FEnt) : Prop := w.ownsRow B 89 3 v L.length (L.flatMap encF)
def leftR (armed : Bool) (left : Int) : Int := if armed then left else -1
/-- The document's disk in block r, with the files of D; all that is its own lies in blocks of which Q holds. -/
def RefAt (w : World) (r : Nat) (Q : Nat → Prop) (D : DSt) : Prop :=
  ∃ v, w.heap[r]? = some (.cells #[v, .bool D.lost, .int .i64 (leftR D.armed D.left)] 42 (0, 0)) ∧ RowF w 0 v D.fs ∧ Q r ∧ (∀ d, v.ownBlock = some d → Q d) ∧ (∀ i, Q i → i < w.heap.size) ∧ 0 ≤ D.left ∧ D.left ≤ 9223372036854775807
theorem add0 (g n : Nat) : (⟨g, 0, none⟩ : Addr).add n = ⟨g, n, none⟩ := by
  unfold Addr.add
  by_cases h : n = 0
  · subst h; rfl
  · simp [h]
theorem flat_at : ∀ (L : List FEnt) (i j : Nat) (f : FEnt), L[i]? = some f → j < 3 → (L.flatMap encF)[i * 3 + j]? = (encF f)[j]?
  | [], i, j, f, h, _ => by simp at h
  | a :: L, 0, j, f, h, hj => by
    obtain rfl : a = f := by simpa using h
    rw [List.flatMap_cons, Nat.zero_mul, Nat.zero_add, List.getElem?_append_left (by simp [encF]; omega)]
  | a :: L, i + 1, j, f, h, hj => by
    rw [List.flatMap_cons, List.getElem?_append_right (by simp [encF]; omega)]
    have e : (i + 1) * 3 + j - (encF a).length = i * 3 + j := by simp [encF]; omega
    rw [e]
    exact flat_at L i j f (by simpa using h) hj
/-- What is read of a row of files. -/
def SeesF (w : World) (v : Value) (L : List FEnt) : Prop :=
  ∃ (ao : Option Addr) (c : Nat), v = .slice ao L.length c ∧ L.length ≤ c ∧ (ao = none → L = []) ∧ ∀ a, ao = some a → ∃ g, a = ⟨g, 0, none⟩ ∧ g < w.heap.size ∧ ∀ i f, L[i]? = some f →
    w.cell? ⟨g, i * 3, none⟩ = some (.string ⟨f.1.toArray⟩) ∧ w.cell? ⟨g, i * 3 + 1, none⟩ = some (.string (strOfNums f.2.1)) ∧ w.cell? ⟨g, i * 3 + 2, none⟩ = some (.int .i64 (f.2.2 : Nat))
theorem RowF.sees {w : World} {B : Nat} {v : Value} {L : List FEnt} (h : RowF w B v L) : SeesF w v L := by
  rcases h.2 with ⟨e, h0⟩ | ⟨g, cap, cur, e, _, hb, hn, _⟩
  · have h1 : L = [] := List.eq_nil_of_length_eq_zero h0
    subst h1
    exact ⟨none, 0, e, Nat.le_refl _, (fun _ => rfl), (fun a ha => by cases ha)⟩
  · refine ⟨_, _, e, hn, (fun h => by cases h), fun a ha => ⟨g, (Option.some.inj ha).symm, heap_lt hb, fun i f hf => ?_⟩⟩
    have hc := World.ownsRow.cells h (g := g) (by rw [e]; rfl)
    have h0 := hc (i * 3 + 0) _ ((flat_at L i 0 f hf (by omega)).trans rfl)
    have h1 := hc (i * 3 + 1) _ ((flat_at L i 1 f hf (by omega)).trans rfl)
    have h2 := hc (i * 3 + 2) _ ((flat_at L i 2 f hf (by omega)).trans rfl)
    rw [add0] at h0 h1 h2
    exact ⟨h0, h1, h2⟩
theorem SeesF.keep {w w' : World} {v : Value} {L : List FEnt} (h : SeesF w v L) (hb : ∀ d, v.ownBlock = some d → d < w.heap.size → w'.heap[d]? = w.heap[d]?) (hz : w.heap.size ≤ w'.heap.size) : SeesF w' v L := by
  obtain ⟨ao, c, rfl, h1, h2, h3⟩ := h
  refine ⟨ao, c, rfl, h1, h2, fun a ha => ?_⟩
  obtain ⟨g, rfl, h4, h5⟩ := h3 a ha
  subst ha
  have e := hb g rfl h4
  refine ⟨g, rfl, by omega, fun i f hf => ?_⟩
  obtain ⟨q1, q2, q3⟩ := h5 i f hf
  exact ⟨(World.cell?_of_block e).trans q1, (World.cell?_of_block e).trans q2, (World.cell?_of_block e).trans q3⟩
theorem SeesF.below {w w' : World} {v : Value} {L : List FEnt} (h : SeesF w v L) (hb : Below w.heap.size w w') : SeesF w' v L := h.keep (fun d _ hd => hb.block d hd) hb.size
theorem getE_none {β : Type} {L : List (List UInt8 × β)} {k : List UInt8} (h : ∀ p ∈ L, p.1 ≠ k) : getE L k = none := by
  unfold getE
  rw [List.find?_eq_none.2 (fun p hp => by simpa using h p hp)]
  rfl
theorem getE_first {β : Type} : ∀ {L : List (List UInt8 × β)} {k : List UInt8} {i : Nat} {u : β}, L[i]? = some (k, u) → (∀ p ∈ L.take i, p.1 ≠ k) → getE L k = some u
  | [], _, _, _, h, _ => by simp at h
  | a :: L, k, 0, u, h, _ => by
    obtain rfl : a = (k, u) := by simpa using h
    unfold getE
    rw [List.find?_cons]
    simp
  | a :: L, k, i + 1, u, h, hn => by
    have h1 : a.1 ≠ k := hn a (by simp)
    have ih := getE_first (L := L) (k := k) (i := i) (u := u) (by simpa using h) (fun p hp => hn p (by simp [hp]))
    unfold getE at ih ⊢
    rw [List.find?_cons, show (a.1 == k) = false from by simpa using h1]
    exact ih
set_option maxRecDepth 100000 in
set_option maxHeartbeats 2000000 in
theorem find_r (r : Nat) (v x1 x2 : Value) (L : List FEnt) (s : ByteArray) (w : World) (hr : w.heap[r]? = some (.cells #[v, x1, x2] 42 (0, 0))) (hv : SeesF w v L) (hn : L.length ≤ 1000000) :
    Calls Tryd.prog 79 #[ptr r, .string s] w fun e w' => ∃ j : Int, e = .returned (.int .i64 j) ∧ Below w.heap.size w w' ∧
      ((j = -1 ∧ getE L s.data.toList = none) ∨ ∃ (i : Nat) (u : List Int × Nat), j = i ∧ L[i]? = some (s.data.toList, u) ∧ getE L s.data.toList = some u) := by
  have c0 : w.cell? ⟨r, 0, none⟩ = some v := by simp [World.cell?, hr]
  obtain ⟨ao, c, rfl, hlc, hnil, hc⟩ := hv
  have HC := Lib.hid (And.intro hnil hc)
  have hrl := heap_lt hr
  clear hnil hc hr
  go_enter Tryd.func79, Tryd.ntmps79
  go_wp2_with fail
  go_loopw [12] (fun j wr => ∃ i : Nat, i ≤ L.length ∧ j = .int .i64 i ∧ Below w.heap.size w wr ∧ ∀ p ∈ L.take i, p.1 ≠ s.data.toList) (fun j _ => L.length - (intOf j).toNat)
  case atStart => exact ⟨0, Nat.zero_le _, rfl, Below.refl _ _, by simp⟩
  case round =>
    obtain ⟨i, hi, rfl, hB, hno⟩ := hrel
    by_cases hlt : i < L.length
    · obtain ⟨a, rfl⟩ : ∃ a, ao = some a := by
        cases ao with
        | none => rw [HC.out.1 rfl] at hlt; simp at hlt
        | some a => exact ⟨a, rfl⟩
      obtain ⟨g, rfl, hg, hcs⟩ := HC.out.2 a rfl
      obtain ⟨q0, q1, q2⟩ := hcs i L[i] (List.getElem?_eq_getElem hlt)
      have q0 := (hB.cell (cell_lt8 q0)).trans q0
      have q1 := (hB.cell (cell_lt8 q1)).trans q1
      have q2 := (hB.cell (cell_lt8 q2)).trans q2
      have b0 : (0 : Int) ≤ (i : Int) := by omega
      have b1 : (i : Int) < (L.length : Int) := by omega
      clear hcs
      by_cases he : L[i].1 = s.data.toList
      · have d0 : (L[i].1 == s.toList) = true := by rw [ByteArray.toList_eq]; simpa using he
        go_wp2_with fail
        go_ret
        have h1 : L[i]? = some (s.data.toList, L[i].2) := by rw [List.getElem?_eq_getElem hlt, ← he]
        refine ⟨i, rfl, belAlloc hB _, Or.inr ⟨i, L[i].2, rfl, h1, ?_⟩⟩
        exact getE_first h1 hno
      · have d0 : (L[i].1 == s.toList) = false := by rw [ByteArray.toList_eq]; simpa using he
        go_wp2_with fail
        go_roundw
        case rel =>
          refine ⟨i + 1, by omega, by go_num, belAlloc hB _, fun p hp => ?_⟩
          rw [List.take_add_one, List.getElem?_eq_getElem hlt] at hp
          rcases List.mem_append.1 hp with hp | hp
          · exact hno p hp
          · obtain rfl : p = L[i] := by simpa using hp
            exact he
        case measure => simp [intOf]; omega
    · obtain rfl : i = L.length := by omega
      go_wp2_with fail
      go_ret
      exact ⟨-1, rfl, hB, Or.inl ⟨rfl, getE_none (fun p hp => hno p (by rw [List.take_length]; exact hp))⟩⟩
def zeroR : Value := .agg #[.string ⟨#[]⟩, .string ⟨#[]⟩, .int .i64 0]
def fileV (s : ByteArray) : Option (List Int × Nat) → Value
  | none => zeroR
  | some u => .agg #[.string s, .string (strOfNums u.1), .int .i64 (u.2 : Nat)]
theorem zeroSem (w : World) : (zeroValue 89).run Tryd.prog w = .ok zeroR w := by kernel_rfl
set_option maxRecDepth 100000 in
set_option maxHeartbeats 2000000 in
theorem Find_r (r : Nat) (v x1 x2 : Value) (L : List FEnt) (s : ByteArray) (w : World) (hr : w.heap[r]? = some (.cells #[v, x1, x2] 42 (0, 0))) (hv : SeesF w v L) (hn : L.length ≤ 1000000) :
    Calls Tryd.prog 46 #[ptr r, .string s] w fun e w' => e = .returned (.tuple #[fileV s (getE L s.data.toList), .bool (getE L s.data.toList).isSome]) ∧ Below w.heap.size w w' := by
  have hb0 := belNew w (.cells #[.string ⟨#[]⟩, .string ⟨#[]⟩, .int .i64 0] 89)
  have hr0 : (w.alloc (.cells #[.string ⟨#[]⟩, .string ⟨#[]⟩, .int .i64 0] 89)).heap[r]? = some (.cells #[v, x1, x2] 42 (0, 0)) := (hb0.block r (heap_lt hr)).trans hr
  have HF := Lib.hid (find_r r v x1 x2 L s _ hr0 (hv.below hb0) hn)
  obtain ⟨G, hG⟩ : ∃ G, G = getE L s.data.toList := ⟨_, rfl⟩
  rw [← hG] at HF ⊢
  clear hG
  have HV := Lib.hid hv
  have HB0 := Lib.hid hb0
  have HR := Lib.hid hr0
  clear hb0 hr0 hv hr
  go_enter Tryd.func46, Tryd.ntmps46
  go_wp2_with fail
  refine HF.out.mono ?_; rintro e w1 ⟨j, rfl, hb1, hj⟩
  have hB1 := HB0.out.trans (hb1.mono HB0.out.size)
  have hbk : w1.heap[w.heap.size]? = some (.cells #[.string ⟨#[]⟩, .string ⟨#[]⟩, .int .i64 0] 89 (0, 0)) := (hb1.block w.heap.size (by simp)).trans (heap_alloc_new w _)
  have k0 : w1.cell? ⟨w.heap.size, 0, none⟩ = some (.string ⟨#[]⟩) := by simp [World.cell?, hbk]
  have k1 : w1.cell? ⟨w.heap.size, 1, none⟩ = some (.string ⟨#[]⟩) := by simp [World.cell?, hbk]
  have k2 : w1.cell? ⟨w.heap.size, 2, none⟩ = some (.int .i64 0) := by simp [World.cell?, hbk]
  have f0 : w1.frozen? ⟨w.heap.size, 0, none⟩ = false := by simp [World.frozen?, hbk]
  have f1 : w1.frozen? ⟨w.heap.size, 1, none⟩ = false := by simp [World.frozen?, hbk]
  have f2 : w1.frozen? ⟨w.heap.size, 2, none⟩ = false := by simp [World.frozen?, hbk]
  have HK := Lib.hid hbk
  have HB1 := Lib.hid hB1
  have HR1 := Lib.hid ((hb1.block r (heap_lt HR.out)).trans HR.out)
  clear hbk hB1
  rcases hj with ⟨rfl, hg⟩ | ⟨i, u, rfl, hi, hg⟩
  · subst hg
    clear hb1
    have hz := zeroSem
    unfold zeroR at hz
    go_wp2_with fail
    have hs1 := dset HK.out 0 (.string ⟨#[]⟩)
    have hs2 := dset hs1 1 (.string ⟨#[]⟩)
    have hs3 := dset hs2 2 (.int .i64 0)
    refine bodyPost_ret (v := .tuple #[zeroR, .bool false]) (by simp [results, Tryd.results46, go_sem, World.cell?, hs3, zeroR]) rfl ⟨rfl, ?_⟩
    exact ((HB1.out.setCell (p := ⟨w.heap.size, 0, none⟩) (by simp) _).setCell (p := ⟨w.heap.size, 1, none⟩) (by simp) _).setCell (p := ⟨w.heap.size, 2, none⟩) (by simp) _
  · subst hg
    have hlt : i < L.length := (List.getElem?_eq_some_iff.1 hi).1
    obtain ⟨ao, c, rfl, hlc, hnil, hc⟩ := HV.out.below HB1.out
    obtain ⟨a, rfl⟩ : ∃ a, ao = some a := by
      cases ao with
      | none => rw [hnil rfl] at hlt; simp at hlt
      | some a => exact ⟨a, rfl⟩
    obtain ⟨gg, rfl, hgl, hcs⟩ := hc a rfl
    obtain ⟨q0, q1, q2⟩ := hcs i _ hi
    simp only [] at q0 q1 q2
    have c0 : w1.cell? ⟨r, 0, none⟩ = some (.slice (some ⟨gg, 0, none⟩) L.length c) := by simp [World.cell?, HR1.out]
    have b0 : (0 : Int) ≤ (i : Int) := by omega
    have b1 : (i : Int) < (L.length : Int) := by omega
    have d0 : decide ((i : Int) < 0) = false := by simp
    clear hcs hc hnil hi hb1
    go_wp2_with fail
    have hs1 := dset HK.out 0 (.string ⟨s.data.toList.toArray⟩)
    have hs2 := dset hs1 1 (.string (strOfNums u.1))
    have hs3 := dset hs2 2 (.int .i64 (u.2 : Nat))
    refine bodyPost_ret (v := .tuple #[fileV s (some u), .bool true]) (by simp [results, Tryd.results46, go_sem, World.cell?, hs3, fileV]) rfl ⟨rfl, ?_⟩
    exact ((HB1.out.setCell (p := ⟨w.heap.size, 0, none⟩) (by simp) _).setCell (p := ⟨w.heap.size, 1, none⟩) (by simp) _).setCell (p := ⟨w.heap.size, 2, none⟩) (by simp) _
end
section
open Go.RowKit Go.Maps
def howR (lost armed : Bool) (left : Int) : Int := if lost = true then 1 else if lost1 lost armed left = true then 2 else 0
abbrev RCells (w : World) (r : Nat) (v : Value) (lost : Bool) (n : Int) : Prop := w.heap[r]? = some (.cells #[v, .bool lost, .int .i64 n] 42 (0, 0))
theorem rcells {w : World} {g : Nat} {a b c : Value} {t : TypeId} (h : w.heap[g]? = some (.cells #[a, b, c] t (0, 0))) : w.cell? ⟨g, 0, none⟩ = some a ∧ w.cell? ⟨g, 1, none⟩ = some b ∧ w.cell? ⟨g, 2, none⟩ = some c := by simp [World.cell?, h]
theorem rfroz {w : World} {g : Nat} {a b c : Value} {t : TypeId} (h : w.heap[g]? = some (.cells #[a, b, c] t (0, 0))) (i : Nat) : w.frozen? ⟨g, i, none⟩ = false := by simp [World.frozen?, h]
set_option maxRecDepth 100000 in
set_option maxHeartbeats 2000000 in
theorem write_r (r : Nat) (v : Value) (lost armed : Bool) (left : Int) (w : World) (h : RCells w r v lost (leftR armed left)) (h0 : 0 ≤ left) (h1 : left ≤ 9223372036854775807) :
    Calls Tryd.prog 72 #[ptr r] w fun e w' => e = .returned (.int .i64 (howR lost armed left)) ∧ RCells w' r v (lost1 lost armed left) (leftR armed (left1 lost armed left)) ∧ Touch (· = r) w w' := by
  obtain ⟨c0, c1, c2⟩ := rcells h
  have f1 := rfroz h 1
  have f2 := rfroz h 2
  cases lost with
  | true =>
    have e1 : lost1 true armed left = true := by simp [lost1]
    have e2 : left1 true armed left = left := by simp [left1, lost1]
    have e3 : howR true armed left = 1 := if_pos rfl
    rw [e1, e2, e3]
    have HD := Lib.hid h
    clear h
    go_enter Tryd.func72, Tryd.ntmps72
    go_wp2
    go_ret
    exact ⟨rfl, HD.out, Touch.refl _ _⟩
  | false =>
    cases armed with
    | false =>
      have e1 : lost1 false false left = false := by simp [lost1]
      have e2 : left1 false false left = left := by simp [left1]
      have e3 : howR false false left = 0 := by unfold howR; rw [e1]; rfl
      have e4 : leftR false left = -1 := rfl
      rw [e1, e2, e3]
      rw [e4] at c2
      have HD := Lib.hid h
      clear h
      go_enter Tryd.func72, Tryd.ntmps72
      go_wp2
      go_ret
      exact ⟨rfl, HD.out, Touch.refl _ _⟩
    | true =>
      have e4 : leftR true left = left := rfl
      rw [e4] at c2
      by_cases hl : left = 0
      · subst hl
        have e1 : lost1 false true 0 = true := by simp [lost1]
        have e2 : left1 false true 0 = 0 := by unfold left1; rw [if_neg (by rw [e1]; simp)]
        have e3 : howR false true 0 = 2 := by unfold howR; rw [e1]; rfl
        rw [e1, e2, e3]
        have HD := Lib.hid (dset h 1 (.bool true))
        have HT := Lib.hid (touch_set w r 1 (.bool true))
        clear h
        go_enter Tryd.func72, Tryd.ntmps72
        go_wp2
        go_ret
        exact ⟨rfl, HD.out, HT.out⟩
      · have b0 : (left == 0) = false := by simpa using hl
        have b1 : decide (0 < left) = true := by simp; omega
        have e1 : lost1 false true left = false := by simp [lost1, b0]
        have e2 : left1 false true left = left - 1 := by simp [left1, lost1, b0]
        have e3 : howR false true left = 0 := by unfold howR; rw [e1]; rfl
        have s1 : IntKind.i64.wrap (left - 1) = left - 1 := IntWalk.i64_in _ (by omega)
        rw [e1, e2, e3]
        have HD := Lib.hid (dset h 2 (.int .i64 (left - 1)))
        have HT := Lib.hid (touch_set w r 2 (.int .i64 (left - 1)))
        clear h
        go_enter Tryd.func72, Tryd.ntmps72
        go_wp2
        go_ret
        exact ⟨rfl, HD.out, HT.out⟩
theorem info62 : (Tryd.prog.info? 89).map (fun i => (i.zero, i.size, i.bytes)) = some (some zeroR, 3, 40) := by kernel_rfl
/-- append of one file to a row of the call's own. -/
theorem wpList_pushF {w0 : World} {ops : Array Oper} {rest : List Oper} {o : Oper} {a : Act} {Q : Exit → Act → World → Prop} (hgd : o.guard = none) (s x : Operand)
    (ho : o.op = .call { callee := .builtin .append, args := #[s, x], argTypes := #[40, 40] }) (B : Nat) (v : Value) (L : List FEnt) (nm : ByteArray) (u : List Int × Nat)
    (k : Nat) (hk : k = w0.heap.size) (hs : a.eval s = v) (hx : a.eval x = .slice (some ⟨k, 0, none⟩) 1 1) (hrow : RowF w0 B v L) (hlen : L.length ≤ 1000001) (hB : B ≤ w0.heap.size)
    (h : ∀ v' w', RowF w' B v' (L ++ [(nm.data.toList, u)]) → Below B w0 w' → w0.grownBy w' v.ownBlock → wpList Tryd.prog ops Q rest (a.put o.dst v') w') :
    wpList Tryd.prog ops Q (o :: rest) a (w0.alloc (.cells #[.string nm, .string (strOfNums u.1), .int .i64 (u.2 : Nat)] 89)) := by
  subst hk
  obtain ⟨i0, hi, hz0, hz1, hz2⟩ := info_parts info62
  have hbk := heap_alloc_new w0 (.cells #[.string nm, .string (strOfNums u.1), .int .i64 (u.2 : Nat)] 89)
  refine wpList_append_own _ hgd s x 40 ho B 89 i0 zeroR 3 40 Tryd.underlying40 hi hz0 hz1 hz2 rfl (by decide) v _ _ hs (hrow.alloc _) ⟨w0.heap.size, 0, none⟩ 1 1 [.string nm, .string (strOfNums u.1), .int .i64 (u.2 : Nat)] hx rfl (fun j y hj => ?_) ?_ (by unfold maxLen; omega) (by omega) (by simp; omega) ?_
  · rw [add0]
    rcases j with _ | _ | _ | j
    · obtain rfl : Value.string nm = y := by simpa using hj
      exact (rcells hbk).1
    · obtain rfl : Value.string (strOfNums u.1) = y := by simpa using hj
      exact (rcells hbk).2.1
    · obtain rfl : Value.int .i64 (u.2 : Nat) = y := by simpa using hj
      exact (rcells hbk).2.2
    · simp at hj
  · intro y hy
    simp only [List.mem_cons, List.not_mem_nil, or_false] at hy
    rcases hy with rfl | rfl | rfl <;> rfl
  · intro v' w' hown' hgrow _
    have hg0 : w0.grownBy w' v.ownBlock := World.grownBy.trans (b := w0.alloc (.cells #[.string nm, .string (strOfNums u.1), .int .i64 (u.2 : Nat)] 89)) ⟨rfl, rfl, rfl, by simp, fun k hk _ => Below.heap_alloc w0 _ k hk⟩ hgrow
    refine h v' w' ?_ ((Below.refl B w0).grown hg0 hB (fun k hk => (hrow.lt k hk).1)) hg0
    have e1 : (L ++ [(nm.data.toList, u)]).length = L.length + 1 := by simp
    have e2 : (L ++ [(nm.data.toList, u)]).flatMap encF = L.flatMap encF ++ [.string nm, .string (strOfNums u.1), .int .i64 (u.2 : Nat)] := by simp [List.flatMap_append, encF]
    show w'.ownsRow _ _ _ _ _ _
    rw [e1, e2]
    exact hown'
end
section
open Go.RowKit Go.Maps
theorem delE_snoc {β : Type} (k : List UInt8) (T : List (List UInt8 × β)) (y : List UInt8 × β) : delE k (T ++ [y]) = if y.1 = k then delE k T else delE k T ++ [y] := by
  unfold delE
  rw [List.filter_append]
  by_cases h : y.1 = k
  · rw [if_pos h, List.filter_cons_of_neg (by simp [h])]; simp
  · rw [if_neg h, List.filter_cons_of_pos (by simp [h])]; simp
theorem take_snoc {α : Type} {L : List α} {i : Nat} (h : i < L.length) : L.take (i + 1) = L.take i ++ [L[i]] := by
  rw [List.take_add_one, List.getElem?_eq_getElem h]; rfl
theorem delE_le {β : Type} (k : List UInt8) (L : List (List UInt8 × β)) : (delE k L).length ≤ L.length := List.length_filter_le _ _
set_option maxRecDepth 100000 in
set_option maxHeartbeats 4000000 in
theorem without_r (r : Nat) (v x1 x2 : Value) (L : List FEnt) (s : ByteArray) (w : World) (hr : w.heap[r]? = some (.cells #[v, x1, x2] 42 (0, 0))) (hv : SeesF w v L) (hn : L.length ≤ 1000000) :
    Calls Tryd.prog 87 #[ptr r, .string s] w fun e w' => ∃ v', e = .returned v' ∧ RowF w' w.heap.size v' (delE s.data.toList L) ∧ Below w.heap.size w w' := by
  obtain ⟨c0, -⟩ := rcells hr
  obtain ⟨ao, c, rfl, hlc, hnil, hc⟩ := hv
  have HC := Lib.hid (And.intro hnil hc)
  have hrl := heap_lt hr
  clear hnil hc hr
  go_enter Tryd.func87, Tryd.ntmps87
  go_wp2_with fail
  go_loopw [5, 13] (fun x j wr => ∃ i : Nat, i ≤ L.length ∧ j = .int .i64 i ∧ Below w.heap.size w wr ∧ RowF wr w.heap.size x (delE s.data.toList (L.take i))) (fun _ j _ => L.length - (intOf j).toNat)
  case atStart => exact ⟨0, Nat.zero_le _, rfl, Below.refl _ _, World.ownsRow_nil _ _ _ _⟩
  case round =>
    obtain ⟨i, hi, rfl, hB, hrow⟩ := hrel
    by_cases hlt : i < L.length
    · obtain ⟨a, rfl⟩ : ∃ a, ao = some a := by
        cases ao with
        | none => rw [HC.out.1 rfl] at hlt; simp at hlt
        | some a => exact ⟨a, rfl⟩
      obtain ⟨g, rfl, hg, hcs⟩ := HC.out.2 a rfl
      obtain ⟨q0, q1, q2⟩ := hcs i L[i] (List.getElem?_eq_getElem hlt)
      have q0 := (hB.cell (cell_lt8 q0)).trans q0
      have q1 := (hB.cell (cell_lt8 q1)).trans q1
      have q2 := (hB.cell (cell_lt8 q2)).trans q2
      have b0 : (0 : Int) ≤ (i : Int) := by omega
      have b1 : (i : Int) < (L.length : Int) := by omega
      have hle : (delE s.data.toList (L.take i)).length ≤ i := Nat.le_trans (delE_le _ _) (by rw [List.length_take]; omega)
      have hsz := hB.size
      clear hcs
      by_cases he : L[i].1 = s.data.toList
      · have d0 : (L[i].1 == s.toList) = true := by rw [ByteArray.toList_eq]; simpa using he
        go_wp2_with fail
        go_roundw
        case rel =>
          refine ⟨i + 1, by omega, by go_num, belAlloc hB _, ?_⟩
          rw [take_snoc hlt, delE_snoc, if_pos he]
          exact hrow.alloc _
        case measure => simp [intOf]; omega
      · have d0 : (L[i].1 == s.toList) = false := by rw [ByteArray.toList_eq]; simpa using he
        have hrow1 := hrow.alloc (.cells #[.string ⟨L[i].1.toArray⟩, .string (strOfNums L[i].2.1), .int .i64 (L[i].2.2 : Nat)] 89)
        have hB1 := belAlloc hB (.cells #[.string ⟨L[i].1.toArray⟩, .string (strOfNums L[i].2.1), .int .i64 (L[i].2.2 : Nat)] 89)
        go_wp2_with (first
          | (at_builtin; refine wpList_pushF rfl (.tmp 21) (.tmp 23) rfl w.heap.size u5 _ ⟨L[i].1.toArray⟩ L[i].2 (wr.heap.size + 1) (by simp) rfl rfl hrow1 (by omega) (by simp; omega) ?_; intro v2 w2 hrow2 hb2 _)
          | fail)
        go_roundw
        case rel =>
          refine ⟨i + 1, by omega, by go_num, hB1.trans hb2, ?_⟩
          rw [take_snoc hlt, delE_snoc, if_neg he]
          exact hrow2
        case measure => simp [intOf]; omega
    · obtain rfl : i = L.length := by omega
      rw [List.take_length] at hrow
      go_wp2_with fail
      go_ret
      exact ⟨_, rfl, hrow, hB⟩
end
section
open Go.RowKit Go.Maps Go.WideShapes Go.WideAt
def anyB (k : List UInt8) (T : List FEnt) : Bool := T.any (fun y => bytesBefore k y.1)
def midP (x : FEnt) (T : List FEnt) : List FEnt := if anyB x.1 T = true then insE x T else T
theorem insE_any (x y : FEnt) : ∀ T : List FEnt, anyB x.1 T = true → insE x (T ++ [y]) = insE x T ++ [y]
  | [], h => by simp [anyB] at h
  | a :: r, h => by
    rw [List.cons_append, insE, insE]
    by_cases hb : bytesBefore x.1 a.1 = true
    · rw [if_pos hb, if_pos hb]; rfl
    · rw [if_neg hb, if_neg hb, insE_any x y r (by unfold anyB at h ⊢; simpa [hb] using h)]; rfl
theorem insE_none (x : FEnt) (S : List FEnt) : ∀ T : List FEnt, anyB x.1 T = false → insE x (T ++ S) = T ++ insE x S
  | [], _ => rfl
  | a :: r, h => by
    have h1 : ¬ bytesBefore x.1 a.1 = true ∧ anyB x.1 r = false := by unfold anyB at h ⊢; simpa using h
    rw [List.cons_append, insE, if_neg h1.1, insE_none x S r h1.2]; rfl
theorem anyB_snoc (k : List UInt8) (T : List FEnt) (y : FEnt) : anyB k (T ++ [y]) = (anyB k T || bytesBefore k y.1) := by unfold anyB; simp
theorem less_before : ∀ a b : List UInt8, Op.bytesLess a b = bytesBefore a b
  | [], [] => rfl
  | [], _ :: _ => rfl
  | _ :: _, [] => rfl
  | a :: r, b :: s => by unfold Op.bytesLess bytesBefore; rw [less_before r s]
theorem before_not {a b : List UInt8} (h : a ≠ b) : bytesBefore a b = !(bytesBefore b a) := by
  cases h1 : bytesBefore a b with
  | true =>
    cases h2 : bytesBefore b a with
    | true =>
      have h3 := bytes_trans a b a h1 h2
      rw [bytes_irrefl] at h3
      cases h3
    | false => rfl
  | false =>
    rcases bytes_total a b h with h2 | h2
    · rw [h1] at h2; cases h2
    · rw [h2]; rfl
theorem insE_end (x : FEnt) (T : List FEnt) (h : anyB x.1 T = false) : insE x T = T ++ [x] := by
  have := insE_none x [] T h
  rw [List.append_nil] at this
  exact this
theorem midP_len (x : FEnt) (T : List FEnt) : (midP x T).length ≤ T.length + 1 := by
  unfold midP
  split
  · rw [insE_length]; exact Nat.le_refl _
  · omega
theorem row_le {w : World} {B B' : Nat} {v : Value} {L : List FEnt} (h : RowF w B v L) (hb : B' ≤ B) : RowF w B' v L := ⟨h.1, h.2.imp id fun ⟨g, cap, cur, e, b, r⟩ => ⟨g, cap, cur, e, Nat.le_trans hb b, r⟩⟩
theorem row_ne {w : World} {B r : Nat} {v : Value} {L : List FEnt} (h : RowF w B v L) (hr : r < B) : v.ownBlock = none ∨ v.ownBlock ≠ some r := by
  cases hv : v.ownBlock with
  | none => exact Or.inl rfl
  | some d => exact Or.inr (fun e => by have h1 := (World.ownsRow.lt h d hv).1; have h2 := Option.some.inj e; omega)
set_option maxRecDepth 100000 in
set_option maxHeartbeats 4000000 in
theorem put_r (r : Nat) (v x1 x2 : Value) (L : List FEnt) (s : ByteArray) (u : List Int × Nat) (w : World) (hr : w.heap[r]? = some (.cells #[v, x1, x2] 42 (0, 0))) (hv : SeesF w v L) (hn : L.length ≤ 1000000) :
    Calls Tryd.prog 73 #[ptr r, .agg #[.string s, .string (strOfNums u.1), .int .i64 (u.2 : Nat)]] w fun e w' => e = .returned (.tuple #[]) ∧ ∃ v', w'.heap[r]? = some (.cells #[v', x1, x2] 42 (0, 0)) ∧ RowF w' w.heap.size v' (putE s.data.toList u L) ∧ Touch (· = r) w w' := by
  have hrl := heap_lt hr
  have hb0 := belNew w (.cells #[.string s, .string (strOfNums u.1), .int .i64 (u.2 : Nat)] 89)
  have hbx := heap_alloc_new w (.cells #[.string s, .string (strOfNums u.1), .int .i64 (u.2 : Nat)] 89)
  obtain ⟨w0, hw0⟩ : ∃ w0, w0 = w.alloc (.cells #[.string s, .string (strOfNums u.1), .int .i64 (u.2 : Nat)] 89) := ⟨_, rfl⟩
  have hz0 : w0.heap.size = w.heap.size + 1 := by rw [hw0]; simp
  rw [← hw0] at hb0 hbx
  obtain ⟨p0, p1, p2⟩ := rcells hbx
  have hr0 := (hb0.block r hrl).trans hr
  have HW := Lib.hid (without_r r v x1 x2 L s w0 hr0 (hv.below hb0) hn)
  obtain ⟨M, hM⟩ : ∃ M, M = delE s.data.toList L := ⟨_, rfl⟩
  have hMn : ∀ p ∈ M, p.1 ≠ s.data.toList := by
    intro p hp
    rw [hM] at hp
    have := (List.mem_filter.1 hp).2
    simpa using this
  have hMl : M.length ≤ 1000000 := by rw [hM]; exact Nat.le_trans (delE_le _ _) hn
  have hput : putE s.data.toList u L = insE (s.data.toList, u) M := by rw [hM]; rfl
  rw [← hM] at HW
  rw [hput]
  have HMN := Lib.hid hMn
  have HB0 := Lib.hid hb0
  have HBX := Lib.hid hbx
  have HR0 := Lib.hid hr0
  have HW0 := Lib.hid hw0
  clear hM hput hMn hb0 hbx hr0 hv hr hw0
  go_enter Tryd.func73, Tryd.ntmps73
  go_upto_region 3 with fail
  rw [← HW0.out]
  go_wp2_with fail
  refine HW.out.mono ?_; rintro e w1 ⟨v1, rfl, hrow1, hb1⟩
  have hz1 := hb1.size
  have hbx1 := (hb1.block w.heap.size (by omega)).trans HBX.out
  have HB1 := Lib.hid (HB0.out.trans (hb1.mono (by omega : w.heap.size ≤ w0.heap.size)))
  have HR1 := Lib.hid ((hb1.block r (by omega)).trans HR0.out)
  obtain ⟨ao, c, hv1, hlc, hnil, hc⟩ := RowF.sees hrow1
  subst hv1
  have HC := Lib.hid (And.intro hnil hc)
  have HX1 := Lib.hid hbx1
  clear hnil hc hrow1 hb1 hbx1 p0 p1 p2
  go_wp2_with fail
  go_loopw [4, 5, 13] (fun x dn j wr => ∃ i : Nat, i ≤ M.length ∧ j = .int .i64 i ∧ dn = .bool (anyB s.data.toList (M.take i)) ∧ Below w1.heap.size w1 wr ∧ RowF wr w1.heap.size x (midP (s.data.toList, u) (M.take i))) (fun _ _ j _ => M.length - (intOf j).toNat)
  case atStart => exact ⟨0, Nat.zero_le _, rfl, rfl, Below.refl _ _, World.ownsRow_nil _ _ _ _⟩
  case round =>
    obtain ⟨i, hi, rfl, rfl, hB, hrow⟩ := hrel
    have hxw := (hB.block w.heap.size (by omega)).trans HX1.out
    obtain ⟨p0, p1, p2⟩ := rcells hxw
    by_cases hlt : i < M.length
    · obtain ⟨a, rfl⟩ : ∃ a, ao = some a := by
        cases ao with
        | none => rw [HC.out.1 rfl] at hlt; simp at hlt
        | some a => exact ⟨a, rfl⟩
      obtain ⟨g, rfl, hg, hcs⟩ := HC.out.2 a rfl
      obtain ⟨q0, q1, q2⟩ := hcs i M[i] (List.getElem?_eq_getElem hlt)
      have q0 := (hB.cell (cell_lt8 q0)).trans q0
      have q1 := (hB.cell (cell_lt8 q1)).trans q1
      have q2 := (hB.cell (cell_lt8 q2)).trans q2
      have b0 : (0 : Int) ≤ (i : Int) := by omega
      have b1 : (i : Int) < (M.length : Int) := by omega
      have hne : M[i].1 ≠ s.data.toList := HMN.out _ (List.getElem_mem hlt)
      have d0 : (M[i].1 == s.toList) = false := by rw [ByteArray.toList_eq]; simpa using hne
      have hle : (midP (s.data.toList, u) (M.take i)).length ≤ i + 1 := Nat.le_trans (midP_len _ _) (by rw [List.length_take]; omega)
      have hsz := hB.size
      have hrow1 := hrow.alloc (.cells #[.string ⟨M[i].1.toArray⟩, .string (strOfNums M[i].2.1), .int .i64 (M[i].2.2 : Nat)] 89)
      have hB1 := belAlloc hB (.cells #[.string ⟨M[i].1.toArray⟩, .string (strOfNums M[i].2.1), .int .i64 (M[i].2.2 : Nat)] 89)
      have hzr : w.heap.size < wr.heap.size := by omega
      have p0' : (wr.alloc (.cells #[.string ⟨M[i].1.toArray⟩, .string (strOfNums M[i].2.1), .int .i64 (M[i].2.2 : Nat)] 89)).cell? ⟨w.heap.size, 0, none⟩ = some (.string s) := (rcells ((Below.heap_alloc wr _ _ hzr).trans hxw)).1
      have p1' : (wr.alloc (.cells #[.string ⟨M[i].1.toArray⟩, .string (strOfNums M[i].2.1), .int .i64 (M[i].2.2 : Nat)] 89)).cell? ⟨w.heap.size, 1, none⟩ = some (.string (strOfNums u.1)) := (rcells ((Below.heap_alloc wr _ _ hzr).trans hxw)).2.1
      have p2' : (wr.alloc (.cells #[.string ⟨M[i].1.toArray⟩, .string (strOfNums M[i].2.1), .int .i64 (M[i].2.2 : Nat)] 89)).cell? ⟨w.heap.size, 2, none⟩ = some (.int .i64 (u.2 : Nat)) := (rcells ((Below.heap_alloc wr _ _ hzr).trans hxw)).2.2
      clear hcs
      cases han : anyB s.data.toList (M.take i) with
      | true =>
        have HAN := Lib.hid han
        clear han
        go_wp2_with (first
          | (at_builtin; refine wpList_pushF rfl (.tmp 30) (.tmp 32) rfl w1.heap.size u4 _ ⟨M[i].1.toArray⟩ M[i].2 (wr.heap.size + 1) (by simp) rfl rfl hrow1 (by omega) (by simp; omega) ?_; intro v2 w2 hrow2 hb2 hg2)
          | fail)
        go_roundw
        case rel =>
          have e1 : anyB s.data.toList (M.take (i + 1)) = true := by rw [take_snoc hlt, anyB_snoc, HAN.out]; rfl
          refine ⟨i + 1, by omega, by go_num, by rw [e1], hB1.trans hb2, ?_⟩
          have e2 : midP (s.data.toList, u) (M.take (i + 1)) = midP (s.data.toList, u) (M.take i) ++ [M[i]] := by
            unfold midP
            rw [if_pos e1, if_pos HAN.out, take_snoc hlt]
            exact insE_any (s.data.toList, u) _ _ HAN.out
          rw [e2]
          exact hrow2
        case measure => simp [intOf]; omega
      | false =>
        have HAN := Lib.hid han
        clear han
        cases hbf : bytesBefore s.data.toList M[i].1 with
        | true =>
          have d1 : Op.bytesLess M[i].1 s.toList = false := by rw [ByteArray.toList_eq, less_before, before_not hne, hbf]; rfl
          have q9 : ∀ w : World, (binOp .gtr 9 (.string ⟨M[i].1.toArray⟩) (.string s)).run Tryd.prog w = .ok (.bool true) w := fun w => by
            have e9 : (⟨M[i].1.toArray⟩ : ByteArray).toList = M[i].1 := by rw [ByteArray.toList_eq]
            simp [binOp, Op.stringOp, e9, d1, d0]
          have HBF := Lib.hid hbf
          clear hbf hne
          go_wp2_with (first
            | (at_builtin; refine wpList_pushF rfl (.tmp 26) (.tmp 28) rfl w1.heap.size u4 _ s u (wr.heap.size + 1) (by simp) rfl rfl hrow1 (by omega) (by simp; omega) ?_; intro v2 w2 hrow2 hb2 hg2
               have hcp := (hg2.block wr.heap.size (by simp) (fun e => by have := (hrow.lt _ e.symm).2; omega)).trans (heap_alloc_new wr (.cells #[.string ⟨M[i].1.toArray⟩, .string (strOfNums M[i].2.1), .int .i64 (M[i].2.2 : Nat)] 89))
               have hz2 := hb2.size
               simp at hz2
               obtain ⟨t0, t1, t2⟩ := rcells hcp
               clear hcp)
            | (at_builtin; refine wpList_pushF rfl (.tmp 30) (.tmp 32) rfl w1.heap.size v2 _ ⟨M[i].1.toArray⟩ M[i].2 w2.heap.size rfl rfl rfl hrow2 (by rw [List.length_append]; simp; omega) (by omega) ?_; intro v3 w3 hrow3 hb3 _)
            | fail)
          go_roundw
          case rel =>
            have e1 : anyB s.data.toList (M.take (i + 1)) = true := by rw [take_snoc hlt, anyB_snoc, HBF.out, Bool.or_true]
            refine ⟨i + 1, by omega, by go_num, by rw [e1], (hB1.trans hb2).trans hb3, ?_⟩
            have e2 : midP (s.data.toList, u) (M.take (i + 1)) = midP (s.data.toList, u) (M.take i) ++ [(s.data.toList, u)] ++ [M[i]] := by
              unfold midP
              rw [if_pos e1, if_neg (by rw [HAN.out]; simp), take_snoc hlt, insE_none (s.data.toList, u) _ _ HAN.out, insE, if_pos HBF.out, List.append_assoc]
              rfl
            rw [e2]
            exact hrow3
          case measure => simp [intOf]; omega
        | false =>
          have d1 : Op.bytesLess M[i].1 s.toList = true := by rw [ByteArray.toList_eq, less_before, before_not hne, hbf]; rfl
          have q9 : ∀ w : World, (binOp .gtr 9 (.string ⟨M[i].1.toArray⟩) (.string s)).run Tryd.prog w = .ok (.bool false) w := fun w => by
            have e9 : (⟨M[i].1.toArray⟩ : ByteArray).toList = M[i].1 := by rw [ByteArray.toList_eq]
            simp [binOp, Op.stringOp, e9, d1, d0]
          have HBF := Lib.hid hbf
          clear hbf hne
          go_wp2_with (first
            | (at_builtin; refine wpList_pushF rfl (.tmp 30) (.tmp 32) rfl w1.heap.size u4 _ ⟨M[i].1.toArray⟩ M[i].2 (wr.heap.size + 1) (by simp) rfl rfl hrow1 (by omega) (by simp; omega) ?_; intro v2 w2 hrow2 hb2 hg2)
            | fail)
          go_roundw
          case rel =>
            have e1 : anyB s.data.toList (M.take (i + 1)) = false := by rw [take_snoc hlt, anyB_snoc, HAN.out, HBF.out]; rfl
            refine ⟨i + 1, by omega, by go_num, by rw [e1], hB1.trans hb2, ?_⟩
            have e2 : midP (s.data.toList, u) (M.take (i + 1)) = midP (s.data.toList, u) (M.take i) ++ [M[i]] := by
              unfold midP
              rw [if_neg (by rw [e1]; simp), if_neg (by rw [HAN.out]; simp), take_snoc hlt]
            rw [e2]
            exact hrow2
          case measure => simp [intOf]; omega
    · obtain rfl : i = M.length := by omega
      rw [List.take_length] at hrow ⊢
      have hle := midP_len (s.data.toList, u) M
      have hsz := hB.size
      have HBE := Lib.hid (HB1.out.trans (hB.mono HB1.out.size))
      have hrw := (hB.block r (by omega)).trans HR1.out
      cases han : anyB s.data.toList M with
      | true =>
        have e1 : midP (s.data.toList, u) M = insE (s.data.toList, u) M := if_pos han
        rw [e1] at hrow
        obtain ⟨a4, c4, hv4, -⟩ := RowF.sees hrow
        subst hv4
        obtain ⟨c0, -⟩ := rcells hrw
        have f0 := rfroz hrw 0
        have HT := Lib.hid ((Touch.of_below (· = r) HBE.out).trans (touch_set wr r 0 (.slice a4 (insE (s.data.toList, u) M).length c4)) (fun _ _ e => e))
        have HN := Lib.hid (row_le (World.ownsRow.kept hrow (grown_set wr r 0 (.slice a4 (insE (s.data.toList, u) M).length c4)) (row_ne hrow (by omega))) HB1.out.size)
        have HD := Lib.hid (dset hrw 0 (.slice a4 (insE (s.data.toList, u) M).length c4))
        clear han hrow hrw e1 hle
        go_wp2_with fail
        go_end0
        exact ⟨rfl, _, HD.out, HN.out, HT.out⟩
      | false =>
        have e1 : midP (s.data.toList, u) M = M := if_neg (by rw [han]; simp)
        have e2 := insE_end (s.data.toList, u) M han
        rw [e1] at hrow
        have E2 := Lib.hid e2
        have HRW := Lib.hid hrw
        have hz3 := HB1.out.size
        clear han e1 hle hrw e2
        go_wp2_with (first
          | (at_builtin; refine wpList_pushF rfl (.tmp 37) (.tmp 39) rfl w1.heap.size u4 _ s u wr.heap.size rfl rfl rfl hrow (by omega) (by omega) ?_; intro v2 w2 hrow2 hb2 _
             obtain ⟨a4, c4, hv4, -⟩ := RowF.sees hrow2
             subst hv4
             have hrw2 := (hb2.block r (by omega)).trans HRW.out
             obtain ⟨c0, -⟩ := rcells hrw2
             have f0 := rfroz hrw2 0
             have HT := Lib.hid ((Touch.of_below (· = r) (HBE.out.trans (hb2.mono hz3))).trans (touch_set w2 r 0 (.slice a4 (M ++ [(s.data.toList, u)]).length c4)) (fun _ _ e => e))
             have HN := Lib.hid (row_le (World.ownsRow.kept hrow2 (grown_set w2 r 0 (.slice a4 (M ++ [(s.data.toList, u)]).length c4)) (row_ne hrow2 (by omega))) hz3)
             have HD := Lib.hid (dset hrw2 0 (.slice a4 (M ++ [(s.data.toList, u)]).length c4))
             clear hrow2 hrw2)
          | fail)
        go_end0
        rw [E2.out]
        have e8 : (M ++ [(s.data.toList, u)]).length = M.length + 1 := by simp
        have hD := HD.out
        have hN := HN.out
        have hT := HT.out
        rw [e8] at hD hN hT
        exact ⟨rfl, _, hD, hN, hT⟩
end
section
open Go.RowKit Go.Maps
theorem row_not_r {w : World} {B r : Nat} {v : Value} {L : List FEnt} {cs : Array Value} (h : RowF w B v L) (hr : w.heap[r]? = some (.cells cs 42 (0, 0))) : v.ownBlock ≠ some r := by
  rcases h.2 with ⟨e, _⟩ | ⟨g, cap, cur, e, _, hb, _⟩
  · rw [e]; intro h; cases h
  · rw [e]
    intro h
    have h1 : g = r := Option.some.inj h
    rw [h1, hr] at hb
    injection hb with hb
    injection hb with _ hb _
    exact absurd hb (by decide)
theorem row_touch {w w' : World} {B r : Nat} {v : Value} {L : List FEnt} {cs : Array Value} (h : RowF w B v L) (hr : w.heap[r]? = some (.cells cs 42 (0, 0))) (ht : Touch (· = r) w w') : RowF w' B v L := by
  have hne := row_not_r h hr
  refine ⟨h.1, h.2.imp id fun ⟨g, cap, cur, e1, e2, e3, rr⟩ => ⟨g, cap, cur, e1, e2, (ht.2.2.2.2 g (heap_lt e3) (fun e => hne (by rw [e1, ← e]; rfl))).trans e3, rr⟩⟩
theorem RefAt.below {w w' : World} {r : Nat} {Q : Nat → Prop} {D : DSt} (h : RefAt w r Q D) (hb : Below w.heap.size w w') : RefAt w' r Q D := by
  obtain ⟨v, h1, h2, h3, h4, h5, h6⟩ := h
  refine ⟨v, (hb.block r (heap_lt h1)).trans h1, ⟨h2.1, h2.2.imp id fun ⟨g, cap, cur, e1, e2, e3, rr⟩ => ⟨g, cap, cur, e1, e2, (hb.block g (heap_lt e3)).trans e3, rr⟩⟩, h3, h4, fun i hi => Nat.lt_of_lt_of_le (h5 i hi) hb.size, h6⟩
theorem RefAt.keep {w w' : World} {r : Nat} {P Q : Nat → Prop} {D : DSt} (h : RefAt w r Q D) (ht : Touch P w w') (hq : ∀ d, Q d → ¬ P d) : RefAt w' r Q D := by
  obtain ⟨v, h1, h2, h3, h4, h5, h6⟩ := h
  refine ⟨v, (ht.2.2.2.2 r (heap_lt h1) (hq r h3)).trans h1, ⟨h2.1, h2.2.imp id fun ⟨g, cap, cur, e1, e2, e3, rr⟩ => ⟨g, cap, cur, e1, e2, (ht.2.2.2.2 g (heap_lt e3) (hq g (h4 g (by rw [e1]; rfl)))).trans e3, rr⟩⟩, h3, h4, fun i hi => Nat.lt_of_lt_of_le (h5 i hi) ht.2.2.2.1, h6⟩
/-- The state behind a call that laid another row. -/
theorem ref_put {w w' : World} {r : Nat} {Q : Nat → Prop} {v' : Value} {fs : List FEnt} {l a : Bool} {n : Int} (hQ : Q r) (hb : ∀ i, Q i → i < w.heap.size) (hc : RCells w' r v' l (leftR a n)) (hrow : RowF w' w.heap.size v' fs) (ht : Touch (· = r) w w') (h0 : 0 ≤ n) (h1 : n ≤ 9223372036854775807) :
    RefAt w' r (grow' Q w w') ⟨fs, l, a, n⟩ ∧ Step Q (grow' Q w w') w w' := by
  have hz := ht.2.2.2.1
  refine ⟨⟨v', hc, row_le hrow (Nat.zero_le _), Or.inl hQ, fun d hd => Or.inr (World.ownsRow.lt hrow d hd), fun i hi => ?_, h0, h1⟩, step_grow ht (fun i e => by rw [e]; exact hQ)⟩
  rcases hi with hi | hi
  · have := hb i hi; omega
  · exact hi.2
theorem ref_wrote {w w' : World} {r : Nat} {Q : Nat → Prop} {v x1 x2 : Value} {fs : List FEnt} {l a : Bool} {n : Int} (h1 : w.heap[r]? = some (.cells #[v, x1, x2] 42 (0, 0))) (h2 : RowF w 0 v fs) (h3 : Q r) (h4 : ∀ d, v.ownBlock = some d → Q d) (h5 : ∀ i, Q i → i < w.heap.size)
    (hc : RCells w' r v l (leftR a n)) (ht : Touch (· = r) w w') (h6 : 0 ≤ n) (h7 : n ≤ 9223372036854775807) : RefAt w' r Q ⟨fs, l, a, n⟩ ∧ Step Q Q w w' :=
  ⟨⟨v, hc, row_touch h2 h1 ht, h3, h4, fun i hi => Nat.lt_of_lt_of_le (h5 i hi) ht.2.2.2.1, h6, h7⟩, ht.mono (fun i _ e => by rw [e]; exact h3), fun _ h => Or.inl h⟩
theorem how_lost {lost armed : Bool} {left : Int} (h : lost1 lost armed left = true) : decide (0 < howR lost armed left) = true := by
  unfold howR
  rw [if_pos h]
  split <;> rfl
theorem how_done {lost armed : Bool} {left : Int} (h : lost1 lost armed left = false) : howR lost armed left = 0 := by
  have hl : ¬ lost = true := by
    intro e
    rw [e] at h
    simp [lost1] at h
  unfold howR
  rw [if_neg hl, if_neg (by rw [h]; simp)]
set_option maxRecDepth 100000 in
set_option maxHeartbeats 2000000 in
theorem Sync_r (r : Nat) (Q : Nat → Prop) (D : DSt) (s : ByteArray) (w : World) (h : RefAt w r Q D) (hn : D.fs.length ≤ 1000000) :
    Calls Tryd.prog 70 #[ptr r, .string s] w fun e w' => ∃ Q', e = .returned (.int .i64 (syncD D s.data.toList).1) ∧ RefAt w' r Q' (syncD D s.data.toList).2 ∧ Step Q Q' w w' := by
  have HRA := Lib.hid h
  obtain ⟨v, h1, h2, h3, h4, h5, h6, h7⟩ := h
  have HF := Lib.hid (Find_r r v _ _ D.fs s w h1 h2.sees hn)
  cases hgf : getE D.fs s.data.toList with
  | none =>
    have e1 : syncD D s.data.toList = (6, D) := by unfold syncD; rw [hgf]
    rw [hgf] at HF
    rw [e1]
    simp only [fileV, zeroR, Option.isSome_none] at HF
    clear h1 h2 hgf e1
    go_enter Tryd.func70, Tryd.ntmps70
    go_wp2_with fail
    refine HF.out.mono ?_; rintro e w1 ⟨rfl, hb1⟩
    go_wp2_with fail
    go_ret
    refine ⟨Q, rfl, HRA.out.below ?_, Touch.of_below Q ?_, fun i hi => Or.inl hi⟩
    all_goals
      refine hb1.trans ?_
      repeat (first | exact Below.refl _ _ | refine Below.setCell ?_ (by simp) _ | refine Below.alloc ?_ (by have := hb1.size; simp; omega) _)
  | some u =>
    rw [hgf] at HF
    simp only [fileV, Option.isSome_some] at HF
    have HH := Lib.hid (And.intro h1 h2)
    have HGF := Lib.hid hgf
    have hrl := heap_lt h1
    have e5 : ((strOfNums u.1).size : Int) = (u.1.length : Nat) := by rw [strOfNums_size]
    clear h1 h2 hgf
    go_enter Tryd.func70, Tryd.ntmps70
    go_wp2_with fail
    refine HF.out.mono ?_; rintro e w1 ⟨rfl, hb1⟩
    go_wp2_with fail
    have hbA := belAlloc hb1 (.cells #[.string s, .string (strOfNums u.1), .int .i64 (u.2 : Nat)] 89)
    have hrA := (hbA.block r hrl).trans HH.out.1
    have hcA := heap_alloc_new w1 (.cells #[.string s, .string (strOfNums u.1), .int .i64 (u.2 : Nat)] 89)
    have hz1 := hb1.size
    refine (write_r r v D.lost D.armed D.left _ hrA h6 h7).mono ?_; rintro e w2 ⟨rfl, hr2, ht2⟩
    have hT : Touch (· = r) w w2 := (Touch.of_below _ hbA).trans ht2 (fun _ _ e => e)
    have hL2 := (ht2.2.2.2.2 w1.heap.size (by simp) (by omega)).trans hcA
    obtain ⟨l1, hl1⟩ : ∃ l1, l1 = lost1 D.lost D.armed D.left := ⟨_, rfl⟩
    obtain ⟨n1, hn1⟩ : ∃ n1, n1 = left1 D.lost D.armed D.left := ⟨_, rfl⟩
    obtain ⟨q8, q9⟩ := left1_bd (lost := D.lost) (armed := D.armed) h6 h7
    rw [← hl1, ← hn1] at hr2
    rw [← hn1] at q8 q9
    cases l1 with
    | true =>
      have e1 : syncD D s.data.toList = (12, ⟨D.fs, true, D.armed, n1⟩) := by unfold syncD; rw [HGF.out]; simp only []; rw [← hl1, if_pos rfl, ← hn1]
      have E1 := Lib.hid e1
      have d1 := how_lost hl1.symm
      have HR := Lib.hid (ref_wrote HH.out.1 HH.out.2 h3 h4 h5 hr2 hT q8 q9)
      clear e1 hl1 hn1 hr2 ht2 hT hcA hrA hbA hL2
      go_wp2_with fail
      go_ret
      rw [E1.out]
      exact ⟨Q, rfl, HR.out.1, HR.out.2⟩
    | false =>
      have e1 : syncD D s.data.toList = (0, { fs := putE s.data.toList (u.1, u.1.length) D.fs, lost := false, armed := D.armed, left := n1 }) := by
        unfold syncD; rw [HGF.out]; simp only []; rw [← hl1, if_neg (by simp), ← hn1]
      have E1 := Lib.hid e1
      rw [how_done hl1.symm]
      obtain ⟨p0, p1, p2⟩ := rcells hL2
      have HP := Lib.hid (put_r r v _ _ D.fs s (u.1, u.1.length) w2 hr2 (row_touch HH.out.2 HH.out.1 hT).sees hn)
      have HT := Lib.hid hT
      clear e1 hl1 hn1 hr2 ht2 hcA hrA hbA hL2
      go_wp2_with fail
      refine HP.out.mono ?_; rintro e w3 ⟨rfl, v', hr3, hrow3, ht3⟩
      have HR := Lib.hid (ref_put (w := w) h3 h5 hr3 (row_le hrow3 HT.out.2.2.2.1) (HT.out.trans ht3 (fun _ _ e => e)) q8 q9)
      clear hr3 hrow3 ht3 hT
      go_wp2_with fail
      go_ret
      rw [E1.out]
      exact ⟨_, rfl, HR.out.1, HR.out.2⟩
end
section
open Go.RowKit Go.Maps
set_option maxRecDepth 100000 in
set_option maxHeartbeats 2000000 in
theorem Remove_r (r : Nat) (Q : Nat → Prop) (D : DSt) (s : ByteArray) (w : World) (h : RefAt w r Q D) (hn : D.fs.length ≤ 1000000) :
    Calls Tryd.prog 67 #[ptr r, .string s] w fun e w' => ∃ Q', e = .returned (.int .i64 (removeD D s.data.toList).1) ∧ RefAt w' r Q' (removeD D s.data.toList).2 ∧ Step Q Q' w w' := by
  have HRA := Lib.hid h
  obtain ⟨v, h1, h2, h3, h4, h5, h6, h7⟩ := h
  have HF := Lib.hid (Find_r r v _ _ D.fs s w h1 h2.sees hn)
  cases hgf : getE D.fs s.data.toList with
  | none =>
    have e1 : removeD D s.data.toList = (6, D) := by unfold removeD; rw [hgf]
    rw [hgf] at HF
    rw [e1]
    simp only [fileV, zeroR, Option.isSome_none] at HF
    clear h1 h2 hgf e1
    go_enter Tryd.func67, Tryd.ntmps67
    go_wp2_with fail
    refine HF.out.mono ?_; rintro e w1 ⟨rfl, hb1⟩
    go_wp2_with fail
    go_ret
    refine ⟨Q, rfl, HRA.out.below ?_, Touch.of_below Q ?_, fun i hi => Or.inl hi⟩
    all_goals
      refine hb1.trans ?_
      repeat (first | exact Below.refl _ _ | refine Below.setCell ?_ (by simp) _ | refine Below.alloc ?_ (by have := hb1.size; simp; omega) _)
  | some u =>
    rw [hgf] at HF
    simp only [fileV, Option.isSome_some] at HF
    have HH := Lib.hid (And.intro h1 h2)
    have HGF := Lib.hid hgf
    have hrl := heap_lt h1
    clear h1 h2 hgf
    go_enter Tryd.func67, Tryd.ntmps67
    go_wp2_with fail
    refine HF.out.mono ?_; rintro e w1 ⟨rfl, hb1⟩
    go_wp2_with fail
    have hbA := belAlloc hb1 (.cells #[.string s, .string (strOfNums u.1), .int .i64 (u.2 : Nat)] 89)
    have hrA := (hbA.block r hrl).trans HH.out.1
    have hcA := heap_alloc_new w1 (.cells #[.string s, .string (strOfNums u.1), .int .i64 (u.2 : Nat)] 89)
    have hz1 := hb1.size
    refine (write_r r v D.lost D.armed D.left _ hrA h6 h7).mono ?_; rintro e w2 ⟨rfl, hr2, ht2⟩
    have hT : Touch (· = r) w w2 := (Touch.of_below _ hbA).trans ht2 (fun _ _ e => e)
    have hL2 := (ht2.2.2.2.2 w1.heap.size (by simp) (by omega)).trans hcA
    obtain ⟨l1, hl1⟩ : ∃ l1, l1 = lost1 D.lost D.armed D.left := ⟨_, rfl⟩
    obtain ⟨n1, hn1⟩ : ∃ n1, n1 = left1 D.lost D.armed D.left := ⟨_, rfl⟩
    obtain ⟨q8, q9⟩ := left1_bd (lost := D.lost) (armed := D.armed) h6 h7
    rw [← hl1, ← hn1] at hr2
    rw [← hn1] at q8 q9
    cases l1 with
    | true =>
      have e1 : removeD D s.data.toList = (12, ⟨D.fs, true, D.armed, n1⟩) := by unfold removeD; rw [HGF.out]; simp only []; rw [← hl1, if_pos rfl, ← hn1]
      have E1 := Lib.hid e1
      have d1 := how_lost hl1.symm
      have HR := Lib.hid (ref_wrote HH.out.1 HH.out.2 h3 h4 h5 hr2 hT q8 q9)
      clear e1 hl1 hn1 hr2 ht2 hT hcA hrA hbA hL2
      go_wp2_with fail
      go_ret
      rw [E1.out]
      exact ⟨Q, rfl, HR.out.1, HR.out.2⟩
    | false =>
      have e1 : removeD D s.data.toList = (0, { fs := delE s.data.toList D.fs, lost := false, armed := D.armed, left := n1 }) := by
        unfold removeD; rw [HGF.out]; simp only []; rw [← hl1, if_neg (by simp), ← hn1]
      have E1 := Lib.hid e1
      rw [how_done hl1.symm]
      have HP := Lib.hid (without_r r v _ _ D.fs s w2 hr2 (row_touch HH.out.2 HH.out.1 hT).sees hn)
      have HT := Lib.hid hT
      have HR2 := Lib.hid hr2
      clear e1 hl1 hn1 hr2 ht2 hcA hrA hbA hL2
      go_wp2_with fail
      refine HP.out.mono ?_; rintro e w3 ⟨v3, rfl, hrow3, hb3⟩
      have hz2 := HT.out.2.2.2.1
      have hr3 := (hb3.block r (by omega)).trans HR2.out
      obtain ⟨c0, -⟩ := rcells hr3
      have f0 := rfroz hr3 0
      obtain ⟨a3, c3, hv3, -⟩ := RowF.sees hrow3
      subst hv3
      have HR := Lib.hid (ref_put (w := w) (w' := w3.setCell ⟨r, 0, none⟩ (.slice a3 (delE s.data.toList D.fs).length c3)) h3 h5 (dset hr3 0 (.slice a3 (delE s.data.toList D.fs).length c3)) (row_le (World.ownsRow.kept hrow3 (grown_set w3 r 0 (.slice a3 (delE s.data.toList D.fs).length c3)) (row_ne hrow3 (by omega))) hz2) ((HT.out.trans (Touch.of_below (· = r) hb3) (fun _ _ e => e)).trans (touch_set w3 r 0 _) (fun _ _ e => e)) q8 q9)
      clear hr3 hrow3 hT
      go_wp2_with fail
      go_ret
      rw [E1.out]
      exact ⟨_, rfl, HR.out.1, HR.out.2⟩
set_option maxHeartbeats 1000000 in
theorem Arm_r (r : Nat) (Q : Nat → Prop) (D : DSt) (n : Int) (w : World) (h : RefAt w r Q D) (_ : -9223372036854775808 ≤ n) (hn : n ≤ 9223372036854775807) :
    Calls Tryd.prog 33 #[ptr r, .int .i64 n] w fun e w' => e = .returned (.tuple #[]) ∧ RefAt w' r Q { D with armed := true, left := max n 0 } ∧ Step Q Q w w' := by
  obtain ⟨v, h1, h2, h3, h4, h5, h6, h7⟩ := h
  obtain ⟨c0, c1, c2⟩ := rcells h1
  have f2 := rfroz h1 2
  have hs1 := dset h1 2 (.int .i64 n)
  by_cases hn0 : n < 0
  · have d0 : decide (n < 0) = true := by simpa using hn0
    have e1 : max n 0 = 0 := by omega
    have hs2 := dset hs1 2 (.int .i64 0)
    have HR := Lib.hid (ref_wrote (w' := (w.setCell ⟨r, 2, none⟩ (.int .i64 n)).setCell ⟨r, 2, none⟩ (.int .i64 0)) (fs := D.fs) (l := D.lost) (a := true) (n := 0) h1 h2 h3 h4 h5 hs2 ((touch_set w r 2 _).trans (touch_set _ r 2 _) (fun _ _ e => e)) (by omega) (by omega))
    rw [e1]
    clear h1 h2 hs1 hs2 e1
    go_enter Tryd.func33, Tryd.ntmps33
    go_wp2_with fail
    go_end0
    exact ⟨rfl, HR.out.1, HR.out.2⟩
  · have d0 : decide (n < 0) = false := by simpa using hn0
    have e1 : max n 0 = n := by omega
    have HR := Lib.hid (ref_wrote (w' := w.setCell ⟨r, 2, none⟩ (.int .i64 n)) (fs := D.fs) (l := D.lost) (a := true) (n := n) h1 h2 h3 h4 h5 hs1 (touch_set w r 2 _) (by omega) (by omega))
    rw [e1]
    clear h1 h2 hs1 e1
    go_enter Tryd.func33, Tryd.ntmps33
    go_wp2_with fail
    go_end0
    exact ⟨rfl, HR.out.1, HR.out.2⟩
theorem New_r (w : World) : Calls Tryd.prog 11 #[] w fun e w' => ∃ r, e = .returned (ptr r) ∧ RefAt w' r (· = r) ⟨[], false, false, 0⟩ ∧ w.heap.size ≤ r ∧ Below w.heap.size w w' := by
  go_enter Tryd.func11, Tryd.ntmps11
  go_wp2_with fail
  go_ret
  exact ⟨_, rfl, ⟨.slice none 0 0, heap_alloc_new w _, World.ownsRow_nil _ _ _ _, rfl, (fun d hd => by cases hd), (fun i e => by rw [e]; simp), by simp, by simp⟩, Nat.le_refl _, belNew w _⟩
set_option maxRecDepth 100000 in
set_option maxHeartbeats 2000000 in
theorem Read_r (r : Nat) (Q : Nat → Prop) (D : DSt) (s : ByteArray) (w : World) (h : RefAt w r Q D) (hn : D.fs.length ≤ 1000000) :
    Calls Tryd.prog 18 #[ptr r, .string s] w fun e w' => e = .returned (.tuple #[.string (strOfNums (readD D s.data.toList).1), .int .i64 (readD D s.data.toList).2]) ∧ Below w.heap.size w w' := by
  obtain ⟨v, h1, h2, h3, h4, h5, h6, h7⟩ := h
  have HF := Lib.hid (Find_r r v _ _ D.fs s w h1 h2.sees hn)
  cases hgf : getE D.fs s.data.toList with
  | none =>
    have e1 : readD D s.data.toList = ([], 6) := by unfold readD; rw [hgf]
    rw [hgf] at HF
    rw [e1]
    simp only [fileV, zeroR, Option.isSome_none] at HF
    clear h1 h2 hgf e1
    go_enter Tryd.func18, Tryd.ntmps18
    go_wp2_with fail
    refine HF.out.mono ?_; rintro e w1 ⟨rfl, hb1⟩
    go_wp2_with fail
    refine bodyPost_ret (v := .tuple #[.string ⟨#[]⟩, .int .i64 6]) (by simp [results, Tryd.results18, go_sem]) rfl ⟨rfl, ?_⟩
    all_goals
      refine hb1.trans ?_
      repeat (first | exact Below.refl _ _ | refine Below.setCell ?_ (by simp) _ | refine Below.alloc ?_ (by have := hb1.size; simp; omega) _)
  | some u =>
    rw [hgf] at HF
    simp only [fileV, Option.isSome_some] at HF
    have HH := Lib.hid h1
    have hrl := heap_lt h1
    cases hl : D.lost with
    | true =>
      have e1 : readD D s.data.toList = ([], 12) := by unfold readD; rw [hgf]; simp only []; rw [if_pos hl]
      rw [e1]
      rw [hl] at HH
      clear h1 h2 hgf e1 hl
      go_enter Tryd.func18, Tryd.ntmps18
      go_wp2_with fail
      refine HF.out.mono ?_; rintro e w1 ⟨rfl, hb1⟩
      obtain ⟨c0, c1, -⟩ := rcells ((hb1.block r hrl).trans HH.out)
      obtain ⟨-, c1', -⟩ := rcells (((belAlloc hb1 (.cells #[.string s, .string (strOfNums u.1), .int .i64 (u.2 : Nat)] 89)).block r hrl).trans HH.out)
      go_wp2_with fail
      refine bodyPost_ret (v := .tuple #[.string ⟨#[]⟩, .int .i64 12]) (by simp [results, Tryd.results18, go_sem]) rfl ⟨rfl, hb1.trans ?_⟩
      repeat (first | exact Below.refl _ _ | refine Below.setCell ?_ (by simp) _ | refine Below.alloc ?_ (by have := hb1.size; simp; omega) _)
    | false =>
      have e1 : readD D s.data.toList = (u.1, 0) := by unfold readD; rw [hgf]; simp only []; rw [if_neg (by rw [hl]; simp)]
      rw [e1]
      rw [hl] at HH
      clear h1 h2 hgf e1 hl
      go_enter Tryd.func18, Tryd.ntmps18
      go_wp2_with fail
      refine HF.out.mono ?_; rintro e w1 ⟨rfl, hb1⟩
      obtain ⟨c0, c1, -⟩ := rcells ((hb1.block r hrl).trans HH.out)
      obtain ⟨-, c1', -⟩ := rcells (((belAlloc hb1 (.cells #[.string s, .string (strOfNums u.1), .int .i64 (u.2 : Nat)] 89)).block r hrl).trans HH.out)
      go_wp2_with fail
      refine bodyPost_ret (v := .tuple #[.string (strOfNums u.1), .int .i64 0]) (by simp [results, Tryd.results18, go_sem]) rfl ⟨rfl, hb1.trans ?_⟩
      repeat (first | exact Below.refl _ _ | refine Below.setCell ?_ (by simp) _ | refine Below.alloc ?_ (by have := hb1.size; simp; omega) _)
end
section
open Go.RowKit Go.Maps
set_option maxRecDepth 100000 in
set_option maxHeartbeats 2000000 in
theorem Rename_r (r : Nat) (Q : Nat → Prop) (D : DSt) (s t : ByteArray) (w : World) (h : RefAt w r Q D) (hn : D.fs.length ≤ 1000000) :
    Calls Tryd.prog 71 #[ptr r, .string s, .string t] w fun e w' => ∃ Q', e = .returned (.int .i64 (renameD D s.data.toList t.data.toList).1) ∧ RefAt w' r Q' (renameD D s.data.toList t.data.toList).2 ∧ Step Q Q' w w' := by
  have HRA := Lib.hid h
  obtain ⟨v, h1, h2, h3, h4, h5, h6, h7⟩ := h
  have HF := Lib.hid (Find_r r v _ _ D.fs s w h1 h2.sees hn)
  cases hgf : getE D.fs s.data.toList with
  | none =>
    have e1 : renameD D s.data.toList t.data.toList = (6, D) := by unfold renameD; rw [hgf]
    rw [hgf] at HF
    rw [e1]
    simp only [fileV, zeroR, Option.isSome_none] at HF
    clear h1 h2 hgf e1
    go_enter Tryd.func71, Tryd.ntmps71
    go_wp2_with fail
    refine HF.out.mono ?_; rintro e w1 ⟨rfl, hb1⟩
    go_wp2_with fail
    go_ret
    refine ⟨Q, rfl, HRA.out.below ?_, Touch.of_below Q ?_, fun i hi => Or.inl hi⟩
    all_goals
      refine hb1.trans ?_
      repeat (first | exact Below.refl _ _ | refine Below.setCell ?_ (by simp) _ | refine Below.alloc ?_ (by have := hb1.size; simp; omega) _)
  | some u =>
    rw [hgf] at HF
    simp only [fileV, Option.isSome_some] at HF
    have HH := Lib.hid (And.intro h1 h2)
    have HGF := Lib.hid hgf
    have hrl := heap_lt h1
    clear h1 h2 hgf
    by_cases ht1 : t.data.toList = []
    · have e1 : renameD D s.data.toList t.data.toList = (1, D) := by unfold renameD; rw [HGF.out]; simp only []; rw [if_pos (Or.inl ht1)]
      rw [e1]
      clear e1
      obtain rfl : t = ⟨#[]⟩ := by
        cases t with | mk ta => cases ta with | mk tl => cases tl with
          | nil => rfl
          | cons x y => cases ht1
      go_enter Tryd.func71, Tryd.ntmps71
      go_wp2_with fail
      refine HF.out.mono ?_; rintro e w1 ⟨rfl, hb1⟩
      go_wp2_with fail
      go_ret
      refine ⟨Q, rfl, HRA.out.below ?_, Touch.of_below Q ?_, fun i hi => Or.inl hi⟩
      all_goals
        refine hb1.trans ?_
        repeat (first | exact Below.refl _ _ | refine Below.setCell ?_ (by simp) _ | refine Below.alloc ?_ (by have := hb1.size; simp; omega) _)

    have d1 : ¬ t.toList = [] := by rw [ByteArray.toList_eq]; exact ht1
    have d2 : t.toList.isEmpty = false := by cases hh : t.toList with | nil => exact absurd hh d1 | cons a b => rfl
    by_cases hts : t = s
    · have e1 : renameD D s.data.toList t.data.toList = (1, D) := by unfold renameD; rw [HGF.out]; simp only []; rw [if_pos (Or.inr (by rw [hts]))]
      rw [e1]
      clear e1
      subst hts
      go_enter Tryd.func71, Tryd.ntmps71
      go_wp2_with fail
      refine HF.out.mono ?_; rintro e w1 ⟨rfl, hb1⟩
      go_wp2_with fail
      go_ret
      refine ⟨Q, rfl, HRA.out.below ?_, Touch.of_below Q ?_, fun i hi => Or.inl hi⟩
      all_goals
        refine hb1.trans ?_
        repeat (first | exact Below.refl _ _ | refine Below.setCell ?_ (by simp) _ | refine Below.alloc ?_ (by have := hb1.size; simp; omega) _)

    have d4 : ¬ t.toList = s.toList := fun e => hts (by rw [ByteArray.toList_eq, ByteArray.toList_eq] at e; cases t; cases s; simp only [Array.toList_inj] at e; rw [e])
    have d3 : (t.toList == s.toList) = false := by simpa using d4
    have hne : ¬ (t.data.toList = [] ∨ t.data.toList = s.data.toList) := by
      rintro (e | e)
      · exact ht1 e
      · exact hts (by cases t; cases s; simp only [Array.toList_inj] at e; rw [e])
    have HNE := Lib.hid hne
    clear ht1 hts hne d4
    go_enter Tryd.func71, Tryd.ntmps71
    go_wp2_with fail
    refine HF.out.mono ?_; rintro e w1 ⟨rfl, hb1⟩
    go_wp2_with fail
    have hbA := belAlloc hb1 (.cells #[.string s, .string (strOfNums u.1), .int .i64 (u.2 : Nat)] 89)
    have hrA := (hbA.block r hrl).trans HH.out.1
    have hcA := heap_alloc_new w1 (.cells #[.string s, .string (strOfNums u.1), .int .i64 (u.2 : Nat)] 89)
    have hz1 := hb1.size
    refine (write_r r v D.lost D.armed D.left _ hrA h6 h7).mono ?_; rintro e w2 ⟨rfl, hr2, ht2⟩
    have hT : Touch (· = r) w w2 := (Touch.of_below _ hbA).trans ht2 (fun _ _ e => e)
    have hL2 := (ht2.2.2.2.2 w1.heap.size (by simp) (by omega)).trans hcA
    obtain ⟨l1, hl1⟩ : ∃ l1, l1 = lost1 D.lost D.armed D.left := ⟨_, rfl⟩
    obtain ⟨n1, hn1⟩ : ∃ n1, n1 = left1 D.lost D.armed D.left := ⟨_, rfl⟩
    obtain ⟨q8, q9⟩ := left1_bd (lost := D.lost) (armed := D.armed) h6 h7
    rw [← hl1, ← hn1] at hr2
    rw [← hn1] at q8 q9
    cases l1 with
    | true =>
      have e1 : renameD D s.data.toList t.data.toList = (12, ⟨D.fs, true, D.armed, n1⟩) := by unfold renameD; rw [HGF.out]; simp only []; rw [if_neg HNE.out, ← hl1, if_pos rfl, ← hn1]
      have E1 := Lib.hid e1
      have d1 := how_lost hl1.symm
      have HR := Lib.hid (ref_wrote HH.out.1 HH.out.2 h3 h4 h5 hr2 hT q8 q9)
      clear e1 hl1 hn1 hr2 ht2 hT hcA hrA hbA hL2
      go_wp2_with fail
      go_ret
      rw [E1.out]
      exact ⟨Q, rfl, HR.out.1, HR.out.2⟩
    | false =>
      have e1 : renameD D s.data.toList t.data.toList = (0, { fs := putE t.data.toList u (delE s.data.toList D.fs), lost := false, armed := D.armed, left := n1 }) := by
        unfold renameD; rw [HGF.out]; simp only []; rw [if_neg HNE.out, ← hl1, if_neg (by simp), ← hn1]
      have E1 := Lib.hid e1
      rw [how_done hl1.symm]
      have HP := Lib.hid (without_r r v _ _ D.fs s w2 hr2 (row_touch HH.out.2 HH.out.1 hT).sees hn)
      have HT := Lib.hid hT
      have HR2 := Lib.hid hr2
      have HL2 := Lib.hid hL2
      clear e1 hl1 hn1 hr2 ht2 hcA hrA hbA hL2 d1 d2 d3
      go_wp2_with fail
      refine HP.out.mono ?_; rintro e w3 ⟨v3, rfl, hrow3, hb3⟩
      have hz2 := HT.out.2.2.2.1
      have hz3 := hb3.size
      have hr3 := (hb3.block r (by omega)).trans HR2.out
      have hL3 := (hb3.block w1.heap.size (heap_lt HL2.out)).trans HL2.out
      obtain ⟨c0, -⟩ := rcells hr3
      have f0 := rfroz hr3 0
      obtain ⟨a3, c3, hv3, -⟩ := RowF.sees hrow3
      subst hv3
      have hdl := delE_le s.data.toList D.fs
      obtain ⟨w4, hw4⟩ : ∃ w4, w4 = w3.setCell ⟨r, 0, none⟩ (.slice a3 (delE s.data.toList D.fs).length c3) := ⟨_, rfl⟩
      have hr4 : w4.heap[r]? = _ := hw4 ▸ dset hr3 0 (.slice a3 (delE s.data.toList D.fs).length c3)
      have hrow4 : RowF w4 w2.heap.size (.slice a3 (delE s.data.toList D.fs).length c3) (delE s.data.toList D.fs) := hw4 ▸ World.ownsRow.kept hrow3 (grown_set w3 r 0 (.slice a3 (delE s.data.toList D.fs).length c3)) (row_ne hrow3 (by omega))
      have hT4 : Touch (· = r) w w4 := (HT.out.trans (Touch.of_below (· = r) hb3) (fun _ _ e => e)).trans (hw4 ▸ touch_set w3 r 0 _) (fun _ _ e => e)
      have hL4 := (Below.heap_setCell w3 ⟨r, 0, none⟩ (.slice a3 (delE s.data.toList D.fs).length c3) w1.heap.size (fun e => by simp only [] at e; omega)).trans hL3
      rw [← hw4] at hL4
      have HP2 := Lib.hid (put_r r _ _ _ (delE s.data.toList D.fs) t u w4 hr4 hrow4.sees (by omega))
      have HT4 := Lib.hid hT4
      have HW4 := Lib.hid hw4
      have HL4 := Lib.hid (rcells hL4)
      clear hr3 hrow3 hT hr4 hrow4 hT4 hL4 hL3 hw4
      go_upto_region 9 with fail
      rw [← HW4.out]
      clear c0 f0
      obtain ⟨p0, p1, p2⟩ := HL4.out
      go_wp2_with fail
      refine HP2.out.mono ?_; rintro e w5 ⟨rfl, v5, hr5, hrow5, ht5⟩
      have HR := Lib.hid (ref_put (w := w) h3 h5 hr5 (row_le hrow5 HT4.out.2.2.2.1) (HT4.out.trans ht5 (fun _ _ e => e)) q8 q9)
      clear hr5 hrow5 ht5
      go_wp2_with fail
      go_ret
      rw [E1.out]
      exact ⟨_, rfl, HR.out.1, HR.out.2⟩
end
section
open Go.RowKit Go.Maps
theorem strOfNums_app (x y : List Int) : strOfNums x ++ strOfNums y = strOfNums (x ++ y) := by
  unfold strOfNums
  rw [ByteArray.mk_append_mk]
  simp
theorem Append_r0 (r : Nat) (b : ByteArray) (w : World) : Calls Tryd.prog 35 #[ptr r, .string ⟨#[]⟩, .string b] w fun e w' => e = .returned (.int .i64 1) ∧ w = w' := by
  go_enter Tryd.func35, Tryd.ntmps35
  go_wp2
  go_ret
  exact ⟨rfl, rfl⟩
theorem fileV_form (s : ByteArray) (G : Option (List Int × Nat)) : ∃ nm : ByteArray, fileV s G = .agg #[.string nm, .string (strOfNums (G.getD ([], 0)).1), .int .i64 ((G.getD ([], 0)).2 : Nat)] := by
  cases G with
  | none => exact ⟨⟨#[]⟩, rfl⟩
  | some u => exact ⟨s, rfl⟩
set_option maxRecDepth 100000 in
set_option maxHeartbeats 2000000 in
theorem Append_r (r : Nat) (Q : Nat → Prop) (D : DSt) (s : ByteArray) (t : List Int) (w : World) (h : RefAt w r Q D) (hs0 : s.data.toList ≠ []) (hn : D.fs.length ≤ 1000000) (hb : ((getE D.fs s.data.toList).getD ([], 0)).1.length + t.length ≤ 100000000000) :
    Calls Tryd.prog 35 #[ptr r, .string s, .string (strOfNums t)] w fun e w' => ∃ Q', e = .returned (.int .i64 (appD D s.data.toList t).1) ∧ RefAt w' r Q' (appD D s.data.toList t).2 ∧ Step Q Q' w w' := by
  obtain ⟨v, h1, h2, h3, h4, h5, h6, h7⟩ := h
  have hs1 : ¬ s.toList = [] := by rw [ByteArray.toList_eq]; exact hs0
  have hs2 : s.toList.isEmpty = false := by cases hh : s.toList with | nil => exact absurd hh hs1 | cons a b => rfl
  have HW := Lib.hid (write_r r v D.lost D.armed D.left w h1 h6 h7)
  obtain ⟨q8, q9⟩ := left1_bd (lost := D.lost) (armed := D.armed) h6 h7
  have HH := Lib.hid (And.intro h1 h2)
  have hrl := heap_lt h1
  cases hl : D.lost with
  | true =>
    have e1 : appD D s.data.toList t = (12, D) := by unfold appD; rw [if_pos hl]
    have e2 : lost1 true D.armed D.left = true := by simp [lost1]
    have e3 : left1 true D.armed D.left = D.left := by simp [left1, lost1]
    have e4 : howR true D.armed D.left = 1 := if_pos rfl
    rw [hl, e2, e3, e4] at HW
    have E1 := Lib.hid e1
    have HL := Lib.hid hl
    clear h1 h2 e1 e2 e3 e4 hl
    go_enter Tryd.func35, Tryd.ntmps35
    go_wp2_with fail
    refine HW.out.mono ?_; rintro e w1 ⟨rfl, hr1, ht1⟩
    have HR := Lib.hid (ref_wrote (fs := D.fs) (l := true) (a := D.armed) (n := D.left) HH.out.1 HH.out.2 h3 h4 h5 hr1 ht1 h6 h7)
    clear hr1 ht1
    go_wp2_with fail
    go_ret
    rw [E1.out]
    refine ⟨Q, rfl, ?_, HR.out.2⟩
    have hR := HR.out.1
    rw [← HL.out] at hR
    exact hR
  | false =>
    have e1 : appD D s.data.toList t = (errW false D.armed D.left, { fs := putE s.data.toList (((getE D.fs s.data.toList).getD ([], 0)).1 ++ t, ((getE D.fs s.data.toList).getD ([], 0)).2) D.fs, lost := lost1 false D.armed D.left, armed := D.armed, left := left1 false D.armed D.left }) := by
      unfold appD; rw [hl, if_neg (by simp)]
    rw [hl] at HW q8 q9
    obtain ⟨U, hU⟩ : ∃ U, U = (getE D.fs s.data.toList).getD ([], 0) := ⟨_, rfl⟩
    obtain ⟨l1, hl1⟩ : ∃ l1, l1 = lost1 false D.armed D.left := ⟨_, rfl⟩
    obtain ⟨n1, hn1⟩ : ∃ n1, n1 = left1 false D.armed D.left := ⟨_, rfl⟩
    obtain ⟨H1, hH1⟩ : ∃ H1, H1 = howR false D.armed D.left := ⟨_, rfl⟩
    have hE : errW false D.armed D.left = if l1 = true then 12 else 0 := by unfold errW; rw [hl1]
    have hH : H1 = if l1 = true then 2 else 0 := by rw [hH1, hl1]; unfold howR; rw [if_neg (by simp)]
    rw [← hU, ← hl1, ← hn1, hE] at e1
    rw [← hl1, ← hn1, ← hH1] at HW
    rw [← hn1] at q8 q9
    rw [← hU] at hb
    have d3 : ¬ (9223372036854775807 < (strOfNums U.1).size + (strOfNums t).size) := by rw [strOfNums_size, strOfNums_size]; omega
    have d5 : ¬ ((strOfNums U.1).size + (strOfNums t).size > 9223372036854775807) := d3
    have d4 := strOfNums_app U.1 t
    have d1 : (H1 != 1) = true := by rw [hH]; cases l1 <;> rfl
    have d2 : decide (0 < H1) = l1 := by rw [hH]; cases l1 <;> rfl
    have E1 := Lib.hid e1
    obtain ⟨nm, hnm⟩ := fileV_form s (getE D.fs s.data.toList)
    rw [← hU] at hnm
    have HNM := Lib.hid hnm
    clear h1 h2 e1 hl hH hH1 hl1 hn1 hE hU hnm
    go_enter Tryd.func35, Tryd.ntmps35
    go_wp2_with fail
    refine HW.out.mono ?_; rintro e w1 ⟨rfl, hr1, ht1⟩
    have hrow1 := row_touch HH.out.2 HH.out.1 ht1
    have HF := Lib.hid (Find_r r v _ _ D.fs s w1 hr1 hrow1.sees hn)
    rw [HNM.out] at HF
    have HR1 := Lib.hid (And.intro hr1 (And.intro ht1 hrow1))
    clear hr1 ht1 hrow1
    go_wp2_with fail
    refine HF.out.mono ?_; rintro e w2 ⟨rfl, hb2⟩
    go_wp2_with fail
    have hbA := belAlloc hb2 (.cells #[.string nm, .string (strOfNums U.1), .int .i64 (U.2 : Nat)] 89)
    have hrA := (hbA.block r (heap_lt HR1.out.1)).trans HR1.out.1
    have hsA := HR1.out.2.2.sees.below hbA
    refine (put_r r v _ _ D.fs s (U.1 ++ t, U.2) _ hrA hsA hn).mono ?_
    rintro e w3 ⟨rfl, v', hr3, hrow3, ht3⟩
    have hz1 := HR1.out.2.1.2.2.2.1
    have hzA := hbA.size
    have HR := Lib.hid (ref_put (w := w) h3 h5 hr3 (row_le hrow3 (by omega)) ((HR1.out.2.1.trans (Touch.of_below (· = r) hbA) (fun _ _ e => e)).trans ht3 (fun _ _ e => e)) q8 q9)
    clear hr3 hrow3 ht3 hbA hrA hsA
    cases l1 with
    | true =>
      go_wp2_with fail
      go_ret
      rw [E1.out]
      exact ⟨_, rfl, HR.out.1, HR.out.2⟩
    | false =>
      go_wp2_with fail
      go_ret
      rw [E1.out]
      exact ⟨_, rfl, HR.out.1, HR.out.2⟩
end
section
open Go.RowKit Go.Maps
theorem str_take (x : List Int) (m : Nat) : (strOfNums x).extract 0 m = strOfNums (x.take m) := by
  unfold strOfNums
  apply ByteArray.ext
  rw [ByteArray.data_extract]
  apply Array.toList_inj.1
  simp [List.map_take]
set_option maxRecDepth 100000 in
set_option maxHeartbeats 2000000 in
theorem Cut_r (r : Nat) (Q : Nat → Prop) (D : DSt) (s : ByteArray) (n : Int) (w : World) (h : RefAt w r Q D) (hn : D.fs.length ≤ 1000000) :
    Calls Tryd.prog 77 #[ptr r, .string s, .int .i64 n] w fun e w' => ∃ Q', e = .returned (.int .i64 (cutD D s.data.toList n).1) ∧ RefAt w' r Q' (cutD D s.data.toList n).2 ∧ Step Q Q' w w' := by
  have HRA := Lib.hid h
  obtain ⟨v, h1, h2, h3, h4, h5, h6, h7⟩ := h
  have HF := Lib.hid (Find_r r v _ _ D.fs s w h1 h2.sees hn)
  cases hgf : getE D.fs s.data.toList with
  | none =>
    have e1 : cutD D s.data.toList n = (6, D) := by unfold cutD; rw [hgf]
    rw [hgf] at HF
    rw [e1]
    simp only [fileV, zeroR, Option.isSome_none] at HF
    clear h1 h2 hgf e1
    go_enter Tryd.func77, Tryd.ntmps77
    go_wp2_with fail
    refine HF.out.mono ?_; rintro e w1 ⟨rfl, hb1⟩
    go_wp2_with fail
    go_ret
    refine ⟨Q, rfl, HRA.out.below ?_, Touch.of_below Q ?_, fun i hi => Or.inl hi⟩
    all_goals
      refine hb1.trans ?_
      repeat (first | exact Below.refl _ _ | refine Below.setCell ?_ (by simp) _ | refine Below.alloc ?_ (by have := hb1.size; simp; omega) _)
  | some u =>
    rw [hgf] at HF
    simp only [fileV, Option.isSome_some] at HF
    have HH := Lib.hid (And.intro h1 h2)
    have HGF := Lib.hid hgf
    have hrl := heap_lt h1
    have e5 : ((strOfNums u.1).size : Int) = (u.1.length : Nat) := by rw [strOfNums_size]
    clear h1 h2 hgf
    by_cases hn0 : n < 0
    · have e1 : cutD D s.data.toList n = (1, D) := by unfold cutD; rw [HGF.out]; simp only []; rw [if_pos (Or.inl hn0)]
      rw [e1]
      clear e1
      have d1 : decide (n < 0) = true := by simpa using hn0
      go_enter Tryd.func77, Tryd.ntmps77
      go_wp2_with fail
      refine HF.out.mono ?_; rintro e w1 ⟨rfl, hb1⟩
      go_wp2_with fail
      go_ret
      refine ⟨Q, rfl, HRA.out.below ?_, Touch.of_below Q ?_, fun i hi => Or.inl hi⟩
      all_goals
        refine hb1.trans ?_
        repeat (first | exact Below.refl _ _ | refine Below.setCell ?_ (by simp) _ | refine Below.alloc ?_ (by have := hb1.size; simp; omega) _)

    by_cases hn1 : (u.1.length : Int) < n
    · have e1 : cutD D s.data.toList n = (1, D) := by unfold cutD; rw [HGF.out]; simp only []; rw [if_pos (Or.inr hn1)]
      rw [e1]
      clear e1
      have d1 : decide (n < 0) = false := by simpa using hn0
      have d2 : decide ((u.1.length : Int) < n) = true := by simpa using hn1
      go_enter Tryd.func77, Tryd.ntmps77
      go_wp2_with fail
      refine HF.out.mono ?_; rintro e w1 ⟨rfl, hb1⟩
      go_wp2_with fail
      go_ret
      refine ⟨Q, rfl, HRA.out.below ?_, Touch.of_below Q ?_, fun i hi => Or.inl hi⟩
      all_goals
        refine hb1.trans ?_
        repeat (first | exact Below.refl _ _ | refine Below.setCell ?_ (by simp) _ | refine Below.alloc ?_ (by have := hb1.size; simp; omega) _)

    obtain ⟨m, rfl⟩ : ∃ m : Nat, n = (m : Int) := ⟨n.toNat, by omega⟩
    have hm : m ≤ u.1.length := by omega
    have HNE : Hid (¬ ((m : Int) < 0 ∨ (u.1.length : Int) < (m : Int))) := Lib.hid (by omega)
    have d1 : decide ((m : Int) < 0) = false := by simp
    have d2 : decide ((u.1.length : Int) < (m : Int)) = false := by simp; omega
    clear hn0 hn1
    go_enter Tryd.func77, Tryd.ntmps77
    go_wp2_with fail
    refine HF.out.mono ?_; rintro e w1 ⟨rfl, hb1⟩
    go_wp2_with fail
    have hbA := belAlloc hb1 (.cells #[.string s, .string (strOfNums u.1), .int .i64 (u.2 : Nat)] 89)
    have hrA := (hbA.block r hrl).trans HH.out.1
    have hcA := heap_alloc_new w1 (.cells #[.string s, .string (strOfNums u.1), .int .i64 (u.2 : Nat)] 89)
    have hz1 := hb1.size
    refine (write_r r v D.lost D.armed D.left _ hrA h6 h7).mono ?_; rintro e w2 ⟨rfl, hr2, ht2⟩
    have hT : Touch (· = r) w w2 := (Touch.of_below _ hbA).trans ht2 (fun _ _ e => e)
    have hL2 := (ht2.2.2.2.2 w1.heap.size (by simp) (by omega)).trans hcA
    obtain ⟨l1, hl1⟩ : ∃ l1, l1 = lost1 D.lost D.armed D.left := ⟨_, rfl⟩
    obtain ⟨n1, hn1⟩ : ∃ n1, n1 = left1 D.lost D.armed D.left := ⟨_, rfl⟩
    obtain ⟨q8, q9⟩ := left1_bd (lost := D.lost) (armed := D.armed) h6 h7
    rw [← hl1, ← hn1] at hr2
    rw [← hn1] at q8 q9
    cases l1 with
    | true =>
      have e1 : cutD D s.data.toList (m : Int) = (12, ⟨D.fs, true, D.armed, n1⟩) := by unfold cutD; rw [HGF.out]; simp only []; rw [if_neg HNE.out, ← hl1, if_pos rfl, ← hn1]
      have E1 := Lib.hid e1
      have d1 := how_lost hl1.symm
      have HR := Lib.hid (ref_wrote HH.out.1 HH.out.2 h3 h4 h5 hr2 hT q8 q9)
      clear e1 hl1 hn1 hr2 ht2 hT hcA hrA hbA hL2
      go_wp2_with fail
      go_ret
      rw [E1.out]
      exact ⟨Q, rfl, HR.out.1, HR.out.2⟩
    | false =>
      have e1 : cutD D s.data.toList (m : Int) = (0, { fs := putE s.data.toList (u.1.take m, m) D.fs, lost := false, armed := D.armed, left := n1 }) := by
        unfold cutD; rw [HGF.out]; simp only []; rw [if_neg HNE.out, ← hl1, if_neg (by simp), ← hn1]; rfl
      have E1 := Lib.hid e1
      rw [how_done hl1.symm]
      obtain ⟨p0, p1, p2⟩ := rcells hL2
      have HP := Lib.hid (put_r r v _ _ D.fs s (u.1.take m, m) w2 hr2 (row_touch HH.out.2 HH.out.1 hT).sees hn)
      have HT := Lib.hid hT
      have d3 : (m : Int) ≤ (u.1.length : Int) := by omega
      have d4 : m ≤ (strOfNums u.1).size := by rw [strOfNums_size]; exact hm
      have d5 : (0 : Int) ≤ (m : Int) := by omega
      have q1 : (strOfNums u.1).extract 0 m = strOfNums (u.1.take m) := str_take u.1 m
      clear e1 hl1 hn1 hr2 ht2 hcA hrA hbA hL2
      go_wp2_with fail
      refine HP.out.mono ?_; rintro e w3 ⟨rfl, v', hr3, hrow3, ht3⟩
      have HR := Lib.hid (ref_put (w := w) h3 h5 hr3 (row_le hrow3 HT.out.2.2.2.1) (HT.out.trans ht3 (fun _ _ e => e)) q8 q9)
      clear hr3 hrow3 ht3 hT
      go_wp2_with fail
      go_ret
      rw [E1.out]
      exact ⟨_, rfl, HR.out.1, HR.out.2⟩
end
section
open Go.RowKit Go.Maps
theorem wp_pushF {w0 : World} {o : Oper} {a : Act} {K : Act → World → Prop} {Q : Exit → Act → World → Prop} (s x : Operand)
    (ho : o.op = .call { callee := .builtin .append, args := #[s, x], argTypes := #[40, 40] }) (B : Nat) (v : Value) (L : List FEnt) (nm : ByteArray) (u : List Int × Nat)
    (k : Nat) (hk : k = w0.heap.size) (hs : a.eval s = v) (hx : a.eval x = .slice (some ⟨k, 0, none⟩) 1 1) (hrow : RowF w0 B v L) (hlen : L.length ≤ 1000001) (hB : B ≤ w0.heap.size)
    (h : ∀ v' w', RowF w' B v' (L ++ [(nm.data.toList, u)]) → Below B w0 w' → w0.grownBy w' v.ownBlock → K (a.put o.dst v') w') :
    o.wp Tryd.prog a (w0.alloc (.cells #[.string nm, .string (strOfNums u.1), .int .i64 (u.2 : Nat)] 89)) K Q := by
  subst hk
  obtain ⟨i0, hi, hz0, hz1, hz2⟩ := info_parts info62
  have hbk := heap_alloc_new w0 (.cells #[.string nm, .string (strOfNums u.1), .int .i64 (u.2 : Nat)] 89)
  refine wp_append_own _ s x 40 ho B 89 i0 zeroR 3 40 Tryd.underlying40 hi hz0 hz1 hz2 rfl (by decide) v _ _ hs (hrow.alloc _) ⟨w0.heap.size, 0, none⟩ 1 1 [.string nm, .string (strOfNums u.1), .int .i64 (u.2 : Nat)] hx rfl (fun j y hj => ?_) ?_ (by unfold maxLen; omega) (by omega) (by simp; omega) ?_
  · rw [add0]
    rcases j with _ | _ | _ | j
    · obtain rfl : Value.string nm = y := by simpa using hj
      exact (rcells hbk).1
    · obtain rfl : Value.string (strOfNums u.1) = y := by simpa using hj
      exact (rcells hbk).2.1
    · obtain rfl : Value.int .i64 (u.2 : Nat) = y := by simpa using hj
      exact (rcells hbk).2.2
    · simp at hj
  · intro y hy
    simp only [List.mem_cons, List.not_mem_nil, or_false] at hy
    rcases hy with rfl | rfl | rfl <;> rfl
  · intro v' w' hown' hgrow _
    have hg0 : w0.grownBy w' v.ownBlock := World.grownBy.trans (b := w0.alloc (.cells #[.string nm, .string (strOfNums u.1), .int .i64 (u.2 : Nat)] 89)) ⟨rfl, rfl, rfl, by simp, fun k hk _ => Below.heap_alloc w0 _ k hk⟩ hgrow
    refine h v' w' ?_ ((Below.refl B w0).grown hg0 hB (fun k hk => (hrow.lt k hk).1)) hg0
    have e1 : (L ++ [(nm.data.toList, u)]).length = L.length + 1 := by simp
    have e2 : (L ++ [(nm.data.toList, u)]).flatMap encF = L.flatMap encF ++ [.string nm, .string (strOfNums u.1), .int .i64 (u.2 : Nat)] := by simp [List.flatMap_append, encF]
    show w'.ownsRow _ _ _ _ _ _
    rw [e1, e2]
    exact hown'
set_option maxRecDepth 100000 in
set_option maxHeartbeats 4000000 in
theorem Crash_r (r : Nat) (Q : Nat → Prop) (D : DSt) (kv : Value) (ks : List Int) (w : World) (h : RefAt w r Q D) (hn : D.fs.length ≤ 1000000) (hall : ∀ f ∈ D.fs, f.2.2 ≤ f.2.1.length ∧ f.2.1.length ≤ 100000000000)
    (hk : SeesU w kv ks) (hkb : ∀ x ∈ ks, 0 ≤ x ∧ x < 65536) :
    Calls Tryd.prog 34 #[ptr r, kv] w fun e w' => ∃ Q', e = .returned (.tuple #[]) ∧ RefAt w' r Q' (crashD D ks) ∧ Step Q Q' w w' := by
  obtain ⟨v, h1, h2, h3, h4, h5, h6, h7⟩ := h
  obtain ⟨ko, kc, rfl, hkc, hkn, hkcell⟩ := hk
  have HK := Lib.hid (show SeesU w (.slice ko ks.length kc) ks from ⟨ko, kc, rfl, hkc, hkn, hkcell⟩)
  have HKB := Lib.hid hkb
  have HA := Lib.hid hall
  have HH := Lib.hid (And.intro h1 h2)
  have hrl := heap_lt h1
  obtain ⟨c0, -⟩ := rcells h1
  obtain ⟨ao, c, rfl, hlc, hnil, hc⟩ := h2.sees
  have HC := Lib.hid (And.intro hnil hc)
  clear hkcell hkb hall hkn hnil hc h1 h2
  go_enter Tryd.func34, Tryd.ntmps34
  go_wp2_with fail
  go_loopw [4, 13] (fun x j wr => ∃ i : Nat, i ≤ D.fs.length ∧ j = .int .i64 i ∧ Below w.heap.size w wr ∧ RowF wr w.heap.size x (crashF ks 0 (D.fs.take i))) (fun _ j _ => D.fs.length - (intOf j).toNat)
  case atStart => exact ⟨0, Nat.zero_le _, rfl, Below.refl _ _, World.ownsRow_nil _ _ _ _⟩
  case round =>
    obtain ⟨i, hi, rfl, hB, hrow⟩ := hrel
    by_cases hlt : i < D.fs.length
    · obtain ⟨a, rfl⟩ : ∃ a, ao = some a := by
        cases ao with
        | none => rw [HC.out.1 rfl] at hlt; simp at hlt
        | some a => exact ⟨a, rfl⟩
      obtain ⟨g, rfl, hg, hcs⟩ := HC.out.2 a rfl
      obtain ⟨q0, q1, q2⟩ := hcs i D.fs[i] (List.getElem?_eq_getElem hlt)
      have q0 := (hB.cell (cell_lt8 q0)).trans q0
      have q1 := (hB.cell (cell_lt8 q1)).trans q1
      have q2 := (hB.cell (cell_lt8 q2)).trans q2
      have hA2 := HA.out _ (List.getElem_mem hlt)
      have hKr := HK.out.keep (w' := wr) (fun d hd hlt => hB.block d hlt)
      obtain ⟨k, hk⟩ : ∃ k, k = D.fs[i].1 := ⟨_, rfl⟩
      obtain ⟨u, hu⟩ : ∃ u, u = D.fs[i].2 := ⟨_, rfl⟩
      rw [← hk] at q0
      rw [← hu] at q1 q2 hA2
      obtain ⟨hsu, ul⟩ := hA2
      obtain ⟨N, hN⟩ : ∃ N, N = crashN ks i u := ⟨_, rfl⟩
      have hNle := crashN_le ks i hsu
      rw [← hN] at hNle
      have HNN := Lib.hid hN
      have HKU := Lib.hid (And.intro hk hu)
      have b0 : (0 : Int) ≤ (i : Int) := by omega
      have b1 : (i : Int) < (D.fs.length : Int) := by omega
      have e5 : ((strOfNums u.1).size : Int) = (u.1.length : Nat) := by rw [strOfNums_size]
      have d3 : (N : Int) ≤ (u.1.length : Int) := by omega
      have d4 : N ≤ (strOfNums u.1).size := by rw [strOfNums_size]; exact hNle.2
      have d5 : (0 : Int) ≤ (N : Int) := by omega
      have qx : (strOfNums u.1).extract 0 N = strOfNums (u.1.take N) := str_take u.1 N
      have hbA := belAlloc hB (.cells #[.string ⟨k.toArray⟩, .string (strOfNums u.1), .int .i64 (u.2 : Nat)] 89)
      have hrA := hrow.alloc (.cells #[.string ⟨k.toArray⟩, .string (strOfNums u.1), .int .i64 (u.2 : Nat)] 89)
      obtain ⟨W, hW⟩ : ∃ W, W = wr.alloc (.cells #[.string ⟨k.toArray⟩, .string (strOfNums u.1), .int .i64 (u.2 : Nat)] 89) := ⟨_, rfl⟩
      rw [← hW] at hbA hrA
      have hWL : W.heap[wr.heap.size]? = some (.cells #[.string ⟨k.toArray⟩, .string (strOfNums u.1), .int .i64 (u.2 : Nat)] 89 (0, 0)) := by rw [hW]; exact heap_alloc_new wr _
      have HWL := Lib.hid (rcells hWL)
      have HWW := Lib.hid hW
      have HBA := Lib.hid hbA
      have HRA := Lib.hid hrA
      have HNB : Hid (u4.ownBlock ≠ some wr.heap.size) := Lib.hid (fun e => by have := (hrow.lt _ e).2; omega)
      clear hcs hk hu hN hW hbA hrA hWL hrow
      by_cases hki : i < ks.length
      · have d0 : decide ((i : Int) < (ks.length : Int)) = true := by simp; omega
        obtain ⟨X, hX⟩ : ∃ X, X = ks.getD i 0 := ⟨_, rfl⟩
        have hXb := HKB.out X (by rw [hX]; simp [List.getD, hki])
        obtain ⟨M, hM⟩ : ∃ M : Nat, M = X.toNat % (u.1.length - u.2 + 1) := ⟨_, rfl⟩
        have hNM : N = u.2 + M := by rw [HNN.out]; unfold crashN; rw [if_pos hki, ← hX, hM]
        have s1 : IntKind.i64.wrap X = X := IntWalk.i64_in _ (by omega)
        have s2 : IntKind.i64.wrap ((u.1.length : Int) - (u.2 : Nat)) = u.1.length - (u.2 : Nat) := IntWalk.i64_in _ (by omega)
        have s3 : IntKind.i64.wrap ((u.1.length : Int) - (u.2 : Nat) + 1) = u.1.length - (u.2 : Nat) + 1 := IntWalk.i64_in _ (by omega)
        have s4 : X % ((u.1.length : Int) - (u.2 : Nat) + 1) = (M : Nat) := by
          have e1 : X = (X.toNat : Int) := by omega
          have e2 : (u.1.length : Int) - (u.2 : Nat) + 1 = ((u.1.length - u.2 + 1 : Nat) : Int) := by omega
          rw [hM, Int.natCast_emod, ← e2, ← e1]
        have s5 : Int.tmod X ((u.1.length : Int) - (u.2 : Nat) + 1) = (M : Nat) := by rw [Int.tmod_eq_emod_of_nonneg hXb.1]; exact s4
        have s6 : ¬ ((u.1.length : Int) - (u.2 : Nat) + 1 = 0) := by omega
        have s7 : IntKind.i64.wrap ((u.2 : Nat) + (M : Nat) : Int) = (N : Nat) := by rw [hNM]; exact IntWalk.i64_in _ (by have := hNle.2; omega)
        obtain ⟨ka, rfl⟩ : ∃ ka, ko = some ka := by
          obtain ⟨_, _, e1, _, e2, _⟩ := hKr
          cases e1
          cases ko with
          | none => rw [e2 rfl] at hki; simp at hki
          | some ka => exact ⟨ka, rfl⟩
        have hkc0 : wr.cell? (ka.add i) = some (.int .u16 X) := by
          obtain ⟨_, _, e1, _, _, e2⟩ := hKr
          cases e1
          rw [e2 ka rfl i hki, hX]
        have hkW : W.cell? (ka.add i) = some (.int .u16 X) := by rw [HWW.out, (belNew wr _).cell (cell_lt8 hkc0)]; exact hkc0
        have b2 : (i : Int) < (ks.length : Int) := by omega
        clear hX hM hNM hKr hkc0
        go_upto_region 4 with fail
        rw [← HWW.out]
        obtain ⟨p0, p1, p2⟩ := HWL.out
        clear q0 q1 q2 c0
        go_wp2_with fail
        go_quiet (fail)
        go_wp2_with fail
        obtain ⟨V, hV⟩ : ∃ V, V = W.drewN nq := ⟨_, rfl⟩
        rw [← hV]
        have HV : Hid (Below w.heap.size w V.drew ∧ RowF V.drew w.heap.size u4 (crashF ks 0 (D.fs.take i))) := Lib.hid (by rw [hV]; exact ⟨below_drewN HBA.out (nq + 1), HRA.out⟩)
        have p0' : V.cell? ⟨wr.heap.size, 0, none⟩ = some (.string ⟨k.toArray⟩) := by rw [hV]; exact p0
        have p1' : V.cell? ⟨wr.heap.size, 1, none⟩ = some (.string (strOfNums u.1)) := by rw [hV]; exact p1
        have p2' : V.cell? ⟨wr.heap.size, 2, none⟩ = some (.int .i64 (u.2 : Nat)) := by rw [hV]; exact p2
        clear p0 p1 p2 hV hkW
        refine wp_region_held_drew (S := (fun W => W.cell? ⟨wr.heap.size, 0, none⟩ = some (.string ⟨k.toArray⟩) ∧ W.cell? ⟨wr.heap.size, 1, none⟩ = some (.string (strOfNums u.1)) ∧ W.cell? ⟨wr.heap.size, 2, none⟩ = some (.int .i64 (u.2 : Nat)))) (by kernel_rfl) ?_ (fun r0 => ?_)
        · exact ⟨p0', p1', p2'⟩
        refine wpAnyH_take (i := 0) (v := ?_) rfl (by kernel_rfl) (by kernel_rfl) (by kernel_rfl) (fun _ _ _ h => h) (Or.inl ⟨by rfl, ?_⟩) (by assumption) ?_
        rotate_left
        · intro w hSw
          (try dsimp only at hSw)
          go_simp
          first | done | with_reducible rfl
        try simp only [Act.put, List.getElem_toArray, List.getElem_cons_zero, List.setIfInBounds_toArray, List.set_cons_zero, List.set_cons_succ]
        refine wpAnyH_take (i := 1) (v := ?_) rfl (by kernel_rfl) (by kernel_rfl) (by kernel_rfl) (fun _ _ _ h => h) (Or.inl ⟨by rfl, ?_⟩) (by assumption) ?_
        rotate_left
        · intro w hSw
          (try dsimp only at hSw)
          go_simp
          first | done | with_reducible rfl
        try simp only [Act.put, List.getElem_toArray, List.getElem_cons_succ, List.getElem_cons_zero, List.setIfInBounds_toArray, List.set_cons_zero, List.set_cons_succ]
        refine wpAnyH_take (i := 2) (v := ?_) rfl (by kernel_rfl) (by kernel_rfl) (by kernel_rfl) (fun _ _ _ h => h) (Or.inl ⟨by rfl, ?_⟩) (by assumption) ?_
        rotate_left
        · intro w hSw
          (try dsimp only at hSw)
          go_simp
          first | done | with_reducible rfl
        try simp only [Act.put, List.getElem_toArray, List.getElem_cons_succ, List.getElem_cons_zero, List.setIfInBounds_toArray, List.set_cons_zero, List.set_cons_succ]
        refine wpAnyH_take (i := 3) (v := ?_) rfl (by kernel_rfl) (by kernel_rfl) (by kernel_rfl) (fun _ _ _ h => h) (Or.inl ⟨by rfl, ?_⟩) (by assumption) ?_
        rotate_left
        · intro w hSw
          (try dsimp only at hSw)
          go_simp
          first | done | with_reducible rfl
        try simp only [Act.put, List.getElem_toArray, List.getElem_cons_succ, List.getElem_cons_zero, List.setIfInBounds_toArray, List.set_cons_zero, List.set_cons_succ]
        refine wpAnyH_take (i := 4) (v := ?_) rfl (by kernel_rfl) (by kernel_rfl) (by kernel_rfl) (fun _ _ _ h => h) (Or.inl ⟨by rfl, ?_⟩) (by assumption) ?_
        rotate_left
        · intro w hSw
          (try dsimp only at hSw)
          go_simp
          first | done | with_reducible rfl
        try simp only [Act.put, List.getElem_toArray, List.getElem_cons_succ, List.getElem_cons_zero, List.setIfInBounds_toArray, List.set_cons_zero, List.set_cons_succ]
        refine wpAnyH_take (i := 5) (v := ?_) rfl (by kernel_rfl) (by kernel_rfl) (by kernel_rfl) (fun _ _ _ h => h) (Or.inl ⟨by rfl, ?_⟩) (by assumption) ?_
        rotate_left
        · intro w hSw
          (try dsimp only at hSw)
          go_simp
          first | done | with_reducible rfl
        try simp only [Act.put, List.getElem_toArray, List.getElem_cons_succ, List.getElem_cons_zero, List.setIfInBounds_toArray, List.set_cons_zero, List.set_cons_succ]
        refine wpAnyH_take (i := 6) (v := ?_) rfl (by kernel_rfl) (by kernel_rfl) (by kernel_rfl) (fun _ _ _ h => h) (Or.inl ⟨by rfl, ?_⟩) (by assumption) ?_
        rotate_left
        · intro w hSw
          (try dsimp only at hSw)
          go_simp
          first | done | with_reducible rfl
        try simp only [Act.put, List.getElem_toArray, List.getElem_cons_succ, List.getElem_cons_zero, List.setIfInBounds_toArray, List.set_cons_zero, List.set_cons_succ]
        refine wpAnyH_take (i := 7) (v := ?_) rfl (by kernel_rfl) (by kernel_rfl) (by kernel_rfl) (fun _ _ _ h => h) (Or.inl ⟨by rfl, ?_⟩) (by assumption) ?_
        rotate_left
        · intro w hSw
          (try dsimp only at hSw)
          go_simp
          first | done | with_reducible rfl
        try simp only [Act.put, List.getElem_toArray, List.getElem_cons_succ, List.getElem_cons_zero, List.setIfInBounds_toArray, List.set_cons_zero, List.set_cons_succ]
        refine wpAnyH_take (i := 8) (v := ?_) rfl (by kernel_rfl) (by kernel_rfl) (by kernel_rfl) (fun _ _ _ h => h) (Or.inl ⟨by rfl, ?_⟩) (by assumption) ?_
        rotate_left
        · intro w hSw
          (try dsimp only at hSw)
          go_simp
          first | done | with_reducible rfl
        try simp only [Act.put, List.getElem_toArray, List.getElem_cons_succ, List.getElem_cons_zero, List.setIfInBounds_toArray, List.set_cons_zero, List.set_cons_succ]
        refine wpAnyH_ready (rs := [9]) (by kernel_rfl) (by simp) ?_
        refine AllReadyH.cons rfl (fun K hK => ?_) AllReadyH.nil
        go_simp
        refine hK.out _ _ ?_ (fun r1 => ?_)
        · exact ⟨((belNew V.drew _).cell (World.block_lt_of_cell? _ _ r0.1)).trans r0.1, ((belNew V.drew _).cell (World.block_lt_of_cell? _ _ r0.2.1)).trans r0.2.1, ((belNew V.drew _).cell (World.block_lt_of_cell? _ _ r0.2.2)).trans r0.2.2⟩
        try simp only [Act.put, List.getElem_toArray, List.getElem_cons_succ, List.getElem_cons_zero, List.setIfInBounds_toArray, List.set_cons_zero, List.set_cons_succ]
        refine wpAnyH_ready (rs := [10]) (by kernel_rfl) (by simp) ?_
        refine AllReadyH.cons rfl (fun K hK => ?_) AllReadyH.nil
        rw [if_pos (by kernel_rfl)]
        refine wp_pushF (w0 := V.drew) (.tmp 39) (.tmp 48) rfl w.heap.size u4 _ ⟨k.toArray⟩ (u.1.take N, N) V.drew.heap.size rfl rfl rfl HV.out.2 (by rw [crashF_len, List.length_take]; omega) HV.out.1.size (fun v2 w2 hrow2 hb2 hg2 => ?_)
        refine hK.out _ _ ?_ (fun r2 => ?_)
        · have hkq : ∀ (q : Addr) (x : Value), q.block = wr.heap.size → V.drew.cell? q = some x → w2.cell? q = some x := fun q x hn hq => (World.cell?_of_block (hg2.block q.block (World.block_lt_of_cell? _ _ hq) (fun e => HNB.out (by rw [← e, hn])))).trans hq
          exact ⟨hkq _ _ rfl r0.1, hkq _ _ rfl r0.2.1, hkq _ _ rfl r0.2.2⟩
        try simp only [Act.put, List.getElem_toArray, List.getElem_cons_succ, List.getElem_cons_zero, List.setIfInBounds_toArray, List.set_cons_zero, List.set_cons_succ]
        refine wpAnyH_take (i := 11) (v := ?_) rfl (by kernel_rfl) (by kernel_rfl) (by kernel_rfl) (fun _ _ _ h => h) (Or.inl ⟨by rfl, ?_⟩) (by assumption) ?_
        rotate_left
        · intro w hSw
          (try dsimp only at hSw)
          go_simp
          first | done | with_reducible rfl
        try simp only [Act.put, List.getElem_toArray, List.getElem_cons_succ, List.getElem_cons_zero, List.setIfInBounds_toArray, List.set_cons_zero, List.set_cons_succ]
        refine wpAnyH_done (by kernel_rfl) ?_ _
        go_wp2_with fail
        go_roundw
        case rel =>
          refine ⟨i + 1, by omega, by go_num, HV.out.1.trans hb2, ?_⟩
          rw [take_snoc hlt, crashF_snoc, show 0 + (D.fs.take i).length = i from by rw [List.length_take]; omega]
          have e6 : (D.fs[i].1, crashU ks i D.fs[i].2) = (k, (u.1.take N, N)) := by unfold crashU; rw [← HKU.out.1, ← HKU.out.2, ← HNN.out]
          rw [e6]
          exact hrow2
        case measure => simp [intOf]; omega
      · have d0 : decide ((i : Int) < (ks.length : Int)) = false := by simp; omega
        obtain rfl : N = u.2 := by rw [HNN.out]; unfold crashN; rw [if_neg hki, Nat.add_zero]
        clear hKr
        go_upto_region 4 with fail
        rw [← HWW.out]
        obtain ⟨p0, p1, p2⟩ := HWL.out
        clear q0 q1 q2 c0
        go_wp2_with fail
        obtain ⟨V, hV⟩ : ∃ V, V = W := ⟨_, rfl⟩
        rw [← hV]
        have HV : Hid (Below w.heap.size w V.drew ∧ RowF V.drew w.heap.size u4 (crashF ks 0 (D.fs.take i))) := Lib.hid (by rw [hV]; exact ⟨below_drewN HBA.out 1, HRA.out⟩)
        rw [← hV] at p0 p1 p2
        clear hV
        refine wp_region_held_drew (S := (fun W => W.cell? ⟨wr.heap.size, 0, none⟩ = some (.string ⟨k.toArray⟩) ∧ W.cell? ⟨wr.heap.size, 1, none⟩ = some (.string (strOfNums u.1)) ∧ W.cell? ⟨wr.heap.size, 2, none⟩ = some (.int .i64 (u.2 : Nat)))) (by kernel_rfl) ?_ (fun r0 => ?_)
        · exact ⟨p0, p1, p2⟩
        refine wpAnyH_take (i := 0) (v := ?_) rfl (by kernel_rfl) (by kernel_rfl) (by kernel_rfl) (fun _ _ _ h => h) (Or.inl ⟨by rfl, ?_⟩) (by assumption) ?_
        rotate_left
        · intro w hSw
          (try dsimp only at hSw)
          go_simp
          first | done | with_reducible rfl
        try simp only [Act.put, List.getElem_toArray, List.getElem_cons_zero, List.setIfInBounds_toArray, List.set_cons_zero, List.set_cons_succ]
        refine wpAnyH_take (i := 1) (v := ?_) rfl (by kernel_rfl) (by kernel_rfl) (by kernel_rfl) (fun _ _ _ h => h) (Or.inl ⟨by rfl, ?_⟩) (by assumption) ?_
        rotate_left
        · intro w hSw
          (try dsimp only at hSw)
          go_simp
          first | done | with_reducible rfl
        try simp only [Act.put, List.getElem_toArray, List.getElem_cons_succ, List.getElem_cons_zero, List.setIfInBounds_toArray, List.set_cons_zero, List.set_cons_succ]
        refine wpAnyH_take (i := 2) (v := ?_) rfl (by kernel_rfl) (by kernel_rfl) (by kernel_rfl) (fun _ _ _ h => h) (Or.inl ⟨by rfl, ?_⟩) (by assumption) ?_
        rotate_left
        · intro w hSw
          (try dsimp only at hSw)
          go_simp
          first | done | with_reducible rfl
        try simp only [Act.put, List.getElem_toArray, List.getElem_cons_succ, List.getElem_cons_zero, List.setIfInBounds_toArray, List.set_cons_zero, List.set_cons_succ]
        refine wpAnyH_take (i := 3) (v := ?_) rfl (by kernel_rfl) (by kernel_rfl) (by kernel_rfl) (fun _ _ _ h => h) (Or.inl ⟨by rfl, ?_⟩) (by assumption) ?_
        rotate_left
        · intro w hSw
          (try dsimp only at hSw)
          go_simp
          first | done | with_reducible rfl
        try simp only [Act.put, List.getElem_toArray, List.getElem_cons_succ, List.getElem_cons_zero, List.setIfInBounds_toArray, List.set_cons_zero, List.set_cons_succ]
        refine wpAnyH_take (i := 4) (v := ?_) rfl (by kernel_rfl) (by kernel_rfl) (by kernel_rfl) (fun _ _ _ h => h) (Or.inl ⟨by rfl, ?_⟩) (by assumption) ?_
        rotate_left
        · intro w hSw
          (try dsimp only at hSw)
          go_simp
          first | done | with_reducible rfl
        try simp only [Act.put, List.getElem_toArray, List.getElem_cons_succ, List.getElem_cons_zero, List.setIfInBounds_toArray, List.set_cons_zero, List.set_cons_succ]
        refine wpAnyH_take (i := 5) (v := ?_) rfl (by kernel_rfl) (by kernel_rfl) (by kernel_rfl) (fun _ _ _ h => h) (Or.inl ⟨by rfl, ?_⟩) (by assumption) ?_
        rotate_left
        · intro w hSw
          (try dsimp only at hSw)
          go_simp
          first | done | with_reducible rfl
        try simp only [Act.put, List.getElem_toArray, List.getElem_cons_succ, List.getElem_cons_zero, List.setIfInBounds_toArray, List.set_cons_zero, List.set_cons_succ]
        refine wpAnyH_take (i := 6) (v := ?_) rfl (by kernel_rfl) (by kernel_rfl) (by kernel_rfl) (fun _ _ _ h => h) (Or.inl ⟨by rfl, ?_⟩) (by assumption) ?_
        rotate_left
        · intro w hSw
          (try dsimp only at hSw)
          go_simp
          first | done | with_reducible rfl
        try simp only [Act.put, List.getElem_toArray, List.getElem_cons_succ, List.getElem_cons_zero, List.setIfInBounds_toArray, List.set_cons_zero, List.set_cons_succ]
        refine wpAnyH_take (i := 7) (v := ?_) rfl (by kernel_rfl) (by kernel_rfl) (by kernel_rfl) (fun _ _ _ h => h) (Or.inl ⟨by rfl, ?_⟩) (by assumption) ?_
        rotate_left
        · intro w hSw
          (try dsimp only at hSw)
          go_simp
          first | done | with_reducible rfl
        try simp only [Act.put, List.getElem_toArray, List.getElem_cons_succ, List.getElem_cons_zero, List.setIfInBounds_toArray, List.set_cons_zero, List.set_cons_succ]
        refine wpAnyH_take (i := 8) (v := ?_) rfl (by kernel_rfl) (by kernel_rfl) (by kernel_rfl) (fun _ _ _ h => h) (Or.inl ⟨by rfl, ?_⟩) (by assumption) ?_
        rotate_left
        · intro w hSw
          (try dsimp only at hSw)
          go_simp
          first | done | with_reducible rfl
        try simp only [Act.put, List.getElem_toArray, List.getElem_cons_succ, List.getElem_cons_zero, List.setIfInBounds_toArray, List.set_cons_zero, List.set_cons_succ]
        refine wpAnyH_ready (rs := [9]) (by kernel_rfl) (by simp) ?_
        refine AllReadyH.cons rfl (fun K hK => ?_) AllReadyH.nil
        go_simp
        refine hK.out _ _ ?_ (fun r1 => ?_)
        · exact ⟨((belNew V.drew _).cell (World.block_lt_of_cell? _ _ r0.1)).trans r0.1, ((belNew V.drew _).cell (World.block_lt_of_cell? _ _ r0.2.1)).trans r0.2.1, ((belNew V.drew _).cell (World.block_lt_of_cell? _ _ r0.2.2)).trans r0.2.2⟩
        try simp only [Act.put, List.getElem_toArray, List.getElem_cons_succ, List.getElem_cons_zero, List.setIfInBounds_toArray, List.set_cons_zero, List.set_cons_succ]
        refine wpAnyH_ready (rs := [10]) (by kernel_rfl) (by simp) ?_
        refine AllReadyH.cons rfl (fun K hK => ?_) AllReadyH.nil
        rw [if_pos (by kernel_rfl)]
        refine wp_pushF (w0 := V.drew) (.tmp 39) (.tmp 48) rfl w.heap.size u4 _ ⟨k.toArray⟩ (u.1.take u.2, u.2) V.drew.heap.size rfl rfl rfl HV.out.2 (by rw [crashF_len, List.length_take]; omega) HV.out.1.size (fun v2 w2 hrow2 hb2 hg2 => ?_)
        refine hK.out _ _ ?_ (fun r2 => ?_)
        · have hkq : ∀ (q : Addr) (x : Value), q.block = wr.heap.size → V.drew.cell? q = some x → w2.cell? q = some x := fun q x hn hq => (World.cell?_of_block (hg2.block q.block (World.block_lt_of_cell? _ _ hq) (fun e => HNB.out (by rw [← e, hn])))).trans hq
          exact ⟨hkq _ _ rfl r0.1, hkq _ _ rfl r0.2.1, hkq _ _ rfl r0.2.2⟩
        try simp only [Act.put, List.getElem_toArray, List.getElem_cons_succ, List.getElem_cons_zero, List.setIfInBounds_toArray, List.set_cons_zero, List.set_cons_succ]
        refine wpAnyH_take (i := 11) (v := ?_) rfl (by kernel_rfl) (by kernel_rfl) (by kernel_rfl) (fun _ _ _ h => h) (Or.inl ⟨by rfl, ?_⟩) (by assumption) ?_
        rotate_left
        · intro w hSw
          (try dsimp only at hSw)
          go_simp
          first | done | with_reducible rfl
        try simp only [Act.put, List.getElem_toArray, List.getElem_cons_succ, List.getElem_cons_zero, List.setIfInBounds_toArray, List.set_cons_zero, List.set_cons_succ]
        refine wpAnyH_done (by kernel_rfl) ?_ _
        go_wp2_with fail
        go_roundw
        case rel =>
          refine ⟨i + 1, by omega, by go_num, HV.out.1.trans hb2, ?_⟩
          rw [take_snoc hlt, crashF_snoc, show 0 + (D.fs.take i).length = i from by rw [List.length_take]; omega]
          have e6 : (D.fs[i].1, crashU ks i D.fs[i].2) = (k, (u.1.take u.2, u.2)) := by unfold crashU; rw [← HKU.out.1, ← HKU.out.2, ← HNN.out]
          rw [e6]
          exact hrow2
        case measure => simp [intOf]; omega
    · obtain rfl : i = D.fs.length := by omega
      rw [List.take_length] at hrow
      have hrw := (hB.block r hrl).trans HH.out.1
      obtain ⟨k0, k1, k2⟩ := rcells hrw
      obtain ⟨a4, c4, hv4, -⟩ := RowF.sees hrow
      subst hv4
      have f0 := rfroz hrw 0
      have f1 := rfroz hrw 1
      have f2 := rfroz hrw 2
      obtain ⟨Z, hZ⟩ : ∃ Z, Z = Value.slice a4 (crashF ks 0 D.fs).length c4 := ⟨_, rfl⟩
      rw [← hZ] at hrow
      have hs1 := dset hrw 0 Z
      have hs2 := dset hs1 1 (.bool false)
      have hs3 := dset hs2 2 (.int .i64 (-1))
      have hn1 := row_ne hrow hrl
      have hR := ref_put (w := w) (l := false) (a := false) (n := 0) h3 h5 hs3 (World.ownsRow.kept (World.ownsRow.kept (World.ownsRow.kept hrow (grown_set wr r 0 Z) hn1) (grown_set _ r 1 _) hn1) (grown_set _ r 2 _) hn1) ((((Touch.of_below (· = r) hB).trans (touch_set wr r 0 Z) (fun _ _ e => e)).trans (touch_set _ r 1 _) (fun _ _ e => e)).trans (touch_set _ r 2 _) (fun _ _ e => e)) (by omega) (by omega)
      rw [hZ] at hR
      have HR := Lib.hid hR
      clear hs1 hs2 hs3 hR hrow hrw hZ
      go_wp2_with fail
      go_end0
      exact ⟨_, rfl, HR.out.1, HR.out.2⟩
end
end Go.Proofs.YtkjdfelmjanpcaaDoor
