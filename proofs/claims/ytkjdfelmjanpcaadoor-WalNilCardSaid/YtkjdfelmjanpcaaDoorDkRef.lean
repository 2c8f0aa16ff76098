/- The document's own disk (virgateref06): what lies in memory for it; find, Find, write, Read, Arm, New. -/
import Derived.Test.YtkjdfelmjanpcaaDoorDkCut
namespace Go.Proofs.YtkjdfelmjanpcaaDoor
open Go.RowKit Go.Maps
def encF (f : FEnt) : List Value := [.string ⟨f.1.toArray⟩, .string (strOfNums f.2.1), .int .i64 (f.2.2 : Nat)]
/-- A row of the document's files. -/
abbrev RowF (w : World) (B : Nat) (v : Value) (L : List FEnt) : Prop := w.ownsRow B 89 3 v L.length (L.flatMap encF)
def leftR (armed : Bool) (left : Int) : Int := if armed then left else -1
/-- The document's disk in block r, with the files of D; all that is its own lies in blocks of which Q holds. -/
def RefAt (w : World) (r : Nat) (Q : Nat → Prop) (D : DSt) : Prop :=
  ∃ v, w.heap[r]? = some (.cells #[v, .bool D.lost, .int .i64 (leftR D.armed D.left)] 42 (0, 0)) ∧ RowF w 0 v D.fs ∧ Q r ∧ (∀ d, v.ownBlock = some d → Q d) ∧ (∀ i, Q i → i < w.heap.size) ∧ 0 ≤ D.left ∧ D.left ≤ 9223372036854775807
theorem add0 (g n : Nat) : (⟨g, 0, none⟩ : Addr).add n = ⟨g, n, none⟩ := by
  unfold Addr.add
  by_cases h : n = 0
  · subst h; rfl
  · simp [h]
theorem flat_at : ∀ (L : List FEnt) (i j : Nat) (f : FEnt), L[i]? = some f → j < 3 → (L.flatMap encF)[i * 3 + j]? = (encF f)[j]?
  | [], i, j, f, h, _ => by simp at h
  | a :: L, 0, j, f, h, hj => by
    obtain rfl : a = f := by simpa using h
    rw [List.flatMap_cons, Nat.zero_mul, Nat.zero_add, List.getElem?_append_left (by simp [encF]; omega)]
  | a :: L, i + 1, j, f, h, hj => by
    rw [List.flatMap_cons, List.getElem?_append_right (by simp [encF]; omega)]
    have e : (i + 1) * 3 + j - (encF a).length = i * 3 + j := by simp [encF]; omega
    rw [e]
    exact flat_at L i j f (by simpa using h) hj
/-- What is read of a row of files. -/
def SeesF (w : World) (v : Value) (L : List FEnt) : Prop :=
  ∃ (ao : Option Addr) (c : Nat), v = .slice ao L.length c ∧ L.length ≤ c ∧ (ao = none → L = []) ∧ ∀ a, ao = some a → ∃ g, a = ⟨g, 0, none⟩ ∧ g < w.heap.size ∧ ∀ i f, L[i]? = some f →
    w.cell? ⟨g, i * 3, none⟩ = some (.string ⟨f.1.toArray⟩) ∧ w.cell? ⟨g, i * 3 + 1, none⟩ = some (.string (strOfNums f.2.1)) ∧ w.cell? ⟨g, i * 3 + 2, none⟩ = some (.int .i64 (f.2.2 : Nat))
theorem RowF.sees {w : World} {B : Nat} {v : Value} {L : List FEnt} (h : RowF w B v L) : SeesF w v L := by
  rcases h.2 with ⟨e, h0⟩ | ⟨g, cap, cur, e, _, hb, hn, _⟩
  · have h1 : L = [] := List.eq_nil_of_length_eq_zero h0
    subst h1
    exact ⟨none, 0, e, Nat.le_refl _, (fun _ => rfl), (fun a ha => by cases ha)⟩
  · refine ⟨_, _, e, hn, (fun h => by cases h), fun a ha => ⟨g, (Option.some.inj ha).symm, heap_lt hb, fun i f hf => ?_⟩⟩
    have hc := World.ownsRow.cells h (g := g) (by rw [e]; rfl)
    have h0 := hc (i * 3 + 0) _ ((flat_at L i 0 f hf (by omega)).trans rfl)
    have h1 := hc (i * 3 + 1) _ ((flat_at L i 1 f hf (by omega)).trans rfl)
    have h2 := hc (i * 3 + 2) _ ((flat_at L i 2 f hf (by omega)).trans rfl)
    rw [add0] at h0 h1 h2
    exact ⟨h0, h1, h2⟩
theorem SeesF.keep {w w' : World} {v : Value} {L : List FEnt} (h : SeesF w v L) (hb : ∀ d, v.ownBlock = some d → d < w.heap.size → w'.heap[d]? = w.heap[d]?) (hz : w.heap.size ≤ w'.heap.size) : SeesF w' v L := by
  obtain ⟨ao, c, rfl, h1, h2, h3⟩ := h
  refine ⟨ao, c, rfl, h1, h2, fun a ha => ?_⟩
  obtain ⟨g, rfl, h4, h5⟩ := h3 a ha
  subst ha
  have e := hb g rfl h4
  refine ⟨g, rfl, by omega, fun i f hf => ?_⟩
  obtain ⟨q1, q2, q3⟩ := h5 i f hf
  exact ⟨(World.cell?_of_block e).trans q1, (World.cell?_of_block e).trans q2, (World.cell?_of_block e).trans q3⟩
theorem SeesF.below {w w' : World} {v : Value} {L : List FEnt} (h : SeesF w v L) (hb : Below w.heap.size w w') : SeesF w' v L := h.keep (fun d _ hd => hb.block d hd) hb.size
theorem getE_none {β : Type} {L : List (List UInt8 × β)} {k : List UInt8} (h : ∀ p ∈ L, p.1 ≠ k) : getE L k = none := by
  unfold getE
  rw [List.find?_eq_none.2 (fun p hp => by simpa using h p hp)]
  rfl
theorem getE_first {β : Type} : ∀ {L : List (List UInt8 × β)} {k : List UInt8} {i : Nat} {u : β}, L[i]? = some (k, u) → (∀ p ∈ L.take i, p.1 ≠ k) → getE L k = some u
  | [], _, _, _, h, _ => by simp at h
  | a :: L, k, 0, u, h, _ => by
    obtain rfl : a = (k, u) := by simpa using h
    unfold getE
    rw [List.find?_cons]
    simp
  | a :: L, k, i + 1, u, h, hn => by
    have h1 : a.1 ≠ k := hn a (by simp)
    have ih := getE_first (L := L) (k := k) (i := i) (u := u) (by simpa using h) (fun p hp => hn p (by simp [hp]))
    unfold getE at ih ⊢
    rw [List.find?_cons, show (a.1 == k) = false from by simpa using h1]
    exact ih
set_option maxRecDepth 100000 in
set_option maxHeartbeats 2000000 in
theorem find_r (r : Nat) (v x1 x2 : Value) (L : List FEnt) (s : ByteArray) (w : World) (hr : w.heap[r]? = some (.cells #[v, x1, x2] 42 (0, 0))) (hv : SeesF w v L) (hn : L.length ≤ 1000000) :
    Calls Tryd.prog 79 #[ptr r, .string s] w fun e w' => ∃ j : Int, e = .returned (.int .i64 j) ∧ Below w.heap.size w w' ∧
      ((j = -1 ∧ getE L s.data.toList = none) ∨ ∃ (i : Nat) (u : List Int × Nat), j = i ∧ L[i]? = some (s.data.toList, u) ∧ getE L s.data.toList = some u) := by
  have c0 : w.cell? ⟨r, 0, none⟩ = some v := by simp [World.cell?, hr]
  obtain ⟨ao, c, rfl, hlc, hnil, hc⟩ := hv
  have HC := Lib.hid (And.intro hnil hc)
  have hrl := heap_lt hr
  clear hnil hc hr
  go_enter Tryd.func79, Tryd.ntmps79
  go_wp2_with fail
  go_loopw [12] (fun j wr => ∃ i : Nat, i ≤ L.length ∧ j = .int .i64 i ∧ Below w.heap.size w wr ∧ ∀ p ∈ L.take i, p.1 ≠ s.data.toList) (fun j _ => L.length - (intOf j).toNat)
  case atStart => exact ⟨0, Nat.zero_le _, rfl, Below.refl _ _, by simp⟩
  case round =>
    obtain ⟨i, hi, rfl, hB, hno⟩ := hrel
    by_cases hlt : i < L.length
    · obtain ⟨a, rfl⟩ : ∃ a, ao = some a := by
        cases ao with
        | none => rw [HC.out.1 rfl] at hlt; simp at hlt
        | some a => exact ⟨a, rfl⟩
      obtain ⟨g, rfl, hg, hcs⟩ := HC.out.2 a rfl
      obtain ⟨q0, q1, q2⟩ := hcs i L[i] (List.getElem?_eq_getElem hlt)
      have q0 := (hB.cell (cell_lt8 q0)).trans q0
      have q1 := (hB.cell (cell_lt8 q1)).trans q1
      have q2 := (hB.cell (cell_lt8 q2)).trans q2
      have b0 : (0 : Int) ≤ (i : Int) := by omega
      have b1 : (i : Int) < (L.length : Int) := by omega
      clear hcs
      by_cases he : L[i].1 = s.data.toList
      · have d0 : (L[i].1 == s.toList) = true := by rw [ByteArray.toList_eq]; simpa using he
        go_wp2_with fail
        go_ret
        have h1 : L[i]? = some (s.data.toList, L[i].2) := by rw [List.getElem?_eq_getElem hlt, ← he]
        refine ⟨i, rfl, belAlloc hB _, Or.inr ⟨i, L[i].2, rfl, h1, ?_⟩⟩
        exact getE_first h1 hno
      · have d0 : (L[i].1 == s.toList) = false := by rw [ByteArray.toList_eq]; simpa using he
        go_wp2_with fail
        go_roundw
        case rel =>
          refine ⟨i + 1, by omega, by go_num, belAlloc hB _, fun p hp => ?_⟩
          rw [List.take_add_one, List.getElem?_eq_getElem hlt] at hp
          rcases List.mem_append.1 hp with hp | hp
          · exact hno p hp
          · obtain rfl : p = L[i] := by simpa using hp
            exact he
        case measure => simp [intOf]; omega
    · obtain rfl : i = L.length := by omega
      go_wp2_with fail
      go_ret
      exact ⟨-1, rfl, hB, Or.inl ⟨rfl, getE_none (fun p hp => hno p (by rw [List.take_length]; exact hp))⟩⟩
def zeroR : Value := .agg #[.string ⟨#[]⟩, .string ⟨#[]⟩, .int .i64 0]
def fileV (s : ByteArray) : Option (List Int × Nat) → Value
  | none => zeroR
  | some u => .agg #[.string s, .string (strOfNums u.1), .int .i64 (u.2 : Nat)]
theorem zeroSem (w : World) : (zeroValue 89).run Tryd.prog w = .ok zeroR w := by kernel_rfl
set_option maxRecDepth 100000 in
set_option maxHeartbeats 2000000 in
theorem Find_r (r : Nat) (v x1 x2 : Value) (L : List FEnt) (s : ByteArray) (w : World) (hr : w.heap[r]? = some (.cells #[v, x1, x2] 42 (0, 0))) (hv : SeesF w v L) (hn : L.length ≤ 1000000) :
    Calls Tryd.prog 46 #[ptr r, .string s] w fun e w' => e = .returned (.tuple #[fileV s (getE L s.data.toList), .bool (getE L s.data.toList).isSome]) ∧ Below w.heap.size w w' := by
  have hb0 := belNew w (.cells #[.string ⟨#[]⟩, .string ⟨#[]⟩, .int .i64 0] 89)
  have hr0 : (w.alloc (.cells #[.string ⟨#[]⟩, .string ⟨#[]⟩, .int .i64 0] 89)).heap[r]? = some (.cells #[v, x1, x2] 42 (0, 0)) := (hb0.block r (heap_lt hr)).trans hr
  have HF := Lib.hid (find_r r v x1 x2 L s _ hr0 (hv.below hb0) hn)
  obtain ⟨G, hG⟩ : ∃ G, G = getE L s.data.toList := ⟨_, rfl⟩
  rw [← hG] at HF ⊢
  clear hG
  have HV := Lib.hid hv
  have HB0 := Lib.hid hb0
  have HR := Lib.hid hr0
  clear hb0 hr0 hv hr
  go_enter Tryd.func46, Tryd.ntmps46
  go_wp2_with fail
  refine HF.out.mono ?_; rintro e w1 ⟨j, rfl, hb1, hj⟩
  have hB1 := HB0.out.trans (hb1.mono HB0.out.size)
  have hbk : w1.heap[w.heap.size]? = some (.cells #[.string ⟨#[]⟩, .string ⟨#[]⟩, .int .i64 0] 89 (0, 0)) := (hb1.block w.heap.size (by simp)).trans (heap_alloc_new w _)
  have k0 : w1.cell? ⟨w.heap.size, 0, none⟩ = some (.string ⟨#[]⟩) := by simp [World.cell?, hbk]
  have k1 : w1.cell? ⟨w.heap.size, 1, none⟩ = some (.string ⟨#[]⟩) := by simp [World.cell?, hbk]
  have k2 : w1.cell? ⟨w.heap.size, 2, none⟩ = some (.int .i64 0) := by simp [World.cell?, hbk]
  have f0 : w1.frozen? ⟨w.heap.size, 0, none⟩ = false := by simp [World.frozen?, hbk]
  have f1 : w1.frozen? ⟨w.heap.size, 1, none⟩ = false := by simp [World.frozen?, hbk]
  have f2 : w1.frozen? ⟨w.heap.size, 2, none⟩ = false := by simp [World.frozen?, hbk]
  have HK := Lib.hid hbk
  have HB1 := Lib.hid hB1
  have HR1 := Lib.hid ((hb1.block r (heap_lt HR.out)).trans HR.out)
  clear hbk hB1
  rcases hj with ⟨rfl, hg⟩ | ⟨i, u, rfl, hi, hg⟩
  · subst hg
    clear hb1
    have hz := zeroSem
    unfold zeroR at hz
    go_wp2_with fail
    have hs1 := dset HK.out 0 (.string ⟨#[]⟩)
    have hs2 := dset hs1 1 (.string ⟨#[]⟩)
    have hs3 := dset hs2 2 (.int .i64 0)
    refine bodyPost_ret (v := .tuple #[zeroR, .bool false]) (by simp [results, Tryd.results46, go_sem, World.cell?, hs3, zeroR]) rfl ⟨rfl, ?_⟩
    exact ((HB1.out.setCell (p := ⟨w.heap.size, 0, none⟩) (by simp) _).setCell (p := ⟨w.heap.size, 1, none⟩) (by simp) _).setCell (p := ⟨w.heap.size, 2, none⟩) (by simp) _
  · subst hg
    have hlt : i < L.length := (List.getElem?_eq_some_iff.1 hi).1
    obtain ⟨ao, c, rfl, hlc, hnil, hc⟩ := HV.out.below HB1.out
    obtain ⟨a, rfl⟩ : ∃ a, ao = some a := by
      cases ao with
      | none => rw [hnil rfl] at hlt; simp at hlt
      | some a => exact ⟨a, rfl⟩
    obtain ⟨gg, rfl, hgl, hcs⟩ := hc a rfl
    obtain ⟨q0, q1, q2⟩ := hcs i _ hi
    simp only [] at q0 q1 q2
    have c0 : w1.cell? ⟨r, 0, none⟩ = some (.slice (some ⟨gg, 0, none⟩) L.length c) := by simp [World.cell?, HR1.out]
    have b0 : (0 : Int) ≤ (i : Int) := by omega
    have b1 : (i : Int) < (L.length : Int) := by omega
    have d0 : decide ((i : Int) < 0) = false := by simp
    clear hcs hc hnil hi hb1
    go_wp2_with fail
    have hs1 := dset HK.out 0 (.string ⟨s.data.toList.toArray⟩)
    have hs2 := dset hs1 1 (.string (strOfNums u.1))
    have hs3 := dset hs2 2 (.int .i64 (u.2 : Nat))
    refine bodyPost_ret (v := .tuple #[fileV s (some u), .bool true]) (by simp [results, Tryd.results46, go_sem, World.cell?, hs3, fileV]) rfl ⟨rfl, ?_⟩
    exact ((HB1.out.setCell (p := ⟨w.heap.size, 0, none⟩) (by simp) _).setCell (p := ⟨w.heap.size, 1, none⟩) (by simp) _).setCell (p := ⟨w.heap.size, 2, none⟩) (by simp) _
end Go.Proofs.YtkjdfelmjanpcaaDoor
