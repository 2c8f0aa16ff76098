/- The document's state: key, Find, Stands, Begin. -/
import Derived.Test.YtholgmcfgnifdaaKvInv
import Derived.Test.YtholgmcfgnifdaaKvListsW
namespace Go.Proofs.Ytholgmcfgnifdaa
open Go.RowKit Go.Maps
abbrev stO (R : Int) (v : Value) : Obj := .cells #[.int .i64 R, v] 57
abbrev stV (R : Int) (v : Value) : Value := .agg #[.int .i64 R, v]
abbrev itRO (a b : ByteArray) (r : Int) : Obj := .cells #[.string a, .string b, .int .i64 r] 89
abbrev gotV (L : List KEnt) (k : ByteArray) : Value := .agg #[.string (gotU L k).1, .string (gotU L k).2.1, .int .i64 (gotU L k).2.2]
theorem two_new (w : World) (A B : Obj) : ∃ W, W = (w.alloc A).alloc B ∧ Below w.heap.size w W ∧ W.heap.size = w.heap.size + 2 ∧ W.heap[w.heap.size]? = some A ∧ W.heap[w.heap.size + 1]? = some B := by
  refine ⟨_, rfl, belAlloc (belNew w A) B, by simp, ?_, ?_⟩
  · rw [Below.heap_alloc _ _ _ (by simp)]; exact heap_alloc_new w A
  · simpa using heap_alloc_new (w.alloc A) B
theorem fill3 {W : World} {g : Nat} {a b c : Value} {t : TypeId} (h : W.heap[g]? = some (.cells #[a, b, c] t (0, 0))) (x y z : Value) : (((W.setCell ⟨g, 0, none⟩ x).setCell ⟨g, 1, none⟩ y).setCell ⟨g, 2, none⟩ z).heap[g]? = some (.cells #[x, y, z] t (0, 0)) := by
  have h3 := dset (dset (dset h 0 x) 1 y) 2 z
  simpa using h3
theorem fill3_below {n : Nat} {w W : World} (hb : Below n w W) {g : Nat} (hg : n ≤ g) (x y z : Value) : Below n w (((W.setCell ⟨g, 0, none⟩ x).setCell ⟨g, 1, none⟩ y).setCell ⟨g, 2, none⟩ z) :=
  ((hb.setCell hg _).setCell hg _).setCell hg _
theorem key9_any (s : ByteArray) (hs : s.size ≤ maxLen) (w : World) : Calls Try.prog 37 #[.string s] w fun e w' => e = .returned (.bool (mayK s)) ∧ w = w' := by
  have hsz0 : (0 : Int) ≤ (s.size : Int) := by omega
  have hsz1 : (s.size : Int) ≤ 9223372036854775807 := by unfold maxLen at hs; omega
  by_cases h1 : 1 ≤ s.size
  · have d1 : decide (1 ≤ (s.size : Int)) = true := by simp; omega
    by_cases h2 : s.size ≤ 128
    · have d2 : decide ((s.size : Int) ≤ 128) = true := by simp; omega
      have HV : Hid (true = mayK s) := Lib.hid (by unfold mayK; simp; omega)
      go_enter Try.func37, Try.ntmps37
      go_wp2
      go_ret
      exact ⟨congrArg (fun b : Bool => Ending.returned (.bool b)) HV.out, rfl⟩
    · have d2 : decide ((s.size : Int) ≤ 128) = false := by simp; omega
      have HV : Hid (false = mayK s) := Lib.hid (by unfold mayK; simp; omega)
      go_enter Try.func37, Try.ntmps37
      go_wp2
      go_ret
      exact ⟨congrArg (fun b : Bool => Ending.returned (.bool b)) HV.out, rfl⟩
  · have d1 : decide (1 ≤ (s.size : Int)) = false := by simp; omega
    have HV : Hid (false = mayK s) := Lib.hid (by unfold mayK; simp; omega)
    go_enter Try.func37, Try.ntmps37
    go_wp2
    go_ret
    exact ⟨congrArg (fun b : Bool => Ending.returned (.bool b)) HV.out, rfl⟩
theorem keyEq (a : List UInt8) (k : ByteArray) : (a == k.toList) = decide (a = kl k) := by
  rw [ByteArray.toList_eq]
  by_cases h : a = kl k
  · rw [decide_eq_true h, h]; simp
  · rw [decide_eq_false h]; simpa using h
theorem getE_skip {L : List KEnt} {k : List UInt8} {i : Nat} {p : KEnt} (h : ∀ q ∈ L.take i, q.1 ≠ k) (hp : L[i]? = some p) (he : p.1 = k) : getE L k = some p.2 := by
  have hs : L = L.take i ++ L.drop i := (List.take_append_drop i L).symm
  have hd : L.drop i = p :: L.drop (i + 1) := by
    obtain ⟨hlt, hx⟩ := List.getElem?_eq_some_iff.1 hp
    rw [List.drop_eq_getElem_cons hlt, hx]
  unfold getE
  rw [hs, List.find?_append, List.find?_eq_none.2 (fun q hq => by simpa using h q hq), hd, List.find?_cons_of_pos (by simpa using he)]
  rfl
theorem getE_none {L : List KEnt} {k : List UInt8} (h : ∀ q ∈ L, q.1 ≠ k) : getE L k = none := by
  unfold getE
  rw [List.find?_eq_none.2 (fun q hq => by simpa using h q hq)]
  rfl
set_option maxRecDepth 100000 in
set_option maxHeartbeats 4000000 in
theorem refFind_any (v : Value) (L : List KEnt) (R : Int) (k : ByteArray) (w : World) (h : SeesI w v L) (hl : L.length ≤ maxLen) :
    Calls Try.prog 35 #[stV R v, .string k] w fun e w' => e = .returned (.tuple #[gotV L k, .bool (there L k)]) ∧ Below w.heap.size w w' := by
  obtain ⟨W, hW, hb, hz, hA, hB⟩ := two_new w (stO R v) (itRO emp emp 0)
  obtain ⟨ao, c, rfl, hlc, hnil, hc⟩ := h.below hb
  have hl2 : L.length ≤ 9223372036854775807 := by unfold maxLen at hl; omega
  have HW := Lib.hid hW
  have HC := Lib.hid (And.intro hnil hc)
  have H0 := Lib.hid (And.intro hb (And.intro hz hB))
  have s0 := cell0 hA
  have s1 := cell1 hA
  clear hW hnil hc hb hz hA hB h
  go_enter Try.func35, Try.ntmps35
  go_upto_region 1 with fail
  change Code.wp _ _ _ _ ((w.alloc (stO R (.slice ao L.length c))).alloc (itRO emp emp 0))
  rw [← HW.out]
  go_wp2_with fail
  go_loopw [11] (fun j wr => ∃ i : Nat, i ≤ L.length ∧ j = .int .i64 i ∧ Aside (∀ q ∈ L.take i, q.1 ≠ kl k) ∧ Below W.heap.size W wr) (fun j _ => L.length - (intOf j).toNat)
  case atStart => exact ⟨0, Nat.zero_le _, rfl, fun q hq => by simp at hq, Below.refl _ _⟩
  case round =>
    obtain ⟨i, hi, rfl, hno, hBw⟩ := hrel
    by_cases hlt : i < L.length
    · obtain ⟨a, rfl⟩ : ∃ a, ao = some a := by
        cases ao with
        | none => rw [HC.out.1 rfl] at hlt; simp at hlt
        | some a => exact ⟨a, rfl⟩
      obtain ⟨q0, q1, q2⟩ := HC.out.2 a rfl i L[i] (List.getElem?_eq_getElem hlt)
      have q0 := bcell hBw q0
      have q1 := off1 (bcell hBw q1)
      have q2 := off2 (bcell hBw q2)
      have b0 : (0 : Int) ≤ (i : Int) := by omega
      have b1 : (i : Int) < (L.length : Int) := by omega
      have hgi : L[i]? = some L[i] := List.getElem?_eq_getElem hlt
      generalize L[i] = p at q0 q1 q2 hgi
      have hB1 := belAlloc hBw (itRO ⟨p.1.toArray⟩ p.2.1 p.2.2)
      by_cases he : p.1 = kl k
      · have e1 : (p.1 == k.toList) = true := by rw [keyEq]; simpa using he
        have hg := getE_skip hno.out hgi he
        have HG := Lib.hid (And.intro he hg)
        have hx4 := (hB1.block _ (heap_lt H0.out.2.2)).trans H0.out.2.2
        obtain ⟨t0, t1, t2⟩ := rcells hx4
        have f0 := rfroz hx4 0
        have f1 := rfroz hx4 1
        have f2 := rfroz hx4 2
        have HE := Lib.hid (fill3 hx4 (.string ⟨p.1.toArray⟩) (.string p.2.1) (.int .i64 p.2.2))
        have HBB := Lib.hid (fill3_below (H0.out.1.trans (hB1.mono H0.out.1.size)) (Nat.le_succ w.heap.size) (.string ⟨p.1.toArray⟩) (.string p.2.1) (.int .i64 p.2.2))
        clear hx4 he hg hB1 hgi hno
        go_wp2_with fail
        have hE := HE.out
        refine bodyPost_ret (v := .tuple #[.agg #[.string ⟨p.1.toArray⟩, .string p.2.1, .int .i64 p.2.2], .bool true]) (by simp [results, Try.results35, go_sem, World.cell?, hE]) rfl ⟨?_, HBB.out⟩
        unfold gotV gotU there
        rw [HG.out.2, HG.out.1, kl_str]
        rfl
      · have e1 : (p.1 == k.toList) = false := by rw [keyEq]; simpa using he
        have HN : Hid (∀ q ∈ L.take (i + 1), q.1 ≠ kl k) := Lib.hid (fun q hq => by
          rw [List.take_add_one, hgi] at hq
          rcases List.mem_append.1 hq with hq | hq
          · exact hno.out q hq
          · simp at hq; subst hq; exact he)
        have HB1 := Lib.hid hB1
        clear he hB1 hgi hno
        go_wp2_with fail
        go_roundw
        case rel => exact ⟨i + 1, by omega, by go_num, HN.out, HB1.out⟩
        case measure => simp [intOf]; omega
    · obtain rfl : i = L.length := by omega
      have hn := hno.out
      rw [List.take_length] at hn
      have HG := Lib.hid (getE_none hn)
      have hx4 := (hBw.block _ (heap_lt H0.out.2.2)).trans H0.out.2.2
      obtain ⟨t0, t1, t2⟩ := rcells hx4
      have f0 := rfroz hx4 0
      have f1 := rfroz hx4 1
      have f2 := rfroz hx4 2
      have HE := Lib.hid (fill3 hx4 (.string emp) (.string emp) (.int .i64 0))
      have HBB := Lib.hid (fill3_below (H0.out.1.trans (hBw.mono H0.out.1.size)) (Nat.le_succ w.heap.size) (.string emp) (.string emp) (.int .i64 0))
      clear hx4 hn hno
      go_wp2_with fail
      have hE := HE.out
      refine bodyPost_ret (v := .tuple #[.agg #[.string emp, .string emp, .int .i64 0], .bool false]) (by simp [results, Try.results35, go_sem, World.cell?, hE]) rfl ⟨?_, HBB.out⟩
      unfold gotV gotU there
      rw [HG.out]
      rfl
end Go.Proofs.Ytholgmcfgnifdaa
