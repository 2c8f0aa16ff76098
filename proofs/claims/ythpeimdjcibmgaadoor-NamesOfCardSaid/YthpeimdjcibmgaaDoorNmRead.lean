/- Package names: a net, a block, read out of a key; the chapter's example. -/
import Derived.Test.YthpeimdjcibmgaaDoorNmKeys
namespace Go.Proofs.YthpeimdjcibmgaaDoor
open Go.RowKit Go.Maps
/-- The net that stands so in a key. -/
def rnet (l : List UInt8) : Option (Int × Int) := match netOf (repl 45 47 l) with
  | some p => if keyTxt p.1 p.2 = l then some p else none
  | none => none
def rnetV (o : Option (Int × Int)) : Value := match o with
  | some p => .tuple #[.agg #[.int .u32 p.1, .int .i64 p.2], .bool true]
  | none => .tuple #[.agg #[.int .u32 0, .int .i64 0], .bool false]
theorem netOf_bd {l : List UInt8} {p : Int × Int} (h : netOf l = some p) : 0 ≤ p.1 ∧ p.1 < 4294967296 := by
  unfold netOf at h
  cases hi : ipOf (cutS l).1 with
  | none => rw [hi] at h; cases h
  | some a =>
    rw [hi] at h
    simp only [] at h
    split at h
    · obtain rfl := Option.some.inj h
      exact ipOf_bd hi
    · cases h
theorem netc {w : World} {g : Nat} {a b : Int} {t : TypeId} (h : w.heap[g]? = some (.cells #[.int .u32 a, .int .i64 b] t (0, 0))) : w.cell? ⟨g, 0, none⟩ = some (.int .u32 a) ∧ w.cell? ⟨g, 1, none⟩ = some (.int .i64 b) ∧ w.frozen? ⟨g, 0, none⟩ = false ∧ w.frozen? ⟨g, 1, none⟩ = false := by simp [World.cell?, World.frozen?, h]
theorem net_set {w : World} {g : Nat} {a b : Int} {t : TypeId} (h : w.heap[g]? = some (.cells #[.int .u32 a, .int .i64 b] t (0, 0))) (x y : Int) : ((w.setCell ⟨g, 0, none⟩ (.int .u32 x)).setCell ⟨g, 1, none⟩ (.int .i64 y)).heap[g]? = some (.cells #[.int .u32 x, .int .i64 y] t (0, 0)) := by
  have h1 : (w.setCell ⟨g, 0, none⟩ (.int .u32 x)).heap[g]? = some (.cells #[.int .u32 x, .int .i64 b] t (0, 0)) := by simp [World.setCell, Array.getElem?_modify, h]
  simp [World.setCell, Array.getElem?_modify] at h1 ⊢
  simp [h]
theorem heap_lt {w : World} {g : Nat} {o : Obj} (h : w.heap[g]? = some o) : g < w.heap.size := (Array.getElem?_eq_some_iff.1 h).1
set_option maxRecDepth 100000 in
set_option maxHeartbeats 4000000 in
theorem readNet_any (s : ByteArray) (w : World) (hE : Env w) (hs : s.size ≤ 900) :
    Calls Tryd.prog 30 #[.string s] w fun e w' => e = .returned (rnetV (rnet s.data.toList)) ∧ Below w.heap.size w w' := by
  obtain ⟨W, hW⟩ : ∃ W, W = w.alloc (.cells #[.int .u32 0, .int .i64 0] 28) := ⟨_, rfl⟩
  have hb0 : Below w.heap.size w W := by rw [hW]; exact belNew _ _
  have hA : W.heap[w.heap.size]? = some (.cells #[.int .u32 0, .int .i64 0] 28 (0, 0)) := by rw [hW]; exact heap_alloc_new w _
  have HR := Lib.hid (replace1_any s 45 47 (by decide) W (hE.below hb0) (by omega))
  have hlen : (⟨(repl 45 47 s.data.toList).toArray⟩ : ByteArray).size ≤ 900 := by
    have h0 : s.data.toList.length = s.size := rfl
    rw [size_mk, repl_len, h0]
    omega
  have HP : Hid (∀ w', Below W.heap.size W w' → Calls Tryd.prog 45 #[.string ⟨(repl 45 47 s.data.toList).toArray⟩] w' fun e w'' => e = .returned (netVal (netOf (repl 45 47 s.data.toList))) ∧ Below w'.heap.size w' w'') := Lib.hid (fun w' hb => netParse_any _ w' (hE.below (hb0.trans (hb.mono hb0.size))) hlen)
  have HW := Lib.hid hW
  have HA := Lib.hid (And.intro hb0 hA)
  have HRN : Hid (rnet s.data.toList = match netOf (repl 45 47 s.data.toList) with | some p => if keyTxt p.1 p.2 = s.data.toList then some p else none | none => none) := Lib.hid rfl
  have HBD : Hid (∀ p, netOf (repl 45 47 s.data.toList) = some p → 0 ≤ p.1 ∧ p.1 < 4294967296) := Lib.hid (fun p h => netOf_bd h)
  have HEN := Lib.hid hE
  clear hW hb0 hA hlen hE hs
  generalize rnet s.data.toList = RN at HRN ⊢
  generalize repl 45 47 s.data.toList = t at HR HP HRN HBD
  cases hn : netOf t with
  | none =>
    rw [hn] at HP HRN
    have HX := Lib.hid HRN.out
    have hz := HA.out.2
    clear hn
    go_enter Tryd.func30, Tryd.ntmps30
    go_upto_region 1 with fail
    change Code.wp _ _ _ _ (w.alloc (.cells #[.int .u32 0, .int .i64 0] 28))
    rw [← HW.out]
    simp only [netVal] at HP
    go_upto_region 2 with (first
      | (go_at_call 39; refine HR.out.mono ?_; rintro e w1 ⟨rfl, hb1⟩)
      | (go_at_call 45; refine (HP.out w1 hb1).mono ?_; rintro e w2 ⟨rfl, hb2⟩)
      | go_in)
    have hbb := belAlloc (bel hb1 hb2) (.cells #[.int .u32 0, .int .i64 0] 28)
    have hz2 := (hbb.block _ (heap_lt HA.out.2)).trans HA.out.2
    obtain ⟨c0, c1, f0, f1⟩ := netc hz2
    have HE := Lib.hid (net_set hz2 0 0)
    have HBl := Lib.hid (HA.out.1.trans (hbb.mono HA.out.1.size))
    clear hb1 hb2 hbb hz2 hz
    go_wp2_with fail
    have hE := HE.out
    refine bodyPost_ret (v := .tuple #[.agg #[.int .u32 0, .int .i64 0], .bool false]) (by simp [results, Tryd.results30, go_sem, World.cell?, hE]) rfl ⟨by rw [HX.out]; rfl, (HBl.out.setCell (p := ⟨w.heap.size, 0, none⟩) (Nat.le_refl _) _).setCell (p := ⟨w.heap.size, 1, none⟩) (Nat.le_refl _) _⟩
  | some p =>
    obtain ⟨a, b⟩ := p
    have hbd := HBD.out (a, b) hn
    rw [hn] at HP HRN
    simp only [netVal] at HP
    have HPN : Hid (∀ w', Below w.heap.size w w' → Calls Tryd.prog 26 #[.agg #[.int .u32 a, .int .i64 b]] w' fun e w'' => e = .returned (.string ⟨(keyTxt a b).toArray⟩) ∧ Below w'.heap.size w' w'') := Lib.hid (fun w' hb => putNet_any a b hbd.1 hbd.2 w' (HEN.out.below hb))
    have hkb : (keyTxt a b == s.toList) = decide (keyTxt a b = s.data.toList) := by
      rw [ByteArray.toList_eq]
      by_cases h : keyTxt a b = s.data.toList
      · rw [decide_eq_true h, h]; simp
      · rw [decide_eq_false h]; simpa using h
    clear hn hbd
    by_cases hk : keyTxt a b = s.data.toList
    · have HX : Hid (RN = some (a, b)) := Lib.hid (by rw [HRN.out]; exact if_pos hk)
      rw [decide_eq_true hk] at hkb
      have hkb2 : (keyTxt a b != s.toList) = false := by rw [bne, hkb]; rfl
      clear hk
      go_enter Tryd.func30, Tryd.ntmps30
      go_upto_region 1 with fail
      change Code.wp _ _ _ _ (w.alloc (.cells #[.int .u32 0, .int .i64 0] 28))
      rw [← HW.out]
      go_upto_region 2 with (first
        | (go_at_call 39; refine HR.out.mono ?_; rintro e w1 ⟨rfl, hb1⟩)
        | (go_at_call 45; refine (HP.out w1 hb1).mono ?_; rintro e w2 ⟨rfl, hb2⟩)
        | go_in)
      have hx2 := heap_alloc_new w2 (.cells #[.int .u32 a, .int .i64 b] 28)
      obtain ⟨w3, hw3⟩ : ∃ w3, w3 = w2.alloc (.cells #[.int .u32 a, .int .i64 b] 28) := ⟨_, rfl⟩
      have hbb : Below W.heap.size W w3 := by rw [hw3]; exact belAlloc (bel hb1 hb2) _
      rw [← hw3] at hx2
      try rw [← hw3]
      change Code.wp _ _ _ _ w3
      clear hw3
      obtain ⟨x0, x1, -, -⟩ := netc hx2
      go_wp2_with (first
        | (go_at_call 26; refine (HPN.out w3 (HA.out.1.trans (hbb.mono HA.out.1.size))).mono ?_; rintro e w4 ⟨rfl, hb4⟩; have hx4 := (hb4.block _ (heap_lt hx2)).trans hx2; obtain ⟨x0, x1, -, -⟩ := netc hx4; have hz4 := ((bel hbb hb4).block _ (heap_lt HA.out.2)).trans HA.out.2; obtain ⟨c0, c1, f0, f1⟩ := netc hz4)
        | go_in)
      have hE := net_set hz4 a b
      refine bodyPost_ret (v := .tuple #[.agg #[.int .u32 a, .int .i64 b], .bool true]) (by simp [results, Tryd.results30, go_sem, World.cell?, hE]) rfl ⟨by rw [HX.out]; rfl, ((HA.out.1.trans ((bel hbb hb4).mono HA.out.1.size)).setCell (p := ⟨w.heap.size, 0, none⟩) (Nat.le_refl _) _).setCell (p := ⟨w.heap.size, 1, none⟩) (Nat.le_refl _) _⟩
    · have HX : Hid (RN = none) := Lib.hid (by rw [HRN.out]; exact if_neg hk)
      rw [decide_eq_false hk] at hkb
      have hkb2 : (keyTxt a b != s.toList) = true := by rw [bne, hkb]; rfl
      clear hk
      go_enter Tryd.func30, Tryd.ntmps30
      go_upto_region 1 with fail
      change Code.wp _ _ _ _ (w.alloc (.cells #[.int .u32 0, .int .i64 0] 28))
      rw [← HW.out]
      go_upto_region 2 with (first
        | (go_at_call 39; refine HR.out.mono ?_; rintro e w1 ⟨rfl, hb1⟩)
        | (go_at_call 45; refine (HP.out w1 hb1).mono ?_; rintro e w2 ⟨rfl, hb2⟩)
        | go_in)
      have hx2 := heap_alloc_new w2 (.cells #[.int .u32 a, .int .i64 b] 28)
      obtain ⟨w3, hw3⟩ : ∃ w3, w3 = w2.alloc (.cells #[.int .u32 a, .int .i64 b] 28) := ⟨_, rfl⟩
      have hbb : Below W.heap.size W w3 := by rw [hw3]; exact belAlloc (bel hb1 hb2) _
      rw [← hw3] at hx2
      try rw [← hw3]
      change Code.wp _ _ _ _ w3
      clear hw3
      obtain ⟨x0, x1, -, -⟩ := netc hx2
      go_wp2_with (first
        | (go_at_call 26; refine (HPN.out w3 (HA.out.1.trans (hbb.mono HA.out.1.size))).mono ?_; rintro e w4 ⟨rfl, hb4⟩; have hz4 := ((bel hbb hb4).block _ (heap_lt HA.out.2)).trans HA.out.2; obtain ⟨c0, c1, f0, f1⟩ := netc hz4)
        | go_in)
      have hE := net_set hz4 0 0
      refine bodyPost_ret (v := .tuple #[.agg #[.int .u32 0, .int .i64 0], .bool false]) (by simp [results, Tryd.results30, go_sem, World.cell?, hE]) rfl ⟨by rw [HX.out]; rfl, ((HA.out.1.trans ((bel hbb hb4).mono HA.out.1.size)).setCell (p := ⟨w.heap.size, 0, none⟩) (Nat.le_refl _) _).setCell (p := ⟨w.heap.size, 1, none⟩) (Nat.le_refl _) _⟩
end Go.Proofs.YthpeimdjcibmgaaDoor
