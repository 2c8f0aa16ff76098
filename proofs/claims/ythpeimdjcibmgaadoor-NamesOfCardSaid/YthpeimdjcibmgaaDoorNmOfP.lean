/- Package names: the pool that a key is of. -/
import Derived.Test.YthpeimdjcibmgaaDoorNmOfA
namespace Go.Proofs.YthpeimdjcibmgaaDoor
open Go.RowKit Go.Maps
def poolV (S : Bool) (R : Option (Int × Int)) : Value := match R with
  | some p => if S && decide (p.2 ≤ 26) then .tuple #[.agg #[.int .u32 p.1, .int .i64 p.2], .bool true] else .tuple #[.agg #[.int .u32 0, .int .i64 0], .bool false]
  | none => .tuple #[.agg #[.int .u32 0, .int .i64 0], .bool false]
set_option maxRecDepth 100000 in
set_option maxHeartbeats 4000000 in
theorem ofPool_any (s : ByteArray) (w : World) (hE : Env w) (hs : s.size ≤ 900) :
    Calls Tryd.prog 9 #[.string s] w fun e w' => e = .returned (poolV (starts s pPool) (rnet (rest s pPool).data.toList)) ∧ Below w.heap.size w w' := by
  obtain ⟨W, hW⟩ : ∃ W, W = w.alloc (.cells #[.int .u32 0, .int .i64 0] 28) := ⟨_, rfl⟩
  have hb0 : Below w.heap.size w W := by rw [hW]; exact belNew _ _
  have hA : W.heap[w.heap.size]? = some (.cells #[.int .u32 0, .int .i64 0] 28 (0, 0)) := by rw [hW]; exact heap_alloc_new w _
  have HC := Lib.hid (Tryd.strings_CutPrefix s pPool W)
  have hr : (⟨(Lib.trimPrefix s.data.toList pPool.data.toList).toArray⟩ : ByteArray) = rest s pPool := rfl
  rw [hr] at HC
  have hsz : (rest s pPool).size ≤ 900 := Nat.le_trans (rest_size s pPool) hs
  have hz : (Lib.hasPrefix s.data.toList pPool.data.toList) = starts s pPool := rfl
  rw [hz] at HC
  clear hr hz hs
  generalize starts s pPool = S at *
  generalize rest s pPool = r at *
  have HN := Lib.hid (readNet_any r W (hE.below hb0) hsz)
  have HW := Lib.hid hW
  have HA := Lib.hid (And.intro hb0 hA)
  clear hW hb0 hA hE hsz
  generalize rnet r.data.toList = R at *
  cases R with
  | none =>
    simp only [rnetV] at HN
    simp only [poolV]
    cases S with
    | false =>
      go_enter Tryd.func9, Tryd.ntmps9
      go_upto_region 1 with fail
      change Code.wp _ _ _ _ (w.alloc (.cells #[.int .u32 0, .int .i64 0] 28))
      rw [← HW.out]
      go_upto_region 2 with (first
        | (go_at_call 29; refine HC.out.mono ?_; rintro e w1 ⟨rfl, rfl⟩)
        | go_in)
      go_upto_region 3 with (first
        | (go_at_call 30; refine HN.out.mono ?_; rintro e w2 ⟨rfl, hb2⟩)
        | go_in)
      have hbb := belAlloc hb2 (.cells #[.int .u32 0, .int .i64 0] 28)
      have hx := heap_alloc_new w2 (.cells #[.int .u32 0, .int .i64 0] 28)
      obtain ⟨w3, hw3⟩ : ∃ w3, w3 = w2.alloc (.cells #[.int .u32 0, .int .i64 0] 28) := ⟨_, rfl⟩
      rw [← hw3] at hbb hx
      try rw [← hw3]
      change Code.wp _ _ _ _ w3
      clear hw3
      obtain ⟨x0, x1, -, -⟩ := netc hx
      have hz2 := (hbb.block _ (heap_lt HA.out.2)).trans HA.out.2
      obtain ⟨c0, c1, f0, f1⟩ := netc hz2
      have HE := Lib.hid (net_set hz2 0 0)
      have HBl := Lib.hid (HA.out.1.trans (hbb.mono HA.out.1.size))
      clear hbb hz2 hx hb2
      go_wp2_with fail
      have hE := HE.out
      refine bodyPost_ret (v := .tuple #[.agg #[.int .u32 0, .int .i64 0], .bool false]) (by simp [results, Tryd.results9, go_sem, World.cell?, hE]) rfl ⟨rfl, (HBl.out.setCell (p := ⟨w.heap.size, 0, none⟩) (Nat.le_refl _) _).setCell (p := ⟨w.heap.size, 1, none⟩) (Nat.le_refl _) _⟩
    | true =>
      go_enter Tryd.func9, Tryd.ntmps9
      go_upto_region 1 with fail
      change Code.wp _ _ _ _ (w.alloc (.cells #[.int .u32 0, .int .i64 0] 28))
      rw [← HW.out]
      go_upto_region 2 with (first
        | (go_at_call 29; refine HC.out.mono ?_; rintro e w1 ⟨rfl, rfl⟩)
        | go_in)
      go_upto_region 3 with (first
        | (go_at_call 30; refine HN.out.mono ?_; rintro e w2 ⟨rfl, hb2⟩)
        | go_in)
      have hbb := belAlloc hb2 (.cells #[.int .u32 0, .int .i64 0] 28)
      have hx := heap_alloc_new w2 (.cells #[.int .u32 0, .int .i64 0] 28)
      obtain ⟨w3, hw3⟩ : ∃ w3, w3 = w2.alloc (.cells #[.int .u32 0, .int .i64 0] 28) := ⟨_, rfl⟩
      rw [← hw3] at hbb hx
      try rw [← hw3]
      change Code.wp _ _ _ _ w3
      clear hw3
      obtain ⟨x0, x1, -, -⟩ := netc hx
      have hz2 := (hbb.block _ (heap_lt HA.out.2)).trans HA.out.2
      obtain ⟨c0, c1, f0, f1⟩ := netc hz2
      have HE := Lib.hid (net_set hz2 0 0)
      have HBl := Lib.hid (HA.out.1.trans (hbb.mono HA.out.1.size))
      clear hbb hz2 hx hb2
      go_wp2_with fail
      have hE := HE.out
      refine bodyPost_ret (v := .tuple #[.agg #[.int .u32 0, .int .i64 0], .bool false]) (by simp [results, Tryd.results9, go_sem, World.cell?, hE]) rfl ⟨rfl, (HBl.out.setCell (p := ⟨w.heap.size, 0, none⟩) (Nat.le_refl _) _).setCell (p := ⟨w.heap.size, 1, none⟩) (Nat.le_refl _) _⟩
  | some p =>
    obtain ⟨a, b⟩ := p
    simp only [rnetV] at HN
    simp only [poolV]
    cases S with
    | false =>
      go_enter Tryd.func9, Tryd.ntmps9
      go_upto_region 1 with fail
      change Code.wp _ _ _ _ (w.alloc (.cells #[.int .u32 0, .int .i64 0] 28))
      rw [← HW.out]
      go_upto_region 2 with (first
        | (go_at_call 29; refine HC.out.mono ?_; rintro e w1 ⟨rfl, rfl⟩)
        | go_in)
      go_upto_region 3 with (first
        | (go_at_call 30; refine HN.out.mono ?_; rintro e w2 ⟨rfl, hb2⟩)
        | go_in)
      have hbb := belAlloc hb2 (.cells #[.int .u32 a, .int .i64 b] 28)
      have hx := heap_alloc_new w2 (.cells #[.int .u32 a, .int .i64 b] 28)
      obtain ⟨w3, hw3⟩ : ∃ w3, w3 = w2.alloc (.cells #[.int .u32 a, .int .i64 b] 28) := ⟨_, rfl⟩
      rw [← hw3] at hbb hx
      try rw [← hw3]
      change Code.wp _ _ _ _ w3
      clear hw3
      obtain ⟨x0, x1, -, -⟩ := netc hx
      have hz2 := (hbb.block _ (heap_lt HA.out.2)).trans HA.out.2
      obtain ⟨c0, c1, f0, f1⟩ := netc hz2
      have HE := Lib.hid (net_set hz2 0 0)
      have HBl := Lib.hid (HA.out.1.trans (hbb.mono HA.out.1.size))
      clear hbb hz2 hx hb2
      go_wp2_with fail
      have hE := HE.out
      refine bodyPost_ret (v := .tuple #[.agg #[.int .u32 0, .int .i64 0], .bool false]) (by simp [results, Tryd.results9, go_sem, World.cell?, hE]) rfl ⟨rfl, (HBl.out.setCell (p := ⟨w.heap.size, 0, none⟩) (Nat.le_refl _) _).setCell (p := ⟨w.heap.size, 1, none⟩) (Nat.le_refl _) _⟩
    | true =>
      by_cases hb26 : b ≤ 26
      · have hd : decide (b ≤ 26) = true := decide_eq_true hb26
        have hd2 : decide (26 < b) = false := decide_eq_false (by omega)
        have q : ¬ 26 < b := by omega
        rw [hd]
        go_enter Tryd.func9, Tryd.ntmps9
        go_upto_region 1 with fail
        change Code.wp _ _ _ _ (w.alloc (.cells #[.int .u32 0, .int .i64 0] 28))
        rw [← HW.out]
        go_upto_region 2 with (first
          | (go_at_call 29; refine HC.out.mono ?_; rintro e w1 ⟨rfl, rfl⟩)
          | go_in)
        go_upto_region 3 with (first
          | (go_at_call 30; refine HN.out.mono ?_; rintro e w2 ⟨rfl, hb2⟩)
          | go_in)
        have hbb := belAlloc hb2 (.cells #[.int .u32 a, .int .i64 b] 28)
        have hx := heap_alloc_new w2 (.cells #[.int .u32 a, .int .i64 b] 28)
        obtain ⟨w3, hw3⟩ : ∃ w3, w3 = w2.alloc (.cells #[.int .u32 a, .int .i64 b] 28) := ⟨_, rfl⟩
        rw [← hw3] at hbb hx
        try rw [← hw3]
        change Code.wp _ _ _ _ w3
        clear hw3
        obtain ⟨x0, x1, -, -⟩ := netc hx
        have hz2 := (hbb.block _ (heap_lt HA.out.2)).trans HA.out.2
        obtain ⟨c0, c1, f0, f1⟩ := netc hz2
        have HE := Lib.hid (net_set hz2 a b)
        have HBl := Lib.hid (HA.out.1.trans (hbb.mono HA.out.1.size))
        clear hbb hz2 hx hb2
        go_wp2_with fail
        have hE := HE.out
        refine bodyPost_ret (v := .tuple #[.agg #[.int .u32 a, .int .i64 b], .bool true]) (by simp [results, Tryd.results9, go_sem, World.cell?, hE]) rfl ⟨rfl, (HBl.out.setCell (p := ⟨w.heap.size, 0, none⟩) (Nat.le_refl _) _).setCell (p := ⟨w.heap.size, 1, none⟩) (Nat.le_refl _) _⟩
      · have hd : decide (b ≤ 26) = false := decide_eq_false hb26
        have hd2 : decide (26 < b) = true := decide_eq_true (by omega)
        have q : 26 < b := by omega
        rw [hd]
        go_enter Tryd.func9, Tryd.ntmps9
        go_upto_region 1 with fail
        change Code.wp _ _ _ _ (w.alloc (.cells #[.int .u32 0, .int .i64 0] 28))
        rw [← HW.out]
        go_upto_region 2 with (first
          | (go_at_call 29; refine HC.out.mono ?_; rintro e w1 ⟨rfl, rfl⟩)
          | go_in)
        go_upto_region 3 with (first
          | (go_at_call 30; refine HN.out.mono ?_; rintro e w2 ⟨rfl, hb2⟩)
          | go_in)
        have hbb := belAlloc hb2 (.cells #[.int .u32 a, .int .i64 b] 28)
        have hx := heap_alloc_new w2 (.cells #[.int .u32 a, .int .i64 b] 28)
        obtain ⟨w3, hw3⟩ : ∃ w3, w3 = w2.alloc (.cells #[.int .u32 a, .int .i64 b] 28) := ⟨_, rfl⟩
        rw [← hw3] at hbb hx
        try rw [← hw3]
        change Code.wp _ _ _ _ w3
        clear hw3
        obtain ⟨x0, x1, -, -⟩ := netc hx
        have hz2 := (hbb.block _ (heap_lt HA.out.2)).trans HA.out.2
        obtain ⟨c0, c1, f0, f1⟩ := netc hz2
        have HE := Lib.hid (net_set hz2 0 0)
        have HBl := Lib.hid (HA.out.1.trans (hbb.mono HA.out.1.size))
        clear hbb hz2 hx hb2
        go_wp2_with fail
        have hE := HE.out
        refine bodyPost_ret (v := .tuple #[.agg #[.int .u32 0, .int .i64 0], .bool false]) (by simp [results, Tryd.results9, go_sem, World.cell?, hE]) rfl ⟨rfl, (HBl.out.setCell (p := ⟨w.heap.size, 0, none⟩) (Nat.le_refl _) _).setCell (p := ⟨w.heap.size, 1, none⟩) (Nat.le_refl _) _⟩
end Go.Proofs.YthpeimdjcibmgaaDoor
