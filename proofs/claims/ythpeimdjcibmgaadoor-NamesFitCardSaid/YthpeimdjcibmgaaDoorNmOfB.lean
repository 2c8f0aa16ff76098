/- Package names: the block and the pool that a key is of. -/
import Derived.Test.YthpeimdjcibmgaaDoorNmOf
namespace Go.Proofs.YthpeimdjcibmgaaDoor
open Go.RowKit Go.Maps
def rblk (l : List UInt8) : Option Int := match rnet l with
  | some p => if p.2 = 26 then some p.1 else none
  | none => none
def rblkV (o : Option Int) : Value := match o with
  | some a => .tuple #[.int .u32 a, .bool true]
  | none => .tuple #[.int .u32 0, .bool false]
theorem readBlock_any (s : ByteArray) (w : World) (hE : Env w) (hs : s.size ≤ 900) :
    Calls Tryd.prog 31 #[.string s] w fun e w' => e = .returned (rblkV (rblk s.data.toList)) ∧ Below w.heap.size w w' := by
  have HN := Lib.hid (readNet_any s w hE hs)
  have HX : Hid (rblk s.data.toList = match rnet s.data.toList with | some p => if p.2 = 26 then some p.1 else none | none => none) := Lib.hid rfl
  clear hs hE
  generalize rblk s.data.toList = R at HX ⊢
  cases hn : rnet s.data.toList with
  | none =>
    rw [hn] at HN HX
    have hR := HX.out
    simp only [] at hR
    subst hR
    clear hn HX
    simp only [rnetV] at HN
    go_enter Tryd.func31, Tryd.ntmps31
    go_upto_region 2 with (first
      | (go_at_call 30; refine HN.out.mono ?_; rintro e w1 ⟨rfl, hb1⟩)
      | go_in)
    have hb := belAlloc hb1 (.cells #[.int .u32 0, .int .i64 0] 28)
    obtain ⟨w2, hw2⟩ : ∃ w2, w2 = w1.alloc (.cells #[.int .u32 0, .int .i64 0] 28) := ⟨_, rfl⟩
    rw [← hw2] at hb
    try rw [← hw2]
    change Code.wp _ _ _ _ w2
    clear hw2
    go_wp2_with fail
    refine bodyPost_ret (v := .tuple #[.int .u32 0, .bool false]) (by simp [results, Tryd.results31, go_sem]) rfl ⟨rfl, hb⟩
  | some p =>
    obtain ⟨a, b⟩ := p
    rw [hn] at HN HX
    have hR := HX.out
    simp only [] at hR
    clear hn HX
    simp only [rnetV] at HN
    by_cases hb26 : b = 26
    · rw [if_pos hb26] at hR
      subst hR
      subst hb26
      go_enter Tryd.func31, Tryd.ntmps31
      go_upto_region 2 with (first
        | (go_at_call 30; refine HN.out.mono ?_; rintro e w1 ⟨rfl, hb1⟩)
        | go_in)
      have hb := belAlloc hb1 (.cells #[.int .u32 a, .int .i64 26] 28)
      have hx := heap_alloc_new w1 (.cells #[.int .u32 a, .int .i64 26] 28)
      obtain ⟨w2, hw2⟩ : ∃ w2, w2 = w1.alloc (.cells #[.int .u32 a, .int .i64 26] 28) := ⟨_, rfl⟩
      rw [← hw2] at hb hx
      try rw [← hw2]
      change Code.wp _ _ _ _ w2
      clear hw2
      obtain ⟨x0, x1, -, -⟩ := netc hx
      go_wp2_with fail
      refine bodyPost_ret (v := .tuple #[.int .u32 a, .bool true]) (by simp [results, Tryd.results31, go_sem]) rfl ⟨rfl, hb⟩
    · rw [if_neg hb26] at hR
      subst hR
      go_enter Tryd.func31, Tryd.ntmps31
      go_upto_region 2 with (first
        | (go_at_call 30; refine HN.out.mono ?_; rintro e w1 ⟨rfl, hb1⟩)
        | go_in)
      have hb := belAlloc hb1 (.cells #[.int .u32 a, .int .i64 b] 28)
      have hx := heap_alloc_new w1 (.cells #[.int .u32 a, .int .i64 b] 28)
      obtain ⟨w2, hw2⟩ : ∃ w2, w2 = w1.alloc (.cells #[.int .u32 a, .int .i64 b] 28) := ⟨_, rfl⟩
      rw [← hw2] at hb hx
      try rw [← hw2]
      change Code.wp _ _ _ _ w2
      clear hw2
      obtain ⟨x0, x1, -, -⟩ := netc hx
      have hd : (b != 26) = true := by simpa using hb26
      have hd2 : decide (b = 26) = false := decide_eq_false hb26
      go_wp2_with fail
      refine bodyPost_ret (v := .tuple #[.int .u32 0, .bool false]) (by simp [results, Tryd.results31, go_sem]) rfl ⟨rfl, hb⟩
end Go.Proofs.YthpeimdjcibmgaaDoor
