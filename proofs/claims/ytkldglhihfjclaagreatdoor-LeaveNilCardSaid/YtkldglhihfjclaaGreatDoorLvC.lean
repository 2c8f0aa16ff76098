/- leave.Go with what is no name, to its end. -/
import Derived.Test.YtkldglhihfjclaaGreatDoorLvB
namespace Go.Proofs.YtkldglhihfjclaaGreatDoor
open Go.RowKit Go.Maps Go.Ev
set_option maxRecDepth 100000 in
set_option maxHeartbeats 1000000 in
theorem go_bad (p x : Nat × Nat) (s : ByteArray) (w : World) (hE : NM.Env w) (hs : s.size ≤ maxLen) (hk : NM.okName s.data.toList = false) (hp : Has w p procZ) (hx : Has w x (endC 0 0)) (hpx : p.1 ≠ x.1)
    (hg : (0 : Nat) ∉ [p.1, x.1]) :
    Calls Tryz.prog 10 #[pt p, .string s, .int .u32 0, hearV (pt x)] w fun e w' => e = .returned (.tuple #[]) ∧ Has w' p procZ ∧ Has w' x (endC 1 1) ∧ Keeps [p.1, x.1] w w' := by
  have HB := Lib.hid (block0_any w hE)
  have HA : Hid (∀ w', Below w.heap.size w w' → Calls Tryz.prog 33 #[.string s, .int .u32 0] w' fun e w'' => e = .returned (.tuple #[.string ⟨#[]⟩, .int .i64 1]) ∧ Below w'.heap.size w' w'') := Lib.hid (fun w' hb => by
    have h := NM.aff_any s 0 hs (by decide) (by decide) w' (hE.below hb)
    rw [hk, if_neg (by simp)] at h
    exact h)
  have HX : Hid (∀ w1 w2, Below w.heap.size w w1 → w2.heap[w1.heap.size]? = some (.cells (leavC (pt p) s (hearV (pt x))).toArray 91 (0, 0)) → Below w.heap.size w w2 →
      Calls Tryz.prog 34 #[pt (w1.heap.size, 0), .int .i64 1] w2 fun e w' => e = .returned (.tuple #[]) ∧ Has w' p procZ ∧ Has w' x (endC 1 1) ∧ Keeps [p.1, x.1] w w') := Lib.hid (fun w1 w2 hb1 hl hb2 => by
    have h0 := hp.lt
    have h1 := hx.lt
    have h2 := hb1.size
    have h3 := NM.cell_lt hE.max.choose_spec
    simp only [List.mem_cons, List.not_mem_nil, or_false, not_or] at hg
    refine (end_bad p x (w1.heap.size, 0) s w2 (hE.below hb2) (hp.below hb2) (hx.below hb2) (Has.block hl) ?_ ?_).mono ?_
    · simp only [List.nodup_cons, List.mem_cons, List.not_mem_nil, or_false, not_or, not_false_eq_true, List.nodup_nil, and_true]
      exact ⟨⟨hpx, by omega⟩, by omega⟩
    · simp only [List.mem_cons, List.not_mem_nil, or_false, not_or]
      exact ⟨hg.1, hg.2, by omega⟩
    · rintro e w' ⟨rfl, k1, k2, k3⟩
      refine ⟨rfl, k1, k2, ⟨k3.1.1.trans hb2.os, k3.1.2.1.trans hb2.tape, k3.1.2.2.trans hb2.output⟩, Nat.le_trans hb2.size k3.2.1, fun r hr hn => ?_⟩
      simp only [List.mem_cons, List.not_mem_nil, or_false, not_or] at hn
      have := hb2.size
      rw [k3.2.2 r (by omega) (by simp only [List.mem_cons, List.not_mem_nil, or_false, not_or]; exact ⟨hn.1, hn.2, by omega⟩)]
      exact hb2.block r hr)
  clear hE hs hk hp hx hpx hg
  go_enter Tryz.func10, Tryz.ntmps10
  go_upto_region 1 with (go_at_call 32; refine HB.out.mono ?_; rintro e w1 ⟨rfl, hb1⟩)
  have hl := alloc_new w1 (.cells (leavC (pt p) s (hearV (pt x))).toArray 91 (0, 0))
  have hb2 := NM.bel hb1 (alloc_below w1 (.cells (leavC (pt p) s (hearV (pt x))).toArray 91 (0, 0)))
  change Code.wp _ _ _ _ (w1.alloc (.cells (leavC (pt p) s (hearV (pt x))).toArray 91 (0, 0)))
  generalize w1.alloc (.cells (leavC (pt p) s (hearV (pt x))).toArray 91 (0, 0)) = w2 at *
  have HL := Lib.hid hl
  clear hl
  go_wp2_with (first
    | (go_at_call 33; refine (HA.out w2 hb2).mono ?_; rintro e w3 ⟨rfl, hb3⟩)
    | (go_at_call 34; refine (HX.out w1 w3 hb1 ((hb3.block _ (by have := (Array.getElem?_eq_some_iff.mp HL.out).1; exact this)).trans HL.out) (NM.bel hb2 hb3)).mono ?_; rintro e w4 ⟨rfl, k1, k2, k3⟩))
  refine bodyPost_ret (v := .tuple #[]) (by simp [results, Tryz.results10, go_sem]) rfl ⟨rfl, k1, k2, k3⟩
end Go.Proofs.YtkldglhihfjclaaGreatDoor
