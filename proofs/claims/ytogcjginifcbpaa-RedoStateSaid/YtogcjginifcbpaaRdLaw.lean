/- virgatelaw10: cut, ours, awake; the document's Right. Made by g_rdlaw.py. -/
import Derived.Test.YtogcjginifcbpaaRdPut2
import Derived.Test.YtogcjginifcbpaaKvOurs
namespace Go.Proofs.Ytogcjginifcbpaa
open Go.RowKit Go.Maps
def cutE (e : KEff) : KEff := { e with key := cutB e.key 140, val := cutB e.val 100 }
abbrev effR (e : KEff) : Obj := .cells #[.string e.key, .string e.val, .int .i64 e.rev, .bool e.gone] 43
theorem two_alloc (w : World) (A B : Obj) : ∃ W, W = (w.alloc A).alloc B ∧ Below w.heap.size w W ∧ W.heap.size = w.heap.size + 2 ∧ W.heap[w.heap.size]? = some A ∧ W.heap[w.heap.size + 1]? = some B := by
  refine ⟨_, rfl, belAlloc (belNew w A) B, by simp, ?_, ?_⟩
  · rw [Below.heap_alloc _ _ _ (by simp)]; exact heap_alloc_new w A
  · simpa using heap_alloc_new (w.alloc A) B
set_option maxRecDepth 100000 in
set_option maxHeartbeats 4000000 in
theorem cutE_any (e : KEff) (w : World) : Calls Try.prog 35 #[effV e] w fun x w' => x = .returned (effV (cutE e)) ∧ Below w.heap.size w w' := by
  obtain ⟨key, val, rv, gn⟩ := e
  by_cases hk : 140 < key.size
  · by_cases hv : 100 < val.size
    · have HO : Hid (cutE ⟨key, val, rv, gn⟩ = ⟨(key.extract 0 140), (val.extract 0 100), rv, gn⟩) := Lib.hid (by unfold cutE cutB; simp only []; rw [if_pos hk, if_pos hv])
      have d1 : decide ((140 : Int) < (key.size : Int)) = true := by simp; omega
      have b1 : (140 : Int) ≤ (key.size : Int) := by omega
      have d2 : decide ((100 : Int) < (val.size : Int)) = true := by simp; omega
      have b2 : (100 : Int) ≤ (val.size : Int) := by omega
      obtain ⟨W, hW, hb, hz, hA, hB⟩ := two_alloc w (effR ⟨(key.extract 0 140), (val.extract 0 100), rv, gn⟩) (effR eff0)
      have HW := Lib.hid hW
      have hE := put4_at hB (.string (key.extract 0 140)) (.string (val.extract 0 100)) (.int .i64 rv) (.bool gn)
      have hBl := put4_below hb (show w.heap.size ≤ w.heap.size + 1 by omega) (.string (key.extract 0 140)) (.string (val.extract 0 100)) (.int .i64 rv) (.bool gn)
      unfold put4 at hE hBl
      obtain ⟨a0, a1, a2, a3, -⟩ := four hA
      obtain ⟨c0, c1, c2, c3, f0, f1, f2, f3⟩ := four hB
      have HBl := Lib.hid hBl
      clear hW hk hv hb hz hA hB hBl
      go_enter Try.func35, Try.ntmps35
      go_upto_region 5 with fail
      change Code.wp _ _ _ _ ((w.alloc (effR ⟨(key.extract 0 140), (val.extract 0 100), rv, gn⟩)).alloc (effR eff0))
      rw [← HW.out]
      clear HW d1 d2
      go_wp2_with fail
      rw [HO.out]
      refine bodyPost_ret (v := effV ⟨(key.extract 0 140), (val.extract 0 100), rv, gn⟩) (by simp [results, Try.results35, go_sem, World.cell?, hE]) rfl ⟨rfl, HBl.out⟩
    · have HO : Hid (cutE ⟨key, val, rv, gn⟩ = ⟨(key.extract 0 140), val, rv, gn⟩) := Lib.hid (by unfold cutE cutB; simp only []; rw [if_pos hk, if_neg hv])
      have d1 : decide ((140 : Int) < (key.size : Int)) = true := by simp; omega
      have b1 : (140 : Int) ≤ (key.size : Int) := by omega
      have d2 : decide ((100 : Int) < (val.size : Int)) = false := by simp; omega
      obtain ⟨W, hW, hb, hz, hA, hB⟩ := two_alloc w (effR ⟨(key.extract 0 140), val, rv, gn⟩) (effR eff0)
      have HW := Lib.hid hW
      have hE := put4_at hB (.string (key.extract 0 140)) (.string val) (.int .i64 rv) (.bool gn)
      have hBl := put4_below hb (show w.heap.size ≤ w.heap.size + 1 by omega) (.string (key.extract 0 140)) (.string val) (.int .i64 rv) (.bool gn)
      unfold put4 at hE hBl
      obtain ⟨a0, a1, a2, a3, -⟩ := four hA
      obtain ⟨c0, c1, c2, c3, f0, f1, f2, f3⟩ := four hB
      have HBl := Lib.hid hBl
      clear hW hk hv hb hz hA hB hBl
      go_enter Try.func35, Try.ntmps35
      go_upto_region 5 with fail
      change Code.wp _ _ _ _ ((w.alloc (effR ⟨(key.extract 0 140), val, rv, gn⟩)).alloc (effR eff0))
      rw [← HW.out]
      clear HW d1 d2
      go_wp2_with fail
      rw [HO.out]
      refine bodyPost_ret (v := effV ⟨(key.extract 0 140), val, rv, gn⟩) (by simp [results, Try.results35, go_sem, World.cell?, hE]) rfl ⟨rfl, HBl.out⟩
  · by_cases hv : 100 < val.size
    · have HO : Hid (cutE ⟨key, val, rv, gn⟩ = ⟨key, (val.extract 0 100), rv, gn⟩) := Lib.hid (by unfold cutE cutB; simp only []; rw [if_neg hk, if_pos hv])
      have d1 : decide ((140 : Int) < (key.size : Int)) = false := by simp; omega
      have d2 : decide ((100 : Int) < (val.size : Int)) = true := by simp; omega
      have b2 : (100 : Int) ≤ (val.size : Int) := by omega
      obtain ⟨W, hW, hb, hz, hA, hB⟩ := two_alloc w (effR ⟨key, (val.extract 0 100), rv, gn⟩) (effR eff0)
      have HW := Lib.hid hW
      have hE := put4_at hB (.string key) (.string (val.extract 0 100)) (.int .i64 rv) (.bool gn)
      have hBl := put4_below hb (show w.heap.size ≤ w.heap.size + 1 by omega) (.string key) (.string (val.extract 0 100)) (.int .i64 rv) (.bool gn)
      unfold put4 at hE hBl
      obtain ⟨a0, a1, a2, a3, -⟩ := four hA
      obtain ⟨c0, c1, c2, c3, f0, f1, f2, f3⟩ := four hB
      have HBl := Lib.hid hBl
      clear hW hk hv hb hz hA hB hBl
      go_enter Try.func35, Try.ntmps35
      go_upto_region 5 with fail
      change Code.wp _ _ _ _ ((w.alloc (effR ⟨key, (val.extract 0 100), rv, gn⟩)).alloc (effR eff0))
      rw [← HW.out]
      clear HW d1 d2
      go_wp2_with fail
      rw [HO.out]
      refine bodyPost_ret (v := effV ⟨key, (val.extract 0 100), rv, gn⟩) (by simp [results, Try.results35, go_sem, World.cell?, hE]) rfl ⟨rfl, HBl.out⟩
    · have HO : Hid (cutE ⟨key, val, rv, gn⟩ = ⟨key, val, rv, gn⟩) := Lib.hid (by unfold cutE cutB; simp only []; rw [if_neg hk, if_neg hv])
      have d1 : decide ((140 : Int) < (key.size : Int)) = false := by simp; omega
      have d2 : decide ((100 : Int) < (val.size : Int)) = false := by simp; omega
      obtain ⟨W, hW, hb, hz, hA, hB⟩ := two_alloc w (effR ⟨key, val, rv, gn⟩) (effR eff0)
      have HW := Lib.hid hW
      have hE := put4_at hB (.string key) (.string val) (.int .i64 rv) (.bool gn)
      have hBl := put4_below hb (show w.heap.size ≤ w.heap.size + 1 by omega) (.string key) (.string val) (.int .i64 rv) (.bool gn)
      unfold put4 at hE hBl
      obtain ⟨a0, a1, a2, a3, -⟩ := four hA
      obtain ⟨c0, c1, c2, c3, f0, f1, f2, f3⟩ := four hB
      have HBl := Lib.hid hBl
      clear hW hk hv hb hz hA hB hBl
      go_enter Try.func35, Try.ntmps35
      go_upto_region 5 with fail
      change Code.wp _ _ _ _ ((w.alloc (effR ⟨key, val, rv, gn⟩)).alloc (effR eff0))
      rw [← HW.out]
      clear HW d1 d2
      go_wp2_with fail
      rw [HO.out]
      refine bodyPost_ret (v := effV ⟨key, val, rv, gn⟩) (by simp [results, Try.results35, go_sem, World.cell?, hE]) rfl ⟨rfl, HBl.out⟩
set_option maxRecDepth 100000 in
set_option maxHeartbeats 4000000 in
theorem oursE_any (e : KEff) (w : World) : Calls Try.prog 37 #[effV e] w fun x w' => x = .returned (effV e) ∧ Below w.heap.size w w' := by
  obtain ⟨W, hW, hb, hz, hA, hB⟩ := two_alloc w (effR e) (effO eff0)
  have HW := Lib.hid hW
  have hE := put4_at hB (.string e.key) (.string e.val) (.int .i64 e.rev) (.bool e.gone)
  have hBl := put4_below hb (show w.heap.size ≤ w.heap.size + 1 by omega) (.string e.key) (.string e.val) (.int .i64 e.rev) (.bool e.gone)
  unfold put4 at hE hBl
  obtain ⟨a0, a1, a2, a3, -⟩ := four hA
  obtain ⟨c0, c1, c2, c3, f0, f1, f2, f3⟩ := four hB
  have HBl := Lib.hid hBl
  clear hW hb hz hA hB hBl
  go_enter Try.func37, Try.ntmps37
  go_upto_region 1 with fail
  change Code.wp _ _ _ _ ((w.alloc (effR e)).alloc (effO eff0))
  rw [← HW.out]
  clear HW
  go_wp2_with fail
  refine bodyPost_ret (v := effV e) (by simp [results, Try.results37, go_sem, World.cell?, hE]) rfl ⟨rfl, HBl.out⟩
theorem rightB_eq (e : KEff) : rightB e = (mayK e.key && (mayV e.val && (decide (1 ≤ e.rev) && (!e.gone || (e.val.toList == ([] : List UInt8)))))) := by
  unfold rightB ofB
  simp only [standB, itOkB, kl_str, Bool.and_true]
  by_cases h1 : mayK e.key = true
  · have hb : bytesBefore [] (kl e.key) = true := by
      unfold mayK at h1
      rw [decide_eq_true_eq, ← kl_len] at h1
      cases hk : kl e.key with
      | nil => rw [hk] at h1; simp at h1
      | cons a l => rfl
    rw [hb, h1]
    by_cases h3 : 1 ≤ e.rev
    · have h0 : 0 ≤ e.rev := by omega
      cases e.gone <;> cases (e.val.toList == ([] : List UInt8)) <;> simp [h0, h3]
    · simp [h3]
  · have h1 : mayK e.key = false := by simpa using h1
    simp [h1]
set_option maxRecDepth 100000 in
set_option maxHeartbeats 4000000 in
theorem refRight_any (e : KEff) (w : World) : Calls Try.prog 38 #[effV e] w fun x w' => x = .returned (.bool (rightB e)) ∧ Below w.heap.size w w' := by
  rw [rightB_eq]
  have HB := Lib.hid (belNew w (effR e))
  by_cases h1 : e.key.size < 1
  · have hK : mayK e.key = false := by unfold mayK; simp; omega
    have d1 : decide ((e.key.size : Int) < 1) = true := by simp; omega
    rw [hK]
    go_enter Try.func38, Try.ntmps38
    go_wp2_with fail
    go_ret
    exact ⟨rfl, HB.out⟩
  · have d1 : decide ((e.key.size : Int) < 1) = false := by simp; omega
    by_cases h2 : 128 < e.key.size
    · have hK : mayK e.key = false := by unfold mayK; simp; omega
      have d2 : decide ((128 : Int) < (e.key.size : Int)) = true := by simp; omega
      rw [hK]
      go_enter Try.func38, Try.ntmps38
      go_wp2_with fail
      go_ret
      exact ⟨rfl, HB.out⟩
    · have hK : mayK e.key = true := by unfold mayK; simp; omega
      have d2 : decide ((128 : Int) < (e.key.size : Int)) = false := by simp; omega
      rw [hK, Bool.true_and]
      by_cases h3 : 65536 < e.val.size
      · have hV : mayV e.val = false := by unfold mayV; simp; omega
        have d3 : decide ((65536 : Int) < (e.val.size : Int)) = true := by simp; omega
        rw [hV]
        go_enter Try.func38, Try.ntmps38
        go_wp2_with fail
        go_ret
        exact ⟨rfl, HB.out⟩
      · have hV : mayV e.val = true := by unfold mayV; simp; omega
        have d3 : decide ((65536 : Int) < (e.val.size : Int)) = false := by simp; omega
        rw [hV, Bool.true_and]
        by_cases h4 : e.rev < 1
        · have d4 : decide (e.rev < 1) = true := by simpa using h4
          have hR : decide (1 ≤ e.rev) = false := by simp; omega
          rw [hR]
          go_enter Try.func38, Try.ntmps38
          go_wp2_with fail
          go_ret
          exact ⟨rfl, HB.out⟩
        · have d4 : decide (e.rev < 1) = false := by simpa using h4
          have hR : decide (1 ≤ e.rev) = true := by simp; omega
          rw [hR, Bool.true_and]
          have HG : Hid (∀ g : Bool, (!g || (e.val.toList == ([] : List UInt8))) = (if g = true then (e.val.toList == ([] : List UInt8)) else true)) := Lib.hid (fun g => by cases g <;> rfl)
          generalize hT : (!e.gone || (e.val.toList == ([] : List UInt8))) = T
          have HT := Lib.hid hT
          clear h1 h2 h3 h4 hT hK hV hR HG
          obtain ⟨key, val, rv, gn⟩ := e
          cases gn <;> cases hv : (val.toList == ([] : List UInt8))
          all_goals
            simp only [hv] at HT
            go_enter Try.func38, Try.ntmps38
            go_wp2_with fail
            go_ret
            exact ⟨congrArg (fun b : Bool => Ending.returned (.bool b)) HT.out, HB.out⟩
abbrev eA : KEff := ⟨strA, emp, 1, false⟩
theorem effL_A : effL eA = [1, 0, 0, 0, 0, 0, 0, 0, 1, 0, 0, 0, 1, 97, 0, 0, 0, 0] := by decide +kernel
set_option maxRecDepth 100000 in
set_option maxHeartbeats 4000000 in
theorem awake10_any (w : World) : Calls Try.prog 39 #[] w fun x w' => x = .returned (.bool true) ∧ Below w.heap.size w w' := by
  have HP := Lib.hid (put10_yes eA w (by rw [rightB_eq]; decide +kernel) (by decide))
  rw [effL_A] at HP
  go_enter Try.func39, Try.ntmps39
  go_upto_region 2 with (first
    | (go_at_call 36; refine HP.out.mono ?_; rintro x w2 ⟨v, rfl, hv, hb2⟩)
    | go_in)
  obtain ⟨g, cap, rfl⟩ := hv.slice (by simp)
  have q0 : w2.cell? ⟨g, 0, none⟩ = some (.int .u8 1) := by
    have h := World.ownsRow.cells hv (g := g) rfl 0 _ rfl
    rw [add0] at h
    exact h
  have q8 : w2.cell? ⟨g, 8, none⟩ = some (.int .u8 1) := by
    have h := World.ownsRow.cells hv (g := g) rfl 8 _ rfl
    rw [add0] at h
    exact h
  have HB := Lib.hid hb2
  clear hv hb2
  go_wp2_with fail
  go_ret
  exact ⟨rfl, HB.out⟩
end Go.Proofs.Ytogcjginifcbpaa
