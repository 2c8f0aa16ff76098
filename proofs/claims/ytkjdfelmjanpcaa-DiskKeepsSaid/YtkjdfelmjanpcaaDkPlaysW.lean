/- The walks of DiskPlays and DiskKeeps. -/
import Derived.Test.YtkjdfelmjanpcaaDkLike
import Derived.Test.YtkjdfelmjanpcaaDkOpen
namespace Go.Proofs.Ytkjdfelmjanpcaa
open Go.RowKit Go.Maps
set_option linter.unusedVariables false in
set_option maxRecDepth 100000 in
set_option maxHeartbeats 8000000 in
theorem lawPlays (w : World) (b : Value) (os : List Op6) (nm : ByteArray) (h : ArgOps6 w b os) (hnm : nm.size ≤ maxLen) :
    Calls Try.prog 4 #[b, .string nm] w fun e w' => e = .returned (.bool true) ∧ Below w.heap.size w w' := by
  obtain ⟨⟨ao, c, rfl, hlc, hnil, hc⟩, hok, hm⟩ := h
  unfold maxLen at hm
  have HC0 := Lib.hid (And.intro hnil hc)
  have HO := Lib.hid hok
  clear hnil hc hok
  go_enter Try.func4, Try.ntmps4
  go_wp2_with fail
  refine (new_disk w).mono ?_; rintro e w1 ⟨g, rfl, hD1, hg, hb1⟩
  go_wp2_with fail
  refine (New_r w1).mono ?_; rintro e w2 ⟨r, rfl, hR2, hr, hb2⟩
  have hz1 := hb1.size
  have hP2 : Pair w.heap.size w2 g (· = g) ⟨[], false, false, 0⟩ r (· = r) ⟨[], false, false, 0⟩ :=
    ⟨hD1.below hb2, hR2, (fun i hp hq => by have := hD1.lt hp; omega), (fun i e => by rw [e]; exact hg), fun i e => by rw [e]; omega⟩
  have hB2 := bel hb1 hb2
  clear hD1 hR2 hb1 hb2
  go_wp2_with fail
  go_loopw [17] (fun j wr => ∃ i : Nat, j = .int .i64 i ∧ i ≤ os.length ∧ i ≤ 40 ∧ ∃ P Q D, Pair w.heap.size wr g P D r Q D ∧ SmallF i D.fs ∧ Below w.heap.size w wr) (fun j _ => os.length - (intOf j).toNat)
  case atStart => exact ⟨0, rfl, Nat.zero_le _, Nat.zero_le _, _, _, _, hP2, SmallF.nil, hB2⟩
  case round =>
    obtain ⟨i, rfl, hi, hi40, P, Q, D, hP, hS, hB⟩ := hrel
    by_cases hlt : i < os.length
    · by_cases h40 : i < 40
      · have d0 : decide (40 ≤ (i : Int)) = false := by simp; omega
        obtain ⟨a, rfl⟩ : ∃ a, ao = some a := by
          cases ao with
          | none => rw [HC0.out.1 rfl] at hlt; simp at hlt
          | some a => exact ⟨a, rfl⟩
        have hse := HC0.out.2 a rfl i hlt
        have hok1 := HO.out (os.getD i default) (by simp [List.getD, hlt])
        generalize os.getD i default = o at hse hok1
        obtain ⟨k, nn, to, bb, n, kv, ks⟩ := o
        obtain ⟨k0, k1, k2, k3, k4, k5, hks⟩ := hse
        simp only [] at k0 k1 k2 k3 k4 k5 hks
        obtain ⟨ko, kc, hkv, -⟩ := id hks
        subst hkv
        have e0 := (hB.cell (cell_lt8 k0)).trans k0
        have e1 : wr.cell? { block := (a.add (i * 6)).block, off := (a.add (i * 6)).off + 1 } = some (.string nn) := (hB.cell (cell_lt8 k1)).trans k1
        have e2 : wr.cell? { block := (a.add (i * 6)).block, off := (a.add (i * 6)).off + 2 } = some (.string to) := (hB.cell (cell_lt8 k2)).trans k2
        have e3 : wr.cell? { block := (a.add (i * 6)).block, off := (a.add (i * 6)).off + 3 } = some (.string bb) := (hB.cell (cell_lt8 k3)).trans k3
        have e4 : wr.cell? { block := (a.add (i * 6)).block, off := (a.add (i * 6)).off + 4 } = some (.int .i64 n) := (hB.cell (cell_lt8 k4)).trans k4
        have e5 : wr.cell? { block := (a.add (i * 6)).block, off := (a.add (i * 6)).off + 5 } = some (.slice ko ks.length kc) := (hB.cell (cell_lt8 k5)).trans k5
        have hbA := belNew wr (.cells #[.int .i64 k, .string nn, .string to, .string bb, .int .i64 n, .slice ko ks.length kc] 46)
        have hPA := hP.below hbA
        have hkB : ks ≠ [] → ∀ d, (Value.slice ko ks.length kc).ownBlock = some d → d < w.heap.size := fun h0 d hd => by
          obtain ⟨ko', kc', e1, _, _, e2⟩ := hks
          obtain rfl : ko = ko' := by injection e1
          cases ko with
          | none => cases hd
          | some ka =>
            have h2 := cell_lt8 (e2 ka rfl 0 (List.length_pos_iff.2 h0))
            rw [add_block] at h2
            cases hd
            omega
        have hbB : Below w.heap.size w (wr.alloc (.cells #[.int .i64 k, .string nn, .string to, .string bb, .int .i64 n, .slice ko ks.length kc] 46)) := belAlloc hB _
        have HST := step_any w.heap.size g P D r Q ⟨k, nn, to, bb, n, .slice ko ks.length kc, ks⟩ i _ hPA hS (by omega) hok1 (hks.keep' (fun _ d _ hd => hbB.block d hd)) hkB
        unfold Op6.val at HST
        simp only [] at HST
        have HST := Lib.hid HST
        have HBB := Lib.hid hbB
        have b0 : (0 : Int) ≤ (i : Int) := by omega
        have b1 : (i : Int) < (os.length : Int) := by omega
        clear k0 k1 k2 k3 k4 k5 hks hok1 hkB hbA hPA hbB
        clear hP hS
        go_wp2_with fail
        refine HST.out.mono ?_; rintro e w3 ⟨P3, Q3, D3, rfl, hP3, hS3, hb3⟩
        have HL := Lib.hid (like_any w.heap.size g P3 D3 r Q3 (i + 1) w3 hP3 hS3 (by omega))
        go_wp2_with fail
        refine HL.out.mono ?_; rintro e w4 ⟨rfl, hb4⟩
        go_wp2_with fail
        go_roundw
        case rel => exact ⟨i + 1, by go_num, by omega, by omega, P3, Q3, D3, hP3.below hb4, hS3, bel (HBB.out.trans hb3) hb4⟩
        case measure => simp [intOf]; omega
      · have d0 : decide (40 ≤ (i : Int)) = true := by simp; omega
        obtain ⟨a, rfl⟩ : ∃ a, ao = some a := by
          cases ao with
          | none => rw [HC0.out.1 rfl] at hlt; simp at hlt
          | some a => exact ⟨a, rfl⟩
        have hse := HC0.out.2 a rfl i hlt
        have hok1 := HO.out (os.getD i default) (by simp [List.getD, hlt])
        generalize os.getD i default = o at hse hok1
        obtain ⟨k, nn, to, bb, n, kv, ks⟩ := o
        obtain ⟨k0, k1, k2, k3, k4, k5, hks⟩ := hse
        simp only [] at k0 k1 k2 k3 k4 k5 hks
        obtain ⟨ko, kc, hkv, -⟩ := id hks
        subst hkv
        have e0 := (hB.cell (cell_lt8 k0)).trans k0
        have e1 : wr.cell? { block := (a.add (i * 6)).block, off := (a.add (i * 6)).off + 1 } = some (.string nn) := (hB.cell (cell_lt8 k1)).trans k1
        have e2 : wr.cell? { block := (a.add (i * 6)).block, off := (a.add (i * 6)).off + 2 } = some (.string to) := (hB.cell (cell_lt8 k2)).trans k2
        have e3 : wr.cell? { block := (a.add (i * 6)).block, off := (a.add (i * 6)).off + 3 } = some (.string bb) := (hB.cell (cell_lt8 k3)).trans k3
        have e4 : wr.cell? { block := (a.add (i * 6)).block, off := (a.add (i * 6)).off + 4 } = some (.int .i64 n) := (hB.cell (cell_lt8 k4)).trans k4
        have e5 : wr.cell? { block := (a.add (i * 6)).block, off := (a.add (i * 6)).off + 5 } = some (.slice ko ks.length kc) := (hB.cell (cell_lt8 k5)).trans k5
        have hbA := belNew wr (.cells #[.int .i64 k, .string nn, .string to, .string bb, .int .i64 n, .slice ko ks.length kc] 46)
        have b0 : (0 : Int) ≤ (i : Int) := by omega
        have b1 : (i : Int) < (os.length : Int) := by omega
        have hPA := hP.below hbA
        have hBA := belAlloc hB (.cells #[.int .i64 k, .string nn, .string to, .string bb, .int .i64 n, .slice ko ks.length kc] 46)
        obtain ⟨wq, hwq⟩ : ∃ wq, wq = wr.alloc (.cells #[.int .i64 k, .string nn, .string to, .string bb, .int .i64 n, .slice ko ks.length kc] 46) := ⟨_, rfl⟩
        rw [← hwq] at hPA hBA
        have HWQ := Lib.hid hwq
        clear hP hB k0 k1 k2 k3 k4 k5 hks hok1 hbA hwq
        have hP := hPA
        have hB := hBA
        have HRD := Lib.hid (read_any g P D nm wq hP.1 hnm (by have := (hS.getD nm.data.toList).1; omega))
        have HRR := fun W hW => Read_r r Q D nm W hW (by have := hS.1; omega)
        obtain ⟨xs, hxs⟩ : ∃ xs, xs = (readD D nm.data.toList).1 := ⟨_, rfl⟩
        obtain ⟨er, her⟩ : ∃ er, er = (readD D nm.data.toList).2 := ⟨_, rfl⟩
        rw [← hxs, ← her] at HRD
        simp only [← hxs, ← her] at HRR
        have HRR := Lib.hid HRR
        have HPw := Lib.hid hP
        have HBw := Lib.hid hB
        clear hxs her hP hS hB hPA hBA
        go_wp2_with fail
        rw [← HWQ.out]
        refine HRD.out.mono ?_; rintro e w3 ⟨v3, rfl, ho3, hb3⟩
        go_wp2_with fail
        refine (HRR.out _ (HPw.out.2.1.below hb3)).mono ?_; rintro e w4 ⟨rfl, hb4⟩
        have q1 := conv_sees (ho3.sees.keep hb4)
        have HB4 := Lib.hid (bel (bel HBw.out hb3) hb4)
        clear ho3 hb3 hb4
        go_wp2_with fail
        refine (awake6_any _).mono ?_; rintro e w5 ⟨rfl, hb5⟩
        go_wp2_with fail
        go_ret
        exact ⟨rfl, bel HB4.out hb5⟩
    · obtain rfl : i = os.length := by omega
      have HRD := Lib.hid (read_any g P D nm wr hP.1 hnm (by have := (hS.getD nm.data.toList).1; omega))
      have HRR := fun W hW => Read_r r Q D nm W hW (by have := hS.1; omega)
      obtain ⟨xs, hxs⟩ : ∃ xs, xs = (readD D nm.data.toList).1 := ⟨_, rfl⟩
      obtain ⟨er, her⟩ : ∃ er, er = (readD D nm.data.toList).2 := ⟨_, rfl⟩
      rw [← hxs, ← her] at HRD
      simp only [← hxs, ← her] at HRR
      have HRR := Lib.hid HRR
      have HPw := Lib.hid hP
      have HBw := Lib.hid hB
      clear hxs her hP hS hB
      go_wp2_with fail
      refine HRD.out.mono ?_; rintro e w3 ⟨v3, rfl, ho3, hb3⟩
      go_wp2_with fail
      refine (HRR.out _ (HPw.out.2.1.below hb3)).mono ?_; rintro e w4 ⟨rfl, hb4⟩
      have q1 := conv_sees (ho3.sees.keep hb4)
      have HB4 := Lib.hid (bel (bel HBw.out hb3) hb4)
      clear ho3 hb3 hb4
      go_wp2_with fail
      refine (awake6_any _).mono ?_; rintro e w5 ⟨rfl, hb5⟩
      go_wp2_with fail
      go_ret
      exact ⟨rfl, bel HB4.out hb5⟩
theorem crashF_at (ks : List Int) : ∀ (fs : List FEnt) (j i : Nat) (f : FEnt), fs[i]? = some f → (crashF ks j fs)[i]? = some (f.1, crashU ks (j + i) f.2)
  | [], _, _, _, h => by simp at h
  | a :: fs, j, 0, f, h => by
    obtain rfl : a = f := by simpa using h
    rfl
  | a :: fs, j, i + 1, f, h => by
    show (crashF ks (j + 1) fs)[i]? = _
    rw [crashF_at ks fs (j + 1) i f (by simpa using h)]
    congr 3
    omega
end Go.Proofs.Ytkjdfelmjanpcaa
