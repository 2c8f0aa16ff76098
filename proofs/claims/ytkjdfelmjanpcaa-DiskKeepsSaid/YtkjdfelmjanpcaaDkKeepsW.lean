/- The walk of DiskKeeps. -/
import Derived.Test.YtkjdfelmjanpcaaDkPlaysW
namespace Go.Proofs.Ytkjdfelmjanpcaa
open Go.RowKit Go.Maps
set_option linter.unusedVariables false in
set_option linter.unusedSimpArgs false in
set_option maxRecDepth 100000 in
set_option maxHeartbeats 8000000 in
theorem lawKeeps (w : World) (b : Value) (os : List Op6) (kpv : Value) (kps : List Int) (h : ArgOps6 w b os) (hkp : SeesU w kpv kps) (hkpb : ∀ x ∈ kps, 0 ≤ x ∧ x < 65536) (_ : kps.length ≤ maxLen) :
    Calls Try.prog 5 #[b, kpv] w fun e w' => e = .returned (.bool true) ∧ Below w.heap.size w w' := by
  obtain ⟨⟨ao, c, rfl, hlc, hnil, hc⟩, hok, hm⟩ := h
  unfold maxLen at hm
  have HC0 := Lib.hid (And.intro hnil hc)
  have HO := Lib.hid hok
  have hkpB : kps ≠ [] → ∀ d, kpv.ownBlock = some d → d < w.heap.size := fun h0 d hd => by
    obtain ⟨ko', kc', e1, _, _, e2⟩ := hkp
    subst e1
    cases ko' with
    | none => cases hd
    | some ka =>
      have h2 := cell_lt8 (e2 ka rfl 0 (List.length_pos_iff.2 h0))
      rw [add_block] at h2
      cases hd
      omega
  have HKP := Lib.hid (And.intro hkp (And.intro hkpb hkpB))
  clear hnil hc hok hkp hkpb hkpB
  go_enter Try.func5, Try.ntmps5
  go_wp2_with fail
  refine (new_disk w).mono ?_; rintro e w1 ⟨g, rfl, hD1, hg, hb1⟩
  go_wp2_with fail
  refine (New_r w1).mono ?_; rintro e w2 ⟨r, rfl, hR2, hr, hb2⟩
  have hz1 := hb1.size
  have hP2 : Pair w.heap.size w2 g (· = g) ⟨[], false, false, 0⟩ r (· = r) ⟨[], false, false, 0⟩ :=
    ⟨hD1.below hb2, hR2, (fun i hp hq => by have := hD1.lt hp; omega), (fun i e => by rw [e]; exact hg), fun i e => by rw [e]; omega⟩
  have hB2 := bel hb1 hb2
  clear hD1 hR2 hb1 hb2
  go_wp2_with fail
  go_loopw [18] (fun j wr => ∃ i : Nat, j = .int .i64 i ∧ i ≤ os.length ∧ ∃ P Q D, Pair w.heap.size wr g P D r Q D ∧ SmallF (min i 30) D.fs ∧ Below w.heap.size w wr) (fun j _ => os.length - (intOf j).toNat)
  case atStart => exact ⟨0, rfl, Nat.zero_le _, _, _, _, hP2, SmallF.nil, hB2⟩
  case round =>
    obtain ⟨i, rfl, hi, P, Q, D, hP, hS, hB⟩ := hrel
    by_cases hlt : i < os.length
    · by_cases h30 : i < 30
      · have d0 : decide ((i : Int) < 30) = true := by simp; omega
        rw [Nat.min_eq_left (Nat.le_of_lt h30)] at hS
        obtain ⟨a, rfl⟩ : ∃ a, ao = some a := by
          cases ao with
          | none => rw [HC0.out.1 rfl] at hlt; simp at hlt
          | some a => exact ⟨a, rfl⟩
        have hse := HC0.out.2 a rfl i hlt
        have hok1 := HO.out (os.getD i default) (by simp [List.getD, hlt])
        generalize os.getD i default = o at hse hok1
        obtain ⟨k, nn, to, bb, n, kv, ks⟩ := o
        obtain ⟨k0, k1, k2, k3, k4, k5, hks⟩ := hse
        simp only [] at k0 k1 k2 k3 k4 k5 hks
        obtain ⟨ko, kc, hkv, -⟩ := id hks
        subst hkv
        have e0 := (hB.cell (cell_lt8 k0)).trans k0
        have e1 : wr.cell? { block := (a.add (i * 6)).block, off := (a.add (i * 6)).off + 1 } = some (.string nn) := (hB.cell (cell_lt8 k1)).trans k1
        have e2 : wr.cell? { block := (a.add (i * 6)).block, off := (a.add (i * 6)).off + 2 } = some (.string to) := (hB.cell (cell_lt8 k2)).trans k2
        have e3 : wr.cell? { block := (a.add (i * 6)).block, off := (a.add (i * 6)).off + 3 } = some (.string bb) := (hB.cell (cell_lt8 k3)).trans k3
        have e4 : wr.cell? { block := (a.add (i * 6)).block, off := (a.add (i * 6)).off + 4 } = some (.int .i64 n) := (hB.cell (cell_lt8 k4)).trans k4
        have e5 : wr.cell? { block := (a.add (i * 6)).block, off := (a.add (i * 6)).off + 5 } = some (.slice ko ks.length kc) := (hB.cell (cell_lt8 k5)).trans k5
        have hbA := belNew wr (.cells #[.int .i64 k, .string nn, .string to, .string bb, .int .i64 n, .slice ko ks.length kc] 46)
        have hPA := hP.below hbA
        have hkB : ks ≠ [] → ∀ d, (Value.slice ko ks.length kc).ownBlock = some d → d < w.heap.size := fun h0 d hd => by
          obtain ⟨ko', kc', e1, _, _, e2⟩ := hks
          obtain rfl : ko = ko' := by injection e1
          cases ko with
          | none => cases hd
          | some ka =>
            have h2 := cell_lt8 (e2 ka rfl 0 (List.length_pos_iff.2 h0))
            rw [add_block] at h2
            cases hd
            omega
        have hbB : Below w.heap.size w (wr.alloc (.cells #[.int .i64 k, .string nn, .string to, .string bb, .int .i64 n, .slice ko ks.length kc] 46)) := belAlloc hB _
        have HST := step_any w.heap.size g P D r Q ⟨k, nn, to, bb, n, .slice ko ks.length kc, ks⟩ i _ hPA hS (by omega) hok1 (hks.keep' (fun _ d _ hd => hbB.block d hd)) hkB
        unfold Op6.val at HST
        simp only [] at HST
        have HST := Lib.hid HST
        have HBB := Lib.hid hbB
        have b0 : (0 : Int) ≤ (i : Int) := by omega
        have b1 : (i : Int) < (os.length : Int) := by omega
        clear k0 k1 k2 k3 k4 k5 hks hok1 hkB hbA hPA hbB
        clear hP hS
        go_wp2_with fail
        refine HST.out.mono ?_; rintro e w3 ⟨P3, Q3, D3, rfl, hP3, hS3, hb3⟩
        go_wp2_with fail
        go_roundw
        case rel => exact ⟨i + 1, by go_num, by omega, P3, Q3, D3, hP3, by rw [Nat.min_eq_left h30]; exact hS3, HBB.out.trans hb3⟩
        case measure => simp [intOf]; omega
      · have d0 : decide ((i : Int) < 30) = false := by simp; omega
        obtain ⟨a, rfl⟩ : ∃ a, ao = some a := by
          cases ao with
          | none => rw [HC0.out.1 rfl] at hlt; simp at hlt
          | some a => exact ⟨a, rfl⟩
        have hse := HC0.out.2 a rfl i hlt
        have hok1 := HO.out (os.getD i default) (by simp [List.getD, hlt])
        generalize os.getD i default = o at hse hok1
        obtain ⟨k, nn, to, bb, n, kv, ks⟩ := o
        obtain ⟨k0, k1, k2, k3, k4, k5, hks⟩ := hse
        simp only [] at k0 k1 k2 k3 k4 k5 hks
        obtain ⟨ko, kc, hkv, -⟩ := id hks
        subst hkv
        have e0 := (hB.cell (cell_lt8 k0)).trans k0
        have e1 : wr.cell? { block := (a.add (i * 6)).block, off := (a.add (i * 6)).off + 1 } = some (.string nn) := (hB.cell (cell_lt8 k1)).trans k1
        have e2 : wr.cell? { block := (a.add (i * 6)).block, off := (a.add (i * 6)).off + 2 } = some (.string to) := (hB.cell (cell_lt8 k2)).trans k2
        have e3 : wr.cell? { block := (a.add (i * 6)).block, off := (a.add (i * 6)).off + 3 } = some (.string bb) := (hB.cell (cell_lt8 k3)).trans k3
        have e4 : wr.cell? { block := (a.add (i * 6)).block, off := (a.add (i * 6)).off + 4 } = some (.int .i64 n) := (hB.cell (cell_lt8 k4)).trans k4
        have e5 : wr.cell? { block := (a.add (i * 6)).block, off := (a.add (i * 6)).off + 5 } = some (.slice ko ks.length kc) := (hB.cell (cell_lt8 k5)).trans k5
        have hbA := belNew wr (.cells #[.int .i64 k, .string nn, .string to, .string bb, .int .i64 n, .slice ko ks.length kc] 46)
        have b0 : (0 : Int) ≤ (i : Int) := by omega
        have b1 : (i : Int) < (os.length : Int) := by omega
        have HPA := Lib.hid (hP.below hbA)
        have HBA := Lib.hid (belAlloc hB (.cells #[.int .i64 k, .string nn, .string to, .string bb, .int .i64 n, .slice ko ks.length kc] 46))
        have HS := Lib.hid hS
        clear hP hB k0 k1 k2 k3 k4 k5 hks hok1 hbA hS
        go_wp2_with fail
        go_roundw
        case rel => exact ⟨i + 1, by go_num, by omega, P, Q, D, HPA.out, by rw [Nat.min_eq_right (by omega)]; have := HS.out; rw [Nat.min_eq_right (by omega)] at this; exact this, HBA.out⟩
        case measure => simp [intOf]; omega
    · obtain rfl : i = os.length := by omega
      have hS := hS.mono (Nat.min_le_right _ 30)
      have hsz0 := hP.size
      obtain ⟨rv, hr1, hr2, hr3, hr4, -⟩ := hP.2.1
      obtain ⟨fo, fc, rfl, hfc, hsee⟩ := hr2.sees
      have HSF : Hid (SeesF wr (.slice fo D.fs.length fc) D.fs) := Lib.hid ⟨fo, fc, rfl, hfc, hsee⟩
      obtain ⟨rc0, -, -⟩ := rcells hr1
      have HQ : Hid (∀ d, (Value.slice fo D.fs.length fc).ownBlock = some d → d < wr.heap.size ∧ ¬ P d) := Lib.hid (fun d hd => ⟨hP.2.1.lt (hr4 d hd), fun hp => hP.2.2.1 d hp (hr4 d hd)⟩)
      have hKw := HKP.out.1.keep' (w' := wr) (fun _ d _ hd => hB.block d hd)
      have HCR := Lib.hid (crash_any g P D kpv kps wr hP.1 (by have := hS.1; omega) (fun f hf => ⟨(hS.2 f hf).1, by have := (hS.2 f hf).2.1; omega⟩) hKw HKP.out.2.1 (fun h0 d hd hp => by
        have h1 := HKP.out.2.2 h0 d hd
        have h2 := hP.2.2.2.1 d hp
        omega))
      have HP4 : Hid (∀ i, P i → w.heap.size ≤ i) := Lib.hid hP.2.2.2.1
      have HB := Lib.hid hB
      have HS := Lib.hid hS
      clear hr1 hr2 hr3 hr4 hsee hP hS hB hKw
      go_wp2_with fail
      refine HCR.out.mono ?_; rintro e w3 ⟨P3, rfl, hD3, hS3⟩
      have hri := hD3.rising
      obtain ⟨C, hC⟩ : ∃ C, C = crashD D kps := ⟨_, rfl⟩
      rw [← hC] at hD3 hri
      have hCl : C.fs.length = D.fs.length := by rw [hC]; exact crashF_len kps D.fs 0
      have hClost : C.lost = false := by rw [hC]; rfl
      have hCat : ∀ i f, D.fs[i]? = some f → C.fs[i]? = some (f.1, crashU kps i f.2) := fun i f hf => by
        have := crashF_at kps D.fs 0 i f hf
        rw [Nat.zero_add] at this
        rw [hC]
        exact this
      have HCS : Hid (SmallF 30 C.fs) := Lib.hid (by rw [hC]; exact HS.out.crash kps)
      have hB3 : Below w.heap.size w w3 := HB.out.trans (hS3.ge HP4.out HB.out.size).2
      have hsf3 : SeesF w3 (.slice fo D.fs.length fc) D.fs := HSF.out.keep (fun d hd hlt => hS3.1.2.2.2.2 d hlt (HQ.out d hd).2) hS3.1.2.2.2.1
      have HD3 := Lib.hid hD3
      have HB3 := Lib.hid hB3
      have HSF3 := Lib.hid hsf3
      have HCC := Lib.hid (And.intro hri hCat)
      have HLA := Lib.hid (lost_any g P3 C w3 hD3)
      rw [hClost] at HLA
      have HNA := Lib.hid (names_any g P3 C w3 hD3 (by have := HCS.out.1; omega))
      clear hC hD3 hS3 hri hCat hB3 hsf3
      go_wp2_with fail
      refine HLA.out.mono ?_; rintro e w' ⟨rfl, rfl⟩
      go_wp2_with fail
      refine HNA.out.mono ?_; rintro e w4 ⟨nv, rfl, hT4, hb4, -⟩
      obtain ⟨no, nc, rfl, -, -⟩ := hT4
      rw [List.length_map, hCl]
      have hB4 := bel HB3.out hb4
      have HD4 := Lib.hid (HD3.out.below hb4)
      have HSF4 := Lib.hid (HSF3.out.below hb4)
      have HB4 := Lib.hid hB4
      have hCLI := HCS.out.1
      clear hb4 hB4
      go_wp2_with fail
      go_loopw [49] (fun j wr => ∃ i : Nat, i ≤ D.fs.length ∧ j = .int .i64 i ∧ Below w4.heap.size w4 wr) (fun j _ => D.fs.length - (intOf j).toNat)
      case atStart => exact ⟨0, Nat.zero_le _, rfl, Below.refl _ _⟩
      case round =>
        obtain ⟨i, hi, rfl, hB⟩ := hrel
        by_cases hlt : i < D.fs.length
        · obtain ⟨a, rfl⟩ : ∃ a, fo = some a := by
            obtain ⟨ao', c', e, _, hn, _⟩ := HSF4.out
            obtain rfl : fo = ao' := by injection e
            cases fo with
            | none => rw [hn rfl] at hlt; simp at hlt
            | some a => exact ⟨a, rfl⟩
          obtain ⟨k, hk⟩ : ∃ k, k = D.fs[i].1 := ⟨_, rfl⟩
          obtain ⟨u, hu⟩ : ∃ u, u = D.fs[i].2 := ⟨_, rfl⟩
          obtain ⟨s, hsd⟩ : ∃ s : ByteArray, s = ⟨k.toArray⟩ := ⟨_, rfl⟩
          have hsk : s.data.toList = k := by rw [hsd]
          have hat : D.fs[i]? = some (k, u) := by rw [List.getElem?_eq_getElem hlt, hk, hu]
          have hsm := HS.out.2 (k, u) (by rw [hk, hu]; exact List.getElem_mem hlt)
          simp only [] at hsm
          have hcn := crashN_le kps i (u := u) hsm.2.2
          obtain ⟨N, hN⟩ : ∃ N, N = crashN kps i u := ⟨_, rfl⟩
          have hget : getE C.fs k = some (u.1.take N, N) := by
            have h1 := HCC.out.2 i (k, u) hat
            obtain ⟨h2, h3⟩ := List.getElem?_eq_some_iff.1 h1
            have h4 := get_at C.fs i k HCC.out.1 h2 (by rw [h3])
            rw [h3] at h4
            rw [hN]
            exact h4
          rw [← hN] at hcn
          obtain ⟨gg, rfl, hgl, hcs⟩ : ∃ gg, a = ⟨gg, 0, none⟩ ∧ gg < wr.heap.size ∧ ∀ i f, D.fs[i]? = some f → wr.cell? ⟨gg, i * 3, none⟩ = some (.string ⟨f.1.toArray⟩) ∧ wr.cell? ⟨gg, i * 3 + 1, none⟩ = some (.string (strOfNums f.2.1)) ∧ wr.cell? ⟨gg, i * 3 + 2, none⟩ = some (.int .i64 (f.2.2 : Nat)) := by
            obtain ⟨ao', c', e, _, _, hc⟩ := HSF4.out.below hB
            obtain rfl : some a = ao' := by injection e
            exact hc a rfl
          obtain ⟨q0, q1, q2⟩ := hcs i (k, u) hat
          simp only [] at q0 q1 q2
          rw [← hsd] at q0
          have b0 : (0 : Int) ≤ (i : Int) := by omega
          have b1 : (i : Int) < (D.fs.length : Int) := by omega
          have hss : s.size ≤ maxLen := by
            have := hsm.1
            rw [← hsk, toList_len] at this
            exact this
          have hXl : (u.1.take N).length = N := by rw [List.length_take]; omega
          obtain ⟨xs, hxs⟩ : ∃ xs, xs = u.1.take N := ⟨_, rfl⟩
          rw [← hxs] at hget hXl
          have HRD : Hid (∀ W, DiskAt W g P3 C → Calls Try.prog 25 #[ptr g, .string s] W fun e w' => ∃ v, e = .returned (.tuple #[v, .int .i64 0]) ∧ Owns w' W.heap.size v xs ∧ Below W.heap.size W w') := Lib.hid (fun W hW => by
            have := read_any g P3 C s W hW hss (by rw [hsk, hget]; simp only [Option.getD_some]; omega)
            have e1 : readD C s.data.toList = (xs, 0) := by unfold readD; rw [hsk, hget]; simp only []; rw [hClost]; rfl
            rw [e1] at this
            exact this)
          have HSU : Hid (∀ W, DiskAt W g P3 C → Calls Try.prog 31 #[ptr g, .string s] W fun e w' => e = .returned (.int .i64 (N : Nat)) ∧ Below W.heap.size W w') := Lib.hid (fun W hW => by
            have := sure_any g P3 C s W hW hss
            rw [hsk, hget] at this
            exact this)
          have HDr := Lib.hid (HD4.out.below hB)
          have HBB := Lib.hid hB
          have hul : (strOfNums u.1).size = u.1.length := strOfNums_size u.1
          have hex : (strOfNums u.1).extract 0 N = strOfNums xs := by rw [hxs]; exact str_take u.1 N
          have HXS := Lib.hid hxs
          have hN1 : u.2 ≤ N := hcn.1
          have hN2 : N ≤ u.1.length := hcn.2
          have HUL : u.1.length ≤ 1500 := hsm.2.1
          clear hk hu hsd hsk hat hget hss hxs hcs hgl hsm hcn hN hB
          go_wp2_with fail
          have hbA := belNew wr (.cells #[.string s, .string (strOfNums u.1), .int .i64 (u.2 : Nat)] 62)
          have hcA := heap_alloc_new wr (.cells #[.string s, .string (strOfNums u.1), .int .i64 (u.2 : Nat)] 62)
          refine (HRD.out _ (HDr.out.below hbA)).mono ?_; rintro e w5 ⟨v5, rfl, ho5, hb5⟩
          have hb15 := bel hbA hb5
          have hc5 := (hb5.block wr.heap.size (heap_lt hcA)).trans hcA
          obtain ⟨y0, y1, y2⟩ := rcells hc5
          have hs5 := ho5.sees
          obtain ⟨vo, vc, hv5, hvc, -⟩ := id hs5
          rw [hXl] at hv5 hvc
          subst hv5
          have HC5 := Lib.hid (And.intro hs5 hb15)
          have n1 : decide ((N : Int) < ((u.2 : Nat) : Int)) = false := by simp; omega
          have n2 : decide ((u.1.length : Int) < (N : Int)) = false := by simp; omega
          have n5 : decide (N < u.2) = false := by simp; omega
          have n6 : decide (u.1.length < N) = false := by simp; omega
          have n7 : ¬ N < u.2 := by omega
          have n8 : ¬ u.1.length < N := by omega
          have n3 : N ≤ (strOfNums u.1).size := by rw [hul]; exact hN2
          have n4 : (N : Int) ≤ (u.1.length : Int) := by omega
          clear hb15 hb5 hcA hbA hc5 ho5 hs5
          go_wp2_with fail
          refine wp_region_held_drew (S := (fun W => Sees W (.slice vo N vc) xs ∧ W.cell? ⟨wr.heap.size, 0, none⟩ = some (.string s) ∧ W.cell? ⟨wr.heap.size, 1, none⟩ = some (.string (strOfNums u.1)) ∧ W.cell? ⟨wr.heap.size, 2, none⟩ = some (.int .i64 (u.2 : Nat)))) (by kernel_rfl) ?_ (fun r0 => ?_)
          · exact ⟨HC5.out.1, y0, y1, y2⟩
          refine wpAnyH_take (i := 0) (v := ?_) rfl (by kernel_rfl) (by kernel_rfl) (by kernel_rfl) (fun _ _ _ h => h) (Or.inl ⟨by rfl, ?_⟩) (by assumption) ?_
          rotate_left
          · intro w hSw
            (try dsimp only at hSw)
            go_simp
            first | done | with_reducible rfl
          try simp only [Act.put, List.getElem_toArray, List.getElem_cons_succ, List.getElem_cons_zero, List.setIfInBounds_toArray, List.set_cons_zero, List.set_cons_succ]
          refine wpAnyH_take (i := 1) (v := ?_) rfl (by kernel_rfl) (by kernel_rfl) (by kernel_rfl) (fun _ _ _ h => h) (Or.inl ⟨by rfl, ?_⟩) (by assumption) ?_
          rotate_left
          · intro w hSw
            (try dsimp only at hSw)
            go_simp
            first | done | with_reducible rfl
          try simp only [Act.put, List.getElem_toArray, List.getElem_cons_succ, List.getElem_cons_zero, List.setIfInBounds_toArray, List.set_cons_zero, List.set_cons_succ]
          refine wpAnyH_take (i := 2) (v := ?_) rfl (by kernel_rfl) (by kernel_rfl) (by kernel_rfl) (fun _ _ _ h => h) (Or.inl ⟨by rfl, ?_⟩) (by assumption) ?_
          rotate_left
          · intro w hSw
            (try dsimp only at hSw)
            go_simp
            first | done | with_reducible rfl
          try simp only [Act.put, List.getElem_toArray, List.getElem_cons_succ, List.getElem_cons_zero, List.setIfInBounds_toArray, List.set_cons_zero, List.set_cons_succ]
          refine wpAnyH_take (i := 3) (v := ?_) rfl (by kernel_rfl) (by kernel_rfl) (by kernel_rfl) (fun _ _ _ h => h) (Or.inl ⟨by rfl, ?_⟩) (by assumption) ?_
          rotate_left
          · intro w hSw
            (try dsimp only at hSw)
            go_simp
            first | done | with_reducible rfl
          try simp only [Act.put, List.getElem_toArray, List.getElem_cons_succ, List.getElem_cons_zero, List.setIfInBounds_toArray, List.set_cons_zero, List.set_cons_succ]
          refine wpAnyH_take (i := 4) (v := ?_) rfl (by kernel_rfl) (by kernel_rfl) (by kernel_rfl) (fun _ _ _ h => h) (Or.inl ⟨by rfl, ?_⟩) (by assumption) ?_
          rotate_left
          · intro w hSw
            (try dsimp only at hSw)
            go_simp
            first | done | with_reducible rfl
          try simp only [Act.put, List.getElem_toArray, List.getElem_cons_succ, List.getElem_cons_zero, List.setIfInBounds_toArray, List.set_cons_zero, List.set_cons_succ]
          refine wpAnyH_take (i := 5) (v := ?_) rfl (by kernel_rfl) (by kernel_rfl) (by kernel_rfl) (fun _ _ _ h => h) (Or.inl ⟨by rfl, ?_⟩) (by assumption) ?_
          rotate_left
          · intro w hSw
            (try dsimp only at hSw)
            go_simp
            first | done | with_reducible rfl
          try simp only [Act.put, List.getElem_toArray, List.getElem_cons_succ, List.getElem_cons_zero, List.setIfInBounds_toArray, List.set_cons_zero, List.set_cons_succ]
          refine wpAnyH_take (i := 6) (v := ?_) rfl (by kernel_rfl) (by kernel_rfl) (by kernel_rfl) (fun _ _ _ h => h) (Or.inl ⟨by rfl, ?_⟩) (by assumption) ?_
          rotate_left
          · intro w hSw
            (try dsimp only at hSw)
            go_simp
            first | done | with_reducible rfl
          try simp only [Act.put, List.getElem_toArray, List.getElem_cons_succ, List.getElem_cons_zero, List.setIfInBounds_toArray, List.set_cons_zero, List.set_cons_succ]
          refine wpAnyH_take (i := 7) (v := ?_) rfl (by kernel_rfl) (by kernel_rfl) (by kernel_rfl) (fun _ _ _ h => h) (Or.inl ⟨by rfl, ?_⟩) (by assumption) ?_
          rotate_left
          · intro w hSw
            (try dsimp only at hSw)
            go_simp
            first | done | with_reducible rfl
          try simp only [Act.put, List.getElem_toArray, List.getElem_cons_succ, List.getElem_cons_zero, List.setIfInBounds_toArray, List.set_cons_zero, List.set_cons_succ]
          refine wpAnyH_take (i := 8) (v := ?_) rfl (by kernel_rfl) (by kernel_rfl) (by kernel_rfl) (fun _ _ _ h => h) (Or.inl ⟨by rfl, ?_⟩) (by assumption) ?_
          rotate_left
          · intro w hSw
            (try dsimp only at hSw)
            go_simp
            first | done | with_reducible rfl
          try simp only [Act.put, List.getElem_toArray, List.getElem_cons_succ, List.getElem_cons_zero, List.setIfInBounds_toArray, List.set_cons_zero, List.set_cons_succ]
          refine wpAnyH_take (i := 9) (v := ?_) rfl (by kernel_rfl) (by kernel_rfl) (by kernel_rfl) (fun _ _ _ h => h) (Or.inl ⟨by rfl, ?_⟩) (by assumption) ?_
          rotate_left
          · intro w hSw
            (try dsimp only at hSw)
            go_simp
            first | done | with_reducible rfl
          try simp only [Act.put, List.getElem_toArray, List.getElem_cons_succ, List.getElem_cons_zero, List.setIfInBounds_toArray, List.set_cons_zero, List.set_cons_succ]
          refine wpAnyH_take (i := 10) (v := ?_) rfl (by kernel_rfl) (by kernel_rfl) (by kernel_rfl) (fun _ _ _ h => h) (Or.inl ⟨by rfl, ?_⟩) (by assumption) ?_
          rotate_left
          · intro w hSw
            (try dsimp only at hSw)
            go_simp
            first | done | with_reducible rfl
          try simp only [Act.put, List.getElem_toArray, List.getElem_cons_succ, List.getElem_cons_zero, List.setIfInBounds_toArray, List.set_cons_zero, List.set_cons_succ]
          refine wpAnyH_take (i := 11) (v := ?_) rfl (by kernel_rfl) (by kernel_rfl) (by kernel_rfl) (fun _ _ _ h => h) (Or.inl ⟨by rfl, ?_⟩) (by assumption) ?_
          rotate_left
          · intro w hSw
            (try dsimp only at hSw)
            go_simp
            first | done | with_reducible rfl
          try simp only [Act.put, List.getElem_toArray, List.getElem_cons_succ, List.getElem_cons_zero, List.setIfInBounds_toArray, List.set_cons_zero, List.set_cons_succ]
          refine wpAnyH_take (i := 12) (v := ?_) rfl (by kernel_rfl) (by kernel_rfl) (by kernel_rfl) (fun _ _ _ h => h) (Or.inl ⟨by rfl, ?_⟩) (by assumption) ?_
          rotate_left
          · intro w hSw
            (try dsimp only at hSw)
            go_simp
            first | done | with_reducible rfl
          try simp only [Act.put, List.getElem_toArray, List.getElem_cons_succ, List.getElem_cons_zero, List.setIfInBounds_toArray, List.set_cons_zero, List.set_cons_succ]
          refine wpAnyH_take (i := 13) (v := ?_) rfl (by kernel_rfl) (by kernel_rfl) (by kernel_rfl) (fun _ _ _ h => h) (Or.inl ⟨by rfl, ?_⟩) (by assumption) ?_
          rotate_left
          · intro w hSw
            (try dsimp only at hSw)
            go_simp
            first | done | with_reducible rfl
          try simp only [Act.put, List.getElem_toArray, List.getElem_cons_succ, List.getElem_cons_zero, List.setIfInBounds_toArray, List.set_cons_zero, List.set_cons_succ]
          refine wpAnyH_take (i := 14) (v := ?_) rfl (by kernel_rfl) (by kernel_rfl) (by kernel_rfl) (fun _ _ _ h => h) (Or.inl ⟨by rfl, ?_⟩) (by assumption) ?_
          rotate_left
          · intro w hSw
            (try dsimp only at hSw)
            go_simp
            first | done | with_reducible rfl
          try simp only [Act.put, List.getElem_toArray, List.getElem_cons_succ, List.getElem_cons_zero, List.setIfInBounds_toArray, List.set_cons_zero, List.set_cons_succ]
          refine wpAnyH_take (i := 15) (v := ?_) rfl (by kernel_rfl) (by kernel_rfl) (by kernel_rfl) (fun _ _ _ h => h) (Or.inl ⟨by rfl, ?_⟩) (by assumption) ?_
          rotate_left
          · intro w hSw
            (try dsimp only at hSw)
            go_simp
            first | done | with_reducible rfl
          try simp only [Act.put, List.getElem_toArray, List.getElem_cons_succ, List.getElem_cons_zero, List.setIfInBounds_toArray, List.set_cons_zero, List.set_cons_succ]
          refine wpAnyH_take (i := 16) (v := ?_) rfl (by kernel_rfl) (by kernel_rfl) (by kernel_rfl) (fun _ _ _ h => h) (Or.inl ⟨by rfl, ?_⟩) (by assumption) ?_
          rotate_left
          · intro w hSw
            (try dsimp only at hSw)
            go_simp
            first | done | with_reducible rfl
          try simp only [Act.put, List.getElem_toArray, List.getElem_cons_succ, List.getElem_cons_zero, List.setIfInBounds_toArray, List.set_cons_zero, List.set_cons_succ]
          refine wpAnyH_take (i := 17) (v := ?_) rfl (by kernel_rfl) (by kernel_rfl) (by kernel_rfl) (fun _ _ _ h => h) (Or.inl ⟨by rfl, ?_⟩) (by assumption) ?_
          rotate_left
          · intro w hSw
            (try dsimp only at hSw)
            go_simp
            first | done | with_reducible rfl
          try simp only [Act.put, List.getElem_toArray, List.getElem_cons_succ, List.getElem_cons_zero, List.setIfInBounds_toArray, List.set_cons_zero, List.set_cons_succ]
          refine wpAnyH_take (i := 18) (v := ?_) rfl (by kernel_rfl) (by kernel_rfl) (by kernel_rfl) (fun _ _ _ h => h) (Or.inl ⟨by rfl, ?_⟩) (by assumption) ?_
          rotate_left
          · intro w hSw
            (try dsimp only at hSw)
            go_simp
            first | done | with_reducible rfl
          try simp only [Act.put, List.getElem_toArray, List.getElem_cons_succ, List.getElem_cons_zero, List.setIfInBounds_toArray, List.set_cons_zero, List.set_cons_succ]
          refine wpAnyH_take (i := 19) (v := ?_) rfl (by kernel_rfl) (by kernel_rfl) (by kernel_rfl) (fun _ _ _ h => h) (Or.inl ⟨by rfl, ?_⟩) (by assumption) ?_
          rotate_left
          · intro w hSw
            (try dsimp only at hSw)
            go_simp
            first | done | with_reducible rfl
          try simp only [Act.put, List.getElem_toArray, List.getElem_cons_succ, List.getElem_cons_zero, List.setIfInBounds_toArray, List.set_cons_zero, List.set_cons_succ]
          refine wpAnyH_take (i := 20) (v := ?_) rfl (by kernel_rfl) (by kernel_rfl) (by kernel_rfl) (fun _ _ _ h => h) (Or.inl ⟨by rfl, ?_⟩) (by assumption) ?_
          rotate_left
          · intro w hSw
            (try dsimp only at hSw)
            go_simp
            first | done | with_reducible rfl
          try simp only [Act.put, List.getElem_toArray, List.getElem_cons_succ, List.getElem_cons_zero, List.setIfInBounds_toArray, List.set_cons_zero, List.set_cons_succ]
          refine wpAnyH_take (i := 21) (v := ?_) rfl (by kernel_rfl) (by kernel_rfl) (by kernel_rfl) (fun _ _ _ h => h) (Or.inl ⟨by rfl, ?_⟩) (by assumption) ?_
          rotate_left
          · intro w hSw
            (try dsimp only at hSw)
            go_simp
            first | done | with_reducible rfl
          try simp only [Act.put, List.getElem_toArray, List.getElem_cons_succ, List.getElem_cons_zero, List.setIfInBounds_toArray, List.set_cons_zero, List.set_cons_succ]
          refine wpAnyH_take (i := 22) (v := ?_) rfl (by kernel_rfl) (by kernel_rfl) (by kernel_rfl) (fun _ _ _ h => h) (Or.inl ⟨by rfl, ?_⟩) (by assumption) ?_
          rotate_left
          · intro w hSw
            (try dsimp only at hSw)
            go_simp
            first | done | with_reducible rfl
          try simp only [Act.put, List.getElem_toArray, List.getElem_cons_succ, List.getElem_cons_zero, List.setIfInBounds_toArray, List.set_cons_zero, List.set_cons_succ]
          refine wpAnyH_take (i := 23) (v := ?_) rfl (by kernel_rfl) (by kernel_rfl) (by kernel_rfl) (fun _ _ _ h => h) (Or.inl ⟨by rfl, ?_⟩) (by assumption) ?_
          rotate_left
          · intro w hSw
            (try dsimp only at hSw)
            go_simp
            first | done | with_reducible rfl
          try simp only [Act.put, List.getElem_toArray, List.getElem_cons_succ, List.getElem_cons_zero, List.setIfInBounds_toArray, List.set_cons_zero, List.set_cons_succ]
          refine wpAnyH_take (i := 24) (v := ?_) rfl (by kernel_rfl) (by kernel_rfl) (by kernel_rfl) (fun _ _ _ h => h) (Or.inl ⟨by rfl, ?_⟩) (by assumption) ?_
          rotate_left
          · intro w hSw
            (try dsimp only at hSw)
            have q1 := conv_sees hSw.1
            go_simp
            first | done | with_reducible rfl
          try simp only [Act.put, List.getElem_toArray, List.getElem_cons_succ, List.getElem_cons_zero, List.setIfInBounds_toArray, List.set_cons_zero, List.set_cons_succ]
          refine wpAnyH_take (i := 25) (v := ?_) rfl (by kernel_rfl) (by kernel_rfl) (by kernel_rfl) (fun _ _ _ h => h) (Or.inl ⟨by rfl, ?_⟩) (by assumption) ?_
          rotate_left
          · intro w hSw
            (try dsimp only at hSw)
            go_simp
            first | done | with_reducible rfl
          try simp only [Act.put, List.getElem_toArray, List.getElem_cons_succ, List.getElem_cons_zero, List.setIfInBounds_toArray, List.set_cons_zero, List.set_cons_succ]
          refine wpAnyH_take (i := 26) (v := ?_) rfl (by kernel_rfl) (by kernel_rfl) (by kernel_rfl) (fun _ _ _ h => h) (Or.inl ⟨by rfl, ?_⟩) (by assumption) ?_
          rotate_left
          · intro w hSw
            (try dsimp only at hSw)
            go_simp
            first | done | with_reducible rfl
          try simp only [Act.put, List.getElem_toArray, List.getElem_cons_succ, List.getElem_cons_zero, List.setIfInBounds_toArray, List.set_cons_zero, List.set_cons_succ]
          refine wpAnyH_take (i := 27) (v := ?_) rfl (by kernel_rfl) (by kernel_rfl) (by kernel_rfl) (fun _ _ _ h => h) (Or.inl ⟨by rfl, ?_⟩) (by assumption) ?_
          rotate_left
          · intro w hSw
            (try dsimp only at hSw)
            go_simp
            first | done | with_reducible rfl
          try simp only [Act.put, List.getElem_toArray, List.getElem_cons_succ, List.getElem_cons_zero, List.setIfInBounds_toArray, List.set_cons_zero, List.set_cons_succ]
          refine wpAnyH_take (i := 28) (v := ?_) rfl (by kernel_rfl) (by kernel_rfl) (by kernel_rfl) (fun _ _ _ h => h) (Or.inl ⟨by rfl, ?_⟩) (by assumption) ?_
          rotate_left
          · intro w hSw
            (try dsimp only at hSw)
            go_simp
            first | done | with_reducible rfl
          try simp only [Act.put, List.getElem_toArray, List.getElem_cons_succ, List.getElem_cons_zero, List.setIfInBounds_toArray, List.set_cons_zero, List.set_cons_succ]
          refine wpAnyH_take (i := 29) (v := ?_) rfl (by kernel_rfl) (by kernel_rfl) (by kernel_rfl) (fun _ _ _ h => h) (Or.inl ⟨by rfl, ?_⟩) (by assumption) ?_
          rotate_left
          · intro w hSw
            (try dsimp only at hSw)
            go_simp
            first | done | with_reducible rfl
          try simp only [Act.put, List.getElem_toArray, List.getElem_cons_succ, List.getElem_cons_zero, List.setIfInBounds_toArray, List.set_cons_zero, List.set_cons_succ]
          refine wpAnyH_take (i := 30) (v := ?_) rfl (by kernel_rfl) (by kernel_rfl) (by kernel_rfl) (fun _ _ _ h => h) (Or.inl ⟨by rfl, ?_⟩) (by assumption) ?_
          rotate_left
          · intro w hSw
            (try dsimp only at hSw)
            go_simp
            first | done | with_reducible rfl
          try simp only [Act.put, List.getElem_toArray, List.getElem_cons_succ, List.getElem_cons_zero, List.setIfInBounds_toArray, List.set_cons_zero, List.set_cons_succ]
          refine wpAnyH_take (i := 32) (v := ?_) rfl (by kernel_rfl) (by kernel_rfl) (by kernel_rfl) (fun _ _ _ h => h) (Or.inl ⟨by rfl, ?_⟩) (by assumption) ?_
          rotate_left
          · intro w hSw
            (try dsimp only at hSw)
            go_simp
            first | done | with_reducible rfl
          try simp only [Act.put, List.getElem_toArray, List.getElem_cons_succ, List.getElem_cons_zero, List.setIfInBounds_toArray, List.set_cons_zero, List.set_cons_succ]
          refine wpAnyH_take (i := 33) (v := ?_) rfl (by kernel_rfl) (by kernel_rfl) (by kernel_rfl) (fun _ _ _ h => h) (Or.inl ⟨by rfl, ?_⟩) (by assumption) ?_
          rotate_left
          · intro w hSw
            (try dsimp only at hSw)
            go_simp
            first | done | with_reducible rfl
          try simp only [Act.put, List.getElem_toArray, List.getElem_cons_succ, List.getElem_cons_zero, List.setIfInBounds_toArray, List.set_cons_zero, List.set_cons_succ]
          refine wpAnyH_ready (rs := [31]) (by kernel_rfl) (by simp) ?_
          refine AllReadyH.cons rfl (fun K hK => ?_) AllReadyH.nil
          have hbd : Below w5.heap.size w5 w5.drew := ⟨rfl, rfl, rfl, Nat.le_refl _, fun _ _ => rfl⟩
          go_simp
          refine (HSU.out _ (HDr.out.below (bel HC5.out.2 hbd))).mono ?_; rintro e w6 ⟨rfl, hb6⟩
          have hb56 : Below w5.heap.size w5 w6 := bel hbd hb6
          refine hK.out _ _ ?_ (fun r1 => ?_)
          · exact ⟨HC5.out.1.keep hb56, (hb56.cell (cell_lt8 y0)).trans y0, (hb56.cell (cell_lt8 y1)).trans y1, (hb56.cell (cell_lt8 y2)).trans y2⟩
          try simp only [Act.put, List.getElem_toArray, List.getElem_cons_succ, List.getElem_cons_zero, List.setIfInBounds_toArray, List.set_cons_zero, List.set_cons_succ]
          refine wpAnyH_take (i := 34) (v := ?_) rfl (by kernel_rfl) (by kernel_rfl) (by kernel_rfl) (fun _ _ _ h => h) (Or.inl ⟨by rfl, ?_⟩) (by assumption) ?_
          rotate_left
          · intro w hSw
            (try dsimp only at hSw)
            go_simp
            first | done | with_reducible rfl
          try simp only [Act.put, List.getElem_toArray, List.getElem_cons_succ, List.getElem_cons_zero, List.setIfInBounds_toArray, List.set_cons_zero, List.set_cons_succ]
          refine wpAnyH_take (i := 35) (v := ?_) rfl (by kernel_rfl) (by kernel_rfl) (by kernel_rfl) (fun _ _ _ h => h) (Or.inl ⟨by rfl, ?_⟩) (by assumption) ?_
          rotate_left
          · intro w hSw
            (try dsimp only at hSw)
            go_simp
            first | done | with_reducible rfl
          try simp only [Act.put, List.getElem_toArray, List.getElem_cons_succ, List.getElem_cons_zero, List.setIfInBounds_toArray, List.set_cons_zero, List.set_cons_succ]
          refine wpAnyH_done (by kernel_rfl) ?_ _
          have hbnd : D.fs.length ≤ 30 := by omega
          go_wp2_with fail
          go_roundw
          case rel => exact ⟨i + 1, by omega, by go_num, bel HBB.out (bel HC5.out.2 hb56)⟩
          case measure => simp [intOf]; omega
        · obtain rfl : i = D.fs.length := by omega
          go_wp2_with fail
          refine (awake6_any _).mono ?_; rintro e w9 ⟨rfl, hb9⟩
          go_wp2_with fail
          go_ret
          exact ⟨rfl, bel (bel HB4.out hB) hb9⟩
end Go.Proofs.Ytkjdfelmjanpcaa
