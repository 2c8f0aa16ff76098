/- The walk of SnapPlays. Conditions: the world facts of Env. -/
import Derived.Test.YtkjdfelmjanpcaaDoorSnRef2
import Derived.Test.YtkjdfelmjanpcaaDoorSnOpen
import Derived.Test.YtkjdfelmjanpcaaDoorSnOnce
import Derived.Deep.CutBlock
namespace Go.Proofs.YtkjdfelmjanpcaaDoor
open Go.RowKit Go.Maps
theorem Sees.over2 {w a b : World} {B : Nat} {v : Value} {xs : List Int} (h : Sees a v xs) (ha : Below B w a) (hb : Below B w b) (hv : xs ≠ [] → ∀ d, v.ownBlock = some d → d < B) : Sees b v xs := by
  by_cases hx : xs = []
  · subst hx
    obtain ⟨ao, c, e, h2, h3, _⟩ := h
    exact ⟨ao, c, e, h2, h3, fun a _ i hi => absurd hi (by simp)⟩
  · exact h.over ha hb (hv hx)
theorem toList_len8 (s : ByteArray) : s.data.toList.length = s.size := by rw [Array.length_toList]; rfl
theorem SmallF.app2 {n : Nat} {D : DSt} (h : SmallF n D.fs) {k : List UInt8} (hk : k.length ≤ maxLen) {t : List Int} (ht : t.length ≤ 100) : SmallF (n + 2) (appD D k t).2.fs := by
  unfold appD
  split
  · exact h.mono (by omega)
  · have h1 := h.getD k
    exact ((h.mono (Nat.le_succ n)).put hk (by simp only [List.length_append]; omega) (by simp only [List.length_append]; omega))
theorem SmallF.rm {n : Nat} {D : DSt} (h : SmallF n D.fs) (k : List UInt8) : SmallF (n + 1) (rmD D k).2.fs := by
  unfold rmD
  split
  · exact h.remove k
  · exact h.remove k
theorem SmallF.save {n : Nat} {D : DSt} (h : SmallF n D.fs) {nm : ByteArray} (hn : nm.size + 1 ≤ maxLen) {t : List Int} (ht : t.length ≤ 60) : SmallF (n + 5) (saveD D nm t).2.fs := by
  have hs := seal_len t
  have ht1 : (tilde nm).data.toList.length ≤ maxLen := by rw [toList_len8, tilde_size]; exact hn
  have hn1 : nm.data.toList.length ≤ maxLen := by rw [toList_len8]; omega
  have h1 := h.rm (tilde nm).data.toList
  have h2 := h1.app2 ht1 (t := sealL t) (by omega)
  have h3 := h2.sync (tilde nm).data.toList
  have h4 := h3.rename (tilde nm).data.toList hn1
  unfold saveD stepsD
  split
  · split
    · split
      · exact h4.mono (by omega)
      · exact h3.mono (by omega)
    · exact h2.mono (by omega)
  · exact h1.mono (by omega)
set_option linter.unusedVariables false in
set_option linter.unusedSimpArgs false in
set_option maxRecDepth 100000 in
set_option maxHeartbeats 16000000 in
theorem lawPlays8 (w : World) (b : Value) (os : List Op8) (name : ByteArray) (h : ArgOps8 w b os) (hname : name.size ≤ maxLen) (hE : Env w) :
    Calls Tryd.prog 7 #[b, .string name] w fun e w' => e = .returned (.bool true) ∧ Below w.heap.size w w' := by
  obtain ⟨⟨ao, c, rfl, hlc, hnil, hc⟩, hok, hm⟩ := h
  unfold maxLen at hm
  have HC0 := Lib.hid (And.intro hnil hc)
  have HO := Lib.hid hok
  clear hnil hc hok
  go_enter Tryd.func7, Tryd.ntmps7
  go_wp2_with fail
  refine (new_disk w).mono ?_; rintro e w1 ⟨g, rfl, hD1, hg, hb1⟩
  go_wp2_with fail
  refine (New_r w1).mono ?_; rintro e w2 ⟨r, rfl, hR2, hr, hb2⟩
  have hz1 := hb1.size
  have hP2 : Pair w.heap.size w2 g (· = g) ⟨[], false, false, 0⟩ r (· = r) ⟨[], false, false, 0⟩ :=
    ⟨hD1.below hb2, hR2, (fun i hp hq => by have := hD1.lt hp; omega), (fun i e => by rw [e]; exact hg), fun i e => by rw [e]; omega⟩
  have hB2 := bel hb1 hb2
  clear hD1 hR2 hb1 hb2
  go_wp2_with fail
  go_loopw [18] (fun j wr => ∃ i : Nat, j = .int .i64 i ∧ i ≤ os.length ∧ i ≤ 25 ∧ ∃ (P Q : Nat → Prop) (D : DSt), Pair w.heap.size wr g P D r Q D ∧ SmallF (5 * i) D.fs ∧ Below w.heap.size w wr) (fun j _ => os.length - (intOf j).toNat)
  case atStart => exact ⟨0, rfl, Nat.zero_le _, Nat.zero_le _, _, _, _, hP2, SmallF.nil, hB2⟩
  case round =>
    obtain ⟨i, rfl, hi, hi25, P, Q, D, hP, hS, hB⟩ := hrel
    by_cases hlt : i < os.length
    · by_cases h25 : i < 25
      · have d0 : decide (25 ≤ (i : Int)) = false := by simp; omega
        obtain ⟨a, rfl⟩ : ∃ a, ao = some a := by
          cases ao with
          | none => rw [HC0.out.1 rfl] at hlt; simp at hlt
          | some a => exact ⟨a, rfl⟩
        have hse := HC0.out.2 a rfl i hlt
        have hok1 := HO.out (os.getD i default) (by simp [List.getD, hlt])
        generalize os.getD i default = o at hse hok1
        obtain ⟨k, nm, pv, ps, n, kv, ks⟩ := o
        obtain ⟨k0, k1, k2, k3, k4, hps, hks⟩ := hse
        obtain ⟨⟨hpo, hn, hkb⟩, hnm⟩ := hok1
        simp only [] at k0 k1 k2 k3 k4 hps hks hpo hn hkb hnm
        obtain ⟨ko, kc, hkv, -⟩ := id hks
        obtain ⟨po, pc, hpv, -⟩ := id hps
        subst hkv
        subst hpv
        have e0 := (hB.cell (cell_lt8 k0)).trans k0
        have e1 : wr.cell? { block := (a.add (i * 5)).block, off := (a.add (i * 5)).off + 1 } = some (.string nm) := (hB.cell (cell_lt8 k1)).trans k1
        have e2 : wr.cell? { block := (a.add (i * 5)).block, off := (a.add (i * 5)).off + 2 } = some (.slice po ps.length pc) := (hB.cell (cell_lt8 k2)).trans k2
        have e3 : wr.cell? { block := (a.add (i * 5)).block, off := (a.add (i * 5)).off + 3 } = some (.int .i64 n) := (hB.cell (cell_lt8 k3)).trans k3
        have e4 : wr.cell? { block := (a.add (i * 5)).block, off := (a.add (i * 5)).off + 4 } = some (.slice ko ks.length kc) := (hB.cell (cell_lt8 k4)).trans k4
        have b0 : (0 : Int) ≤ (i : Int) := by omega
        have b1 : (i : Int) < (os.length : Int) := by omega
        obtain ⟨wx, hwx⟩ : ∃ wx, wx = wr.alloc (.cells #[.int .i64 k, .string nm, .slice po ps.length pc, .int .i64 n, .slice ko ks.length kc] 66) := ⟨_, rfl⟩
        have hbA : Below wr.heap.size wr wx := by rw [hwx]; exact belNew wr _
        obtain ⟨bx, hbx0⟩ : ∃ bx, bx = wr.heap.size := ⟨_, rfl⟩
        have hbx : wx.heap[bx]? = some (.cells #[.int .i64 k, .string nm, .slice po ps.length pc, .int .i64 n, .slice ko ks.length kc] 66 (0, 0)) := by rw [hwx, hbx0]; exact heap_alloc_new wr _
        have HPx := Lib.hid (hP.below hbA)
        have hBx := bel hB hbA
        have HPQ : Hid (¬ P bx ∧ ¬ Q bx) := Lib.hid ⟨fun hp => by have := hP.1.lt hp; omega, fun hp => by have := hP.2.1.lt hp; omega⟩
        have HBW := Lib.hid hBx
        have HSm := Lib.hid hS
        have HKS : Hid (SeesU w (.slice ko ks.length kc) ks ∧ (∀ x ∈ ks, 0 ≤ x ∧ x < 65536) ∧ (ks ≠ [] → ∀ d, (Value.slice ko ks.length kc).ownBlock = some d → d < w.heap.size)) := Lib.hid ⟨hks, hkb, fun h0 d hd => by
          obtain ⟨ko', kc', e1, _, _, e2⟩ := hks
          obtain rfl : ko = ko' := by injection e1
          cases ko with
          | none => cases hd
          | some ka =>
            have h2 := cell_lt8 (e2 ka rfl 0 (List.length_pos_iff.2 h0))
            rw [add_block] at h2
            cases hd
            omega⟩
        have HN := Lib.hid (And.intro hn hnm)
        have HCUT := Lib.hid (cut8_any (.slice po ps.length pc) ps wx (hps.keep hBx))
        have HPS := Lib.hid hps
        have HTN : Hid (ps.take 60 ≠ [] → ps ≠ []) := Lib.hid (by rintro h rfl; exact h List.take_nil)
        have hTo := hpo.take 60
        have hTl : (ps.take 60).length ≤ 60 := by rw [List.length_take]; omega
        have HWX := Lib.hid hwx
        have HBX0 := Lib.hid hbx0
        clear hP hS hB hbA hBx k0 k1 k2 k3 k4 hps hks hpo hn hkb hnm hwx hbx0
        go_wp2_with fail
        rw [← HWX.out]
        refine HCUT.out.mono ?_; rintro e w' ⟨tof, tc, rfl, hse, htd, rfl⟩
        rw [← HBX0.out]
        have HTB0 : ps.take 60 ≠ [] → ∀ d, (Value.slice tof (ps.take 60).length tc).ownBlock = some d → d < w.heap.size := fun hne d hd => HPS.out.lt (HTN.out hne) (htd d hd)
        obtain ⟨t, ht⟩ : ∃ t, t = ps.take 60 := ⟨_, rfl⟩
        rw [← ht] at hse hTo hTl htd HTB0 ⊢
        have HTO := Lib.hid hTo
        have HTB := Lib.hid HTB0
        have HSE := Lib.hid hse
        have HBX := Lib.hid hbx
        obtain ⟨x0, x1, x2, x3, x4⟩ : wx.cell? ⟨bx, 0, none⟩ = some (.int .i64 k) ∧ wx.cell? ⟨bx, 1, none⟩ = some (.string nm) ∧ wx.cell? ⟨bx, 2, none⟩ = some (.slice po ps.length pc) ∧ wx.cell? ⟨bx, 3, none⟩ = some (.int .i64 n) ∧ wx.cell? ⟨bx, 4, none⟩ = some (.slice ko ks.length kc) := by simp [World.cell?, hbx]
        clear ht hTo htd HTB0 hse hbx
        go_upto_block 2 with (fail)
        go_cut [5] from 30 to 109 (fun s5 wy => s5 = ptr g ∧ ∃ (P' Q' : Nat → Prop) (D' : DSt), Pair w.heap.size wy g P' D' r Q' D' ∧ SmallF (5 * i + 5) D'.fs ∧ Below w.heap.size w wy)
        case first =>
          by_cases hk0 : k = 0
          · subst hk0
            by_cases hne : nm.data.toList = []
            · obtain rfl : nm = ⟨#[]⟩ := ByteArray.ext (Array.toList_inj.1 hne)
              go_wp2_with fail
              refine wp_region_held_drew (S := (fun W => W.cell? ⟨bx, 1, none⟩ = some (.string ⟨#[]⟩) ∧ Sees W (.slice tof t.length tc) t)) (by kernel_rfl) ?_ (fun r0 => ?_)
              · exact ⟨x1, HSE.out⟩
              refine wpAnyH_take (i := 0) (v := ?_) rfl (by kernel_rfl) (by kernel_rfl) (by kernel_rfl) (fun _ _ _ h => h) (Or.inl ⟨by rfl, ?_⟩) (by assumption) ?_
              rotate_left
              · intro w hSw
                (try dsimp only at hSw)
                go_simp
                first | done | with_reducible rfl
              try simp only [Act.put, List.getElem_toArray, List.getElem_cons_succ, List.getElem_cons_zero, List.setIfInBounds_toArray, List.set_cons_zero, List.set_cons_succ]
              refine wpAnyH_take (i := 1) (v := ?_) rfl (by kernel_rfl) (by kernel_rfl) (by kernel_rfl) (fun _ _ _ h => h) (Or.inl ⟨by rfl, ?_⟩) (by assumption) ?_
              rotate_left
              · intro w hSw
                (try dsimp only at hSw)
                go_simp
                first | done | with_reducible rfl
              try simp only [Act.put, List.getElem_toArray, List.getElem_cons_succ, List.getElem_cons_zero, List.setIfInBounds_toArray, List.set_cons_zero, List.set_cons_succ]
              refine wpAnyH_take (i := 2) (v := ?_) rfl (by kernel_rfl) (by kernel_rfl) (by kernel_rfl) (fun _ _ _ h => h) (Or.inl ⟨by rfl, ?_⟩) (by assumption) ?_
              rotate_left
              · intro w hSw
                (try dsimp only at hSw)
                go_simp
                first | done | with_reducible rfl
              try simp only [Act.put, List.getElem_toArray, List.getElem_cons_succ, List.getElem_cons_zero, List.setIfInBounds_toArray, List.set_cons_zero, List.set_cons_succ]
              refine wpAnyH_take (i := 3) (v := ?_) rfl (by kernel_rfl) (by kernel_rfl) (by kernel_rfl) (fun _ _ _ h => h) (Or.inl ⟨by rfl, ?_⟩) (by assumption) ?_
              rotate_left
              · intro w hSw
                (try dsimp only at hSw)
                go_simp
                first | done | with_reducible rfl
              try simp only [Act.put, List.getElem_toArray, List.getElem_cons_succ, List.getElem_cons_zero, List.setIfInBounds_toArray, List.set_cons_zero, List.set_cons_succ]
              refine wpAnyH_take (i := 5) (v := ?_) rfl (by kernel_rfl) (by kernel_rfl) (by kernel_rfl) (fun _ _ _ h => h) (Or.inl ⟨by rfl, ?_⟩) (by assumption) ?_
              rotate_left
              · intro w hSw
                (try dsimp only at hSw)
                go_simp
                first | done | with_reducible rfl
              try simp only [Act.put, List.getElem_toArray, List.getElem_cons_succ, List.getElem_cons_zero, List.setIfInBounds_toArray, List.set_cons_zero, List.set_cons_succ]
              refine wpAnyH_take (i := 6) (v := ?_) rfl (by kernel_rfl) (by kernel_rfl) (by kernel_rfl) (fun _ _ _ h => h) (Or.inl ⟨by rfl, ?_⟩) (by assumption) ?_
              rotate_left
              · intro w hSw
                (try dsimp only at hSw)
                go_simp
                first | done | with_reducible rfl
              try simp only [Act.put, List.getElem_toArray, List.getElem_cons_succ, List.getElem_cons_zero, List.setIfInBounds_toArray, List.set_cons_zero, List.set_cons_succ]
              refine wpAnyH_take (i := 7) (v := ?_) rfl (by kernel_rfl) (by kernel_rfl) (by kernel_rfl) (fun _ _ _ h => h) (Or.inl ⟨by rfl, ?_⟩) (by assumption) ?_
              rotate_left
              · intro w hSw
                (try dsimp only at hSw)
                go_simp
                first | done | with_reducible rfl
              try simp only [Act.put, List.getElem_toArray, List.getElem_cons_succ, List.getElem_cons_zero, List.setIfInBounds_toArray, List.set_cons_zero, List.set_cons_succ]
              refine wpAnyH_take (i := 8) (v := ?_) rfl (by kernel_rfl) (by kernel_rfl) (by kernel_rfl) (fun _ _ _ h => h) (Or.inl ⟨by rfl, ?_⟩) (by assumption) ?_
              rotate_left
              · intro w hSw
                (try dsimp only at hSw)
                go_simp
                first | done | with_reducible rfl
              try simp only [Act.put, List.getElem_toArray, List.getElem_cons_succ, List.getElem_cons_zero, List.setIfInBounds_toArray, List.set_cons_zero, List.set_cons_succ]
              refine wpAnyH_ready (rs := [4]) (by kernel_rfl) (by simp) ?_
              refine AllReadyH.cons rfl (fun K hK => ?_) AllReadyH.nil
              go_simp
              refine (save_empty (ptr g) (.slice tof t.length tc) wx.drew tof t.length tc rfl ⟨_, rfl⟩).mono ?_; rintro e w2 ⟨rfl, hb2⟩
              have r1 := (⟨(hb2.cell (cell_lt8 x1)).trans x1, HSE.out.keep (bel (belDrew wx) hb2)⟩ : w2.cell? ⟨bx, 1, none⟩ = some (.string ⟨#[]⟩) ∧ Sees w2 (.slice tof t.length tc) t)
              refine hK.out _ _ r1 (fun _ => ?_)
              try simp only [Act.put, List.getElem_toArray, List.getElem_cons_succ, List.getElem_cons_zero, List.setIfInBounds_toArray, List.set_cons_zero, List.set_cons_succ]
              refine wpAnyH_ready (rs := [9]) (by kernel_rfl) (by simp) ?_
              refine AllReadyH.cons rfl (fun K hK => ?_) AllReadyH.nil
              go_simp
              refine (rsave_empty r (.slice tof t.length tc) w2).mono ?_; rintro e w3 ⟨rfl, rfl⟩
              refine hK.out _ _ r1 (fun _ => ?_)
              try simp only [Act.put, List.getElem_toArray, List.getElem_cons_succ, List.getElem_cons_zero, List.setIfInBounds_toArray, List.set_cons_zero, List.set_cons_succ]
              refine wpAnyH_take (i := 10) (v := ?_) rfl (by kernel_rfl) (by kernel_rfl) (by kernel_rfl) (fun _ _ _ h => h) (Or.inl ⟨by rfl, ?_⟩) (by assumption) ?_
              rotate_left
              · intro w hSw
                (try dsimp only at hSw)
                go_simp
                first | done | with_reducible rfl
              try simp only [Act.put, List.getElem_toArray, List.getElem_cons_succ, List.getElem_cons_zero, List.setIfInBounds_toArray, List.set_cons_zero, List.set_cons_succ]
              refine wpAnyH_done (by kernel_rfl) ?_ _
              go_wp2_with fail
              go_meet
              case rel => exact ⟨rfl, P, Q, D, HPx.out.below (bel (belDrew wx) hb2), HSm.out.mono (by omega), bel HBW.out (bel (belDrew wx) hb2)⟩
            · go_wp2_with fail
              refine wp_region_held_drew (S := (fun W => W.cell? ⟨bx, 1, none⟩ = some (.string nm) ∧ Sees W (.slice tof t.length tc) t)) (by kernel_rfl) ?_ (fun r0 => ?_)
              · exact ⟨x1, HSE.out⟩
              refine wpAnyH_take (i := 0) (v := ?_) rfl (by kernel_rfl) (by kernel_rfl) (by kernel_rfl) (fun _ _ _ h => h) (Or.inl ⟨by rfl, ?_⟩) (by assumption) ?_
              rotate_left
              · intro w hSw
                (try dsimp only at hSw)
                go_simp
                first | done | with_reducible rfl
              try simp only [Act.put, List.getElem_toArray, List.getElem_cons_succ, List.getElem_cons_zero, List.setIfInBounds_toArray, List.set_cons_zero, List.set_cons_succ]
              refine wpAnyH_take (i := 1) (v := ?_) rfl (by kernel_rfl) (by kernel_rfl) (by kernel_rfl) (fun _ _ _ h => h) (Or.inl ⟨by rfl, ?_⟩) (by assumption) ?_
              rotate_left
              · intro w hSw
                (try dsimp only at hSw)
                go_simp
                first | done | with_reducible rfl
              try simp only [Act.put, List.getElem_toArray, List.getElem_cons_succ, List.getElem_cons_zero, List.setIfInBounds_toArray, List.set_cons_zero, List.set_cons_succ]
              refine wpAnyH_take (i := 2) (v := ?_) rfl (by kernel_rfl) (by kernel_rfl) (by kernel_rfl) (fun _ _ _ h => h) (Or.inl ⟨by rfl, ?_⟩) (by assumption) ?_
              rotate_left
              · intro w hSw
                (try dsimp only at hSw)
                go_simp
                first | done | with_reducible rfl
              try simp only [Act.put, List.getElem_toArray, List.getElem_cons_succ, List.getElem_cons_zero, List.setIfInBounds_toArray, List.set_cons_zero, List.set_cons_succ]
              refine wpAnyH_take (i := 3) (v := ?_) rfl (by kernel_rfl) (by kernel_rfl) (by kernel_rfl) (fun _ _ _ h => h) (Or.inl ⟨by rfl, ?_⟩) (by assumption) ?_
              rotate_left
              · intro w hSw
                (try dsimp only at hSw)
                go_simp
                first | done | with_reducible rfl
              try simp only [Act.put, List.getElem_toArray, List.getElem_cons_succ, List.getElem_cons_zero, List.setIfInBounds_toArray, List.set_cons_zero, List.set_cons_succ]
              refine wpAnyH_take (i := 5) (v := ?_) rfl (by kernel_rfl) (by kernel_rfl) (by kernel_rfl) (fun _ _ _ h => h) (Or.inl ⟨by rfl, ?_⟩) (by assumption) ?_
              rotate_left
              · intro w hSw
                (try dsimp only at hSw)
                go_simp
                first | done | with_reducible rfl
              try simp only [Act.put, List.getElem_toArray, List.getElem_cons_succ, List.getElem_cons_zero, List.setIfInBounds_toArray, List.set_cons_zero, List.set_cons_succ]
              refine wpAnyH_take (i := 6) (v := ?_) rfl (by kernel_rfl) (by kernel_rfl) (by kernel_rfl) (fun _ _ _ h => h) (Or.inl ⟨by rfl, ?_⟩) (by assumption) ?_
              rotate_left
              · intro w hSw
                (try dsimp only at hSw)
                go_simp
                first | done | with_reducible rfl
              try simp only [Act.put, List.getElem_toArray, List.getElem_cons_succ, List.getElem_cons_zero, List.setIfInBounds_toArray, List.set_cons_zero, List.set_cons_succ]
              refine wpAnyH_take (i := 7) (v := ?_) rfl (by kernel_rfl) (by kernel_rfl) (by kernel_rfl) (fun _ _ _ h => h) (Or.inl ⟨by rfl, ?_⟩) (by assumption) ?_
              rotate_left
              · intro w hSw
                (try dsimp only at hSw)
                go_simp
                first | done | with_reducible rfl
              try simp only [Act.put, List.getElem_toArray, List.getElem_cons_succ, List.getElem_cons_zero, List.setIfInBounds_toArray, List.set_cons_zero, List.set_cons_succ]
              refine wpAnyH_take (i := 8) (v := ?_) rfl (by kernel_rfl) (by kernel_rfl) (by kernel_rfl) (fun _ _ _ h => h) (Or.inl ⟨by rfl, ?_⟩) (by assumption) ?_
              rotate_left
              · intro w hSw
                (try dsimp only at hSw)
                go_simp
                first | done | with_reducible rfl
              try simp only [Act.put, List.getElem_toArray, List.getElem_cons_succ, List.getElem_cons_zero, List.setIfInBounds_toArray, List.set_cons_zero, List.set_cons_succ]
              have hPd := HPx.out.below (belDrew wx)
              have hBd := HBW.out.trans ((belDrew wx).mono HBW.out.size)
              refine wpAnyH_ready (rs := [4]) (by kernel_rfl) (by simp) ?_
              refine AllReadyH.cons rfl (fun K hK => ?_) AllReadyH.nil
              go_simp
              refine (save_any g P D nm _ t w wx.drew hPd.1 hne (by have := HN.out.2; unfold reachBytes at this; unfold maxLen; omega) (by have := HSm.out.1; omega) (by have := (HSm.out.getD (tilde nm).data.toList).1; omega) r0.2 (fun h0 d hd hp => by have h1 := HTB.out h0 d hd; have h2 := HPx.out.2.2.2.1 d hp; omega) HTO.out (by omega) hE hBd hPd.2.2.2.1).mono ?_; rintro e w2 ⟨P2, rfl, hD2, hS2⟩
              have hP2 := hPd.callD hD2 hS2
              have hc2 : w2.cell? ⟨bx, 1, none⟩ = some (.string nm) := (World.cell?_of_block (hS2.1.2.2.2.2 bx (heap_lt HBX.out) HPQ.out.1)).trans r0.1
              have hB2' := hBd.trans hP2.2
              have hse2 : Sees w2 (.slice tof t.length tc) t := r0.2.over2 hBd hB2' HTB.out
              refine hK.out _ _ ⟨hc2, hse2⟩ (fun _ => ?_)
              try simp only [Act.put, List.getElem_toArray, List.getElem_cons_succ, List.getElem_cons_zero, List.setIfInBounds_toArray, List.set_cons_zero, List.set_cons_succ]
              have r1 : w2.cell? ⟨bx, 1, none⟩ = some (.string nm) ∧ Sees w2 (.slice tof t.length tc) t := ⟨hc2, hse2⟩
              refine wpAnyH_ready (rs := [9]) (by kernel_rfl) (by simp) ?_
              refine AllReadyH.cons rfl (fun K hK => ?_) AllReadyH.nil
              go_simp
              refine (rsave_any r Q D nm _ t w2 hP2.1.2.1 hne (by have := HN.out.2; unfold reachBytes at this; omega) (by have := HSm.out.1; omega) (by have := (HSm.out.getD (tilde nm).data.toList).1; omega) r1.2 (fun h0 d hd hp => by have h1 := HTB.out h0 d hd; have h2 := HPx.out.2.2.2.2 d hp; omega) HTO.out (by omega)).mono ?_; rintro e w3 ⟨Q3, rfl, hR3, hS3⟩
              have hP3 := hP2.1.callR hR3 hS3
              have hc3 : w3.cell? ⟨bx, 1, none⟩ = some (.string nm) := (World.cell?_of_block (hS3.1.2.2.2.2 bx (cell_lt8 hc2) HPQ.out.2)).trans hc2
              have hse3 : Sees w3 (.slice tof t.length tc) t := hse2.over2 hB2' (hB2'.trans hP3.2) HTB.out
              refine hK.out _ _ ⟨hc3, hse3⟩ (fun _ => ?_)
              try simp only [Act.put, List.getElem_toArray, List.getElem_cons_succ, List.getElem_cons_zero, List.setIfInBounds_toArray, List.set_cons_zero, List.set_cons_succ]
              have r2 : w3.cell? ⟨bx, 1, none⟩ = some (.string nm) ∧ Sees w3 (.slice tof t.length tc) t := ⟨hc3, hse3⟩
              refine wpAnyH_take (i := 10) (v := ?_) rfl (by kernel_rfl) (by kernel_rfl) (by kernel_rfl) (fun _ _ _ h => h) (Or.inl ⟨by rfl, ?_⟩) (by assumption) ?_
              rotate_left
              · intro w hSw
                (try dsimp only at hSw)
                go_simp
                first | done | with_reducible rfl
              try simp only [Act.put, List.getElem_toArray, List.getElem_cons_succ, List.getElem_cons_zero, List.setIfInBounds_toArray, List.set_cons_zero, List.set_cons_succ]
              refine wpAnyH_done (by kernel_rfl) ?_ _
              go_wp2_with fail
              go_meet
              case rel => exact ⟨rfl, P2, Q3, _, hP3.1, HSm.out.save (by have := HN.out.2; unfold reachBytes at this; unfold maxLen; omega) hTl, hB2'.trans hP3.2⟩
          have e0' : (k == 0) = false := by simpa using hk0
          by_cases hk1 : k = 1
          · subst hk1
            by_cases hne : nm.data.toList = []
            · obtain rfl : nm = ⟨#[]⟩ := ByteArray.ext (Array.toList_inj.1 hne)
              go_wp2_with fail
              refine wp_region_held_drew (S := (fun W => W.cell? ⟨bx, 1, none⟩ = some (.string ⟨#[]⟩) ∧ Sees W (.slice tof t.length tc) t)) (by kernel_rfl) ?_ (fun r0 => ?_)
              · exact ⟨x1, HSE.out⟩
              refine wpAnyH_take (i := 0) (v := ?_) rfl (by kernel_rfl) (by kernel_rfl) (by kernel_rfl) (fun _ _ _ h => h) (Or.inl ⟨by rfl, ?_⟩) (by assumption) ?_
              rotate_left
              · intro w hSw
                (try dsimp only at hSw)
                go_simp
                first | done | with_reducible rfl
              try simp only [Act.put, List.getElem_toArray, List.getElem_cons_succ, List.getElem_cons_zero, List.setIfInBounds_toArray, List.set_cons_zero, List.set_cons_succ]
              refine wpAnyH_take (i := 1) (v := ?_) rfl (by kernel_rfl) (by kernel_rfl) (by kernel_rfl) (fun _ _ _ h => h) (Or.inl ⟨by rfl, ?_⟩) (by assumption) ?_
              rotate_left
              · intro w hSw
                (try dsimp only at hSw)
                go_simp
                first | done | with_reducible rfl
              try simp only [Act.put, List.getElem_toArray, List.getElem_cons_succ, List.getElem_cons_zero, List.setIfInBounds_toArray, List.set_cons_zero, List.set_cons_succ]
              refine wpAnyH_take (i := 2) (v := ?_) rfl (by kernel_rfl) (by kernel_rfl) (by kernel_rfl) (fun _ _ _ h => h) (Or.inl ⟨by rfl, ?_⟩) (by assumption) ?_
              rotate_left
              · intro w hSw
                (try dsimp only at hSw)
                go_simp
                first | done | with_reducible rfl
              try simp only [Act.put, List.getElem_toArray, List.getElem_cons_succ, List.getElem_cons_zero, List.setIfInBounds_toArray, List.set_cons_zero, List.set_cons_succ]
              refine wpAnyH_take (i := 3) (v := ?_) rfl (by kernel_rfl) (by kernel_rfl) (by kernel_rfl) (fun _ _ _ h => h) (Or.inl ⟨by rfl, ?_⟩) (by assumption) ?_
              rotate_left
              · intro w hSw
                (try dsimp only at hSw)
                go_simp
                first | done | with_reducible rfl
              try simp only [Act.put, List.getElem_toArray, List.getElem_cons_succ, List.getElem_cons_zero, List.setIfInBounds_toArray, List.set_cons_zero, List.set_cons_succ]
              refine wpAnyH_take (i := 5) (v := ?_) rfl (by kernel_rfl) (by kernel_rfl) (by kernel_rfl) (fun _ _ _ h => h) (Or.inl ⟨by rfl, ?_⟩) (by assumption) ?_
              rotate_left
              · intro w hSw
                (try dsimp only at hSw)
                go_simp
                first | done | with_reducible rfl
              try simp only [Act.put, List.getElem_toArray, List.getElem_cons_succ, List.getElem_cons_zero, List.setIfInBounds_toArray, List.set_cons_zero, List.set_cons_succ]
              refine wpAnyH_take (i := 6) (v := ?_) rfl (by kernel_rfl) (by kernel_rfl) (by kernel_rfl) (fun _ _ _ h => h) (Or.inl ⟨by rfl, ?_⟩) (by assumption) ?_
              rotate_left
              · intro w hSw
                (try dsimp only at hSw)
                go_simp
                first | done | with_reducible rfl
              try simp only [Act.put, List.getElem_toArray, List.getElem_cons_succ, List.getElem_cons_zero, List.setIfInBounds_toArray, List.set_cons_zero, List.set_cons_succ]
              refine wpAnyH_take (i := 7) (v := ?_) rfl (by kernel_rfl) (by kernel_rfl) (by kernel_rfl) (fun _ _ _ h => h) (Or.inl ⟨by rfl, ?_⟩) (by assumption) ?_
              rotate_left
              · intro w hSw
                (try dsimp only at hSw)
                go_simp
                first | done | with_reducible rfl
              try simp only [Act.put, List.getElem_toArray, List.getElem_cons_succ, List.getElem_cons_zero, List.setIfInBounds_toArray, List.set_cons_zero, List.set_cons_succ]
              refine wpAnyH_take (i := 8) (v := ?_) rfl (by kernel_rfl) (by kernel_rfl) (by kernel_rfl) (fun _ _ _ h => h) (Or.inl ⟨by rfl, ?_⟩) (by assumption) ?_
              rotate_left
              · intro w hSw
                (try dsimp only at hSw)
                go_simp
                first | done | with_reducible rfl
              try simp only [Act.put, List.getElem_toArray, List.getElem_cons_succ, List.getElem_cons_zero, List.setIfInBounds_toArray, List.set_cons_zero, List.set_cons_succ]
              refine wpAnyH_ready (rs := [4]) (by kernel_rfl) (by simp) ?_
              refine AllReadyH.cons rfl (fun K hK => ?_) AllReadyH.nil
              go_simp
              refine (save_empty (ptr g) (.slice tof t.length tc) wx.drew tof t.length tc rfl ⟨_, rfl⟩).mono ?_; rintro e w2 ⟨rfl, hb2⟩
              have r1 := (⟨(hb2.cell (cell_lt8 x1)).trans x1, HSE.out.keep (bel (belDrew wx) hb2)⟩ : w2.cell? ⟨bx, 1, none⟩ = some (.string ⟨#[]⟩) ∧ Sees w2 (.slice tof t.length tc) t)
              refine hK.out _ _ r1 (fun _ => ?_)
              try simp only [Act.put, List.getElem_toArray, List.getElem_cons_succ, List.getElem_cons_zero, List.setIfInBounds_toArray, List.set_cons_zero, List.set_cons_succ]
              refine wpAnyH_ready (rs := [9]) (by kernel_rfl) (by simp) ?_
              refine AllReadyH.cons rfl (fun K hK => ?_) AllReadyH.nil
              go_simp
              refine (rsave_empty r (.slice tof t.length tc) w2).mono ?_; rintro e w3 ⟨rfl, rfl⟩
              refine hK.out _ _ r1 (fun _ => ?_)
              try simp only [Act.put, List.getElem_toArray, List.getElem_cons_succ, List.getElem_cons_zero, List.setIfInBounds_toArray, List.set_cons_zero, List.set_cons_succ]
              refine wpAnyH_take (i := 10) (v := ?_) rfl (by kernel_rfl) (by kernel_rfl) (by kernel_rfl) (fun _ _ _ h => h) (Or.inl ⟨by rfl, ?_⟩) (by assumption) ?_
              rotate_left
              · intro w hSw
                (try dsimp only at hSw)
                go_simp
                first | done | with_reducible rfl
              try simp only [Act.put, List.getElem_toArray, List.getElem_cons_succ, List.getElem_cons_zero, List.setIfInBounds_toArray, List.set_cons_zero, List.set_cons_succ]
              refine wpAnyH_done (by kernel_rfl) ?_ _
              go_wp2_with fail
              go_meet
              case rel => exact ⟨rfl, P, Q, D, HPx.out.below (bel (belDrew wx) hb2), HSm.out.mono (by omega), bel HBW.out (bel (belDrew wx) hb2)⟩
            · go_wp2_with fail
              refine wp_region_held_drew (S := (fun W => W.cell? ⟨bx, 1, none⟩ = some (.string nm) ∧ Sees W (.slice tof t.length tc) t)) (by kernel_rfl) ?_ (fun r0 => ?_)
              · exact ⟨x1, HSE.out⟩
              refine wpAnyH_take (i := 0) (v := ?_) rfl (by kernel_rfl) (by kernel_rfl) (by kernel_rfl) (fun _ _ _ h => h) (Or.inl ⟨by rfl, ?_⟩) (by assumption) ?_
              rotate_left
              · intro w hSw
                (try dsimp only at hSw)
                go_simp
                first | done | with_reducible rfl
              try simp only [Act.put, List.getElem_toArray, List.getElem_cons_succ, List.getElem_cons_zero, List.setIfInBounds_toArray, List.set_cons_zero, List.set_cons_succ]
              refine wpAnyH_take (i := 1) (v := ?_) rfl (by kernel_rfl) (by kernel_rfl) (by kernel_rfl) (fun _ _ _ h => h) (Or.inl ⟨by rfl, ?_⟩) (by assumption) ?_
              rotate_left
              · intro w hSw
                (try dsimp only at hSw)
                go_simp
                first | done | with_reducible rfl
              try simp only [Act.put, List.getElem_toArray, List.getElem_cons_succ, List.getElem_cons_zero, List.setIfInBounds_toArray, List.set_cons_zero, List.set_cons_succ]
              refine wpAnyH_take (i := 2) (v := ?_) rfl (by kernel_rfl) (by kernel_rfl) (by kernel_rfl) (fun _ _ _ h => h) (Or.inl ⟨by rfl, ?_⟩) (by assumption) ?_
              rotate_left
              · intro w hSw
                (try dsimp only at hSw)
                go_simp
                first | done | with_reducible rfl
              try simp only [Act.put, List.getElem_toArray, List.getElem_cons_succ, List.getElem_cons_zero, List.setIfInBounds_toArray, List.set_cons_zero, List.set_cons_succ]
              refine wpAnyH_take (i := 3) (v := ?_) rfl (by kernel_rfl) (by kernel_rfl) (by kernel_rfl) (fun _ _ _ h => h) (Or.inl ⟨by rfl, ?_⟩) (by assumption) ?_
              rotate_left
              · intro w hSw
                (try dsimp only at hSw)
                go_simp
                first | done | with_reducible rfl
              try simp only [Act.put, List.getElem_toArray, List.getElem_cons_succ, List.getElem_cons_zero, List.setIfInBounds_toArray, List.set_cons_zero, List.set_cons_succ]
              refine wpAnyH_take (i := 5) (v := ?_) rfl (by kernel_rfl) (by kernel_rfl) (by kernel_rfl) (fun _ _ _ h => h) (Or.inl ⟨by rfl, ?_⟩) (by assumption) ?_
              rotate_left
              · intro w hSw
                (try dsimp only at hSw)
                go_simp
                first | done | with_reducible rfl
              try simp only [Act.put, List.getElem_toArray, List.getElem_cons_succ, List.getElem_cons_zero, List.setIfInBounds_toArray, List.set_cons_zero, List.set_cons_succ]
              refine wpAnyH_take (i := 6) (v := ?_) rfl (by kernel_rfl) (by kernel_rfl) (by kernel_rfl) (fun _ _ _ h => h) (Or.inl ⟨by rfl, ?_⟩) (by assumption) ?_
              rotate_left
              · intro w hSw
                (try dsimp only at hSw)
                go_simp
                first | done | with_reducible rfl
              try simp only [Act.put, List.getElem_toArray, List.getElem_cons_succ, List.getElem_cons_zero, List.setIfInBounds_toArray, List.set_cons_zero, List.set_cons_succ]
              refine wpAnyH_take (i := 7) (v := ?_) rfl (by kernel_rfl) (by kernel_rfl) (by kernel_rfl) (fun _ _ _ h => h) (Or.inl ⟨by rfl, ?_⟩) (by assumption) ?_
              rotate_left
              · intro w hSw
                (try dsimp only at hSw)
                go_simp
                first | done | with_reducible rfl
              try simp only [Act.put, List.getElem_toArray, List.getElem_cons_succ, List.getElem_cons_zero, List.setIfInBounds_toArray, List.set_cons_zero, List.set_cons_succ]
              refine wpAnyH_take (i := 8) (v := ?_) rfl (by kernel_rfl) (by kernel_rfl) (by kernel_rfl) (fun _ _ _ h => h) (Or.inl ⟨by rfl, ?_⟩) (by assumption) ?_
              rotate_left
              · intro w hSw
                (try dsimp only at hSw)
                go_simp
                first | done | with_reducible rfl
              try simp only [Act.put, List.getElem_toArray, List.getElem_cons_succ, List.getElem_cons_zero, List.setIfInBounds_toArray, List.set_cons_zero, List.set_cons_succ]
              have hPd := HPx.out.below (belDrew wx)
              have hBd := HBW.out.trans ((belDrew wx).mono HBW.out.size)
              refine wpAnyH_ready (rs := [4]) (by kernel_rfl) (by simp) ?_
              refine AllReadyH.cons rfl (fun K hK => ?_) AllReadyH.nil
              go_simp
              refine (save_any g P D nm _ t w wx.drew hPd.1 hne (by have := HN.out.2; unfold reachBytes at this; unfold maxLen; omega) (by have := HSm.out.1; omega) (by have := (HSm.out.getD (tilde nm).data.toList).1; omega) r0.2 (fun h0 d hd hp => by have h1 := HTB.out h0 d hd; have h2 := HPx.out.2.2.2.1 d hp; omega) HTO.out (by omega) hE hBd hPd.2.2.2.1).mono ?_; rintro e w2 ⟨P2, rfl, hD2, hS2⟩
              have hP2 := hPd.callD hD2 hS2
              have hc2 : w2.cell? ⟨bx, 1, none⟩ = some (.string nm) := (World.cell?_of_block (hS2.1.2.2.2.2 bx (heap_lt HBX.out) HPQ.out.1)).trans r0.1
              have hB2' := hBd.trans hP2.2
              have hse2 : Sees w2 (.slice tof t.length tc) t := r0.2.over2 hBd hB2' HTB.out
              refine hK.out _ _ ⟨hc2, hse2⟩ (fun _ => ?_)
              try simp only [Act.put, List.getElem_toArray, List.getElem_cons_succ, List.getElem_cons_zero, List.setIfInBounds_toArray, List.set_cons_zero, List.set_cons_succ]
              have r1 : w2.cell? ⟨bx, 1, none⟩ = some (.string nm) ∧ Sees w2 (.slice tof t.length tc) t := ⟨hc2, hse2⟩
              refine wpAnyH_ready (rs := [9]) (by kernel_rfl) (by simp) ?_
              refine AllReadyH.cons rfl (fun K hK => ?_) AllReadyH.nil
              go_simp
              refine (rsave_any r Q D nm _ t w2 hP2.1.2.1 hne (by have := HN.out.2; unfold reachBytes at this; omega) (by have := HSm.out.1; omega) (by have := (HSm.out.getD (tilde nm).data.toList).1; omega) r1.2 (fun h0 d hd hp => by have h1 := HTB.out h0 d hd; have h2 := HPx.out.2.2.2.2 d hp; omega) HTO.out (by omega)).mono ?_; rintro e w3 ⟨Q3, rfl, hR3, hS3⟩
              have hP3 := hP2.1.callR hR3 hS3
              have hc3 : w3.cell? ⟨bx, 1, none⟩ = some (.string nm) := (World.cell?_of_block (hS3.1.2.2.2.2 bx (cell_lt8 hc2) HPQ.out.2)).trans hc2
              have hse3 : Sees w3 (.slice tof t.length tc) t := hse2.over2 hB2' (hB2'.trans hP3.2) HTB.out
              refine hK.out _ _ ⟨hc3, hse3⟩ (fun _ => ?_)
              try simp only [Act.put, List.getElem_toArray, List.getElem_cons_succ, List.getElem_cons_zero, List.setIfInBounds_toArray, List.set_cons_zero, List.set_cons_succ]
              have r2 : w3.cell? ⟨bx, 1, none⟩ = some (.string nm) ∧ Sees w3 (.slice tof t.length tc) t := ⟨hc3, hse3⟩
              refine wpAnyH_take (i := 10) (v := ?_) rfl (by kernel_rfl) (by kernel_rfl) (by kernel_rfl) (fun _ _ _ h => h) (Or.inl ⟨by rfl, ?_⟩) (by assumption) ?_
              rotate_left
              · intro w hSw
                (try dsimp only at hSw)
                go_simp
                first | done | with_reducible rfl
              try simp only [Act.put, List.getElem_toArray, List.getElem_cons_succ, List.getElem_cons_zero, List.setIfInBounds_toArray, List.set_cons_zero, List.set_cons_succ]
              refine wpAnyH_done (by kernel_rfl) ?_ _
              go_wp2_with fail
              go_meet
              case rel => exact ⟨rfl, P2, Q3, _, hP3.1, HSm.out.save (by have := HN.out.2; unfold reachBytes at this; unfold maxLen; omega) hTl, hB2'.trans hP3.2⟩
          have e1' : (k == 1) = false := by simpa using hk1
          by_cases hk2 : k = 2
          · subst hk2
            go_wp2_with fail
            refine (arm_any g P D n wx HPx.out.1 HN.out.1.1 HN.out.1.2).mono ?_; rintro e w2 ⟨rfl, hD2, hT2⟩
            have hP2 := HPx.out.callD hD2 ⟨hT2, fun _ h => Or.inl h⟩
            have hc2 : w2.cell? ⟨bx, 3, none⟩ = some (.int .i64 n) := (World.cell?_of_block (hT2.2.2.2.2 bx (heap_lt HBX.out) HPQ.out.1)).trans x3
            go_wp2_with fail
            refine (Arm_r r Q D n w2 hP2.1.2.1 HN.out.1.1 HN.out.1.2).mono ?_; rintro e w3 ⟨rfl, hR3, hS3⟩
            have hP3 := hP2.1.callR hR3 hS3
            go_wp2_with fail
            go_meet
            case rel => exact ⟨rfl, P, Q, _, hP3.1, HSm.out.mono (by omega), (HBW.out.trans hP2.2).trans hP3.2⟩
          have e2' : (k == 2) = false := by simpa using hk2
          by_cases hk3 : k = 3
          · subst hk3
            go_wp2_with fail
            refine (crash_any g P D (.slice ko ks.length kc) ks wx HPx.out.1 (by have := HSm.out.1; omega) (fun f hf => ⟨(HSm.out.2 f hf).1, by have := (HSm.out.2 f hf).2.1; omega⟩) (HKS.out.1.keep' (w' := wx) (fun _ d _ hd => HBW.out.block d hd)) HKS.out.2.1 (fun h0 d hd hp => by have h1 := HKS.out.2.2 h0 d hd; have h2 := HPx.out.2.2.2.1 d hp; omega)).mono ?_; rintro e w2 ⟨P2, rfl, hD2, hS2⟩
            have hP2 := HPx.out.callD hD2 hS2
            have hc2 : w2.cell? ⟨bx, 4, none⟩ = some (.slice ko ks.length kc) := (World.cell?_of_block (hS2.1.2.2.2.2 bx (heap_lt HBX.out) HPQ.out.1)).trans x4
            have hBd2 := HBW.out.trans hP2.2
            go_wp2_with fail
            refine (Crash_r r Q D (.slice ko ks.length kc) ks w2 hP2.1.2.1 (by have := HSm.out.1; omega) (fun f hf => ⟨(HSm.out.2 f hf).2.2, by have := (HSm.out.2 f hf).2.1; omega⟩) (HKS.out.1.keep' (w' := w2) (fun _ d _ hd => hBd2.block d hd)) HKS.out.2.1).mono ?_; rintro e w3 ⟨Q3, rfl, hR3, hS3⟩
            have hP3 := hP2.1.callR hR3 hS3
            go_wp2_with fail
            go_meet
            case rel => exact ⟨rfl, P2, Q3, _, hP3.1, (HSm.out.crash ks).mono (by omega), hBd2.trans hP3.2⟩
          have e3' : (k == 3) = false := by simpa using hk3
          by_cases hk4 : k = 4
          · subst hk4
            by_cases hne : nm.data.toList = []
            · obtain rfl : nm = ⟨#[]⟩ := ByteArray.ext (Array.toList_inj.1 hne)
              go_wp2_with fail
              refine wp_region_held_drew (S := (fun W => W.cell? ⟨bx, 1, none⟩ = some (.string ⟨#[]⟩) ∧ Sees W (.slice tof t.length tc) t)) (by kernel_rfl) ?_ (fun r0 => ?_)
              · exact ⟨x1, HSE.out⟩
              refine wpAnyH_take (i := 0) (v := ?_) rfl (by kernel_rfl) (by kernel_rfl) (by kernel_rfl) (fun _ _ _ h => h) (Or.inl ⟨by rfl, ?_⟩) (by assumption) ?_
              rotate_left
              · intro w hSw
                (try dsimp only at hSw)
                go_simp
                first | done | with_reducible rfl
              try simp only [Act.put, List.getElem_toArray, List.getElem_cons_succ, List.getElem_cons_zero, List.setIfInBounds_toArray, List.set_cons_zero, List.set_cons_succ]
              refine wpAnyH_take (i := 1) (v := ?_) rfl (by kernel_rfl) (by kernel_rfl) (by kernel_rfl) (fun _ _ _ h => h) (Or.inl ⟨by rfl, ?_⟩) (by assumption) ?_
              rotate_left
              · intro w hSw
                (try dsimp only at hSw)
                go_simp
                first | done | with_reducible rfl
              try simp only [Act.put, List.getElem_toArray, List.getElem_cons_succ, List.getElem_cons_zero, List.setIfInBounds_toArray, List.set_cons_zero, List.set_cons_succ]
              refine wpAnyH_take (i := 2) (v := ?_) rfl (by kernel_rfl) (by kernel_rfl) (by kernel_rfl) (fun _ _ _ h => h) (Or.inl ⟨by rfl, ?_⟩) (by assumption) ?_
              rotate_left
              · intro w hSw
                (try dsimp only at hSw)
                go_simp
                first | done | with_reducible rfl
              try simp only [Act.put, List.getElem_toArray, List.getElem_cons_succ, List.getElem_cons_zero, List.setIfInBounds_toArray, List.set_cons_zero, List.set_cons_succ]
              refine wpAnyH_take (i := 3) (v := ?_) rfl (by kernel_rfl) (by kernel_rfl) (by kernel_rfl) (fun _ _ _ h => h) (Or.inl ⟨by rfl, ?_⟩) (by assumption) ?_
              rotate_left
              · intro w hSw
                (try dsimp only at hSw)
                go_simp
                first | done | with_reducible rfl
              try simp only [Act.put, List.getElem_toArray, List.getElem_cons_succ, List.getElem_cons_zero, List.setIfInBounds_toArray, List.set_cons_zero, List.set_cons_succ]
              refine wpAnyH_take (i := 5) (v := ?_) rfl (by kernel_rfl) (by kernel_rfl) (by kernel_rfl) (fun _ _ _ h => h) (Or.inl ⟨by rfl, ?_⟩) (by assumption) ?_
              rotate_left
              · intro w hSw
                (try dsimp only at hSw)
                go_simp
                first | done | with_reducible rfl
              try simp only [Act.put, List.getElem_toArray, List.getElem_cons_succ, List.getElem_cons_zero, List.setIfInBounds_toArray, List.set_cons_zero, List.set_cons_succ]
              refine wpAnyH_take (i := 6) (v := ?_) rfl (by kernel_rfl) (by kernel_rfl) (by kernel_rfl) (fun _ _ _ h => h) (Or.inl ⟨by rfl, ?_⟩) (by assumption) ?_
              rotate_left
              · intro w hSw
                (try dsimp only at hSw)
                go_simp
                first | done | with_reducible rfl
              try simp only [Act.put, List.getElem_toArray, List.getElem_cons_succ, List.getElem_cons_zero, List.setIfInBounds_toArray, List.set_cons_zero, List.set_cons_succ]
              refine wpAnyH_take (i := 7) (v := ?_) rfl (by kernel_rfl) (by kernel_rfl) (by kernel_rfl) (fun _ _ _ h => h) (Or.inl ⟨by rfl, ?_⟩) (by assumption) ?_
              rotate_left
              · intro w hSw
                (try dsimp only at hSw)
                go_simp
                first | done | with_reducible rfl
              try simp only [Act.put, List.getElem_toArray, List.getElem_cons_succ, List.getElem_cons_zero, List.setIfInBounds_toArray, List.set_cons_zero, List.set_cons_succ]
              refine wpAnyH_take (i := 8) (v := ?_) rfl (by kernel_rfl) (by kernel_rfl) (by kernel_rfl) (fun _ _ _ h => h) (Or.inl ⟨by rfl, ?_⟩) (by assumption) ?_
              rotate_left
              · intro w hSw
                (try dsimp only at hSw)
                go_simp
                first | done | with_reducible rfl
              try simp only [Act.put, List.getElem_toArray, List.getElem_cons_succ, List.getElem_cons_zero, List.setIfInBounds_toArray, List.set_cons_zero, List.set_cons_succ]
              refine wpAnyH_take (i := 9) (v := ?_) rfl (by kernel_rfl) (by kernel_rfl) (by kernel_rfl) (fun _ _ _ h => h) (Or.inl ⟨by rfl, ?_⟩) (by assumption) ?_
              rotate_left
              · intro w hSw
                (try dsimp only at hSw)
                have q1 := conv_sees hSw.2
                go_simp
                first | done | with_reducible rfl
              try simp only [Act.put, List.getElem_toArray, List.getElem_cons_succ, List.getElem_cons_zero, List.setIfInBounds_toArray, List.set_cons_zero, List.set_cons_succ]
              refine wpAnyH_ready (rs := [4]) (by kernel_rfl) (by simp) ?_
              refine AllReadyH.cons rfl (fun K hK => ?_) AllReadyH.nil
              go_simp
              refine (append_empty g _ _).mono ?_; rintro e w2 ⟨rfl, rfl⟩
              refine hK.out _ _ r0 (fun _ => ?_)
              try simp only [Act.put, List.getElem_toArray, List.getElem_cons_succ, List.getElem_cons_zero, List.setIfInBounds_toArray, List.set_cons_zero, List.set_cons_succ]
              refine wpAnyH_ready (rs := [10]) (by kernel_rfl) (by simp) ?_
              refine AllReadyH.cons rfl (fun K hK => ?_) AllReadyH.nil
              go_simp
              refine (Append_r0 r _ _).mono ?_; rintro e w2 ⟨rfl, rfl⟩
              refine hK.out _ _ r0 (fun _ => ?_)
              try simp only [Act.put, List.getElem_toArray, List.getElem_cons_succ, List.getElem_cons_zero, List.setIfInBounds_toArray, List.set_cons_zero, List.set_cons_succ]
              refine wpAnyH_take (i := 11) (v := ?_) rfl (by kernel_rfl) (by kernel_rfl) (by kernel_rfl) (fun _ _ _ h => h) (Or.inl ⟨by rfl, ?_⟩) (by assumption) ?_
              rotate_left
              · intro w hSw
                (try dsimp only at hSw)
                go_simp
                first | done | with_reducible rfl
              try simp only [Act.put, List.getElem_toArray, List.getElem_cons_succ, List.getElem_cons_zero, List.setIfInBounds_toArray, List.set_cons_zero, List.set_cons_succ]
              refine wpAnyH_done (by kernel_rfl) ?_ _
              go_wp2_with fail
              go_meet
              case rel => exact ⟨rfl, P, Q, D, HPx.out.below (belDrew wx), HSm.out.mono (by omega), bel HBW.out (belDrew wx)⟩
            · go_wp2_with fail
              refine wp_region_held_drew (S := (fun W => W.cell? ⟨bx, 1, none⟩ = some (.string nm) ∧ Sees W (.slice tof t.length tc) t)) (by kernel_rfl) ?_ (fun r0 => ?_)
              · exact ⟨x1, HSE.out⟩
              refine wpAnyH_take (i := 0) (v := ?_) rfl (by kernel_rfl) (by kernel_rfl) (by kernel_rfl) (fun _ _ _ h => h) (Or.inl ⟨by rfl, ?_⟩) (by assumption) ?_
              rotate_left
              · intro w hSw
                (try dsimp only at hSw)
                go_simp
                first | done | with_reducible rfl
              try simp only [Act.put, List.getElem_toArray, List.getElem_cons_succ, List.getElem_cons_zero, List.setIfInBounds_toArray, List.set_cons_zero, List.set_cons_succ]
              refine wpAnyH_take (i := 1) (v := ?_) rfl (by kernel_rfl) (by kernel_rfl) (by kernel_rfl) (fun _ _ _ h => h) (Or.inl ⟨by rfl, ?_⟩) (by assumption) ?_
              rotate_left
              · intro w hSw
                (try dsimp only at hSw)
                go_simp
                first | done | with_reducible rfl
              try simp only [Act.put, List.getElem_toArray, List.getElem_cons_succ, List.getElem_cons_zero, List.setIfInBounds_toArray, List.set_cons_zero, List.set_cons_succ]
              refine wpAnyH_take (i := 2) (v := ?_) rfl (by kernel_rfl) (by kernel_rfl) (by kernel_rfl) (fun _ _ _ h => h) (Or.inl ⟨by rfl, ?_⟩) (by assumption) ?_
              rotate_left
              · intro w hSw
                (try dsimp only at hSw)
                go_simp
                first | done | with_reducible rfl
              try simp only [Act.put, List.getElem_toArray, List.getElem_cons_succ, List.getElem_cons_zero, List.setIfInBounds_toArray, List.set_cons_zero, List.set_cons_succ]
              refine wpAnyH_take (i := 3) (v := ?_) rfl (by kernel_rfl) (by kernel_rfl) (by kernel_rfl) (fun _ _ _ h => h) (Or.inl ⟨by rfl, ?_⟩) (by assumption) ?_
              rotate_left
              · intro w hSw
                (try dsimp only at hSw)
                go_simp
                first | done | with_reducible rfl
              try simp only [Act.put, List.getElem_toArray, List.getElem_cons_succ, List.getElem_cons_zero, List.setIfInBounds_toArray, List.set_cons_zero, List.set_cons_succ]
              refine wpAnyH_take (i := 5) (v := ?_) rfl (by kernel_rfl) (by kernel_rfl) (by kernel_rfl) (fun _ _ _ h => h) (Or.inl ⟨by rfl, ?_⟩) (by assumption) ?_
              rotate_left
              · intro w hSw
                (try dsimp only at hSw)
                go_simp
                first | done | with_reducible rfl
              try simp only [Act.put, List.getElem_toArray, List.getElem_cons_succ, List.getElem_cons_zero, List.setIfInBounds_toArray, List.set_cons_zero, List.set_cons_succ]
              refine wpAnyH_take (i := 6) (v := ?_) rfl (by kernel_rfl) (by kernel_rfl) (by kernel_rfl) (fun _ _ _ h => h) (Or.inl ⟨by rfl, ?_⟩) (by assumption) ?_
              rotate_left
              · intro w hSw
                (try dsimp only at hSw)
                go_simp
                first | done | with_reducible rfl
              try simp only [Act.put, List.getElem_toArray, List.getElem_cons_succ, List.getElem_cons_zero, List.setIfInBounds_toArray, List.set_cons_zero, List.set_cons_succ]
              refine wpAnyH_take (i := 7) (v := ?_) rfl (by kernel_rfl) (by kernel_rfl) (by kernel_rfl) (fun _ _ _ h => h) (Or.inl ⟨by rfl, ?_⟩) (by assumption) ?_
              rotate_left
              · intro w hSw
                (try dsimp only at hSw)
                go_simp
                first | done | with_reducible rfl
              try simp only [Act.put, List.getElem_toArray, List.getElem_cons_succ, List.getElem_cons_zero, List.setIfInBounds_toArray, List.set_cons_zero, List.set_cons_succ]
              refine wpAnyH_take (i := 8) (v := ?_) rfl (by kernel_rfl) (by kernel_rfl) (by kernel_rfl) (fun _ _ _ h => h) (Or.inl ⟨by rfl, ?_⟩) (by assumption) ?_
              rotate_left
              · intro w hSw
                (try dsimp only at hSw)
                go_simp
                first | done | with_reducible rfl
              try simp only [Act.put, List.getElem_toArray, List.getElem_cons_succ, List.getElem_cons_zero, List.setIfInBounds_toArray, List.set_cons_zero, List.set_cons_succ]
              refine wpAnyH_take (i := 9) (v := ?_) rfl (by kernel_rfl) (by kernel_rfl) (by kernel_rfl) (fun _ _ _ h => h) (Or.inl ⟨by rfl, ?_⟩) (by assumption) ?_
              rotate_left
              · intro w hSw
                (try dsimp only at hSw)
                have q1 := conv_sees hSw.2
                go_simp
                first | done | with_reducible rfl
              try simp only [Act.put, List.getElem_toArray, List.getElem_cons_succ, List.getElem_cons_zero, List.setIfInBounds_toArray, List.set_cons_zero, List.set_cons_succ]
              have hPd := HPx.out.below (belDrew wx)
              have hBd := HBW.out.trans ((belDrew wx).mono HBW.out.size)
              refine wpAnyH_ready (rs := [4]) (by kernel_rfl) (by simp) ?_
              refine AllReadyH.cons rfl (fun K hK => ?_) AllReadyH.nil
              go_simp
              refine (append_any g P D nm _ t wx.drew hPd.1 (by have := HN.out.2; unfold reachBytes at this; unfold maxLen; omega) hne (by have := HSm.out.1; omega) (by have := (HSm.out.getD nm.data.toList).1; omega) r0.2 HTO.out (fun h0 d hd e => by have h1 := HTB.out h0 d hd; have h2 := HPx.out.2.2.2.1 g HPx.out.1.self; omega)).mono ?_; rintro e w2 ⟨P2, rfl, hD2, hS2⟩
              have hP2 := hPd.callD hD2 hS2
              have hc2 : w2.cell? ⟨bx, 1, none⟩ = some (.string nm) := (World.cell?_of_block (hS2.1.2.2.2.2 bx (heap_lt HBX.out) HPQ.out.1)).trans r0.1
              have hB2' := hBd.trans hP2.2
              have hse2 : Sees w2 (.slice tof t.length tc) t := r0.2.over2 hBd hB2' HTB.out
              refine hK.out _ _ ⟨hc2, hse2⟩ (fun _ => ?_)
              try simp only [Act.put, List.getElem_toArray, List.getElem_cons_succ, List.getElem_cons_zero, List.setIfInBounds_toArray, List.set_cons_zero, List.set_cons_succ]
              have r1 : w2.cell? ⟨bx, 1, none⟩ = some (.string nm) ∧ Sees w2 (.slice tof t.length tc) t := ⟨hc2, hse2⟩
              refine wpAnyH_ready (rs := [10]) (by kernel_rfl) (by simp) ?_
              refine AllReadyH.cons rfl (fun K hK => ?_) AllReadyH.nil
              go_simp
              refine (Append_r r Q D nm t w2 hP2.1.2.1 hne (by have := HSm.out.1; omega) (by have := (HSm.out.getD nm.data.toList).1; omega)).mono ?_; rintro e w3 ⟨Q3, rfl, hR3, hS3⟩
              have hP3 := hP2.1.callR hR3 hS3
              have hc3 : w3.cell? ⟨bx, 1, none⟩ = some (.string nm) := (World.cell?_of_block (hS3.1.2.2.2.2 bx (cell_lt8 hc2) HPQ.out.2)).trans hc2
              have hse3 : Sees w3 (.slice tof t.length tc) t := hse2.over2 hB2' (hB2'.trans hP3.2) HTB.out
              refine hK.out _ _ ⟨hc3, hse3⟩ (fun _ => ?_)
              try simp only [Act.put, List.getElem_toArray, List.getElem_cons_succ, List.getElem_cons_zero, List.setIfInBounds_toArray, List.set_cons_zero, List.set_cons_succ]
              have r2 : w3.cell? ⟨bx, 1, none⟩ = some (.string nm) ∧ Sees w3 (.slice tof t.length tc) t := ⟨hc3, hse3⟩
              refine wpAnyH_take (i := 11) (v := ?_) rfl (by kernel_rfl) (by kernel_rfl) (by kernel_rfl) (fun _ _ _ h => h) (Or.inl ⟨by rfl, ?_⟩) (by assumption) ?_
              rotate_left
              · intro w hSw
                (try dsimp only at hSw)
                go_simp
                first | done | with_reducible rfl
              try simp only [Act.put, List.getElem_toArray, List.getElem_cons_succ, List.getElem_cons_zero, List.setIfInBounds_toArray, List.set_cons_zero, List.set_cons_succ]
              refine wpAnyH_done (by kernel_rfl) ?_ _
              go_wp2_with fail
              go_meet
              case rel => exact ⟨rfl, P2, Q3, _, hP3.1, (HSm.out.app2 (by rw [toList_len8]; have := HN.out.2; unfold reachBytes at this; unfold maxLen; omega) (by omega)).mono (by omega), hB2'.trans hP3.2⟩
          have e4' : (k == 4) = false := by simpa using hk4
          go_wp2_with fail
          go_meet
          case rel => exact ⟨rfl, P, Q, D, HPx.out, HSm.out.mono (by omega), HBW.out⟩
        case rest =>
          obtain ⟨rfl, P1, Q1, D1, hP1, hS1, hB1⟩ := hcut
          have HLD := Lib.hid (load_any g P1 D1 name wc hP1.1 hname (by have := (hS1.getD name.data.toList).1; omega) (hE.below hB1))
          have HRL := Lib.hid (fun W hW => rload_any r Q1 D1 name W hW (by have := hS1.1; omega) (by have := (hS1.getD name.data.toList).1; omega) hP1.1.oks)
          obtain ⟨xs, hxs⟩ : ∃ xs, xs = (loadD D1 name.data.toList).1 := ⟨_, rfl⟩
          obtain ⟨er, her⟩ : ∃ er, er = (loadD D1 name.data.toList).2 := ⟨_, rfl⟩
          have HLD : Hid (Calls Tryd.prog 36 #[ptr g, .string name] wc fun e w' => ∃ v, e = .returned (.tuple #[v, .int .i64 er]) ∧ Sees w' v xs ∧ (∀ d, v.ownBlock = some d → wc.heap.size ≤ d) ∧ Below wc.heap.size wc w') := by rw [hxs, her]; exact HLD
          have HRL : Hid (∀ W, RefAt W r Q1 D1 → Calls Tryd.prog 37 #[ptr r, .string name] W fun e w' => e = .returned (.tuple #[.string (strOfNums xs), .int .i64 er]) ∧ Below W.heap.size W w') := by rw [hxs, her]; exact HRL
          have HP1 := Lib.hid hP1
          have HSS := Lib.hid (And.intro hS1 hB1)
          clear hxs her hP1 hS1 hB1
          go_wp2_with fail
          refine HLD.out.mono ?_; rintro e w4 ⟨v4, rfl, hs4, -, hb4⟩
          have HP4 := Lib.hid (HP1.out.below hb4)
          have HB4 := Lib.hid (bel HSS.out.2 hb4)
          have HS4 := Lib.hid hs4
          clear hs4 hb4
          go_wp2_with fail
          refine (HRL.out w4 HP4.out.2.1).mono ?_; rintro e w5 ⟨rfl, hb5⟩
          have HP5 := Lib.hid (HP4.out.below hb5)
          have HB5 := Lib.hid (bel HB4.out hb5)
          have hs5 := HS4.out.keep hb5
          obtain ⟨rv, q1', q2', -⟩ := HP5.out.2.1
          obtain ⟨ro, rc, rfl, -⟩ := q2'.sees
          obtain ⟨rc0, -, -⟩ := rcells q1'
          have hrl := heap_lt q1'
          have HQ1 := Lib.hid q1'
          clear q1' q2' hb5
          go_wp2_with fail
          refine wp_region_held_drew (S := (fun W => Sees W v4 xs ∧ W.cell? ⟨r, 0, none⟩ = some (.slice ro D1.fs.length rc))) (by kernel_rfl) ?_ (fun r0 => ?_)
          · exact ⟨hs5.keep (belDrew w5), rc0⟩
          refine wpAnyH_take (i := 0) (v := ?_) rfl (by kernel_rfl) (by kernel_rfl) (by kernel_rfl) (fun _ _ _ h => h) (Or.inl ⟨by rfl, ?_⟩) (by assumption) ?_
          rotate_left
          · intro w hSw
            (try dsimp only at hSw)
            go_simp
            first | done | with_reducible rfl
          try simp only [Act.put, List.getElem_toArray, List.getElem_cons_succ, List.getElem_cons_zero, List.setIfInBounds_toArray, List.set_cons_zero, List.set_cons_succ]
          refine wpAnyH_take (i := 1) (v := ?_) rfl (by kernel_rfl) (by kernel_rfl) (by kernel_rfl) (fun _ _ _ h => h) (Or.inl ⟨by rfl, ?_⟩) (by assumption) ?_
          rotate_left
          · intro w hSw
            (try dsimp only at hSw)
            go_simp
            first | done | with_reducible rfl
          try simp only [Act.put, List.getElem_toArray, List.getElem_cons_succ, List.getElem_cons_zero, List.setIfInBounds_toArray, List.set_cons_zero, List.set_cons_succ]
          refine wpAnyH_take (i := 2) (v := ?_) rfl (by kernel_rfl) (by kernel_rfl) (by kernel_rfl) (fun _ _ _ h => h) (Or.inl ⟨by rfl, ?_⟩) (by assumption) ?_
          rotate_left
          · intro w hSw
            (try dsimp only at hSw)
            go_simp
            first | done | with_reducible rfl
          try simp only [Act.put, List.getElem_toArray, List.getElem_cons_succ, List.getElem_cons_zero, List.setIfInBounds_toArray, List.set_cons_zero, List.set_cons_succ]
          refine wpAnyH_take (i := 3) (v := ?_) rfl (by kernel_rfl) (by kernel_rfl) (by kernel_rfl) (fun _ _ _ h => h) (Or.inl ⟨by rfl, ?_⟩) (by assumption) ?_
          rotate_left
          · intro w hSw
            (try dsimp only at hSw)
            go_simp
            first | done | with_reducible rfl
          try simp only [Act.put, List.getElem_toArray, List.getElem_cons_succ, List.getElem_cons_zero, List.setIfInBounds_toArray, List.set_cons_zero, List.set_cons_succ]
          refine wpAnyH_take (i := 4) (v := ?_) rfl (by kernel_rfl) (by kernel_rfl) (by kernel_rfl) (fun _ _ _ h => h) (Or.inl ⟨by rfl, ?_⟩) (by assumption) ?_
          rotate_left
          · intro w hSw
            (try dsimp only at hSw)
            go_simp
            first | done | with_reducible rfl
          try simp only [Act.put, List.getElem_toArray, List.getElem_cons_succ, List.getElem_cons_zero, List.setIfInBounds_toArray, List.set_cons_zero, List.set_cons_succ]
          refine wpAnyH_take (i := 5) (v := ?_) rfl (by kernel_rfl) (by kernel_rfl) (by kernel_rfl) (fun _ _ _ h => h) (Or.inl ⟨by rfl, ?_⟩) (by assumption) ?_
          rotate_left
          · intro w hSw
            (try dsimp only at hSw)
            have q1 := conv_sees hSw.1
            go_simp
            first | done | with_reducible rfl
          try simp only [Act.put, List.getElem_toArray, List.getElem_cons_succ, List.getElem_cons_zero, List.setIfInBounds_toArray, List.set_cons_zero, List.set_cons_succ]
          refine wpAnyH_take (i := 6) (v := ?_) rfl (by kernel_rfl) (by kernel_rfl) (by kernel_rfl) (fun _ _ _ h => h) (Or.inl ⟨by rfl, ?_⟩) (by assumption) ?_
          rotate_left
          · intro w hSw
            (try dsimp only at hSw)
            go_simp
            first | done | with_reducible rfl
          try simp only [Act.put, List.getElem_toArray, List.getElem_cons_succ, List.getElem_cons_zero, List.setIfInBounds_toArray, List.set_cons_zero, List.set_cons_succ]
          refine wpAnyH_take (i := 7) (v := ?_) rfl (by kernel_rfl) (by kernel_rfl) (by kernel_rfl) (fun _ _ _ h => h) (Or.inl ⟨by rfl, ?_⟩) (by assumption) ?_
          rotate_left
          · intro w hSw
            (try dsimp only at hSw)
            go_simp
            first | done | with_reducible rfl
          try simp only [Act.put, List.getElem_toArray, List.getElem_cons_succ, List.getElem_cons_zero, List.setIfInBounds_toArray, List.set_cons_zero, List.set_cons_succ]
          refine wpAnyH_take (i := 8) (v := ?_) rfl (by kernel_rfl) (by kernel_rfl) (by kernel_rfl) (fun _ _ _ h => h) (Or.inl ⟨by rfl, ?_⟩) (by assumption) ?_
          rotate_left
          · intro w hSw
            (try dsimp only at hSw)
            go_simp
            first | done | with_reducible rfl
          try simp only [Act.put, List.getElem_toArray, List.getElem_cons_succ, List.getElem_cons_zero, List.setIfInBounds_toArray, List.set_cons_zero, List.set_cons_succ]
          refine wpAnyH_take (i := 9) (v := ?_) rfl (by kernel_rfl) (by kernel_rfl) (by kernel_rfl) (fun _ _ _ h => h) (Or.inl ⟨by rfl, ?_⟩) (by assumption) ?_
          rotate_left
          · intro w hSw
            (try dsimp only at hSw)
            go_simp
            first | done | with_reducible rfl
          try simp only [Act.put, List.getElem_toArray, List.getElem_cons_succ, List.getElem_cons_zero, List.setIfInBounds_toArray, List.set_cons_zero, List.set_cons_succ]
          refine wpAnyH_take (i := 10) (v := ?_) rfl (by kernel_rfl) (by kernel_rfl) (by kernel_rfl) (fun _ _ _ h => h) (Or.inl ⟨by rfl, ?_⟩) (by assumption) ?_
          rotate_left
          · intro w hSw
            (try dsimp only at hSw)
            go_simp
            first | done | with_reducible rfl
          try simp only [Act.put, List.getElem_toArray, List.getElem_cons_succ, List.getElem_cons_zero, List.setIfInBounds_toArray, List.set_cons_zero, List.set_cons_succ]
          refine wpAnyH_take (i := 13) (v := ?_) rfl (by kernel_rfl) (by kernel_rfl) (by kernel_rfl) (fun _ _ _ h => h) (Or.inl ⟨by rfl, ?_⟩) (by assumption) ?_
          rotate_left
          · intro w hSw
            (try dsimp only at hSw)
            go_simp
            first | done | with_reducible rfl
          try simp only [Act.put, List.getElem_toArray, List.getElem_cons_succ, List.getElem_cons_zero, List.setIfInBounds_toArray, List.set_cons_zero, List.set_cons_succ]
          refine wpAnyH_take (i := 14) (v := ?_) rfl (by kernel_rfl) (by kernel_rfl) (by kernel_rfl) (fun _ _ _ h => h) (Or.inl ⟨by rfl, ?_⟩) (by assumption) ?_
          rotate_left
          · intro w hSw
            (try dsimp only at hSw)
            go_simp
            first | done | with_reducible rfl
          try simp only [Act.put, List.getElem_toArray, List.getElem_cons_succ, List.getElem_cons_zero, List.setIfInBounds_toArray, List.set_cons_zero, List.set_cons_succ]
          refine wpAnyH_take (i := 15) (v := ?_) rfl (by kernel_rfl) (by kernel_rfl) (by kernel_rfl) (fun _ _ _ h => h) (Or.inl ⟨by rfl, ?_⟩) (by assumption) ?_
          rotate_left
          · intro w hSw
            (try dsimp only at hSw)
            go_simp
            first | done | with_reducible rfl
          try simp only [Act.put, List.getElem_toArray, List.getElem_cons_succ, List.getElem_cons_zero, List.setIfInBounds_toArray, List.set_cons_zero, List.set_cons_succ]
          refine wpAnyH_take (i := 16) (v := ?_) rfl (by kernel_rfl) (by kernel_rfl) (by kernel_rfl) (fun _ _ _ h => h) (Or.inl ⟨by rfl, ?_⟩) (by assumption) ?_
          rotate_left
          · intro w hSw
            (try dsimp only at hSw)
            go_simp
            first | done | with_reducible rfl
          try simp only [Act.put, List.getElem_toArray, List.getElem_cons_succ, List.getElem_cons_zero, List.setIfInBounds_toArray, List.set_cons_zero, List.set_cons_succ]
          refine wpAnyH_take (i := 17) (v := ?_) rfl (by kernel_rfl) (by kernel_rfl) (by kernel_rfl) (fun _ _ _ h => h) (Or.inl ⟨by rfl, ?_⟩) (by assumption) ?_
          rotate_left
          · intro w hSw
            (try dsimp only at hSw)
            go_simp
            first | done | with_reducible rfl
          try simp only [Act.put, List.getElem_toArray, List.getElem_cons_succ, List.getElem_cons_zero, List.setIfInBounds_toArray, List.set_cons_zero, List.set_cons_succ]
          refine wpAnyH_ready (rs := [11]) (by kernel_rfl) (by simp) ?_
          refine AllReadyH.cons rfl (fun K hK => ?_) AllReadyH.nil
          go_simp
          refine (names_any g P1 D1 w5.drew (HP5.out.1.below (belDrew w5)) (by have := HSS.out.1.1; omega)).mono ?_; rintro e w6 ⟨nv, rfl, hT6, hb6, -⟩
          have hb56 := bel (belDrew w5) hb6
          obtain ⟨no, nc, rfl, -, -⟩ := hT6
          rw [List.length_map]
          refine hK.out _ _ ⟨hs5.keep hb56, (hb56.cell (cell_lt8 rc0)).trans rc0⟩ (fun _ => ?_)
          try simp only [Act.put, List.getElem_toArray, List.getElem_cons_succ, List.getElem_cons_zero, List.setIfInBounds_toArray, List.set_cons_zero, List.set_cons_succ]
          have r6 : Sees w6 v4 xs ∧ w6.cell? ⟨r, 0, none⟩ = some (.slice ro D1.fs.length rc) := ⟨hs5.keep hb56, (hb56.cell (cell_lt8 rc0)).trans rc0⟩
          refine wpAnyH_take (i := 12) (v := ?_) rfl (by kernel_rfl) (by kernel_rfl) (by kernel_rfl) (fun _ _ _ h => h) (Or.inl ⟨by rfl, ?_⟩) (by assumption) ?_
          rotate_left
          · intro w hSw
            (try dsimp only at hSw)
            go_simp
            first | done | with_reducible rfl
          try simp only [Act.put, List.getElem_toArray, List.getElem_cons_succ, List.getElem_cons_zero, List.setIfInBounds_toArray, List.set_cons_zero, List.set_cons_succ]
          refine wpAnyH_take (i := 18) (v := ?_) rfl (by kernel_rfl) (by kernel_rfl) (by kernel_rfl) (fun _ _ _ h => h) (Or.inl ⟨by rfl, ?_⟩) (by assumption) ?_
          rotate_left
          · intro w hSw
            (try dsimp only at hSw)
            go_simp
            first | done | with_reducible rfl
          try simp only [Act.put, List.getElem_toArray, List.getElem_cons_succ, List.getElem_cons_zero, List.setIfInBounds_toArray, List.set_cons_zero, List.set_cons_succ]
          refine wpAnyH_take (i := 19) (v := ?_) rfl (by kernel_rfl) (by kernel_rfl) (by kernel_rfl) (fun _ _ _ h => h) (Or.inl ⟨by rfl, ?_⟩) (by assumption) ?_
          rotate_left
          · intro w hSw
            (try dsimp only at hSw)
            go_simp
            first | done | with_reducible rfl
          try simp only [Act.put, List.getElem_toArray, List.getElem_cons_succ, List.getElem_cons_zero, List.setIfInBounds_toArray, List.set_cons_zero, List.set_cons_succ]
          refine wpAnyH_done (by kernel_rfl) ?_ _
          go_wp2_with fail
          go_roundw
          case rel => exact ⟨i + 1, by go_num, by omega, by omega, P1, Q1, D1, HP5.out.below hb56, by rw [show 5 * (i + 1) = 5 * i + 5 from by omega]; exact HSS.out.1, bel HB5.out hb56⟩
          case measure => simp [intOf]; omega
      · have d0 : decide (25 ≤ (i : Int)) = true := by simp; omega
        obtain ⟨a, rfl⟩ : ∃ a, ao = some a := by
          cases ao with
          | none => rw [HC0.out.1 rfl] at hlt; simp at hlt
          | some a => exact ⟨a, rfl⟩
        have hse := HC0.out.2 a rfl i hlt
        have hok1 := HO.out (os.getD i default) (by simp [List.getD, hlt])
        generalize os.getD i default = o at hse hok1
        obtain ⟨k, nm, pv, ps, n, kv, ks⟩ := o
        obtain ⟨k0, k1, k2, k3, k4, hps, hks⟩ := hse
        obtain ⟨⟨hpo, hn, hkb⟩, hnm⟩ := hok1
        simp only [] at k0 k1 k2 k3 k4 hps hks hpo hn hkb hnm
        obtain ⟨ko, kc, hkv, -⟩ := id hks
        obtain ⟨po, pc, hpv, -⟩ := id hps
        subst hkv
        subst hpv
        have e0 := (hB.cell (cell_lt8 k0)).trans k0
        have e1 : wr.cell? { block := (a.add (i * 5)).block, off := (a.add (i * 5)).off + 1 } = some (.string nm) := (hB.cell (cell_lt8 k1)).trans k1
        have e2 : wr.cell? { block := (a.add (i * 5)).block, off := (a.add (i * 5)).off + 2 } = some (.slice po ps.length pc) := (hB.cell (cell_lt8 k2)).trans k2
        have e3 : wr.cell? { block := (a.add (i * 5)).block, off := (a.add (i * 5)).off + 3 } = some (.int .i64 n) := (hB.cell (cell_lt8 k3)).trans k3
        have e4 : wr.cell? { block := (a.add (i * 5)).block, off := (a.add (i * 5)).off + 4 } = some (.slice ko ks.length kc) := (hB.cell (cell_lt8 k4)).trans k4
        have b0 : (0 : Int) ≤ (i : Int) := by omega
        have b1 : (i : Int) < (os.length : Int) := by omega
        have hBA := belAlloc hB (.cells #[.int .i64 k, .string nm, .slice po ps.length pc, .int .i64 n, .slice ko ks.length kc] 66)
        have HAW := Lib.hid (awake8_any _ (hE.below hBA))
        have HBA2 := Lib.hid hBA
        clear hP hS k0 k1 k2 k3 k4 hps hks hpo hn hkb hnm hBA hB
        go_wp2_with fail
        refine HAW.out.mono ?_; rintro e w5 ⟨rfl, hb5⟩
        go_wp2_with fail
        go_ret
        exact ⟨rfl, bel HBA2.out hb5⟩
    · obtain rfl : i = os.length := by omega
      have HAW := Lib.hid (awake8_any _ (hE.below hB))
      have HBA2 := Lib.hid hB
      clear hP hS hB
      go_wp2_with fail
      refine HAW.out.mono ?_; rintro e w5 ⟨rfl, hb5⟩
      go_wp2_with fail
      go_ret
      exact ⟨rfl, bel HBA2.out hb5⟩
end Go.Proofs.YtkjdfelmjanpcaaDoor
