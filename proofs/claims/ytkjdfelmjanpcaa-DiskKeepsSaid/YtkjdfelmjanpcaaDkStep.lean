/- The walk of virgatelaw06's step: one call, of both disks: they answer alike. -/
import Derived.Test.YtkjdfelmjanpcaaDkTwo
import Derived.Deep.Cut
namespace Go.Proofs.Ytkjdfelmjanpcaa
open Go.RowKit Go.Maps
theorem opC {W : World} {bk : Nat} {k n : Int} {nm to b : ByteArray} {kv : Value} {T : TypeId} (h : W.heap[bk]? = some (.cells #[.int .i64 k, .string nm, .string to, .string b, .int .i64 n, kv] T (0, 0))) :
    W.cell? ⟨bk, 0, none⟩ = some (.int .i64 k) ∧ W.cell? ⟨bk, 1, none⟩ = some (.string nm) ∧ W.cell? ⟨bk, 2, none⟩ = some (.string to) ∧ W.cell? ⟨bk, 3, none⟩ = some (.string b) ∧ W.cell? ⟨bk, 4, none⟩ = some (.int .i64 n) ∧ W.cell? ⟨bk, 5, none⟩ = some kv := by simp [World.cell?, h]
theorem opS {W : World} {bk : Nat} {k n : Int} {nm to b : ByteArray} {kv : Value} {T : TypeId} (h : W.heap[bk]? = some (.cells #[.int .i64 k, .string nm, .string to, .string b, .int .i64 n, kv] T (0, 0))) :
    W.cell? ⟨bk, 1, none⟩ = some (.string nm) ∧ W.cell? ⟨bk, 2, none⟩ = some (.string to) ∧ W.cell? ⟨bk, 3, none⟩ = some (.string b) ∧ W.cell? ⟨bk, 4, none⟩ = some (.int .i64 n) := by simp [World.cell?, h]
theorem toList_len (s : ByteArray) : s.data.toList.length = s.size := by rw [Array.length_toList]; rfl
set_option linter.unusedVariables false in
set_option linter.unusedSimpArgs false in
set_option maxRecDepth 100000 in
set_option maxHeartbeats 16000000 in
theorem step_any (B g : Nat) (P : Nat → Prop) (D : DSt) (r : Nat) (Q : Nat → Prop) (o : Op6) (m : Nat) (w : World) (h : Pair B w g P D r Q D) (hs : SmallF m D.fs) (hm : m ≤ 1000) (ho : o.Ok) (hk : SeesU w o.kv o.ks) (hkB : o.ks ≠ [] → ∀ d, o.kv.ownBlock = some d → d < B) :
    Calls Try.prog 23 #[ptr g, ptr r, o.val] w fun e w' => ∃ P' Q' D', e = .returned (.bool true) ∧ Pair B w' g P' D' r Q' D' ∧ SmallF (m + 1) D'.fs ∧ Below B w w' := by
  obtain ⟨k, nm, to, b, n, kv, ks⟩ := o
  have HK : Hid (SeesU w kv ks ∧ (ks ≠ [] → ∀ d, kv.ownBlock = some d → d < B)) := Lib.hid (And.intro hk hkB)
  obtain ⟨hk1, hk2, hk3, hk4, hk5, hk6, hk7⟩ := ho
  have HO : Hid (nm.size ≤ maxLen ∧ to.size ≤ maxLen ∧ (-9223372036854775808 ≤ n ∧ n ≤ 9223372036854775807) ∧ (∀ x ∈ ks, 0 ≤ x ∧ x < 65536) ∧ ks.length ≤ maxLen) := Lib.hid ⟨hk2, hk3, hk5, hk6, hk7⟩
  have HSm := Lib.hid hs
  have HP := Lib.hid h
  have HPQ : Hid ((∀ i, P i → i < w.heap.size) ∧ ∀ i, Q i → i < w.heap.size) := Lib.hid ⟨fun i hi => h.1.lt hi, fun i hi => h.2.1.lt hi⟩
  have eb := strOf_strI b
  have ob := okB_str b
  obtain ⟨t0, ht0⟩ : ∃ t0, t0 = strI b := ⟨_, rfl⟩
  rw [← ht0] at eb ob
  clear ht0
  subst eb
  clear hk hkB hk1 hk2 hk3 hk4 hk5 hk6 hk7 hs h
  unfold Op6.val
  dsimp only
  go_enter Try.func23, Try.ntmps23
  obtain ⟨bk, hbk0⟩ : ∃ bk, bk = w.heap.size := ⟨_, rfl⟩
  have hb0 := belNew w (.cells #[.int .i64 k, .string nm, .string to, .string (strOfNums t0), .int .i64 n, kv] 46)
  have hbx0 := heap_alloc_new w (.cells #[.int .i64 k, .string nm, .string to, .string (strOfNums t0), .int .i64 n, kv] 46)
  rw [← hbk0] at HPQ hbx0
  have HBX := Lib.hid (And.intro hb0 hbx0)
  clear hb0 hbx0
  have sz0 : (strOfNums t0).size = t0.length := strOfNums_size t0
  go_upto_if 10 with (fail)
  go_cut [5, 10] from 10 (fun s5 s10 wx => s5 = .pointer (some ⟨bk, 0, none⟩) ∧ ∃ t, okB t ∧ t.length ≤ 50 ∧ wx.heap[bk]? = some (.cells #[.int .i64 k, .string nm, .string to, .string (strOfNums t), .int .i64 n, kv] 46 (0, 0)) ∧ Below w.heap.size w wx)
  case first =>
    by_cases h50 : t0.length ≤ 50
    · have d1 : decide (50 < ((strOfNums t0).size : Int)) = false := by rw [sz0]; simp; omega
      go_wp2_with fail
      go_meet
      case rel => exact ⟨by rw [hbk0], t0, ob, h50, HBX.out.2, HBX.out.1⟩
    · have d1 : decide (50 < ((strOfNums t0).size : Int)) = true := by rw [sz0]; simp; omega
      have d2 : 50 ≤ (strOfNums t0).size := by omega
      have d3 : (50 : Int) ≤ ((strOfNums t0).size : Int) := by omega
      have q1 : (strOfNums t0).extract 0 50 = strOfNums (t0.take 50) := str_take t0 50
      go_wp2_with fail
      go_meet
      case rel => exact ⟨by rw [hbk0], t0.take 50, ob.take 50, by rw [List.length_take]; omega, by rw [hbk0]; exact heap_alloc_new w _, belNew w _⟩
  case rest =>
    obtain ⟨rfl, t, hto, htl, hbk, hbw⟩ := hcut
    have HT := Lib.hid hto
    have HPx := Lib.hid (HP.out.below hbw)
    have HBw := Lib.hid hbw
    have HBx := Lib.hid (hbw.mono HP.out.size)
    have HBK := Lib.hid hbk0
    obtain ⟨c0, c1, c2, c3, c4, c5⟩ := opC hbk
    clear hbw hto hbk0
    by_cases hk0 : k = 0
    · subst hk0
      by_cases hnm : nm.data.toList = []
      · obtain rfl : nm = ⟨#[]⟩ := ByteArray.ext (Array.toList_inj.1 hnm)
        go_wp2_with fail
        refine wp_region_held_drew (S := (fun W => W.cell? ⟨bk, 1, none⟩ = some (.string ⟨#[]⟩) ∧ W.cell? ⟨bk, 2, none⟩ = some (.string to) ∧ W.cell? ⟨bk, 3, none⟩ = some (.string (strOfNums t)) ∧ W.cell? ⟨bk, 4, none⟩ = some (.int .i64 n))) (by kernel_rfl) ?_ (fun r0 => ?_)
        · exact opS hbk
        refine wpAnyH_take (i := 0) (v := ?_) rfl (by kernel_rfl) (by kernel_rfl) (by kernel_rfl) (fun _ _ _ h => h) (Or.inl ⟨by rfl, ?_⟩) (by assumption) ?_
        rotate_left
        · intro w hSw
          (try dsimp only at hSw)
          go_simp
          first | done | with_reducible rfl
        try simp only [Act.put, List.getElem_toArray, List.getElem_cons_succ, List.getElem_cons_zero, List.setIfInBounds_toArray, List.set_cons_zero, List.set_cons_succ]
        refine wpAnyH_take (i := 1) (v := ?_) rfl (by kernel_rfl) (by kernel_rfl) (by kernel_rfl) (fun _ _ _ h => h) (Or.inl ⟨by rfl, ?_⟩) (by assumption) ?_
        rotate_left
        · intro w hSw
          (try dsimp only at hSw)
          go_simp
          first | done | with_reducible rfl
        try simp only [Act.put, List.getElem_toArray, List.getElem_cons_succ, List.getElem_cons_zero, List.setIfInBounds_toArray, List.set_cons_zero, List.set_cons_succ]
        refine wpAnyH_take (i := 2) (v := ?_) rfl (by kernel_rfl) (by kernel_rfl) (by kernel_rfl) (fun _ _ _ h => h) (Or.inl ⟨by rfl, ?_⟩) (by assumption) ?_
        rotate_left
        · intro w hSw
          (try dsimp only at hSw)
          go_simp
          first | done | with_reducible rfl
        try simp only [Act.put, List.getElem_toArray, List.getElem_cons_succ, List.getElem_cons_zero, List.setIfInBounds_toArray, List.set_cons_zero, List.set_cons_succ]
        refine wpAnyH_take (i := 3) (v := ?_) rfl (by kernel_rfl) (by kernel_rfl) (by kernel_rfl) (fun _ _ _ h => h) (Or.inl ⟨by rfl, ?_⟩) (by assumption) ?_
        rotate_left
        · intro w hSw
          (try dsimp only at hSw)
          go_simp
          first | done | with_reducible rfl
        try simp only [Act.put, List.getElem_toArray, List.getElem_cons_succ, List.getElem_cons_zero, List.setIfInBounds_toArray, List.set_cons_zero, List.set_cons_succ]
        refine wpAnyH_take (i := 4) (v := ?_) rfl (by kernel_rfl) (by kernel_rfl) (by kernel_rfl) (fun _ _ _ h => h) (Or.inl ⟨by rfl, ?_⟩) (by assumption) ?_
        rotate_left
        · intro w hSw
          (try dsimp only at hSw)
          go_simp
          first | done | with_reducible rfl
        try simp only [Act.put, List.getElem_toArray, List.getElem_cons_succ, List.getElem_cons_zero, List.setIfInBounds_toArray, List.set_cons_zero, List.set_cons_succ]
        refine wpAnyH_take (i := 7) (v := ?_) rfl (by kernel_rfl) (by kernel_rfl) (by kernel_rfl) (fun _ _ _ h => h) (Or.inl ⟨by rfl, ?_⟩) (by assumption) ?_
        rotate_left
        · intro w hSw
          (try dsimp only at hSw)
          go_simp
          first | done | with_reducible rfl
        try simp only [Act.put, List.getElem_toArray, List.getElem_cons_succ, List.getElem_cons_zero, List.setIfInBounds_toArray, List.set_cons_zero, List.set_cons_succ]
        refine wpAnyH_take (i := 8) (v := ?_) rfl (by kernel_rfl) (by kernel_rfl) (by kernel_rfl) (fun _ _ _ h => h) (Or.inl ⟨by rfl, ?_⟩) (by assumption) ?_
        rotate_left
        · intro w hSw
          (try dsimp only at hSw)
          go_simp
          first | done | with_reducible rfl
        try simp only [Act.put, List.getElem_toArray, List.getElem_cons_succ, List.getElem_cons_zero, List.setIfInBounds_toArray, List.set_cons_zero, List.set_cons_succ]
        refine wpAnyH_take (i := 9) (v := ?_) rfl (by kernel_rfl) (by kernel_rfl) (by kernel_rfl) (fun _ _ _ h => h) (Or.inl ⟨by rfl, ?_⟩) (by assumption) ?_
        rotate_left
        · intro w hSw
          (try dsimp only at hSw)
          go_simp
          first | done | with_reducible rfl
        try simp only [Act.put, List.getElem_toArray, List.getElem_cons_succ, List.getElem_cons_zero, List.setIfInBounds_toArray, List.set_cons_zero, List.set_cons_succ]
        refine wpAnyH_take (i := 10) (v := ?_) rfl (by kernel_rfl) (by kernel_rfl) (by kernel_rfl) (fun _ _ _ h => h) (Or.inl ⟨by rfl, ?_⟩) (by assumption) ?_
        rotate_left
        · intro w hSw
          (try dsimp only at hSw)
          go_simp
          first | done | with_reducible rfl
        try simp only [Act.put, List.getElem_toArray, List.getElem_cons_succ, List.getElem_cons_zero, List.setIfInBounds_toArray, List.set_cons_zero, List.set_cons_succ]
        refine wpAnyH_take (i := 11) (v := ?_) rfl (by kernel_rfl) (by kernel_rfl) (by kernel_rfl) (fun _ _ _ h => h) (Or.inl ⟨by rfl, ?_⟩) (by assumption) ?_
        rotate_left
        · intro w hSw
          (try dsimp only at hSw)
          go_simp
          first | done | with_reducible rfl
        try simp only [Act.put, List.getElem_toArray, List.getElem_cons_succ, List.getElem_cons_zero, List.setIfInBounds_toArray, List.set_cons_zero, List.set_cons_succ]
        refine wpAnyH_ready (rs := [5]) (by kernel_rfl) (by simp) ?_
        refine AllReadyH.cons rfl (fun K hK => ?_) AllReadyH.nil
        obtain ⟨wy, hwy⟩ : ∃ wy, wy = wc.drew := ⟨_, rfl⟩
        have hby0 : Below wc.heap.size wc wy := by rw [hwy]; exact ⟨rfl, rfl, rfl, Nat.le_refl _, fun _ _ => rfl⟩
        rw [← hwy]
        clear hwy
        have hcv := Lib.run_convert_string_bytes (P := Try.prog) wy 9 22 5 (strOfNums t) Try.underlying9 Try.underlying22 Try.underlying5
        have hbz := bytes_below wy 5 (strOfNums t)
        obtain ⟨wz, hwz⟩ : ∃ wz, wz = Lib.bytesWorld wy 5 (strOfNums t) := ⟨_, rfl⟩
        rw [← hwz] at hcv hbz
        clear hwz
        go_simp
        have hbk1 := ((bel hby0 hbz).block bk (heap_lt hbk)).trans hbk
        refine hK.out _ _ ?_ (fun r1 => ?_)
        · exact opS hbk1
        try simp only [Act.put, List.getElem_toArray, List.getElem_cons_succ, List.getElem_cons_zero, List.setIfInBounds_toArray, List.set_cons_zero, List.set_cons_succ]
        refine wpAnyH_ready (rs := [6]) (by kernel_rfl) (by simp) ?_
        refine AllReadyH.cons rfl (fun K hK => ?_) AllReadyH.nil
        go_simp
        refine (append_empty g _ _).mono ?_; rintro e wd ⟨rfl, rfl⟩
        refine hK.out _ _ ?_ (fun r2 => ?_)
        · exact opS hbk1
        try simp only [Act.put, List.getElem_toArray, List.getElem_cons_succ, List.getElem_cons_zero, List.setIfInBounds_toArray, List.set_cons_zero, List.set_cons_succ]
        refine wpAnyH_ready (rs := [12]) (by kernel_rfl) (by simp) ?_
        refine AllReadyH.cons rfl (fun K hK => ?_) AllReadyH.nil
        go_simp
        refine (Append_r0 r _ _).mono ?_; rintro e wd ⟨rfl, rfl⟩
        refine hK.out _ _ ?_ (fun r3 => ?_)
        · exact opS hbk1
        try simp only [Act.put, List.getElem_toArray, List.getElem_cons_succ, List.getElem_cons_zero, List.setIfInBounds_toArray, List.set_cons_zero, List.set_cons_succ]
        refine wpAnyH_take (i := 13) (v := ?_) rfl (by kernel_rfl) (by kernel_rfl) (by kernel_rfl) (fun _ _ _ h => h) (Or.inl ⟨by rfl, ?_⟩) (by assumption) ?_
        rotate_left
        · intro w hSw
          (try dsimp only at hSw)
          go_simp
          first | done | with_reducible rfl
        try simp only [Act.put, List.getElem_toArray, List.getElem_cons_succ, List.getElem_cons_zero, List.setIfInBounds_toArray, List.set_cons_zero, List.set_cons_succ]
        refine wpAnyH_take (i := 14) (v := ?_) rfl (by kernel_rfl) (by kernel_rfl) (by kernel_rfl) (fun _ _ _ h => h) (Or.inl ⟨by rfl, ?_⟩) (by assumption) ?_
        rotate_left
        · intro w hSw
          (try dsimp only at hSw)
          go_simp
          first | done | with_reducible rfl
        try simp only [Act.put, List.getElem_toArray, List.getElem_cons_succ, List.getElem_cons_zero, List.setIfInBounds_toArray, List.set_cons_zero, List.set_cons_succ]
        refine wpAnyH_done (by kernel_rfl) ?_ _
        go_wp2_with fail
        go_ret
        exact ⟨P, Q, D, by rfl, HPx.out.below (bel hby0 hbz), HSm.out.mono (Nat.le_succ m), Below.trans (HBx.out) ((bel hby0 hbz).mono HPx.out.size)⟩
      · go_wp2_with fail
        refine wp_region_held_drew (S := (fun W => W.cell? ⟨bk, 1, none⟩ = some (.string nm) ∧ W.cell? ⟨bk, 2, none⟩ = some (.string to) ∧ W.cell? ⟨bk, 3, none⟩ = some (.string (strOfNums t)) ∧ W.cell? ⟨bk, 4, none⟩ = some (.int .i64 n))) (by kernel_rfl) ?_ (fun r0 => ?_)
        · exact opS hbk
        refine wpAnyH_take (i := 0) (v := ?_) rfl (by kernel_rfl) (by kernel_rfl) (by kernel_rfl) (fun _ _ _ h => h) (Or.inl ⟨by rfl, ?_⟩) (by assumption) ?_
        rotate_left
        · intro w hSw
          (try dsimp only at hSw)
          go_simp
          first | done | with_reducible rfl
        try simp only [Act.put, List.getElem_toArray, List.getElem_cons_succ, List.getElem_cons_zero, List.setIfInBounds_toArray, List.set_cons_zero, List.set_cons_succ]
        refine wpAnyH_take (i := 1) (v := ?_) rfl (by kernel_rfl) (by kernel_rfl) (by kernel_rfl) (fun _ _ _ h => h) (Or.inl ⟨by rfl, ?_⟩) (by assumption) ?_
        rotate_left
        · intro w hSw
          (try dsimp only at hSw)
          go_simp
          first | done | with_reducible rfl
        try simp only [Act.put, List.getElem_toArray, List.getElem_cons_succ, List.getElem_cons_zero, List.setIfInBounds_toArray, List.set_cons_zero, List.set_cons_succ]
        refine wpAnyH_take (i := 2) (v := ?_) rfl (by kernel_rfl) (by kernel_rfl) (by kernel_rfl) (fun _ _ _ h => h) (Or.inl ⟨by rfl, ?_⟩) (by assumption) ?_
        rotate_left
        · intro w hSw
          (try dsimp only at hSw)
          go_simp
          first | done | with_reducible rfl
        try simp only [Act.put, List.getElem_toArray, List.getElem_cons_succ, List.getElem_cons_zero, List.setIfInBounds_toArray, List.set_cons_zero, List.set_cons_succ]
        refine wpAnyH_take (i := 3) (v := ?_) rfl (by kernel_rfl) (by kernel_rfl) (by kernel_rfl) (fun _ _ _ h => h) (Or.inl ⟨by rfl, ?_⟩) (by assumption) ?_
        rotate_left
        · intro w hSw
          (try dsimp only at hSw)
          go_simp
          first | done | with_reducible rfl
        try simp only [Act.put, List.getElem_toArray, List.getElem_cons_succ, List.getElem_cons_zero, List.setIfInBounds_toArray, List.set_cons_zero, List.set_cons_succ]
        refine wpAnyH_take (i := 4) (v := ?_) rfl (by kernel_rfl) (by kernel_rfl) (by kernel_rfl) (fun _ _ _ h => h) (Or.inl ⟨by rfl, ?_⟩) (by assumption) ?_
        rotate_left
        · intro w hSw
          (try dsimp only at hSw)
          go_simp
          first | done | with_reducible rfl
        try simp only [Act.put, List.getElem_toArray, List.getElem_cons_succ, List.getElem_cons_zero, List.setIfInBounds_toArray, List.set_cons_zero, List.set_cons_succ]
        refine wpAnyH_take (i := 7) (v := ?_) rfl (by kernel_rfl) (by kernel_rfl) (by kernel_rfl) (fun _ _ _ h => h) (Or.inl ⟨by rfl, ?_⟩) (by assumption) ?_
        rotate_left
        · intro w hSw
          (try dsimp only at hSw)
          go_simp
          first | done | with_reducible rfl
        try simp only [Act.put, List.getElem_toArray, List.getElem_cons_succ, List.getElem_cons_zero, List.setIfInBounds_toArray, List.set_cons_zero, List.set_cons_succ]
        refine wpAnyH_take (i := 8) (v := ?_) rfl (by kernel_rfl) (by kernel_rfl) (by kernel_rfl) (fun _ _ _ h => h) (Or.inl ⟨by rfl, ?_⟩) (by assumption) ?_
        rotate_left
        · intro w hSw
          (try dsimp only at hSw)
          go_simp
          first | done | with_reducible rfl
        try simp only [Act.put, List.getElem_toArray, List.getElem_cons_succ, List.getElem_cons_zero, List.setIfInBounds_toArray, List.set_cons_zero, List.set_cons_succ]
        refine wpAnyH_take (i := 9) (v := ?_) rfl (by kernel_rfl) (by kernel_rfl) (by kernel_rfl) (fun _ _ _ h => h) (Or.inl ⟨by rfl, ?_⟩) (by assumption) ?_
        rotate_left
        · intro w hSw
          (try dsimp only at hSw)
          go_simp
          first | done | with_reducible rfl
        try simp only [Act.put, List.getElem_toArray, List.getElem_cons_succ, List.getElem_cons_zero, List.setIfInBounds_toArray, List.set_cons_zero, List.set_cons_succ]
        refine wpAnyH_take (i := 10) (v := ?_) rfl (by kernel_rfl) (by kernel_rfl) (by kernel_rfl) (fun _ _ _ h => h) (Or.inl ⟨by rfl, ?_⟩) (by assumption) ?_
        rotate_left
        · intro w hSw
          (try dsimp only at hSw)
          go_simp
          first | done | with_reducible rfl
        try simp only [Act.put, List.getElem_toArray, List.getElem_cons_succ, List.getElem_cons_zero, List.setIfInBounds_toArray, List.set_cons_zero, List.set_cons_succ]
        refine wpAnyH_take (i := 11) (v := ?_) rfl (by kernel_rfl) (by kernel_rfl) (by kernel_rfl) (fun _ _ _ h => h) (Or.inl ⟨by rfl, ?_⟩) (by assumption) ?_
        rotate_left
        · intro w hSw
          (try dsimp only at hSw)
          go_simp
          first | done | with_reducible rfl
        try simp only [Act.put, List.getElem_toArray, List.getElem_cons_succ, List.getElem_cons_zero, List.setIfInBounds_toArray, List.set_cons_zero, List.set_cons_succ]
        refine wpAnyH_ready (rs := [5]) (by kernel_rfl) (by simp) ?_
        refine AllReadyH.cons rfl (fun K hK => ?_) AllReadyH.nil
        obtain ⟨wy, hwy⟩ : ∃ wy, wy = wc.drew := ⟨_, rfl⟩
        have hby0 : Below wc.heap.size wc wy := by rw [hwy]; exact ⟨rfl, rfl, rfl, Nat.le_refl _, fun _ _ => rfl⟩
        rw [← hwy]
        clear hwy
        obtain ⟨cy, hcy⟩ : ∃ cy, cy = grownCap wy (strOfNums t).size 0 5 := ⟨_, rfl⟩
        have hcv := Lib.run_convert_string_bytes (P := Try.prog) wy 9 22 5 (strOfNums t) Try.underlying9 Try.underlying22 Try.underlying5
        have hsz := bytes_sees wy (strOfNums t)
        rw [strI_of HT.out] at hsz
        rw [← hcy] at hcv hsz
        have hbz := bytes_below wy 5 (strOfNums t)
        obtain ⟨wz, hwz⟩ : ∃ wz, wz = Lib.bytesWorld wy 5 (strOfNums t) := ⟨_, rfl⟩
        rw [← hwz] at hcv hsz hbz
        have hsl : (strOfNums t).size = t.length := strOfNums_size t
        rw [hsl] at hcv hsz
        have hgz : g ≠ wy.heap.size := by
          have h1 := HPx.out.1.lt HPx.out.1.self
          have h2 := hby0.size
          omega
        clear hwz hcy
        go_simp
        refine hK.out _ _ ?_ (fun r1 => ?_)
        · exact opS ((bel hby0 hbz).block bk (heap_lt hbk) |>.trans hbk)
        try simp only [Act.put, List.getElem_toArray, List.getElem_cons_succ, List.getElem_cons_zero, List.setIfInBounds_toArray, List.set_cons_zero, List.set_cons_succ]
        have HPz := Lib.hid (HPx.out.below (bel hby0 hbz))
        have hbk1 := ((bel hby0 hbz).block bk (heap_lt hbk)).trans hbk
        have HBz := Lib.hid (Below.trans (HBx.out) ((bel hby0 hbz).mono HPx.out.size))
        refine wpAnyH_ready (rs := [6]) (by kernel_rfl) (by simp) ?_
        refine AllReadyH.cons rfl (fun K hK => ?_) AllReadyH.nil
        go_simp
        refine (append_any g P D nm _ t _ HPz.out.1 HO.out.1 hnm (by have := HSm.out.1; omega) (by have := (HSm.out.getD nm.data.toList).1; omega) hsz HT.out (fun _ d hd e => by cases hd; exact hgz e.symm)).mono ?_; rintro e wd ⟨P1, rfl, hD1, hS1⟩
        have hP1 := HPz.out.callD hD1 hS1
        have hnP1 : ¬ P bk := fun hp => absurd (HPQ.out.1 bk hp) (Nat.lt_irrefl _)
        have hbk2 := (hS1.1.2.2.2.2 bk (heap_lt hbk1) hnP1).trans hbk1
        refine hK.out _ _ ?_ (fun r2 => ?_)
        · exact opS hbk2
        try simp only [Act.put, List.getElem_toArray, List.getElem_cons_succ, List.getElem_cons_zero, List.setIfInBounds_toArray, List.set_cons_zero, List.set_cons_succ]
        refine wpAnyH_ready (rs := [12]) (by kernel_rfl) (by simp) ?_
        refine AllReadyH.cons rfl (fun K hK => ?_) AllReadyH.nil
        go_simp
        refine (Append_r r Q D nm t _ hP1.1.2.1 hnm (by have := HSm.out.1; omega) (by have := (HSm.out.getD nm.data.toList).1; omega)).mono ?_; rintro e we ⟨Q1, rfl, hR1, hS2⟩
        have hP2 := hP1.1.callR hR1 hS2
        have hnQ1 : ¬ Q bk := fun hp => absurd (HPQ.out.2 bk hp) (Nat.lt_irrefl _)
        have hbk3 := (hS2.1.2.2.2.2 bk (heap_lt hbk2) hnQ1).trans hbk2
        refine hK.out _ _ ?_ (fun r3 => ?_)
        · exact opS hbk3
        try simp only [Act.put, List.getElem_toArray, List.getElem_cons_succ, List.getElem_cons_zero, List.setIfInBounds_toArray, List.set_cons_zero, List.set_cons_succ]
        refine wpAnyH_take (i := 13) (v := ?_) rfl (by kernel_rfl) (by kernel_rfl) (by kernel_rfl) (fun _ _ _ h => h) (Or.inl ⟨by rfl, ?_⟩) (by assumption) ?_
        rotate_left
        · intro w hSw
          (try dsimp only at hSw)
          go_simp
          first | done | with_reducible rfl
        try simp only [Act.put, List.getElem_toArray, List.getElem_cons_succ, List.getElem_cons_zero, List.setIfInBounds_toArray, List.set_cons_zero, List.set_cons_succ]
        refine wpAnyH_take (i := 14) (v := ?_) rfl (by kernel_rfl) (by kernel_rfl) (by kernel_rfl) (fun _ _ _ h => h) (Or.inl ⟨by rfl, ?_⟩) (by assumption) ?_
        rotate_left
        · intro w hSw
          (try dsimp only at hSw)
          go_simp
          first | done | with_reducible rfl
        try simp only [Act.put, List.getElem_toArray, List.getElem_cons_succ, List.getElem_cons_zero, List.setIfInBounds_toArray, List.set_cons_zero, List.set_cons_succ]
        refine wpAnyH_done (by kernel_rfl) ?_ _
        go_wp2_with fail
        go_ret
        exact ⟨P1, Q1, _, by rfl, hP2.1, HSm.out.app (by rw [toList_len]; exact HO.out.1) htl, (HBz.out.trans hP1.2).trans hP2.2⟩
    have e0 : (k == 0) = false := by simpa using hk0
    by_cases hk1 : k = 1
    · subst hk1
      by_cases hnm : nm.data.toList = []
      · obtain rfl : nm = ⟨#[]⟩ := ByteArray.ext (Array.toList_inj.1 hnm)
        go_wp2_with fail
        refine wp_region_held_drew (S := (fun W => W.cell? ⟨bk, 1, none⟩ = some (.string ⟨#[]⟩) ∧ W.cell? ⟨bk, 2, none⟩ = some (.string to) ∧ W.cell? ⟨bk, 3, none⟩ = some (.string (strOfNums t)) ∧ W.cell? ⟨bk, 4, none⟩ = some (.int .i64 n))) (by kernel_rfl) ?_ (fun r0 => ?_)
        · exact opS hbk
        refine wpAnyH_take (i := 0) (v := ?_) rfl (by kernel_rfl) (by kernel_rfl) (by kernel_rfl) (fun _ _ _ h => h) (Or.inl ⟨by rfl, ?_⟩) (by assumption) ?_
        rotate_left
        · intro w hSw
          (try dsimp only at hSw)
          go_simp
          first | done | with_reducible rfl
        try simp only [Act.put, List.getElem_toArray, List.getElem_cons_succ, List.getElem_cons_zero, List.setIfInBounds_toArray, List.set_cons_zero, List.set_cons_succ]
        refine wpAnyH_take (i := 1) (v := ?_) rfl (by kernel_rfl) (by kernel_rfl) (by kernel_rfl) (fun _ _ _ h => h) (Or.inl ⟨by rfl, ?_⟩) (by assumption) ?_
        rotate_left
        · intro w hSw
          (try dsimp only at hSw)
          go_simp
          first | done | with_reducible rfl
        try simp only [Act.put, List.getElem_toArray, List.getElem_cons_succ, List.getElem_cons_zero, List.setIfInBounds_toArray, List.set_cons_zero, List.set_cons_succ]
        refine wpAnyH_take (i := 2) (v := ?_) rfl (by kernel_rfl) (by kernel_rfl) (by kernel_rfl) (fun _ _ _ h => h) (Or.inl ⟨by rfl, ?_⟩) (by assumption) ?_
        rotate_left
        · intro w hSw
          (try dsimp only at hSw)
          go_simp
          first | done | with_reducible rfl
        try simp only [Act.put, List.getElem_toArray, List.getElem_cons_succ, List.getElem_cons_zero, List.setIfInBounds_toArray, List.set_cons_zero, List.set_cons_succ]
        refine wpAnyH_take (i := 3) (v := ?_) rfl (by kernel_rfl) (by kernel_rfl) (by kernel_rfl) (fun _ _ _ h => h) (Or.inl ⟨by rfl, ?_⟩) (by assumption) ?_
        rotate_left
        · intro w hSw
          (try dsimp only at hSw)
          go_simp
          first | done | with_reducible rfl
        try simp only [Act.put, List.getElem_toArray, List.getElem_cons_succ, List.getElem_cons_zero, List.setIfInBounds_toArray, List.set_cons_zero, List.set_cons_succ]
        refine wpAnyH_take (i := 4) (v := ?_) rfl (by kernel_rfl) (by kernel_rfl) (by kernel_rfl) (fun _ _ _ h => h) (Or.inl ⟨by rfl, ?_⟩) (by assumption) ?_
        rotate_left
        · intro w hSw
          (try dsimp only at hSw)
          go_simp
          first | done | with_reducible rfl
        try simp only [Act.put, List.getElem_toArray, List.getElem_cons_succ, List.getElem_cons_zero, List.setIfInBounds_toArray, List.set_cons_zero, List.set_cons_succ]
        refine wpAnyH_take (i := 7) (v := ?_) rfl (by kernel_rfl) (by kernel_rfl) (by kernel_rfl) (fun _ _ _ h => h) (Or.inl ⟨by rfl, ?_⟩) (by assumption) ?_
        rotate_left
        · intro w hSw
          (try dsimp only at hSw)
          go_simp
          first | done | with_reducible rfl
        try simp only [Act.put, List.getElem_toArray, List.getElem_cons_succ, List.getElem_cons_zero, List.setIfInBounds_toArray, List.set_cons_zero, List.set_cons_succ]
        refine wpAnyH_take (i := 8) (v := ?_) rfl (by kernel_rfl) (by kernel_rfl) (by kernel_rfl) (fun _ _ _ h => h) (Or.inl ⟨by rfl, ?_⟩) (by assumption) ?_
        rotate_left
        · intro w hSw
          (try dsimp only at hSw)
          go_simp
          first | done | with_reducible rfl
        try simp only [Act.put, List.getElem_toArray, List.getElem_cons_succ, List.getElem_cons_zero, List.setIfInBounds_toArray, List.set_cons_zero, List.set_cons_succ]
        refine wpAnyH_take (i := 9) (v := ?_) rfl (by kernel_rfl) (by kernel_rfl) (by kernel_rfl) (fun _ _ _ h => h) (Or.inl ⟨by rfl, ?_⟩) (by assumption) ?_
        rotate_left
        · intro w hSw
          (try dsimp only at hSw)
          go_simp
          first | done | with_reducible rfl
        try simp only [Act.put, List.getElem_toArray, List.getElem_cons_succ, List.getElem_cons_zero, List.setIfInBounds_toArray, List.set_cons_zero, List.set_cons_succ]
        refine wpAnyH_take (i := 10) (v := ?_) rfl (by kernel_rfl) (by kernel_rfl) (by kernel_rfl) (fun _ _ _ h => h) (Or.inl ⟨by rfl, ?_⟩) (by assumption) ?_
        rotate_left
        · intro w hSw
          (try dsimp only at hSw)
          go_simp
          first | done | with_reducible rfl
        try simp only [Act.put, List.getElem_toArray, List.getElem_cons_succ, List.getElem_cons_zero, List.setIfInBounds_toArray, List.set_cons_zero, List.set_cons_succ]
        refine wpAnyH_take (i := 11) (v := ?_) rfl (by kernel_rfl) (by kernel_rfl) (by kernel_rfl) (fun _ _ _ h => h) (Or.inl ⟨by rfl, ?_⟩) (by assumption) ?_
        rotate_left
        · intro w hSw
          (try dsimp only at hSw)
          go_simp
          first | done | with_reducible rfl
        try simp only [Act.put, List.getElem_toArray, List.getElem_cons_succ, List.getElem_cons_zero, List.setIfInBounds_toArray, List.set_cons_zero, List.set_cons_succ]
        refine wpAnyH_ready (rs := [5]) (by kernel_rfl) (by simp) ?_
        refine AllReadyH.cons rfl (fun K hK => ?_) AllReadyH.nil
        obtain ⟨wy, hwy⟩ : ∃ wy, wy = wc.drew := ⟨_, rfl⟩
        have hby0 : Below wc.heap.size wc wy := by rw [hwy]; exact ⟨rfl, rfl, rfl, Nat.le_refl _, fun _ _ => rfl⟩
        rw [← hwy]
        clear hwy
        have hcv := Lib.run_convert_string_bytes (P := Try.prog) wy 9 22 5 (strOfNums t) Try.underlying9 Try.underlying22 Try.underlying5
        have hbz := bytes_below wy 5 (strOfNums t)
        obtain ⟨wz, hwz⟩ : ∃ wz, wz = Lib.bytesWorld wy 5 (strOfNums t) := ⟨_, rfl⟩
        rw [← hwz] at hcv hbz
        clear hwz
        go_simp
        have hbk1 := ((bel hby0 hbz).block bk (heap_lt hbk)).trans hbk
        refine hK.out _ _ ?_ (fun r1 => ?_)
        · exact opS hbk1
        try simp only [Act.put, List.getElem_toArray, List.getElem_cons_succ, List.getElem_cons_zero, List.setIfInBounds_toArray, List.set_cons_zero, List.set_cons_succ]
        refine wpAnyH_ready (rs := [6]) (by kernel_rfl) (by simp) ?_
        refine AllReadyH.cons rfl (fun K hK => ?_) AllReadyH.nil
        go_simp
        refine (append_empty g _ _).mono ?_; rintro e wd ⟨rfl, rfl⟩
        refine hK.out _ _ ?_ (fun r2 => ?_)
        · exact opS hbk1
        try simp only [Act.put, List.getElem_toArray, List.getElem_cons_succ, List.getElem_cons_zero, List.setIfInBounds_toArray, List.set_cons_zero, List.set_cons_succ]
        refine wpAnyH_ready (rs := [12]) (by kernel_rfl) (by simp) ?_
        refine AllReadyH.cons rfl (fun K hK => ?_) AllReadyH.nil
        go_simp
        refine (Append_r0 r _ _).mono ?_; rintro e wd ⟨rfl, rfl⟩
        refine hK.out _ _ ?_ (fun r3 => ?_)
        · exact opS hbk1
        try simp only [Act.put, List.getElem_toArray, List.getElem_cons_succ, List.getElem_cons_zero, List.setIfInBounds_toArray, List.set_cons_zero, List.set_cons_succ]
        refine wpAnyH_take (i := 13) (v := ?_) rfl (by kernel_rfl) (by kernel_rfl) (by kernel_rfl) (fun _ _ _ h => h) (Or.inl ⟨by rfl, ?_⟩) (by assumption) ?_
        rotate_left
        · intro w hSw
          (try dsimp only at hSw)
          go_simp
          first | done | with_reducible rfl
        try simp only [Act.put, List.getElem_toArray, List.getElem_cons_succ, List.getElem_cons_zero, List.setIfInBounds_toArray, List.set_cons_zero, List.set_cons_succ]
        refine wpAnyH_take (i := 14) (v := ?_) rfl (by kernel_rfl) (by kernel_rfl) (by kernel_rfl) (fun _ _ _ h => h) (Or.inl ⟨by rfl, ?_⟩) (by assumption) ?_
        rotate_left
        · intro w hSw
          (try dsimp only at hSw)
          go_simp
          first | done | with_reducible rfl
        try simp only [Act.put, List.getElem_toArray, List.getElem_cons_succ, List.getElem_cons_zero, List.setIfInBounds_toArray, List.set_cons_zero, List.set_cons_succ]
        refine wpAnyH_done (by kernel_rfl) ?_ _
        go_wp2_with fail
        go_ret
        exact ⟨P, Q, D, by rfl, HPx.out.below (bel hby0 hbz), HSm.out.mono (Nat.le_succ m), Below.trans (HBx.out) ((bel hby0 hbz).mono HPx.out.size)⟩
      · go_wp2_with fail
        refine wp_region_held_drew (S := (fun W => W.cell? ⟨bk, 1, none⟩ = some (.string nm) ∧ W.cell? ⟨bk, 2, none⟩ = some (.string to) ∧ W.cell? ⟨bk, 3, none⟩ = some (.string (strOfNums t)) ∧ W.cell? ⟨bk, 4, none⟩ = some (.int .i64 n))) (by kernel_rfl) ?_ (fun r0 => ?_)
        · exact opS hbk
        refine wpAnyH_take (i := 0) (v := ?_) rfl (by kernel_rfl) (by kernel_rfl) (by kernel_rfl) (fun _ _ _ h => h) (Or.inl ⟨by rfl, ?_⟩) (by assumption) ?_
        rotate_left
        · intro w hSw
          (try dsimp only at hSw)
          go_simp
          first | done | with_reducible rfl
        try simp only [Act.put, List.getElem_toArray, List.getElem_cons_succ, List.getElem_cons_zero, List.setIfInBounds_toArray, List.set_cons_zero, List.set_cons_succ]
        refine wpAnyH_take (i := 1) (v := ?_) rfl (by kernel_rfl) (by kernel_rfl) (by kernel_rfl) (fun _ _ _ h => h) (Or.inl ⟨by rfl, ?_⟩) (by assumption) ?_
        rotate_left
        · intro w hSw
          (try dsimp only at hSw)
          go_simp
          first | done | with_reducible rfl
        try simp only [Act.put, List.getElem_toArray, List.getElem_cons_succ, List.getElem_cons_zero, List.setIfInBounds_toArray, List.set_cons_zero, List.set_cons_succ]
        refine wpAnyH_take (i := 2) (v := ?_) rfl (by kernel_rfl) (by kernel_rfl) (by kernel_rfl) (fun _ _ _ h => h) (Or.inl ⟨by rfl, ?_⟩) (by assumption) ?_
        rotate_left
        · intro w hSw
          (try dsimp only at hSw)
          go_simp
          first | done | with_reducible rfl
        try simp only [Act.put, List.getElem_toArray, List.getElem_cons_succ, List.getElem_cons_zero, List.setIfInBounds_toArray, List.set_cons_zero, List.set_cons_succ]
        refine wpAnyH_take (i := 3) (v := ?_) rfl (by kernel_rfl) (by kernel_rfl) (by kernel_rfl) (fun _ _ _ h => h) (Or.inl ⟨by rfl, ?_⟩) (by assumption) ?_
        rotate_left
        · intro w hSw
          (try dsimp only at hSw)
          go_simp
          first | done | with_reducible rfl
        try simp only [Act.put, List.getElem_toArray, List.getElem_cons_succ, List.getElem_cons_zero, List.setIfInBounds_toArray, List.set_cons_zero, List.set_cons_succ]
        refine wpAnyH_take (i := 4) (v := ?_) rfl (by kernel_rfl) (by kernel_rfl) (by kernel_rfl) (fun _ _ _ h => h) (Or.inl ⟨by rfl, ?_⟩) (by assumption) ?_
        rotate_left
        · intro w hSw
          (try dsimp only at hSw)
          go_simp
          first | done | with_reducible rfl
        try simp only [Act.put, List.getElem_toArray, List.getElem_cons_succ, List.getElem_cons_zero, List.setIfInBounds_toArray, List.set_cons_zero, List.set_cons_succ]
        refine wpAnyH_take (i := 7) (v := ?_) rfl (by kernel_rfl) (by kernel_rfl) (by kernel_rfl) (fun _ _ _ h => h) (Or.inl ⟨by rfl, ?_⟩) (by assumption) ?_
        rotate_left
        · intro w hSw
          (try dsimp only at hSw)
          go_simp
          first | done | with_reducible rfl
        try simp only [Act.put, List.getElem_toArray, List.getElem_cons_succ, List.getElem_cons_zero, List.setIfInBounds_toArray, List.set_cons_zero, List.set_cons_succ]
        refine wpAnyH_take (i := 8) (v := ?_) rfl (by kernel_rfl) (by kernel_rfl) (by kernel_rfl) (fun _ _ _ h => h) (Or.inl ⟨by rfl, ?_⟩) (by assumption) ?_
        rotate_left
        · intro w hSw
          (try dsimp only at hSw)
          go_simp
          first | done | with_reducible rfl
        try simp only [Act.put, List.getElem_toArray, List.getElem_cons_succ, List.getElem_cons_zero, List.setIfInBounds_toArray, List.set_cons_zero, List.set_cons_succ]
        refine wpAnyH_take (i := 9) (v := ?_) rfl (by kernel_rfl) (by kernel_rfl) (by kernel_rfl) (fun _ _ _ h => h) (Or.inl ⟨by rfl, ?_⟩) (by assumption) ?_
        rotate_left
        · intro w hSw
          (try dsimp only at hSw)
          go_simp
          first | done | with_reducible rfl
        try simp only [Act.put, List.getElem_toArray, List.getElem_cons_succ, List.getElem_cons_zero, List.setIfInBounds_toArray, List.set_cons_zero, List.set_cons_succ]
        refine wpAnyH_take (i := 10) (v := ?_) rfl (by kernel_rfl) (by kernel_rfl) (by kernel_rfl) (fun _ _ _ h => h) (Or.inl ⟨by rfl, ?_⟩) (by assumption) ?_
        rotate_left
        · intro w hSw
          (try dsimp only at hSw)
          go_simp
          first | done | with_reducible rfl
        try simp only [Act.put, List.getElem_toArray, List.getElem_cons_succ, List.getElem_cons_zero, List.setIfInBounds_toArray, List.set_cons_zero, List.set_cons_succ]
        refine wpAnyH_take (i := 11) (v := ?_) rfl (by kernel_rfl) (by kernel_rfl) (by kernel_rfl) (fun _ _ _ h => h) (Or.inl ⟨by rfl, ?_⟩) (by assumption) ?_
        rotate_left
        · intro w hSw
          (try dsimp only at hSw)
          go_simp
          first | done | with_reducible rfl
        try simp only [Act.put, List.getElem_toArray, List.getElem_cons_succ, List.getElem_cons_zero, List.setIfInBounds_toArray, List.set_cons_zero, List.set_cons_succ]
        refine wpAnyH_ready (rs := [5]) (by kernel_rfl) (by simp) ?_
        refine AllReadyH.cons rfl (fun K hK => ?_) AllReadyH.nil
        obtain ⟨wy, hwy⟩ : ∃ wy, wy = wc.drew := ⟨_, rfl⟩
        have hby0 : Below wc.heap.size wc wy := by rw [hwy]; exact ⟨rfl, rfl, rfl, Nat.le_refl _, fun _ _ => rfl⟩
        rw [← hwy]
        clear hwy
        obtain ⟨cy, hcy⟩ : ∃ cy, cy = grownCap wy (strOfNums t).size 0 5 := ⟨_, rfl⟩
        have hcv := Lib.run_convert_string_bytes (P := Try.prog) wy 9 22 5 (strOfNums t) Try.underlying9 Try.underlying22 Try.underlying5
        have hsz := bytes_sees wy (strOfNums t)
        rw [strI_of HT.out] at hsz
        rw [← hcy] at hcv hsz
        have hbz := bytes_below wy 5 (strOfNums t)
        obtain ⟨wz, hwz⟩ : ∃ wz, wz = Lib.bytesWorld wy 5 (strOfNums t) := ⟨_, rfl⟩
        rw [← hwz] at hcv hsz hbz
        have hsl : (strOfNums t).size = t.length := strOfNums_size t
        rw [hsl] at hcv hsz
        have hgz : g ≠ wy.heap.size := by
          have h1 := HPx.out.1.lt HPx.out.1.self
          have h2 := hby0.size
          omega
        clear hwz hcy
        go_simp
        refine hK.out _ _ ?_ (fun r1 => ?_)
        · exact opS ((bel hby0 hbz).block bk (heap_lt hbk) |>.trans hbk)
        try simp only [Act.put, List.getElem_toArray, List.getElem_cons_succ, List.getElem_cons_zero, List.setIfInBounds_toArray, List.set_cons_zero, List.set_cons_succ]
        have HPz := Lib.hid (HPx.out.below (bel hby0 hbz))
        have hbk1 := ((bel hby0 hbz).block bk (heap_lt hbk)).trans hbk
        have HBz := Lib.hid (Below.trans (HBx.out) ((bel hby0 hbz).mono HPx.out.size))
        refine wpAnyH_ready (rs := [6]) (by kernel_rfl) (by simp) ?_
        refine AllReadyH.cons rfl (fun K hK => ?_) AllReadyH.nil
        go_simp
        refine (append_any g P D nm _ t _ HPz.out.1 HO.out.1 hnm (by have := HSm.out.1; omega) (by have := (HSm.out.getD nm.data.toList).1; omega) hsz HT.out (fun _ d hd e => by cases hd; exact hgz e.symm)).mono ?_; rintro e wd ⟨P1, rfl, hD1, hS1⟩
        have hP1 := HPz.out.callD hD1 hS1
        have hnP1 : ¬ P bk := fun hp => absurd (HPQ.out.1 bk hp) (Nat.lt_irrefl _)
        have hbk2 := (hS1.1.2.2.2.2 bk (heap_lt hbk1) hnP1).trans hbk1
        refine hK.out _ _ ?_ (fun r2 => ?_)
        · exact opS hbk2
        try simp only [Act.put, List.getElem_toArray, List.getElem_cons_succ, List.getElem_cons_zero, List.setIfInBounds_toArray, List.set_cons_zero, List.set_cons_succ]
        refine wpAnyH_ready (rs := [12]) (by kernel_rfl) (by simp) ?_
        refine AllReadyH.cons rfl (fun K hK => ?_) AllReadyH.nil
        go_simp
        refine (Append_r r Q D nm t _ hP1.1.2.1 hnm (by have := HSm.out.1; omega) (by have := (HSm.out.getD nm.data.toList).1; omega)).mono ?_; rintro e we ⟨Q1, rfl, hR1, hS2⟩
        have hP2 := hP1.1.callR hR1 hS2
        have hnQ1 : ¬ Q bk := fun hp => absurd (HPQ.out.2 bk hp) (Nat.lt_irrefl _)
        have hbk3 := (hS2.1.2.2.2.2 bk (heap_lt hbk2) hnQ1).trans hbk2
        refine hK.out _ _ ?_ (fun r3 => ?_)
        · exact opS hbk3
        try simp only [Act.put, List.getElem_toArray, List.getElem_cons_succ, List.getElem_cons_zero, List.setIfInBounds_toArray, List.set_cons_zero, List.set_cons_succ]
        refine wpAnyH_take (i := 13) (v := ?_) rfl (by kernel_rfl) (by kernel_rfl) (by kernel_rfl) (fun _ _ _ h => h) (Or.inl ⟨by rfl, ?_⟩) (by assumption) ?_
        rotate_left
        · intro w hSw
          (try dsimp only at hSw)
          go_simp
          first | done | with_reducible rfl
        try simp only [Act.put, List.getElem_toArray, List.getElem_cons_succ, List.getElem_cons_zero, List.setIfInBounds_toArray, List.set_cons_zero, List.set_cons_succ]
        refine wpAnyH_take (i := 14) (v := ?_) rfl (by kernel_rfl) (by kernel_rfl) (by kernel_rfl) (fun _ _ _ h => h) (Or.inl ⟨by rfl, ?_⟩) (by assumption) ?_
        rotate_left
        · intro w hSw
          (try dsimp only at hSw)
          go_simp
          first | done | with_reducible rfl
        try simp only [Act.put, List.getElem_toArray, List.getElem_cons_succ, List.getElem_cons_zero, List.setIfInBounds_toArray, List.set_cons_zero, List.set_cons_succ]
        refine wpAnyH_done (by kernel_rfl) ?_ _
        go_wp2_with fail
        go_ret
        exact ⟨P1, Q1, _, by rfl, hP2.1, HSm.out.app (by rw [toList_len]; exact HO.out.1) htl, (HBz.out.trans hP1.2).trans hP2.2⟩
    have e1 : (k == 1) = false := by simpa using hk1
    by_cases hk2 : k = 2
    · subst hk2
      go_wp2_with fail
      refine wp_region_held_drew (S := (fun W => W.cell? ⟨bk, 1, none⟩ = some (.string nm) ∧ W.cell? ⟨bk, 2, none⟩ = some (.string to) ∧ W.cell? ⟨bk, 3, none⟩ = some (.string (strOfNums t)) ∧ W.cell? ⟨bk, 4, none⟩ = some (.int .i64 n))) (by kernel_rfl) ?_ (fun r0 => ?_)
      · exact opS hbk
      refine wpAnyH_take (i := 0) (v := ?_) rfl (by kernel_rfl) (by kernel_rfl) (by kernel_rfl) (fun _ _ _ h => h) (Or.inl ⟨by rfl, ?_⟩) (by assumption) ?_
      rotate_left
      · intro w hSw
        (try dsimp only at hSw)
        go_simp
        first | done | with_reducible rfl
      try simp only [Act.put, List.getElem_toArray, List.getElem_cons_succ, List.getElem_cons_zero, List.setIfInBounds_toArray, List.set_cons_zero, List.set_cons_succ]
      refine wpAnyH_take (i := 1) (v := ?_) rfl (by kernel_rfl) (by kernel_rfl) (by kernel_rfl) (fun _ _ _ h => h) (Or.inl ⟨by rfl, ?_⟩) (by assumption) ?_
      rotate_left
      · intro w hSw
        (try dsimp only at hSw)
        go_simp
        first | done | with_reducible rfl
      try simp only [Act.put, List.getElem_toArray, List.getElem_cons_succ, List.getElem_cons_zero, List.setIfInBounds_toArray, List.set_cons_zero, List.set_cons_succ]
      refine wpAnyH_take (i := 2) (v := ?_) rfl (by kernel_rfl) (by kernel_rfl) (by kernel_rfl) (fun _ _ _ h => h) (Or.inl ⟨by rfl, ?_⟩) (by assumption) ?_
      rotate_left
      · intro w hSw
        (try dsimp only at hSw)
        go_simp
        first | done | with_reducible rfl
      try simp only [Act.put, List.getElem_toArray, List.getElem_cons_succ, List.getElem_cons_zero, List.setIfInBounds_toArray, List.set_cons_zero, List.set_cons_succ]
      refine wpAnyH_take (i := 4) (v := ?_) rfl (by kernel_rfl) (by kernel_rfl) (by kernel_rfl) (fun _ _ _ h => h) (Or.inl ⟨by rfl, ?_⟩) (by assumption) ?_
      rotate_left
      · intro w hSw
        (try dsimp only at hSw)
        go_simp
        first | done | with_reducible rfl
      try simp only [Act.put, List.getElem_toArray, List.getElem_cons_succ, List.getElem_cons_zero, List.setIfInBounds_toArray, List.set_cons_zero, List.set_cons_succ]
      refine wpAnyH_take (i := 5) (v := ?_) rfl (by kernel_rfl) (by kernel_rfl) (by kernel_rfl) (fun _ _ _ h => h) (Or.inl ⟨by rfl, ?_⟩) (by assumption) ?_
      rotate_left
      · intro w hSw
        (try dsimp only at hSw)
        go_simp
        first | done | with_reducible rfl
      try simp only [Act.put, List.getElem_toArray, List.getElem_cons_succ, List.getElem_cons_zero, List.setIfInBounds_toArray, List.set_cons_zero, List.set_cons_succ]
      refine wpAnyH_take (i := 6) (v := ?_) rfl (by kernel_rfl) (by kernel_rfl) (by kernel_rfl) (fun _ _ _ h => h) (Or.inl ⟨by rfl, ?_⟩) (by assumption) ?_
      rotate_left
      · intro w hSw
        (try dsimp only at hSw)
        go_simp
        first | done | with_reducible rfl
      try simp only [Act.put, List.getElem_toArray, List.getElem_cons_succ, List.getElem_cons_zero, List.setIfInBounds_toArray, List.set_cons_zero, List.set_cons_succ]
      have hby0 : Below wc.heap.size wc wc.drew := ⟨rfl, rfl, rfl, Nat.le_refl _, fun _ _ => rfl⟩
      have HPz := Lib.hid (HPx.out.below hby0)
      have hbk1 := (hby0.block bk (heap_lt hbk)).trans hbk
      have HBz := Lib.hid (Below.trans (HBx.out) (hby0.mono HPx.out.size))
      refine wpAnyH_ready (rs := [3]) (by kernel_rfl) (by simp) ?_
      refine AllReadyH.cons rfl (fun K hK => ?_) AllReadyH.nil
      go_simp
      refine (sync_any g P D nm _ HPz.out.1 HO.out.1 (by have := HSm.out.1; omega)).mono ?_; rintro e wd ⟨P1, rfl, hD1, hS1⟩
      have hP1 := HPz.out.callD hD1 hS1
      have hnP1 : ¬ P bk := fun hp => absurd (HPQ.out.1 bk hp) (Nat.lt_irrefl _)
      have hbk2 := (hS1.1.2.2.2.2 bk (heap_lt hbk1) hnP1).trans hbk1
      refine hK.out _ _ ?_ (fun r2 => ?_)
      · exact opS hbk2
      try simp only [Act.put, List.getElem_toArray, List.getElem_cons_succ, List.getElem_cons_zero, List.setIfInBounds_toArray, List.set_cons_zero, List.set_cons_succ]
      refine wpAnyH_ready (rs := [7]) (by kernel_rfl) (by simp) ?_
      refine AllReadyH.cons rfl (fun K hK => ?_) AllReadyH.nil
      go_simp
      refine (Sync_r r Q D nm _ hP1.1.2.1 (by have := HSm.out.1; omega)).mono ?_; rintro e we ⟨Q1, rfl, hR1, hS2⟩
      have hP2 := hP1.1.callR hR1 hS2
      have hnQ1 : ¬ Q bk := fun hp => absurd (HPQ.out.2 bk hp) (Nat.lt_irrefl _)
      have hbk3 := (hS2.1.2.2.2.2 bk (heap_lt hbk2) hnQ1).trans hbk2
      refine hK.out _ _ ?_ (fun r3 => ?_)
      · exact opS hbk3
      try simp only [Act.put, List.getElem_toArray, List.getElem_cons_succ, List.getElem_cons_zero, List.setIfInBounds_toArray, List.set_cons_zero, List.set_cons_succ]
      refine wpAnyH_take (i := 8) (v := ?_) rfl (by kernel_rfl) (by kernel_rfl) (by kernel_rfl) (fun _ _ _ h => h) (Or.inl ⟨by rfl, ?_⟩) (by assumption) ?_
      rotate_left
      · intro w hSw
        (try dsimp only at hSw)
        go_simp
        first | done | with_reducible rfl
      try simp only [Act.put, List.getElem_toArray, List.getElem_cons_succ, List.getElem_cons_zero, List.setIfInBounds_toArray, List.set_cons_zero, List.set_cons_succ]
      refine wpAnyH_take (i := 9) (v := ?_) rfl (by kernel_rfl) (by kernel_rfl) (by kernel_rfl) (fun _ _ _ h => h) (Or.inl ⟨by rfl, ?_⟩) (by assumption) ?_
      rotate_left
      · intro w hSw
        (try dsimp only at hSw)
        go_simp
        first | done | with_reducible rfl
      try simp only [Act.put, List.getElem_toArray, List.getElem_cons_succ, List.getElem_cons_zero, List.setIfInBounds_toArray, List.set_cons_zero, List.set_cons_succ]
      refine wpAnyH_done (by kernel_rfl) ?_ _
      go_wp2_with fail
      go_ret
      exact ⟨P1, Q1, _, by rfl, hP2.1, HSm.out.sync _, (HBz.out.trans hP1.2).trans hP2.2⟩
    have e2 : (k == 2) = false := by simpa using hk2
    by_cases hk3 : k = 3
    · subst hk3
      go_wp2_with fail
      refine wp_region_held_drew (S := (fun W => W.cell? ⟨bk, 1, none⟩ = some (.string nm) ∧ W.cell? ⟨bk, 2, none⟩ = some (.string to) ∧ W.cell? ⟨bk, 3, none⟩ = some (.string (strOfNums t)) ∧ W.cell? ⟨bk, 4, none⟩ = some (.int .i64 n))) (by kernel_rfl) ?_ (fun r0 => ?_)
      · exact opS hbk
      refine wpAnyH_take (i := 0) (v := ?_) rfl (by kernel_rfl) (by kernel_rfl) (by kernel_rfl) (fun _ _ _ h => h) (Or.inl ⟨by rfl, ?_⟩) (by assumption) ?_
      rotate_left
      · intro w hSw
        (try dsimp only at hSw)
        go_simp
        first | done | with_reducible rfl
      try simp only [Act.put, List.getElem_toArray, List.getElem_cons_succ, List.getElem_cons_zero, List.setIfInBounds_toArray, List.set_cons_zero, List.set_cons_succ]
      refine wpAnyH_take (i := 1) (v := ?_) rfl (by kernel_rfl) (by kernel_rfl) (by kernel_rfl) (fun _ _ _ h => h) (Or.inl ⟨by rfl, ?_⟩) (by assumption) ?_
      rotate_left
      · intro w hSw
        (try dsimp only at hSw)
        go_simp
        first | done | with_reducible rfl
      try simp only [Act.put, List.getElem_toArray, List.getElem_cons_succ, List.getElem_cons_zero, List.setIfInBounds_toArray, List.set_cons_zero, List.set_cons_succ]
      refine wpAnyH_take (i := 2) (v := ?_) rfl (by kernel_rfl) (by kernel_rfl) (by kernel_rfl) (fun _ _ _ h => h) (Or.inl ⟨by rfl, ?_⟩) (by assumption) ?_
      rotate_left
      · intro w hSw
        (try dsimp only at hSw)
        go_simp
        first | done | with_reducible rfl
      try simp only [Act.put, List.getElem_toArray, List.getElem_cons_succ, List.getElem_cons_zero, List.setIfInBounds_toArray, List.set_cons_zero, List.set_cons_succ]
      refine wpAnyH_take (i := 3) (v := ?_) rfl (by kernel_rfl) (by kernel_rfl) (by kernel_rfl) (fun _ _ _ h => h) (Or.inl ⟨by rfl, ?_⟩) (by assumption) ?_
      rotate_left
      · intro w hSw
        (try dsimp only at hSw)
        go_simp
        first | done | with_reducible rfl
      try simp only [Act.put, List.getElem_toArray, List.getElem_cons_succ, List.getElem_cons_zero, List.setIfInBounds_toArray, List.set_cons_zero, List.set_cons_succ]
      refine wpAnyH_take (i := 4) (v := ?_) rfl (by kernel_rfl) (by kernel_rfl) (by kernel_rfl) (fun _ _ _ h => h) (Or.inl ⟨by rfl, ?_⟩) (by assumption) ?_
      rotate_left
      · intro w hSw
        (try dsimp only at hSw)
        go_simp
        first | done | with_reducible rfl
      try simp only [Act.put, List.getElem_toArray, List.getElem_cons_succ, List.getElem_cons_zero, List.setIfInBounds_toArray, List.set_cons_zero, List.set_cons_succ]
      refine wpAnyH_take (i := 6) (v := ?_) rfl (by kernel_rfl) (by kernel_rfl) (by kernel_rfl) (fun _ _ _ h => h) (Or.inl ⟨by rfl, ?_⟩) (by assumption) ?_
      rotate_left
      · intro w hSw
        (try dsimp only at hSw)
        go_simp
        first | done | with_reducible rfl
      try simp only [Act.put, List.getElem_toArray, List.getElem_cons_succ, List.getElem_cons_zero, List.setIfInBounds_toArray, List.set_cons_zero, List.set_cons_succ]
      refine wpAnyH_take (i := 7) (v := ?_) rfl (by kernel_rfl) (by kernel_rfl) (by kernel_rfl) (fun _ _ _ h => h) (Or.inl ⟨by rfl, ?_⟩) (by assumption) ?_
      rotate_left
      · intro w hSw
        (try dsimp only at hSw)
        go_simp
        first | done | with_reducible rfl
      try simp only [Act.put, List.getElem_toArray, List.getElem_cons_succ, List.getElem_cons_zero, List.setIfInBounds_toArray, List.set_cons_zero, List.set_cons_succ]
      refine wpAnyH_take (i := 8) (v := ?_) rfl (by kernel_rfl) (by kernel_rfl) (by kernel_rfl) (fun _ _ _ h => h) (Or.inl ⟨by rfl, ?_⟩) (by assumption) ?_
      rotate_left
      · intro w hSw
        (try dsimp only at hSw)
        go_simp
        first | done | with_reducible rfl
      try simp only [Act.put, List.getElem_toArray, List.getElem_cons_succ, List.getElem_cons_zero, List.setIfInBounds_toArray, List.set_cons_zero, List.set_cons_succ]
      refine wpAnyH_take (i := 9) (v := ?_) rfl (by kernel_rfl) (by kernel_rfl) (by kernel_rfl) (fun _ _ _ h => h) (Or.inl ⟨by rfl, ?_⟩) (by assumption) ?_
      rotate_left
      · intro w hSw
        (try dsimp only at hSw)
        go_simp
        first | done | with_reducible rfl
      try simp only [Act.put, List.getElem_toArray, List.getElem_cons_succ, List.getElem_cons_zero, List.setIfInBounds_toArray, List.set_cons_zero, List.set_cons_succ]
      refine wpAnyH_take (i := 10) (v := ?_) rfl (by kernel_rfl) (by kernel_rfl) (by kernel_rfl) (fun _ _ _ h => h) (Or.inl ⟨by rfl, ?_⟩) (by assumption) ?_
      rotate_left
      · intro w hSw
        (try dsimp only at hSw)
        go_simp
        first | done | with_reducible rfl
      try simp only [Act.put, List.getElem_toArray, List.getElem_cons_succ, List.getElem_cons_zero, List.setIfInBounds_toArray, List.set_cons_zero, List.set_cons_succ]
      have hby0 : Below wc.heap.size wc wc.drew := ⟨rfl, rfl, rfl, Nat.le_refl _, fun _ _ => rfl⟩
      have HPz := Lib.hid (HPx.out.below hby0)
      have hbk1 := (hby0.block bk (heap_lt hbk)).trans hbk
      have HBz := Lib.hid (Below.trans (HBx.out) (hby0.mono HPx.out.size))
      refine wpAnyH_ready (rs := [5]) (by kernel_rfl) (by simp) ?_
      refine AllReadyH.cons rfl (fun K hK => ?_) AllReadyH.nil
      go_simp
      refine (rename_any g P D nm to _ HPz.out.1 HO.out.1 HO.out.2.1 (by have := HSm.out.1; omega)).mono ?_; rintro e wd ⟨P1, rfl, hD1, hS1⟩
      have hP1 := HPz.out.callD hD1 hS1
      have hnP1 : ¬ P bk := fun hp => absurd (HPQ.out.1 bk hp) (Nat.lt_irrefl _)
      have hbk2 := (hS1.1.2.2.2.2 bk (heap_lt hbk1) hnP1).trans hbk1
      refine hK.out _ _ ?_ (fun r2 => ?_)
      · exact opS hbk2
      try simp only [Act.put, List.getElem_toArray, List.getElem_cons_succ, List.getElem_cons_zero, List.setIfInBounds_toArray, List.set_cons_zero, List.set_cons_succ]
      refine wpAnyH_ready (rs := [11]) (by kernel_rfl) (by simp) ?_
      refine AllReadyH.cons rfl (fun K hK => ?_) AllReadyH.nil
      go_simp
      refine (Rename_r r Q D nm to _ hP1.1.2.1 (by have := HSm.out.1; omega)).mono ?_; rintro e we ⟨Q1, rfl, hR1, hS2⟩
      have hP2 := hP1.1.callR hR1 hS2
      have hnQ1 : ¬ Q bk := fun hp => absurd (HPQ.out.2 bk hp) (Nat.lt_irrefl _)
      have hbk3 := (hS2.1.2.2.2.2 bk (heap_lt hbk2) hnQ1).trans hbk2
      refine hK.out _ _ ?_ (fun r3 => ?_)
      · exact opS hbk3
      try simp only [Act.put, List.getElem_toArray, List.getElem_cons_succ, List.getElem_cons_zero, List.setIfInBounds_toArray, List.set_cons_zero, List.set_cons_succ]
      refine wpAnyH_take (i := 12) (v := ?_) rfl (by kernel_rfl) (by kernel_rfl) (by kernel_rfl) (fun _ _ _ h => h) (Or.inl ⟨by rfl, ?_⟩) (by assumption) ?_
      rotate_left
      · intro w hSw
        (try dsimp only at hSw)
        go_simp
        first | done | with_reducible rfl
      try simp only [Act.put, List.getElem_toArray, List.getElem_cons_succ, List.getElem_cons_zero, List.setIfInBounds_toArray, List.set_cons_zero, List.set_cons_succ]
      refine wpAnyH_take (i := 13) (v := ?_) rfl (by kernel_rfl) (by kernel_rfl) (by kernel_rfl) (fun _ _ _ h => h) (Or.inl ⟨by rfl, ?_⟩) (by assumption) ?_
      rotate_left
      · intro w hSw
        (try dsimp only at hSw)
        go_simp
        first | done | with_reducible rfl
      try simp only [Act.put, List.getElem_toArray, List.getElem_cons_succ, List.getElem_cons_zero, List.setIfInBounds_toArray, List.set_cons_zero, List.set_cons_succ]
      refine wpAnyH_done (by kernel_rfl) ?_ _
      go_wp2_with fail
      go_ret
      exact ⟨P1, Q1, _, by rfl, hP2.1, HSm.out.rename _ (by rw [toList_len]; exact HO.out.2.1), (HBz.out.trans hP1.2).trans hP2.2⟩
    have e3 : (k == 3) = false := by simpa using hk3
    by_cases hk4 : k = 4
    · subst hk4
      go_wp2_with fail
      refine wp_region_held_drew (S := (fun W => W.cell? ⟨bk, 1, none⟩ = some (.string nm) ∧ W.cell? ⟨bk, 2, none⟩ = some (.string to) ∧ W.cell? ⟨bk, 3, none⟩ = some (.string (strOfNums t)) ∧ W.cell? ⟨bk, 4, none⟩ = some (.int .i64 n))) (by kernel_rfl) ?_ (fun r0 => ?_)
      · exact opS hbk
      refine wpAnyH_take (i := 0) (v := ?_) rfl (by kernel_rfl) (by kernel_rfl) (by kernel_rfl) (fun _ _ _ h => h) (Or.inl ⟨by rfl, ?_⟩) (by assumption) ?_
      rotate_left
      · intro w hSw
        (try dsimp only at hSw)
        go_simp
        first | done | with_reducible rfl
      try simp only [Act.put, List.getElem_toArray, List.getElem_cons_succ, List.getElem_cons_zero, List.setIfInBounds_toArray, List.set_cons_zero, List.set_cons_succ]
      refine wpAnyH_take (i := 1) (v := ?_) rfl (by kernel_rfl) (by kernel_rfl) (by kernel_rfl) (fun _ _ _ h => h) (Or.inl ⟨by rfl, ?_⟩) (by assumption) ?_
      rotate_left
      · intro w hSw
        (try dsimp only at hSw)
        go_simp
        first | done | with_reducible rfl
      try simp only [Act.put, List.getElem_toArray, List.getElem_cons_succ, List.getElem_cons_zero, List.setIfInBounds_toArray, List.set_cons_zero, List.set_cons_succ]
      refine wpAnyH_take (i := 2) (v := ?_) rfl (by kernel_rfl) (by kernel_rfl) (by kernel_rfl) (fun _ _ _ h => h) (Or.inl ⟨by rfl, ?_⟩) (by assumption) ?_
      rotate_left
      · intro w hSw
        (try dsimp only at hSw)
        go_simp
        first | done | with_reducible rfl
      try simp only [Act.put, List.getElem_toArray, List.getElem_cons_succ, List.getElem_cons_zero, List.setIfInBounds_toArray, List.set_cons_zero, List.set_cons_succ]
      refine wpAnyH_take (i := 4) (v := ?_) rfl (by kernel_rfl) (by kernel_rfl) (by kernel_rfl) (fun _ _ _ h => h) (Or.inl ⟨by rfl, ?_⟩) (by assumption) ?_
      rotate_left
      · intro w hSw
        (try dsimp only at hSw)
        go_simp
        first | done | with_reducible rfl
      try simp only [Act.put, List.getElem_toArray, List.getElem_cons_succ, List.getElem_cons_zero, List.setIfInBounds_toArray, List.set_cons_zero, List.set_cons_succ]
      refine wpAnyH_take (i := 5) (v := ?_) rfl (by kernel_rfl) (by kernel_rfl) (by kernel_rfl) (fun _ _ _ h => h) (Or.inl ⟨by rfl, ?_⟩) (by assumption) ?_
      rotate_left
      · intro w hSw
        (try dsimp only at hSw)
        go_simp
        first | done | with_reducible rfl
      try simp only [Act.put, List.getElem_toArray, List.getElem_cons_succ, List.getElem_cons_zero, List.setIfInBounds_toArray, List.set_cons_zero, List.set_cons_succ]
      refine wpAnyH_take (i := 6) (v := ?_) rfl (by kernel_rfl) (by kernel_rfl) (by kernel_rfl) (fun _ _ _ h => h) (Or.inl ⟨by rfl, ?_⟩) (by assumption) ?_
      rotate_left
      · intro w hSw
        (try dsimp only at hSw)
        go_simp
        first | done | with_reducible rfl
      try simp only [Act.put, List.getElem_toArray, List.getElem_cons_succ, List.getElem_cons_zero, List.setIfInBounds_toArray, List.set_cons_zero, List.set_cons_succ]
      have hby0 : Below wc.heap.size wc wc.drew := ⟨rfl, rfl, rfl, Nat.le_refl _, fun _ _ => rfl⟩
      have HPz := Lib.hid (HPx.out.below hby0)
      have hbk1 := (hby0.block bk (heap_lt hbk)).trans hbk
      have HBz := Lib.hid (Below.trans (HBx.out) (hby0.mono HPx.out.size))
      refine wpAnyH_ready (rs := [3]) (by kernel_rfl) (by simp) ?_
      refine AllReadyH.cons rfl (fun K hK => ?_) AllReadyH.nil
      go_simp
      refine (remove_any g P D nm _ HPz.out.1 HO.out.1).mono ?_; rintro e wd ⟨P1, rfl, hD1, hS1⟩
      have hP1 := HPz.out.callD hD1 hS1
      have hnP1 : ¬ P bk := fun hp => absurd (HPQ.out.1 bk hp) (Nat.lt_irrefl _)
      have hbk2 := (hS1.1.2.2.2.2 bk (heap_lt hbk1) hnP1).trans hbk1
      refine hK.out _ _ ?_ (fun r2 => ?_)
      · exact opS hbk2
      try simp only [Act.put, List.getElem_toArray, List.getElem_cons_succ, List.getElem_cons_zero, List.setIfInBounds_toArray, List.set_cons_zero, List.set_cons_succ]
      refine wpAnyH_ready (rs := [7]) (by kernel_rfl) (by simp) ?_
      refine AllReadyH.cons rfl (fun K hK => ?_) AllReadyH.nil
      go_simp
      refine (Remove_r r Q D nm _ hP1.1.2.1 (by have := HSm.out.1; omega)).mono ?_; rintro e we ⟨Q1, rfl, hR1, hS2⟩
      have hP2 := hP1.1.callR hR1 hS2
      have hnQ1 : ¬ Q bk := fun hp => absurd (HPQ.out.2 bk hp) (Nat.lt_irrefl _)
      have hbk3 := (hS2.1.2.2.2.2 bk (heap_lt hbk2) hnQ1).trans hbk2
      refine hK.out _ _ ?_ (fun r3 => ?_)
      · exact opS hbk3
      try simp only [Act.put, List.getElem_toArray, List.getElem_cons_succ, List.getElem_cons_zero, List.setIfInBounds_toArray, List.set_cons_zero, List.set_cons_succ]
      refine wpAnyH_take (i := 8) (v := ?_) rfl (by kernel_rfl) (by kernel_rfl) (by kernel_rfl) (fun _ _ _ h => h) (Or.inl ⟨by rfl, ?_⟩) (by assumption) ?_
      rotate_left
      · intro w hSw
        (try dsimp only at hSw)
        go_simp
        first | done | with_reducible rfl
      try simp only [Act.put, List.getElem_toArray, List.getElem_cons_succ, List.getElem_cons_zero, List.setIfInBounds_toArray, List.set_cons_zero, List.set_cons_succ]
      refine wpAnyH_take (i := 9) (v := ?_) rfl (by kernel_rfl) (by kernel_rfl) (by kernel_rfl) (fun _ _ _ h => h) (Or.inl ⟨by rfl, ?_⟩) (by assumption) ?_
      rotate_left
      · intro w hSw
        (try dsimp only at hSw)
        go_simp
        first | done | with_reducible rfl
      try simp only [Act.put, List.getElem_toArray, List.getElem_cons_succ, List.getElem_cons_zero, List.setIfInBounds_toArray, List.set_cons_zero, List.set_cons_succ]
      refine wpAnyH_done (by kernel_rfl) ?_ _
      go_wp2_with fail
      go_ret
      exact ⟨P1, Q1, _, by rfl, hP2.1, HSm.out.remove _, (HBz.out.trans hP1.2).trans hP2.2⟩
    have e4 : (k == 4) = false := by simpa using hk4
    by_cases hk5 : k = 5
    · subst hk5
      go_wp2_with fail
      refine wp_region_held_drew (S := (fun W => W.cell? ⟨bk, 1, none⟩ = some (.string nm) ∧ W.cell? ⟨bk, 2, none⟩ = some (.string to) ∧ W.cell? ⟨bk, 3, none⟩ = some (.string (strOfNums t)) ∧ W.cell? ⟨bk, 4, none⟩ = some (.int .i64 n))) (by kernel_rfl) ?_ (fun r0 => ?_)
      · exact opS hbk
      refine wpAnyH_take (i := 0) (v := ?_) rfl (by kernel_rfl) (by kernel_rfl) (by kernel_rfl) (fun _ _ _ h => h) (Or.inl ⟨by rfl, ?_⟩) (by assumption) ?_
      rotate_left
      · intro w hSw
        (try dsimp only at hSw)
        go_simp
        first | done | with_reducible rfl
      try simp only [Act.put, List.getElem_toArray, List.getElem_cons_succ, List.getElem_cons_zero, List.setIfInBounds_toArray, List.set_cons_zero, List.set_cons_succ]
      refine wpAnyH_take (i := 1) (v := ?_) rfl (by kernel_rfl) (by kernel_rfl) (by kernel_rfl) (fun _ _ _ h => h) (Or.inl ⟨by rfl, ?_⟩) (by assumption) ?_
      rotate_left
      · intro w hSw
        (try dsimp only at hSw)
        go_simp
        first | done | with_reducible rfl
      try simp only [Act.put, List.getElem_toArray, List.getElem_cons_succ, List.getElem_cons_zero, List.setIfInBounds_toArray, List.set_cons_zero, List.set_cons_succ]
      refine wpAnyH_take (i := 2) (v := ?_) rfl (by kernel_rfl) (by kernel_rfl) (by kernel_rfl) (fun _ _ _ h => h) (Or.inl ⟨by rfl, ?_⟩) (by assumption) ?_
      rotate_left
      · intro w hSw
        (try dsimp only at hSw)
        go_simp
        first | done | with_reducible rfl
      try simp only [Act.put, List.getElem_toArray, List.getElem_cons_succ, List.getElem_cons_zero, List.setIfInBounds_toArray, List.set_cons_zero, List.set_cons_succ]
      refine wpAnyH_take (i := 3) (v := ?_) rfl (by kernel_rfl) (by kernel_rfl) (by kernel_rfl) (fun _ _ _ h => h) (Or.inl ⟨by rfl, ?_⟩) (by assumption) ?_
      rotate_left
      · intro w hSw
        (try dsimp only at hSw)
        go_simp
        first | done | with_reducible rfl
      try simp only [Act.put, List.getElem_toArray, List.getElem_cons_succ, List.getElem_cons_zero, List.setIfInBounds_toArray, List.set_cons_zero, List.set_cons_succ]
      refine wpAnyH_take (i := 4) (v := ?_) rfl (by kernel_rfl) (by kernel_rfl) (by kernel_rfl) (fun _ _ _ h => h) (Or.inl ⟨by rfl, ?_⟩) (by assumption) ?_
      rotate_left
      · intro w hSw
        (try dsimp only at hSw)
        go_simp
        first | done | with_reducible rfl
      try simp only [Act.put, List.getElem_toArray, List.getElem_cons_succ, List.getElem_cons_zero, List.setIfInBounds_toArray, List.set_cons_zero, List.set_cons_succ]
      refine wpAnyH_take (i := 6) (v := ?_) rfl (by kernel_rfl) (by kernel_rfl) (by kernel_rfl) (fun _ _ _ h => h) (Or.inl ⟨by rfl, ?_⟩) (by assumption) ?_
      rotate_left
      · intro w hSw
        (try dsimp only at hSw)
        go_simp
        first | done | with_reducible rfl
      try simp only [Act.put, List.getElem_toArray, List.getElem_cons_succ, List.getElem_cons_zero, List.setIfInBounds_toArray, List.set_cons_zero, List.set_cons_succ]
      refine wpAnyH_take (i := 7) (v := ?_) rfl (by kernel_rfl) (by kernel_rfl) (by kernel_rfl) (fun _ _ _ h => h) (Or.inl ⟨by rfl, ?_⟩) (by assumption) ?_
      rotate_left
      · intro w hSw
        (try dsimp only at hSw)
        go_simp
        first | done | with_reducible rfl
      try simp only [Act.put, List.getElem_toArray, List.getElem_cons_succ, List.getElem_cons_zero, List.setIfInBounds_toArray, List.set_cons_zero, List.set_cons_succ]
      refine wpAnyH_take (i := 8) (v := ?_) rfl (by kernel_rfl) (by kernel_rfl) (by kernel_rfl) (fun _ _ _ h => h) (Or.inl ⟨by rfl, ?_⟩) (by assumption) ?_
      rotate_left
      · intro w hSw
        (try dsimp only at hSw)
        go_simp
        first | done | with_reducible rfl
      try simp only [Act.put, List.getElem_toArray, List.getElem_cons_succ, List.getElem_cons_zero, List.setIfInBounds_toArray, List.set_cons_zero, List.set_cons_succ]
      refine wpAnyH_take (i := 9) (v := ?_) rfl (by kernel_rfl) (by kernel_rfl) (by kernel_rfl) (fun _ _ _ h => h) (Or.inl ⟨by rfl, ?_⟩) (by assumption) ?_
      rotate_left
      · intro w hSw
        (try dsimp only at hSw)
        go_simp
        first | done | with_reducible rfl
      try simp only [Act.put, List.getElem_toArray, List.getElem_cons_succ, List.getElem_cons_zero, List.setIfInBounds_toArray, List.set_cons_zero, List.set_cons_succ]
      refine wpAnyH_take (i := 10) (v := ?_) rfl (by kernel_rfl) (by kernel_rfl) (by kernel_rfl) (fun _ _ _ h => h) (Or.inl ⟨by rfl, ?_⟩) (by assumption) ?_
      rotate_left
      · intro w hSw
        (try dsimp only at hSw)
        go_simp
        first | done | with_reducible rfl
      try simp only [Act.put, List.getElem_toArray, List.getElem_cons_succ, List.getElem_cons_zero, List.setIfInBounds_toArray, List.set_cons_zero, List.set_cons_succ]
      have hby0 : Below wc.heap.size wc wc.drew := ⟨rfl, rfl, rfl, Nat.le_refl _, fun _ _ => rfl⟩
      have HPz := Lib.hid (HPx.out.below hby0)
      have hbk1 := (hby0.block bk (heap_lt hbk)).trans hbk
      have HBz := Lib.hid (Below.trans (HBx.out) (hby0.mono HPx.out.size))
      refine wpAnyH_ready (rs := [5]) (by kernel_rfl) (by simp) ?_
      refine AllReadyH.cons rfl (fun K hK => ?_) AllReadyH.nil
      go_simp
      refine (cut_any g P D nm n _ HPz.out.1 HO.out.1 HO.out.2.2.1.1 HO.out.2.2.1.2 (fun f hf => by have := (HSm.out.2 f hf).2.1; omega) (by have := HSm.out.1; omega)).mono ?_; rintro e wd ⟨P1, rfl, hD1, hS1⟩
      have hP1 := HPz.out.callD hD1 hS1
      have hnP1 : ¬ P bk := fun hp => absurd (HPQ.out.1 bk hp) (Nat.lt_irrefl _)
      have hbk2 := (hS1.1.2.2.2.2 bk (heap_lt hbk1) hnP1).trans hbk1
      refine hK.out _ _ ?_ (fun r2 => ?_)
      · exact opS hbk2
      try simp only [Act.put, List.getElem_toArray, List.getElem_cons_succ, List.getElem_cons_zero, List.setIfInBounds_toArray, List.set_cons_zero, List.set_cons_succ]
      refine wpAnyH_ready (rs := [11]) (by kernel_rfl) (by simp) ?_
      refine AllReadyH.cons rfl (fun K hK => ?_) AllReadyH.nil
      go_simp
      refine (Cut_r r Q D nm n _ hP1.1.2.1 (by have := HSm.out.1; omega)).mono ?_; rintro e we ⟨Q1, rfl, hR1, hS2⟩
      have hP2 := hP1.1.callR hR1 hS2
      have hnQ1 : ¬ Q bk := fun hp => absurd (HPQ.out.2 bk hp) (Nat.lt_irrefl _)
      have hbk3 := (hS2.1.2.2.2.2 bk (heap_lt hbk2) hnQ1).trans hbk2
      refine hK.out _ _ ?_ (fun r3 => ?_)
      · exact opS hbk3
      try simp only [Act.put, List.getElem_toArray, List.getElem_cons_succ, List.getElem_cons_zero, List.setIfInBounds_toArray, List.set_cons_zero, List.set_cons_succ]
      refine wpAnyH_take (i := 12) (v := ?_) rfl (by kernel_rfl) (by kernel_rfl) (by kernel_rfl) (fun _ _ _ h => h) (Or.inl ⟨by rfl, ?_⟩) (by assumption) ?_
      rotate_left
      · intro w hSw
        (try dsimp only at hSw)
        go_simp
        first | done | with_reducible rfl
      try simp only [Act.put, List.getElem_toArray, List.getElem_cons_succ, List.getElem_cons_zero, List.setIfInBounds_toArray, List.set_cons_zero, List.set_cons_succ]
      refine wpAnyH_take (i := 13) (v := ?_) rfl (by kernel_rfl) (by kernel_rfl) (by kernel_rfl) (fun _ _ _ h => h) (Or.inl ⟨by rfl, ?_⟩) (by assumption) ?_
      rotate_left
      · intro w hSw
        (try dsimp only at hSw)
        go_simp
        first | done | with_reducible rfl
      try simp only [Act.put, List.getElem_toArray, List.getElem_cons_succ, List.getElem_cons_zero, List.setIfInBounds_toArray, List.set_cons_zero, List.set_cons_succ]
      refine wpAnyH_done (by kernel_rfl) ?_ _
      go_wp2_with fail
      go_ret
      exact ⟨P1, Q1, _, by rfl, hP2.1, HSm.out.cut _ _, (HBz.out.trans hP1.2).trans hP2.2⟩
    have e5 : (k == 5) = false := by simpa using hk5
    by_cases hk6 : k = 6
    · subst hk6
      go_wp2_with fail
      refine (arm_any g P D n _ HPx.out.1 HO.out.2.2.1.1 HO.out.2.2.1.2).mono ?_; rintro e wd ⟨rfl, hD1, hT1⟩
      have hP1 := HPx.out.callD hD1 ⟨hT1, fun _ h => Or.inl h⟩
      have hnP1 : ¬ P bk := fun hp => absurd (HPQ.out.1 bk hp) (Nat.lt_irrefl _)
      have hbk2 := (hT1.2.2.2.2 bk (heap_lt hbk) hnP1).trans hbk
      obtain ⟨d0, d1, d2, d3, d4, d5⟩ := opC hbk2
      go_wp2_with fail
      refine (Arm_r r Q D n _ hP1.1.2.1 HO.out.2.2.1.1 HO.out.2.2.1.2).mono ?_; rintro e we ⟨rfl, hR1, hS2⟩
      have hP2 := hP1.1.callR hR1 hS2
      go_wp2_with fail
      go_ret
      exact ⟨P, Q, _, rfl, hP2.1, HSm.out.mono (Nat.le_succ m), (HBx.out.trans hP1.2).trans hP2.2⟩
    have e6 : (k == 6) = false := by simpa using hk6
    by_cases hk7 : k = 7
    · subst hk7
      go_wp2_with fail
      have hKx := HK.out.1.keep' (w' := wc) (fun _ d _ hd => HBw.out.block d hd)
      refine (crash_any g P D kv ks _ HPx.out.1 (by have := HSm.out.1; omega) (fun f hf => ⟨(HSm.out.2 f hf).1, by have := (HSm.out.2 f hf).2.1; omega⟩) hKx HO.out.2.2.2.1 (fun h0 d hd hp => by
        have h1 := HK.out.2 h0 d hd
        have h2 := HPx.out.2.2.2.1 d hp
        omega)).mono ?_; rintro e wd ⟨P1, rfl, hD1, hS1⟩
      have hP1 := HPx.out.callD hD1 hS1
      have hnP1 : ¬ P bk := fun hp => absurd (HPQ.out.1 bk hp) (Nat.lt_irrefl _)
      have hbk2 := (hS1.1.2.2.2.2 bk (heap_lt hbk) hnP1).trans hbk
      obtain ⟨d0, d1, d2, d3, d4, d5⟩ := opC hbk2
      have hKd := HK.out.1.keep' (w' := wd) (fun h0 d hd _ => ((HBx.out.trans hP1.2).block d (HK.out.2 h0 d hd)))
      go_wp2_with fail
      refine (Crash_r r Q D kv ks _ hP1.1.2.1 (by have := HSm.out.1; omega) (fun f hf => ⟨(HSm.out.2 f hf).2.2, by have := (HSm.out.2 f hf).2.1; omega⟩) hKd HO.out.2.2.2.1).mono ?_; rintro e we ⟨Q1, rfl, hR1, hS2⟩
      have hP2 := hP1.1.callR hR1 hS2
      go_wp2_with fail
      go_ret
      exact ⟨P1, Q1, _, rfl, hP2.1, (HSm.out.crash ks).mono (Nat.le_succ m), (HBx.out.trans hP1.2).trans hP2.2⟩
    have e7 : (k == 7) = false := by simpa using hk7
    go_wp2_with fail
    go_ret
    exact ⟨P, Q, D, rfl, HPx.out, HSm.out.mono (Nat.le_succ m), HBx.out⟩
end Go.Proofs.Ytkjdfelmjanpcaa
