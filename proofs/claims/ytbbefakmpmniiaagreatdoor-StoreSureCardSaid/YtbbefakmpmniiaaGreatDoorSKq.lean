/- Joined: KvRef2 KvRef3 KvRef4 KvRef5. -/
import Derived.Test.YtbbefakmpmniiaaGreatDoorSKr
import Derived.Test.YtbbefakmpmniiaaGreatDoorSKw
namespace Go.Proofs.YtbbefakmpmniiaaGreatDoor.KV
section
open Go.RowKit Go.Maps
theorem refStands_any (v : Value) (L : List KEnt) (R : Int) (k : ByteArray) (rv : Int) (w : World) (h : SeesI w v L) (hl : L.length ≤ maxLen) :
    Calls Tryz.prog 72 #[stV R v, .string k, .int .i64 rv] w fun e w' => e = .returned (.bool (stands L k rv)) ∧ Below w.heap.size w w' := by
  obtain ⟨wq, hW⟩ : ∃ wq, wq = w.alloc (stO R v) := ⟨_, rfl⟩
  have hb : Below w.heap.size w wq := by rw [hW]; exact belNew _ _
  have hA : wq.heap[w.heap.size]? = some (stO R v) := by rw [hW]; exact heap_alloc_new w _
  have HF := Lib.hid (refFind_any v L R k wq (h.below hb) hl)
  have HW := Lib.hid hW
  have HB := Lib.hid hb
  have s0 := cell0 hA
  have s1 := cell1 hA
  clear hW hb hA h
  unfold stands revOf
  unfold gotV at HF
  generalize there L k = th at HF
  generalize gotU L k = u at HF
  obtain ⟨u1, u2, u3⟩ := u
  cases th with
  | true =>
    go_enter Tryz.func72, Tryz.ntmps72
    go_upto_region 1 with fail
    change Code.wp _ _ _ _ (w.alloc (stO R v))
    rw [← HW.out]
    go_wp2_with (first
      | (go_at_call 69; refine HF.out.mono ?_; rintro e w1 ⟨rfl, hb1⟩)
      | go_in)
    go_ret
    exact ⟨rfl, belAlloc (HB.out.trans (hb1.mono HB.out.size)) _⟩
  | false =>
    go_enter Tryz.func72, Tryz.ntmps72
    go_upto_region 1 with fail
    change Code.wp _ _ _ _ (w.alloc (stO R v))
    rw [← HW.out]
    go_wp2_with (first
      | (go_at_call 69; refine HF.out.mono ?_; rintro e w1 ⟨rfl, hb1⟩)
      | go_in)
    go_ret
    exact ⟨rfl, belAlloc (HB.out.trans (hb1.mono HB.out.size)) _⟩
theorem beginL_snoc {L : List KEnt} {k : ByteArray} {i : Nat} {p : KEnt} (hp : L[i]? = some p) : beginL (L.take (i + 1)) k = if begins k p.1 = true then beginL (L.take i) k ++ [p] else beginL (L.take i) k := by
  unfold beginL
  rw [List.take_add_one, hp, List.filter_append]
  by_cases hb : begins k p.1 = true
  · rw [if_pos hb]; simp [hb]
  · rw [if_neg hb]; simp [hb]
theorem beginL_le (L : List KEnt) (k : ByteArray) : (beginL L k).length ≤ L.length := List.length_filter_le _ _
set_option maxRecDepth 100000 in
set_option maxHeartbeats 4000000 in
theorem refBegin_any (v : Value) (L : List KEnt) (R : Int) (k : ByteArray) (w : World) (h : SeesI w v L) (hl : L.length ≤ 1000000) (hk : k.size ≤ maxLen) :
    Calls Tryz.prog 70 #[stV R v, .string k] w fun e w' => ∃ v', e = .returned v' ∧ RowR w' w.heap.size v' (beginL L k) ∧ Below w.heap.size w w' := by
  obtain ⟨W, hW⟩ : ∃ W, W = w.alloc (stO R v) := ⟨_, rfl⟩
  have hb : Below w.heap.size w W := by rw [hW]; exact belNew _ _
  have hA : W.heap[w.heap.size]? = some (stO R v) := by rw [hW]; exact heap_alloc_new w _
  obtain ⟨ao, c, rfl, hlc, hnil, hc⟩ := h.below hb
  have HW := Lib.hid hW
  have HC := Lib.hid (And.intro hnil hc)
  have HB0 := Lib.hid hb
  have hk2 : (k.size : Int) ≤ 9223372036854775807 := by unfold maxLen at hk; omega
  have hk0 : (0 : Int) ≤ (k.size : Int) := by omega
  have s0 := cell0 hA
  have s1 := cell1 hA
  clear hW hnil hc hb hA h hk
  go_enter Tryz.func70, Tryz.ntmps70
  go_upto_region 1 with fail
  change Code.wp _ _ _ _ (w.alloc (stO R (.slice ao L.length c)))
  rw [← HW.out]
  go_wp2_with fail
  go_loopw [5, 11] (fun l j wr => ∃ i : Nat, i ≤ L.length ∧ j = .int .i64 i ∧ RowR wr W.heap.size l (beginL (L.take i) k) ∧ Below W.heap.size W wr) (fun _ j _ => L.length - (intOf j).toNat)
  case atStart => exact ⟨0, Nat.zero_le _, rfl, World.ownsRow_nil _ _ _ _, Below.refl _ _⟩
  case round =>
    obtain ⟨i, hi, rfl, hrow, hBw⟩ := hrel
    by_cases hlt : i < L.length
    · obtain ⟨a, rfl⟩ : ∃ a, ao = some a := by
        cases ao with
        | none => rw [HC.out.1 rfl] at hlt; simp at hlt
        | some a => exact ⟨a, rfl⟩
      obtain ⟨p, hgi⟩ : ∃ p, L[i]? = some p := ⟨_, List.getElem?_eq_getElem hlt⟩
      obtain ⟨q0, q1, q2⟩ := HC.out.2 a rfl i p hgi
      have q0 := bcell hBw q0
      have q1 := ofs1 (bcell hBw q1)
      have q2 := ofs2 (bcell hBw q2)
      have b0 : (0 : Int) ≤ (i : Int) := by omega
      have b1 : (i : Int) < (L.length : Int) := by omega
      have hbg : begins k p.1 = (decide (k.size ≤ (⟨p.1.toArray⟩ : ByteArray).size) && (((⟨p.1.toArray⟩ : ByteArray).extract 0 k.size).toList == k.toList)) := beginB k ⟨p.1.toArray⟩
      have hsn := beginL_snoc (k := k) hgi
      have hle : (beginL (L.take i) k).length ≤ 1000000 := Nat.le_trans (beginL_le _ _) (by rw [List.length_take]; omega)
      have HBG := Lib.hid hbg
      have HBw := Lib.hid hBw
      have HSN := Lib.hid hsn
      clear hbg hsn hgi
      by_cases hlen : k.size ≤ (⟨p.1.toArray⟩ : ByteArray).size
      · have d1 : decide ((k.size : Int) ≤ ((⟨p.1.toArray⟩ : ByteArray).size : Int)) = true := by simp; omega
        have hsz : (⟨p.1.toArray⟩ : ByteArray).size = p.1.length := by simp [ByteArray.size]
        have d1b : (k.size : Int) ≤ ((⟨p.1.toArray⟩ : ByteArray).size : Int) := by omega
        have d1c : k.size ≤ p.1.length := by omega
        have d1d : (k.size : Int) ≤ (p.1.length : Int) := by omega
        cases hpx : ((⟨p.1.toArray⟩ : ByteArray).extract 0 k.size).toList == k.toList with
        | true =>
          have hpx2 : ((⟨p.1.toArray⟩ : ByteArray).extract 0 k.size).toList = k.toList := by simpa using hpx
          have hbt : begins k p.1 = true := by rw [HBG.out, hpx]; simp; exact hlen
          have hs2 : beginL (L.take (i + 1)) k = beginL (L.take i) k ++ [p] := by rw [HSN.out, if_pos hbt]
          have HS2 := Lib.hid hs2
          have hrow2 := hrow.alloc (itRO ⟨p.1.toArray⟩ p.2.1 p.2.2)
          clear hbt hs2 hlen hsz
          go_wp2_with (first
            | (at_builtin; refine wpList_push Tryz.underlying41 infoR rfl (.tmp 30) (.tmp 32) rfl W.heap.size u5 (beginL (L.take i) k) ⟨p.1.toArray⟩ p.2 (wr.heap.size + 1) (by simp) rfl rfl hrow2 (by omega) (by simp; have := HBw.out.size; omega) ?_; intro v2 w2 hrow3 hb2 hg2)
            | go_in)
          go_roundw
          case rel => exact ⟨i + 1, by omega, by go_num, by rw [HS2.out]; exact hrow3, (belAlloc HBw.out _).trans hb2⟩
          case measure => simp [intOf]; omega
        | false =>
          have hbt : begins k p.1 = false := by rw [HBG.out, hpx]; simp
          have hs2 : beginL (L.take (i + 1)) k = beginL (L.take i) k := by rw [HSN.out, if_neg (by rw [hbt]; simp)]
          have HS2 := Lib.hid hs2
          have hpx2 : ¬ ((⟨p.1.toArray⟩ : ByteArray).extract 0 k.size).toList = k.toList := by simpa using hpx
          clear hbt hs2 hlen hsz
          go_wp2_with fail
          go_roundw
          case rel => exact ⟨i + 1, by omega, by go_num, by rw [HS2.out]; exact hrow.alloc _, belAlloc HBw.out _⟩
          case measure => simp [intOf]; omega
      · have d1 : decide ((k.size : Int) ≤ ((⟨p.1.toArray⟩ : ByteArray).size : Int)) = false := by simp; omega
        have hsz : (⟨p.1.toArray⟩ : ByteArray).size = p.1.length := by simp [ByteArray.size]
        have d1c : ¬ k.size ≤ p.1.length := by omega
        have hbt : begins k p.1 = false := by rw [HBG.out]; simp; omega
        have hs2 : beginL (L.take (i + 1)) k = beginL (L.take i) k := by rw [HSN.out, if_neg (by rw [hbt]; simp)]
        have HS2 := Lib.hid hs2
        clear hbt hs2 hlen hsz
        go_wp2_with fail
        go_roundw
        case rel => exact ⟨i + 1, by omega, by go_num, by rw [HS2.out]; exact hrow.alloc _, belAlloc HBw.out _⟩
        case measure => simp [intOf]; omega
    · obtain rfl : i = L.length := by omega
      rw [List.take_length] at hrow
      have HR := Lib.hid hrow
      clear hrow
      go_wp2_with fail
      go_ret
      exact ⟨_, rfl, row_leE HR.out HB0.out.size, HB0.out.trans (hBw.mono HB0.out.size)⟩
theorem neItemB (p q : KEnt) (w : World) : (binOp .neq 86 (.agg #[.string ⟨p.1.toArray⟩, .string p.2.1, .int .i64 p.2.2]) (.agg #[.string ⟨q.1.toArray⟩, .string q.2.1, .int .i64 q.2.2])).run Tryz.prog w = .ok (.bool (!decide (p = q))) w := by
  rw [neItem, item_eq]
set_option maxRecDepth 100000 in
set_option maxHeartbeats 4000000 in
theorem sameItems_any (v v' : Value) (A L : List KEnt) (w : World) (hv : SeesI w v A) (hv' : SeesI w v' L) (hl : A.length ≤ maxLen) (hl' : L.length ≤ maxLen) :
    Calls Tryz.prog 22 #[v, v'] w fun e w' => e = .returned (.bool (decide (A = L))) ∧ Below w.heap.size w w' := by
  obtain ⟨ao, c, rfl, hlc, hnil, hc⟩ := hv
  obtain ⟨ao', c', rfl, hlc', hnil', hc'⟩ := hv'
  have HC := Lib.hid (And.intro hnil hc)
  have HC' := Lib.hid (And.intro hnil' hc')
  have hl2 : A.length ≤ 9223372036854775807 := by unfold maxLen at hl; omega
  have hl2' : L.length ≤ 9223372036854775807 := by unfold maxLen at hl'; omega
  have HNE := Lib.hid neItemB
  clear hnil hc hnil' hc' hl hl'
  by_cases hal : A.length = L.length
  · have d0 : ((A.length : Int) != (L.length : Int)) = false := by rw [hal]; simp
    have HAL := Lib.hid hal
    rw [hal] at hlc hl2 ⊢
    clear d0 hal
    generalize hB : decide (A = L) = B
    have HBB := Lib.hid hB
    clear hB
    go_enter Tryz.func22, Tryz.ntmps22
    go_wp2_with fail
    go_loopw [14] (fun j wr => ∃ i : Nat, i ≤ L.length ∧ j = .int .i64 i ∧ Aside (A.take i = L.take i) ∧ Below w.heap.size w wr) (fun j _ => L.length - (intOf j).toNat)
    case atStart => exact ⟨0, Nat.zero_le _, rfl, rfl, Below.refl _ _⟩
    case round =>
      obtain ⟨i, hi, rfl, hst, hBw⟩ := hrel
      by_cases hlt : i < L.length
      · have hltA : i < A.length := by rw [HAL.out]; exact hlt
        obtain ⟨a, rfl⟩ : ∃ a, ao = some a := by
          cases ao with
          | none => rw [HC.out.1 rfl] at hltA; simp at hltA
          | some a => exact ⟨a, rfl⟩
        obtain ⟨a', rfl⟩ : ∃ a, ao' = some a := by
          cases ao' with
          | none => rw [HC'.out.1 rfl] at hlt; simp at hlt
          | some a => exact ⟨a, rfl⟩
        obtain ⟨p, hp⟩ : ∃ p, A[i]? = some p := ⟨_, List.getElem?_eq_getElem hltA⟩
        obtain ⟨q, hq⟩ : ∃ q, L[i]? = some q := ⟨_, List.getElem?_eq_getElem hlt⟩
        obtain ⟨p0, p1, p2⟩ := HC.out.2 a rfl i p hp
        have p0 := bcell hBw p0
        have p1 := ofs1 (bcell hBw p1)
        have p2 := ofs2 (bcell hBw p2)
        obtain ⟨q0, q1, q2⟩ := HC'.out.2 a' rfl i q hq
        have q0 := bcell hBw q0
        have q1 := ofs1 (bcell hBw q1)
        have q2 := ofs2 (bcell hBw q2)
        have b0 : (0 : Int) ≤ (i : Int) := by omega
        have b1 : (i : Int) < (L.length : Int) := by omega
        have HEQ : Hid (p = q → A.take (i + 1) = L.take (i + 1)) := Lib.hid (fun e => by rw [List.take_add_one, List.take_add_one, hst.out, hp, hq, e])
        have HNO : Hid (p ≠ q → B = false) := Lib.hid (fun e => by
          rw [← HBB.out]
          refine decide_eq_false (fun h => e ?_)
          rw [h, hq] at hp
          exact (Option.some.inj hp).symm)
        have hne := HNE.out p q
        have HLT := Lib.hid hlt
        clear hp hq hst hltA
        go_upto_region 6 with fail
        obtain ⟨wx, hwx⟩ : ∃ wx, wx = wr.alloc (itRO ⟨q.1.toArray⟩ q.2.1 q.2.2) := ⟨_, rfl⟩
        have hx1 : wx.heap[wr.heap.size]? = some (itRO ⟨q.1.toArray⟩ q.2.1 q.2.2) := by rw [hwx]; exact heap_alloc_new wr _
        have hbx : Below wr.heap.size wr wx := by rw [hwx]; exact belNew _ _
        change Code.wp _ _ _ _ (wr.alloc (itRO ⟨q.1.toArray⟩ q.2.1 q.2.2))
        rw [← hwx]
        obtain ⟨x0, x1, x2⟩ := rcells hx1
        have p0 := bcell hbx p0
        have p1 := bcell hbx p1
        have p2 := bcell hbx p2
        have HBX := Lib.hid (bel hBw hbx)
        clear hwx hbx hx1 q0 q1 q2
        cases hpq : decide (p = q) with
        | true =>
          have HGD := Lib.hid (HEQ.out (of_decide_eq_true hpq))
          rw [hpq] at hne
          clear hpq
          refine wp_region_held_drew (S := (fun W => Below wx.heap.size wx W)) (by kernel_rfl) ?_ (fun r0 => ?_)
          · exact ⟨rfl, rfl, rfl, Nat.le_refl _, fun _ _ => rfl⟩
          refine wpAnyH_take (i := 0) (v := ?_) rfl (by kernel_rfl) (by kernel_rfl) (by kernel_rfl) (fun _ _ _ h => h) (Or.inl ⟨by rfl, ?_⟩) (by assumption) ?_
          rotate_left
          · intro wS hSw
            (try dsimp only at hSw)
            go_simp
            first | done | with_reducible rfl
          try simp only [Act.put, List.getElem_toArray, List.getElem_cons_zero, List.setIfInBounds_toArray, List.set_cons_zero, List.set_cons_succ]
          refine wpAnyH_take (i := 1) (v := ?_) rfl (by kernel_rfl) (by kernel_rfl) (by kernel_rfl) (fun _ _ _ h => h) (Or.inl ⟨by rfl, ?_⟩) (by assumption) ?_
          rotate_left
          · intro wS hSw
            (try dsimp only at hSw)
            go_simp
            first | done | with_reducible rfl
          try simp only [Act.put, List.getElem_toArray, List.getElem_cons_succ, List.getElem_cons_zero, List.setIfInBounds_toArray, List.set_cons_zero, List.set_cons_succ]
          refine wpAnyH_take (i := 2) (v := ?_) rfl (by kernel_rfl) (by kernel_rfl) (by kernel_rfl) (fun _ _ _ h => h) (Or.inl ⟨by rfl, ?_⟩) (by assumption) ?_
          rotate_left
          · intro wS hSw
            (try dsimp only at hSw)
            go_simp
            first | done | with_reducible rfl
          try simp only [Act.put, List.getElem_toArray, List.getElem_cons_succ, List.getElem_cons_zero, List.setIfInBounds_toArray, List.set_cons_zero, List.set_cons_succ]
          refine wpAnyH_take (i := 3) (v := ?_) rfl (by kernel_rfl) (by kernel_rfl) (by kernel_rfl) (fun _ _ _ h => h) (Or.inl ⟨by rfl, ?_⟩) (by assumption) ?_
          rotate_left
          · intro wS hSw
            (try dsimp only at hSw)
            have p0 := bcell hSw p0
            have p1 := bcell hSw p1
            have p2 := bcell hSw p2
            have x0 := bcell hSw x0
            have x1 := bcell hSw x1
            have x2 := bcell hSw x2
            go_simp
            first | done | with_reducible rfl
          try simp only [Act.put, List.getElem_toArray, List.getElem_cons_succ, List.getElem_cons_zero, List.setIfInBounds_toArray, List.set_cons_zero, List.set_cons_succ]
          refine wpAnyH_take (i := 4) (v := ?_) rfl (by kernel_rfl) (by kernel_rfl) (by kernel_rfl) (fun _ _ _ h => h) (Or.inl ⟨by rfl, ?_⟩) (by assumption) ?_
          rotate_left
          · intro wS hSw
            (try dsimp only at hSw)
            go_simp
            first | done | with_reducible rfl
          try simp only [Act.put, List.getElem_toArray, List.getElem_cons_succ, List.getElem_cons_zero, List.setIfInBounds_toArray, List.set_cons_zero, List.set_cons_succ]
          refine wpAnyH_take (i := 5) (v := ?_) rfl (by kernel_rfl) (by kernel_rfl) (by kernel_rfl) (fun _ _ _ h => h) (Or.inl ⟨by rfl, ?_⟩) (by assumption) ?_
          rotate_left
          · intro wS hSw
            (try dsimp only at hSw)
            have p0 := bcell hSw p0
            have p1 := bcell hSw p1
            have p2 := bcell hSw p2
            have x0 := bcell hSw x0
            have x1 := bcell hSw x1
            have x2 := bcell hSw x2
            go_simp
            first | done | with_reducible rfl
          try simp only [Act.put, List.getElem_toArray, List.getElem_cons_succ, List.getElem_cons_zero, List.setIfInBounds_toArray, List.set_cons_zero, List.set_cons_succ]
          refine wpAnyH_take (i := 6) (v := ?_) rfl (by kernel_rfl) (by kernel_rfl) (by kernel_rfl) (fun _ _ _ h => h) (Or.inl ⟨by rfl, ?_⟩) (by assumption) ?_
          rotate_left
          · intro wS hSw
            (try dsimp only at hSw)
            go_simp
            first | done | with_reducible rfl
          try simp only [Act.put, List.getElem_toArray, List.getElem_cons_succ, List.getElem_cons_zero, List.setIfInBounds_toArray, List.set_cons_zero, List.set_cons_succ]
          refine wpAnyH_take (i := 7) (v := ?_) rfl (by kernel_rfl) (by kernel_rfl) (by kernel_rfl) (fun _ _ _ h => h) (Or.inl ⟨by rfl, ?_⟩) (by assumption) ?_
          rotate_left
          · intro wS hSw
            (try dsimp only at hSw)
            have p0 := bcell hSw p0
            have p1 := bcell hSw p1
            have p2 := bcell hSw p2
            have x0 := bcell hSw x0
            have x1 := bcell hSw x1
            have x2 := bcell hSw x2
            go_simp
            first | done | with_reducible rfl
          try simp only [Act.put, List.getElem_toArray, List.getElem_cons_succ, List.getElem_cons_zero, List.setIfInBounds_toArray, List.set_cons_zero, List.set_cons_succ]
          refine wpAnyH_take (i := 8) (v := ?_) rfl (by kernel_rfl) (by kernel_rfl) (by kernel_rfl) (fun _ _ _ h => h) (Or.inl ⟨by rfl, ?_⟩) (by assumption) ?_
          rotate_left
          · intro wS hSw
            (try dsimp only at hSw)
            go_simp
            first | done | with_reducible rfl
          try simp only [Act.put, List.getElem_toArray, List.getElem_cons_succ, List.getElem_cons_zero, List.setIfInBounds_toArray, List.set_cons_zero, List.set_cons_succ]
          refine wpAnyH_take (i := 9) (v := ?_) rfl (by kernel_rfl) (by kernel_rfl) (by kernel_rfl) (fun _ _ _ h => h) (Or.inl ⟨by rfl, ?_⟩) (by assumption) ?_
          rotate_left
          · intro wS hSw
            (try dsimp only at hSw)
            have p0 := bcell hSw p0
            have p1 := bcell hSw p1
            have p2 := bcell hSw p2
            have x0 := bcell hSw x0
            have x1 := bcell hSw x1
            have x2 := bcell hSw x2
            go_simp
            first | done | with_reducible rfl
          try simp only [Act.put, List.getElem_toArray, List.getElem_cons_succ, List.getElem_cons_zero, List.setIfInBounds_toArray, List.set_cons_zero, List.set_cons_succ]
          refine wpAnyH_take (i := 10) (v := ?_) rfl (by kernel_rfl) (by kernel_rfl) (by kernel_rfl) (fun _ _ _ h => h) (Or.inl ⟨by rfl, ?_⟩) (by assumption) ?_
          rotate_left
          · intro wS hSw
            (try dsimp only at hSw)
            go_simp
            first | done | with_reducible rfl
          try simp only [Act.put, List.getElem_toArray, List.getElem_cons_succ, List.getElem_cons_zero, List.setIfInBounds_toArray, List.set_cons_zero, List.set_cons_succ]
          refine wpAnyH_take (i := 11) (v := ?_) rfl (by kernel_rfl) (by kernel_rfl) (by kernel_rfl) (fun _ _ _ h => h) (Or.inl ⟨by rfl, ?_⟩) (by assumption) ?_
          rotate_left
          · intro wS hSw
            (try dsimp only at hSw)
            have hne := hne wS
            go_simp
            first | done | with_reducible rfl
          try simp only [Act.put, List.getElem_toArray, List.getElem_cons_succ, List.getElem_cons_zero, List.setIfInBounds_toArray, List.set_cons_zero, List.set_cons_succ]
          refine wpAnyH_done (by kernel_rfl) ?_ _
          go_wp2_with fail
          go_roundw
          case rel => exact ⟨i + 1, by have := HLT.out; omega, by go_num, HGD.out, bel HBX.out r0⟩
          case measure => have := HLT.out; simp [intOf]; omega
        | false =>
          have HGD := Lib.hid (HNO.out (of_decide_eq_false hpq))
          rw [hpq] at hne
          clear hpq
          refine wp_region_held_drew (S := (fun W => Below wx.heap.size wx W)) (by kernel_rfl) ?_ (fun r0 => ?_)
          · exact ⟨rfl, rfl, rfl, Nat.le_refl _, fun _ _ => rfl⟩
          refine wpAnyH_take (i := 0) (v := ?_) rfl (by kernel_rfl) (by kernel_rfl) (by kernel_rfl) (fun _ _ _ h => h) (Or.inl ⟨by rfl, ?_⟩) (by assumption) ?_
          rotate_left
          · intro wS hSw
            (try dsimp only at hSw)
            go_simp
            first | done | with_reducible rfl
          try simp only [Act.put, List.getElem_toArray, List.getElem_cons_zero, List.setIfInBounds_toArray, List.set_cons_zero, List.set_cons_succ]
          refine wpAnyH_take (i := 1) (v := ?_) rfl (by kernel_rfl) (by kernel_rfl) (by kernel_rfl) (fun _ _ _ h => h) (Or.inl ⟨by rfl, ?_⟩) (by assumption) ?_
          rotate_left
          · intro wS hSw
            (try dsimp only at hSw)
            go_simp
            first | done | with_reducible rfl
          try simp only [Act.put, List.getElem_toArray, List.getElem_cons_succ, List.getElem_cons_zero, List.setIfInBounds_toArray, List.set_cons_zero, List.set_cons_succ]
          refine wpAnyH_take (i := 2) (v := ?_) rfl (by kernel_rfl) (by kernel_rfl) (by kernel_rfl) (fun _ _ _ h => h) (Or.inl ⟨by rfl, ?_⟩) (by assumption) ?_
          rotate_left
          · intro wS hSw
            (try dsimp only at hSw)
            go_simp
            first | done | with_reducible rfl
          try simp only [Act.put, List.getElem_toArray, List.getElem_cons_succ, List.getElem_cons_zero, List.setIfInBounds_toArray, List.set_cons_zero, List.set_cons_succ]
          refine wpAnyH_take (i := 3) (v := ?_) rfl (by kernel_rfl) (by kernel_rfl) (by kernel_rfl) (fun _ _ _ h => h) (Or.inl ⟨by rfl, ?_⟩) (by assumption) ?_
          rotate_left
          · intro wS hSw
            (try dsimp only at hSw)
            have p0 := bcell hSw p0
            have p1 := bcell hSw p1
            have p2 := bcell hSw p2
            have x0 := bcell hSw x0
            have x1 := bcell hSw x1
            have x2 := bcell hSw x2
            go_simp
            first | done | with_reducible rfl
          try simp only [Act.put, List.getElem_toArray, List.getElem_cons_succ, List.getElem_cons_zero, List.setIfInBounds_toArray, List.set_cons_zero, List.set_cons_succ]
          refine wpAnyH_take (i := 4) (v := ?_) rfl (by kernel_rfl) (by kernel_rfl) (by kernel_rfl) (fun _ _ _ h => h) (Or.inl ⟨by rfl, ?_⟩) (by assumption) ?_
          rotate_left
          · intro wS hSw
            (try dsimp only at hSw)
            go_simp
            first | done | with_reducible rfl
          try simp only [Act.put, List.getElem_toArray, List.getElem_cons_succ, List.getElem_cons_zero, List.setIfInBounds_toArray, List.set_cons_zero, List.set_cons_succ]
          refine wpAnyH_take (i := 5) (v := ?_) rfl (by kernel_rfl) (by kernel_rfl) (by kernel_rfl) (fun _ _ _ h => h) (Or.inl ⟨by rfl, ?_⟩) (by assumption) ?_
          rotate_left
          · intro wS hSw
            (try dsimp only at hSw)
            have p0 := bcell hSw p0
            have p1 := bcell hSw p1
            have p2 := bcell hSw p2
            have x0 := bcell hSw x0
            have x1 := bcell hSw x1
            have x2 := bcell hSw x2
            go_simp
            first | done | with_reducible rfl
          try simp only [Act.put, List.getElem_toArray, List.getElem_cons_succ, List.getElem_cons_zero, List.setIfInBounds_toArray, List.set_cons_zero, List.set_cons_succ]
          refine wpAnyH_take (i := 6) (v := ?_) rfl (by kernel_rfl) (by kernel_rfl) (by kernel_rfl) (fun _ _ _ h => h) (Or.inl ⟨by rfl, ?_⟩) (by assumption) ?_
          rotate_left
          · intro wS hSw
            (try dsimp only at hSw)
            go_simp
            first | done | with_reducible rfl
          try simp only [Act.put, List.getElem_toArray, List.getElem_cons_succ, List.getElem_cons_zero, List.setIfInBounds_toArray, List.set_cons_zero, List.set_cons_succ]
          refine wpAnyH_take (i := 7) (v := ?_) rfl (by kernel_rfl) (by kernel_rfl) (by kernel_rfl) (fun _ _ _ h => h) (Or.inl ⟨by rfl, ?_⟩) (by assumption) ?_
          rotate_left
          · intro wS hSw
            (try dsimp only at hSw)
            have p0 := bcell hSw p0
            have p1 := bcell hSw p1
            have p2 := bcell hSw p2
            have x0 := bcell hSw x0
            have x1 := bcell hSw x1
            have x2 := bcell hSw x2
            go_simp
            first | done | with_reducible rfl
          try simp only [Act.put, List.getElem_toArray, List.getElem_cons_succ, List.getElem_cons_zero, List.setIfInBounds_toArray, List.set_cons_zero, List.set_cons_succ]
          refine wpAnyH_take (i := 8) (v := ?_) rfl (by kernel_rfl) (by kernel_rfl) (by kernel_rfl) (fun _ _ _ h => h) (Or.inl ⟨by rfl, ?_⟩) (by assumption) ?_
          rotate_left
          · intro wS hSw
            (try dsimp only at hSw)
            go_simp
            first | done | with_reducible rfl
          try simp only [Act.put, List.getElem_toArray, List.getElem_cons_succ, List.getElem_cons_zero, List.setIfInBounds_toArray, List.set_cons_zero, List.set_cons_succ]
          refine wpAnyH_take (i := 9) (v := ?_) rfl (by kernel_rfl) (by kernel_rfl) (by kernel_rfl) (fun _ _ _ h => h) (Or.inl ⟨by rfl, ?_⟩) (by assumption) ?_
          rotate_left
          · intro wS hSw
            (try dsimp only at hSw)
            have p0 := bcell hSw p0
            have p1 := bcell hSw p1
            have p2 := bcell hSw p2
            have x0 := bcell hSw x0
            have x1 := bcell hSw x1
            have x2 := bcell hSw x2
            go_simp
            first | done | with_reducible rfl
          try simp only [Act.put, List.getElem_toArray, List.getElem_cons_succ, List.getElem_cons_zero, List.setIfInBounds_toArray, List.set_cons_zero, List.set_cons_succ]
          refine wpAnyH_take (i := 10) (v := ?_) rfl (by kernel_rfl) (by kernel_rfl) (by kernel_rfl) (fun _ _ _ h => h) (Or.inl ⟨by rfl, ?_⟩) (by assumption) ?_
          rotate_left
          · intro wS hSw
            (try dsimp only at hSw)
            go_simp
            first | done | with_reducible rfl
          try simp only [Act.put, List.getElem_toArray, List.getElem_cons_succ, List.getElem_cons_zero, List.setIfInBounds_toArray, List.set_cons_zero, List.set_cons_succ]
          refine wpAnyH_take (i := 11) (v := ?_) rfl (by kernel_rfl) (by kernel_rfl) (by kernel_rfl) (fun _ _ _ h => h) (Or.inl ⟨by rfl, ?_⟩) (by assumption) ?_
          rotate_left
          · intro wS hSw
            (try dsimp only at hSw)
            have hne := hne wS
            go_simp
            first | done | with_reducible rfl
          try simp only [Act.put, List.getElem_toArray, List.getElem_cons_succ, List.getElem_cons_zero, List.setIfInBounds_toArray, List.set_cons_zero, List.set_cons_succ]
          refine wpAnyH_done (by kernel_rfl) ?_ _
          go_wp2_with fail
          go_ret
          exact ⟨congrArg (fun b : Bool => Ending.returned (.bool b)) HGD.out.symm, bel HBX.out r0⟩
      · obtain rfl : i = L.length := by omega
        have hst := hst.out
        rw [List.take_length, ← HAL.out, List.take_length] at hst
        have HGD : Hid (B = true) := Lib.hid (by rw [← HBB.out]; exact decide_eq_true hst)
        go_wp2_with fail
        go_ret
        exact ⟨congrArg (fun b : Bool => Ending.returned (.bool b)) HGD.out.symm, hBw⟩
  · have d0 : ((A.length : Int) != (L.length : Int)) = true := by simp; omega
    have HB : Hid (false = decide (A = L)) := Lib.hid (decide_eq_false (fun e => hal (by rw [e]))).symm
    go_enter Tryz.func22, Tryz.ntmps22
    go_wp2_with fail
    go_ret
    exact ⟨congrArg (fun b : Bool => Ending.returned (.bool b)) HB.out, Below.refl _ _⟩
end
section
open Go.RowKit Go.Maps
theorem gtrS (a b : ByteArray) (w : World) : (binOp .gtr 9 (.string a) (.string b)).run Tryz.prog w = .ok (.bool (bytesBefore (kl b) (kl a))) w := by
  have e1 : a.toList = kl a := by rw [ByteArray.toList_eq]
  have e2 : b.toList = kl b := by rw [ByteArray.toList_eq]
  have h' : (!Op.bytesLess a.toList b.toList && !(a.toList == b.toList)) = bytesBefore (kl b) (kl a) := by rw [← Bool.not_or, leq_not, Bool.not_not, e1, e2]
  rw [← h']
  simp [binOp, Op.stringOp]
/-- Is the effect's item put ahead of one of these? -/
def aheadB (k : List UInt8) (T : List KEnt) : Bool := T.any (fun q => bytesBefore k q.1)
/-- What is there behind these. -/
def appS (k : List UInt8) (u : ByteArray × Int) (gone : Bool) (T : List KEnt) : List KEnt := if (!gone && aheadB k T) = true then insE (k, u) (delE k T) else delE k T
theorem delE_snoc (k : List UInt8) (T : List KEnt) (p : KEnt) : delE k (T ++ [p]) = if p.1 = k then delE k T else delE k T ++ [p] := by
  unfold delE
  rw [List.filter_append]
  by_cases h : p.1 = k
  · rw [if_pos h]; simp [h]
  · rw [if_neg h]; simp [h]
theorem insE_snoc {k : List UInt8} {u : ByteArray × Int} : ∀ {T : List KEnt} {p : KEnt}, (T.any (fun q => bytesBefore k q.1)) = true → insE (k, u) (T ++ [p]) = insE (k, u) T ++ [p]
  | [], p, h => by simp at h
  | a :: T, p, h => by
    rw [List.cons_append, insE, insE]
    by_cases h1 : bytesBefore (k, u).1 a.1 = true
    · rw [if_pos h1, if_pos h1]; rfl
    · rw [if_neg h1, if_neg h1, insE_snoc (by
        rw [List.any_cons] at h
        cases hb : bytesBefore k a.1 with
        | true => exact absurd hb h1
        | false => rw [hb] at h; simpa using h)]
      rfl
theorem aheadB_snoc (k : List UInt8) (T : List KEnt) (p : KEnt) : aheadB k (T ++ [p]) = (aheadB k T || bytesBefore k p.1) := by
  unfold aheadB; rw [List.any_append]; simp
theorem aheadB_del (k : List UInt8) (T : List KEnt) (h : aheadB k T = true) : ((delE k T).any (fun q => bytesBefore k q.1)) = true := by
  unfold aheadB at h
  rw [List.any_eq_true] at h ⊢
  obtain ⟨q, hq, hb⟩ := h
  refine ⟨q, ?_, hb⟩
  unfold delE
  rw [List.mem_filter]
  refine ⟨hq, ?_⟩
  simp
  intro e
  rw [e, WideAt.bytes_irrefl] at hb
  cases hb
theorem before_of {k : List UInt8} {T : List KEnt} (h : aheadB k T = false) : ∀ q ∈ delE k T, bytesBefore q.1 k = true := fun q hq => by
  unfold delE at hq
  rw [List.mem_filter] at hq
  unfold aheadB at h
  rw [List.any_eq_false] at h
  have h1 := h q hq.1
  have h2 : ¬ q.1 = k := by simpa using hq.2
  rcases WideAt.bytes_total q.1 k h2 with h3 | h3
  · exact h3
  · exact absurd h3 h1
/-- A round that puts the effect's item ahead, and the item. -/
theorem app_put {k : List UInt8} {u : ByteArray × Int} {T : List KEnt} {p : KEnt} (hd : aheadB k T = false) (hp : bytesBefore k p.1 = true) : appS k u false (T ++ [p]) = (appS k u false T ++ [(k, u)]) ++ [p] := by
  have hne : ¬ p.1 = k := fun e => by rw [e, WideAt.bytes_irrefl] at hp; cases hp
  unfold appS
  rw [aheadB_snoc, hd, hp, if_pos (by simp), if_neg (by simp), delE_snoc, if_neg hne]
  have h := before_of hd
  generalize delE k T = D at h
  induction D with
  | nil => simp [insE, hp]
  | cons a D ih =>
    have ha := h a List.mem_cons_self
    have hn : ¬ bytesBefore k a.1 = true := fun e => by
      have := WideShapes.bytes_trans _ _ _ ha e
      rw [WideAt.bytes_irrefl] at this
      cases this
    rw [List.cons_append, insE, if_neg hn, ih (fun q hq => h q (List.mem_cons_of_mem _ hq))]
    rfl
/-- A round that leaves it as it is, or lets it be the next one. -/
theorem app_same {k : List UInt8} {u : ByteArray × Int} {gone : Bool} {T : List KEnt} {p : KEnt} (hr : Rising (T ++ [p])) (hc : (!(gone || aheadB k T) && bytesBefore k p.1) = false) :
    appS k u gone (T ++ [p]) = if p.1 = k then appS k u gone T else appS k u gone T ++ [p] := by
  unfold appS
  rw [delE_snoc, aheadB_snoc]
  cases gone with
  | true => simp
  | false =>
    cases ha : aheadB k T with
    | true =>
      have hne : ¬ p.1 = k := fun e => by
        unfold aheadB at ha
        rw [List.any_eq_true] at ha
        obtain ⟨q, hq, hb⟩ := ha
        have h1 := (List.pairwise_append.1 hr).2.2 q hq p (by simp)
        rw [e] at h1
        have h2 := WideShapes.bytes_trans _ _ _ hb h1
        rw [WideAt.bytes_irrefl] at h2
        cases h2
      rw [if_neg hne, if_neg hne, if_pos (by simp), if_pos (by simp)]
      exact insE_snoc (aheadB_del k T ha)
    | false =>
      rw [ha] at hc
      have hb : bytesBefore k p.1 = false := by simpa using hc
      rw [hb]
      simp
theorem app_end {L : List KEnt} {R : Int} {e : KEff} : (applyK ⟨R, L⟩ e).L = if (!(e.gone || aheadB (kl e.key) L)) = true then appS (kl e.key) (e.val, e.rev) e.gone L ++ [(kl e.key, (e.val, e.rev))] else appS (kl e.key) (e.val, e.rev) e.gone L := by
  unfold applyK appS
  cases hg : e.gone with
  | true => simp
  | false =>
    cases ha : aheadB (kl e.key) L with
    | true => simp [putE]
    | false =>
      simp only [Bool.or_false, Bool.not_false, if_true]
      rw [if_neg (by simp), if_neg (by simp)]
      unfold putE
      exact insE_last _ _ (before_of ha)
theorem appS_len (k : List UInt8) (u : ByteArray × Int) (g : Bool) (T : List KEnt) : (appS k u g T).length ≤ T.length + 1 := by
  unfold appS
  split
  · rw [insE_length]; have := delE_le k T; omega
  · have := delE_le k T; omega
theorem row_set {E : TypeId} {w : World} {B r i : Nat} {v x : Value} {L : List KEnt} (h : RowE E w B v L) (hr : r < B) : RowE E (w.setCell ⟨r, i, none⟩ x) B v L := World.ownsRow.kept h (grown_set w r i x) (row_neE h hr)
theorem eff_cells {w : World} {g : Nat} {e : KEff} {t : TypeId} (h : w.heap[g]? = some (.cells #[.string e.key, .string e.val, .int .i64 e.rev, .bool e.gone] t (0, 0))) : w.cell? ⟨g, 0, none⟩ = some (.string e.key) ∧ w.cell? ⟨g, 1, none⟩ = some (.string e.val) ∧ w.cell? ⟨g, 2, none⟩ = some (.int .i64 e.rev) ∧ w.cell? ⟨g, 3, none⟩ = some (.bool e.gone) := by simp [World.cell?, h]
end
section
open Go.RowKit Go.Maps
theorem set1_two {w : World} {g : Nat} {x y : Value} {t : TypeId} (h : w.heap[g]? = some (.cells #[x, y] t (0, 0))) (a : Value) : (w.setCell ⟨g, 1, none⟩ a).heap[g]? = some (.cells #[x, a] t (0, 0)) := by
  have := dset h 1 a
  simpa using this
theorem fill2 {w : World} {g : Nat} {x y : Value} {t : TypeId} (h : w.heap[g]? = some (.cells #[x, y] t (0, 0))) (a b : Value) : ((w.setCell ⟨g, 0, none⟩ a).setCell ⟨g, 1, none⟩ b).heap[g]? = some (.cells #[a, b] t (0, 0)) := by
  have := dset (dset h 0 a) 1 b
  simpa using this
theorem rise_take {L : List KEnt} (hr : Rising L) {i : Nat} {p : KEnt} (hp : L[i]? = some p) : Rising (L.take i ++ [p]) := by
  have h : L.take (i + 1) = L.take i ++ [p] := by rw [List.take_add_one, hp]; rfl
  rw [← h]
  exact List.Pairwise.sublist (List.take_sublist _ _) hr
theorem row_slice {E : TypeId} {w : World} {B : Nat} {v : Value} {L : List KEnt} (h : RowE E w B v L) : ∃ ao n c, v = .slice ao n c := by
  obtain ⟨ao, c, e, _⟩ := RowE.sees h
  exact ⟨ao, _, c, e⟩
abbrev effR9 (e : KEff) : Obj := .cells #[.string e.key, .string e.val, .int .i64 e.rev, .bool e.gone] 106
set_option maxRecDepth 100000 in
set_option maxHeartbeats 8000000 in
theorem refApply_any (v : Value) (L : List KEnt) (R : Int) (e : KEff) (w : World) (h : SeesI w v L) (hr : Rising L) (hl : L.length ≤ 100000) :
    Calls Tryz.prog 41 #[stV R v, effV e] w fun x w' => ∃ v', x = .returned (stV e.rev v') ∧ RowR w' w.heap.size v' (applyK ⟨R, L⟩ e).L ∧ Below w.heap.size w w' := by
  obtain ⟨W, hW, hb, hz, hA, hB, hC⟩ := alloc3 w (stO R v) (effR9 e) (stO 0 (.slice none 0 0))
  obtain ⟨ao, c, rfl, hlc, hnil, hc⟩ := h.below hb
  have HW := Lib.hid hW
  have HC := Lib.hid (And.intro hnil hc)
  have HR := Lib.hid hr
  have H0 := Lib.hid (And.intro hb (And.intro hz hC))
  have s0 := cell0 hA
  have s1 := cell1 hA
  obtain ⟨e0, e1, e2, e3⟩ := eff_cells hB
  have HZ : Hid (W.heap.size = w.heap.size + 3) := Lib.hid hz
  clear hW hnil hc hb hz hA hB hC h hr
  generalize hF : (applyK ⟨R, L⟩ e).L = F
  have HF := Lib.hid hF
  clear hF
  go_enter Tryz.func41, Tryz.ntmps41
  go_upto_region 1 with fail
  change Code.wp _ _ _ _ (((w.alloc (stO R (.slice ao L.length c))).alloc (effR9 e)).alloc (stO 0 (.slice none 0 0)))
  rw [← HW.out]
  go_upto_region 2 with fail
  obtain ⟨W1, hW1⟩ : ∃ W1, W1 = W.alloc (stO e.rev (.slice none 0 0)) := ⟨_, rfl⟩
  have hb1 : Below W.heap.size W W1 := by rw [hW1]; exact belNew _ _
  have ho1 : W1.heap[W.heap.size]? = some (stO e.rev (.slice none 0 0)) := by rw [hW1]; exact heap_alloc_new W _
  change Code.wp _ _ _ _ (W.alloc (stO e.rev (.slice none 0 0)))
  rw [← hW1]
  have S0 := Lib.hid s0
  have S1 := Lib.hid s1
  have E0 := Lib.hid e0
  have E1 := Lib.hid e1
  have E2 := Lib.hid e2
  have HB1 := Lib.hid (And.intro hb1 ho1)
  have s1 := bcell hb1 s1
  have e3 := bcell hb1 e3
  clear hW1 s0 e0 e1 e2 hb1 ho1
  go_wp2_with fail
  clear s1 e3
  go_loopw [6, 17] (fun d j wr => ∃ (i : Nat) (lv : Value), i ≤ L.length ∧ j = .int .i64 i ∧ d = .bool (e.gone || aheadB (kl e.key) (L.take i)) ∧ wr.heap[W.heap.size]? = some (stO e.rev lv) ∧ RowR wr (W.heap.size + 1) lv (appS (kl e.key) (e.val, e.rev) e.gone (L.take i)) ∧ Below W.heap.size W wr ∧ W.heap.size < wr.heap.size) (fun _ j _ => L.length - (intOf j).toNat)
  case atStart =>
    refine ⟨0, .slice none 0 0, Nat.zero_le _, rfl, ?_, HB1.out.2, ?_, HB1.out.1, heap_lt HB1.out.2⟩
    · simp [aheadB]
    · have : appS (kl e.key) (e.val, e.rev) e.gone (L.take 0) = [] := by simp [appS, aheadB, delE]
      rw [this]
      exact World.ownsRow_nil _ _ _ _
  case round =>
    obtain ⟨i, lv, hi, rfl, rfl, ho, hrow, hBw, hlw⟩ := hrel
    by_cases hlt : i < L.length
    · obtain ⟨a, rfl⟩ : ∃ a, ao = some a := by
        cases ao with
        | none => rw [HC.out.1 rfl] at hlt; simp at hlt
        | some a => exact ⟨a, rfl⟩
      obtain ⟨p, hgi⟩ : ∃ p, L[i]? = some p := ⟨_, List.getElem?_eq_getElem hlt⟩
      obtain ⟨q0, q1, q2⟩ := HC.out.2 a rfl i p hgi
      have q0 := bcell hBw q0
      have q1 := off1 (bcell hBw q1)
      have q2 := off2 (bcell hBw q2)
      have b0 : (0 : Int) ≤ (i : Int) := by omega
      have b1 : (i : Int) < (L.length : Int) := by omega
      have hris := rise_take HR.out hgi
      have htk : L.take (i + 1) = L.take i ++ [p] := by rw [List.take_add_one, hgi]; rfl
      have hln := appS_len (kl e.key) (e.val, e.rev) e.gone (L.take i)
      rw [List.length_take] at hln
      have HPUT : Hid (e.gone = false → aheadB (kl e.key) (L.take i) = false → bytesBefore (kl e.key) p.1 = true → appS (kl e.key) (e.val, e.rev) e.gone (L.take (i + 1)) = (appS (kl e.key) (e.val, e.rev) e.gone (L.take i) ++ [(kl e.key, (e.val, e.rev))]) ++ [p]) := Lib.hid (fun hg h1 h2 => by rw [htk, hg]; exact app_put h1 h2)
      have HSAME : Hid ((!(e.gone || aheadB (kl e.key) (L.take i)) && bytesBefore (kl e.key) p.1) = false → appS (kl e.key) (e.val, e.rev) e.gone (L.take (i + 1)) = if p.1 = kl e.key then appS (kl e.key) (e.val, e.rev) e.gone (L.take i) else appS (kl e.key) (e.val, e.rev) e.gone (L.take i) ++ [p]) := Lib.hid (fun h => by rw [htk]; exact app_same hris h)
      have HD2 : Hid ((e.gone || aheadB (kl e.key) (L.take (i + 1))) = ((e.gone || aheadB (kl e.key) (L.take i)) || bytesBefore (kl e.key) p.1)) := Lib.hid (by rw [htk, aheadB_snoc, Bool.or_assoc])
      have hgt : ∀ w, (binOp .gtr 9 (.string ⟨p.1.toArray⟩) (.string e.key)).run Tryz.prog w = .ok (.bool (bytesBefore (kl e.key) p.1)) w := fun w => gtrS ⟨p.1.toArray⟩ e.key w
      have hke := keyEq p.1 e.key
      have HNE : Hid (bytesBefore (kl e.key) p.1 = true → ¬ p.1 = kl e.key) := Lib.hid (fun h1 h2 => by rw [h2, WideAt.bytes_irrefl] at h1; cases h1)
      have HDG : Hid ((e.gone || aheadB (kl e.key) (L.take i)) = false → e.gone = false ∧ aheadB (kl e.key) (L.take i) = false) := Lib.hid (fun h => by simpa using h)
      have hTl : (appS (kl e.key) (e.val, e.rev) e.gone (L.take i)).length ≤ 1000000 := by omega
      generalize appS (kl e.key) (e.val, e.rev) e.gone (L.take i) = T at HPUT HSAME hrow hTl
      generalize (e.gone || aheadB (kl e.key) (L.take i)) = D at HSAME HD2 HDG ⊢
      generalize bytesBefore (kl e.key) p.1 = bb at HPUT HSAME HD2 hgt HNE
      have HG := Lib.hid (And.intro hrow (And.intro ho hlw))
      have HBw := Lib.hid hBw
      have t0 := bcell hBw S0.out
      have hB2 := Lib.hid (belAlloc hBw (itRO ⟨p.1.toArray⟩ p.2.1 p.2.2))
      have e0 := bcell hB2 E0.out
      have e1 := bcell hB2 E1.out
      have e2 := bcell hB2 E2.out
      clear hris htk hln hgi hrow ho hlw t0 hBw
      cases D with
      | false =>
        obtain ⟨hg, ha⟩ := HDG.out rfl
        have HGA := Lib.hid (And.intro hg ha)
        clear hg ha
        cases bb with
        | true =>
          have hk := HNE.out rfl
          have k1 : (p.1 == e.key.toList) = false := by rw [hke]; simpa using hk
          have k2 := bne_of k1
          have HT2 := Lib.hid (HPUT.out HGA.out.1 HGA.out.2 rfl)
          have HD3 := Lib.hid HD2.out
          have hrow2 := HG.out.1.alloc (itRO ⟨p.1.toArray⟩ p.2.1 p.2.2)
          have ho2 := ((belNew wr (itRO ⟨p.1.toArray⟩ p.2.1 p.2.2)).block _ (heap_lt HG.out.2.1)).trans HG.out.2.1
          have l1 := cell1 ho2
          have hx2 := heap_alloc_new wr (itRO ⟨p.1.toArray⟩ p.2.1 p.2.2)
          clear hke hk
          go_upto_region 8 with (first
            | (at_builtin; refine wpList_push Tryz.underlying41 infoR rfl (.tmp 31) (.tmp 39) rfl (W.heap.size + 1) lv T e.key (e.val, e.rev) (wr.heap.size + 1) (by simp) rfl rfl hrow2 (by omega) (by simp; have := HG.out.2.2; omega) ?_; intro v2 w2 hrow3 hb2 hg2; obtain ⟨ao2, n2, c2, rfl⟩ := row_slice hrow3; have ho3 := (hb2.block _ (Nat.lt_succ_self _)).trans ho2; have f1 := froz ho3 1; have l3 := cell1 ho3)
            | go_in)
          obtain ⟨w3, hw3⟩ : ∃ w3, w3 = w2.setCell ⟨W.heap.size, 1, none⟩ (.slice ao2 n2 c2) := ⟨_, rfl⟩
          rw [← hw3]
          have ho4 : w3.heap[W.heap.size]? = some (stO e.rev (.slice ao2 n2 c2)) := by rw [hw3]; exact set1_two ho3 _
          have hrow4 : RowR w3 (W.heap.size + 1) (.slice ao2 n2 c2) (T ++ [(kl e.key, (e.val, e.rev))]) := by rw [hw3]; exact row_set hrow3 (Nat.lt_succ_self _)
          have hB3 : Below W.heap.size W w3 := by rw [hw3]; exact ((hB2.trans (hb2.mono (Nat.le_succ _)))).setCell (Nat.le_refl _) _
          have hl3 : W.heap.size < w3.heap.size := heap_lt ho4
          have hnx : lv.ownBlock ≠ some wr.heap.size := fun h => by have := (World.ownsRow.lt HG.out.1 _ h).2; omega
          have hx3 : w3.heap[wr.heap.size]? = some (itRO ⟨p.1.toArray⟩ p.2.1 p.2.2) := by
            rw [hw3, Below.heap_setCell _ _ _ _ (by show wr.heap.size ≠ W.heap.size; have := HG.out.2.2; omega)]
            exact (hg2.block wr.heap.size (by simp) (fun h => hnx h.symm)).trans hx2
          obtain ⟨x0, x1, x2⟩ := rcells hx3
          have l4 := cell1 ho4
          have e0 := bcell hB3 E0.out
          have HX := Lib.hid (And.intro ho4 (And.intro hrow4 (And.intro hB3 hl3)))
          clear hw3 ho4 hrow4 hB3 hl3 hrow3 hb2 hg2 ho3 f1 l3 hx3 hx2 ho2 l1 hrow2 e1 e2
          have hTl3 : (T ++ [(kl e.key, (e.val, e.rev))]).length ≤ 1000001 := by simp; omega
          go_upto_region 11 with (first
            | (at_builtin; refine wpList_push Tryz.underlying41 infoR rfl (.tmp 48) (.tmp 50) rfl (W.heap.size + 1) (.slice ao2 n2 c2) (T ++ [(kl e.key, (e.val, e.rev))]) ⟨p.1.toArray⟩ p.2 w3.heap.size (by simp) rfl rfl HX.out.2.1 hTl3 (by have := HX.out.2.2.2; omega) ?_; intro v5 w5 hrow5 hb5 hg5; obtain ⟨ao5, n5, c5, rfl⟩ := row_slice hrow5; have ho5 := (hb5.block _ (Nat.lt_succ_self _)).trans HX.out.1; have f5 := froz ho5 1; have l5 := cell1 ho5)
            | go_in)
          obtain ⟨w6, hw6⟩ : ∃ w6, w6 = w5.setCell ⟨W.heap.size, 1, none⟩ (.slice ao5 n5 c5) := ⟨_, rfl⟩
          rw [← hw6]
          have ho6 : w6.heap[W.heap.size]? = some (stO e.rev (.slice ao5 n5 c5)) := by rw [hw6]; exact set1_two ho5 _
          have hrow6 : RowR w6 (W.heap.size + 1) (.slice ao5 n5 c5) ((T ++ [(kl e.key, (e.val, e.rev))]) ++ [p]) := by rw [hw6]; exact row_set hrow5 (Nat.lt_succ_self _)
          have hB6 : Below W.heap.size W w6 := by rw [hw6]; exact (HX.out.2.2.1.trans (hb5.mono (Nat.le_succ _))).setCell (Nat.le_refl _) _
          have HY := Lib.hid (And.intro ho6 (And.intro hrow6 (And.intro hB6 (heap_lt ho6))))
          clear hw6 ho6 hrow6 hB6 hrow5 hb5 hg5 ho5 f5 l5 l4 x0 x1 x2 e0
          go_wp2_with fail
          go_roundw
          case rel => exact ⟨i + 1, _, by omega, by go_num, by rw [HD3.out]; simp, HY.out.1, by rw [HT2.out]; exact HY.out.2.1, HY.out.2.2.1, HY.out.2.2.2⟩
          case measure => simp [intOf]; omega
        | false =>
          have HT2 := Lib.hid (HSAME.out (by simp))
          have HD3 := Lib.hid HD2.out
          by_cases hk : p.1 = kl e.key
          · rw [if_pos hk] at HT2
            have k1 : (p.1 == e.key.toList) = true := by rw [hke]; simpa using hk
            have k2 := bne_of k1
            have hrow2 := HG.out.1.alloc (itRO ⟨p.1.toArray⟩ p.2.1 p.2.2)
            have ho2 := ((belNew wr (itRO ⟨p.1.toArray⟩ p.2.1 p.2.2)).block _ (heap_lt HG.out.2.1)).trans HG.out.2.1
            have l1 := cell1 ho2
            clear hke hk l1
            go_wp2_with fail
            go_roundw
            case rel => exact ⟨i + 1, _, by omega, by go_num, by rw [HD3.out]; simp, ho2, by rw [HT2.out]; exact hrow2, hB2, Nat.lt_trans HG.out.2.2 (by simp)⟩
            case measure => simp [intOf]; omega
          · rw [if_neg hk] at HT2
            have k1 : (p.1 == e.key.toList) = false := by rw [hke]; simpa using hk
            have k2 := bne_of k1
            have hrow2 := HG.out.1.alloc (itRO ⟨p.1.toArray⟩ p.2.1 p.2.2)
            have ho2 := ((belNew wr (itRO ⟨p.1.toArray⟩ p.2.1 p.2.2)).block _ (heap_lt HG.out.2.1)).trans HG.out.2.1
            have l1 := cell1 ho2
            clear hke hk
            go_upto_region 11 with (first
              | (at_builtin; refine wpList_push Tryz.underlying41 infoR rfl (.tmp 48) (.tmp 50) rfl (W.heap.size + 1) lv T ⟨p.1.toArray⟩ p.2 (wr.heap.size + 1) (by simp) rfl rfl hrow2 (by omega) (by simp; have := HG.out.2.2; omega) ?_; intro v2 w2 hrow3 hb2 hg2; obtain ⟨ao2, n2, c2, rfl⟩ := row_slice hrow3; have ho3 := (hb2.block _ (Nat.lt_succ_self _)).trans ho2; have f1 := froz ho3 1; have l3 := cell1 ho3)
              | go_in)
            obtain ⟨w3, hw3⟩ : ∃ w3, w3 = w2.setCell ⟨W.heap.size, 1, none⟩ (.slice ao2 n2 c2) := ⟨_, rfl⟩
            rw [← hw3]
            have ho4 : w3.heap[W.heap.size]? = some (stO e.rev (.slice ao2 n2 c2)) := by rw [hw3]; exact set1_two ho3 _
            have hrow4 : RowR w3 (W.heap.size + 1) (.slice ao2 n2 c2) (T ++ [p]) := by rw [hw3]; exact row_set hrow3 (Nat.lt_succ_self _)
            have hB3 : Below W.heap.size W w3 := by rw [hw3]; exact ((hB2.trans (hb2.mono (Nat.le_succ _)))).setCell (Nat.le_refl _) _
            have hl3 : W.heap.size < w3.heap.size := heap_lt ho4
            have HX := Lib.hid (And.intro ho4 (And.intro hrow4 (And.intro hB3 hl3)))
            clear hw3 ho4 hrow4 hB3 hl3 hrow3 hb2 hg2 ho3 f1 l3
            go_wp2_with fail
            go_roundw
            case rel => exact ⟨i + 1, _, by omega, by go_num, by rw [HD3.out]; simp, HX.out.1, by rw [HT2.out]; exact HX.out.2.1, HX.out.2.2.1, HX.out.2.2.2⟩
            case measure => simp [intOf]; omega
      | true =>
        have HT2 := Lib.hid (HSAME.out (by simp))
        have HD3 := Lib.hid HD2.out
        by_cases hk : p.1 = kl e.key
        · rw [if_pos hk] at HT2
          have k1 : (p.1 == e.key.toList) = true := by rw [hke]; simpa using hk
          have k2 := bne_of k1
          have hrow2 := HG.out.1.alloc (itRO ⟨p.1.toArray⟩ p.2.1 p.2.2)
          have ho2 := ((belNew wr (itRO ⟨p.1.toArray⟩ p.2.1 p.2.2)).block _ (heap_lt HG.out.2.1)).trans HG.out.2.1
          have l1 := cell1 ho2
          clear hke hk l1
          go_wp2_with fail
          go_roundw
          case rel => exact ⟨i + 1, _, by omega, by go_num, by rw [HD3.out]; simp, ho2, by rw [HT2.out]; exact hrow2, hB2, Nat.lt_trans HG.out.2.2 (by simp)⟩
          case measure => simp [intOf]; omega
        · rw [if_neg hk] at HT2
          have k1 : (p.1 == e.key.toList) = false := by rw [hke]; simpa using hk
          have k2 := bne_of k1
          have hrow2 := HG.out.1.alloc (itRO ⟨p.1.toArray⟩ p.2.1 p.2.2)
          have ho2 := ((belNew wr (itRO ⟨p.1.toArray⟩ p.2.1 p.2.2)).block _ (heap_lt HG.out.2.1)).trans HG.out.2.1
          have l1 := cell1 ho2
          clear hke hk
          go_upto_region 11 with (first
            | (at_builtin; refine wpList_push Tryz.underlying41 infoR rfl (.tmp 48) (.tmp 50) rfl (W.heap.size + 1) lv T ⟨p.1.toArray⟩ p.2 (wr.heap.size + 1) (by simp) rfl rfl hrow2 (by omega) (by simp; have := HG.out.2.2; omega) ?_; intro v2 w2 hrow3 hb2 hg2; obtain ⟨ao2, n2, c2, rfl⟩ := row_slice hrow3; have ho3 := (hb2.block _ (Nat.lt_succ_self _)).trans ho2; have f1 := froz ho3 1; have l3 := cell1 ho3)
            | go_in)
          obtain ⟨w3, hw3⟩ : ∃ w3, w3 = w2.setCell ⟨W.heap.size, 1, none⟩ (.slice ao2 n2 c2) := ⟨_, rfl⟩
          rw [← hw3]
          have ho4 : w3.heap[W.heap.size]? = some (stO e.rev (.slice ao2 n2 c2)) := by rw [hw3]; exact set1_two ho3 _
          have hrow4 : RowR w3 (W.heap.size + 1) (.slice ao2 n2 c2) (T ++ [p]) := by rw [hw3]; exact row_set hrow3 (Nat.lt_succ_self _)
          have hB3 : Below W.heap.size W w3 := by rw [hw3]; exact ((hB2.trans (hb2.mono (Nat.le_succ _)))).setCell (Nat.le_refl _) _
          have hl3 : W.heap.size < w3.heap.size := heap_lt ho4
          have HX := Lib.hid (And.intro ho4 (And.intro hrow4 (And.intro hB3 hl3)))
          clear hw3 ho4 hrow4 hB3 hl3 hrow3 hb2 hg2 ho3 f1 l3
          go_wp2_with fail
          go_roundw
          case rel => exact ⟨i + 1, _, by omega, by go_num, by rw [HD3.out]; simp, HX.out.1, by rw [HT2.out]; exact HX.out.2.1, HX.out.2.2.1, HX.out.2.2.2⟩
          case measure => simp [intOf]; omega
    · obtain rfl : i = L.length := by omega
      rw [List.take_length] at hrow
      rw [List.take_length]
      have hln := appS_len (kl e.key) (e.val, e.rev) e.gone L
      have hTl : (appS (kl e.key) (e.val, e.rev) e.gone L).length ≤ 1000001 := by omega
      clear hln
      generalize hT : appS (kl e.key) (e.val, e.rev) e.gone L = T at hrow hTl
      generalize hD : (e.gone || aheadB (kl e.key) L) = D
      have HTD := Lib.hid (And.intro hT hD)
      clear hT hD
      have hx4 := (hBw.block _ (heap_lt H0.out.2.2)).trans H0.out.2.2
      obtain ⟨aoL, nL, cL, rfl⟩ := row_slice hrow
      have l1 := cell1 ho
      have l0 := cell0 ho
      have HBw := Lib.hid hBw
      have HRow := Lib.hid hrow
      have HO := Lib.hid (And.intro ho hlw)
      cases D with
      | true =>
        have x0 := cell0 hx4
        have x1 := cell1 hx4
        have f0 := froz hx4 0
        have f1 := froz hx4 1
        have HE := Lib.hid (fill2 hx4 (.int .i64 e.rev) (.slice aoL nL cL))
        clear hx4 hBw hrow ho hlw
        go_wp2_with fail
        have hE := HE.out
        refine bodyPost_ret (v := stV e.rev (.slice aoL nL cL)) (by simp [results, Tryz.results41, go_sem, World.cell?, hE]) rfl ⟨_, rfl, ?_, ?_⟩
        · rw [← HF.out, app_end, HTD.out.1, HTD.out.2, if_neg (by simp)]
          exact row_leE (row_set (row_set HRow.out (by have := HZ.out; omega)) (by have := HZ.out; omega)) (by have := HZ.out; omega)
        · exact ((H0.out.1.trans (HBw.out.mono H0.out.1.size)).setCell (by show w.heap.size ≤ w.heap.size + 1 + 1; omega) _).setCell (by show w.heap.size ≤ w.heap.size + 1 + 1; omega) _
      | false =>
        have HX4 := Lib.hid hx4
        have e0 := bcell hBw E0.out
        have e1 := bcell hBw E1.out
        have e2 := bcell hBw E2.out
        clear hx4 hBw hrow ho hlw
        go_upto_region 14 with (first
          | (at_builtin; refine wpList_push Tryz.underlying41 infoR rfl (.tmp 57) (.tmp 65) rfl (W.heap.size + 1) (.slice aoL nL cL) T e.key (e.val, e.rev) wr.heap.size (by simp) rfl rfl HRow.out hTl (by have := HO.out.2; omega) ?_; intro v2 w2 hrow3 hb2 hg2; obtain ⟨ao2, n2, c2, rfl⟩ := row_slice hrow3; have ho3 := (hb2.block _ (Nat.lt_succ_self _)).trans HO.out.1; have f1 := froz ho3 1; have l3 := cell1 ho3)
          | go_in)
        obtain ⟨w3, hw3⟩ : ∃ w3, w3 = w2.setCell ⟨W.heap.size, 1, none⟩ (.slice ao2 n2 c2) := ⟨_, rfl⟩
        rw [← hw3]
        have ho4 : w3.heap[W.heap.size]? = some (stO e.rev (.slice ao2 n2 c2)) := by rw [hw3]; exact set1_two ho3 _
        have hrow4 : RowR w3 (W.heap.size + 1) (.slice ao2 n2 c2) (T ++ [(kl e.key, (e.val, e.rev))]) := by rw [hw3]; exact row_set hrow3 (Nat.lt_succ_self _)
        have hB3 : Below W.heap.size W w3 := by rw [hw3]; exact ((HBw.out.trans (hb2.mono (Nat.le_succ _)))).setCell (Nat.le_refl _) _
        have hx5 := (hB3.block _ (heap_lt H0.out.2.2)).trans H0.out.2.2
        have l5 := cell1 ho4
        have l6 := cell0 ho4
        have x0 := cell0 hx5
        have x1 := cell1 hx5
        have g0 := froz hx5 0
        have g1 := froz hx5 1
        have HE := Lib.hid (fill2 hx5 (.int .i64 e.rev) (.slice ao2 n2 c2))
        have HX := Lib.hid (And.intro hrow4 hB3)
        clear hx5 hw3 ho4 hrow4 hB3 hrow3 hb2 hg2 ho3 f1 l3 e0 e1 e2 l1 l0
        go_wp2_with fail
        have hE := HE.out
        refine bodyPost_ret (v := stV e.rev (.slice ao2 n2 c2)) (by simp [results, Tryz.results41, go_sem, World.cell?, hE]) rfl ⟨_, rfl, ?_, ?_⟩
        · rw [← HF.out, app_end, HTD.out.1, HTD.out.2, if_pos (by simp)]
          exact row_leE (row_set (row_set HX.out.1 (by have := HZ.out; omega)) (by have := HZ.out; omega)) (by have := HZ.out; omega)
        · exact ((H0.out.1.trans (HX.out.2.mono H0.out.1.size)).setCell (by show w.heap.size ≤ w.heap.size + 1 + 1; omega) _).setCell (by show w.heap.size ≤ w.heap.size + 1 + 1; omega) _
end
section
open Go.RowKit Go.Maps
end
end Go.Proofs.YtbbefakmpmniiaaGreatDoor.KV
