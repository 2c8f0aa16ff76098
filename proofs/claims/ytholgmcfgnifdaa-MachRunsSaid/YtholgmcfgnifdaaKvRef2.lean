/- The document's state: Stands, Begin; the laws' Items, SameItems. Made by g_kvref2.py. -/
import Derived.Test.YtholgmcfgnifdaaKvRef1
import Derived.Test.YtholgmcfgnifdaaKvOf
namespace Go.Proofs.Ytholgmcfgnifdaa
open Go.RowKit Go.Maps
theorem refStands_any (v : Value) (L : List KEnt) (R : Int) (k : ByteArray) (rv : Int) (w : World) (h : SeesI w v L) (hl : L.length ≤ maxLen) :
    Calls Try.prog 38 #[stV R v, .string k, .int .i64 rv] w fun e w' => e = .returned (.bool (stands L k rv)) ∧ Below w.heap.size w w' := by
  obtain ⟨wq, hW⟩ : ∃ wq, wq = w.alloc (stO R v) := ⟨_, rfl⟩
  have hb : Below w.heap.size w wq := by rw [hW]; exact belNew _ _
  have hA : wq.heap[w.heap.size]? = some (stO R v) := by rw [hW]; exact heap_alloc_new w _
  have HF := Lib.hid (refFind_any v L R k wq (h.below hb) hl)
  have HW := Lib.hid hW
  have HB := Lib.hid hb
  have s0 := cell0 hA
  have s1 := cell1 hA
  clear hW hb hA h
  unfold stands revOf
  unfold gotV at HF
  generalize there L k = th at HF
  generalize gotU L k = u at HF
  obtain ⟨u1, u2, u3⟩ := u
  cases th with
  | true =>
    go_enter Try.func38, Try.ntmps38
    go_upto_region 1 with fail
    change Code.wp _ _ _ _ (w.alloc (stO R v))
    rw [← HW.out]
    go_wp2_with (first
      | (go_at_call 35; refine HF.out.mono ?_; rintro e w1 ⟨rfl, hb1⟩)
      | go_in)
    go_ret
    exact ⟨rfl, belAlloc (HB.out.trans (hb1.mono HB.out.size)) _⟩
  | false =>
    go_enter Try.func38, Try.ntmps38
    go_upto_region 1 with fail
    change Code.wp _ _ _ _ (w.alloc (stO R v))
    rw [← HW.out]
    go_wp2_with (first
      | (go_at_call 35; refine HF.out.mono ?_; rintro e w1 ⟨rfl, hb1⟩)
      | go_in)
    go_ret
    exact ⟨rfl, belAlloc (HB.out.trans (hb1.mono HB.out.size)) _⟩
theorem beginL_snoc {L : List KEnt} {k : ByteArray} {i : Nat} {p : KEnt} (hp : L[i]? = some p) : beginL (L.take (i + 1)) k = if begins k p.1 = true then beginL (L.take i) k ++ [p] else beginL (L.take i) k := by
  unfold beginL
  rw [List.take_add_one, hp, List.filter_append]
  by_cases hb : begins k p.1 = true
  · rw [if_pos hb]; simp [hb]
  · rw [if_neg hb]; simp [hb]
theorem beginL_le (L : List KEnt) (k : ByteArray) : (beginL L k).length ≤ L.length := List.length_filter_le _ _
set_option maxRecDepth 100000 in
set_option maxHeartbeats 4000000 in
theorem refBegin_any (v : Value) (L : List KEnt) (R : Int) (k : ByteArray) (w : World) (h : SeesI w v L) (hl : L.length ≤ 1000000) (hk : k.size ≤ maxLen) :
    Calls Try.prog 36 #[stV R v, .string k] w fun e w' => ∃ v', e = .returned v' ∧ RowR w' w.heap.size v' (beginL L k) ∧ Below w.heap.size w w' := by
  obtain ⟨W, hW⟩ : ∃ W, W = w.alloc (stO R v) := ⟨_, rfl⟩
  have hb : Below w.heap.size w W := by rw [hW]; exact belNew _ _
  have hA : W.heap[w.heap.size]? = some (stO R v) := by rw [hW]; exact heap_alloc_new w _
  obtain ⟨ao, c, rfl, hlc, hnil, hc⟩ := h.below hb
  have HW := Lib.hid hW
  have HC := Lib.hid (And.intro hnil hc)
  have HB0 := Lib.hid hb
  have hk2 : (k.size : Int) ≤ 9223372036854775807 := by unfold maxLen at hk; omega
  have hk0 : (0 : Int) ≤ (k.size : Int) := by omega
  have s0 := cell0 hA
  have s1 := cell1 hA
  clear hW hnil hc hb hA h hk
  go_enter Try.func36, Try.ntmps36
  go_upto_region 1 with fail
  change Code.wp _ _ _ _ (w.alloc (stO R (.slice ao L.length c)))
  rw [← HW.out]
  go_wp2_with fail
  go_loopw [5, 11] (fun l j wr => ∃ i : Nat, i ≤ L.length ∧ j = .int .i64 i ∧ RowR wr W.heap.size l (beginL (L.take i) k) ∧ Below W.heap.size W wr) (fun _ j _ => L.length - (intOf j).toNat)
  case atStart => exact ⟨0, Nat.zero_le _, rfl, World.ownsRow_nil _ _ _ _, Below.refl _ _⟩
  case round =>
    obtain ⟨i, hi, rfl, hrow, hBw⟩ := hrel
    by_cases hlt : i < L.length
    · obtain ⟨a, rfl⟩ : ∃ a, ao = some a := by
        cases ao with
        | none => rw [HC.out.1 rfl] at hlt; simp at hlt
        | some a => exact ⟨a, rfl⟩
      obtain ⟨p, hgi⟩ : ∃ p, L[i]? = some p := ⟨_, List.getElem?_eq_getElem hlt⟩
      obtain ⟨q0, q1, q2⟩ := HC.out.2 a rfl i p hgi
      have q0 := bcell hBw q0
      have q1 := ofs1 (bcell hBw q1)
      have q2 := ofs2 (bcell hBw q2)
      have b0 : (0 : Int) ≤ (i : Int) := by omega
      have b1 : (i : Int) < (L.length : Int) := by omega
      have hbg : begins k p.1 = (decide (k.size ≤ (⟨p.1.toArray⟩ : ByteArray).size) && (((⟨p.1.toArray⟩ : ByteArray).extract 0 k.size).toList == k.toList)) := beginB k ⟨p.1.toArray⟩
      have hsn := beginL_snoc (k := k) hgi
      have hle : (beginL (L.take i) k).length ≤ 1000000 := Nat.le_trans (beginL_le _ _) (by rw [List.length_take]; omega)
      have HBG := Lib.hid hbg
      have HBw := Lib.hid hBw
      have HSN := Lib.hid hsn
      clear hbg hsn hgi
      by_cases hlen : k.size ≤ (⟨p.1.toArray⟩ : ByteArray).size
      · have d1 : decide ((k.size : Int) ≤ ((⟨p.1.toArray⟩ : ByteArray).size : Int)) = true := by simp; omega
        have hsz : (⟨p.1.toArray⟩ : ByteArray).size = p.1.length := by simp [ByteArray.size]
        have d1b : (k.size : Int) ≤ ((⟨p.1.toArray⟩ : ByteArray).size : Int) := by omega
        have d1c : k.size ≤ p.1.length := by omega
        have d1d : (k.size : Int) ≤ (p.1.length : Int) := by omega
        cases hpx : ((⟨p.1.toArray⟩ : ByteArray).extract 0 k.size).toList == k.toList with
        | true =>
          have hpx2 : ((⟨p.1.toArray⟩ : ByteArray).extract 0 k.size).toList = k.toList := by simpa using hpx
          have hbt : begins k p.1 = true := by rw [HBG.out, hpx]; simp; exact hlen
          have hs2 : beginL (L.take (i + 1)) k = beginL (L.take i) k ++ [p] := by rw [HSN.out, if_pos hbt]
          have HS2 := Lib.hid hs2
          have hrow2 := hrow.alloc (itRO ⟨p.1.toArray⟩ p.2.1 p.2.2)
          clear hbt hs2 hlen hsz
          go_wp2_with (first
            | (at_builtin; refine wpList_push Try.underlying55 infoR rfl (.tmp 30) (.tmp 32) rfl W.heap.size u5 (beginL (L.take i) k) ⟨p.1.toArray⟩ p.2 (wr.heap.size + 1) (by simp) rfl rfl hrow2 (by omega) (by simp; have := HBw.out.size; omega) ?_; intro v2 w2 hrow3 hb2 hg2)
            | go_in)
          go_roundw
          case rel => exact ⟨i + 1, by omega, by go_num, by rw [HS2.out]; exact hrow3, (belAlloc HBw.out _).trans hb2⟩
          case measure => simp [intOf]; omega
        | false =>
          have hbt : begins k p.1 = false := by rw [HBG.out, hpx]; simp
          have hs2 : beginL (L.take (i + 1)) k = beginL (L.take i) k := by rw [HSN.out, if_neg (by rw [hbt]; simp)]
          have HS2 := Lib.hid hs2
          have hpx2 : ¬ ((⟨p.1.toArray⟩ : ByteArray).extract 0 k.size).toList = k.toList := by simpa using hpx
          clear hbt hs2 hlen hsz
          go_wp2_with fail
          go_roundw
          case rel => exact ⟨i + 1, by omega, by go_num, by rw [HS2.out]; exact hrow.alloc _, belAlloc HBw.out _⟩
          case measure => simp [intOf]; omega
      · have d1 : decide ((k.size : Int) ≤ ((⟨p.1.toArray⟩ : ByteArray).size : Int)) = false := by simp; omega
        have hsz : (⟨p.1.toArray⟩ : ByteArray).size = p.1.length := by simp [ByteArray.size]
        have d1c : ¬ k.size ≤ p.1.length := by omega
        have hbt : begins k p.1 = false := by rw [HBG.out]; simp; omega
        have hs2 : beginL (L.take (i + 1)) k = beginL (L.take i) k := by rw [HSN.out, if_neg (by rw [hbt]; simp)]
        have HS2 := Lib.hid hs2
        clear hbt hs2 hlen hsz
        go_wp2_with fail
        go_roundw
        case rel => exact ⟨i + 1, by omega, by go_num, by rw [HS2.out]; exact hrow.alloc _, belAlloc HBw.out _⟩
        case measure => simp [intOf]; omega
    · obtain rfl : i = L.length := by omega
      rw [List.take_length] at hrow
      have HR := Lib.hid hrow
      clear hrow
      go_wp2_with fail
      go_ret
      exact ⟨_, rfl, row_leE HR.out HB0.out.size, HB0.out.trans (hBw.mono HB0.out.size)⟩
theorem neItemB (p q : KEnt) (w : World) : (binOp .neq 76 (.agg #[.string ⟨p.1.toArray⟩, .string p.2.1, .int .i64 p.2.2]) (.agg #[.string ⟨q.1.toArray⟩, .string q.2.1, .int .i64 q.2.2])).run Try.prog w = .ok (.bool (!decide (p = q))) w := by
  rw [neItem, item_eq]
theorem take_eqK {A L : List KEnt} (hl : A.length = L.length) (hn : A ≠ L) : ∀ i, i ≤ L.length → A.take i = L.take i → i < L.length := fun i hi h => by
  rcases Nat.lt_or_ge i L.length with h1 | h1
  · exact h1
  · exfalso
    rw [List.take_of_length_le (by omega), List.take_of_length_le h1] at h
    exact hn h
set_option maxRecDepth 100000 in
set_option maxHeartbeats 4000000 in
theorem sameItems_any (v v' : Value) (A L : List KEnt) (w : World) (hv : SeesI w v A) (hv' : SeesI w v' L) (hl : A.length ≤ maxLen) (hl' : L.length ≤ maxLen) :
    Calls Try.prog 21 #[v, v'] w fun e w' => e = .returned (.bool (decide (A = L))) ∧ Below w.heap.size w w' := by
  obtain ⟨ao, c, rfl, hlc, hnil, hc⟩ := hv
  obtain ⟨ao', c', rfl, hlc', hnil', hc'⟩ := hv'
  have HC := Lib.hid (And.intro hnil hc)
  have HC' := Lib.hid (And.intro hnil' hc')
  have hl2 : A.length ≤ 9223372036854775807 := by unfold maxLen at hl; omega
  have hl2' : L.length ≤ 9223372036854775807 := by unfold maxLen at hl'; omega
  have HNE := Lib.hid neItemB
  clear hnil hc hnil' hc' hl hl'
  by_cases hal : A.length = L.length
  · have d0 : ((A.length : Int) != (L.length : Int)) = false := by rw [hal]; simp
    have HAL := Lib.hid hal
    rw [hal] at hlc hl2 ⊢
    clear d0 hal
    generalize hB : decide (A = L) = B
    have HBB := Lib.hid hB
    clear hB
    go_enter Try.func21, Try.ntmps21
    go_wp2_with fail
    go_loopw [14] (fun j wr => ∃ i : Nat, i ≤ L.length ∧ j = .int .i64 i ∧ Aside (A.take i = L.take i) ∧ Below w.heap.size w wr) (fun j _ => L.length - (intOf j).toNat)
    case atStart => exact ⟨0, Nat.zero_le _, rfl, rfl, Below.refl _ _⟩
    case round =>
      obtain ⟨i, hi, rfl, hst, hBw⟩ := hrel
      by_cases hlt : i < L.length
      · have hltA : i < A.length := by rw [HAL.out]; exact hlt
        obtain ⟨a, rfl⟩ : ∃ a, ao = some a := by
          cases ao with
          | none => rw [HC.out.1 rfl] at hltA; simp at hltA
          | some a => exact ⟨a, rfl⟩
        obtain ⟨a', rfl⟩ : ∃ a, ao' = some a := by
          cases ao' with
          | none => rw [HC'.out.1 rfl] at hlt; simp at hlt
          | some a => exact ⟨a, rfl⟩
        obtain ⟨p, hp⟩ : ∃ p, A[i]? = some p := ⟨_, List.getElem?_eq_getElem hltA⟩
        obtain ⟨q, hq⟩ : ∃ q, L[i]? = some q := ⟨_, List.getElem?_eq_getElem hlt⟩
        obtain ⟨p0, p1, p2⟩ := HC.out.2 a rfl i p hp
        have p0 := bcell hBw p0
        have p1 := ofs1 (bcell hBw p1)
        have p2 := ofs2 (bcell hBw p2)
        obtain ⟨q0, q1, q2⟩ := HC'.out.2 a' rfl i q hq
        have q0 := bcell hBw q0
        have q1 := ofs1 (bcell hBw q1)
        have q2 := ofs2 (bcell hBw q2)
        have b0 : (0 : Int) ≤ (i : Int) := by omega
        have b1 : (i : Int) < (L.length : Int) := by omega
        have HEQ : Hid (p = q → A.take (i + 1) = L.take (i + 1)) := Lib.hid (fun e => by rw [List.take_add_one, List.take_add_one, hst.out, hp, hq, e])
        have HNO : Hid (p ≠ q → B = false) := Lib.hid (fun e => by
          rw [← HBB.out]
          refine decide_eq_false (fun h => e ?_)
          rw [h, hq] at hp
          exact (Option.some.inj hp).symm)
        have hne := HNE.out p q
        have HLT := Lib.hid hlt
        clear hp hq hst hltA
        go_upto_region 6 with fail
        obtain ⟨wx, hwx⟩ : ∃ wx, wx = wr.alloc (itRO ⟨q.1.toArray⟩ q.2.1 q.2.2) := ⟨_, rfl⟩
        have hx1 : wx.heap[wr.heap.size]? = some (itRO ⟨q.1.toArray⟩ q.2.1 q.2.2) := by rw [hwx]; exact heap_alloc_new wr _
        have hbx : Below wr.heap.size wr wx := by rw [hwx]; exact belNew _ _
        change Code.wp _ _ _ _ (wr.alloc (itRO ⟨q.1.toArray⟩ q.2.1 q.2.2))
        rw [← hwx]
        obtain ⟨x0, x1, x2⟩ := rcells hx1
        have p0 := bcell hbx p0
        have p1 := bcell hbx p1
        have p2 := bcell hbx p2
        have HBX := Lib.hid (bel hBw hbx)
        clear hwx hbx hx1 q0 q1 q2
        cases hpq : decide (p = q) with
        | true =>
          have HGD := Lib.hid (HEQ.out (of_decide_eq_true hpq))
          rw [hpq] at hne
          clear hpq
          refine wp_region_held_drew (S := (fun W => Below wx.heap.size wx W)) (by kernel_rfl) ?_ (fun r0 => ?_)
          · exact ⟨rfl, rfl, rfl, Nat.le_refl _, fun _ _ => rfl⟩
          refine wpAnyH_take (i := 0) (v := ?_) rfl (by kernel_rfl) (by kernel_rfl) (by kernel_rfl) (fun _ _ _ h => h) (Or.inl ⟨by rfl, ?_⟩) (by assumption) ?_
          rotate_left
          · intro wS hSw
            (try dsimp only at hSw)
            go_simp
            first | done | with_reducible rfl
          try simp only [Act.put, List.getElem_toArray, List.getElem_cons_zero, List.setIfInBounds_toArray, List.set_cons_zero, List.set_cons_succ]
          refine wpAnyH_take (i := 1) (v := ?_) rfl (by kernel_rfl) (by kernel_rfl) (by kernel_rfl) (fun _ _ _ h => h) (Or.inl ⟨by rfl, ?_⟩) (by assumption) ?_
          rotate_left
          · intro wS hSw
            (try dsimp only at hSw)
            go_simp
            first | done | with_reducible rfl
          try simp only [Act.put, List.getElem_toArray, List.getElem_cons_succ, List.getElem_cons_zero, List.setIfInBounds_toArray, List.set_cons_zero, List.set_cons_succ]
          refine wpAnyH_take (i := 2) (v := ?_) rfl (by kernel_rfl) (by kernel_rfl) (by kernel_rfl) (fun _ _ _ h => h) (Or.inl ⟨by rfl, ?_⟩) (by assumption) ?_
          rotate_left
          · intro wS hSw
            (try dsimp only at hSw)
            go_simp
            first | done | with_reducible rfl
          try simp only [Act.put, List.getElem_toArray, List.getElem_cons_succ, List.getElem_cons_zero, List.setIfInBounds_toArray, List.set_cons_zero, List.set_cons_succ]
          refine wpAnyH_take (i := 3) (v := ?_) rfl (by kernel_rfl) (by kernel_rfl) (by kernel_rfl) (fun _ _ _ h => h) (Or.inl ⟨by rfl, ?_⟩) (by assumption) ?_
          rotate_left
          · intro wS hSw
            (try dsimp only at hSw)
            have p0 := bcell hSw p0
            have p1 := bcell hSw p1
            have p2 := bcell hSw p2
            have x0 := bcell hSw x0
            have x1 := bcell hSw x1
            have x2 := bcell hSw x2
            go_simp
            first | done | with_reducible rfl
          try simp only [Act.put, List.getElem_toArray, List.getElem_cons_succ, List.getElem_cons_zero, List.setIfInBounds_toArray, List.set_cons_zero, List.set_cons_succ]
          refine wpAnyH_take (i := 4) (v := ?_) rfl (by kernel_rfl) (by kernel_rfl) (by kernel_rfl) (fun _ _ _ h => h) (Or.inl ⟨by rfl, ?_⟩) (by assumption) ?_
          rotate_left
          · intro wS hSw
            (try dsimp only at hSw)
            go_simp
            first | done | with_reducible rfl
          try simp only [Act.put, List.getElem_toArray, List.getElem_cons_succ, List.getElem_cons_zero, List.setIfInBounds_toArray, List.set_cons_zero, List.set_cons_succ]
          refine wpAnyH_take (i := 5) (v := ?_) rfl (by kernel_rfl) (by kernel_rfl) (by kernel_rfl) (fun _ _ _ h => h) (Or.inl ⟨by rfl, ?_⟩) (by assumption) ?_
          rotate_left
          · intro wS hSw
            (try dsimp only at hSw)
            have p0 := bcell hSw p0
            have p1 := bcell hSw p1
            have p2 := bcell hSw p2
            have x0 := bcell hSw x0
            have x1 := bcell hSw x1
            have x2 := bcell hSw x2
            go_simp
            first | done | with_reducible rfl
          try simp only [Act.put, List.getElem_toArray, List.getElem_cons_succ, List.getElem_cons_zero, List.setIfInBounds_toArray, List.set_cons_zero, List.set_cons_succ]
          refine wpAnyH_take (i := 6) (v := ?_) rfl (by kernel_rfl) (by kernel_rfl) (by kernel_rfl) (fun _ _ _ h => h) (Or.inl ⟨by rfl, ?_⟩) (by assumption) ?_
          rotate_left
          · intro wS hSw
            (try dsimp only at hSw)
            go_simp
            first | done | with_reducible rfl
          try simp only [Act.put, List.getElem_toArray, List.getElem_cons_succ, List.getElem_cons_zero, List.setIfInBounds_toArray, List.set_cons_zero, List.set_cons_succ]
          refine wpAnyH_take (i := 7) (v := ?_) rfl (by kernel_rfl) (by kernel_rfl) (by kernel_rfl) (fun _ _ _ h => h) (Or.inl ⟨by rfl, ?_⟩) (by assumption) ?_
          rotate_left
          · intro wS hSw
            (try dsimp only at hSw)
            have p0 := bcell hSw p0
            have p1 := bcell hSw p1
            have p2 := bcell hSw p2
            have x0 := bcell hSw x0
            have x1 := bcell hSw x1
            have x2 := bcell hSw x2
            go_simp
            first | done | with_reducible rfl
          try simp only [Act.put, List.getElem_toArray, List.getElem_cons_succ, List.getElem_cons_zero, List.setIfInBounds_toArray, List.set_cons_zero, List.set_cons_succ]
          refine wpAnyH_take (i := 8) (v := ?_) rfl (by kernel_rfl) (by kernel_rfl) (by kernel_rfl) (fun _ _ _ h => h) (Or.inl ⟨by rfl, ?_⟩) (by assumption) ?_
          rotate_left
          · intro wS hSw
            (try dsimp only at hSw)
            go_simp
            first | done | with_reducible rfl
          try simp only [Act.put, List.getElem_toArray, List.getElem_cons_succ, List.getElem_cons_zero, List.setIfInBounds_toArray, List.set_cons_zero, List.set_cons_succ]
          refine wpAnyH_take (i := 9) (v := ?_) rfl (by kernel_rfl) (by kernel_rfl) (by kernel_rfl) (fun _ _ _ h => h) (Or.inl ⟨by rfl, ?_⟩) (by assumption) ?_
          rotate_left
          · intro wS hSw
            (try dsimp only at hSw)
            have p0 := bcell hSw p0
            have p1 := bcell hSw p1
            have p2 := bcell hSw p2
            have x0 := bcell hSw x0
            have x1 := bcell hSw x1
            have x2 := bcell hSw x2
            go_simp
            first | done | with_reducible rfl
          try simp only [Act.put, List.getElem_toArray, List.getElem_cons_succ, List.getElem_cons_zero, List.setIfInBounds_toArray, List.set_cons_zero, List.set_cons_succ]
          refine wpAnyH_take (i := 10) (v := ?_) rfl (by kernel_rfl) (by kernel_rfl) (by kernel_rfl) (fun _ _ _ h => h) (Or.inl ⟨by rfl, ?_⟩) (by assumption) ?_
          rotate_left
          · intro wS hSw
            (try dsimp only at hSw)
            go_simp
            first | done | with_reducible rfl
          try simp only [Act.put, List.getElem_toArray, List.getElem_cons_succ, List.getElem_cons_zero, List.setIfInBounds_toArray, List.set_cons_zero, List.set_cons_succ]
          refine wpAnyH_take (i := 11) (v := ?_) rfl (by kernel_rfl) (by kernel_rfl) (by kernel_rfl) (fun _ _ _ h => h) (Or.inl ⟨by rfl, ?_⟩) (by assumption) ?_
          rotate_left
          · intro wS hSw
            (try dsimp only at hSw)
            have hne := hne wS
            go_simp
            first | done | with_reducible rfl
          try simp only [Act.put, List.getElem_toArray, List.getElem_cons_succ, List.getElem_cons_zero, List.setIfInBounds_toArray, List.set_cons_zero, List.set_cons_succ]
          refine wpAnyH_done (by kernel_rfl) ?_ _
          go_wp2_with fail
          go_roundw
          case rel => exact ⟨i + 1, by have := HLT.out; omega, by go_num, HGD.out, bel HBX.out r0⟩
          case measure => have := HLT.out; simp [intOf]; omega
        | false =>
          have HGD := Lib.hid (HNO.out (of_decide_eq_false hpq))
          rw [hpq] at hne
          clear hpq
          refine wp_region_held_drew (S := (fun W => Below wx.heap.size wx W)) (by kernel_rfl) ?_ (fun r0 => ?_)
          · exact ⟨rfl, rfl, rfl, Nat.le_refl _, fun _ _ => rfl⟩
          refine wpAnyH_take (i := 0) (v := ?_) rfl (by kernel_rfl) (by kernel_rfl) (by kernel_rfl) (fun _ _ _ h => h) (Or.inl ⟨by rfl, ?_⟩) (by assumption) ?_
          rotate_left
          · intro wS hSw
            (try dsimp only at hSw)
            go_simp
            first | done | with_reducible rfl
          try simp only [Act.put, List.getElem_toArray, List.getElem_cons_zero, List.setIfInBounds_toArray, List.set_cons_zero, List.set_cons_succ]
          refine wpAnyH_take (i := 1) (v := ?_) rfl (by kernel_rfl) (by kernel_rfl) (by kernel_rfl) (fun _ _ _ h => h) (Or.inl ⟨by rfl, ?_⟩) (by assumption) ?_
          rotate_left
          · intro wS hSw
            (try dsimp only at hSw)
            go_simp
            first | done | with_reducible rfl
          try simp only [Act.put, List.getElem_toArray, List.getElem_cons_succ, List.getElem_cons_zero, List.setIfInBounds_toArray, List.set_cons_zero, List.set_cons_succ]
          refine wpAnyH_take (i := 2) (v := ?_) rfl (by kernel_rfl) (by kernel_rfl) (by kernel_rfl) (fun _ _ _ h => h) (Or.inl ⟨by rfl, ?_⟩) (by assumption) ?_
          rotate_left
          · intro wS hSw
            (try dsimp only at hSw)
            go_simp
            first | done | with_reducible rfl
          try simp only [Act.put, List.getElem_toArray, List.getElem_cons_succ, List.getElem_cons_zero, List.setIfInBounds_toArray, List.set_cons_zero, List.set_cons_succ]
          refine wpAnyH_take (i := 3) (v := ?_) rfl (by kernel_rfl) (by kernel_rfl) (by kernel_rfl) (fun _ _ _ h => h) (Or.inl ⟨by rfl, ?_⟩) (by assumption) ?_
          rotate_left
          · intro wS hSw
            (try dsimp only at hSw)
            have p0 := bcell hSw p0
            have p1 := bcell hSw p1
            have p2 := bcell hSw p2
            have x0 := bcell hSw x0
            have x1 := bcell hSw x1
            have x2 := bcell hSw x2
            go_simp
            first | done | with_reducible rfl
          try simp only [Act.put, List.getElem_toArray, List.getElem_cons_succ, List.getElem_cons_zero, List.setIfInBounds_toArray, List.set_cons_zero, List.set_cons_succ]
          refine wpAnyH_take (i := 4) (v := ?_) rfl (by kernel_rfl) (by kernel_rfl) (by kernel_rfl) (fun _ _ _ h => h) (Or.inl ⟨by rfl, ?_⟩) (by assumption) ?_
          rotate_left
          · intro wS hSw
            (try dsimp only at hSw)
            go_simp
            first | done | with_reducible rfl
          try simp only [Act.put, List.getElem_toArray, List.getElem_cons_succ, List.getElem_cons_zero, List.setIfInBounds_toArray, List.set_cons_zero, List.set_cons_succ]
          refine wpAnyH_take (i := 5) (v := ?_) rfl (by kernel_rfl) (by kernel_rfl) (by kernel_rfl) (fun _ _ _ h => h) (Or.inl ⟨by rfl, ?_⟩) (by assumption) ?_
          rotate_left
          · intro wS hSw
            (try dsimp only at hSw)
            have p0 := bcell hSw p0
            have p1 := bcell hSw p1
            have p2 := bcell hSw p2
            have x0 := bcell hSw x0
            have x1 := bcell hSw x1
            have x2 := bcell hSw x2
            go_simp
            first | done | with_reducible rfl
          try simp only [Act.put, List.getElem_toArray, List.getElem_cons_succ, List.getElem_cons_zero, List.setIfInBounds_toArray, List.set_cons_zero, List.set_cons_succ]
          refine wpAnyH_take (i := 6) (v := ?_) rfl (by kernel_rfl) (by kernel_rfl) (by kernel_rfl) (fun _ _ _ h => h) (Or.inl ⟨by rfl, ?_⟩) (by assumption) ?_
          rotate_left
          · intro wS hSw
            (try dsimp only at hSw)
            go_simp
            first | done | with_reducible rfl
          try simp only [Act.put, List.getElem_toArray, List.getElem_cons_succ, List.getElem_cons_zero, List.setIfInBounds_toArray, List.set_cons_zero, List.set_cons_succ]
          refine wpAnyH_take (i := 7) (v := ?_) rfl (by kernel_rfl) (by kernel_rfl) (by kernel_rfl) (fun _ _ _ h => h) (Or.inl ⟨by rfl, ?_⟩) (by assumption) ?_
          rotate_left
          · intro wS hSw
            (try dsimp only at hSw)
            have p0 := bcell hSw p0
            have p1 := bcell hSw p1
            have p2 := bcell hSw p2
            have x0 := bcell hSw x0
            have x1 := bcell hSw x1
            have x2 := bcell hSw x2
            go_simp
            first | done | with_reducible rfl
          try simp only [Act.put, List.getElem_toArray, List.getElem_cons_succ, List.getElem_cons_zero, List.setIfInBounds_toArray, List.set_cons_zero, List.set_cons_succ]
          refine wpAnyH_take (i := 8) (v := ?_) rfl (by kernel_rfl) (by kernel_rfl) (by kernel_rfl) (fun _ _ _ h => h) (Or.inl ⟨by rfl, ?_⟩) (by assumption) ?_
          rotate_left
          · intro wS hSw
            (try dsimp only at hSw)
            go_simp
            first | done | with_reducible rfl
          try simp only [Act.put, List.getElem_toArray, List.getElem_cons_succ, List.getElem_cons_zero, List.setIfInBounds_toArray, List.set_cons_zero, List.set_cons_succ]
          refine wpAnyH_take (i := 9) (v := ?_) rfl (by kernel_rfl) (by kernel_rfl) (by kernel_rfl) (fun _ _ _ h => h) (Or.inl ⟨by rfl, ?_⟩) (by assumption) ?_
          rotate_left
          · intro wS hSw
            (try dsimp only at hSw)
            have p0 := bcell hSw p0
            have p1 := bcell hSw p1
            have p2 := bcell hSw p2
            have x0 := bcell hSw x0
            have x1 := bcell hSw x1
            have x2 := bcell hSw x2
            go_simp
            first | done | with_reducible rfl
          try simp only [Act.put, List.getElem_toArray, List.getElem_cons_succ, List.getElem_cons_zero, List.setIfInBounds_toArray, List.set_cons_zero, List.set_cons_succ]
          refine wpAnyH_take (i := 10) (v := ?_) rfl (by kernel_rfl) (by kernel_rfl) (by kernel_rfl) (fun _ _ _ h => h) (Or.inl ⟨by rfl, ?_⟩) (by assumption) ?_
          rotate_left
          · intro wS hSw
            (try dsimp only at hSw)
            go_simp
            first | done | with_reducible rfl
          try simp only [Act.put, List.getElem_toArray, List.getElem_cons_succ, List.getElem_cons_zero, List.setIfInBounds_toArray, List.set_cons_zero, List.set_cons_succ]
          refine wpAnyH_take (i := 11) (v := ?_) rfl (by kernel_rfl) (by kernel_rfl) (by kernel_rfl) (fun _ _ _ h => h) (Or.inl ⟨by rfl, ?_⟩) (by assumption) ?_
          rotate_left
          · intro wS hSw
            (try dsimp only at hSw)
            have hne := hne wS
            go_simp
            first | done | with_reducible rfl
          try simp only [Act.put, List.getElem_toArray, List.getElem_cons_succ, List.getElem_cons_zero, List.setIfInBounds_toArray, List.set_cons_zero, List.set_cons_succ]
          refine wpAnyH_done (by kernel_rfl) ?_ _
          go_wp2_with fail
          go_ret
          exact ⟨congrArg (fun b : Bool => Ending.returned (.bool b)) HGD.out.symm, bel HBX.out r0⟩
      · obtain rfl : i = L.length := by omega
        have hst := hst.out
        rw [List.take_length, ← HAL.out, List.take_length] at hst
        have HGD : Hid (B = true) := Lib.hid (by rw [← HBB.out]; exact decide_eq_true hst)
        go_wp2_with fail
        go_ret
        exact ⟨congrArg (fun b : Bool => Ending.returned (.bool b)) HGD.out.symm, hBw⟩
  · have d0 : ((A.length : Int) != (L.length : Int)) = true := by simp; omega
    have HB : Hid (false = decide (A = L)) := Lib.hid (decide_eq_false (fun e => hal (by rw [e]))).symm
    go_enter Try.func21, Try.ntmps21
    go_wp2_with fail
    go_ret
    exact ⟨congrArg (fun b : Bool => Ending.returned (.bool b)) HB.out, Below.refl _ _⟩
end Go.Proofs.Ytholgmcfgnifdaa
