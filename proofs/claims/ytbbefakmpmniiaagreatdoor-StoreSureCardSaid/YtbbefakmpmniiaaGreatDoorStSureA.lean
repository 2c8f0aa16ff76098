/- What the law StoreSure wants: stays, which of some states a store has; a disk that is opened as a state; the row of crashes. -/
import Derived.Test.YtbbefakmpmniiaaGreatDoorStCompactsW
import Derived.Test.YtbbefakmpmniiaaGreatDoorSKt
namespace Go.Proofs.YtbbefakmpmniiaaGreatDoor
open Go.RowKit Go.Maps
open KV (bcell bdrew)
/-- Some of the document's states in a row. -/
def SeesM (w : World) (v : Value) (ls : List (KV.KSt × Value)) : Prop :=
  ∃ (a : Addr) (c : Nat), v = .slice (some a) ls.length c ∧ ls.length ≤ c ∧ ∀ i p, ls[i]? = some p → w.cell? (a.add (i * 2)) = some (.int .i64 p.1.rev) ∧ w.cell? ((a.add (i * 2)).add 1) = some p.2 ∧ KV.SeesI w p.2 p.1.L ∧ p.1.L.length ≤ 1000000
theorem SeesM.below {w w' : World} {v : Value} {ls : List (KV.KSt × Value)} (h : SeesM w v ls) (hb : Below w.heap.size w w') : SeesM w' v ls := by
  obtain ⟨a, c, e, hl, hc⟩ := h
  exact ⟨a, c, e, hl, fun i p hp => ⟨bcell hb (hc i p hp).1, bcell hb (hc i p hp).2.1, (hc i p hp).2.2.1.below hb, (hc i p hp).2.2.2⟩⟩
/-- Is a state at hand one of those? -/
def StayI (S : KV.KSt) (ls : List (KV.KSt × Value)) (x : Int) : Prop := (∃ i p, ls[i]? = some p ∧ p.1 = S ∧ x = (i : Nat)) ∨ (x = -1 ∧ ∀ p ∈ ls, p.1 ≠ S)
set_option maxRecDepth 100000 in
set_option maxHeartbeats 8000000 in
theorem stays_any (s g l k : Nat) (P Pk : Nat → Prop) (T : WSt) (S : KV.KSt) (ev wr0 : Int) (dead : Bool) (w : World) (v : Value) (ls : List (KV.KSt × Value)) (h : SAll w s g l k P Pk T S ev wr0 dead) (hri : KV.Rising S.L) (hn : S.L.length ≤ 1000000) (hm : SeesM w v ls) (hl : ls.length ≤ 2) :
    Calls Tryz.prog 31 #[ptr s, v] w fun e w' => ∃ x : Int, e = .returned (.int .i64 x) ∧ StayI S ls x ∧ Below w.heap.size w w' := by
  obtain ⟨a, c, rfl, hlc, hc⟩ := hm
  have HC := Lib.hid hc
  have HA := Lib.hid h
  have HRI := Lib.hid (And.intro hri hn)
  clear hc h hri hn
  go_enter Tryz.func31, Tryz.ntmps31
  go_wp2_with fail
  go_loopw [9] (fun j wr => ∃ i : Nat, i ≤ ls.length ∧ j = .int .i64 i ∧ Hid ((∀ q, q < i → ∀ p, ls[q]? = some p → p.1 ≠ S) ∧ Below w.heap.size w wr)) (fun j _ => ls.length - (intOf j).toNat)
  case atStart => exact ⟨0, Nat.zero_le _, rfl, Lib.hid ⟨fun q hq => by omega, Below.refl _ _⟩⟩
  case round =>
    obtain ⟨i, hi, rfl, HJ⟩ := hrel
    by_cases hlt : i < ls.length
    · obtain ⟨p, hp⟩ : ∃ p, ls[i]? = some p := ⟨_, List.getElem?_eq_getElem hlt⟩
      obtain ⟨p0, p1, hse, hpl⟩ := HC.out i p hp
      have hBw := HJ.out.2
      have p0 := bcell hBw p0
      have p1 := KV.ofs1 (bcell hBw p1)
      have hse := hse.below hBw
      have HP := Lib.hid hp
      obtain ⟨⟨R, L⟩, u⟩ := p
      simp only [] at p0 p1 hse hpl
      obtain ⟨ua, un, uc, rfl⟩ := KV.sees_slice hse
      have b0 : (0 : Int) ≤ (i : Int) := by omega
      have b1 : (i : Int) < (ls.length : Int) := by omega
      have hll : ls.length ≤ 9223372036854775807 := by omega
      have HLT := Lib.hid hlt
      clear hp
      go_upto_region 4 with fail
      obtain ⟨wx, hwx⟩ : ∃ wx, wx = wr.alloc (KV.stO R (.slice ua un uc)) := ⟨_, rfl⟩
      have hx1 : wx.heap[wr.heap.size]? = some (KV.stO R (.slice ua un uc)) := by rw [hwx]; exact heap_alloc_new wr _
      have hbx : Below wr.heap.size wr wx := by rw [hwx]; exact belNew wr _
      change Code.wp _ _ _ _ (wr.alloc (KV.stO R (.slice ua un uc)))
      rw [← hwx]
      have m0 := cell0 hx1
      have m1 := cell1 hx1
      have hBx := hBw.trans (hbx.mono hBw.size)
      have HX := Lib.hid (And.intro (HA.out.below hBx) (And.intro (hse.below hbx) hpl))
      have HBX := Lib.hid hBx
      clear hwx hx1 hbx hBw hBx hse hpl p0 p1
      cases hq : (S.rev == R) with
      | false =>
        have HNE : Hid ((⟨R, L⟩ : KV.KSt) ≠ S) := Lib.hid (fun e => by rw [← e] at hq; simp at hq)
        refine wp_region_held_drew (S := (fun W => Below wx.heap.size wx W)) (by kernel_rfl) ?_ (fun r0 => ?_)
        · exact ⟨rfl, rfl, rfl, Nat.le_refl _, fun _ _ => rfl⟩
        refine wpAnyH_take (i := 0) (v := ?_) rfl (by kernel_rfl) (by kernel_rfl) (by kernel_rfl) (fun _ _ _ h => h) (Or.inl ⟨by rfl, ?_⟩) (by assumption) ?_
        rotate_left
        · intro wS hSw
          (try dsimp only at hSw)
          go_simp
          first | done | with_reducible rfl
        try simp only [Act.put, List.getElem_toArray, List.getElem_cons_succ, List.getElem_cons_zero, List.setIfInBounds_toArray, List.set_cons_zero, List.set_cons_succ]
        refine wpAnyH_take (i := 2) (v := ?_) rfl (by kernel_rfl) (by kernel_rfl) (by kernel_rfl) (fun _ _ _ h => h) (Or.inl ⟨by rfl, ?_⟩) (by assumption) ?_
        rotate_left
        · intro wS hSw
          (try dsimp only at hSw)
          go_simp
          first | done | with_reducible rfl
        try simp only [Act.put, List.getElem_toArray, List.getElem_cons_succ, List.getElem_cons_zero, List.setIfInBounds_toArray, List.set_cons_zero, List.set_cons_succ]
        refine wpAnyH_take (i := 3) (v := ?_) rfl (by kernel_rfl) (by kernel_rfl) (by kernel_rfl) (fun _ _ _ h => h) (Or.inl ⟨by rfl, ?_⟩) (by assumption) ?_
        rotate_left
        · intro wS hSw
          (try dsimp only at hSw)
          have m0 := bcell hSw m0
          have m1 := bcell hSw m1
          go_simp
          first | done | with_reducible rfl
        try simp only [Act.put, List.getElem_toArray, List.getElem_cons_succ, List.getElem_cons_zero, List.setIfInBounds_toArray, List.set_cons_zero, List.set_cons_succ]
        refine wpAnyH_ready (rs := [1]) (by kernel_rfl) (by simp) ?_
        refine AllReadyH.cons rfl (fun K hK => ?_) AllReadyH.nil
        go_simp
        refine (srev_any s g l k P Pk T S ev wr0 dead _ (HX.out.1.below r0)).mono ?_; rintro x wz ⟨rfl, rfl⟩
        refine hK.out _ _ ?_ (fun r1 => ?_)
        · exact r0
        try simp only [Act.put, List.getElem_toArray, List.getElem_cons_succ, List.getElem_cons_zero, List.setIfInBounds_toArray, List.set_cons_zero, List.set_cons_succ]
        refine wpAnyH_take (i := 4) (v := ?_) rfl (by kernel_rfl) (by kernel_rfl) (by kernel_rfl) (fun _ _ _ h => h) (Or.inl ⟨by rfl, ?_⟩) (by assumption) ?_
        rotate_left
        · intro wS hSw
          (try dsimp only at hSw)
          go_simp
          first | done | with_reducible rfl
        try simp only [Act.put, List.getElem_toArray, List.getElem_cons_succ, List.getElem_cons_zero, List.setIfInBounds_toArray, List.set_cons_zero, List.set_cons_succ]
        refine wpAnyH_take (i := 5) (v := ?_) rfl (by kernel_rfl) (by kernel_rfl) (by kernel_rfl) (fun _ _ _ h => h) (Or.inl ⟨by rfl, ?_⟩) (by assumption) ?_
        rotate_left
        · intro wS hSw
          (try dsimp only at hSw)
          go_simp
          first | done | with_reducible rfl
        try simp only [Act.put, List.getElem_toArray, List.getElem_cons_succ, List.getElem_cons_zero, List.setIfInBounds_toArray, List.set_cons_zero, List.set_cons_succ]
        refine wpAnyH_take (i := 6) (v := undef) rfl (by kernel_rfl) (by kernel_rfl) (by kernel_rfl) (fun _ _ _ h => h) (Or.inr ⟨by rfl, rfl⟩) (by assumption) ?_
        try simp only [Act.put, List.getElem_toArray, List.getElem_cons_succ, List.getElem_cons_zero, List.setIfInBounds_toArray, List.set_cons_zero, List.set_cons_succ]
        refine wpAnyH_take (i := 7) (v := undef) rfl (by kernel_rfl) (by kernel_rfl) (by kernel_rfl) (fun _ _ _ h => h) (Or.inr ⟨by rfl, rfl⟩) (by assumption) ?_
        try simp only [Act.put, List.getElem_toArray, List.getElem_cons_succ, List.getElem_cons_zero, List.setIfInBounds_toArray, List.set_cons_zero, List.set_cons_succ]
        refine wpAnyH_take (i := 8) (v := undef) rfl (by kernel_rfl) (by kernel_rfl) (by kernel_rfl) (fun _ _ _ h => h) (Or.inr ⟨by rfl, rfl⟩) (by assumption) ?_
        try simp only [Act.put, List.getElem_toArray, List.getElem_cons_succ, List.getElem_cons_zero, List.setIfInBounds_toArray, List.set_cons_zero, List.set_cons_succ]
        refine wpAnyH_take (i := 9) (v := undef) rfl (by kernel_rfl) (by kernel_rfl) (by kernel_rfl) (fun _ _ _ h => h) (Or.inr ⟨by rfl, rfl⟩) (by assumption) ?_
        try simp only [Act.put, List.getElem_toArray, List.getElem_cons_succ, List.getElem_cons_zero, List.setIfInBounds_toArray, List.set_cons_zero, List.set_cons_succ]
        refine wpAnyH_take (i := 10) (v := undef) rfl (by kernel_rfl) (by kernel_rfl) (by kernel_rfl) (fun _ _ _ h => h) (Or.inr ⟨by rfl, rfl⟩) (by assumption) ?_
        try simp only [Act.put, List.getElem_toArray, List.getElem_cons_succ, List.getElem_cons_zero, List.setIfInBounds_toArray, List.set_cons_zero, List.set_cons_succ]
        refine wpAnyH_take (i := 11) (v := ?_) rfl (by kernel_rfl) (by kernel_rfl) (by kernel_rfl) (fun _ _ _ h => h) (Or.inl ⟨by rfl, ?_⟩) (by assumption) ?_
        rotate_left
        · intro wS hSw
          (try dsimp only at hSw)
          go_simp
          first | done | with_reducible rfl
        try simp only [Act.put, List.getElem_toArray, List.getElem_cons_succ, List.getElem_cons_zero, List.setIfInBounds_toArray, List.set_cons_zero, List.set_cons_succ]
        refine wpAnyH_done (by kernel_rfl) ?_ _
        have HBE := Lib.hid (HBX.out.trans (r1.mono HBX.out.size))
        clear r0 m0 m1
        go_wp2_with fail
        go_roundw
        case rel => exact ⟨i + 1, HLT.out, by go_num, Lib.hid ⟨fun q hq2 p2 hp2 => by
          rcases Nat.lt_or_ge q i with h1 | h1
          · exact HJ.out.1 q h1 p2 hp2
          · obtain rfl : q = i := by omega
            rw [HP.out] at hp2
            obtain rfl := Option.some.inj hp2
            exact HNE.out, HBE.out⟩⟩
        case measure => simp [intOf]; have := HLT.out; omega
      | true =>
        have hRR : S.rev = R := by simpa using hq
        cases hLL : decide (S.L = L) with
        | false =>
          have HNE : Hid ((⟨R, L⟩ : KV.KSt) ≠ S) := Lib.hid (fun e => of_decide_eq_false hLL (by rw [← e]))
          refine wp_region_held_drew (S := (fun W => Below wx.heap.size wx W)) (by kernel_rfl) ?_ (fun r0 => ?_)
          · exact ⟨rfl, rfl, rfl, Nat.le_refl _, fun _ _ => rfl⟩
          refine wpAnyH_take (i := 0) (v := ?_) rfl (by kernel_rfl) (by kernel_rfl) (by kernel_rfl) (fun _ _ _ h => h) (Or.inl ⟨by rfl, ?_⟩) (by assumption) ?_
          rotate_left
          · intro wS hSw
            (try dsimp only at hSw)
            go_simp
            first | done | with_reducible rfl
          try simp only [Act.put, List.getElem_toArray, List.getElem_cons_succ, List.getElem_cons_zero, List.setIfInBounds_toArray, List.set_cons_zero, List.set_cons_succ]
          refine wpAnyH_take (i := 2) (v := ?_) rfl (by kernel_rfl) (by kernel_rfl) (by kernel_rfl) (fun _ _ _ h => h) (Or.inl ⟨by rfl, ?_⟩) (by assumption) ?_
          rotate_left
          · intro wS hSw
            (try dsimp only at hSw)
            go_simp
            first | done | with_reducible rfl
          try simp only [Act.put, List.getElem_toArray, List.getElem_cons_succ, List.getElem_cons_zero, List.setIfInBounds_toArray, List.set_cons_zero, List.set_cons_succ]
          refine wpAnyH_take (i := 3) (v := ?_) rfl (by kernel_rfl) (by kernel_rfl) (by kernel_rfl) (fun _ _ _ h => h) (Or.inl ⟨by rfl, ?_⟩) (by assumption) ?_
          rotate_left
          · intro wS hSw
            (try dsimp only at hSw)
            have m0 := bcell hSw m0
            have m1 := bcell hSw m1
            go_simp
            first | done | with_reducible rfl
          try simp only [Act.put, List.getElem_toArray, List.getElem_cons_succ, List.getElem_cons_zero, List.setIfInBounds_toArray, List.set_cons_zero, List.set_cons_succ]
          refine wpAnyH_ready (rs := [1]) (by kernel_rfl) (by simp) ?_
          refine AllReadyH.cons rfl (fun K hK => ?_) AllReadyH.nil
          go_simp
          refine (srev_any s g l k P Pk T S ev wr0 dead _ (HX.out.1.below r0)).mono ?_; rintro x wz ⟨rfl, rfl⟩
          refine hK.out _ _ ?_ (fun r1 => ?_)
          · exact r0
          try simp only [Act.put, List.getElem_toArray, List.getElem_cons_succ, List.getElem_cons_zero, List.setIfInBounds_toArray, List.set_cons_zero, List.set_cons_succ]
          refine wpAnyH_take (i := 4) (v := ?_) rfl (by kernel_rfl) (by kernel_rfl) (by kernel_rfl) (fun _ _ _ h => h) (Or.inl ⟨by rfl, ?_⟩) (by assumption) ?_
          rotate_left
          · intro wS hSw
            (try dsimp only at hSw)
            go_simp
            first | done | with_reducible rfl
          try simp only [Act.put, List.getElem_toArray, List.getElem_cons_succ, List.getElem_cons_zero, List.setIfInBounds_toArray, List.set_cons_zero, List.set_cons_succ]
          refine wpAnyH_take (i := 5) (v := ?_) rfl (by kernel_rfl) (by kernel_rfl) (by kernel_rfl) (fun _ _ _ h => h) (Or.inl ⟨by rfl, ?_⟩) (by assumption) ?_
          rotate_left
          · intro wS hSw
            (try dsimp only at hSw)
            go_simp
            first | done | with_reducible rfl
          try simp only [Act.put, List.getElem_toArray, List.getElem_cons_succ, List.getElem_cons_zero, List.setIfInBounds_toArray, List.set_cons_zero, List.set_cons_succ]
          refine wpAnyH_take (i := 6) (v := ?_) rfl (by kernel_rfl) (by kernel_rfl) (by kernel_rfl) (fun _ _ _ h => h) (Or.inl ⟨by rfl, ?_⟩) (by assumption) ?_
          rotate_left
          · intro wS hSw
            (try dsimp only at hSw)
            go_simp
            first | done | with_reducible rfl
          try simp only [Act.put, List.getElem_toArray, List.getElem_cons_succ, List.getElem_cons_zero, List.setIfInBounds_toArray, List.set_cons_zero, List.set_cons_succ]
          refine wpAnyH_take (i := 8) (v := ?_) rfl (by kernel_rfl) (by kernel_rfl) (by kernel_rfl) (fun _ _ _ h => h) (Or.inl ⟨by rfl, ?_⟩) (by assumption) ?_
          rotate_left
          · intro wS hSw
            (try dsimp only at hSw)
            go_simp
            first | done | with_reducible rfl
          try simp only [Act.put, List.getElem_toArray, List.getElem_cons_succ, List.getElem_cons_zero, List.setIfInBounds_toArray, List.set_cons_zero, List.set_cons_succ]
          refine wpAnyH_take (i := 9) (v := ?_) rfl (by kernel_rfl) (by kernel_rfl) (by kernel_rfl) (fun _ _ _ h => h) (Or.inl ⟨by rfl, ?_⟩) (by assumption) ?_
          rotate_left
          · intro wS hSw
            (try dsimp only at hSw)
            have m0 := bcell hSw m0
            have m1 := bcell hSw m1
            go_simp
            first | done | with_reducible rfl
          try simp only [Act.put, List.getElem_toArray, List.getElem_cons_succ, List.getElem_cons_zero, List.setIfInBounds_toArray, List.set_cons_zero, List.set_cons_succ]
          refine wpAnyH_ready (rs := [7]) (by kernel_rfl) (by simp) ?_
          refine AllReadyH.cons rfl (fun K hK => ?_) AllReadyH.nil
          go_simp
          refine (sall_any s g l k P Pk T S ev wr0 dead _ (HX.out.1.below r1) HRI.out.1 HRI.out.2).mono ?_; rintro x w9 ⟨va9, rfl, hra9, hb9⟩
          refine hK.out _ _ ?_ (fun r2 => ?_)
          · exact bel r1 hb9
          try simp only [Act.put, List.getElem_toArray, List.getElem_cons_succ, List.getElem_cons_zero, List.setIfInBounds_toArray, List.set_cons_zero, List.set_cons_succ]
          refine wpAnyH_ready (rs := [10]) (by kernel_rfl) (by simp) ?_
          refine AllReadyH.cons rfl (fun K hK => ?_) AllReadyH.nil
          go_simp
          refine (KV.sameItems_any va9 (.slice ua un uc) S.L L _ (KV.RowE.sees hra9) (HX.out.2.1.below (bel r1 hb9)) (by have := HRI.out.2; unfold maxLen; omega) (by have := HX.out.2.2; unfold maxLen; omega)).mono ?_; rintro x w10 ⟨rfl, hb10⟩
          refine hK.out _ _ ?_ (fun r3 => ?_)
          · exact bel r2 hb10
          try simp only [Act.put, List.getElem_toArray, List.getElem_cons_succ, List.getElem_cons_zero, List.setIfInBounds_toArray, List.set_cons_zero, List.set_cons_succ]
          refine wpAnyH_take (i := 11) (v := ?_) rfl (by kernel_rfl) (by kernel_rfl) (by kernel_rfl) (fun _ _ _ h => h) (Or.inl ⟨by rfl, ?_⟩) (by assumption) ?_
          rotate_left
          · intro wS hSw
            (try dsimp only at hSw)
            go_simp
            first | done | with_reducible rfl
          try simp only [Act.put, List.getElem_toArray, List.getElem_cons_succ, List.getElem_cons_zero, List.setIfInBounds_toArray, List.set_cons_zero, List.set_cons_succ]
          refine wpAnyH_done (by kernel_rfl) ?_ _
          have HBE := Lib.hid (HBX.out.trans (r3.mono HBX.out.size))
          clear r0 m0 m1
          go_wp2_with fail
          go_roundw
          case rel => exact ⟨i + 1, HLT.out, by go_num, Lib.hid ⟨fun q hq2 p2 hp2 => by
            rcases Nat.lt_or_ge q i with h1 | h1
            · exact HJ.out.1 q h1 p2 hp2
            · obtain rfl : q = i := by omega
              rw [HP.out] at hp2
              obtain rfl := Option.some.inj hp2
              exact HNE.out, HBE.out⟩⟩
          case measure => simp [intOf]; have := HLT.out; omega
        | true =>
          have HEQ : Hid ((⟨R, L⟩ : KV.KSt) = S) := Lib.hid (by rw [← hRR, ← of_decide_eq_true hLL])
          refine wp_region_held_drew (S := (fun W => Below wx.heap.size wx W)) (by kernel_rfl) ?_ (fun r0 => ?_)
          · exact ⟨rfl, rfl, rfl, Nat.le_refl _, fun _ _ => rfl⟩
          refine wpAnyH_take (i := 0) (v := ?_) rfl (by kernel_rfl) (by kernel_rfl) (by kernel_rfl) (fun _ _ _ h => h) (Or.inl ⟨by rfl, ?_⟩) (by assumption) ?_
          rotate_left
          · intro wS hSw
            (try dsimp only at hSw)
            go_simp
            first | done | with_reducible rfl
          try simp only [Act.put, List.getElem_toArray, List.getElem_cons_succ, List.getElem_cons_zero, List.setIfInBounds_toArray, List.set_cons_zero, List.set_cons_succ]
          refine wpAnyH_take (i := 2) (v := ?_) rfl (by kernel_rfl) (by kernel_rfl) (by kernel_rfl) (fun _ _ _ h => h) (Or.inl ⟨by rfl, ?_⟩) (by assumption) ?_
          rotate_left
          · intro wS hSw
            (try dsimp only at hSw)
            go_simp
            first | done | with_reducible rfl
          try simp only [Act.put, List.getElem_toArray, List.getElem_cons_succ, List.getElem_cons_zero, List.setIfInBounds_toArray, List.set_cons_zero, List.set_cons_succ]
          refine wpAnyH_take (i := 3) (v := ?_) rfl (by kernel_rfl) (by kernel_rfl) (by kernel_rfl) (fun _ _ _ h => h) (Or.inl ⟨by rfl, ?_⟩) (by assumption) ?_
          rotate_left
          · intro wS hSw
            (try dsimp only at hSw)
            have m0 := bcell hSw m0
            have m1 := bcell hSw m1
            go_simp
            first | done | with_reducible rfl
          try simp only [Act.put, List.getElem_toArray, List.getElem_cons_succ, List.getElem_cons_zero, List.setIfInBounds_toArray, List.set_cons_zero, List.set_cons_succ]
          refine wpAnyH_ready (rs := [1]) (by kernel_rfl) (by simp) ?_
          refine AllReadyH.cons rfl (fun K hK => ?_) AllReadyH.nil
          go_simp
          refine (srev_any s g l k P Pk T S ev wr0 dead _ (HX.out.1.below r0)).mono ?_; rintro x wz ⟨rfl, rfl⟩
          refine hK.out _ _ ?_ (fun r1 => ?_)
          · exact r0
          try simp only [Act.put, List.getElem_toArray, List.getElem_cons_succ, List.getElem_cons_zero, List.setIfInBounds_toArray, List.set_cons_zero, List.set_cons_succ]
          refine wpAnyH_take (i := 4) (v := ?_) rfl (by kernel_rfl) (by kernel_rfl) (by kernel_rfl) (fun _ _ _ h => h) (Or.inl ⟨by rfl, ?_⟩) (by assumption) ?_
          rotate_left
          · intro wS hSw
            (try dsimp only at hSw)
            go_simp
            first | done | with_reducible rfl
          try simp only [Act.put, List.getElem_toArray, List.getElem_cons_succ, List.getElem_cons_zero, List.setIfInBounds_toArray, List.set_cons_zero, List.set_cons_succ]
          refine wpAnyH_take (i := 5) (v := ?_) rfl (by kernel_rfl) (by kernel_rfl) (by kernel_rfl) (fun _ _ _ h => h) (Or.inl ⟨by rfl, ?_⟩) (by assumption) ?_
          rotate_left
          · intro wS hSw
            (try dsimp only at hSw)
            go_simp
            first | done | with_reducible rfl
          try simp only [Act.put, List.getElem_toArray, List.getElem_cons_succ, List.getElem_cons_zero, List.setIfInBounds_toArray, List.set_cons_zero, List.set_cons_succ]
          refine wpAnyH_take (i := 6) (v := ?_) rfl (by kernel_rfl) (by kernel_rfl) (by kernel_rfl) (fun _ _ _ h => h) (Or.inl ⟨by rfl, ?_⟩) (by assumption) ?_
          rotate_left
          · intro wS hSw
            (try dsimp only at hSw)
            go_simp
            first | done | with_reducible rfl
          try simp only [Act.put, List.getElem_toArray, List.getElem_cons_succ, List.getElem_cons_zero, List.setIfInBounds_toArray, List.set_cons_zero, List.set_cons_succ]
          refine wpAnyH_take (i := 8) (v := ?_) rfl (by kernel_rfl) (by kernel_rfl) (by kernel_rfl) (fun _ _ _ h => h) (Or.inl ⟨by rfl, ?_⟩) (by assumption) ?_
          rotate_left
          · intro wS hSw
            (try dsimp only at hSw)
            go_simp
            first | done | with_reducible rfl
          try simp only [Act.put, List.getElem_toArray, List.getElem_cons_succ, List.getElem_cons_zero, List.setIfInBounds_toArray, List.set_cons_zero, List.set_cons_succ]
          refine wpAnyH_take (i := 9) (v := ?_) rfl (by kernel_rfl) (by kernel_rfl) (by kernel_rfl) (fun _ _ _ h => h) (Or.inl ⟨by rfl, ?_⟩) (by assumption) ?_
          rotate_left
          · intro wS hSw
            (try dsimp only at hSw)
            have m0 := bcell hSw m0
            have m1 := bcell hSw m1
            go_simp
            first | done | with_reducible rfl
          try simp only [Act.put, List.getElem_toArray, List.getElem_cons_succ, List.getElem_cons_zero, List.setIfInBounds_toArray, List.set_cons_zero, List.set_cons_succ]
          refine wpAnyH_ready (rs := [7]) (by kernel_rfl) (by simp) ?_
          refine AllReadyH.cons rfl (fun K hK => ?_) AllReadyH.nil
          go_simp
          refine (sall_any s g l k P Pk T S ev wr0 dead _ (HX.out.1.below r1) HRI.out.1 HRI.out.2).mono ?_; rintro x w9 ⟨va9, rfl, hra9, hb9⟩
          refine hK.out _ _ ?_ (fun r2 => ?_)
          · exact bel r1 hb9
          try simp only [Act.put, List.getElem_toArray, List.getElem_cons_succ, List.getElem_cons_zero, List.setIfInBounds_toArray, List.set_cons_zero, List.set_cons_succ]
          refine wpAnyH_ready (rs := [10]) (by kernel_rfl) (by simp) ?_
          refine AllReadyH.cons rfl (fun K hK => ?_) AllReadyH.nil
          go_simp
          refine (KV.sameItems_any va9 (.slice ua un uc) S.L L _ (KV.RowE.sees hra9) (HX.out.2.1.below (bel r1 hb9)) (by have := HRI.out.2; unfold maxLen; omega) (by have := HX.out.2.2; unfold maxLen; omega)).mono ?_; rintro x w10 ⟨rfl, hb10⟩
          refine hK.out _ _ ?_ (fun r3 => ?_)
          · exact bel r2 hb10
          try simp only [Act.put, List.getElem_toArray, List.getElem_cons_succ, List.getElem_cons_zero, List.setIfInBounds_toArray, List.set_cons_zero, List.set_cons_succ]
          refine wpAnyH_take (i := 11) (v := ?_) rfl (by kernel_rfl) (by kernel_rfl) (by kernel_rfl) (fun _ _ _ h => h) (Or.inl ⟨by rfl, ?_⟩) (by assumption) ?_
          rotate_left
          · intro wS hSw
            (try dsimp only at hSw)
            go_simp
            first | done | with_reducible rfl
          try simp only [Act.put, List.getElem_toArray, List.getElem_cons_succ, List.getElem_cons_zero, List.setIfInBounds_toArray, List.set_cons_zero, List.set_cons_succ]
          refine wpAnyH_done (by kernel_rfl) ?_ _
          have HBE := Lib.hid (HBX.out.trans (r3.mono HBX.out.size))
          clear r0 m0 m1
          go_wp2_with fail
          go_ret
          exact ⟨i, rfl, Or.inl ⟨i, (⟨R, L⟩, .slice ua un uc), HP.out, HEQ.out, rfl⟩, HBE.out⟩
    · obtain rfl : i = ls.length := by omega
      go_wp2_with fail
      go_ret
      exact ⟨-1, rfl, Or.inr ⟨rfl, fun p hp => by
        obtain ⟨q, hq, he⟩ := List.getElem_of_mem hp
        exact HJ.out.1 q hq p (by rw [List.getElem?_eq_getElem hq, he])⟩, HJ.out.2⟩
/-- A disk that Open takes as that state, whole. -/
def SureD (n : Nat) (D : DSt) (S : KV.KSt) : Prop := opS D = (0, S) ∧ DFree 3 D ∧ KvG n S ∧ ∀ m x D', AllIs (recsOf (readD D nLog.data.toList).1) (readD D nLog.data.toList).1 m x → settleD D nLog.data.toList (readD D nLog.data.toList).1.length m = (0, D') → GoodS n false ⟨D', m, false⟩ S
theorem SureD.of {n : Nat} {T : WSt} {S : KV.KSt} (h : GoodS n false T S) (hn : n ≤ 100) : SureD n T.D S := by
  have hf := h.free hn
  obtain ⟨h1, h2, h3, hg, ps, hs, hsz⟩ := h
  obtain ⟨o1, o2, o3, o4⟩ := open_shape hs h2
  refine ⟨o1, hf, hg, fun m x D' ha hd => ?_⟩
  rw [o2] at ha
  obtain ⟨-, rfl, -⟩ := AllIs.same _ _ _ _ _ _ _ ha o3
  rw [o4] at hd
  obtain rfl := (Prod.mk.inj hd).2
  exact ⟨rfl, h2, h3, hg, ps, hs, rfl⟩
theorem SureD.mono {n m : Nat} {D : DSt} {S : KV.KSt} (h : SureD n D S) (hm : n ≤ m) : SureD m D S := ⟨h.1, h.2.1, h.2.2.1.mono hm, fun a x D' h1 h2 => (h.2.2.2 a x D' h1 h2).mono hm⟩
theorem sure0 : SureD 0 ⟨[], false, false, 0⟩ ⟨0, []⟩ := SureD.of good0 (by decide)
theorem GoodS.arm {n : Nat} {ar : Bool} {T : WSt} {S : KV.KSt} (h : GoodS n ar T S) (x : Int) : GoodS n true ⟨{ T.D with armed := true, left := x }, T.size, T.dead⟩ S :=
  ⟨h.1, h.2.1, rfl, h.2.2.2.1, h.2.2.2.2⟩
theorem refB_12 : ∀ mw k3 th re ie st mx : Bool, KV.refB mw k3 th re ie st mx ≠ 12 := by decide
/-- A planned operation is never told as lost. -/
theorem plan_code (S : KV.KSt) (o : KV.KOp) : (KV.planK S o).1.code ≠ 12 := by
  unfold KV.planK
  by_cases h1 : o.kind = 1
  · rw [if_pos h1]
    show (KV.getR S.L o.key).1 ≠ 12
    unfold KV.getR
    split <;> simp
  · rw [if_neg h1]
    by_cases h2 : o.kind = 2
    · rw [if_pos h2]
      show (0 : Int) ≠ 12
      decide
    · rw [if_neg h2]
      by_cases h3 : KV.refuse S o = 0
      · rw [if_pos h3]
        show (0 : Int) ≠ 12
        decide
      · rw [if_neg h3]
        exact refB_12 _ _ _ _ _ _ _
/-- A crash: what is left, and at which write the disk is lost. -/
structure CrS where
  kv : Value
  ks : List Int
  at_ : Int
instance : Inhabited CrS := ⟨⟨.slice none 0 0, [], 0⟩⟩
def CrS.Ok (c : CrS) : Prop := (0 ≤ c.at_ ∧ c.at_ ≤ 255) ∧ (∀ x ∈ c.ks, 0 ≤ x ∧ x < 65536) ∧ c.ks.length ≤ maxLen
def SeesCr (w : World) (a : Addr) (c : CrS) : Prop := w.cell? a = some c.kv ∧ w.cell? (a.add 1) = some (.int .u8 c.at_) ∧ SeesU w c.kv c.ks
def ArgCrs (w : World) (v : Value) (cs : List CrS) : Prop :=
  (∃ (ao : Option Addr) (c : Nat), v = .slice ao cs.length c ∧ cs.length ≤ c ∧ (ao = none → cs = []) ∧ ∀ a, ao = some a → ∀ i, i < cs.length → SeesCr w (a.add (i * 2)) (cs.getD i default)) ∧ (∀ c ∈ cs, c.Ok) ∧ cs.length ≤ maxLen
end Go.Proofs.YtbbefakmpmniiaaGreatDoor
