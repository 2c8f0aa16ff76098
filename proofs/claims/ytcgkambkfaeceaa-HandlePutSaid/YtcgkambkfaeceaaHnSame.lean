/- Package virgateref17: whether two rows of counts are the same; how many there are together. -/
import Derived.Test.YtcgkambkfaeceaaHnLaw
namespace Go.Proofs.Ytcgkambkfaeceaa
open Go.RowKit
theorem take_eq_all {L M : CntL} {i : Nat} (hl : L.length = M.length) (h : L.take i = M.take i) (hi : i < L.length) (e : at2 L i = at2 M i) : L.take (i + 1) = M.take (i + 1) := by
  rw [take_snoc hi, take_snoc (by omega), h, e]
set_option maxRecDepth 100000 in
set_option maxHeartbeats 8000000 in
theorem same_any (a b : Value) (L M : CntL) (w : World) (h : SeesC w a L) (h2 : SeesC w b M) (hl : L.length ≤ 1000000) (hl2 : M.length ≤ 1000000) :
    Calls Try.prog 16 #[a, b] w fun e w' => e = .returned (.bool (decide (L = M))) ∧ Below w.heap.size w w' := by
  obtain ⟨ao, c, rfl, hlc, hnil, hc⟩ := h
  obtain ⟨bo, c2, rfl, hlc2, hnil2, hc2⟩ := h2
  by_cases hlen : L.length = M.length
  · have HLN := Lib.hid hlen
    have dl : ((L.length : Int) != (M.length : Int)) = false := by simp [hlen]
    have HC := Lib.hid (And.intro hnil hc)
    have HC2 := Lib.hid (And.intro hnil2 hc2)
    obtain ⟨R, hR⟩ : ∃ R, R = decide (L = M) := ⟨_, rfl⟩
    rw [← hR]
    have HR := Lib.hid hR
    have hM : (M.length : Int) = (L.length : Int) := by omega
    clear hnil hc hnil2 hc2 hR hlen
    go_enter Try.func16, Try.ntmps16
    go_wp2_with fail
    go_loopw [13] (fun j wr => ∃ i : Nat, i ≤ L.length ∧ j = .int .i64 i ∧ Hid (L.take i = M.take i) ∧ Hid (Below w.heap.size w wr)) (fun j _ => L.length - (intOf j).toNat)
    case atStart => exact ⟨0, Nat.zero_le _, rfl, Lib.hid rfl, Lib.hid (Below.refl _ _)⟩
    case round =>
      obtain ⟨i, hi, rfl, HE, HBw⟩ := hrel
      by_cases hlt : i < L.length
      · have hlt2 : i < M.length := by have := HLN.out; omega
        obtain ⟨x, rfl⟩ : ∃ x, ao = some x := by
          cases ao with
          | none => rw [HC.out.1 rfl] at hlt; simp at hlt
          | some x => exact ⟨x, rfl⟩
        obtain ⟨y, rfl⟩ : ∃ y, bo = some y := by
          cases bo with
          | none => rw [HC2.out.1 rfl] at hlt2; simp at hlt2
          | some y => exact ⟨y, rfl⟩
        obtain ⟨q0, q1⟩ := HC.out.2 x rfl i _ (at2_get hlt)
        obtain ⟨z0, z1⟩ := HC2.out.2 y rfl i _ (at2_get hlt2)
        have q0 := bcell HBw.out q0
        have q1 := ofs1 (bcell HBw.out q1)
        have z0 := bcell HBw.out z0
        have z1 := ofs1 (bcell HBw.out z1)
        have b0 : (0 : Int) ≤ (i : Int) := by omega
        have b1 : (i : Int) < (L.length : Int) := by omega
        have b2 : (i : Int) < (M.length : Int) := by omega
        have d1 : decide ((i : Int) < (L.length : Int)) = true := by simp; omega
        have HT : Hid (at2 L i = at2 M i → L.take (i + 1) = M.take (i + 1)) := Lib.hid (take_eq_all HLN.out HE.out hlt)
        have HNE : Hid (at2 L i ≠ at2 M i → R = false) := Lib.hid (fun h => by
          rw [HR.out]
          exact decide_eq_false (fun e => h (by rw [e])))
        have HLT := Lib.hid hlt
        generalize at2 L i = p at q0 q1 HT HNE
        generalize at2 M i = q at z0 z1 HT HNE
        obtain ⟨px, pn⟩ := p
        obtain ⟨qx, qn⟩ := q
        simp only [] at q0 q1 z0 z1
        by_cases hx : px = qx
        · by_cases hn : pn = qn
          · have HN := Lib.hid (HT.out (by rw [hx, hn]))
            subst hx hn
            clear HT HNE hlt hlt2
            go_upto_region 6 with fail
            refine wp_region_held_drew (S := (fun W => Below wr.heap.size wr W)) (by kernel_rfl) ?_ (fun r0 => ?_)
            · exact ⟨rfl, rfl, rfl, Nat.le_refl _, fun _ _ => rfl⟩
            refine wpAnyH_take (i := 0) (v := ?_) rfl (by kernel_rfl) (by kernel_rfl) (by kernel_rfl) (fun _ _ _ h => h) (Or.inl ⟨by rfl, ?_⟩) (by assumption) ?_
            rotate_left
            · intro wS hSw
              (try dsimp only at hSw)
              go_simp
              first | done | with_reducible rfl
            try simp only [Act.put, List.getElem_toArray, List.getElem_cons_succ, List.getElem_cons_zero, List.setIfInBounds_toArray, List.set_cons_zero, List.set_cons_succ]
            refine wpAnyH_take (i := 1) (v := ?_) rfl (by kernel_rfl) (by kernel_rfl) (by kernel_rfl) (fun _ _ _ h => h) (Or.inl ⟨by rfl, ?_⟩) (by assumption) ?_
            rotate_left
            · intro wS hSw
              (try dsimp only at hSw)
              go_simp
              first | done | with_reducible rfl
            try simp only [Act.put, List.getElem_toArray, List.getElem_cons_succ, List.getElem_cons_zero, List.setIfInBounds_toArray, List.set_cons_zero, List.set_cons_succ]
            refine wpAnyH_take (i := 2) (v := ?_) rfl (by kernel_rfl) (by kernel_rfl) (by kernel_rfl) (fun _ _ _ h => h) (Or.inl ⟨by rfl, ?_⟩) (by assumption) ?_
            rotate_left
            · intro wS hSw
              (try dsimp only at hSw)
              go_simp
              first | done | with_reducible rfl
            try simp only [Act.put, List.getElem_toArray, List.getElem_cons_succ, List.getElem_cons_zero, List.setIfInBounds_toArray, List.set_cons_zero, List.set_cons_succ]
            refine wpAnyH_take (i := 3) (v := ?_) rfl (by kernel_rfl) (by kernel_rfl) (by kernel_rfl) (fun _ _ _ h => h) (Or.inl ⟨by rfl, ?_⟩) (by assumption) ?_
            rotate_left
            · intro wS hSw
              (try dsimp only at hSw)
              have q0 := bcell hSw q0
              have q1 := bcell hSw q1
              have z0 := bcell hSw z0
              have z1 := bcell hSw z1
              go_simp
              first | done | with_reducible rfl
            try simp only [Act.put, List.getElem_toArray, List.getElem_cons_succ, List.getElem_cons_zero, List.setIfInBounds_toArray, List.set_cons_zero, List.set_cons_succ]
            refine wpAnyH_take (i := 4) (v := ?_) rfl (by kernel_rfl) (by kernel_rfl) (by kernel_rfl) (fun _ _ _ h => h) (Or.inl ⟨by rfl, ?_⟩) (by assumption) ?_
            rotate_left
            · intro wS hSw
              (try dsimp only at hSw)
              go_simp
              first | done | with_reducible rfl
            try simp only [Act.put, List.getElem_toArray, List.getElem_cons_succ, List.getElem_cons_zero, List.setIfInBounds_toArray, List.set_cons_zero, List.set_cons_succ]
            refine wpAnyH_take (i := 5) (v := ?_) rfl (by kernel_rfl) (by kernel_rfl) (by kernel_rfl) (fun _ _ _ h => h) (Or.inl ⟨by rfl, ?_⟩) (by assumption) ?_
            rotate_left
            · intro wS hSw
              (try dsimp only at hSw)
              go_simp
              first | done | with_reducible rfl
            try simp only [Act.put, List.getElem_toArray, List.getElem_cons_succ, List.getElem_cons_zero, List.setIfInBounds_toArray, List.set_cons_zero, List.set_cons_succ]
            refine wpAnyH_take (i := 6) (v := ?_) rfl (by kernel_rfl) (by kernel_rfl) (by kernel_rfl) (fun _ _ _ h => h) (Or.inl ⟨by rfl, ?_⟩) (by assumption) ?_
            rotate_left
            · intro wS hSw
              (try dsimp only at hSw)
              go_simp
              first | done | with_reducible rfl
            try simp only [Act.put, List.getElem_toArray, List.getElem_cons_succ, List.getElem_cons_zero, List.setIfInBounds_toArray, List.set_cons_zero, List.set_cons_succ]
            refine wpAnyH_take (i := 7) (v := ?_) rfl (by kernel_rfl) (by kernel_rfl) (by kernel_rfl) (fun _ _ _ h => h) (Or.inl ⟨by rfl, ?_⟩) (by assumption) ?_
            rotate_left
            · intro wS hSw
              (try dsimp only at hSw)
              have q0 := bcell hSw q0
              have q1 := bcell hSw q1
              have z0 := bcell hSw z0
              have z1 := bcell hSw z1
              go_simp
              first | done | with_reducible rfl
            try simp only [Act.put, List.getElem_toArray, List.getElem_cons_succ, List.getElem_cons_zero, List.setIfInBounds_toArray, List.set_cons_zero, List.set_cons_succ]
            refine wpAnyH_take (i := 8) (v := ?_) rfl (by kernel_rfl) (by kernel_rfl) (by kernel_rfl) (fun _ _ _ h => h) (Or.inl ⟨by rfl, ?_⟩) (by assumption) ?_
            rotate_left
            · intro wS hSw
              (try dsimp only at hSw)
              go_simp
              first | done | with_reducible rfl
            try simp only [Act.put, List.getElem_toArray, List.getElem_cons_succ, List.getElem_cons_zero, List.setIfInBounds_toArray, List.set_cons_zero, List.set_cons_succ]
            refine wpAnyH_done (by kernel_rfl) ?_ _
            have HB1 := Lib.hid (bel HBw.out r0)
            clear q0 q1 z0 z1
            go_wp2_with fail
            go_roundw
            case rel => exact ⟨i + 1, HLT.out, by go_num, HN, HB1⟩
            case measure => simp [intOf]; have := HLT.out; omega
          · have HN := Lib.hid (HNE.out (by intro e; exact hn (by cases e; rfl)))
            have dn : (pn == qn) = false := by simpa using hn
            subst hx
            clear HT HNE hlt hlt2
            go_upto_region 6 with fail
            refine wp_region_held_drew (S := (fun W => Below wr.heap.size wr W)) (by kernel_rfl) ?_ (fun r0 => ?_)
            · exact ⟨rfl, rfl, rfl, Nat.le_refl _, fun _ _ => rfl⟩
            refine wpAnyH_take (i := 0) (v := ?_) rfl (by kernel_rfl) (by kernel_rfl) (by kernel_rfl) (fun _ _ _ h => h) (Or.inl ⟨by rfl, ?_⟩) (by assumption) ?_
            rotate_left
            · intro wS hSw
              (try dsimp only at hSw)
              go_simp
              first | done | with_reducible rfl
            try simp only [Act.put, List.getElem_toArray, List.getElem_cons_succ, List.getElem_cons_zero, List.setIfInBounds_toArray, List.set_cons_zero, List.set_cons_succ]
            refine wpAnyH_take (i := 1) (v := ?_) rfl (by kernel_rfl) (by kernel_rfl) (by kernel_rfl) (fun _ _ _ h => h) (Or.inl ⟨by rfl, ?_⟩) (by assumption) ?_
            rotate_left
            · intro wS hSw
              (try dsimp only at hSw)
              go_simp
              first | done | with_reducible rfl
            try simp only [Act.put, List.getElem_toArray, List.getElem_cons_succ, List.getElem_cons_zero, List.setIfInBounds_toArray, List.set_cons_zero, List.set_cons_succ]
            refine wpAnyH_take (i := 2) (v := ?_) rfl (by kernel_rfl) (by kernel_rfl) (by kernel_rfl) (fun _ _ _ h => h) (Or.inl ⟨by rfl, ?_⟩) (by assumption) ?_
            rotate_left
            · intro wS hSw
              (try dsimp only at hSw)
              go_simp
              first | done | with_reducible rfl
            try simp only [Act.put, List.getElem_toArray, List.getElem_cons_succ, List.getElem_cons_zero, List.setIfInBounds_toArray, List.set_cons_zero, List.set_cons_succ]
            refine wpAnyH_take (i := 3) (v := ?_) rfl (by kernel_rfl) (by kernel_rfl) (by kernel_rfl) (fun _ _ _ h => h) (Or.inl ⟨by rfl, ?_⟩) (by assumption) ?_
            rotate_left
            · intro wS hSw
              (try dsimp only at hSw)
              have q0 := bcell hSw q0
              have q1 := bcell hSw q1
              have z0 := bcell hSw z0
              have z1 := bcell hSw z1
              go_simp
              first | done | with_reducible rfl
            try simp only [Act.put, List.getElem_toArray, List.getElem_cons_succ, List.getElem_cons_zero, List.setIfInBounds_toArray, List.set_cons_zero, List.set_cons_succ]
            refine wpAnyH_take (i := 4) (v := ?_) rfl (by kernel_rfl) (by kernel_rfl) (by kernel_rfl) (fun _ _ _ h => h) (Or.inl ⟨by rfl, ?_⟩) (by assumption) ?_
            rotate_left
            · intro wS hSw
              (try dsimp only at hSw)
              go_simp
              first | done | with_reducible rfl
            try simp only [Act.put, List.getElem_toArray, List.getElem_cons_succ, List.getElem_cons_zero, List.setIfInBounds_toArray, List.set_cons_zero, List.set_cons_succ]
            refine wpAnyH_take (i := 5) (v := ?_) rfl (by kernel_rfl) (by kernel_rfl) (by kernel_rfl) (fun _ _ _ h => h) (Or.inl ⟨by rfl, ?_⟩) (by assumption) ?_
            rotate_left
            · intro wS hSw
              (try dsimp only at hSw)
              go_simp
              first | done | with_reducible rfl
            try simp only [Act.put, List.getElem_toArray, List.getElem_cons_succ, List.getElem_cons_zero, List.setIfInBounds_toArray, List.set_cons_zero, List.set_cons_succ]
            refine wpAnyH_take (i := 6) (v := ?_) rfl (by kernel_rfl) (by kernel_rfl) (by kernel_rfl) (fun _ _ _ h => h) (Or.inl ⟨by rfl, ?_⟩) (by assumption) ?_
            rotate_left
            · intro wS hSw
              (try dsimp only at hSw)
              go_simp
              first | done | with_reducible rfl
            try simp only [Act.put, List.getElem_toArray, List.getElem_cons_succ, List.getElem_cons_zero, List.setIfInBounds_toArray, List.set_cons_zero, List.set_cons_succ]
            refine wpAnyH_take (i := 7) (v := ?_) rfl (by kernel_rfl) (by kernel_rfl) (by kernel_rfl) (fun _ _ _ h => h) (Or.inl ⟨by rfl, ?_⟩) (by assumption) ?_
            rotate_left
            · intro wS hSw
              (try dsimp only at hSw)
              have q0 := bcell hSw q0
              have q1 := bcell hSw q1
              have z0 := bcell hSw z0
              have z1 := bcell hSw z1
              go_simp
              first | done | with_reducible rfl
            try simp only [Act.put, List.getElem_toArray, List.getElem_cons_succ, List.getElem_cons_zero, List.setIfInBounds_toArray, List.set_cons_zero, List.set_cons_succ]
            refine wpAnyH_take (i := 8) (v := ?_) rfl (by kernel_rfl) (by kernel_rfl) (by kernel_rfl) (fun _ _ _ h => h) (Or.inl ⟨by rfl, ?_⟩) (by assumption) ?_
            rotate_left
            · intro wS hSw
              (try dsimp only at hSw)
              go_simp
              first | done | with_reducible rfl
            try simp only [Act.put, List.getElem_toArray, List.getElem_cons_succ, List.getElem_cons_zero, List.setIfInBounds_toArray, List.set_cons_zero, List.set_cons_succ]
            refine wpAnyH_done (by kernel_rfl) ?_ _
            have HB1 := Lib.hid (bel HBw.out r0)
            clear q0 q1 z0 z1
            go_wp2_with fail
            go_ret
            exact ⟨by rw [HN.out]; rfl, HB1.out⟩
        · have HN := Lib.hid (HNE.out (by intro e; exact hx (by cases e; rfl)))
          have dx : (px == qx) = false := by simpa using hx
          clear HT HNE hlt hlt2
          go_upto_region 6 with fail
          refine wp_region_held_drew (S := (fun W => Below wr.heap.size wr W)) (by kernel_rfl) ?_ (fun r0 => ?_)
          · exact ⟨rfl, rfl, rfl, Nat.le_refl _, fun _ _ => rfl⟩
          refine wpAnyH_take (i := 0) (v := ?_) rfl (by kernel_rfl) (by kernel_rfl) (by kernel_rfl) (fun _ _ _ h => h) (Or.inl ⟨by rfl, ?_⟩) (by assumption) ?_
          rotate_left
          · intro wS hSw
            (try dsimp only at hSw)
            go_simp
            first | done | with_reducible rfl
          try simp only [Act.put, List.getElem_toArray, List.getElem_cons_succ, List.getElem_cons_zero, List.setIfInBounds_toArray, List.set_cons_zero, List.set_cons_succ]
          refine wpAnyH_take (i := 1) (v := ?_) rfl (by kernel_rfl) (by kernel_rfl) (by kernel_rfl) (fun _ _ _ h => h) (Or.inl ⟨by rfl, ?_⟩) (by assumption) ?_
          rotate_left
          · intro wS hSw
            (try dsimp only at hSw)
            go_simp
            first | done | with_reducible rfl
          try simp only [Act.put, List.getElem_toArray, List.getElem_cons_succ, List.getElem_cons_zero, List.setIfInBounds_toArray, List.set_cons_zero, List.set_cons_succ]
          refine wpAnyH_take (i := 2) (v := ?_) rfl (by kernel_rfl) (by kernel_rfl) (by kernel_rfl) (fun _ _ _ h => h) (Or.inl ⟨by rfl, ?_⟩) (by assumption) ?_
          rotate_left
          · intro wS hSw
            (try dsimp only at hSw)
            go_simp
            first | done | with_reducible rfl
          try simp only [Act.put, List.getElem_toArray, List.getElem_cons_succ, List.getElem_cons_zero, List.setIfInBounds_toArray, List.set_cons_zero, List.set_cons_succ]
          refine wpAnyH_take (i := 3) (v := ?_) rfl (by kernel_rfl) (by kernel_rfl) (by kernel_rfl) (fun _ _ _ h => h) (Or.inl ⟨by rfl, ?_⟩) (by assumption) ?_
          rotate_left
          · intro wS hSw
            (try dsimp only at hSw)
            have q0 := bcell hSw q0
            have q1 := bcell hSw q1
            have z0 := bcell hSw z0
            have z1 := bcell hSw z1
            go_simp
            first | done | with_reducible rfl
          try simp only [Act.put, List.getElem_toArray, List.getElem_cons_succ, List.getElem_cons_zero, List.setIfInBounds_toArray, List.set_cons_zero, List.set_cons_succ]
          refine wpAnyH_take (i := 4) (v := ?_) rfl (by kernel_rfl) (by kernel_rfl) (by kernel_rfl) (fun _ _ _ h => h) (Or.inl ⟨by rfl, ?_⟩) (by assumption) ?_
          rotate_left
          · intro wS hSw
            (try dsimp only at hSw)
            go_simp
            first | done | with_reducible rfl
          try simp only [Act.put, List.getElem_toArray, List.getElem_cons_succ, List.getElem_cons_zero, List.setIfInBounds_toArray, List.set_cons_zero, List.set_cons_succ]
          refine wpAnyH_take (i := 5) (v := ?_) rfl (by kernel_rfl) (by kernel_rfl) (by kernel_rfl) (fun _ _ _ h => h) (Or.inl ⟨by rfl, ?_⟩) (by assumption) ?_
          rotate_left
          · intro wS hSw
            (try dsimp only at hSw)
            go_simp
            first | done | with_reducible rfl
          try simp only [Act.put, List.getElem_toArray, List.getElem_cons_succ, List.getElem_cons_zero, List.setIfInBounds_toArray, List.set_cons_zero, List.set_cons_succ]
          refine wpAnyH_take (i := 6) (v := ?_) rfl (by kernel_rfl) (by kernel_rfl) (by kernel_rfl) (fun _ _ _ h => h) (Or.inl ⟨by rfl, ?_⟩) (by assumption) ?_
          rotate_left
          · intro wS hSw
            (try dsimp only at hSw)
            go_simp
            first | done | with_reducible rfl
          try simp only [Act.put, List.getElem_toArray, List.getElem_cons_succ, List.getElem_cons_zero, List.setIfInBounds_toArray, List.set_cons_zero, List.set_cons_succ]
          refine wpAnyH_take (i := 7) (v := ?_) rfl (by kernel_rfl) (by kernel_rfl) (by kernel_rfl) (fun _ _ _ h => h) (Or.inl ⟨by rfl, ?_⟩) (by assumption) ?_
          rotate_left
          · intro wS hSw
            (try dsimp only at hSw)
            have q0 := bcell hSw q0
            have q1 := bcell hSw q1
            have z0 := bcell hSw z0
            have z1 := bcell hSw z1
            go_simp
            first | done | with_reducible rfl
          try simp only [Act.put, List.getElem_toArray, List.getElem_cons_succ, List.getElem_cons_zero, List.setIfInBounds_toArray, List.set_cons_zero, List.set_cons_succ]
          refine wpAnyH_take (i := 8) (v := ?_) rfl (by kernel_rfl) (by kernel_rfl) (by kernel_rfl) (fun _ _ _ h => h) (Or.inl ⟨by rfl, ?_⟩) (by assumption) ?_
          rotate_left
          · intro wS hSw
            (try dsimp only at hSw)
            go_simp
            first | done | with_reducible rfl
          try simp only [Act.put, List.getElem_toArray, List.getElem_cons_succ, List.getElem_cons_zero, List.setIfInBounds_toArray, List.set_cons_zero, List.set_cons_succ]
          refine wpAnyH_done (by kernel_rfl) ?_ _
          have HB1 := Lib.hid (bel HBw.out r0)
          clear q0 q1 z0 z1
          go_wp2_with fail
          go_ret
          exact ⟨by rw [HN.out]; rfl, HB1.out⟩
      · obtain rfl : i = L.length := by omega
        have d1 : decide ((L.length : Int) < (L.length : Int)) = false := by simp
        have HV : Hid (R = true) := Lib.hid (by
          have := HE.out
          rw [List.take_length, HLN.out, List.take_length] at this
          rw [HR.out]
          exact decide_eq_true this)
        clear hM
        go_wp2_with fail
        go_ret
        exact ⟨by rw [HV.out]; rfl, HBw.out⟩
  · have dl : ((L.length : Int) != (M.length : Int)) = true := by simp; omega
    have HV : Hid (decide (L = M) = false) := Lib.hid (decide_eq_false (fun e => hlen (by rw [e])))
    rw [HV.out]
    clear hc hc2
    go_enter Try.func16, Try.ntmps16
    go_wp2_with fail
    go_ret
    exact ⟨rfl, Below.refl _ _⟩
theorem total_snoc {L : CntL} {i : Nat} (h : i < L.length) : totalH (L.take (i + 1)) = totalH (L.take i) + (at2 L i).2 := by
  unfold totalH
  rw [take_snoc h, List.map_append, List.sum_append]
  simp
theorem total_bd {L : CntL} (h : ∀ p ∈ L, 0 ≤ p.2 ∧ p.2 ≤ 65535) (hl : L.length ≤ 4000) : 0 ≤ totalH L ∧ totalH L ≤ 65535 * 4000 := by
  have key : 0 ≤ totalH L ∧ totalH L ≤ 65535 * (L.length : Int) := by
    clear hl
    induction L with
    | nil => exact ⟨by decide, by decide⟩
    | cons p L ih =>
      obtain ⟨k1, k2⟩ := ih (fun q hq => h q (by simp [hq]))
      have := h p (by simp)
      have e : totalH (p :: L) = p.2 + totalH L := by unfold totalH; simp
      rw [e, List.length_cons]
      omega
  omega
set_option maxRecDepth 100000 in
set_option maxHeartbeats 4000000 in
theorem total_any (v : Value) (L : CntL) (w : World) (h : SeesC w v L) (hb : ∀ p ∈ L, 0 ≤ p.2 ∧ p.2 ≤ 65535) (hl : L.length ≤ 4000) :
    Calls Try.prog 17 #[hnV v] w fun e w' => e = .returned (.int .i64 (totalH L)) ∧ Below w.heap.size w w' := by
  obtain ⟨W, hW⟩ : ∃ W, W = w.alloc (hnO v) := ⟨_, rfl⟩
  have hb0 : Below w.heap.size w W := by rw [hW]; exact belNew _ _
  have hA : W.heap[w.heap.size]? = some (hnO v) := by rw [hW]; exact heap_new w _
  obtain ⟨ao, c, rfl, hlc, hnil, hc⟩ := h.below hb0
  have HW := Lib.hid hW
  have HC := Lib.hid (And.intro hnil hc)
  have HB0 := Lib.hid hb0
  have HBD := Lib.hid hb
  have HLL := Lib.hid hl
  have c0 := hcell hA
  obtain ⟨R, hR⟩ : ∃ R, R = totalH L := ⟨_, rfl⟩
  have HR := Lib.hid hR
  rw [← hR]
  clear hW hnil hc hb0 hA h hR hb
  go_enter Try.func17, Try.ntmps17
  go_upto_region 1 with fail
  change Code.wp _ _ _ _ (w.alloc (hnO (.slice ao L.length c)))
  rw [← HW.out]
  clear HW
  go_wp2_with fail
  go_loopw [3, 9] (fun u j wr => ∃ (i : Nat) (t : Int), i ≤ L.length ∧ j = .int .i64 i ∧ u = .int .i64 t ∧ Hid (t = totalH (L.take i)) ∧ Hid (Below W.heap.size W wr)) (fun _ j _ => L.length - (intOf j).toNat)
  case atStart => exact ⟨0, 0, Nat.zero_le _, rfl, rfl, Lib.hid rfl, Lib.hid (Below.refl _ _)⟩
  case round =>
    obtain ⟨i, t, hi, rfl, rfl, HT, HBw⟩ := hrel
    by_cases hlt : i < L.length
    · obtain ⟨a, rfl⟩ : ∃ a, ao = some a := by
        cases ao with
        | none => rw [HC.out.1 rfl] at hlt; simp at hlt
        | some a => exact ⟨a, rfl⟩
      obtain ⟨q0, q1⟩ := HC.out.2 a rfl i _ (at2_get hlt)
      have q0 := bcell HBw.out q0
      have q1 := ofs1 (bcell HBw.out q1)
      have b0 : (0 : Int) ≤ (i : Int) := by omega
      have b1 : (i : Int) < (L.length : Int) := by omega
      have d1 : decide ((i : Int) < (L.length : Int)) = true := by simp; omega
      have HS := Lib.hid (total_snoc hlt)
      have HLT := Lib.hid hlt
      have ht := total_bd (L := L.take i) (fun p hp => HBD.out p (List.mem_of_mem_take hp)) (by rw [List.length_take]; omega)
      have hp := HBD.out _ (List.mem_of_getElem? (at2_get hlt))
      rw [← HT.out] at ht
      generalize at2 L i = p at q0 q1 HS hp
      obtain ⟨px, pn⟩ := p
      simp only [] at q0 q1 HS hp
      have hw : IntKind.i64.wrap (t + pn) = t + pn := IntWalk.i64_in _ (by omega)
      clear ht hp
      have HB1 := Lib.hid (belAlloc HBw.out (cntO (px, pn) 50))
      go_wp2_with fail
      clear q0 q1
      go_roundw
      case rel => exact ⟨i + 1, t + pn, HLT.out, by go_num, rfl, Lib.hid (by rw [HS.out, HT.out]), HB1⟩
      case measure => simp [intOf]; have := HLT.out; omega
    · obtain rfl : i = L.length := by omega
      have d1 : decide ((L.length : Int) < (L.length : Int)) = false := by simp
      have HV : Hid (t = R) := Lib.hid (by rw [HT.out, HR.out, List.take_length])
      go_wp2_with fail
      go_ret
      exact ⟨by rw [← HV.out]; rfl, HB0.out.trans (HBw.out.mono HB0.out.size)⟩
end Go.Proofs.Ytcgkambkfaeceaa
