/- Joined: BkW BkX. -/
import Derived.Test.YtgodmnpcedfdcaaGreatBkV
import Derived.ChangeKeysEq
namespace Go.Proofs.YtgodmnpcedfdcaaGreat
section
open Go.RowKit
theorem get_getD {l : List Int} {i : Nat} (h : i < l.length) : l[i]? = some (l.getD i 0) := by
  rw [List.getD_eq_getElem?_getD, List.getElem?_eq_getElem h]; rfl
theorem neqA (p q : PA) (w : World) : (binOp .neq 55 (atV p) (atV q)).run Tryz.prog w = .ok (.bool (!decide (p = q))) w := by
  have h1 := eqlA p q w
  rw [run_eql_struct] at h1
  rw [run_neq_struct]
  cases h2 : (Op.equalIn 10000 55 (atV p) (atV q)).run Tryz.prog w with
  | ok r w1 =>
    rw [h2] at h1
    simp only [Result.andThen_ok, Result.ok.injEq, Value.bool.injEq] at h1 ⊢
    obtain ⟨rfl, rfl⟩ := h1
    exact ⟨rfl, rfl⟩
  | halt x w1 =>
    rw [h2] at h1
    simp [Result.andThen] at h1
set_option maxRecDepth 100000 in
set_option maxHeartbeats 8000000 in
theorem equalU_any (a b : Value) (L M : List Int) (w : World) (h : Sees w a L) (h2 : Sees w b M) (hl : L.length ≤ maxLen) (_ : M.length ≤ maxLen) :
    Calls Tryz.prog 41 #[a, b] w fun e w' => e = .returned (.bool (decide (L = M))) ∧ Below w.heap.size w w' := by
  have HS1 := Lib.hid h
  have HS2 := Lib.hid h2
  obtain ⟨ao, c, rfl, hlc, hnil, hc⟩ := h
  obtain ⟨bo, c2, rfl, hlc2, hnil2, hc2⟩ := h2
  have hll : L.length ≤ 9223372036854775807 := by unfold maxLen at hl; omega
  by_cases hlen : L.length = M.length
  · have HLN := Lib.hid hlen
    have dl : ((L.length : Int) != (M.length : Int)) = false := by simp [hlen]
    have dl2 : ((L.length : Int) == (M.length : Int)) = true := by simp [hlen]
    have HNL := Lib.hid (And.intro hnil hnil2)
    obtain ⟨R, hR⟩ : ∃ R, R = decide (L = M) := ⟨_, rfl⟩
    rw [← hR]
    have HR := Lib.hid hR
    clear hnil hc hnil2 hc2 hR hl
    go_enter Tryz.func41, Tryz.ntmps41
    go_wp2_with fail
    go_loopw [13] (fun j wr => ∃ i : Nat, i ≤ L.length ∧ j = .int .i64 i ∧ Hid (L.take i = M.take i) ∧ Hid (Below w.heap.size w wr)) (fun j _ => L.length - (intOf j).toNat)
    case atStart => exact ⟨0, Nat.zero_le _, rfl, Lib.hid rfl, Lib.hid (Below.refl _ _)⟩
    case round =>
      obtain ⟨i, hi, rfl, HE, HBw⟩ := hrel
      by_cases hlt : i < L.length
      · have hlt2 : i < M.length := by have := HLN.out; omega
        obtain ⟨x, rfl⟩ : ∃ x, ao = some x := by
          cases ao with
          | none => rw [HNL.out.1 rfl] at hlt; simp at hlt
          | some x => exact ⟨x, rfl⟩
        obtain ⟨y, rfl⟩ : ∃ y, bo = some y := by
          cases bo with
          | none => rw [HNL.out.2 rfl] at hlt2; simp at hlt2
          | some y => exact ⟨y, rfl⟩
        obtain ⟨ao', ac', e0, -, -, hcc⟩ := HS1.out.keep HBw.out
        obtain ⟨rfl, rfl⟩ : some x = ao' ∧ c = ac' := by cases e0; exact ⟨rfl, rfl⟩
        obtain ⟨bo', bc', e1, -, -, hcc2⟩ := HS2.out.keep HBw.out
        obtain ⟨rfl, rfl⟩ : some y = bo' ∧ c2 = bc' := by cases e1; exact ⟨rfl, rfl⟩
        have q0 := hcc x rfl i hlt
        have z0 := hcc2 y rfl i hlt2
        have b0 : (0 : Int) ≤ (i : Int) := by omega
        have b1 : (i : Int) < (L.length : Int) := by omega
        have b2 : (i : Int) < (M.length : Int) := by omega
        have d1 : decide ((i : Int) < (L.length : Int)) = true := by simp; omega
        have HT : Hid (L.getD i 0 = M.getD i 0 → L.take (i + 1) = M.take (i + 1)) := Lib.hid (fun e => by
          rw [List.take_add_one, List.take_add_one, HE.out, get_getD hlt, get_getD hlt2, e])
        have HNE : Hid (L.getD i 0 ≠ M.getD i 0 → R = false) := Lib.hid (fun h => by
          rw [HR.out]
          exact decide_eq_false (fun e => h (by rw [e])))
        have HLT := Lib.hid hlt
        clear hcc hcc2 e0 e1
        generalize L.getD i 0 = p at *
        generalize M.getD i 0 = q at *
        clear hlt2
        by_cases hx : p = q
        · have HN := Lib.hid (HT.out hx)
          have dn : (p != p) = false := by simp
          have dn2 : (p == p) = true := by simp
          subst hx
          clear HT HNE hlt
          go_upto_region 6 with fail
          refine wp_region_held_drew (S := (fun W => Below wr.heap.size wr W)) (by kernel_rfl) ?_ (fun r0 => ?_)
          · exact ⟨rfl, rfl, rfl, Nat.le_refl _, fun _ _ => rfl⟩
          refine wpAnyH_take (i := 0) (v := ?_) rfl (by kernel_rfl) (by kernel_rfl) (by kernel_rfl) (fun _ _ _ h => h) (Or.inl ⟨by rfl, ?_⟩) (by assumption) ?_
          rotate_left
          · intro wS hSw
            (try dsimp only at hSw)
            go_simp
            first | done | with_reducible rfl
          try simp only [Act.put, List.getElem_toArray, List.getElem_cons_zero, List.setIfInBounds_toArray, List.set_cons_zero, List.set_cons_succ]
          refine wpAnyH_take (i := 1) (v := ?_) rfl (by kernel_rfl) (by kernel_rfl) (by kernel_rfl) (fun _ _ _ h => h) (Or.inl ⟨by rfl, ?_⟩) (by assumption) ?_
          rotate_left
          · intro wS hSw
            (try dsimp only at hSw)
            go_simp
            first | done | with_reducible rfl
          try simp only [Act.put, List.getElem_toArray, List.getElem_cons_succ, List.getElem_cons_zero, List.setIfInBounds_toArray, List.set_cons_zero, List.set_cons_succ]
          refine wpAnyH_take (i := 2) (v := ?_) rfl (by kernel_rfl) (by kernel_rfl) (by kernel_rfl) (fun _ _ _ h => h) (Or.inl ⟨by rfl, ?_⟩) (by assumption) ?_
          rotate_left
          · intro wS hSw
            (try dsimp only at hSw)
            go_simp
            first | done | with_reducible rfl
          try simp only [Act.put, List.getElem_toArray, List.getElem_cons_succ, List.getElem_cons_zero, List.setIfInBounds_toArray, List.set_cons_zero, List.set_cons_succ]
          refine wpAnyH_take (i := 3) (v := ?_) rfl (by kernel_rfl) (by kernel_rfl) (by kernel_rfl) (fun _ _ _ h => h) (Or.inl ⟨by rfl, ?_⟩) (by assumption) ?_
          rotate_left
          · intro wS hSw
            (try dsimp only at hSw)
            have q0 := bcell hSw q0
            have z0 := bcell hSw z0
            go_simp
            first | done | with_reducible rfl
          try simp only [Act.put, List.getElem_toArray, List.getElem_cons_succ, List.getElem_cons_zero, List.setIfInBounds_toArray, List.set_cons_zero, List.set_cons_succ]
          refine wpAnyH_take (i := 4) (v := ?_) rfl (by kernel_rfl) (by kernel_rfl) (by kernel_rfl) (fun _ _ _ h => h) (Or.inl ⟨by rfl, ?_⟩) (by assumption) ?_
          rotate_left
          · intro wS hSw
            (try dsimp only at hSw)
            go_simp
            first | done | with_reducible rfl
          try simp only [Act.put, List.getElem_toArray, List.getElem_cons_succ, List.getElem_cons_zero, List.setIfInBounds_toArray, List.set_cons_zero, List.set_cons_succ]
          refine wpAnyH_take (i := 5) (v := ?_) rfl (by kernel_rfl) (by kernel_rfl) (by kernel_rfl) (fun _ _ _ h => h) (Or.inl ⟨by rfl, ?_⟩) (by assumption) ?_
          rotate_left
          · intro wS hSw
            (try dsimp only at hSw)
            go_simp
            first | done | with_reducible rfl
          try simp only [Act.put, List.getElem_toArray, List.getElem_cons_succ, List.getElem_cons_zero, List.setIfInBounds_toArray, List.set_cons_zero, List.set_cons_succ]
          refine wpAnyH_take (i := 6) (v := ?_) rfl (by kernel_rfl) (by kernel_rfl) (by kernel_rfl) (fun _ _ _ h => h) (Or.inl ⟨by rfl, ?_⟩) (by assumption) ?_
          rotate_left
          · intro wS hSw
            (try dsimp only at hSw)
            go_simp
            first | done | with_reducible rfl
          try simp only [Act.put, List.getElem_toArray, List.getElem_cons_succ, List.getElem_cons_zero, List.setIfInBounds_toArray, List.set_cons_zero, List.set_cons_succ]
          refine wpAnyH_take (i := 7) (v := ?_) rfl (by kernel_rfl) (by kernel_rfl) (by kernel_rfl) (fun _ _ _ h => h) (Or.inl ⟨by rfl, ?_⟩) (by assumption) ?_
          rotate_left
          · intro wS hSw
            (try dsimp only at hSw)
            have q0 := bcell hSw q0
            have z0 := bcell hSw z0
            go_simp
            first | done | with_reducible rfl
          try simp only [Act.put, List.getElem_toArray, List.getElem_cons_succ, List.getElem_cons_zero, List.setIfInBounds_toArray, List.set_cons_zero, List.set_cons_succ]
          refine wpAnyH_take (i := 8) (v := ?_) rfl (by kernel_rfl) (by kernel_rfl) (by kernel_rfl) (fun _ _ _ h => h) (Or.inl ⟨by rfl, ?_⟩) (by assumption) ?_
          rotate_left
          · intro wS hSw
            (try dsimp only at hSw)
            go_simp
            first | done | with_reducible rfl
          try simp only [Act.put, List.getElem_toArray, List.getElem_cons_succ, List.getElem_cons_zero, List.setIfInBounds_toArray, List.set_cons_zero, List.set_cons_succ]
          refine wpAnyH_done (by kernel_rfl) ?_ _
          have HB1 := Lib.hid (bel HBw.out r0)
          go_wp2_with fail
          go_roundw
          case rel => exact ⟨i + 1, HLT.out, by go_num, HN, HB1⟩
          case measure => simp [intOf]; have := HLT.out; omega
        · have HN := Lib.hid (HNE.out hx)
          have dn : (p != q) = true := by simpa using hx
          have dn2 : (p == q) = false := by simpa using hx
          clear HT HNE hlt hx
          go_upto_region 6 with fail
          refine wp_region_held_drew (S := (fun W => Below wr.heap.size wr W)) (by kernel_rfl) ?_ (fun r0 => ?_)
          · exact ⟨rfl, rfl, rfl, Nat.le_refl _, fun _ _ => rfl⟩
          refine wpAnyH_take (i := 0) (v := ?_) rfl (by kernel_rfl) (by kernel_rfl) (by kernel_rfl) (fun _ _ _ h => h) (Or.inl ⟨by rfl, ?_⟩) (by assumption) ?_
          rotate_left
          · intro wS hSw
            (try dsimp only at hSw)
            go_simp
            first | done | with_reducible rfl
          try simp only [Act.put, List.getElem_toArray, List.getElem_cons_zero, List.setIfInBounds_toArray, List.set_cons_zero, List.set_cons_succ]
          refine wpAnyH_take (i := 1) (v := ?_) rfl (by kernel_rfl) (by kernel_rfl) (by kernel_rfl) (fun _ _ _ h => h) (Or.inl ⟨by rfl, ?_⟩) (by assumption) ?_
          rotate_left
          · intro wS hSw
            (try dsimp only at hSw)
            go_simp
            first | done | with_reducible rfl
          try simp only [Act.put, List.getElem_toArray, List.getElem_cons_succ, List.getElem_cons_zero, List.setIfInBounds_toArray, List.set_cons_zero, List.set_cons_succ]
          refine wpAnyH_take (i := 2) (v := ?_) rfl (by kernel_rfl) (by kernel_rfl) (by kernel_rfl) (fun _ _ _ h => h) (Or.inl ⟨by rfl, ?_⟩) (by assumption) ?_
          rotate_left
          · intro wS hSw
            (try dsimp only at hSw)
            go_simp
            first | done | with_reducible rfl
          try simp only [Act.put, List.getElem_toArray, List.getElem_cons_succ, List.getElem_cons_zero, List.setIfInBounds_toArray, List.set_cons_zero, List.set_cons_succ]
          refine wpAnyH_take (i := 3) (v := ?_) rfl (by kernel_rfl) (by kernel_rfl) (by kernel_rfl) (fun _ _ _ h => h) (Or.inl ⟨by rfl, ?_⟩) (by assumption) ?_
          rotate_left
          · intro wS hSw
            (try dsimp only at hSw)
            have q0 := bcell hSw q0
            have z0 := bcell hSw z0
            go_simp
            first | done | with_reducible rfl
          try simp only [Act.put, List.getElem_toArray, List.getElem_cons_succ, List.getElem_cons_zero, List.setIfInBounds_toArray, List.set_cons_zero, List.set_cons_succ]
          refine wpAnyH_take (i := 4) (v := ?_) rfl (by kernel_rfl) (by kernel_rfl) (by kernel_rfl) (fun _ _ _ h => h) (Or.inl ⟨by rfl, ?_⟩) (by assumption) ?_
          rotate_left
          · intro wS hSw
            (try dsimp only at hSw)
            go_simp
            first | done | with_reducible rfl
          try simp only [Act.put, List.getElem_toArray, List.getElem_cons_succ, List.getElem_cons_zero, List.setIfInBounds_toArray, List.set_cons_zero, List.set_cons_succ]
          refine wpAnyH_take (i := 5) (v := ?_) rfl (by kernel_rfl) (by kernel_rfl) (by kernel_rfl) (fun _ _ _ h => h) (Or.inl ⟨by rfl, ?_⟩) (by assumption) ?_
          rotate_left
          · intro wS hSw
            (try dsimp only at hSw)
            go_simp
            first | done | with_reducible rfl
          try simp only [Act.put, List.getElem_toArray, List.getElem_cons_succ, List.getElem_cons_zero, List.setIfInBounds_toArray, List.set_cons_zero, List.set_cons_succ]
          refine wpAnyH_take (i := 6) (v := ?_) rfl (by kernel_rfl) (by kernel_rfl) (by kernel_rfl) (fun _ _ _ h => h) (Or.inl ⟨by rfl, ?_⟩) (by assumption) ?_
          rotate_left
          · intro wS hSw
            (try dsimp only at hSw)
            go_simp
            first | done | with_reducible rfl
          try simp only [Act.put, List.getElem_toArray, List.getElem_cons_succ, List.getElem_cons_zero, List.setIfInBounds_toArray, List.set_cons_zero, List.set_cons_succ]
          refine wpAnyH_take (i := 7) (v := ?_) rfl (by kernel_rfl) (by kernel_rfl) (by kernel_rfl) (fun _ _ _ h => h) (Or.inl ⟨by rfl, ?_⟩) (by assumption) ?_
          rotate_left
          · intro wS hSw
            (try dsimp only at hSw)
            have q0 := bcell hSw q0
            have z0 := bcell hSw z0
            go_simp
            first | done | with_reducible rfl
          try simp only [Act.put, List.getElem_toArray, List.getElem_cons_succ, List.getElem_cons_zero, List.setIfInBounds_toArray, List.set_cons_zero, List.set_cons_succ]
          refine wpAnyH_take (i := 8) (v := ?_) rfl (by kernel_rfl) (by kernel_rfl) (by kernel_rfl) (fun _ _ _ h => h) (Or.inl ⟨by rfl, ?_⟩) (by assumption) ?_
          rotate_left
          · intro wS hSw
            (try dsimp only at hSw)
            go_simp
            first | done | with_reducible rfl
          try simp only [Act.put, List.getElem_toArray, List.getElem_cons_succ, List.getElem_cons_zero, List.setIfInBounds_toArray, List.set_cons_zero, List.set_cons_succ]
          refine wpAnyH_done (by kernel_rfl) ?_ _
          have HB1 := Lib.hid (bel HBw.out r0)
          go_wp2_with fail
          go_ret
          exact ⟨by rw [HN.out]; rfl, HB1.out⟩
      · obtain rfl : i = L.length := by omega
        have d1 : decide ((L.length : Int) < (L.length : Int)) = false := by simp
        have HV : Hid (R = true) := Lib.hid (by
          have := HE.out
          rw [List.take_length, HLN.out, List.take_length] at this
          rw [HR.out]
          exact decide_eq_true this)
        go_wp2_with fail
        go_ret
        exact ⟨by rw [HV.out]; rfl, HBw.out⟩
  · have dl : ((L.length : Int) != (M.length : Int)) = true := by simp; omega
    have dl2 : ((L.length : Int) == (M.length : Int)) = false := by simp; omega
    have HV : Hid (decide (L = M) = false) := Lib.hid (decide_eq_false (fun e => hlen (by rw [e])))
    rw [HV.out]
    clear hc hc2
    go_enter Tryz.func41, Tryz.ntmps41
    go_wp2_with fail
    go_ret
    exact ⟨rfl, Below.refl _ _⟩
set_option maxRecDepth 100000 in
set_option maxHeartbeats 8000000 in
theorem equalA_any (a b : Value) (L M : List PA) (w : World) (h : SeesA w a L) (h2 : SeesA w b M) (hl : L.length ≤ maxLen) (_ : M.length ≤ maxLen) :
    Calls Tryz.prog 42 #[a, b] w fun e w' => e = .returned (.bool (decide (L = M))) ∧ Below w.heap.size w w' := by
  have HS1 := Lib.hid h
  have HS2 := Lib.hid h2
  obtain ⟨ao, c, rfl, hlc, hnil, hc⟩ := h
  obtain ⟨bo, c2, rfl, hlc2, hnil2, hc2⟩ := h2
  have hll : L.length ≤ 9223372036854775807 := by unfold maxLen at hl; omega
  by_cases hlen : L.length = M.length
  · have HLN := Lib.hid hlen
    have dl : ((L.length : Int) != (M.length : Int)) = false := by simp [hlen]
    have dl2 : ((L.length : Int) == (M.length : Int)) = true := by simp [hlen]
    have HNL := Lib.hid (And.intro hnil hnil2)
    obtain ⟨R, hR⟩ : ∃ R, R = decide (L = M) := ⟨_, rfl⟩
    rw [← hR]
    have HR := Lib.hid hR
    clear hnil hc hnil2 hc2 hR hl
    go_enter Tryz.func42, Tryz.ntmps42
    go_wp2_with fail
    go_loopw [13] (fun j wr => ∃ i : Nat, i ≤ L.length ∧ j = .int .i64 i ∧ Hid (L.take i = M.take i) ∧ Hid (Below w.heap.size w wr)) (fun j _ => L.length - (intOf j).toNat)
    case atStart => exact ⟨0, Nat.zero_le _, rfl, Lib.hid rfl, Lib.hid (Below.refl _ _)⟩
    case round =>
      obtain ⟨i, hi, rfl, HE, HBw⟩ := hrel
      by_cases hlt : i < L.length
      · have hlt2 : i < M.length := by have := HLN.out; omega
        obtain ⟨x, rfl⟩ : ∃ x, ao = some x := by
          cases ao with
          | none => rw [HNL.out.1 rfl] at hlt; simp at hlt
          | some x => exact ⟨x, rfl⟩
        obtain ⟨y, rfl⟩ : ∃ y, bo = some y := by
          cases bo with
          | none => rw [HNL.out.2 rfl] at hlt2; simp at hlt2
          | some y => exact ⟨y, rfl⟩
        obtain ⟨ao', ac', e0, -, -, hcc⟩ := HS1.out.below HBw.out
        obtain ⟨rfl, rfl⟩ : some x = ao' ∧ c = ac' := by cases e0; exact ⟨rfl, rfl⟩
        obtain ⟨bo', bc', e1, -, -, hcc2⟩ := HS2.out.below HBw.out
        obtain ⟨rfl, rfl⟩ : some y = bo' ∧ c2 = bc' := by cases e1; exact ⟨rfl, rfl⟩
        obtain ⟨q0, q1⟩ := hcc x rfl i _ (atA_get hlt)
        obtain ⟨z0, z1⟩ := hcc2 y rfl i _ (atA_get hlt2)
        have q1 := ofsA q1
        have z1 := ofsA z1
        have b0 : (0 : Int) ≤ (i : Int) := by omega
        have b1 : (i : Int) < (L.length : Int) := by omega
        have b2 : (i : Int) < (M.length : Int) := by omega
        have d1 : decide ((i : Int) < (L.length : Int)) = true := by simp; omega
        have HT : Hid (atA L i = atA M i → L.take (i + 1) = M.take (i + 1)) := Lib.hid (fun e => by
          rw [List.take_add_one, List.take_add_one, HE.out, atA_get hlt, atA_get hlt2, e])
        have HNE : Hid (atA L i ≠ atA M i → R = false) := Lib.hid (fun h => by
          rw [HR.out]
          exact decide_eq_false (fun e => h (by rw [e])))
        have HLT := Lib.hid hlt
        clear hcc hcc2 e0 e1
        generalize atA L i = p at *
        generalize atA M i = q at *
        clear hlt2
        by_cases hx : p = q
        · have HN := Lib.hid (HT.out hx)
          have dn := neqA p p
          rw [show (!decide (p = p)) = false by simp] at dn
          have dn2 := eqlA p p
          subst hx
          clear HT HNE hlt
          go_upto_region 6 with fail
          refine wp_region_held_drew (S := (fun W => Below wr.heap.size wr W)) (by kernel_rfl) ?_ (fun r0 => ?_)
          · exact ⟨rfl, rfl, rfl, Nat.le_refl _, fun _ _ => rfl⟩
          refine wpAnyH_take (i := 0) (v := ?_) rfl (by kernel_rfl) (by kernel_rfl) (by kernel_rfl) (fun _ _ _ h => h) (Or.inl ⟨by rfl, ?_⟩) (by assumption) ?_
          rotate_left
          · intro wS hSw
            (try dsimp only at hSw)
            go_simp
            first | done | with_reducible rfl
          try simp only [Act.put, List.getElem_toArray, List.getElem_cons_zero, List.setIfInBounds_toArray, List.set_cons_zero, List.set_cons_succ]
          refine wpAnyH_take (i := 1) (v := ?_) rfl (by kernel_rfl) (by kernel_rfl) (by kernel_rfl) (fun _ _ _ h => h) (Or.inl ⟨by rfl, ?_⟩) (by assumption) ?_
          rotate_left
          · intro wS hSw
            (try dsimp only at hSw)
            go_simp
            first | done | with_reducible rfl
          try simp only [Act.put, List.getElem_toArray, List.getElem_cons_succ, List.getElem_cons_zero, List.setIfInBounds_toArray, List.set_cons_zero, List.set_cons_succ]
          refine wpAnyH_take (i := 2) (v := ?_) rfl (by kernel_rfl) (by kernel_rfl) (by kernel_rfl) (fun _ _ _ h => h) (Or.inl ⟨by rfl, ?_⟩) (by assumption) ?_
          rotate_left
          · intro wS hSw
            (try dsimp only at hSw)
            go_simp
            first | done | with_reducible rfl
          try simp only [Act.put, List.getElem_toArray, List.getElem_cons_succ, List.getElem_cons_zero, List.setIfInBounds_toArray, List.set_cons_zero, List.set_cons_succ]
          refine wpAnyH_take (i := 3) (v := ?_) rfl (by kernel_rfl) (by kernel_rfl) (by kernel_rfl) (fun _ _ _ h => h) (Or.inl ⟨by rfl, ?_⟩) (by assumption) ?_
          rotate_left
          · intro wS hSw
            (try dsimp only at hSw)
            have q0 := bcell hSw q0
            have q1 := bcell hSw q1
            have z0 := bcell hSw z0
            have z1 := bcell hSw z1
            go_simp
            first | done | with_reducible rfl
          try simp only [Act.put, List.getElem_toArray, List.getElem_cons_succ, List.getElem_cons_zero, List.setIfInBounds_toArray, List.set_cons_zero, List.set_cons_succ]
          refine wpAnyH_take (i := 4) (v := ?_) rfl (by kernel_rfl) (by kernel_rfl) (by kernel_rfl) (fun _ _ _ h => h) (Or.inl ⟨by rfl, ?_⟩) (by assumption) ?_
          rotate_left
          · intro wS hSw
            (try dsimp only at hSw)
            go_simp
            first | done | with_reducible rfl
          try simp only [Act.put, List.getElem_toArray, List.getElem_cons_succ, List.getElem_cons_zero, List.setIfInBounds_toArray, List.set_cons_zero, List.set_cons_succ]
          refine wpAnyH_take (i := 5) (v := ?_) rfl (by kernel_rfl) (by kernel_rfl) (by kernel_rfl) (fun _ _ _ h => h) (Or.inl ⟨by rfl, ?_⟩) (by assumption) ?_
          rotate_left
          · intro wS hSw
            (try dsimp only at hSw)
            go_simp
            first | done | with_reducible rfl
          try simp only [Act.put, List.getElem_toArray, List.getElem_cons_succ, List.getElem_cons_zero, List.setIfInBounds_toArray, List.set_cons_zero, List.set_cons_succ]
          refine wpAnyH_take (i := 6) (v := ?_) rfl (by kernel_rfl) (by kernel_rfl) (by kernel_rfl) (fun _ _ _ h => h) (Or.inl ⟨by rfl, ?_⟩) (by assumption) ?_
          rotate_left
          · intro wS hSw
            (try dsimp only at hSw)
            go_simp
            first | done | with_reducible rfl
          try simp only [Act.put, List.getElem_toArray, List.getElem_cons_succ, List.getElem_cons_zero, List.setIfInBounds_toArray, List.set_cons_zero, List.set_cons_succ]
          refine wpAnyH_take (i := 7) (v := ?_) rfl (by kernel_rfl) (by kernel_rfl) (by kernel_rfl) (fun _ _ _ h => h) (Or.inl ⟨by rfl, ?_⟩) (by assumption) ?_
          rotate_left
          · intro wS hSw
            (try dsimp only at hSw)
            have q0 := bcell hSw q0
            have q1 := bcell hSw q1
            have z0 := bcell hSw z0
            have z1 := bcell hSw z1
            go_simp
            first | done | with_reducible rfl
          try simp only [Act.put, List.getElem_toArray, List.getElem_cons_succ, List.getElem_cons_zero, List.setIfInBounds_toArray, List.set_cons_zero, List.set_cons_succ]
          refine wpAnyH_take (i := 8) (v := ?_) rfl (by kernel_rfl) (by kernel_rfl) (by kernel_rfl) (fun _ _ _ h => h) (Or.inl ⟨by rfl, ?_⟩) (by assumption) ?_
          rotate_left
          · intro wS hSw
            (try dsimp only at hSw)
            go_simp
            first | done | with_reducible rfl
          try simp only [Act.put, List.getElem_toArray, List.getElem_cons_succ, List.getElem_cons_zero, List.setIfInBounds_toArray, List.set_cons_zero, List.set_cons_succ]
          refine wpAnyH_done (by kernel_rfl) ?_ _
          have HB1 := Lib.hid (bel HBw.out r0)
          go_wp2_with fail
          go_roundw
          case rel => exact ⟨i + 1, HLT.out, by go_num, HN, HB1⟩
          case measure => simp [intOf]; have := HLT.out; omega
        · have HN := Lib.hid (HNE.out hx)
          have dn := neqA p q
          rw [show (!decide (p = q)) = true by simpa using hx] at dn
          have dn2 := eqlA p q
          clear HT HNE hlt hx
          go_upto_region 6 with fail
          refine wp_region_held_drew (S := (fun W => Below wr.heap.size wr W)) (by kernel_rfl) ?_ (fun r0 => ?_)
          · exact ⟨rfl, rfl, rfl, Nat.le_refl _, fun _ _ => rfl⟩
          refine wpAnyH_take (i := 0) (v := ?_) rfl (by kernel_rfl) (by kernel_rfl) (by kernel_rfl) (fun _ _ _ h => h) (Or.inl ⟨by rfl, ?_⟩) (by assumption) ?_
          rotate_left
          · intro wS hSw
            (try dsimp only at hSw)
            go_simp
            first | done | with_reducible rfl
          try simp only [Act.put, List.getElem_toArray, List.getElem_cons_zero, List.setIfInBounds_toArray, List.set_cons_zero, List.set_cons_succ]
          refine wpAnyH_take (i := 1) (v := ?_) rfl (by kernel_rfl) (by kernel_rfl) (by kernel_rfl) (fun _ _ _ h => h) (Or.inl ⟨by rfl, ?_⟩) (by assumption) ?_
          rotate_left
          · intro wS hSw
            (try dsimp only at hSw)
            go_simp
            first | done | with_reducible rfl
          try simp only [Act.put, List.getElem_toArray, List.getElem_cons_succ, List.getElem_cons_zero, List.setIfInBounds_toArray, List.set_cons_zero, List.set_cons_succ]
          refine wpAnyH_take (i := 2) (v := ?_) rfl (by kernel_rfl) (by kernel_rfl) (by kernel_rfl) (fun _ _ _ h => h) (Or.inl ⟨by rfl, ?_⟩) (by assumption) ?_
          rotate_left
          · intro wS hSw
            (try dsimp only at hSw)
            go_simp
            first | done | with_reducible rfl
          try simp only [Act.put, List.getElem_toArray, List.getElem_cons_succ, List.getElem_cons_zero, List.setIfInBounds_toArray, List.set_cons_zero, List.set_cons_succ]
          refine wpAnyH_take (i := 3) (v := ?_) rfl (by kernel_rfl) (by kernel_rfl) (by kernel_rfl) (fun _ _ _ h => h) (Or.inl ⟨by rfl, ?_⟩) (by assumption) ?_
          rotate_left
          · intro wS hSw
            (try dsimp only at hSw)
            have q0 := bcell hSw q0
            have q1 := bcell hSw q1
            have z0 := bcell hSw z0
            have z1 := bcell hSw z1
            go_simp
            first | done | with_reducible rfl
          try simp only [Act.put, List.getElem_toArray, List.getElem_cons_succ, List.getElem_cons_zero, List.setIfInBounds_toArray, List.set_cons_zero, List.set_cons_succ]
          refine wpAnyH_take (i := 4) (v := ?_) rfl (by kernel_rfl) (by kernel_rfl) (by kernel_rfl) (fun _ _ _ h => h) (Or.inl ⟨by rfl, ?_⟩) (by assumption) ?_
          rotate_left
          · intro wS hSw
            (try dsimp only at hSw)
            go_simp
            first | done | with_reducible rfl
          try simp only [Act.put, List.getElem_toArray, List.getElem_cons_succ, List.getElem_cons_zero, List.setIfInBounds_toArray, List.set_cons_zero, List.set_cons_succ]
          refine wpAnyH_take (i := 5) (v := ?_) rfl (by kernel_rfl) (by kernel_rfl) (by kernel_rfl) (fun _ _ _ h => h) (Or.inl ⟨by rfl, ?_⟩) (by assumption) ?_
          rotate_left
          · intro wS hSw
            (try dsimp only at hSw)
            go_simp
            first | done | with_reducible rfl
          try simp only [Act.put, List.getElem_toArray, List.getElem_cons_succ, List.getElem_cons_zero, List.setIfInBounds_toArray, List.set_cons_zero, List.set_cons_succ]
          refine wpAnyH_take (i := 6) (v := ?_) rfl (by kernel_rfl) (by kernel_rfl) (by kernel_rfl) (fun _ _ _ h => h) (Or.inl ⟨by rfl, ?_⟩) (by assumption) ?_
          rotate_left
          · intro wS hSw
            (try dsimp only at hSw)
            go_simp
            first | done | with_reducible rfl
          try simp only [Act.put, List.getElem_toArray, List.getElem_cons_succ, List.getElem_cons_zero, List.setIfInBounds_toArray, List.set_cons_zero, List.set_cons_succ]
          refine wpAnyH_take (i := 7) (v := ?_) rfl (by kernel_rfl) (by kernel_rfl) (by kernel_rfl) (fun _ _ _ h => h) (Or.inl ⟨by rfl, ?_⟩) (by assumption) ?_
          rotate_left
          · intro wS hSw
            (try dsimp only at hSw)
            have q0 := bcell hSw q0
            have q1 := bcell hSw q1
            have z0 := bcell hSw z0
            have z1 := bcell hSw z1
            go_simp
            first | done | with_reducible rfl
          try simp only [Act.put, List.getElem_toArray, List.getElem_cons_succ, List.getElem_cons_zero, List.setIfInBounds_toArray, List.set_cons_zero, List.set_cons_succ]
          refine wpAnyH_take (i := 8) (v := ?_) rfl (by kernel_rfl) (by kernel_rfl) (by kernel_rfl) (fun _ _ _ h => h) (Or.inl ⟨by rfl, ?_⟩) (by assumption) ?_
          rotate_left
          · intro wS hSw
            (try dsimp only at hSw)
            go_simp
            first | done | with_reducible rfl
          try simp only [Act.put, List.getElem_toArray, List.getElem_cons_succ, List.getElem_cons_zero, List.setIfInBounds_toArray, List.set_cons_zero, List.set_cons_succ]
          refine wpAnyH_done (by kernel_rfl) ?_ _
          have HB1 := Lib.hid (bel HBw.out r0)
          go_wp2_with fail
          go_ret
          exact ⟨by rw [HN.out]; rfl, HB1.out⟩
      · obtain rfl : i = L.length := by omega
        have d1 : decide ((L.length : Int) < (L.length : Int)) = false := by simp
        have HV : Hid (R = true) := Lib.hid (by
          have := HE.out
          rw [List.take_length, HLN.out, List.take_length] at this
          rw [HR.out]
          exact decide_eq_true this)
        go_wp2_with fail
        go_ret
        exact ⟨by rw [HV.out]; rfl, HBw.out⟩
  · have dl : ((L.length : Int) != (M.length : Int)) = true := by simp; omega
    have dl2 : ((L.length : Int) == (M.length : Int)) = false := by simp; omega
    have HV : Hid (decide (L = M) = false) := Lib.hid (decide_eq_false (fun e => hlen (by rw [e])))
    rw [HV.out]
    clear hc hc2
    go_enter Tryz.func42, Tryz.ntmps42
    go_wp2_with fail
    go_ret
    exact ⟨rfl, Below.refl _ _⟩
end
section
open Go.RowKit
theorem eqItems_u8 (d : Nat) (l m : List Int) (w : World) (hl : l.length = m.length) : ∀ (k n : Nat), n + k = l.length →
    (Op.eqItems (d + 1) 5 1 (l.map (Value.int .u8)).toArray (m.map (Value.int .u8)).toArray (List.range' n k)).run Tryz.prog w = .ok (decide (l.drop n = m.drop n)) w
  | 0, n, h => by
    have e1 : l.drop n = [] := List.drop_eq_nil_of_le (by omega)
    have e2 : m.drop n = [] := List.drop_eq_nil_of_le (by omega)
    rw [e1, e2]
    simp [Op.eqItems]
  | k + 1, n, h => by
    have ih := eqItems_u8 d l m w hl k (n + 1) (by omega)
    have h1 : n < l.length := by omega
    have h2 : n < m.length := by omega
    have hp : Tryz.prog.plainKey 5 = true := by kernel_rfl
    have p1 : (part 5 (l.map (Value.int .u8)).toArray (n * 1)).run Tryz.prog w = .ok (.int .u8 l[n]) w := run_part_plain w hp (by simp [h1])
    have p2 : (part 5 (m.map (Value.int .u8)).toArray (n * 1)).run Tryz.prog w = .ok (.int .u8 m[n]) w := run_part_plain w hp (by simp [h2])
    have p3 := run_equalIn_int (P := Tryz.prog) w d 5 .u8 .u8 l[n] m[n] Tryz.underlying5
    rw [List.range'_succ]
    simp only [Op.eqItems, Sem.run_bind, p1, p2, p3, Result.andThen_ok]
    rw [List.drop_eq_getElem_cons h1, List.drop_eq_getElem_cons h2]
    by_cases he : l[n] = m[n]
    · simp only [he, beq_self_eq_true, Bool.not_true, Bool.false_eq_true, if_false, List.cons.injEq, true_and]
      exact ih
    · have hb : (l[n] == m[n]) = false := by simpa using he
      have hd : decide (l[n] :: l.drop (n + 1) = m[n] :: m.drop (n + 1)) = false := decide_eq_false (fun e => he (by injection e))
      rw [hd]
      simp only [hb, Bool.not_false, if_true, Sem.run_pure]
theorem cells5 : Tryz.prog.cellsOf 5 = 1 := by kernel_rfl
theorem eql64 (l m : List Int) (hl : l.length = 64) (hm : m.length = 64) (w : World) : (binOp .eql 24 (.agg (l.map (Value.int .u8)).toArray) (.agg (m.map (Value.int .u8)).toArray)).run Tryz.prog w = .ok (.bool (decide (l = m))) w := by
  have h1 := eqItems_u8 9998 l m w (by omega) 64 0 (by omega)
  rw [List.drop_zero, List.drop_zero, ← List.range_eq_range'] at h1
  obtain ⟨i0, hi, hz0, hz1, hz2⟩ := info_parts info8
  have h2 := run_equalIn_array (P := Tryz.prog) w 9999 (t := 24) (l.map (Value.int .u8)).toArray (m.map (Value.int .u8)).toArray Tryz.underlying24 hi
  rw [cells5] at h2
  rw [run_eql_struct, h2, h1]
  rfl
/-! Same. -/
theorem wpLd64g {ops : Array Oper} {rest : List Oper} {o : Oper} {a : Act} {w : World} {Q : Exit → Act → World → Prop} {g : Nat} {b : BlkS} {fv av : Value} (hw : Region.wanted o (yielded ops a.tmps) = true) (x : Operand) (ho : o.op = .load 24 x) (hx : a.eval x = .pointer (some ⟨g, 2, none⟩)) (h : BlkAt w g b fv av) (hl : b.sl.length = 64)
    (hK : wpList Tryz.prog ops Q rest (a.put o.dst (.agg (b.sl.map (Value.int .u8)).toArray)) w) : wpList Tryz.prog ops Q (o :: rest) a w :=
  wpList_step fun K hK2 => by
    rw [if_pos hw]
    exact wp_load_mid 24 x ho g 2 hx _ _ h.slots Tryz.underlying24 rfl (by rw [info64, List.length_map, hl]) (hK2 _ _ hK)
def sameS (b c : BlkS) : Bool := decide (b.addr = c.addr) && (decide (b.aff = c.aff) && (decide (b.sl = c.sl) && (decide (b.free = c.free) && decide (b.attrs = c.attrs))))
set_option maxRecDepth 100000 in
set_option maxHeartbeats 8000000 in
theorem same15_any (b c : BlkS) (fv av fv2 av2 : Value) (w : World) (hf : Sees w fv b.free) (ha : SeesA w av b.attrs) (hf2 : Sees w fv2 c.free) (ha2 : SeesA w av2 c.attrs) (hl : b.sl.length = 64) (hl2 : c.sl.length = 64) (h1 : b.free.length ≤ maxLen) (h2 : c.free.length ≤ maxLen) (h3 : b.attrs.length ≤ maxLen) (h4 : c.attrs.length ≤ maxLen) :
    Calls Tryz.prog 10 #[.agg (blkL b fv av).toArray, .agg (blkL c fv2 av2).toArray] w fun e w' => e = .returned (.bool (sameS b c)) ∧ Below w.heap.size w w' := by
  obtain ⟨W, hW⟩ : ∃ W, W = (w.alloc (blkO b fv av)).alloc (blkO c fv2 av2) := ⟨_, rfl⟩
  obtain ⟨hb0, hA, hR, hsz⟩ := two_newB w (blkO b fv av) (blkO c fv2 av2)
  rw [← hW] at hb0 hA hR hsz
  have HX : Hid (BlkAt W w.heap.size b fv av) := Lib.hid hA
  have HY : Hid (BlkAt W (w.heap.size + 1) c fv2 av2) := Lib.hid hR
  have HB0 := Lib.hid hb0
  have HW := Lib.hid hW
  have HEU := Lib.hid (equalU_any fv fv2 b.free c.free W (hf.keep hb0) (hf2.keep hb0) h1 h2)
  have HEA := Lib.hid (fun W1 (hb1 : Below W.heap.size W W1) => equalA_any av av2 b.attrs c.attrs W1 ((ha.below hb0).below hb1) ((ha2.below hb0).below hb1) h3 h4)
  have HQ := Lib.hid (fun w => eql64 b.sl c.sl hl hl2 w)
  have HV : Hid (sameS b c = (decide (b.addr = c.addr) && (decide (b.aff = c.aff) && (decide (b.sl = c.sl) && (decide (b.free = c.free) && decide (b.attrs = c.attrs)))))) := Lib.hid rfl
  generalize sameS b c = R at *
  have c0 := HX.out.addr
  have c1 := HX.out.aff
  have c66 := HX.out.free hl
  have c67 := HX.out.attrs hl
  have e0 := HY.out.addr
  have e1 := HY.out.aff
  have e66 := HY.out.free hl2
  have e67 := HY.out.attrs hl2
  clear hW hb0 hA hR hsz hf ha hf2 ha2 h1 h2 h3 h4
  by_cases h0 : b.addr = c.addr
  · have d0 : (b.addr == c.addr) = true := by simpa using h0
    by_cases h1 : b.aff = c.aff
    · have d1 : (b.aff.toList == c.aff.toList) = true := by rw [h1]; simp
      have d1' : (b.aff.toList = c.aff.toList) = True := by rw [h1]; simp
      by_cases h2 : b.sl = c.sl
      · have q2 := fun w => HQ.out w
        rw [decide_eq_true h2] at q2
        by_cases h3 : b.free = c.free
        · have hd3 : decide (b.free = c.free) = true := decide_eq_true h3
          rw [hd3] at HEU
          clear hd3
          by_cases h4 : b.attrs = c.attrs
          · have HVV : Hid (R = true) := Lib.hid (by rw [HV.out, decide_eq_true h0, decide_eq_true h1, decide_eq_true h2, decide_eq_true h3, decide_eq_true h4]; rfl)
            have hd4 : decide (b.attrs = c.attrs) = true := decide_eq_true h4
            rw [hd4] at HEA
            clear h0 h1 h2 h3 h4 hd4
            go_enter Tryz.func10, Tryz.ntmps10
            go_upto_region 1 with fail
            change Code.wp _ _ _ _ ((w.alloc (blkO b fv av)).alloc (blkO c fv2 av2))
            rw [← HW.out]
            clear HW
            go_wp2_with (first
              | (refine wpLd64g (by rfl) _ rfl rfl HX.out hl ?_)
              | (refine wpLd64g (by rfl) _ rfl rfl HY.out hl2 ?_))
            refine HEU.out.mono ?_; rintro e w1 ⟨rfl, hb1⟩
            have HB1 := Lib.hid hb1
            have c67 := bcellB hb1 c67
            have e67 := bcellB hb1 e67
            clear hb1
            go_wp2_with fail
            refine (HEA.out _ HB1.out).mono ?_; rintro e w2 ⟨rfl, hb2⟩
            have HB2 := Lib.hid (bel HB1.out hb2)
            go_wp2_with fail
            go_ret
            exact ⟨by rw [HVV.out]; rfl, HB0.out.trans (HB2.out.mono HB0.out.size)⟩
          · have HVV : Hid (R = false) := Lib.hid (by rw [HV.out, decide_eq_false h4]; simp)
            have hd4 : decide (b.attrs = c.attrs) = false := decide_eq_false h4
            rw [hd4] at HEA
            clear h0 h1 h2 h3 h4 hd4
            go_enter Tryz.func10, Tryz.ntmps10
            go_upto_region 1 with fail
            change Code.wp _ _ _ _ ((w.alloc (blkO b fv av)).alloc (blkO c fv2 av2))
            rw [← HW.out]
            clear HW
            go_wp2_with (first
              | (refine wpLd64g (by rfl) _ rfl rfl HX.out hl ?_)
              | (refine wpLd64g (by rfl) _ rfl rfl HY.out hl2 ?_))
            refine HEU.out.mono ?_; rintro e w1 ⟨rfl, hb1⟩
            have HB1 := Lib.hid hb1
            have c67 := bcellB hb1 c67
            have e67 := bcellB hb1 e67
            clear hb1
            go_wp2_with fail
            refine (HEA.out _ HB1.out).mono ?_; rintro e w2 ⟨rfl, hb2⟩
            have HB2 := Lib.hid (bel HB1.out hb2)
            go_wp2_with fail
            go_ret
            exact ⟨by rw [HVV.out]; rfl, HB0.out.trans (HB2.out.mono HB0.out.size)⟩
        · have HVV : Hid (R = false) := Lib.hid (by rw [HV.out, decide_eq_false h3]; simp)
          have hd3 : decide (b.free = c.free) = false := decide_eq_false h3
          rw [hd3] at HEU
          clear h0 h1 h2 h3 hd3
          go_enter Tryz.func10, Tryz.ntmps10
          go_upto_region 1 with fail
          change Code.wp _ _ _ _ ((w.alloc (blkO b fv av)).alloc (blkO c fv2 av2))
          rw [← HW.out]
          clear HW
          go_wp2_with (first
            | (refine wpLd64g (by rfl) _ rfl rfl HX.out hl ?_)
            | (refine wpLd64g (by rfl) _ rfl rfl HY.out hl2 ?_))
          refine HEU.out.mono ?_; rintro e w1 ⟨rfl, hb1⟩
          have HB1 := Lib.hid hb1
          have c67 := bcellB hb1 c67
          have e67 := bcellB hb1 e67
          clear hb1
          go_wp2_with fail
          go_ret
          exact ⟨by rw [HVV.out]; rfl, HB0.out.trans (HB1.out.mono HB0.out.size)⟩
      · have HVV : Hid (R = false) := Lib.hid (by rw [HV.out, decide_eq_false h2]; simp)
        have q2 := fun w => HQ.out w
        rw [decide_eq_false h2] at q2
        clear h0 h1 h2
        go_enter Tryz.func10, Tryz.ntmps10
        go_upto_region 1 with fail
        change Code.wp _ _ _ _ ((w.alloc (blkO b fv av)).alloc (blkO c fv2 av2))
        rw [← HW.out]
        clear HW
        go_wp2_with (first
          | (refine wpLd64g (by rfl) _ rfl rfl HX.out hl ?_)
          | (refine wpLd64g (by rfl) _ rfl rfl HY.out hl2 ?_))
        go_ret
        exact ⟨by rw [HVV.out]; rfl, HB0.out⟩
    · have HVV : Hid (R = false) := Lib.hid (by rw [HV.out, decide_eq_false h1]; simp)
      have d0 : ¬ b.aff.toList = c.aff.toList := fun e => h1 (klB_inj e)
      have d1 : (b.aff.toList == c.aff.toList) = false := by simpa using d0
      clear h0 h1
      go_enter Tryz.func10, Tryz.ntmps10
      go_upto_region 1 with fail
      change Code.wp _ _ _ _ ((w.alloc (blkO b fv av)).alloc (blkO c fv2 av2))
      rw [← HW.out]
      clear HW
      go_wp2_with (first
        | (refine wpLd64g (by rfl) _ rfl rfl HX.out hl ?_)
        | (refine wpLd64g (by rfl) _ rfl rfl HY.out hl2 ?_))
      go_ret
      exact ⟨by rw [HVV.out]; rfl, HB0.out⟩
  · have HVV : Hid (R = false) := Lib.hid (by rw [HV.out, decide_eq_false h0]; simp)
    have d0 : (b.addr == c.addr) = false := by simpa using h0
    clear h0
    go_enter Tryz.func10, Tryz.ntmps10
    go_upto_region 1 with fail
    change Code.wp _ _ _ _ ((w.alloc (blkO b fv av)).alloc (blkO c fv2 av2))
    rw [← HW.out]
    clear HW
    go_wp2_with (first
      | (refine wpLd64g (by rfl) _ rfl rfl HX.out hl ?_)
      | (refine wpLd64g (by rfl) _ rfl rfl HY.out hl2 ?_))
    go_ret
    exact ⟨by rw [HVV.out]; rfl, HB0.out⟩
end
end Go.Proofs.YtgodmnpcedfdcaaGreat
