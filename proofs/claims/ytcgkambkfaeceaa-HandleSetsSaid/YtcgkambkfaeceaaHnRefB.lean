/- Package virgateref17: how many of a block; how many together. -/
import Derived.Test.YtcgkambkfaeceaaHnSame
namespace Go.Proofs.Ytcgkambkfaeceaa
open Go.RowKit
theorem ofH_at {L : CntL} {b : Int} {i : Nat} (hs : L.Pairwise (fun p q => p.1 < q.1)) (hi : i < L.length) (e : (at2 L i).1 = b) : ofH L b = (at2 L i).2 := by
  induction L generalizing i with
  | nil => simp at hi
  | cons p L ih =>
    obtain ⟨k1, k2⟩ := List.pairwise_cons.1 hs
    cases i with
    | zero =>
      rw [at2_zero] at e ⊢
      rw [ofH_cons_ge (by omega), if_pos e]
    | succ i =>
      rw [at2_succ] at e ⊢
      have hi2 : i < L.length := by simpa using hi
      have := k1 _ (List.mem_of_getElem? (at2_get hi2))
      rw [ofH_cons_lt (by omega)]
      exact ih k2 hi2 e
theorem ofH_no {L : CntL} {b : Int} (h : ∀ p ∈ L, p.1 ≠ b) : ofH L b = 0 := by
  unfold ofH
  rw [if_neg]
  intro ht
  unfold thereB at ht
  simp only [Bool.and_eq_true, decide_eq_true_eq] at ht
  exact h _ (List.mem_of_getElem? (at2_get ht.1)) ht.2
set_option maxRecDepth 100000 in
set_option maxHeartbeats 4000000 in
theorem refOf_any (v : Value) (L : CntL) (a : Int) (w : World) (h : SeesC w v L) (hs : L.Pairwise (fun p q => p.1 < q.1)) (hl : L.length ≤ 1000000) (ha : 0 ≤ a) (ha' : a < 4294967296) :
    Calls Try.prog 23 #[v, .int .u32 a] w fun e w' => e = .returned (.int .i64 (ofH L (a - a % 64))) ∧ Below w.heap.size w w' := by
  obtain ⟨ao, c, rfl, hlc, hnil, hc⟩ := h
  have HC := Lib.hid (And.intro hnil hc)
  have HS := Lib.hid hs
  have htm : Int.tmod a 64 = a % 64 := Int.tmod_eq_emod_of_nonneg ha
  have hwr : IntKind.u32.wrap (a - a % 64) = a - a % 64 := by rw [IntKind.wrap_u32]; omega
  have HNOA : Hid ((∀ p ∈ L, p.1 ≠ a - a % 64) → ofH L (a - a % 64) = 0) := Lib.hid ofH_no
  have HAT : Hid (∀ i, i < L.length → (at2 L i).1 = a - a % 64 → ofH L (a - a % 64) = (at2 L i).2) := Lib.hid (fun i hi e => ofH_at hs hi e)
  obtain ⟨R, hR⟩ : ∃ R, R = ofH L (a - a % 64) := ⟨_, rfl⟩
  rw [← hR] at HNOA HAT ⊢
  clear hnil hc hs hR ha ha'
  go_enter Try.func23, Try.ntmps23
  go_wp2_with fail
  go_loopw [9] (fun j wr => ∃ i : Nat, i ≤ L.length ∧ j = .int .i64 i ∧ Hid (∀ p ∈ L.take i, p.1 ≠ a - a % 64) ∧ Hid (Below w.heap.size w wr)) (fun j _ => L.length - (intOf j).toNat)
  case atStart => exact ⟨0, Nat.zero_le _, rfl, Lib.hid (fun p hp => by simp at hp), Lib.hid (Below.refl _ _)⟩
  case round =>
    obtain ⟨i, hi, rfl, HN, HBw⟩ := hrel
    by_cases hlt : i < L.length
    · obtain ⟨x, rfl⟩ : ∃ x, ao = some x := by
        cases ao with
        | none => rw [HC.out.1 rfl] at hlt; simp at hlt
        | some x => exact ⟨x, rfl⟩
      obtain ⟨q0, q1⟩ := HC.out.2 x rfl i _ (at2_get hlt)
      have q0 := bcell HBw.out q0
      have q1 := ofs1 (bcell HBw.out q1)
      have b0 : (0 : Int) ≤ (i : Int) := by omega
      have b1 : (i : Int) < (L.length : Int) := by omega
      have d1 : decide ((i : Int) < (L.length : Int)) = true := by simp; omega
      have HT : Hid (L.take (i + 1) = L.take i ++ [at2 L i]) := Lib.hid (take_snoc hlt)
      have HV := Lib.hid (HAT.out i hlt)
      have HLT := Lib.hid hlt
      have HB1 := Lib.hid (belAlloc HBw.out (cntO (at2 L i) ER))
      generalize at2 L i = p at q0 q1 HT HV HB1
      obtain ⟨px, pn⟩ := p
      simp only [] at q0 q1 HV
      by_cases hx : px = a - a % 64
      · have dx : (px == a - a % 64) = true := by simpa using hx
        have HX := Lib.hid (HV.out hx)
        clear hx HV HT
        go_wp2_with fail
        go_ret
        exact ⟨by rw [HX.out]; rfl, HB1.out⟩
      · have dx : (px == a - a % 64) = false := by simpa using hx
        have HN2 : Hid (∀ p ∈ L.take (i + 1), p.1 ≠ a - a % 64) := Lib.hid (fun p hp => by
          rw [HT.out] at hp
          rcases List.mem_append.1 hp with hp | hp
          · exact HN.out p hp
          · obtain rfl : p = (px, pn) := by simpa using hp
            exact hx)
        clear hx HV HT
        go_wp2_with fail
        clear q0 q1
        go_roundw
        case rel => exact ⟨i + 1, HLT.out, by go_num, HN2, HB1⟩
        case measure => simp [intOf]; have := HLT.out; omega
    · obtain rfl : i = L.length := by omega
      have d1 : decide ((L.length : Int) < (L.length : Int)) = false := by simp
      have HV : Hid (R = 0) := Lib.hid (HNOA.out (by have := HN.out; rwa [List.take_length] at this))
      go_wp2_with fail
      go_ret
      exact ⟨by rw [HV.out]; rfl, HBw.out⟩
set_option maxRecDepth 100000 in
set_option maxHeartbeats 4000000 in
theorem refTotal_any (v : Value) (L : CntL) (w : World) (h : SeesC w v L) (hb : ∀ p ∈ L, 0 ≤ p.2 ∧ p.2 ≤ 65535) (hl : L.length ≤ 4000) :
    Calls Try.prog 18 #[v] w fun e w' => e = .returned (.int .i64 (totalH L)) ∧ Below w.heap.size w w' := by
  obtain ⟨ao, c, rfl, hlc, hnil, hc⟩ := h
  have HC := Lib.hid (And.intro hnil hc)
  have HBD := Lib.hid hb
  have HLL := Lib.hid hl
  obtain ⟨R, hR⟩ : ∃ R, R = totalH L := ⟨_, rfl⟩
  have HR := Lib.hid hR
  rw [← hR]
  clear hnil hc hR hb
  go_enter Try.func18, Try.ntmps18
  go_wp2_with fail
  go_loopw [3, 8] (fun u j wr => ∃ (i : Nat) (t : Int), i ≤ L.length ∧ j = .int .i64 i ∧ u = .int .i64 t ∧ Hid (t = totalH (L.take i)) ∧ Hid (Below w.heap.size w wr)) (fun _ j _ => L.length - (intOf j).toNat)
  case atStart => exact ⟨0, 0, Nat.zero_le _, rfl, rfl, Lib.hid rfl, Lib.hid (Below.refl _ _)⟩
  case round =>
    obtain ⟨i, t, hi, rfl, rfl, HT, HBw⟩ := hrel
    by_cases hlt : i < L.length
    · obtain ⟨a, rfl⟩ : ∃ a, ao = some a := by
        cases ao with
        | none => rw [HC.out.1 rfl] at hlt; simp at hlt
        | some a => exact ⟨a, rfl⟩
      obtain ⟨q0, q1⟩ := HC.out.2 a rfl i _ (at2_get hlt)
      have q0 := bcell HBw.out q0
      have q1 := ofs1 (bcell HBw.out q1)
      have b0 : (0 : Int) ≤ (i : Int) := by omega
      have b1 : (i : Int) < (L.length : Int) := by omega
      have d1 : decide ((i : Int) < (L.length : Int)) = true := by simp; omega
      have HS := Lib.hid (total_snoc hlt)
      have HLT := Lib.hid hlt
      have ht := total_bd (L := L.take i) (fun p hp => HBD.out p (List.mem_of_mem_take hp)) (by rw [List.length_take]; omega)
      have hp := HBD.out _ (List.mem_of_getElem? (at2_get hlt))
      rw [← HT.out] at ht
      generalize at2 L i = p at q0 q1 HS hp
      obtain ⟨px, pn⟩ := p
      simp only [] at q0 q1 HS hp
      have hw : IntKind.i64.wrap (t + pn) = t + pn := IntWalk.i64_in _ (by omega)
      clear ht hp
      have HB1 := Lib.hid (belAlloc HBw.out (cntO (px, pn) ER))
      go_wp2_with fail
      clear q0 q1
      go_roundw
      case rel => exact ⟨i + 1, t + pn, HLT.out, by go_num, rfl, Lib.hid (by rw [HS.out, HT.out]), HB1⟩
      case measure => simp [intOf]; have := HLT.out; omega
    · obtain rfl : i = L.length := by omega
      have d1 : decide ((L.length : Int) < (L.length : Int)) = false := by simp
      have HV : Hid (t = R) := Lib.hid (by rw [HT.out, HR.out, List.take_length])
      go_wp2_with fail
      go_ret
      exact ⟨by rw [← HV.out]; rfl, HBw.out⟩
end Go.Proofs.Ytcgkambkfaeceaa
