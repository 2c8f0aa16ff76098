/- Package redo: ReadState, of any bytes. -/
import Derived.Test.YtogcjginifcbpaaRdItems
namespace Go.Proofs.Ytogcjginifcbpaa
open Go.RowKit Go.Maps
set_option maxRecDepth 100000 in
set_option maxHeartbeats 8000000 in
theorem readState_any (b : Value) (xs : List Int) (w : World) (h : Sees w b xs) (hok : okB xs) (hl : xs.length ≤ 90000) :
    Calls Try.prog 44 #[b] w fun x w' => ∃ n k : Nat, (rdU (rdU (some xs) 8).2 4).1 = (n : Int) ∧ k ≤ n ∧ (k = n ∨ (rdN k (rdU (rdU (some xs) 8).2 4).2).2 = none) ∧ k ≤ 100000 ∧
      ((doneB (rdN k (rdU (rdU (some xs) 8).2 4).2).2 && ofB (rdRev (some xs)) (rdN k (rdU (rdU (some xs) 8).2 4).2).1) = true → ∃ g P, x = .returned (.tuple #[ptr g, .int .i64 0]) ∧ KvAt w' g P ⟨rdRev (some xs), (rdN k (rdU (rdU (some xs) 8).2 4).2).1⟩ ∧ (∀ i, P i → w.heap.size ≤ i)) ∧
      ((doneB (rdN k (rdU (rdU (some xs) 8).2 4).2).2 && ofB (rdRev (some xs)) (rdN k (rdU (rdU (some xs) 8).2 4).2).1) = false → x = .returned (.tuple #[.pointer none, .int .i64 3])) ∧ Below w.heap.size w w' := by
  have HN := Lib.hid (new_any b xs w h hok (by omega))
  obtain ⟨R, hR⟩ : ∃ R, R = rdRev (some xs) := ⟨_, rfl⟩
  obtain ⟨st1, hs1⟩ : ∃ s, s = (rdU (some xs) 8).2 := ⟨_, rfl⟩
  obtain ⟨st2, hs2⟩ : ∃ s, s = (rdU st1 4).2 := ⟨_, rfl⟩
  have s8 : IntKind.i64.wrap (rdU (some xs) 8).1 = R := hR.symm
  have hleft : left st2 ≤ 100000 := by
    have h1 := rdU_left (st := some xs) 8
    have h2 := rdU_left (st := st1) 4
    rw [← hs1] at h1
    rw [← hs2] at h2
    have h3 : left (some xs) = xs.length + 1 := rfl
    omega
  rw [← hs1, ← hs2, ← hR]
  have HL := Lib.hid hleft
  have HU8 : Hid (∀ g w, RdP g g (some xs) w → Calls Try.prog 61 #[.pointer (some ⟨g, 0, none⟩), .int .i64 8] w fun e w' => e = .returned (.int .u64 (rdU (some xs) 8).1) ∧ RdP g g st1 w' ∧ w.grownBy w' (some g)) := Lib.hid (fun g w h => by rw [hs1]; exact u_any g g _ 8 w h)
  have HU4 : Hid (∀ g w, RdP g g st1 w → ∃ n : Nat, (rdU st1 4).1 = (n : Int) ∧ n < 4294967296 ∧ Calls Try.prog 61 #[.pointer (some ⟨g, 0, none⟩), .int .i64 4] w fun e w' => e = .returned (.int .u64 (n : Int)) ∧ RdP g g st2 w' ∧ w.grownBy w' (some g)) := Lib.hid (fun g w h => by
    obtain ⟨b0, b1⟩ := rdU_ok h 4
    have b1' : (rdU st1 4).1 < 4294967296 := b1
    have hn : (rdU st1 4).1 = (((rdU st1 4).1.toNat : Nat) : Int) := by omega
    refine ⟨(rdU st1 4).1.toNat, hn, by omega, ?_⟩
    rw [← hn, hs2]
    exact u_any g g _ 4 w h)
  clear hR hs1 hs2 hleft h hok hl
  go_enter Try.func44, Try.ntmps44
  go_upto_region 2 with (first
    | (go_at_call 60; refine HN.out.mono ?_; rintro e w1 ⟨g, rfl, hR1, hg1, hb1⟩)
    | go_in)
  go_upto_region 3 with (first
    | (go_at_call 61; refine (HU8.out g w1 hR1).mono ?_; rintro e w2 ⟨rfl, hR2, hg2⟩)
    | go_in)
  obtain ⟨n, hn, hn2, hU4⟩ := HU4.out g w2 hR2
  have HU := Lib.hid hU4
  have HNN := Lib.hid (And.intro hn hn2)
  clear HU4 HU8 HN hU4 hn hn2
  go_upto_region 4 with (first
    | (go_at_call 61; refine HU.out.mono ?_; rintro e w3 ⟨rfl, hR3, hg3⟩)
    | (go_at_call 66; refine (readItems_any g g st2 n w3 hR3 HL.out HNN.out.2).mono ?_; rintro e w4 ⟨k, v, rfl, hrow, hR4, hk, hkn, hk5, hg4⟩)
    | go_in)
  have hgA := grown_trans (grown_trans hg2 hg3) hg4
  have HB4 : Hid (Below w.heap.size w w4) := Lib.hid (hb1.grown hgA hb1.size (fun j e => by have := Option.some.inj e; omega))
  have HX := Lib.hid (And.intro hR4 (And.intro hrow (And.intro hk (And.intro hkn hk5))))
  have hlen := rdN_len st2 k
  clear hgA hg2 hg3 hg4 hb1 hg1 hR1 hR2 hR3 hR4 hrow hk hkn HU s8
  have HD := Lib.hid (done_any g g _ w4 HX.out.1)
  generalize hrn : rdN k st2 = rn at HX HD hlen
  obtain ⟨L, st3⟩ := rn
  simp only [] at HX HD hlen
  have HRN : Hid ((rdN k st2).1 = L ∧ (rdN k st2).2 = st3) := Lib.hid (by rw [hrn]; exact ⟨rfl, rfl⟩)
  clear hrn
  cases hD : doneB st3 with
  | false =>
    rw [hD] at HD
    have HDf := Lib.hid hD
    clear hD
    go_wp2_with (first
      | (go_at_call 63; refine HD.out.mono ?_; rintro e w5 ⟨rfl, rfl⟩)
      | go_in)
    go_ret2
    refine ⟨n, k, HNN.out.1, HX.out.2.2.1, by rw [HRN.out.2]; exact HX.out.2.2.2.1, HX.out.2.2.2.2, ?_, fun _ => rfl, HB4.out⟩
    rw [HRN.out.2, HDf.out]
    intro h
    cases h
  | true =>
    rw [hD] at HD
    have HDf := Lib.hid hD
    clear hD
    cases hO : ofB R L with
    | false =>
      have HOf := Lib.hid (of_no R v L w4 (RowE.sees HX.out.2.1) (by unfold maxLen; omega) hO)
      have HOv := Lib.hid hO
      clear hO
      go_wp2_with (first
        | (go_at_call 63; refine HD.out.mono ?_; rintro e w5 ⟨rfl, rfl⟩)
        | (go_at_call 27; refine HOf.out.mono ?_; rintro e w6 ⟨rfl, hb6⟩)
        | go_in)
      go_ret2
      refine ⟨n, k, HNN.out.1, HX.out.2.2.1, by rw [HRN.out.2]; exact HX.out.2.2.2.1, HX.out.2.2.2.2, ?_, fun _ => rfl, HB4.out.trans (hb6.mono HB4.out.size)⟩
      rw [HRN.out.1, HOv.out, Bool.and_false]
      intro h
      cases h
    | true =>
      have HOf := Lib.hid (of_yes R v L w4 (RowE.sees HX.out.2.1) (by omega) hO)
      have HOv := Lib.hid hO
      clear hO
      go_wp2_with (first
        | (go_at_call 63; refine HD.out.mono ?_; rintro e w5 ⟨rfl, rfl⟩)
        | (go_at_call 27; refine HOf.out.mono ?_; rintro e w6 ⟨g6, P6, rfl, hk6, hP6, hb6⟩)
        | go_in)
      go_ret2
      refine ⟨n, k, HNN.out.1, HX.out.2.2.1, by rw [HRN.out.2]; exact HX.out.2.2.2.1, HX.out.2.2.2.2, ?_, ?_, HB4.out.trans (hb6.mono HB4.out.size)⟩
      · intro _
        refine ⟨g6, P6, rfl, ?_, fun i hi => Nat.le_trans HB4.out.size (hP6 i hi)⟩
        rw [HRN.out.1]
        exact hk6
      · rw [HRN.out.1, HRN.out.2, HDf.out, HOv.out]
        intro h
        cases h
/-- A state's bytes. -/
def stL (S : KSt) : List Int := putL S.rev 8 ++ (putL (S.L.length : Int) 4 ++ S.L.flatMap itemL)
theorem rdN_back (st : Option (List Int)) (hok : okB (st.getD [])) {R : Int} : ∀ (k : Nat) {l' : List Int}, (rdN k st).2 = some l' → (∀ p ∈ (rdN k st).1, 0 ≤ p.2.2) → ∃ l, st = some l ∧ l = (rdN k st).1.flatMap itemL ++ l' ∧ okB l'
  | 0, l', h, _ => ⟨l', h, rfl, by rw [show st = some l' from h] at hok; exact hok⟩
  | k + 1, l', h, hp => by
    have hk : ∃ m, (rdN k st).2 = some m := by
      cases hm : (rdN k st).2 with
      | none =>
        have : (rdN (k + 1) st).2 = (rdV (rdN k st).2).2 := rfl
        rw [this, hm] at h
        cases h
      | some m => exact ⟨m, rfl⟩
    obtain ⟨m, hm⟩ := hk
    obtain ⟨l, e0, f0, ok0⟩ := rdN_back st hok (R := R) k hm (fun p hpp => hp p (by rw [rdN]; exact List.mem_append_left _ hpp))
    have h2 : (rdV (rdN k st).2).2 = some l' := h
    have hrv : 0 ≤ rdRev (rdN k st).2 := hp (itemOf (rdN k st).2) (by rw [rdN]; exact List.mem_append_right _ (by simp))
    rw [hm] at h2 hrv
    obtain ⟨m2, e1, f1, ok1⟩ := item_back (st := some m) ok0 h2 hrv
    obtain rfl := Option.some.inj e1
    refine ⟨l, e0, ?_, ok1⟩
    rw [rdN, List.flatMap_append, f0, hm]
    conv => lhs; rw [f1]
    simp [itemOf]
end Go.Proofs.Ytogcjginifcbpaa
