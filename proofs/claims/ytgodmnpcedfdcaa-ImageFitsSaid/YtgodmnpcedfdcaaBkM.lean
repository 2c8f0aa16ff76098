/- Package slices at bytes, by a closure that asks a block's slots: IndexFunc, DeleteFunc. -/
import Derived.Test.YtgodmnpcedfdcaaBkL
import Derived.Laws.CopyRow
namespace Go.Proofs.Ytgodmnpcedfdcaa
open Go.RowKit
/-- Is a slot given? -/
def gvn (sl : List Int) (x : Int) : Bool := sl.getD x.toNat 0 != 0
theorem given1_any (g : Nat) (b : BlkS) (fv av : Value) (x : Int) (w : World) (h : BlkAt w g b fv av) (hl : b.sl.length = 64) (h0 : 0 ≤ x) (h1 : x < 64) :
    Calls Try.prog 88 #[.int .u8 x, .pointer (some ⟨g, 0, none⟩)] w fun e w' => e = .returned (.bool (gvn b.sl x)) ∧ w = w' := by
  obtain ⟨i, rfl⟩ := Int.eq_ofNat_of_zero_le h0
  have hi : i < 64 := by omega
  have ks := h.slot (get64 hl hi)
  rw [Nat.add_comm] at ks
  have hv : gvn b.sl (i : Int) = (b.sl.getD i 0 != 0) := by unfold gvn; rw [Int.toNat_natCast]
  generalize b.sl.getD i 0 = k at *
  generalize gvn b.sl (i : Int) = q at *
  have HV := Lib.hid hv
  have b0 : (0 : Int) ≤ (i : Int) := by omega
  have b1 : (i : Int) < 64 := by omega
  clear h hv h0 h1
  go_enter Try.func88, Try.ntmps88
  go_wp2_with fail
  go_ret
  exact ⟨by rw [HV.out]; rfl, rfl⟩
set_option maxRecDepth 100000 in
set_option maxHeartbeats 4000000 in
/-- The first that is given; -1, if none is. -/
theorem indexF_any (v : Value) (xs : List Int) (g : Nat) (b : BlkS) (fv av : Value) (w : World) (h : Sees w v xs) (hx : BlkAt w g b fv av) (hl : b.sl.length = 64) (hlx : xs.length ≤ 1000000) (hok : ∀ x ∈ xs, 0 ≤ x ∧ x < 64) (r : Int)
    (hr : (r = -1 ∧ ∀ i, i < xs.length → gvn b.sl (xs.getD i 0) = false) ∨ ∃ k : Nat, r = k ∧ k < xs.length ∧ gvn b.sl (xs.getD k 0) = true ∧ ∀ i, i < k → gvn b.sl (xs.getD i 0) = false) :
    Calls Try.prog 111 #[v, .func (.func 88) #[] #[.pointer (some ⟨g, 0, none⟩)]] w fun e w' => e = .returned (.int .i64 r) ∧ w = w' := by
  obtain ⟨ao, c, rfl, hlc, hnil, hc⟩ := h
  have HC := Lib.hid (And.intro hnil hc)
  have HP := Lib.hid (fun x h0 h1 => given1_any g b fv av x w hx hl h0 h1)
  have HOK := Lib.hid hok
  have HR := Lib.hid hr
  clear hnil hc hok hr hx
  go_enter Try.func111, Try.ntmps111
  go_wp2_with fail
  go_loop [8] (fun j => ∃ i : Nat, i ≤ xs.length ∧ j = .int .i64 i ∧ Hid (∀ m, m < i → gvn b.sl (xs.getD m 0) = false)) (fun j => xs.length - (intOf j).toNat)
  case atStart => exact ⟨0, Nat.zero_le _, rfl, Lib.hid (fun m hm => by omega)⟩
  case round =>
    obtain ⟨i, hi, rfl, HN⟩ := hrel
    by_cases hlt : i < xs.length
    · obtain ⟨a, rfl⟩ : ∃ a, ao = some a := by
        cases ao with
        | none => rw [HC.out.1 rfl] at hlt; simp at hlt
        | some a => exact ⟨a, rfl⟩
      have q0 := HC.out.2 a rfl i hlt
      have hm := HOK.out (xs.getD i 0) (by
        rw [List.getD_eq_getElem?_getD, List.getElem?_eq_getElem hlt]
        exact List.getElem_mem hlt)
      have HPC := Lib.hid (HP.out _ hm.1 hm.2)
      have b0 : (0 : Int) ≤ (i : Int) := by omega
      have b1 : (i : Int) < (xs.length : Int) := by omega
      have d1 : decide ((i : Int) < (xs.length : Int)) = true := by simp; omega
      have HLT := Lib.hid hlt
      have HX : Hid (xs.getD i 0 = xs.getD i 0) := rfl
      cases hq : gvn b.sl (xs.getD i 0) with
      | true =>
        rw [hq] at HPC
        have HV : Hid (r = (i : Int)) := Lib.hid (by
          rcases HR.out with ⟨_, h2⟩ | ⟨k, h1, h2, h3, h4⟩
          · rw [h2 i hlt] at hq; cases hq
          · rw [h1]
            rcases Nat.lt_trichotomy i k with h | h | h
            · rw [h4 i h] at hq; cases hq
            · rw [h]
            · rw [HN.out k h] at h3; cases h3)
        generalize xs.getD i 0 = x at *
        clear hq hm hlt
        go_wp2_with fail
        refine HPC.out.mono ?_; rintro e w' ⟨rfl, rfl⟩
        go_wp2_with fail
        go_ret
        exact ⟨by rw [HV.out]; rfl, rfl⟩
      | false =>
        rw [hq] at HPC
        have HN2 : Hid (∀ m, m < i + 1 → gvn b.sl (xs.getD m 0) = false) := Lib.hid (fun m hm' => by
          rcases Nat.lt_or_ge m i with h | h
          · exact HN.out m h
          · obtain rfl : m = i := by omega
            exact hq)
        generalize xs.getD i 0 = x at *
        clear hq hm hlt
        go_wp2_with fail
        refine HPC.out.mono ?_; rintro e w' ⟨rfl, rfl⟩
        go_wp2_with fail
        go_round
        case rel => exact ⟨i + 1, HLT.out, by go_num, HN2⟩
        case measure => simp [intOf]; have := HLT.out; omega
    · obtain rfl : i = xs.length := by omega
      have d1 : decide ((xs.length : Int) < (xs.length : Int)) = false := by simp
      have HV : Hid (r = -1) := Lib.hid (by
        rcases HR.out with ⟨h, _⟩ | ⟨k, h1, h2, h3, h4⟩
        · exact h
        · rw [HN.out k h2] at h3; cases h3)
      go_wp2_with fail
      go_ret
      exact ⟨by rw [HV.out]; rfl, rfl⟩
end Go.Proofs.Ytgodmnpcedfdcaa
