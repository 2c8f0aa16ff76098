/- Package redo: readLong, readItem. -/
import Derived.Test.YtogcjginifcbpaaRdMath
import Derived.Test.YtogcjginifcbpaaRdLaw
namespace Go.Proofs.Ytogcjginifcbpaa
open Go.RowKit Go.Maps
/-- What a read of a long text tells, and leaves. -/
def rdL (st : Option (List Int)) : List Int × Option (List Int) := rdB (rdU st 4).2 (rdU st 4).1
theorem grown_below {w w' : World} {r : Option Nat} (h : Below w.heap.size w w') : w.grownBy w' r := ⟨h.os, h.tape, h.output, h.size, fun k hk _ => h.block k hk⟩
theorem grown_put {a b : World} {r : Option Nat} (h : a.grownBy b r) {g : Nat} (hg : a.heap.size ≤ g) (i : Nat) (v : Value) : a.grownBy (b.setCell ⟨g, i, none⟩ v) r :=
  ⟨h.os, h.tape, h.output, by simpa [World.setCell] using h.size, fun k hk hne => (Below.heap_setCell _ _ _ _ (by show k ≠ g; omega)).trans (h.block k hk hne)⟩
theorem RdP.put {g B h : Nat} {st : Option (List Int)} {w : World} (hr : RdP g B st w) (h1 : h ≠ g) (h2 : B ≤ h) (i : Nat) (v : Value) : RdP g B st (w.setCell ⟨h, i, none⟩ v) := hr.grown (grown_set w h i v) h1 h2
set_option maxHeartbeats 1000000 in
theorem readLong_any (g B : Nat) (st : Option (List Int)) (w : World) (h : RdP g B st w) :
    Calls Try.prog 81 #[.pointer (some ⟨g, 0, none⟩)] w fun e w' => e = .returned (.string (strOfNums (rdL st).1)) ∧ RdP g B (rdL st).2 w' ∧ w.grownBy w' (some g) := by
  have HU := Lib.hid (u_any g B st 4 w h)
  obtain ⟨b0, b1⟩ := rdU_ok h 4
  have b1' : (rdU st 4).1 < 4294967296 := b1
  have s1 : IntKind.i64.wrap (rdU st 4).1 = (rdU st 4).1 := IntWalk.i64_in _ (by omega)
  clear b1 h
  go_enter Try.func81, Try.ntmps81
  go_wp2_with fail
  refine HU.out.mono ?_; rintro e w1 ⟨rfl, hR, hg⟩
  go_wp2_with fail
  refine (bytes_any g B _ _ _ hR).mono ?_; rintro e w2 ⟨v, rfl, hs, -, hR2, hg2⟩
  have hcv := conv_sees hs
  go_wp2_with fail
  go_ret
  exact ⟨rfl, hR2, grown_trans hg hg2⟩
def put3 (W : World) (g : Nat) (x y z : Value) : World := ((W.setCell ⟨g, 0, none⟩ x).setCell ⟨g, 1, none⟩ y).setCell ⟨g, 2, none⟩ z
theorem put3_at {W : World} {g : Nat} {a b c : Value} {t : TypeId} (h : W.heap[g]? = some (.cells #[a, b, c] t (0, 0))) (x y z : Value) : (put3 W g x y z).heap[g]? = some (.cells #[x, y, z] t (0, 0)) := by
  have h3 := dset (dset (dset h 0 x) 1 y) 2 z
  unfold put3
  simpa using h3
/-- What a read of an item tells, and leaves. -/
def rdRev (st : Option (List Int)) : Int := IntKind.i64.wrap (rdU st 8).1
def rdK (st : Option (List Int)) : List Int × Option (List Int) := rdL (rdU st 8).2
def rdV (st : Option (List Int)) : List Int × Option (List Int) := rdL (rdK st).2
abbrev rdItV (st : Option (List Int)) : Value := .agg #[.string (strOfNums (rdK st).1), .string (strOfNums (rdV st).1), .int .i64 (rdRev st)]
abbrev rdItE : Obj := .cells #[.string emp, .string emp, .int .i64 0] 73
set_option maxRecDepth 100000 in
set_option maxHeartbeats 4000000 in
theorem readItem_any (g B : Nat) (st : Option (List Int)) (w : World) (h : RdP g B st w) :
    Calls Try.prog 62 #[.pointer (some ⟨g, 0, none⟩)] w fun e w' => e = .returned (rdItV st) ∧ RdP g B (rdV st).2 w' ∧ w.grownBy w' (some g) := by
  obtain ⟨w0, hw0⟩ : ∃ w0, w0 = w.alloc rdItE := ⟨_, rfl⟩
  have hb0 : Below w.heap.size w w0 := by rw [hw0]; exact belNew _ _
  have hx0 : w0.heap[w.heap.size]? = some rdItE := by rw [hw0]; exact heap_alloc_new w _
  have hgl : g < w.heap.size := by obtain ⟨v, hv, _⟩ := h; exact heap_lt hv
  have hBg : B ≤ g := by obtain ⟨v, _, _, _, _, _, hB⟩ := h; exact hB
  have HW := Lib.hid hw0
  have H0 := Lib.hid (And.intro hb0 (And.intro hx0 (And.intro hgl hBg)))
  have h0 := h.below hb0
  have HU := Lib.hid (u_any g B st 8 w0 h0)
  obtain ⟨rv, hrv⟩ : ∃ rv, rv = rdRev st := ⟨_, rfl⟩
  obtain ⟨k1, hk1⟩ : ∃ k1, k1 = strOfNums (rdK st).1 := ⟨_, rfl⟩
  obtain ⟨k2, hk2⟩ : ∃ k2, k2 = strOfNums (rdV st).1 := ⟨_, rfl⟩
  have s8 : IntKind.i64.wrap (rdU st 8).1 = rv := hrv.symm
  have HK := Lib.hid (And.intro hk1 (And.intro hk2 hrv))
  clear hw0 hb0 hx0 hgl hBg h h0 hk1 hk2 hrv
  go_enter Try.func62, Try.ntmps62
  go_upto_region 1 with fail
  change Code.wp _ _ _ _ (w.alloc rdItE)
  rw [← HW.out]
  go_wp2_with fail
  refine HU.out.mono ?_; rintro e w1 ⟨rfl, hR1, hg1⟩
  go_wp2_with fail
  refine (readLong_any g B _ _ hR1).mono ?_; rintro e w2 ⟨he, hR2, hg2⟩
  obtain rfl : e = .returned (.string k1) := by rw [he, HK.out.1]; rfl
  clear he
  go_wp2_with fail
  refine (readLong_any g B _ _ hR2).mono ?_; rintro e w3 ⟨he, hR3, hg3⟩
  obtain rfl : e = .returned (.string k2) := by rw [he, HK.out.2.1]; rfl
  clear he
  have hg := grown_trans (grown_trans hg1 hg2) hg3
  have hx3 := (hg.block w.heap.size (heap_lt H0.out.2.1) (fun e => absurd (Option.some.inj e) (by have := H0.out.2.2.1; omega))).trans H0.out.2.1
  obtain ⟨c0, c1, c2⟩ := rcells hx3
  have f0 := rfroz hx3 0
  have f1 := rfroz hx3 1
  have f2 := rfroz hx3 2
  have HG := Lib.hid (And.intro hg hR3)
  have hE := put3_at hx3 (.string k1) (.string k2) (.int .i64 rv)
  unfold put3 at hE
  clear hg1 hg2 hg3 hR1 hR2 hR3 hg hx3
  go_wp2_with fail
  refine bodyPost_ret (v := .agg #[.string k1, .string k2, .int .i64 rv]) (by simp [results, Try.results62, go_sem, World.cell?, hE]) rfl ⟨by rw [HK.out.1, HK.out.2.1, HK.out.2.2], ?_, ?_⟩
  · exact ((HG.out.2.put (by have := H0.out.2.2.1; omega) (by have := H0.out.2.2; omega) 0 _).put (by have := H0.out.2.2.1; omega) (by have := H0.out.2.2; omega) 1 _).put (by have := H0.out.2.2.1; omega) (by have := H0.out.2.2; omega) 2 _
  · exact grown_put (grown_put (grown_put (grown_trans (grown_below H0.out.1) HG.out.1) (Nat.le_refl _) 0 _) (Nat.le_refl _) 1 _) (Nat.le_refl _) 2 _
end Go.Proofs.Ytogcjginifcbpaa
