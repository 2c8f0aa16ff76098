/- The walk of MachNil. -/
import Derived.Test.YtholgmcfgnifdaaMg
import Derived.Test.YtholgmcfgnifdaaKvTwo
namespace Go.Proofs.Ytholgmcfgnifdaa
open Go.RowKit Go.Maps
set_option maxRecDepth 100000 in
set_option maxHeartbeats 4000000 in
theorem lawMachNil (w : World) (o : KOp) (h : Op9Ok o) : Calls Try.prog 5 #[opV o] w fun e w' => e = .returned (.bool true) ∧ Below w.heap.size w w' := by
  have HO := Lib.hid (ours_any o)
  generalize ours o = x at HO
  clear h
  go_enter Try.func5, Try.ntmps5
  go_upto_region 3 with (go_at_call 11; refine (HO.out _).mono ?_; rintro e w2 ⟨rfl, hb2⟩)
  obtain ⟨W6, hW6, hb6, hz6, h7, h8⟩ := two_new w2 (opO x) (opR x)
  change Code.wp _ _ _ _ ((w2.alloc (opO x)).alloc (opR x))
  rw [← hW6]
  obtain ⟨b7, hb7⟩ : ∃ b7, b7 = w2.heap.size := ⟨_, rfl⟩
  rw [← hb7] at h7 h8 ⊢
  have hb26 : Below w.heap.size w W6 := bel (bel (belNew w (opR o)) hb2) hb6
  obtain ⟨k0, k1, k2, k3, k4, k5⟩ := opcells h7
  have HA := Lib.hid (And.intro hb26 h7)
  clear hW6 hb6 hz6 h7 h8 hb7 hb26 hb2 HO
  go_upto_region 4 with (go_at_call 23; refine (askNilN_any x W6).mono ?_; rintro e w3 ⟨rfl, hb3⟩)
  go_upto_region 5 with (go_at_call 9; refine (opP_nil w3).mono ?_; rintro e w4 ⟨rfl, hb4⟩)
  have hb5 := bel (bel hb3 hb4) (belNew w4 (opO opZ))
  generalize w4.alloc (opO opZ) = w5 at *
  go_upto_region 6 with (go_at_call 7; refine (newP_any w5).mono ?_; rintro e w6 ⟨rfl, hp6, hb6⟩)
  have hbb := bel hb5 hb6
  have h7 := (hbb.block _ (heap_lt HA.out.2)).trans HA.out.2
  have hbw := HA.out.1.trans (hbb.mono HA.out.1.size)
  have hge : w.heap.size ≤ w5.heap.size := by have := HA.out.1.size; have := hb5.size; omega
  obtain ⟨gq, hgq⟩ : ∃ gq, gq = w5.heap.size := ⟨_, rfl⟩
  rw [← hgq] at hp6 hge ⊢
  obtain ⟨k0, k1, k2, k3, k4, k5⟩ := opcells h7
  have HB := Lib.hid (And.intro hbw (And.intro hp6 hge))
  clear hbb h7 hbw hp6 hge hgq hb3 hb4 hb5 hb6 HA
  go_upto_region 7 with (go_at_call 23; refine (askN_any gq x _ _ _ _ w6 HB.out.2.1).mono ?_; rintro e w7 ⟨rfl, hp7, ht7⟩)
  have hb7 : Below w.heap.size w w7 := HB.out.1.trans (ht7.below HB.out.1.size (fun i e => by rw [e]; exact HB.out.2.2))
  have HC := Lib.hid (And.intro hb7 (And.intro hp7 HB.out.2.2))
  clear hb7 hp7 ht7 HB k0 k1 k2 k3 k4 k5
  go_upto_region 8 with (go_at_call 9; refine (opP_any gq _ _ _ _ w7 HC.out.2.1).mono ?_; rintro e w8 ⟨rfl, hb8⟩)
  have hb9 := bel hb8 (belNew w8 (opO x))
  generalize w8.alloc (opO x) = w9 at *
  have HD := Lib.hid (And.intro (HC.out.1.trans (hb9.mono HC.out.1.size)) (And.intro (HC.out.2.1.below hb9) HC.out.2.2))
  clear hb8 hb9 HC
  go_upto_region 9 with (go_at_call 16; refine (run_no gq _ _ _ _ 9 w9 HD.out.2.1 (by decide)).mono ?_; rintro e w10 ⟨rfl, hb10⟩)
  go_wp2_with (go_at_call 12; refine (feed_nil res0 (.slice none 0 0) w10 ⟨none, 0, 0, rfl⟩).mono ?_; rintro e w11 ⟨rfl, hb11⟩)
  refine (steps_nil w11).mono ?_; rintro e w12 ⟨rfl, rfl⟩
  go_wp2_with (go_at_call 16; refine (run_nop 3 w11 (by decide)).mono ?_; rintro e w12 ⟨rfl, hb12⟩)
  have hp12 := HD.out.2.1.below (bel (bel hb10 hb11) hb12)
  refine (feedN_any gq _ _ res0 (.slice none 0 0) w12 hp12 ⟨none, 0, 0, rfl⟩ (by decide)).mono ?_; rintro e w13 ⟨rfl, hp13, ht13⟩
  have hb12w : Below w.heap.size w w12 := HD.out.1.trans ((bel (bel hb10 hb11) hb12).mono HD.out.1.size)
  have hb13 : Below w.heap.size w w13 := hb12w.trans (ht13.below hb12w.size (fun i e => by rw [e]; exact HD.out.2.2))
  have HE := Lib.hid (And.intro hb13 hp13)
  clear hp12 hp13 ht13 hb12w hb13 hb12 hb11 hb10 HD
  go_wp2_with (go_at_call 12; refine (feed_idle gq _ _ _ res0 (.slice none 0 0) w13 HE.out.2 ⟨none, 0, 0, rfl⟩).mono ?_; rintro e w14 ⟨rfl, hb14⟩)
  refine (awake19_any w14).mono ?_; rintro e w15 ⟨rfl, hb15⟩
  go_wp2_with fail
  go_ret
  exact ⟨rfl, HE.out.1.trans ((bel hb14 hb15).mono HE.out.1.size)⟩
end Go.Proofs.Ytholgmcfgnifdaa
