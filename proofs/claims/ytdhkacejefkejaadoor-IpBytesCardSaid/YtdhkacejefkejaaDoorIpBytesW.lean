/- The walk of IpBytes. -/
import Derived.Test.YtdhkacejefkejaaDoorIp
import Derived.Deep.RegionHeld3
import Derived.Laws.StructEq
namespace Go.Proofs.YtdhkacejefkejaaDoor
open Go.RowKit
theorem back_eq (a : Int) : ((a / 16777216 * 256 + a / 65536 % 256) * 256 + a / 256 % 256) * 256 + a % 256 = a := by omega
theorem quietL {P : Program} {f : FuncId} {args : Array Value} {w : World} {v : Value} (h : Calls P f args w fun e w' => e = .returned v ∧ w = w') : Calls P f args w fun e w'' => e = .returned v ∧ ∃ m, w'' = w.drewN m :=
  h.mono fun _ _ ⟨he, hm⟩ => ⟨he, 0, hm.symm⟩
theorem quietAL {P : Program} {f : FuncId} {args : Array Value} {w : World} {a n : Nat} {v : Value} (h : Calls P f args (w.drewN (a + n)) fun e w' => e = .returned v ∧ w.drewN (a + n) = w') :
    Calls P f args (w.drewN (a + n)) fun e w'' => e = .returned v ∧ ∃ m, w'' = w.drewN (a + m) :=
  h.mono fun _ _ ⟨he, hm⟩ => ⟨he, n, hm.symm⟩
theorem bytes_of (x y z t : Int) (hx : 0 ≤ x) (hx' : x ≤ 255) (hy : 0 ≤ y) (hy' : y ≤ 255) (hz : 0 ≤ z) (hz' : z ≤ 255) (ht : 0 ≤ t) (ht' : t ≤ 255) (w : World) :
    Calls Tryd.prog 19 #[.int .u32 (((x * 256 + y) * 256 + z) * 256 + t)] w fun e w' => e = .returned (.agg #[.int .u8 x, .int .u8 y, .int .u8 z, .int .u8 t]) ∧ Below w.heap.size w w' := by
  have := bytes_any (((x * 256 + y) * 256 + z) * 256 + t) (by omega) (by omega) w
  rwa [show (((x * 256 + y) * 256 + z) * 256 + t) / 16777216 = x by omega, show (((x * 256 + y) * 256 + z) * 256 + t) / 65536 % 256 = y by omega, show (((x * 256 + y) * 256 + z) * 256 + t) / 256 % 256 = z by omega, show (((x * 256 + y) * 256 + z) * 256 + t) % 256 = t by omega] at this
/-- Two arrays of four bytes in two blocks, and what was there before is as it was. -/
structure Two4 (w : World) (b0 b1 : Nat) (x y z t p q r s : Int) (W : World) : Prop where
  c0 : W.cell? ⟨b0, 0, none⟩ = some (.int .u8 x)
  c1 : W.cell? ⟨b0, 1, none⟩ = some (.int .u8 y)
  c2 : W.cell? ⟨b0, 2, none⟩ = some (.int .u8 z)
  c3 : W.cell? ⟨b0, 3, none⟩ = some (.int .u8 t)
  d0 : W.cell? ⟨b1, 0, none⟩ = some (.int .u8 p)
  d1 : W.cell? ⟨b1, 1, none⟩ = some (.int .u8 q)
  d2 : W.cell? ⟨b1, 2, none⟩ = some (.int .u8 r)
  d3 : W.cell? ⟨b1, 3, none⟩ = some (.int .u8 s)
  l0 : b0 < W.heap.size
  l1 : b1 < W.heap.size
  bel : Below w.heap.size w W
theorem Two4.drewN {w : World} {b0 b1 : Nat} {x y z t p q r s : Int} {W : World} (h : Two4 w b0 b1 x y z t p q r s W) (n : Nat) : Two4 w b0 b1 x y z t p q r s (W.drewN n) :=
  ⟨h.c0, h.c1, h.c2, h.c3, h.d0, h.d1, h.d2, h.d3, h.l0, h.l1, below_drewN h.bel n⟩
theorem Two4.keep {w : World} {b0 b1 : Nat} {x y z t p q r s : Int} {W W' : World} (h : Two4 w b0 b1 x y z t p q r s W) (hb : Below W.heap.size W W') : Two4 w b0 b1 x y z t p q r s W' :=
  ⟨(hb.cell (p := ⟨b0, 0, none⟩) h.l0).trans h.c0, (hb.cell (p := ⟨b0, 1, none⟩) h.l0).trans h.c1, (hb.cell (p := ⟨b0, 2, none⟩) h.l0).trans h.c2, (hb.cell (p := ⟨b0, 3, none⟩) h.l0).trans h.c3,
   (hb.cell (p := ⟨b1, 0, none⟩) h.l1).trans h.d0, (hb.cell (p := ⟨b1, 1, none⟩) h.l1).trans h.d1, (hb.cell (p := ⟨b1, 2, none⟩) h.l1).trans h.d2, (hb.cell (p := ⟨b1, 3, none⟩) h.l1).trans h.d3,
   Nat.lt_of_lt_of_le h.l0 hb.size, Nat.lt_of_lt_of_le h.l1 hb.size, h.bel.trans (hb.mono h.bel.size)⟩
theorem two4_start (w w1 : World) (x y z t p q r s : Int) (n : Nat) (hb1 : Below (w.heap.size + 1) (w.alloc (.cells #[.int .u8 x, .int .u8 y, .int .u8 z, .int .u8 t] 32)) w1) :
    Two4 w w.heap.size w1.heap.size x y z t p q r s ((w1.alloc (Obj.cells #[.int .u8 p, .int .u8 q, .int .u8 r, .int .u8 s] 32)).drewN n) := by
  have hl := hb1.size
  simp only [World.size_alloc] at hl
  refine Two4.drewN ⟨?_, ?_, ?_, ?_, by simp, by simp, by simp, by simp, by simp; omega, by simp, ?_⟩ n
  case refine_5 => exact (((Below.refl w.heap.size w).alloc (Nat.le_refl _) _).trans (hb1.mono (Nat.le_succ _))).alloc (by omega) _
  all_goals
    rw [World.cell?_alloc_lt _ _ _ (by exact hl), hb1.cell (by simp)]
    simp
theorem arr_eqd (d : Nat) (x y z t : Int) (W : World) : (Op.equalIn (d + 2) 32 (.agg #[.int .u8 x, .int .u8 y, .int .u8 z, .int .u8 t]) (.agg #[.int .u8 x, .int .u8 y, .int .u8 z, .int .u8 t])).run Tryd.prog W = .ok true W := by
  rw [Op.equalIn]
  simp only [Sem.run_bind, run_underlying Tryd.underlying32, Result.andThen_ok]
  simp [go_sem, Std.Legacy.Range.forIn_eq_forIn_range', Std.Legacy.Range.size, List.range', run_equalIn_int _ d 5 .u8 .u8 _ _ Tryd.underlying5]
set_option maxHeartbeats 4000000 in
theorem lawBytes (a x y z t : Int) (ha : 0 ≤ a) (ha' : a < 4294967296) (hx : 0 ≤ x) (hx' : x ≤ 255) (hy : 0 ≤ y) (hy' : y ≤ 255) (hz : 0 ≤ z) (hz' : z ≤ 255) (ht : 0 ≤ t) (ht' : t ≤ 255) (w : World) (hE : Env w) :
    Calls Tryd.prog 5 #[.int .u32 a, .agg #[.int .u8 x, .int .u8 y, .int .u8 z, .int .u8 t]] w fun e w' => e = .returned (.bool true) ∧ Below w.heap.size w w' := by
  have f0 : (a / 16777216 != a / 16777216) = false := by simp
  have f1 : (a / 65536 % 256 != a / 65536 % 256) = false := by simp
  have f2 : (a / 256 % 256 != a / 256 % 256) = false := by simp
  have f3 : (a % 256 != a % 256) = false := by simp
  go_enter Tryd.func5, Tryd.ntmps5
  go_wp2_with fail
  refine (bytes_any a ha ha' _).mono ?_; rintro e w1 ⟨rfl, hb1⟩
  have hz1 := hb1.size
  go_wp2_with fail
  refine wp_loop_rounds 5 ?_
  rw [rounds_succ]
  go_wp2_with fail
  go_quiet ((go_at_call 20; exact Calls.quiet_of_same ((refByte0 a ha ha' _).mono fun _ _ h => ⟨h.1, h.2.symm⟩)))
  revert nq; intro m0
  go_wp2_with fail
  rw [rounds_succ]
  go_wp2_with fail
  go_quiet ((go_at_call 20; exact quietAL (refByte1 a ha ha' _)))
  revert nq; intro m1
  go_wp2_with fail
  rw [rounds_succ]
  go_wp2_with fail
  go_quiet ((go_at_call 20; exact quietAL (refByte2 a ha ha' _)))
  revert nq; intro m2
  go_wp2_with fail
  rw [rounds_succ]
  go_wp2_with fail
  go_quiet ((go_at_call 20; exact quietAL (refByte3 a ha ha' _)))
  revert nq; intro m3
  go_wp2_with fail
  rw [rounds_succ]
  go_wp2_with fail
  have HB := Lib.hid (back_eq a)
  have hT := two4_start w w1 x y z t (a / 16777216) (a / 65536 % 256) (a / 256 % 256) (a % 256) (m0 + m1 + m2 + m3) (hb1.mono (by simp))
  clear f0 f1 f2 f3
  generalize (w1.alloc (Obj.cells #[.int .u8 (a / 16777216), .int .u8 (a / 65536 % 256), .int .u8 (a / 256 % 256), .int .u8 (a % 256)] 32)).drewN (m0 + m1 + m2 + m3) = W0 at hT ⊢
  clear hb1 hz1
  have heq : ∀ W, (Op.equalIn 10000 32 (.agg #[.int .u8 x, .int .u8 y, .int .u8 z, .int .u8 t]) (.agg #[.int .u8 x, .int .u8 y, .int .u8 z, .int .u8 t])).run Tryd.prog W = .ok true W := fun W => arr_eqd 9998 x y z t W
  have k0 := hT.c0; have k1 := hT.c1; have k2 := hT.c2; have k3 := hT.c3; have j0 := hT.d0; have j1 := hT.d1; have j2 := hT.d2; have j3 := hT.d3
  go_region_with (first
    | (go_at_call 21; refine (of_any _ _ _ _ (by omega) (by omega) (by omega) (by omega) (by omega) (by omega) (by omega) (by omega) _).mono ?_; rintro e w2 ⟨rfl, hb2⟩; (try rw [HB.out]); (first | have hT2 := Two4.keep (by assumption) hb2 | have hT2 := Two4.keep (Two4.drewN (by assumption) _) hb2); have k0 := hT2.c0; have k1 := hT2.c1; have k2 := hT2.c2; have k3 := hT2.c3; have j0 := hT2.d0; have j1 := hT2.d1; have j2 := hT2.d2; have j3 := hT2.d3)
    | (go_at_call 19; refine (bytes_of x y z t hx hx' hy hy' hz hz' ht ht' _).mono ?_; rintro e w2 ⟨rfl, hb2⟩; (first | have hT2 := Two4.keep (by assumption) hb2 | have hT2 := Two4.keep (Two4.drewN (by assumption) _) hb2); have k0 := hT2.c0; have k1 := hT2.c1; have k2 := hT2.c2; have k3 := hT2.c3; have j0 := hT2.d0; have j1 := hT2.d1; have j2 := hT2.d2; have j3 := hT2.d3)
    | (go_at_call 17; refine (awake_any _ (hE.below (Two4.bel (by assumption)))).mono ?_; rintro e w2 ⟨rfl, hb2⟩; (first | have hT2 := Two4.keep (by assumption) hb2 | have hT2 := Two4.keep (Two4.drewN (by assumption) _) hb2); have k0 := hT2.c0; have k1 := hT2.c1; have k2 := hT2.c2; have k3 := hT2.c3; have j0 := hT2.d0; have j1 := hT2.d1; have j2 := hT2.d2; have j3 := hT2.d3))
  all_goals
    go_wp2
    go_ret
    exact ⟨rfl, Two4.bel (by assumption)⟩
end Go.Proofs.YtdhkacejefkejaaDoor
