/- Package handle: counts that are read. -/
import Derived.Test.YtcgkambkfaeceaaHnMath
import Derived.Test.YtcgkambkfaeceaaHnSlE
namespace Go.Proofs.Ytcgkambkfaeceaa
open Go.RowKit
theorem RdP.belowN {g B n : Nat} {st : Option (List Int)} {w w' : World} (hr : RdP g B st w) (hb : Below n w w') (hg : g < n) : RdP g B st w' := by
  obtain ⟨v, h, hs, hd, ho, hl, hB⟩ := hr
  refine ⟨v, (hb.block g hg).trans h, sees_heap hs (fun d hd' _ => hb.block d (by have := hd d hd'; omega)), hd, ho, hl, hB⟩
theorem row_grown {E : TypeId} {B g : Nat} {w w' : World} {v : Value} {L : CntL} (h : RowE E w B v L) (hg : w.grownBy w' (some g)) (hB : g < B) : RowE E w' B v L :=
  ⟨h.1, h.2.imp id fun ⟨b, cap, cur, e, hb, hh, r⟩ => ⟨b, cap, cur, e, hb, (hg.block b (heap_lt hh) (fun e => by have := Option.some.inj e; omega)).trans hh, r⟩⟩
theorem grown_belowB {g B : Nat} {w a b : World} (h : w.grownBy a (some g)) (k : Below B a b) (hB : w.heap.size ≤ B) : w.grownBy b (some g) :=
  ⟨k.os.trans h.os, k.tape.trans h.tape, k.output.trans h.output, Nat.le_trans h.size k.size, fun i hi hne => (k.block i (by omega)).trans (h.block i hi hne)⟩
theorem sl_len {E : TypeId} {w : World} {B : Nat} {v : Value} {L : CntL} (h : RowE E w B v L) : ∃ ao n c, v = .slice ao n c ∧ n = L.length := by
  obtain ⟨ao, c, e, -⟩ := h.sees
  exact ⟨ao, _, c, e, rfl⟩
def lenV : Value → Nat
  | .slice _ n _ => n
  | _ => 0
set_option maxRecDepth 100000 in
set_option maxHeartbeats 4000000 in
theorem readCounts_any (g : Nat) (st : Option (List Int)) (n : Nat) (w : World) (h : RdP g g st w) (hn : n ≤ 65535) :
    Calls Try.prog 30 #[.pointer (some ⟨g, 0, none⟩), .int .i64 n] w fun e w' => ∃ v', e = .returned v' ∧ RowE EC w' w.heap.size v' (rdC n st).1 ∧ RdP g g (rdC n st).2 w' ∧ w.grownBy w' (some g) := by
  have hgw : g < w.heap.size := by obtain ⟨_, hh, _⟩ := h; exact heap_lt hh
  have HR := Lib.hid h
  have HGW := Lib.hid hgw
  clear h hgw
  go_enter Try.func30, Try.ntmps30
  go_wp2_with fail
  go_loopw [5] (fun u wr => ∃ (X : CntL) (ao : Option Addr) (c : Nat) (s1 : Option (List Int)), u = .slice ao X.length c ∧ X.length ≤ n ∧ Hid (rdC n st = (X ++ (rdC (n - X.length) s1).1, (rdC (n - X.length) s1).2)) ∧ Hid (RowE EC wr w.heap.size u X) ∧ Hid (RdP g g s1 wr) ∧ Hid (w.grownBy wr (some g))) (fun u _ => n - lenV u)
  case atStart => exact ⟨[], none, 0, st, rfl, Nat.zero_le _, Lib.hid (by simp), Lib.hid (World.ownsRow_nil _ _ _ _), HR, Lib.hid (World.grownBy.refl _ _)⟩
  case round =>
    obtain ⟨X, ao, c, s1, rfl, hXn, HE, HO, HRd, HG⟩ := hrel
    by_cases hlt : X.length < n
    · have d1 : decide ((X.length : Int) < (n : Int)) = true := by simp; omega
      have HBA := Lib.hid (bad_any g g s1 _ HRd.out)
      cases s1 with
      | none =>
        have HV : Hid (rdC n st = (X, none)) := Lib.hid (by rw [HE.out, rdC_none]; simp)
        go_wp2_with fail
        refine HBA.out.mono ?_; rintro e w2 ⟨rfl, rfl⟩
        go_wp2_with fail
        go_ret
        exact ⟨_, rfl, by rw [HV.out]; exact HO.out, by rw [HV.out]; exact HRd.out, HG.out⟩
      | some l =>
        have hok : okB l := by obtain ⟨_, _, _, _, ho, _⟩ := HRd.out; exact ho
        obtain ⟨a1, a2, a3⟩ := rdU_bd2 (some l) hok 4 (by decide)
        obtain ⟨b1, b2, b3⟩ := rdU_bd2 (rdU (some l) 4).2 a3 2 (by decide)
        have HU1 := Lib.hid (u_any g g (some l) 4 _ HRd.out)
        have HU2 := Lib.hid (fun w h => u_any g g (rdU (some l) 4).2 2 w h)
        have HN : Hid (rdC n st = ((X ++ [((rdU (some l) 4).1, (rdU (rdU (some l) 4).2 2).1)]) ++ (rdC (n - (X.length + 1)) (rdU (rdU (some l) 4).2 2).2).1, (rdC (n - (X.length + 1)) (rdU (rdU (some l) 4).2 2).2).2)) := Lib.hid (by
          rw [HE.out, show n - X.length = (n - (X.length + 1)) + 1 from by omega, rdC]
          simp)
        generalize rdU (rdU (some l) 4).2 2 = U2 at *
        generalize rdU (some l) 4 = U1 at *
        obtain ⟨x1, s2⟩ := U1
        obtain ⟨x2, s3⟩ := U2
        simp only [] at *
        have c4 : (256 : Int) ^ (4 : Int).toNat = 4294967296 := by decide
        have c2 : (256 : Int) ^ (2 : Int).toNat = 65536 := by decide
        rw [c4] at a2
        rw [c2] at b2
        have hw1 : IntKind.u32.wrap x1 = x1 := by rw [IntKind.wrap_u32]; omega
        have hw2 : IntKind.i64.wrap x2 = x2 := IntWalk.i64_in _ (by omega)
        have hXl : X.length ≤ 1000001 := by omega
        have HLT := Lib.hid hlt
        clear c4 c2 a3 b3 hok hlt
        go_wp2_with fail
        refine HBA.out.mono ?_; rintro e w2 ⟨rfl, rfl⟩
        go_wp2_with fail
        refine HU1.out.mono ?_; rintro e w3 ⟨rfl, hR3, hg3⟩
        have HO3 := Lib.hid (row_grown HO.out hg3 HGW.out)
        have HG3 := Lib.hid (grown_trans HG.out hg3)
        have HU3 := Lib.hid (HU2.out _ hR3)
        clear hR3 hg3
        go_wp2_with fail
        refine HU3.out.mono ?_; rintro e w4 ⟨rfl, hR4, hg4⟩
        have HO4 := Lib.hid (row_grown HO3.out hg4 HGW.out)
        have HG4 := Lib.hid (grown_trans HG3.out hg4)
        have HR4 := Lib.hid hR4
        clear hR4 hg4
        go_wp2_with (at_builtin; refine wpList_push (w0 := w4) Try.underlying23 infoC rfl (.tmp 19) (.tmp 25) rfl w.heap.size _ X (x1, x2) w4.heap.size rfl rfl rfl HO4.out hXl HG4.out.size ?_; intro v' w5 ho5 hb5 hg5; have HO5 := Lib.hid ho5; have HG5 := Lib.hid (grown_belowB HG4.out hb5 (Nat.le_refl _)); have HR5 := Lib.hid (HR4.out.belowN hb5 HGW.out); obtain ⟨ao5, n5, c5, rfl, hn5⟩ := sl_len ho5; have HN5 := Lib.hid hn5; clear ho5 hb5 hg5 hn5)
        go_roundw
        case rel => exact ⟨X ++ [(x1, x2)], _, _, s3, by rw [HN5.out], by have := HLT.out; simp; omega, Lib.hid (by rw [HN.out]; simp), HO5, HR5, HG5⟩
        case measure => have := HLT.out; have := HN5.out; simp [lenV] at *; omega
    · have d1 : decide ((X.length : Int) < (n : Int)) = false := by simp; omega
      have HV : Hid (rdC n st = (X, s1)) := Lib.hid (by
        rw [HE.out, show n - X.length = 0 from by omega]; simp [rdC])
      go_wp2_with fail
      go_ret
      exact ⟨_, rfl, by rw [HV.out]; exact HO.out, by rw [HV.out]; exact HRd.out, HG.out⟩
end Go.Proofs.Ytcgkambkfaeceaa
