/- Package image: attributes and free slots that are read. -/
import Derived.Test.YtgodmnpcedfdcaaImBy
import Derived.Test.YtgodmnpcedfdcaaPkT
namespace Go.Proofs.Ytgodmnpcedfdcaa
open Go.RowKit
theorem RdP.belowN {g B n : Nat} {st : Option (List Int)} {w w' : World} (hr : RdP g B st w) (hb : Below n w w') (hg : g < n) : RdP g B st w' := by
  obtain ⟨v, h, hs, hd, ho, hl, hB⟩ := hr
  refine ⟨v, (hb.block g hg).trans h, sees_heap hs (fun d hd' _ => hb.block d (by have := hd d hd'; omega)), hd, ho, hl, hB⟩
theorem grown_belowB {g B : Nat} {w a b : World} (h : w.grownBy a (some g)) (k : Below B a b) (hB : w.heap.size ≤ B) : w.grownBy b (some g) :=
  ⟨k.os.trans h.os, k.tape.trans h.tape, k.output.trans h.output, Nat.le_trans h.size k.size, fun i hi hne => (k.block i (by omega)).trans (h.block i hi hne)⟩
theorem rdAs_step {n i : Nat} {st s1 : Option (List Int)} {X : List PA} (h : rdAs n st = (X ++ (rdAs (n - i) s1).1, (rdAs (n - i) s1).2)) (hi : i < n) :
    rdAs n st = ((X ++ [(strOfNums (rdT s1).1, strOfNums (rdT (rdT s1).2).1)]) ++ (rdAs (n - (i + 1)) (rdT (rdT s1).2).2).1, (rdAs (n - (i + 1)) (rdT (rdT s1).2).2).2) := by
  rw [h, show n - i = (n - (i + 1)) + 1 from by omega, rdAs]
  simp
theorem rdFs_step {n i : Nat} {st s1 : Option (List Int)} {X : List Int} (h : rdFs n st = (X ++ (rdFs (n - i) s1).1, (rdFs (n - i) s1).2)) (hi : i < n) :
    rdFs n st = ((X ++ [(rdU s1 1).1]) ++ (rdFs (n - (i + 1)) (rdU s1 1).2).1, (rdFs (n - (i + 1)) (rdU s1 1).2).2) := by
  rw [h, show n - i = (n - (i + 1)) + 1 from by omega, rdFs]
  simp
set_option maxRecDepth 100000 in
set_option maxHeartbeats 4000000 in
theorem readAttrs_any (g : Nat) (st : Option (List Int)) (n : Nat) (w : World) (h : RdP g g st w) (hn : n ≤ 255) :
    Calls Try.prog 72 #[.pointer (some ⟨g, 0, none⟩), .int .i64 n] w fun e w' => ∃ v', e = .returned v' ∧ RowA EAt w' w.heap.size v' (rdAs n st).1 ∧ RdP g g (rdAs n st).2 w' ∧ w.grownBy w' (some g) := by
  have hgw : g < w.heap.size := by obtain ⟨_, hh, _⟩ := h; exact heap_lt hh
  have HR := Lib.hid h
  have HGW := Lib.hid hgw
  clear h hgw
  go_enter Try.func72, Try.ntmps72
  go_wp2_with fail
  go_loopw [5, 8] (fun u j wr => ∃ (i : Nat) (X : List PA) (s1 : Option (List Int)), i ≤ n ∧ j = .int .i64 i ∧ Hid (∃ ao m c, u = .slice ao m c) ∧ Hid (X.length = i ∧ rdAs n st = (X ++ (rdAs (n - i) s1).1, (rdAs (n - i) s1).2)) ∧ Hid (RowA EAt wr w.heap.size u X) ∧ Hid (RdP g g s1 wr) ∧ Hid (w.grownBy wr (some g))) (fun _ j _ => n - (intOf j).toNat)
  case atStart => exact ⟨0, [], st, Nat.zero_le _, rfl, Lib.hid ⟨none, 0, 0, rfl⟩, Lib.hid ⟨rfl, by simp⟩, Lib.hid (World.ownsRow_nil _ _ _ _), HR, Lib.hid (World.grownBy.refl _ _)⟩
  case round =>
    obtain ⟨i, X, s1, hi, rfl, HU, HE, HO, HRd, HG⟩ := hrel
    obtain ⟨ao, m, c, rfl⟩ := HU.out
    by_cases hlt : i < n
    · have d1 : decide ((i : Int) < (n : Int)) = true := by simp; omega
      have HT1 := Lib.hid (text_any g g s1 _ HRd.out)
      have HST := Lib.hid (rdAs_step HE.out.2 hlt)
      have HLT := Lib.hid hlt
      have hXl : X.length ≤ 1000001 := by rw [HE.out.1]; omega
      have HT2 := Lib.hid (fun w h => text_any g g (rdT s1).2 w h)
      generalize rdT (rdT s1).2 = t2 at *
      generalize rdT s1 = t1 at *
      clear hlt
      go_wp2_with fail
      refine HT1.out.mono ?_; rintro e w2 ⟨rfl, hR2, hg2⟩
      have HO2 : Hid (RowA EAt w2 w.heap.size (.slice ao m c) X) := Lib.hid (own_grown HO.out hg2 HGW.out)
      have HG2 := Lib.hid (grown_trans HG.out hg2)
      have HT3 := Lib.hid (HT2.out _ hR2)
      clear hR2 hg2
      go_wp2_with fail
      refine HT3.out.mono ?_; rintro e w3 ⟨rfl, hR3, hg3⟩
      have HO3 : Hid (RowA EAt w3 w.heap.size (.slice ao m c) X) := Lib.hid (own_grown HO2.out hg3 HGW.out)
      have HG3 := Lib.hid (grown_trans HG2.out hg3)
      have HR3 := Lib.hid hR3
      clear hR3 hg3
      go_wp2_with (at_builtin; refine wpList_pushA (w0 := w3) Try.underlying30 infoA rfl (.tmp 12) (.tmp 17) rfl w.heap.size _ X (strOfNums t1.1, strOfNums t2.1) w3.heap.size rfl rfl rfl HO3.out hXl HG3.out.size ?_; intro v5 w5 ho5 hb5 hg5; have HO5 := Lib.hid ho5; have HG5 := Lib.hid (grown_belowB HG3.out hb5 (Nat.le_refl _)); have HR5 := Lib.hid (HR3.out.belowN hb5 HGW.out); have HU5 := Lib.hid (own_form ho5); clear ho5 hb5 hg5)
      go_roundw
      case rel => exact ⟨i + 1, X ++ [(strOfNums t1.1, strOfNums t2.1)], t2.2, HLT.out, by go_num, HU5, Lib.hid ⟨by rw [List.length_append, HE.out.1]; rfl, HST.out⟩, HO5, HR5, HG5⟩
      case measure => simp [intOf]; have := HLT.out; omega
    · obtain rfl : i = n := by omega
      have d1 : decide ((i : Int) < (i : Int)) = false := by simp
      have HV : Hid (rdAs i st = (X, s1)) := Lib.hid (by
        rw [HE.out.2, Nat.sub_self]; simp [rdAs])
      go_wp2_with fail
      go_ret
      exact ⟨_, rfl, by rw [HV.out]; exact HO.out, by rw [HV.out]; exact HRd.out, HG.out⟩
set_option maxRecDepth 100000 in
set_option maxHeartbeats 4000000 in
theorem readFree_any (g : Nat) (st : Option (List Int)) (n : Nat) (w : World) (h : RdP g g st w) (hn : n ≤ 255) :
    Calls Try.prog 73 #[.pointer (some ⟨g, 0, none⟩), .int .i64 n] w fun e w' => ∃ v', e = .returned v' ∧ Owns w' w.heap.size v' (rdFs n st).1 ∧ RdP g g (rdFs n st).2 w' ∧ w.grownBy w' (some g) := by
  have hgw : g < w.heap.size := by obtain ⟨_, hh, _⟩ := h; exact heap_lt hh
  have HR := Lib.hid h
  have HGW := Lib.hid hgw
  clear h hgw
  go_enter Try.func73, Try.ntmps73
  go_wp2_with fail
  go_loopw [5, 7] (fun u j wr => ∃ (i : Nat) (X : List Int) (s1 : Option (List Int)), i ≤ n ∧ j = .int .i64 i ∧ Hid (∃ ao m c, u = .slice ao m c) ∧ Hid (X.length = i ∧ rdFs n st = (X ++ (rdFs (n - i) s1).1, (rdFs (n - i) s1).2)) ∧ Hid (wr.ownsRow w.heap.size 5 1 u i (cells8 X)) ∧ Hid (RdP g g s1 wr) ∧ Hid (w.grownBy wr (some g))) (fun _ j _ => n - (intOf j).toNat)
  case atStart => exact ⟨0, [], st, Nat.zero_le _, rfl, Lib.hid ⟨none, 0, 0, rfl⟩, Lib.hid ⟨rfl, by simp⟩, Lib.hid (World.ownsRow_nil _ _ _ _), HR, Lib.hid (World.grownBy.refl _ _)⟩
  case round =>
    obtain ⟨i, X, s1, hi, rfl, HU, HE, HO, HRd, HG⟩ := hrel
    obtain ⟨ao, m, c, rfl⟩ := HU.out
    by_cases hlt : i < n
    · have d1 : decide ((i : Int) < (n : Int)) = true := by simp; omega
      have HT1 := Lib.hid (u_any g g s1 1 _ HRd.out)
      have HST := Lib.hid (rdFs_step HE.out.2 hlt)
      have HLT := Lib.hid hlt
      obtain ⟨h0, h1⟩ := rdU_ok HRd.out 1
      have h1 : (rdU s1 1).1 < 256 := h1
      generalize rdU s1 1 = t1 at *
      have hw1 : IntKind.u8.wrap t1.1 = t1.1 := by rw [IntKind.wrap_u8]; omega
      have hXl : i ≤ 1000001 := by omega
      clear hlt h0 h1
      go_wp2_with fail
      refine HT1.out.mono ?_; rintro e w2 ⟨rfl, hR2, hg2⟩
      have HO2 := Lib.hid (own_grown HO.out hg2 HGW.out)
      have HG2 := Lib.hid (grown_trans HG.out hg2)
      have HR2 := Lib.hid hR2
      clear hR2 hg2
      go_wp2_with (at_builtin; refine wpList_push1 (w0 := w2) Try.underlying24 info8 rfl (by decide) rfl (.tmp 9) (.tmp 13) rfl w.heap.size _ i (cells8 X) (.int .u8 t1.1) w2.heap.size rfl rfl rfl HO2.out hXl HG2.out.size rfl ?_; intro v5 w5 ho5 hb5 _; have HO5 := Lib.hid ho5; have HG5 := Lib.hid (grown_belowB HG2.out hb5 (Nat.le_refl _)); have HR5 := Lib.hid (HR2.out.belowN hb5 HGW.out); have HU5 := Lib.hid (own_form ho5); clear ho5 hb5)
      go_roundw
      case rel => exact ⟨i + 1, X ++ [t1.1], t1.2, HLT.out, by go_num, HU5, Lib.hid ⟨by rw [List.length_append, HE.out.1]; rfl, HST.out⟩, Lib.hid (by have := HO5.out; unfold cells8; rw [List.map_append]; exact this), HR5, HG5⟩
      case measure => simp [intOf]; have := HLT.out; omega
    · obtain rfl : i = n := by omega
      have d1 : decide ((i : Int) < (i : Int)) = false := by simp
      have HV : Hid (rdFs i st = (X, s1)) := Lib.hid (by
        rw [HE.out.2, Nat.sub_self]; simp [rdFs])
      have HO' : Hid (Owns wr w.heap.size (.slice ao m c) X) := Lib.hid (by have := HO.out; rw [← HE.out.1] at this; exact this)
      go_wp2_with fail
      go_ret
      exact ⟨_, rfl, by rw [HV.out]; exact HO'.out, by rw [HV.out]; exact HRd.out, HG.out⟩
end Go.Proofs.Ytgodmnpcedfdcaa
