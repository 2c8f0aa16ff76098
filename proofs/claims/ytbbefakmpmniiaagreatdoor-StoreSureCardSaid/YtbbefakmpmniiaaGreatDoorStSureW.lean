/- The walk of StoreSure. -/
import Derived.Test.YtbbefakmpmniiaaGreatDoorStSureH
import Derived.Deep.LoopGhost
namespace Go.Proofs.YtbbefakmpmniiaaGreatDoor
open Go.RowKit Go.Maps
open KV (bcell bdrew)
set_option maxRecDepth 100000 in
set_option maxHeartbeats 64000000 in
theorem lawStoreSure (w : World) (n0 : Int) (v : Value) (os : List KV.KOp) (vc : Value) (cs : List CrS) (h00 : 0 ≤ n0) (h01 : n0 ≤ 255) (h : KV.ArgOps9 w v os) (hcr : ArgCrs w vc cs) (hE : Env w) :
    Calls Tryz.prog 4 #[.int .u8 n0, v, vc] w fun e w' => e = .returned (.bool true) ∧ Below w.heap.size w w' := by
  obtain ⟨⟨ao, c, rfl, hlc, hnil, hc⟩, hok, hlm⟩ := h
  obtain ⟨⟨ac, cc, rfl, hlcc, hnilc, hcc⟩, hokc, hlmc⟩ := hcr
  have HC := Lib.hid (And.intro hnil (And.intro hc hok))
  have HCC := Lib.hid (And.intro hnilc (And.intro hcc hokc))
  have HAw := Lib.hid (fun (w1 : World) (hb : Below w.heap.size w w1) => awake11_any w1 (hE.below hb))
  have HE := Lib.hid hE
  have hlm2 : os.length ≤ 9223372036854775807 := by unfold maxLen at hlm; omega
  have hlm3 : cs.length ≤ 9223372036854775807 := by unfold maxLen at hlmc; omega
  clear hnil hc hok hnilc hcc hokc hlm hlmc hE
  go_enter Tryz.func4, Tryz.ntmps4
  go_wp2_with fail
  refine (new_disk w).mono ?_; rintro e w1 ⟨g, rfl, hD1, hg, hb1⟩
  go_upto_region 4 with fail
  obtain ⟨w2, hw2⟩ : ∃ w2, w2 = w1.alloc (KV.stO 0 (.slice none 0 0)) := ⟨_, rfl⟩
  have hx2 : w2.heap[w1.heap.size]? = some (KV.stO 0 (.slice none 0 0)) := by rw [hw2]; exact heap_alloc_new w1 _
  have hb12 : Below w1.heap.size w1 w2 := by rw [hw2]; exact belNew w1 _
  change Code.wp _ _ _ _ (w1.alloc (KV.stO 0 (.slice none 0 0)))
  rw [← hw2]
  obtain ⟨B, hB⟩ : ∃ B, B = w1.heap.size := ⟨_, rfl⟩
  rw [← hB] at hx2 ⊢
  have hD2 := hD1.below hb12
  have hgB : g ≠ B := by have := DiskAt.lt hD1 (show (fun x => x = g) g from rfl); omega
  have hwB : w.heap.size ≤ B := by rw [hB]; exact hb1.size
  have hB2 := hb1.trans (hb12.mono hb1.size)
  clear hD1 hw2 hb12 hb1 hB
  go_wp2_with fail
  go_loopw [9, 28] (fun av j wr => ∃ (i a : Nat) (S : KV.KSt) (vr : Value) (P : Nat → Prop) (D : DSt), i ≤ cs.length ∧ i ≤ 5 ∧ av = .int .i64 a ∧ j = .int .i64 i ∧ a ≤ os.length ∧ Hid (DiskAt wr g P D ∧ SureD (12 * i) D S ∧ wr.heap[B]? = some (KV.stO S.rev vr) ∧ KV.SeesI wr vr S.L ∧ (¬ P B ∧ ∀ d, vr.ownBlock = some d → d ≠ B ∧ ¬ P d ∧ d < wr.heap.size) ∧ (∀ i, P i → w.heap.size ≤ i) ∧ w.heap.size ≤ B ∧ Below w.heap.size w wr)) (fun av j _ => cs.length - (intOf j).toNat)
  case atStart => exact ⟨0, 0, ⟨0, []⟩, .slice none 0 0, _, _, Nat.zero_le _, by omega, rfl, rfl, Nat.zero_le _, Lib.hid ⟨hD2, sure0, hx2, ⟨none, 0, rfl, Nat.le_refl _, fun _ => rfl, fun a h => by cases h⟩, ⟨fun e => hgB (by have e' : B = g := e; exact e'.symm), fun d hd => by cases hd⟩, fun i e => by rw [show i = g from e]; exact hg, hwB, hB2⟩⟩
  case round =>
    obtain ⟨i, a, S, vr, P, D, hi, hi5, rfl, rfl, ha, HJ⟩ := hrel
    clear hD2 hx2 hgB hwB hB2 hg
    by_cases hlt : i < cs.length
    · obtain ⟨a1, rfl⟩ : ∃ a, ac = some a := by
        cases ac with
        | none => rw [HCC.out.1 rfl] at hlt; simp at hlt
        | some a => exact ⟨a, rfl⟩
      have hop := HCC.out.2.1 a1 rfl i hlt
      have hokx := HCC.out.2.2 (cs.getD i default) (by rw [List.getD_eq_getElem?_getD, List.getElem?_eq_getElem hlt]; exact List.getElem_mem hlt)
      generalize cs.getD i default = cr at hop hokx
      obtain ⟨q0, q1, q2⟩ := hop
      obtain ⟨hat, hks, hksl⟩ := hokx
      have HBW := Lib.hid HJ.out.2.2.2.2.2.2.2
      have HSU : Hid (SeesU w cr.kv cr.ks ∧ (∀ x ∈ cr.ks, 0 ≤ x ∧ x < 65536) ∧ ∀ h0 : cr.ks ≠ [], ∀ d, cr.kv.ownBlock = some d → d < w.heap.size) := Lib.hid ⟨q2, hks, fun h0 d hd => seesU_lt q2 h0 d hd⟩
      have q0 := bcell HBW.out q0
      have q1 := KV.off1 (bcell HBW.out q1)
      obtain ⟨hkao, hkc, hkv⟩ := seesU_form q2
      have b0 : (0 : Int) ≤ (i : Int) := by omega
      have b1 : (i : Int) < (cs.length : Int) := by omega
      by_cases h5 : 5 ≤ i
      · have d1 : decide ((5 : Int) ≤ (i : Int)) = true := by simp; omega
        have hbn := belNew wr (crO cr)
        have HBN := Lib.hid (HBW.out.trans (hbn.mono HBW.out.size))
        rw [hkv] at q0
        go_wp2_with fail
        refine (HAw.out _ (by have h := HBN.out; unfold crO at h; rw [hkv] at h; exact h)).mono ?_; rintro e w8 ⟨rfl, hb8⟩
        have hB8 := HBN.out
        unfold crO at hB8
        rw [hkv] at hB8
        have HB8 := Lib.hid (hB8.trans (hb8.mono hB8.size))
        clear hb8 hB8
        go_wp2_with fail
        go_ret
        exact ⟨rfl, HB8.out⟩
      · have d1 : decide ((5 : Int) ≤ (i : Int)) = false := by simp; omega
        have HLT : Hid (i < cs.length ∧ i + 1 ≤ cs.length) := Lib.hid ⟨hlt, by omega⟩
        have HI5 : Hid (i < 5) := Lib.hid (by omega)
        obtain ⟨w2, hw2⟩ : ∃ w2, w2 = wr.alloc (crO cr) := ⟨_, rfl⟩
        have hx2 : w2.heap[wr.heap.size]? = some (crO cr) := by rw [hw2]; exact heap_alloc_new wr _
        have hb2 : Below wr.heap.size wr w2 := by rw [hw2]; exact belNew wr _
        rw [hkv] at q0
        go_upto_region 8 with fail
        have hw2' := hw2
        unfold crO at hw2'
        rw [hkv] at hw2'
        change Code.wp _ _ _ _ (wr.alloc (.cells #[.slice hkao cr.ks.length hkc, .int .u8 cr.at_] 78))
        rw [← hw2']
        obtain ⟨C, hC⟩ : ∃ C, C = wr.heap.size := ⟨_, rfl⟩
        rw [← hC] at hx2 ⊢
        have hB2 := HBW.out.trans (hb2.mono HBW.out.size)
        have HO2 := Lib.hid (fun ev => sopen_any g P 3 D ev w2 (HJ.out.1.below hb2) HJ.out.2.1.2.1 (by decide) (HE.out.below hB2))
        have hTB2 : w2.heap[B]? = some (KV.stO S.rev vr) := (hb2.block _ (heap_lt HJ.out.2.2.1)).trans HJ.out.2.2.1
        have hse2 := HJ.out.2.2.2.1.below hb2
        have hBC : B ≠ C := by have := heap_lt HJ.out.2.2.1; omega
        have hPC : ¬ P C := fun hp => by have := DiskAt.lt HJ.out.1 hp; omega
        have H2 := Lib.hid (And.intro hx2 (And.intro hTB2 (And.intro hse2 (And.intro hBC (And.intro hPC (And.intro hB2 (And.intro hb2.size (show C < w2.heap.size from heap_lt hx2))))))))
        have HAT := Lib.hid hat
        clear hw2 hw2' hx2 hb2 hC hB2 hTB2 hse2 hBC hPC hlt h5 hi hi5 q0 q1 q2 hks hksl hat
        go_wp2_with fail
        refine (HO2.out _).mono ?_; rintro e w3 hpost
        obtain ⟨P3, s, k, l, Q3, T3, ev3, rfl, hA3, hG3, hS3, hq3, hl3, hs3⟩ := opens_ev hpost HJ.out.2.1.1 HJ.out.2.1.2.2.2
        obtain ⟨hP3, hb3⟩ := hS3.ge HJ.out.2.2.2.2.2.1 H2.out.2.2.2.2.2.1.size
        have hge3 : ∀ i, ZS P3 Q3 l s i → w.heap.size ≤ i := fun i hi => by
          have hz := H2.out.2.2.2.2.2.1.size
          rcases hi with hi | hi | hi | hi
          · exact hP3 i hi
          · have := hq3 i hi; omega
          · omega
          · omega
        have hPn : ∀ d, d < w2.heap.size → ¬ P d → ¬ ZS P3 Q3 l s d := fun d hd hp hz => by
          rcases hz with h | h | h | h
          · exact (hS3.2 d h).elim hp (fun h => by omega)
          · have := hq3 d h; omega
          · omega
          · omega
        have hBl := heap_lt H2.out.2.1
        have hx3 := (hS3.1.2.2.2.2 B hBl HJ.out.2.2.2.2.1.1).trans H2.out.2.1
        have hc3 := (hS3.1.2.2.2.2 C H2.out.2.2.2.2.2.2.2 H2.out.2.2.2.2.1).trans H2.out.1
        have hse3 : KV.SeesI w3 vr S.L := H2.out.2.2.1.keep (fun d hd hlt => hS3.1.2.2.2.2 d hlt (HJ.out.2.2.2.2.1.2 d hd).2.1)
        have hg3 := hG3.2.2.2.1.1
        have HRI : Hid (KV.Rising S.L ∧ S.L.length ≤ 1000000) := Lib.hid ⟨hg3.1, by have := hg3.2.2.2.1; have := HI5.out; omega⟩
        have hvr3 : ∀ d, vr.ownBlock = some d → d ≠ B ∧ ¬ ZS P3 Q3 l s d ∧ d < w3.heap.size := fun d hd => by
          have h0 := HJ.out.2.2.2.2.1.2 d hd
          have hz := H2.out.2.2.2.2.2.2.1
          exact ⟨h0.1, hPn d (by omega) h0.2.1, by have := hS3.1.2.2.2.1; omega⟩
        have H3 := Lib.hid (And.intro hA3 (And.intro hG3 (And.intro hse3 (And.intro hx3 (And.intro hc3 (And.intro hge3 (And.intro (H2.out.2.2.2.2.2.1.trans hb3) (And.intro (hPn B hBl HJ.out.2.2.2.2.1.1) (And.intro (hPn C H2.out.2.2.2.2.2.2.2 H2.out.2.2.2.2.1) hvr3)))))))))
        have m0 := cell0 hx3
        have m1 := cell1 hx3
        obtain ⟨avr, nvr, cvr, hvr⟩ := KV.sees_slice hse3
        clear hpost hA3 hG3 hS3 hq3 hl3 hs3 hP3 hb3 hge3 hPn hBl hx3 hc3 hse3 hg3 hvr3
        go_upto_region 9 with fail
        refine wp_region_held_drew (S := (fun W => Below w3.heap.size w3 W)) (by kernel_rfl) ?_ (fun r0 => ?_)
        · exact ⟨rfl, rfl, rfl, Nat.le_refl _, fun _ _ => rfl⟩
        refine wpAnyH_take (i := 0) (v := ?_) rfl (by kernel_rfl) (by kernel_rfl) (by kernel_rfl) (fun _ _ _ h => h) (Or.inl ⟨by rfl, ?_⟩) (by assumption) ?_
        rotate_left
        · intro wS hSw
          (try dsimp only at hSw)
          go_simp
          first | done | with_reducible rfl
        try simp only [Act.put, List.getElem_toArray, List.getElem_cons_succ, List.getElem_cons_zero, List.setIfInBounds_toArray, List.set_cons_zero, List.set_cons_succ]
        refine wpAnyH_take (i := 1) (v := ?_) rfl (by kernel_rfl) (by kernel_rfl) (by kernel_rfl) (fun _ _ _ h => h) (Or.inl ⟨by rfl, ?_⟩) (by assumption) ?_
        rotate_left
        · intro wS hSw
          (try dsimp only at hSw)
          go_simp
          first | done | with_reducible rfl
        try simp only [Act.put, List.getElem_toArray, List.getElem_cons_succ, List.getElem_cons_zero, List.setIfInBounds_toArray, List.set_cons_zero, List.set_cons_succ]
        refine wpAnyH_take (i := 2) (v := ?_) rfl (by kernel_rfl) (by kernel_rfl) (by kernel_rfl) (fun _ _ _ h => h) (Or.inl ⟨by rfl, ?_⟩) (by assumption) ?_
        rotate_left
        · intro wS hSw
          (try dsimp only at hSw)
          go_simp
          first | done | with_reducible rfl
        try simp only [Act.put, List.getElem_toArray, List.getElem_cons_succ, List.getElem_cons_zero, List.setIfInBounds_toArray, List.set_cons_zero, List.set_cons_succ]
        refine wpAnyH_take (i := 3) (v := ?_) rfl (by kernel_rfl) (by kernel_rfl) (by kernel_rfl) (fun _ _ _ h => h) (Or.inl ⟨by rfl, ?_⟩) (by assumption) ?_
        rotate_left
        · intro wS hSw
          (try dsimp only at hSw)
          go_simp
          first | done | with_reducible rfl
        try simp only [Act.put, List.getElem_toArray, List.getElem_cons_succ, List.getElem_cons_zero, List.setIfInBounds_toArray, List.set_cons_zero, List.set_cons_succ]
        refine wpAnyH_take (i := 5) (v := ?_) rfl (by kernel_rfl) (by kernel_rfl) (by kernel_rfl) (fun _ _ _ h => h) (Or.inl ⟨by rfl, ?_⟩) (by assumption) ?_
        rotate_left
        · intro wS hSw
          (try dsimp only at hSw)
          go_simp
          first | done | with_reducible rfl
        try simp only [Act.put, List.getElem_toArray, List.getElem_cons_succ, List.getElem_cons_zero, List.setIfInBounds_toArray, List.set_cons_zero, List.set_cons_succ]
        refine wpAnyH_take (i := 6) (v := ?_) rfl (by kernel_rfl) (by kernel_rfl) (by kernel_rfl) (fun _ _ _ h => h) (Or.inl ⟨by rfl, ?_⟩) (by assumption) ?_
        rotate_left
        · intro wS hSw
          (try dsimp only at hSw)
          have m0 := bcell hSw m0
          have m1 := bcell hSw m1
          go_simp
          first | done | with_reducible rfl
        try simp only [Act.put, List.getElem_toArray, List.getElem_cons_succ, List.getElem_cons_zero, List.setIfInBounds_toArray, List.set_cons_zero, List.set_cons_succ]
        refine wpAnyH_ready (rs := [4]) (by kernel_rfl) (by simp) ?_
        refine AllReadyH.cons rfl (fun K hK => ?_) AllReadyH.nil
        go_simp
        refine (srev_any s g l k P3 Q3 T3 S ev3 0 false _ (H3.out.1.below r0)).mono ?_; rintro x wz ⟨rfl, rfl⟩
        refine hK.out _ _ ?_ (fun r1 => ?_)
        · exact r0
        try simp only [Act.put, List.getElem_toArray, List.getElem_cons_succ, List.getElem_cons_zero, List.setIfInBounds_toArray, List.set_cons_zero, List.set_cons_succ]
        refine wpAnyH_take (i := 7) (v := ?_) rfl (by kernel_rfl) (by kernel_rfl) (by kernel_rfl) (fun _ _ _ h => h) (Or.inl ⟨by rfl, ?_⟩) (by assumption) ?_
        rotate_left
        · intro wS hSw
          (try dsimp only at hSw)
          go_simp
          first | done | with_reducible rfl
        try simp only [Act.put, List.getElem_toArray, List.getElem_cons_succ, List.getElem_cons_zero, List.setIfInBounds_toArray, List.set_cons_zero, List.set_cons_succ]
        refine wpAnyH_take (i := 8) (v := ?_) rfl (by kernel_rfl) (by kernel_rfl) (by kernel_rfl) (fun _ _ _ h => h) (Or.inl ⟨by rfl, ?_⟩) (by assumption) ?_
        rotate_left
        · intro wS hSw
          (try dsimp only at hSw)
          go_simp
          first | done | with_reducible rfl
        try simp only [Act.put, List.getElem_toArray, List.getElem_cons_succ, List.getElem_cons_zero, List.setIfInBounds_toArray, List.set_cons_zero, List.set_cons_succ]
        refine wpAnyH_take (i := 9) (v := ?_) rfl (by kernel_rfl) (by kernel_rfl) (by kernel_rfl) (fun _ _ _ h => h) (Or.inl ⟨by rfl, ?_⟩) (by assumption) ?_
        rotate_left
        · intro wS hSw
          (try dsimp only at hSw)
          go_simp
          first | done | with_reducible rfl
        try simp only [Act.put, List.getElem_toArray, List.getElem_cons_succ, List.getElem_cons_zero, List.setIfInBounds_toArray, List.set_cons_zero, List.set_cons_succ]
        refine wpAnyH_take (i := 10) (v := ?_) rfl (by kernel_rfl) (by kernel_rfl) (by kernel_rfl) (fun _ _ _ h => h) (Or.inl ⟨by rfl, ?_⟩) (by assumption) ?_
        rotate_left
        · intro wS hSw
          (try dsimp only at hSw)
          go_simp
          first | done | with_reducible rfl
        try simp only [Act.put, List.getElem_toArray, List.getElem_cons_succ, List.getElem_cons_zero, List.setIfInBounds_toArray, List.set_cons_zero, List.set_cons_succ]
        refine wpAnyH_take (i := 12) (v := ?_) rfl (by kernel_rfl) (by kernel_rfl) (by kernel_rfl) (fun _ _ _ h => h) (Or.inl ⟨by rfl, ?_⟩) (by assumption) ?_
        rotate_left
        · intro wS hSw
          (try dsimp only at hSw)
          go_simp
          first | done | with_reducible rfl
        try simp only [Act.put, List.getElem_toArray, List.getElem_cons_succ, List.getElem_cons_zero, List.setIfInBounds_toArray, List.set_cons_zero, List.set_cons_succ]
        refine wpAnyH_take (i := 13) (v := ?_) rfl (by kernel_rfl) (by kernel_rfl) (by kernel_rfl) (fun _ _ _ h => h) (Or.inl ⟨by rfl, ?_⟩) (by assumption) ?_
        rotate_left
        · intro wS hSw
          (try dsimp only at hSw)
          have m0 := bcell hSw m0
          have m1 := bcell hSw m1
          go_simp
          first | done | with_reducible rfl
        try simp only [Act.put, List.getElem_toArray, List.getElem_cons_succ, List.getElem_cons_zero, List.setIfInBounds_toArray, List.set_cons_zero, List.set_cons_succ]
        refine wpAnyH_ready (rs := [11]) (by kernel_rfl) (by simp) ?_
        refine AllReadyH.cons rfl (fun K hK => ?_) AllReadyH.nil
        go_simp
        refine (sall_any s g l k P3 Q3 T3 S ev3 0 false _ (H3.out.1.below r1) HRI.out.1 HRI.out.2).mono ?_; rintro x w9 ⟨va9, rfl, hra9, hb9⟩
        refine hK.out _ _ ?_ (fun r2 => ?_)
        · exact bel r1 hb9
        try simp only [Act.put, List.getElem_toArray, List.getElem_cons_succ, List.getElem_cons_zero, List.setIfInBounds_toArray, List.set_cons_zero, List.set_cons_succ]
        refine wpAnyH_ready (rs := [14]) (by kernel_rfl) (by simp) ?_
        refine AllReadyH.cons rfl (fun K hK => ?_) AllReadyH.nil
        go_simp
        refine (KV.same_yes va9 (.slice avr nvr cvr) S.L _ (KV.RowE.sees hra9) (by rw [← hvr]; exact H3.out.2.2.1.below (bel r1 hb9)) (by have := HRI.out.2; unfold maxLen; omega)).mono ?_; rintro x w10 ⟨rfl, hb10⟩
        refine hK.out _ _ ?_ (fun r3 => ?_)
        · exact bel r2 hb10
        try simp only [Act.put, List.getElem_toArray, List.getElem_cons_succ, List.getElem_cons_zero, List.setIfInBounds_toArray, List.set_cons_zero, List.set_cons_succ]
        refine wpAnyH_take (i := 15) (v := ?_) rfl (by kernel_rfl) (by kernel_rfl) (by kernel_rfl) (fun _ _ _ h => h) (Or.inl ⟨by rfl, ?_⟩) (by assumption) ?_
        rotate_left
        · intro wS hSw
          (try dsimp only at hSw)
          go_simp
          first | done | with_reducible rfl
        try simp only [Act.put, List.getElem_toArray, List.getElem_cons_succ, List.getElem_cons_zero, List.setIfInBounds_toArray, List.set_cons_zero, List.set_cons_succ]
        refine wpAnyH_take (i := 16) (v := ?_) rfl (by kernel_rfl) (by kernel_rfl) (by kernel_rfl) (fun _ _ _ h => h) (Or.inl ⟨by rfl, ?_⟩) (by assumption) ?_
        rotate_left
        · intro wS hSw
          (try dsimp only at hSw)
          go_simp
          first | done | with_reducible rfl
        try simp only [Act.put, List.getElem_toArray, List.getElem_cons_succ, List.getElem_cons_zero, List.setIfInBounds_toArray, List.set_cons_zero, List.set_cons_succ]
        refine wpAnyH_done (by kernel_rfl) ?_ _
        have HR9 := Lib.hid r3
        clear r0 m0 m1
        have hA10 := H3.out.1.below HR9.out
        have hx10 := (HR9.out.block _ (heap_lt H3.out.2.2.2.1)).trans H3.out.2.2.2.1
        have hc10 := (HR9.out.block _ (heap_lt H3.out.2.2.2.2.1)).trans H3.out.2.2.2.2.1
        have k1 := cell1 hc10
        have s24 : IntKind.i64.wrap cr.at_ = cr.at_ := IntWalk.i64_in _ (by have := HAT.out; omega)
        have t24 := tm24 HAT.out.1 24 (by decide)
        have s25 : IntKind.i64.wrap (cr.at_.tmod 24) = cr.at_.tmod 24 := IntWalk.i64_in _ (by omega)
        have HARM := Lib.hid (arm_any g P3 T3.D (cr.at_.tmod 24) w10 hA10.2.1 (by omega) (by omega))
        have H10 := Lib.hid (And.intro hA10 (And.intro hx10 (And.intro hc10 (H3.out.2.2.2.2.2.2.1.trans (HR9.out.mono H3.out.2.2.2.2.2.2.1.size)))))
        clear hA10 hx10 hc10 t24
        go_wp2_with fail
        refine HARM.out.mono ?_; rintro e w11 ⟨rfl, hd11, ht11⟩
        have hA11 := H10.out.1.moved ⟨ht11, fun i hi => Or.inl hi⟩ hd11
        have hG11 := H3.out.2.1.arm (max (cr.at_.tmod 24) 0)
        have hnP : ∀ d, ¬ ZS P3 Q3 l s d → ¬ P3 d := fun d hz hp => hz (Or.inl hp)
        have hx11 := (ht11.2.2.2.2 B (heap_lt H10.out.2.1) (hnP B H3.out.2.2.2.2.2.2.2.1)).trans H10.out.2.1
        have hc11 := (ht11.2.2.2.2 C (heap_lt H10.out.2.2.1) (hnP C H3.out.2.2.2.2.2.2.2.2.1)).trans H10.out.2.2.1
        have hse11 : KV.SeesI w11 vr S.L := (H3.out.2.2.1.below HR9.out).keep (fun d hd hlt => ht11.2.2.2.2 d hlt (hnP d (H3.out.2.2.2.2.2.2.2.2.2 d hd).2.1))
        have hvr11 : ∀ d, vr.ownBlock = some d → d ≠ B ∧ ¬ ZS P3 Q3 l s d ∧ d < w11.heap.size := fun d hd => by
          have h0 := H3.out.2.2.2.2.2.2.2.2.2 d hd
          have z1 := HR9.out.size
          have z2 := ht11.2.2.2.1
          exact ⟨h0.1, h0.2.1, by omega⟩
        have hBw11 := H10.out.2.2.2.trans (ht11.below H10.out.2.2.2.size (fun i hp => H3.out.2.2.2.2.2.1 i (Or.inl hp)))
        have hTB := TB.init (Z := ZS P3 Q3 l s) (n := w.heap.size) hx11 hc11 hse11 HRI.out.2 hvr11 H3.out.2.2.2.2.2.2.2.1 H3.out.2.2.2.2.2.2.2.2.1 hA11.zlt HJ.out.2.2.2.2.2.2.1 H2.out.2.2.2.1
        have hbn := belNew w11 (KV.stO S.rev vr)
        have H12 := Lib.hid (And.intro (hA11.below hbn) (And.intro hG11 (And.intro hTB (And.intro H3.out.2.2.2.2.2.1 (hBw11.trans (hbn.mono hBw11.size))))))
        have s0 := cell0 hx11
        have s1 := cell1 hx11
        rw [hvr] at s1
        clear hd11 ht11 hA11 hG11 hnP hx11 hc11 hse11 hvr11 hBw11 hTB hbn k1
        go_upto_region 13 with fail
        rw [hvr] at H12
        change Code.wp _ _ _ _ (w11.alloc (KV.stO S.rev (.slice avr nvr cvr)))
        obtain ⟨w12, hw12⟩ : ∃ w12, w12 = w11.alloc (KV.stO S.rev (.slice avr nvr cvr)) := ⟨_, rfl⟩
        rw [← hw12] at H12 ⊢
        obtain ⟨M0, hM0⟩ : ∃ M0, M0 = w11.heap.size := ⟨_, rfl⟩
        rw [← hM0] at H12 ⊢
        rw [← hvr] at H12
        clear hw12 hM0 s0 s1
        have HA0 := Lib.hid ha
        clear ha
        go_wp2_with fail
        go_loopw [9, 14, 15] (fun av mv nv wr => ∃ (a m : Nat) (S : KV.KSt) (vr : Value) (P Q : Nat → Prop) (T : WSt) (wn : Int) (M : Nat), a ≤ os.length ∧ m ≤ 12 ∧ av = .int .i64 a ∧ mv = .slice (some ⟨M, 0, none⟩) 1 1 ∧ nv = .int .i64 m ∧ Hid (SAll wr s g l k P Q T S ev3 wn false ∧ GoodS (12 * i + m) true T S ∧ (0 ≤ wn ∧ wn ≤ m) ∧ TB wr B C M (ZS P Q l s) S.rev vr [(S, vr)] cr w.heap.size ∧ (∀ i, ZS P Q l s i → w.heap.size ≤ i) ∧ Below w.heap.size w wr)) (fun av mv nv _ => 12 - (intOf nv).toNat)
        case atStart => exact ⟨a, 0, S, vr, P3, Q3, _, 0, M0, HA0.out, by omega, rfl, rfl, rfl, Lib.hid ⟨H12.out.1, H12.out.2.1, ⟨by decide, by decide⟩, H12.out.2.2.1, H12.out.2.2.2.1, H12.out.2.2.2.2⟩⟩
        case round =>
          clear HJ H2 H3 H10 H12 HR9 HARM HO2 hvr HRI HA0
          obtain ⟨a, m, S, vr, P, Q, T, wn, M, ha, hm12, rfl, rfl, rfl, HJ2⟩ := hrel
          by_cases hmm : m < 12
          · have dm : decide ((m : Int) < 12) = true := by simp; omega
            by_cases hal : a < os.length
            · have da : decide ((a : Int) < (os.length : Int)) = true := by simp; omega
              obtain ⟨a0, rfl⟩ : ∃ a, ao = some a := by
                cases ao with
                | none => rw [HC.out.1 rfl] at hal; simp at hal
                | some a => exact ⟨a, rfl⟩
              have hop := HC.out.2.1 a0 rfl a hal
              have hokx := HC.out.2.2 (os.getD a default) (by rw [List.getD_eq_getElem?_getD, List.getElem?_eq_getElem hal]; exact List.getElem_mem hal)
              generalize os.getD a default = o at hop hokx
              have HBW := Lib.hid HJ2.out.2.2.2.2.2
              obtain ⟨q0, q1, q2, q3, q4, q5⟩ := hop
              have q0 := bcell HBW.out q0
              have q1 := KV.off1 (bcell HBW.out q1)
              have q2 := KV.off2 (bcell HBW.out q2)
              have q3 := KV.off3 (bcell HBW.out q3)
              have q4 := KV.off4 (bcell HBW.out q4)
              have q5 := KV.off5 (bcell HBW.out q5)
              have b0 : (0 : Int) ≤ (a : Int) := by omega
              have b1 : (a : Int) < (os.length : Int) := by omega
              have HO := Lib.hid (KV.ours_any o)
              have hxo := KV.ours_ok hokx
              have hv : (KV.ours o).val.size ≤ 100 := KV.cutB_le _ _
              have HX := Lib.hid (And.intro hv hxo)
              clear hv hxo hokx
              generalize KV.ours o = x at HO HX
              go_upto_region 18 with (first
                | (go_at_call 13; refine (HO.out _).mono ?_; rintro e w2 ⟨rfl, hb2⟩)
                | go_in)
              obtain ⟨w3, hw3⟩ : ∃ w3, w3 = (w2.alloc (KV.opO x)).alloc (KV.opR x) := ⟨_, rfl⟩
              have hb3 : Below wr.heap.size wr w3 := by rw [hw3]; exact belAlloc (belAlloc hb2 (KV.opO x)) (KV.opR x)
              have hx3 : w3.heap[w2.heap.size]? = some (KV.opO x) := by rw [hw3, Below.heap_alloc _ _ _ (by simp)]; exact heap_alloc_new w2 _
              have hy3 : w3.heap[w2.heap.size + 1]? = some (KV.opR x) := by rw [hw3]; simpa using heap_alloc_new (w2.alloc (KV.opO x)) (KV.opR x)
              change Code.wp _ _ _ _ ((w2.alloc (KV.opO x)).alloc (KV.opR x))
              rw [← hw3]
              obtain ⟨b7, hb7⟩ : ∃ b7, b7 = w2.heap.size := ⟨_, rfl⟩
              rw [← hb7] at hx3 hy3 ⊢
              have hb7z : wr.heap.size ≤ b7 := by rw [hb7]; exact hb2.size
              have hB3 := HBW.out.trans (hb3.mono HBW.out.size)
              have hA3 := HJ2.out.1.below hb3
              have hT3 := HJ2.out.2.2.2.1.below hb3
              have hg3 := HJ2.out.2.1.2.2.2.1.1
              have hdk : (KV.doK S x).1 = (KV.planK S x).1 := rfl
              have HD := Lib.hid (fun (w5 : World) (hb : Below w3.heap.size w3 w5) => sdo_good s g l k P Q (12 * i + m) true T S ev3 wn x w w5 (hA3.below hb) HJ2.out.2.1 (by have := HI5.out; omega) HX.out.1 HX.out.2.1 HX.out.2.2.2 HE.out (hB3.trans (hb.mono hB3.size)) HJ2.out.2.2.2.2.1 HJ2.out.2.2.1.1 (by have := HJ2.out.2.2.1.2; omega))
              obtain ⟨aM0, cM0, eM0, -, hcM0⟩ := hT3.2.2.1
              obtain ⟨-, -, hse3, -⟩ := hcM0 0 (S, vr) rfl
              have HRD := Lib.hid (KV.refDo_any vr S.L S.rev x w3 hse3 hg3.1 (by have := hg3.2.2.2.1; have := HI5.out; omega) HX.out.2 ⟨hg3.2.1, by have := hg3.2.2.1; have := HI5.out; omega⟩)
              rw [hdk] at HRD
              have H3 := Lib.hid (And.intro hA3 (And.intro hT3 (And.intro hB3 (And.intro hx3 (And.intro hy3 hb7z)))))
              obtain ⟨avr, nvr, cvr, hvr⟩ := KV.sees_slice hse3
              have s0 := cell0 hT3.1
              have s1 := cell1 hT3.1
              obtain ⟨k0, k1, k2, k3, k4, k5⟩ := KV.opcells hy3
              clear hw3 hb2 hb3 hx3 hy3 hB3 hA3 hT3 hg3 hcM0 eM0 hse3 q0 q1 q2 q3 q4 q5 hb7 hb7z
              go_upto_region 19 with (first
                | (go_at_call 30; refine HRD.out.mono ?_; rintro e w5 ⟨vs, vi, rfl, hs5, hown5, hrow5, hb5⟩; obtain ⟨as5, ns5, cs5, rfl⟩ := KV.sees_slice hs5; obtain ⟨ai5, ci5, rfl⟩ := rowFormR hrow5; have hri5 := fun d hd => (World.ownsRow.lt hrow5 d hd).1)
                | go_in)
              obtain ⟨w6, hw6, hb6, hz6, hn6, ht6⟩ := KV.two_new w5 (KV.stO (KV.doK S x).2.rev (.slice as5 ns5 cs5)) (KV.resR (KV.planK S x).1.code (KV.planK S x).1.rev (KV.planK S x).1.val (.slice ai5 (KV.planK S x).1.its.length ci5))
              change Code.wp _ _ _ _ ((w5.alloc (KV.stO (KV.doK S x).2.rev (.slice as5 ns5 cs5))).alloc (KV.resR (KV.planK S x).1.code (KV.planK S x).1.rev (KV.planK S x).1.val (.slice ai5 (KV.planK S x).1.its.length ci5)))
              rw [← hw6]
              obtain ⟨b8, hb8⟩ : ∃ b8, b8 = w5.heap.size := ⟨_, rfl⟩
              rw [← hb8] at hn6 ht6 ⊢
              have hb36 : Below w3.heap.size w3 w6 := hb5.trans (hb6.mono hb5.size)
              have hx6 := (hb36.block _ (heap_lt H3.out.2.2.2.1)).trans H3.out.2.2.2.1
              obtain ⟨k0, k1, k2, k3, k4, k5⟩ := KV.opcells hx6
              have hs6 := hs5.below hb6
              have hrow6 := KV.SeesI.below (KV.RowE.sees hrow5) hb6
              have hown6 : ∀ d, (Value.slice as5 ns5 cs5).ownBlock = some d → d ≠ B ∧ ¬ ZS P Q l s d ∧ d < w6.heap.size := fun d hd => by
                rcases hown5 d hd with h | ⟨h1, h2⟩
                · have h4 := H3.out.2.1.2.2.2.1 d (Or.inr (Or.inr (Or.inr ⟨(S, vr), by simp, h⟩)))
                  exact ⟨H3.out.2.1.2.2.2.2.1 (S, vr) (by simp) d h, h4.1, Nat.lt_of_lt_of_le h4.2 hb36.size⟩
                · have hBl := (H3.out.2.1.2.2.2.1 B (Or.inl rfl)).2
                  exact ⟨by omega, fun hz => by have := H3.out.1.zlt d hz; omega, Nat.lt_of_lt_of_le h2 hb6.size⟩
              have H6 := Lib.hid (And.intro hb36 (And.intro hn6 (And.intro ht6 (And.intro hs6 (And.intro hrow6 (And.intro hown6 (And.intro (show w3.heap.size ≤ b8 by rw [hb8]; exact hb5.size) hri5)))))))
              have HDC := Lib.hid (HD.out w6 hb36)
              clear hri5 hw6 hz6 hn6 ht6 hb36 hx6 hs6 hrow6 hown6 hb5 hb6 hs5 hown5 hrow5 hb8 s0 s1
              go_wp2_with fail
              refine HDC.out.mono ?_; rintro e w7 ⟨P7, Q7, T7, wn7, S7, hst7, ⟨vv, rfl, hrow7, rfl, hG7, hA7, hn0, hn1⟩ | ⟨rfl, -, hM7, hA7⟩⟩
              · obtain ⟨av7, cv7, rfl⟩ := rowForm hrow7
                obtain ⟨hge7, hb7⟩ := hst7.ge HJ2.out.2.2.2.2.1 (Nat.le_trans H3.out.2.2.1.size H6.out.1.size)
                have hno : ∀ d, w3.heap.size ≤ d → ¬ ZS P Q l s d := fun d hd hz => by have := H3.out.1.zlt d hz; omega
                have hTT := (H3.out.2.1.below H6.out.1).step hst7.1 (fun i hi => hst7.zs i hi)
                have hn7 := (hst7.1.2.2.2.2 _ (heap_lt H6.out.2.1) (hno _ H6.out.2.2.2.2.2.2.1)).trans H6.out.2.1
                have ht7 := (hst7.1.2.2.2.2 _ (heap_lt H6.out.2.2.1) (hno _ (by have := H6.out.2.2.2.2.2.2.1; omega))).trans H6.out.2.2.1
                have hs7 : KV.SeesI w7 (.slice as5 ns5 cs5) (KV.doK S x).2.L := H6.out.2.2.2.1.keep (fun d hd hlt => hst7.1.2.2.2.2 d hlt (H6.out.2.2.2.2.2.1 d hd).2.1)
                have hr7 : KV.SeesI w7 (.slice ai5 (KV.planK S x).1.its.length ci5) (KV.planK S x).1.its := H6.out.2.2.2.2.1.keep (fun d hd hlt => hst7.1.2.2.2.2 d hlt (hno d (H6.out.2.2.2.2.2.2.2 d hd)))
                have hown7 : ∀ d, (Value.slice as5 ns5 cs5).ownBlock = some d → d ≠ B ∧ ¬ ZS P7 Q7 l s d ∧ d < w7.heap.size := fun d hd => by
                  have h6 := H6.out.2.2.2.2.2.1 d hd
                  exact ⟨h6.1, fun hz => (hst7.zs d hz).elim h6.2.1 (fun h => by omega), Nat.lt_of_lt_of_le h6.2.2 hst7.1.2.2.2.1⟩
                obtain ⟨w8, hw8⟩ : ∃ w8, w8 = w7.alloc (KV.resO (KV.planK S x).1.code (KV.planK S x).1.rev (KV.planK S x).1.val (.slice av7 (KV.planK S x).1.its.length cv7)) := ⟨_, rfl⟩
                have hr8 : w8.heap[w7.heap.size]? = some (KV.resO (KV.planK S x).1.code (KV.planK S x).1.rev (KV.planK S x).1.val (.slice av7 (KV.planK S x).1.its.length cv7)) := by rw [hw8]; exact heap_alloc_new w7 _
                have hb8 : Below w7.heap.size w7 w8 := by rw [hw8]; exact belNew w7 _
                have hits := KV.RowE.sees hrow7
                have hitl : (KV.planK S x).1.its.length ≤ maxLen := by
                  obtain ⟨_, _, e, h1, _⟩ := hr7
                  have h2 := plan_its S x
                  have h3 := H3.out.1
                  have h4 := HJ2.out.2.1.2.2.2.1.1.2.2.2.1
                  have := HI5.out
                  unfold maxLen
                  omega
                have HSM := Lib.hid (fun (w9 : World) (hb : Below w8.heap.size w8 w9) => KV.same9_yes (KV.planK S x).1 (.slice av7 (KV.planK S x).1.its.length cv7) (.slice ai5 (KV.planK S x).1.its.length ci5) w9 ((hits.below hb8).below hb) ((hr7.below hb8).below hb) hitl)
                go_upto_region 20 with fail
                change Code.wp _ _ _ _ (w7.alloc (KV.resO (KV.planK S x).1.code (KV.planK S x).1.rev (KV.planK S x).1.val (.slice av7 (KV.planK S x).1.its.length cv7)))
                rw [← hw8]
                obtain ⟨r0, r1, r2, r3, -⟩ := KV.four hr8
                have hn8 := (hb8.block _ (heap_lt hn7)).trans hn7
                have ht8 := (hb8.block _ (heap_lt ht7)).trans ht7
                obtain ⟨t0, t1, t2, t3, -⟩ := KV.four ht8
                have hcd : ((KV.planK S x).1.code == 12) = false := by simpa using plan_code S x
                have H8 := Lib.hid (And.intro hA7 (And.intro hG7 (And.intro (And.intro hn0 hn1) (And.intro hTT (And.intro hge7 (And.intro (H3.out.2.2.1.trans ((H6.out.1.mono H3.out.2.2.1.size).trans hb7)) (And.intro hb8 (And.intro hs7 (And.intro hown7 hn8)))))))))
                clear hst7 hrow7 hG7 hA7 hn0 hn1 hge7 hb7 hno hTT hn7 ht7 hs7 hr7 hown7 hw8 hr8 hb8 hits hitl hn8 ht8 k0 k1 k2 k3 k4 k5
                go_wp2_with fail
                refine (HSM.out _ (Below.refl _ _)).mono ?_; rintro e w9 ⟨rfl, hb9⟩
                have hb79 := H8.out.2.2.2.2.2.2.1.trans (hb9.mono H8.out.2.2.2.2.2.2.1.size)
                have hT9 := H8.out.2.2.2.1.below hb79
                have hA9 := H8.out.1.below hb79
                have hn9 := (hb9.block _ (heap_lt H8.out.2.2.2.2.2.2.2.2.2)).trans H8.out.2.2.2.2.2.2.2.2.2
                have hs9 := H8.out.2.2.2.2.2.2.2.1.below hb79
                have hown9 : ∀ d, (Value.slice as5 ns5 cs5).ownBlock = some d → d ≠ B ∧ ¬ ZS P7 Q7 l s d ∧ d < w9.heap.size := fun d hd => ⟨(H8.out.2.2.2.2.2.2.2.2.1 d hd).1, (H8.out.2.2.2.2.2.2.2.2.1 d hd).2.1, Nat.lt_of_lt_of_le (H8.out.2.2.2.2.2.2.2.2.1 d hd).2.2 hb79.size⟩
                have hgl := H8.out.2.1.2.2.2.1.1.2.2.2.1
                obtain ⟨hTN, hTc⟩ := hT9.one (S := (KV.doK S x).2) hs9 (by have := HI5.out; omega) hown9 hA9.zlt
                have n0' := cell0 hn9
                have n1' := cell1 hn9
                have f0 := froz2 hT9.1 0
                have f1 := froz2 hT9.1 1
                have x0' := cell0 hT9.1
                have x1' := cell1 hT9.1
                have hBp := KV.put2_at hT9.1 (.int .i64 (KV.doK S x).2.rev) (.slice as5 ns5 cs5)
                have hAN := hA9.keep hTc (fun i e => by
                  have hz := (hT9.2.2.2.1 B (Or.inl rfl)).1
                  have e' : i = B := e
                  subst e'
                  exact ⟨fun h => hz (Or.inl h), fun h => hz (Or.inr (Or.inl h)), fun h => hz (Or.inr (Or.inr (Or.inl h))), fun h => hz (Or.inr (Or.inr (Or.inr h)))⟩)
                have hBN := (H8.out.2.2.2.2.2.1.trans (hb79.mono H8.out.2.2.2.2.2.1.size))
                have hBN2 : Below w.heap.size w ((KV.put2 w9 B (.int .i64 (KV.doK S x).2.rev) (.slice as5 ns5 cs5)).alloc (KV.stO (KV.doK S x).2.rev (.slice as5 ns5 cs5))) := hBN.trans (hTc.below hBN.size (fun i e => by rw [show i = B from e]; exact hT9.2.2.2.2.2.1))
                have H9 := Lib.hid (And.intro hAN (And.intro hTN (And.intro hBN2 trivial)))
                go_upto_region 25 with fail
                change Code.wp _ _ _ _ (KV.put2 w9 B (.int .i64 (KV.doK S x).2.rev) (.slice as5 ns5 cs5))
                have s0 := cell0 hBp
                have s1 := cell1 hBp
                clear hAN hTN hTc hBN hBN2 hb79 hT9 hA9 hn9 hs9 hown9 hBp n0' n1' x0' x1' f0 f1 r0 r1 r2 r3 t0 t1 t2 t3 hb9
                have hzp : (KV.put2 w9 B (.int .i64 (KV.doK S x).2.rev) (.slice as5 ns5 cs5)).heap.size = w9.heap.size := by simp [KV.put2, World.setCell]
                obtain ⟨wp, hwp⟩ : ∃ wp, wp = KV.put2 w9 B (.int .i64 (KV.doK S x).2.rev) (.slice as5 ns5 cs5) := ⟨_, rfl⟩
                rw [← hwp] at H9 s0 s1 hzp ⊢
                clear hwp
                go_upto_region 15 with fail
                change Code.wp _ _ _ _ (wp.alloc (KV.stO (KV.doK S x).2.rev (.slice as5 ns5 cs5)))
                obtain ⟨wn, hwn⟩ : ∃ wn, wn = wp.alloc (KV.stO (KV.doK S x).2.rev (.slice as5 ns5 cs5)) := ⟨_, rfl⟩
                rw [← hwn] at H9 ⊢
                clear hwn s0 s1
                have hm12 : (m : Int) + 1 ≤ 9223372036854775807 := by omega
                try rw [hzp]
                go_wp2_with fail
                go_roundw
                case rel => exact ⟨a + 1, m + 1, (KV.doK S x).2, .slice as5 ns5 cs5, P7, Q7, T7, wn7, w9.heap.size, by omega, by omega, by go_num, rfl, by go_num, Lib.hid ⟨H9.out.1, by rw [show 12 * i + (m + 1) = 12 * i + m + 1 by omega]; exact H8.out.2.1, ⟨H8.out.2.2.1.1, by have := H8.out.2.2.1.2; have := HJ2.out.2.2.1.2; omega⟩, H9.out.2.1, H8.out.2.2.2.2.1, H9.out.2.2.1⟩⟩
                case measure => simp [intOf]; omega
              · obtain ⟨hge7, hb7⟩ := hst7.ge HJ2.out.2.2.2.2.1 (Nat.le_trans H3.out.2.2.1.size H6.out.1.size)
                have hno : ∀ d, w3.heap.size ≤ d → ¬ ZS P Q l s d := fun d hd hz => by have := H3.out.1.zlt d hz; omega
                have hTT := (H3.out.2.1.below H6.out.1).step hst7.1 (fun i hi => hst7.zs i hi)
                have hn7 := (hst7.1.2.2.2.2 _ (heap_lt H6.out.2.1) (hno _ H6.out.2.2.2.2.2.2.1)).trans H6.out.2.1
                have hs7 : KV.SeesI w7 (.slice as5 ns5 cs5) (KV.doK S x).2.L := H6.out.2.2.2.1.keep (fun d hd hlt => hst7.1.2.2.2.2 d hlt (H6.out.2.2.2.2.2.1 d hd).2.1)
                have hown7 : ∀ d, (Value.slice as5 ns5 cs5).ownBlock = some d → d ≠ B ∧ ¬ ZS P7 Q7 l s d ∧ d < w7.heap.size := fun d hd => by
                  have h6 := H6.out.2.2.2.2.2.1 d hd
                  exact ⟨h6.1, fun hz => (hst7.zs d hz).elim h6.2.1 (fun h => by omega), Nat.lt_of_lt_of_le h6.2.2 hst7.1.2.2.2.1⟩
                have hdg := KV.doK_inv HJ2.out.2.1.2.2.2.1.1 x
                have hBw7 := H3.out.2.2.1.trans ((H6.out.1.mono H3.out.2.2.1.size).trans hb7)
                obtain ⟨w8, hw8⟩ : ∃ w8, w8 = w7.alloc (KV.resO 12 0 KV.emp (.slice none 0 0)) := ⟨_, rfl⟩
                have hr8 : w8.heap[w7.heap.size]? = some (KV.resO 12 0 KV.emp (.slice none 0 0)) := by rw [hw8]; exact heap_alloc_new w7 _
                have hb8 : Below w7.heap.size w7 w8 := by rw [hw8]; exact belNew w7 _
                go_upto_region 20 with fail
                change Code.wp _ _ _ _ (w7.alloc (KV.resO 12 0 KV.emp (.slice none 0 0)))
                rw [← hw8]
                obtain ⟨r0, r1, r2, r3, -⟩ := KV.four hr8
                have hn8 := (hb8.block _ (heap_lt hn7)).trans hn7
                have hT8 := hTT.below hb8
                have s0 := cell0 hT8.1
                have s1 := cell1 hT8.1
                have n0' := cell0 hn8
                have n1' := cell1 hn8
                have hA8 := hA7.below hb8
                have hT9 := hT8.two (S' := (KV.doK S x).2) (vs := .slice as5 ns5 cs5) (hs7.below hb8) (by have := hdg.2.2.2.1; have := HI5.out; omega) (fun d hd => ⟨(hown7 d hd).1, (hown7 d hd).2.1, Nat.lt_of_lt_of_le (hown7 d hd).2.2 hb8.size⟩) hA8.zlt
                have hb89 := belNew w8 (.cells #[.int .i64 S.rev, vr, .int .i64 (KV.doK S x).2.rev, .slice as5 ns5 cs5] 54)
                have HT0 := Lib.hid (And.intro (hT9.step (Z' := P7) (Touch.refl _ _) (fun i hi => Or.inl (Or.inl hi))) (And.intro (hA8.2.1.below hb89) (And.intro (fun d hd => hge7 d (Or.inl hd)) (hBw7.trans ((hb8.mono hBw7.size).trans (hb89.mono (Nat.le_trans hBw7.size hb8.size)))))))
                have HM0 : Hid (∃ SB, MaybeS (12 * i + m + 1) T7.D.fs S SB ∧ (SB = S ∨ SB = (KV.doK S x).2)) := Lib.hid (hM7.elim (fun h => ⟨S, h, Or.inl rfl⟩) (fun h => ⟨_, h, Or.inr rfl⟩))
                have HAL : Hid (a + 1 ≤ os.length) := Lib.hid (by omega)
                have hm12 : m + 1 ≤ 12 := by omega
                clear hst7 hM7 hA7 hge7 hb7 hno hTT hn7 hs7 hown7 hdg hBw7 hw8 hr8 hb8 hn8 hT8 hA8 hT9 hb89 k0 k1 k2 k3 k4 k5
                rw [hvr] at s1 HT0
                have hls : decide ((12 : Int) = 12) = true := rfl
                go_upto_region 26 with fail
                obtain ⟨wt, hwt⟩ : ∃ wt, wt = w8.alloc (.cells #[.int .i64 S.rev, vr, .int .i64 (KV.doK S x).2.rev, .slice as5 ns5 cs5] 54) := ⟨_, rfl⟩
                rw [← hvr] at HT0
                rw [← hwt] at HT0
                rw [hvr] at hwt
                change Code.wp _ _ _ _ (w8.alloc (.cells #[.int .i64 S.rev, .slice avr nvr cvr, .int .i64 (KV.doK S x).2.rev, .slice as5 ns5 cs5] 54))
                rw [← hwt]
                clear hwt r0 r1 r2 r3 s0 s1 n0' n1'
                obtain ⟨M, hM⟩ : ∃ M, M = w8.heap.size := ⟨_, rfl⟩
                rw [← hM] at HT0 ⊢
                clear hM
                obtain ⟨PD, hPD⟩ : ∃ PD, PD = P7 := ⟨_, rfl⟩
                obtain ⟨DD, hDD⟩ : ∃ DD, DD = T7.D := ⟨_, rfl⟩
                rw [← hPD, ← hDD] at HT0
                rw [← hDD] at HM0
                obtain ⟨SB, hSB1, hSB2⟩ := HM0.out
                have HMB := Lib.hid hSB1
                have HSB := Lib.hid hSB2
                have HT := Lib.hid HT0.out.1
                have HD := Lib.hid HT0.out.2.1
                have HG := Lib.hid HT0.out.2.2.1
                have HBt := Lib.hid HT0.out.2.2.2
                clear hSB1 hSB2 hPD hDD HT0 HM0
                generalize (KV.doK S x).2 = S2 at HMB HSB HT
                generalize (Value.slice as5 ns5 cs5) = vs2 at HT
                have hsm := HMB.out.small (by have := HI5.out; omega)
                have k0 := cell0 HT.out.2.1
                have k1 := cell1 HT.out.2.1
                have HCR2 := Lib.hid (crash_any g PD DD cr.kv cr.ks wt HD.out (by have := hsm.1; omega) (fun f hf => ⟨Nat.le_trans (hsm.2.2 f hf) (by decide), by have := hsm.2.1 f hf; omega⟩) (HSU.out.1.keep' (fun h0 d hd hlt => HBt.out.block d hlt)) HSU.out.2.1 (fun h0 d hd hp => by have h1 := HSU.out.2.2 h0 d hd; have h2 := HG.out d hp; omega))
                rw [hkv] at HCR2
                obtain ⟨S1, hS1, hop1, hfr1, hgood1⟩ := open_crash HMB.out (by have := HI5.out; omega) cr.ks
                have HS1 := Lib.hid (And.intro hS1 (And.intro hop1 (And.intro hfr1 hgood1)))
                clear hsm hS1 hop1 hfr1 hgood1
                go_wp2_with fail
                refine HCR2.out.mono ?_; rintro e w5 ⟨P5, rfl, hd5, hs5⟩
                obtain ⟨hP5, hb5⟩ := hs5.ge HG.out HBt.out.size
                have H5 := Lib.hid (And.intro (HT.out.step hs5.1 hs5.2) (And.intro hP5 (HBt.out.trans hb5)))
                have HO5 := Lib.hid (sopen_any g P5 3 (crashD DD cr.ks) 3 w5 hd5 HS1.out.2.2.1 (by decide) (HE.out.below (HBt.out.trans hb5)))
                clear hd5 hs5 hP5 hb5 k0 k1
                go_wp2_with fail
                refine HO5.out.mono ?_; rintro e w6 hpost
                obtain ⟨P6, s2, k2, l2, Q6, T6, ev6, rfl, hA6, hG6, hS6, -, -, -⟩ := opens_ev hpost HS1.out.2.1 HS1.out.2.2.2
                obtain ⟨hP6, hb6⟩ := hS6.ge H5.out.2.1 H5.out.2.2.size
                have hT6 := H5.out.1.step hS6.1 hS6.2
                have hg6 := hG6.2.2.2.1.1
                have HST := Lib.hid (stays_any s2 g l2 k2 P6 Q6 T6 S1 ev6 0 false w6 (.slice (some ⟨M, 0, none⟩) 2 2) [(S, vr), (S2, vs2)] hA6 hg6.1 (by have := hg6.2.2.2.1; have := HI5.out; omega) hT6.2.2.1 (by simp))
                have H6 := Lib.hid (And.intro hA6 (And.intro hG6 (And.intro hT6 (And.intro hP6 (H5.out.2.2.trans hb6)))))
                clear hpost hA6 hG6 hS6 hP6 hb6 hT6 hg6
                go_wp2_with fail
                refine HST.out.mono ?_; rintro e w7 ⟨x, rfl, hx, hb7⟩
                obtain ⟨j, p, hj, hpS, rfl⟩ : ∃ (j : Nat) (p : KV.KSt × Value), [(S, vr), (S2, vs2)][j]? = some p ∧ p.1 = S1 ∧ x = (j : Nat) := by
                  rcases hx with h | ⟨-, h⟩
                  · exact h
                  · exfalso
                    rcases HS1.out.1 with h1 | h1
                    · exact h (S, vr) (by simp) h1.symm
                    · rcases HSB.out with h2 | h2
                      · first | exact h (S, vr) (by simp) (h1.trans h2).symm | exact h (S, vr) (by simp) h1.symm
                      · first | exact h (S2, vs2) (by simp) (h1.trans h2).symm | exact h (S2, vs2) (by simp) h1.symm
                have hT7 := H6.out.2.2.1.below hb7
                obtain ⟨aM, cM, eM, -, hcM⟩ := hT7.2.2.1
                obtain rfl : (⟨M, 0, none⟩ : Addr) = aM := by simp only [Value.slice.injEq, Option.some.injEq] at eM; exact eM.1
                obtain ⟨m0, m1, hse7, -⟩ := hcM j p hj
                have m1 := KV.ofs1 m1
                have hjl : j < 2 := (List.getElem?_eq_some_iff.1 hj).1
                have i0 : (0 : Int) ≤ (j : Int) := by omega
                have i1 : (j : Int) < 2 := by omega
                have i2 : decide ((j : Int) < 0) = false := decide_eq_false (by omega)
                have hpm : p ∈ [(S, vr), (S2, vs2)] := List.mem_of_getElem? hj
                obtain ⟨⟨R7, L7⟩, u7⟩ := p
                simp only [] at m0 m1 hse7 hpS
                have m0' : w7.cell? ⟨M, j * 2, none⟩ = some (.int .i64 R7) := by simpa only [Addr.add_lit, Nat.zero_add] using m0
                have m1' : w7.cell? ⟨M, j * 2 + 1, none⟩ = some u7 := by simpa only [Addr.add_lit, Nat.zero_add] using m1
                have hown7 : ∀ d, u7.ownBlock = some d → d ≠ B ∧ ¬ P6 d ∧ d < w7.heap.size := fun d hd => ⟨hT7.2.2.2.2.1 _ hpm d hd, (hT7.2.2.2.1 d (Or.inr (Or.inr (Or.inr ⟨_, hpm, hd⟩)))).1, (hT7.2.2.2.1 d (Or.inr (Or.inr (Or.inr ⟨_, hpm, hd⟩)))).2⟩
                obtain ⟨au7, nu7, cu7, rfl⟩ := KV.sees_slice hse7
                have s0 := cell0 hT7.1
                have s1 := cell1 hT7.1
                have f0 := froz2 hT7.1 0
                have f1 := froz2 hT7.1 1
                have hB7 := hT7.1
                have HB7 := Lib.hid (And.intro hb7 (And.intro hT7 (And.intro hse7 (And.intro hown7 hpS))))
                clear hx hj hjl hpm hb7 hT7 hcM eM hse7 hown7
                go_wp2_with fail
                have hw9 : Below w.heap.size w (KV.put2 w7 B (.int .i64 R7) (.slice au7 nu7 cu7)) := KV.put2_below (H6.out.2.2.2.2.trans (HB7.out.1.mono H6.out.2.2.2.2.size)) HB7.out.2.1.2.2.2.2.2.1 _ _
                have hB9 := KV.put2_at hB7 (.int .i64 R7) (.slice au7 nu7 cu7)
                have hs9 : KV.SeesI (KV.put2 w7 B (.int .i64 R7) (.slice au7 nu7 cu7)) (.slice au7 nu7 cu7) L7 := HB7.out.2.2.1.keep (fun d hd _ => KV.put2_ne (HB7.out.2.2.2.1 d hd).1 _ _)
                have hz9 : (KV.put2 w7 B (.int .i64 R7) (.slice au7 nu7 cu7)).heap.size = w7.heap.size := by simp [KV.put2, World.setCell]
                have hd9 : DiskAt (KV.put2 w7 B (.int .i64 R7) (.slice au7 nu7 cu7)) g P6 T6.D := (((H6.out.1.2.1.below HB7.out.1).keep (touch_set w7 B 0 (.int .i64 R7)) (fun i hp e => by
                  have e' : i = B := e
                  exact (HB7.out.2.1.2.2.2.1 B (Or.inl rfl)).1 (e' ▸ hp))).keep (touch_set _ B 1 (.slice au7 nu7 cu7)) (fun i hp e => by
                  have e' : i = B := e
                  exact (HB7.out.2.1.2.2.2.1 B (Or.inl rfl)).1 (e' ▸ hp)))
                go_roundw
                case rel => exact ⟨i + 1, a + 1, ⟨R7, L7⟩, .slice au7 nu7 cu7, P6, T6.D, HLT.out.2, by have := HI5.out; omega, by first | rfl | go_num, by go_num, HAL.out, Lib.hid ⟨hd9, by rw [HB7.out.2.2.2.2]; exact (SureD.of H6.out.2.1 (by have := HI5.out; omega)).mono (by have := HI5.out; omega), hB9, hs9, ⟨(HB7.out.2.1.2.2.2.1 B (Or.inl rfl)).1, fun d hd => ⟨(HB7.out.2.2.2.1 d hd).1, (HB7.out.2.2.2.1 d hd).2.1, (show d < (KV.put2 w7 B (.int .i64 R7) (.slice au7 nu7 cu7)).heap.size by rw [hz9]; exact (HB7.out.2.2.2.1 d hd).2.2)⟩⟩, H6.out.2.2.2.1, HB7.out.2.1.2.2.2.2.2.1, hw9⟩⟩
                case measure => simp [intOf]; have := HLT.out; omega
            · have da : decide ((a : Int) < (os.length : Int)) = false := by simp; omega
              have HT0 := Lib.hid (And.intro (HJ2.out.2.2.2.1.step (Z' := P) (Touch.refl _ _) (fun i hi => Or.inl (Or.inl hi))) (And.intro HJ2.out.1.2.1 (And.intro (fun d hd => HJ2.out.2.2.2.2.1 d (Or.inl hd)) HJ2.out.2.2.2.2.2)))
              have HMB := Lib.hid (HJ2.out.2.1.maybe.mono (show 12 * i + m ≤ 12 * i + 12 by omega))
              have HSB : Hid (S = S ∨ S = S) := Lib.hid (Or.inl rfl)
              have HAL := Lib.hid ha
              obtain ⟨PD, hPD⟩ : ∃ PD, PD = P := ⟨_, rfl⟩
              obtain ⟨DD, hDD⟩ : ∃ DD, DD = T.D := ⟨_, rfl⟩
              rw [← hPD, ← hDD] at HT0
              rw [← hDD] at HMB
              have HT := Lib.hid HT0.out.1
              have HD := Lib.hid HT0.out.2.1
              have HG := Lib.hid HT0.out.2.2.1
              have HBt := Lib.hid HT0.out.2.2.2
              clear HT0 hPD hDD HJ2
              obtain ⟨wt, hwt⟩ : ∃ wt, wt = wr := ⟨_, rfl⟩
              rw [← hwt] at HT HD HBt ⊢
              clear hwt
              have hsm := HMB.out.small (by have := HI5.out; omega)
              have k0 := cell0 HT.out.2.1
              have k1 := cell1 HT.out.2.1
              have HCR2 := Lib.hid (crash_any g PD DD cr.kv cr.ks wt HD.out (by have := hsm.1; omega) (fun f hf => ⟨Nat.le_trans (hsm.2.2 f hf) (by decide), by have := hsm.2.1 f hf; omega⟩) (HSU.out.1.keep' (fun h0 d hd hlt => HBt.out.block d hlt)) HSU.out.2.1 (fun h0 d hd hp => by have h1 := HSU.out.2.2 h0 d hd; have h2 := HG.out d hp; omega))
              rw [hkv] at HCR2
              obtain ⟨S1, hS1, hop1, hfr1, hgood1⟩ := open_crash HMB.out (by have := HI5.out; omega) cr.ks
              have HS1 := Lib.hid (And.intro hS1 (And.intro hop1 (And.intro hfr1 hgood1)))
              clear hsm hS1 hop1 hfr1 hgood1
              go_wp2_with fail
              refine HCR2.out.mono ?_; rintro e w5 ⟨P5, rfl, hd5, hs5⟩
              obtain ⟨hP5, hb5⟩ := hs5.ge HG.out HBt.out.size
              have H5 := Lib.hid (And.intro (HT.out.step hs5.1 hs5.2) (And.intro hP5 (HBt.out.trans hb5)))
              have HO5 := Lib.hid (sopen_any g P5 3 (crashD DD cr.ks) 3 w5 hd5 HS1.out.2.2.1 (by decide) (HE.out.below (HBt.out.trans hb5)))
              clear hd5 hs5 hP5 hb5 k0 k1
              go_wp2_with fail
              refine HO5.out.mono ?_; rintro e w6 hpost
              obtain ⟨P6, s2, k2, l2, Q6, T6, ev6, rfl, hA6, hG6, hS6, -, -, -⟩ := opens_ev hpost HS1.out.2.1 HS1.out.2.2.2
              obtain ⟨hP6, hb6⟩ := hS6.ge H5.out.2.1 H5.out.2.2.size
              have hT6 := H5.out.1.step hS6.1 hS6.2
              have hg6 := hG6.2.2.2.1.1
              have HST := Lib.hid (stays_any s2 g l2 k2 P6 Q6 T6 S1 ev6 0 false w6 (.slice (some ⟨M, 0, none⟩) 1 1) [(S, vr)] hA6 hg6.1 (by have := hg6.2.2.2.1; have := HI5.out; omega) hT6.2.2.1 (by simp))
              have H6 := Lib.hid (And.intro hA6 (And.intro hG6 (And.intro hT6 (And.intro hP6 (H5.out.2.2.trans hb6)))))
              clear hpost hA6 hG6 hS6 hP6 hb6 hT6 hg6
              go_wp2_with fail
              refine HST.out.mono ?_; rintro e w7 ⟨x, rfl, hx, hb7⟩
              obtain ⟨j, p, hj, hpS, rfl⟩ : ∃ (j : Nat) (p : KV.KSt × Value), [(S, vr)][j]? = some p ∧ p.1 = S1 ∧ x = (j : Nat) := by
                rcases hx with h | ⟨-, h⟩
                · exact h
                · exfalso
                  rcases HS1.out.1 with h1 | h1
                  · exact h (S, vr) (by simp) h1.symm
                  · rcases HSB.out with h2 | h2
                    · first | exact h (S, vr) (by simp) (h1.trans h2).symm | exact h (S, vr) (by simp) h1.symm
                    · first | exact h (S, vr) (by simp) (h1.trans h2).symm | exact h (S, vr) (by simp) h1.symm
              have hT7 := H6.out.2.2.1.below hb7
              obtain ⟨aM, cM, eM, -, hcM⟩ := hT7.2.2.1
              obtain rfl : (⟨M, 0, none⟩ : Addr) = aM := by simp only [Value.slice.injEq, Option.some.injEq] at eM; exact eM.1
              obtain ⟨m0, m1, hse7, -⟩ := hcM j p hj
              have m1 := KV.ofs1 m1
              have hjl : j < 1 := (List.getElem?_eq_some_iff.1 hj).1
              have i0 : (0 : Int) ≤ (j : Int) := by omega
              have i1 : (j : Int) < 1 := by omega
              have i2 : decide ((j : Int) < 0) = false := decide_eq_false (by omega)
              have hpm : p ∈ [(S, vr)] := List.mem_of_getElem? hj
              obtain ⟨⟨R7, L7⟩, u7⟩ := p
              simp only [] at m0 m1 hse7 hpS
              have m0' : w7.cell? ⟨M, j * 2, none⟩ = some (.int .i64 R7) := by simpa only [Addr.add_lit, Nat.zero_add] using m0
              have m1' : w7.cell? ⟨M, j * 2 + 1, none⟩ = some u7 := by simpa only [Addr.add_lit, Nat.zero_add] using m1
              have hown7 : ∀ d, u7.ownBlock = some d → d ≠ B ∧ ¬ P6 d ∧ d < w7.heap.size := fun d hd => ⟨hT7.2.2.2.2.1 _ hpm d hd, (hT7.2.2.2.1 d (Or.inr (Or.inr (Or.inr ⟨_, hpm, hd⟩)))).1, (hT7.2.2.2.1 d (Or.inr (Or.inr (Or.inr ⟨_, hpm, hd⟩)))).2⟩
              obtain ⟨au7, nu7, cu7, rfl⟩ := KV.sees_slice hse7
              have s0 := cell0 hT7.1
              have s1 := cell1 hT7.1
              have f0 := froz2 hT7.1 0
              have f1 := froz2 hT7.1 1
              have hB7 := hT7.1
              have HB7 := Lib.hid (And.intro hb7 (And.intro hT7 (And.intro hse7 (And.intro hown7 hpS))))
              clear hx hj hjl hpm hb7 hT7 hcM eM hse7 hown7
              go_wp2_with fail
              have hw9 : Below w.heap.size w (KV.put2 w7 B (.int .i64 R7) (.slice au7 nu7 cu7)) := KV.put2_below (H6.out.2.2.2.2.trans (HB7.out.1.mono H6.out.2.2.2.2.size)) HB7.out.2.1.2.2.2.2.2.1 _ _
              have hB9 := KV.put2_at hB7 (.int .i64 R7) (.slice au7 nu7 cu7)
              have hs9 : KV.SeesI (KV.put2 w7 B (.int .i64 R7) (.slice au7 nu7 cu7)) (.slice au7 nu7 cu7) L7 := HB7.out.2.2.1.keep (fun d hd _ => KV.put2_ne (HB7.out.2.2.2.1 d hd).1 _ _)
              have hz9 : (KV.put2 w7 B (.int .i64 R7) (.slice au7 nu7 cu7)).heap.size = w7.heap.size := by simp [KV.put2, World.setCell]
              have hd9 : DiskAt (KV.put2 w7 B (.int .i64 R7) (.slice au7 nu7 cu7)) g P6 T6.D := (((H6.out.1.2.1.below HB7.out.1).keep (touch_set w7 B 0 (.int .i64 R7)) (fun i hp e => by
                have e' : i = B := e
                exact (HB7.out.2.1.2.2.2.1 B (Or.inl rfl)).1 (e' ▸ hp))).keep (touch_set _ B 1 (.slice au7 nu7 cu7)) (fun i hp e => by
                have e' : i = B := e
                exact (HB7.out.2.1.2.2.2.1 B (Or.inl rfl)).1 (e' ▸ hp)))
              go_roundw
              case rel => exact ⟨i + 1, a, ⟨R7, L7⟩, .slice au7 nu7 cu7, P6, T6.D, HLT.out.2, by have := HI5.out; omega, by first | rfl | go_num, by go_num, HAL.out, Lib.hid ⟨hd9, by rw [HB7.out.2.2.2.2]; exact (SureD.of H6.out.2.1 (by have := HI5.out; omega)).mono (by have := HI5.out; omega), hB9, hs9, ⟨(HB7.out.2.1.2.2.2.1 B (Or.inl rfl)).1, fun d hd => ⟨(HB7.out.2.2.2.1 d hd).1, (HB7.out.2.2.2.1 d hd).2.1, (show d < (KV.put2 w7 B (.int .i64 R7) (.slice au7 nu7 cu7)).heap.size by rw [hz9]; exact (HB7.out.2.2.2.1 d hd).2.2)⟩⟩, H6.out.2.2.2.1, HB7.out.2.1.2.2.2.2.2.1, hw9⟩⟩
              case measure => simp [intOf]; have := HLT.out; omega
          · have dm : decide ((m : Int) < 12) = false := by simp; omega
            have HT0 := Lib.hid (And.intro (HJ2.out.2.2.2.1.step (Z' := P) (Touch.refl _ _) (fun i hi => Or.inl (Or.inl hi))) (And.intro HJ2.out.1.2.1 (And.intro (fun d hd => HJ2.out.2.2.2.2.1 d (Or.inl hd)) HJ2.out.2.2.2.2.2)))
            have HMB := Lib.hid (HJ2.out.2.1.maybe.mono (show 12 * i + m ≤ 12 * i + 12 by omega))
            have HSB : Hid (S = S ∨ S = S) := Lib.hid (Or.inl rfl)
            have HAL := Lib.hid ha
            obtain ⟨PD, hPD⟩ : ∃ PD, PD = P := ⟨_, rfl⟩
            obtain ⟨DD, hDD⟩ : ∃ DD, DD = T.D := ⟨_, rfl⟩
            rw [← hPD, ← hDD] at HT0
            rw [← hDD] at HMB
            have HT := Lib.hid HT0.out.1
            have HD := Lib.hid HT0.out.2.1
            have HG := Lib.hid HT0.out.2.2.1
            have HBt := Lib.hid HT0.out.2.2.2
            clear HT0 hPD hDD HJ2
            obtain ⟨wt, hwt⟩ : ∃ wt, wt = wr := ⟨_, rfl⟩
            rw [← hwt] at HT HD HBt ⊢
            clear hwt
            have hsm := HMB.out.small (by have := HI5.out; omega)
            have k0 := cell0 HT.out.2.1
            have k1 := cell1 HT.out.2.1
            have HCR2 := Lib.hid (crash_any g PD DD cr.kv cr.ks wt HD.out (by have := hsm.1; omega) (fun f hf => ⟨Nat.le_trans (hsm.2.2 f hf) (by decide), by have := hsm.2.1 f hf; omega⟩) (HSU.out.1.keep' (fun h0 d hd hlt => HBt.out.block d hlt)) HSU.out.2.1 (fun h0 d hd hp => by have h1 := HSU.out.2.2 h0 d hd; have h2 := HG.out d hp; omega))
            rw [hkv] at HCR2
            obtain ⟨S1, hS1, hop1, hfr1, hgood1⟩ := open_crash HMB.out (by have := HI5.out; omega) cr.ks
            have HS1 := Lib.hid (And.intro hS1 (And.intro hop1 (And.intro hfr1 hgood1)))
            clear hsm hS1 hop1 hfr1 hgood1
            go_wp2_with fail
            refine HCR2.out.mono ?_; rintro e w5 ⟨P5, rfl, hd5, hs5⟩
            obtain ⟨hP5, hb5⟩ := hs5.ge HG.out HBt.out.size
            have H5 := Lib.hid (And.intro (HT.out.step hs5.1 hs5.2) (And.intro hP5 (HBt.out.trans hb5)))
            have HO5 := Lib.hid (sopen_any g P5 3 (crashD DD cr.ks) 3 w5 hd5 HS1.out.2.2.1 (by decide) (HE.out.below (HBt.out.trans hb5)))
            clear hd5 hs5 hP5 hb5 k0 k1
            go_wp2_with fail
            refine HO5.out.mono ?_; rintro e w6 hpost
            obtain ⟨P6, s2, k2, l2, Q6, T6, ev6, rfl, hA6, hG6, hS6, -, -, -⟩ := opens_ev hpost HS1.out.2.1 HS1.out.2.2.2
            obtain ⟨hP6, hb6⟩ := hS6.ge H5.out.2.1 H5.out.2.2.size
            have hT6 := H5.out.1.step hS6.1 hS6.2
            have hg6 := hG6.2.2.2.1.1
            have HST := Lib.hid (stays_any s2 g l2 k2 P6 Q6 T6 S1 ev6 0 false w6 (.slice (some ⟨M, 0, none⟩) 1 1) [(S, vr)] hA6 hg6.1 (by have := hg6.2.2.2.1; have := HI5.out; omega) hT6.2.2.1 (by simp))
            have H6 := Lib.hid (And.intro hA6 (And.intro hG6 (And.intro hT6 (And.intro hP6 (H5.out.2.2.trans hb6)))))
            clear hpost hA6 hG6 hS6 hP6 hb6 hT6 hg6
            go_wp2_with fail
            refine HST.out.mono ?_; rintro e w7 ⟨x, rfl, hx, hb7⟩
            obtain ⟨j, p, hj, hpS, rfl⟩ : ∃ (j : Nat) (p : KV.KSt × Value), [(S, vr)][j]? = some p ∧ p.1 = S1 ∧ x = (j : Nat) := by
              rcases hx with h | ⟨-, h⟩
              · exact h
              · exfalso
                rcases HS1.out.1 with h1 | h1
                · exact h (S, vr) (by simp) h1.symm
                · rcases HSB.out with h2 | h2
                  · first | exact h (S, vr) (by simp) (h1.trans h2).symm | exact h (S, vr) (by simp) h1.symm
                  · first | exact h (S, vr) (by simp) (h1.trans h2).symm | exact h (S, vr) (by simp) h1.symm
            have hT7 := H6.out.2.2.1.below hb7
            obtain ⟨aM, cM, eM, -, hcM⟩ := hT7.2.2.1
            obtain rfl : (⟨M, 0, none⟩ : Addr) = aM := by simp only [Value.slice.injEq, Option.some.injEq] at eM; exact eM.1
            obtain ⟨m0, m1, hse7, -⟩ := hcM j p hj
            have m1 := KV.ofs1 m1
            have hjl : j < 1 := (List.getElem?_eq_some_iff.1 hj).1
            have i0 : (0 : Int) ≤ (j : Int) := by omega
            have i1 : (j : Int) < 1 := by omega
            have i2 : decide ((j : Int) < 0) = false := decide_eq_false (by omega)
            have hpm : p ∈ [(S, vr)] := List.mem_of_getElem? hj
            obtain ⟨⟨R7, L7⟩, u7⟩ := p
            simp only [] at m0 m1 hse7 hpS
            have m0' : w7.cell? ⟨M, j * 2, none⟩ = some (.int .i64 R7) := by simpa only [Addr.add_lit, Nat.zero_add] using m0
            have m1' : w7.cell? ⟨M, j * 2 + 1, none⟩ = some u7 := by simpa only [Addr.add_lit, Nat.zero_add] using m1
            have hown7 : ∀ d, u7.ownBlock = some d → d ≠ B ∧ ¬ P6 d ∧ d < w7.heap.size := fun d hd => ⟨hT7.2.2.2.2.1 _ hpm d hd, (hT7.2.2.2.1 d (Or.inr (Or.inr (Or.inr ⟨_, hpm, hd⟩)))).1, (hT7.2.2.2.1 d (Or.inr (Or.inr (Or.inr ⟨_, hpm, hd⟩)))).2⟩
            obtain ⟨au7, nu7, cu7, rfl⟩ := KV.sees_slice hse7
            have s0 := cell0 hT7.1
            have s1 := cell1 hT7.1
            have f0 := froz2 hT7.1 0
            have f1 := froz2 hT7.1 1
            have hB7 := hT7.1
            have HB7 := Lib.hid (And.intro hb7 (And.intro hT7 (And.intro hse7 (And.intro hown7 hpS))))
            clear hx hj hjl hpm hb7 hT7 hcM eM hse7 hown7
            go_wp2_with fail
            have hw9 : Below w.heap.size w (KV.put2 w7 B (.int .i64 R7) (.slice au7 nu7 cu7)) := KV.put2_below (H6.out.2.2.2.2.trans (HB7.out.1.mono H6.out.2.2.2.2.size)) HB7.out.2.1.2.2.2.2.2.1 _ _
            have hB9 := KV.put2_at hB7 (.int .i64 R7) (.slice au7 nu7 cu7)
            have hs9 : KV.SeesI (KV.put2 w7 B (.int .i64 R7) (.slice au7 nu7 cu7)) (.slice au7 nu7 cu7) L7 := HB7.out.2.2.1.keep (fun d hd _ => KV.put2_ne (HB7.out.2.2.2.1 d hd).1 _ _)
            have hz9 : (KV.put2 w7 B (.int .i64 R7) (.slice au7 nu7 cu7)).heap.size = w7.heap.size := by simp [KV.put2, World.setCell]
            have hd9 : DiskAt (KV.put2 w7 B (.int .i64 R7) (.slice au7 nu7 cu7)) g P6 T6.D := (((H6.out.1.2.1.below HB7.out.1).keep (touch_set w7 B 0 (.int .i64 R7)) (fun i hp e => by
              have e' : i = B := e
              exact (HB7.out.2.1.2.2.2.1 B (Or.inl rfl)).1 (e' ▸ hp))).keep (touch_set _ B 1 (.slice au7 nu7 cu7)) (fun i hp e => by
              have e' : i = B := e
              exact (HB7.out.2.1.2.2.2.1 B (Or.inl rfl)).1 (e' ▸ hp)))
            go_roundw
            case rel => exact ⟨i + 1, a, ⟨R7, L7⟩, .slice au7 nu7 cu7, P6, T6.D, HLT.out.2, by have := HI5.out; omega, by first | rfl | go_num, by go_num, HAL.out, Lib.hid ⟨hd9, by rw [HB7.out.2.2.2.2]; exact (SureD.of H6.out.2.1 (by have := HI5.out; omega)).mono (by have := HI5.out; omega), hB9, hs9, ⟨(HB7.out.2.1.2.2.2.1 B (Or.inl rfl)).1, fun d hd => ⟨(HB7.out.2.2.2.1 d hd).1, (HB7.out.2.2.2.1 d hd).2.1, (show d < (KV.put2 w7 B (.int .i64 R7) (.slice au7 nu7 cu7)).heap.size by rw [hz9]; exact (HB7.out.2.2.2.1 d hd).2.2)⟩⟩, H6.out.2.2.2.1, HB7.out.2.1.2.2.2.2.2.1, hw9⟩⟩
            case measure => simp [intOf]; have := HLT.out; omega
    · obtain rfl : i = cs.length := by omega
      go_wp2_with fail
      refine (HAw.out _ HJ.out.2.2.2.2.2.2.2).mono ?_; rintro e w8 ⟨rfl, hb8⟩
      have HB8 := Lib.hid (HJ.out.2.2.2.2.2.2.2.trans (hb8.mono HJ.out.2.2.2.2.2.2.2.size))
      clear hb8
      go_wp2_with fail
      go_ret
      exact ⟨rfl, HB8.out⟩
end Go.Proofs.YtbbefakmpmniiaaGreatDoor
