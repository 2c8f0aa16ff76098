/- The walk of MachAsks. Made by g_mk.py. -/
import Derived.Test.YtholgmcfgnifdaaMj
import Derived.Test.YtholgmcfgnifdaaMo
namespace Go.Proofs.Ytholgmcfgnifdaa
open Go.RowKit Go.Maps
theorem neOp_self (o : KOp) (w : World) : (binOp .neq 37 (opV o) (opV o)).run Try.prog w = .ok (.bool false) w := by
  have hS : Try.prog.underlying 37 = some (.struct (Try.prog.fieldsOf 37)) := by kernel_rfl
  have hp : Try.prog.stoodInHeld 37 = false := by kernel_rfl
  have u2 := Try.underlying3
  have a2 := Try.isAgg3
  have z2 := Try.sizeOf3
  have u3 := Try.underlying9
  have a3 := Try.isAgg9
  have z3 := Try.sizeOf9
  have u4 := Try.underlying2
  have a4 := Try.isAgg2
  have z4 := Try.sizeOf2
  rw [run_neq_struct, show (10000 : Nat) = 9999 + 1 from rfl, run_equalIn_agg w 9999 37 _ _ hS hp]
  simp only [Program.fieldsOf, Try.underlying37]
  go_simp
theorem ours_ours (o : KOp) : ours (ours o) = ours o := by
  have h : ∀ (s : ByteArray) (n : Nat), cutB (cutB s n) n = cutB s n := fun s n => by
    have hl := cutB_le s n
    generalize cutB s n = t at hl
    unfold cutB
    rw [if_neg (by omega)]
  unfold ours
  simp only [h]
theorem next_ours (os : List KOp) (t : Nat) (h : t < (oursL os).length) : ours (nextO (oursL os) t) = nextO (oursL os) t := by
  have hm : ∀ x ∈ oursL os, ours x = x := fun x hx => by
    unfold oursL at hx
    obtain ⟨y, -, rfl⟩ := List.mem_map.1 hx
    exact ours_ours y
  unfold nextO
  rw [if_pos h, List.getD_eq_getElem?_getD, List.getElem?_eq_getElem h]
  exact hm _ (List.getElem_mem h)
set_option maxRecDepth 100000 in
set_option maxHeartbeats 8000000 in
theorem lawMachAsks (w : World) (v v2 : Value) (os : List KOp) (ks : List Int) (h : ArgOps9 w v os) (hk : SeesJ w v2 ks) (hkl : ks.length ≤ maxLen) : Calls Try.prog 3 #[v, v2] w fun e w' => e = .returned (.bool true) ∧ Below w.heap.size w w' := by
  obtain ⟨ko, kc, rfl, -, hkn, hkc⟩ := hk
  have HK := Lib.hid (And.intro hkn hkc)
  have hlm2 : ks.length ≤ 9223372036854775807 := by unfold maxLen at hkl; omega
  have HO := Lib.hid (ours19_any w v os h)
  have HNO := Lib.hid (next_ours os)
  have hLl := oursL_len os
  generalize oursL os = L at HO HNO hLl
  clear h hkn hkc hkl
  go_enter Try.func3, Try.ntmps3
  go_upto_region 2 with (go_at_call 6; refine HO.out.mono ?_; rintro e w1 ⟨ov, wv, rfl, hro, hrw, hb1⟩)
  have HR := Lib.hid (And.intro hro (And.intro hrw hb1))
  obtain ⟨oo, oc, rfl⟩ := hro.slice
  obtain ⟨wo, wc, rfl⟩ := hrw.slice
  clear hro hrw hb1 HO
  generalize hLn : L.length = nL at HR
  have HLn := Lib.hid hLn
  clear hLn
  go_upto_region 4 with (go_at_call 7; refine (newP_any w1).mono ?_; rintro e w2 ⟨rfl, hp2, hb2⟩)
  obtain ⟨W3, hW3⟩ : ∃ W3, W3 = w2.alloc (chainO w1.heap.size (.slice oo nL oc) (.slice none 0 0)) := ⟨_, rfl⟩
  have hb3 := belNew w2 (chainO w1.heap.size (.slice oo nL oc) (.slice none 0 0))
  have hx3 := heap_alloc_new w2 (chainO w1.heap.size (.slice oo nL oc) (.slice none 0 0))
  rw [← hW3] at hb3 hx3
  obtain ⟨W4, hW4⟩ : ∃ W4, W4 = W3.alloc (listO (.slice wo nL wc) 0) := ⟨_, rfl⟩
  have hb4 := belNew W3 (listO (.slice wo nL wc) 0)
  have hx4 := heap_alloc_new W3 (listO (.slice wo nL wc) 0)
  rw [← hW4] at hb4 hx4
  change Code.wp _ _ _ _ ((w2.alloc (chainO w1.heap.size (.slice oo nL oc) (.slice none 0 0))).alloc (listO (.slice wo nL wc) 0))
  rw [← hW3, ← hW4]
  have hz3 : W3.heap.size = w2.heap.size + 1 := by rw [hW3]; simp
  have hz4 : W4.heap.size = W3.heap.size + 1 := by rw [hW4]; simp
  obtain ⟨gp, hgp⟩ : ∃ gp, gp = w1.heap.size := ⟨_, rfl⟩
  obtain ⟨gc, hgc⟩ : ∃ gc, gc = w2.heap.size := ⟨_, rfl⟩
  obtain ⟨gl, hgl⟩ : ∃ gl, gl = w2.heap.size + 1 := ⟨_, rfl⟩
  have hord : gp < gc ∧ gc < gl ∧ W4.heap.size = gl + 1 := by
    have h1 := heap_lt hp2
    omega
  rw [← hgp] at hp2 hx3 ⊢
  rw [hz3, ← hgl] at hx4
  rw [← hgl, ← hgc]
  rw [← hgc] at hx3
  have hbb : Below w1.heap.size w1 W4 := bel (bel hb2 hb3) hb4
  have hcr : ChR W4 (gl + 1) gc gp L (.slice oo nL oc) [] (.slice none 0 0) :=
    ⟨(hb4.block gc (heap_lt hx3)).trans hx3, (HR.out.1.sees encO_len).below hbb, RowG.nil _ _ _ _ _, by omega, by omega, by omega, fun d hd => by (have := (HR.out.1.form d hd).2; omega), by omega⟩
  have hp4 : ProcAt W4 gp opZ false .nilFunc 0 := (hp2.below hb3).below hb4
  have hsw : SeesO W4 (.slice wo nL wc) L := (HR.out.2.1.sees encO_len).below hbb
  have hwd : ∀ d, (Value.slice wo nL wc).ownBlock = some d → d < gp := fun d hd => by have := (HR.out.2.1.form d hd).2; omega
  have hbw : Below w.heap.size w W4 := HR.out.2.2.trans (hbb.mono HR.out.2.2.size)
  have hle : w.heap.size ≤ gp := by have := HR.out.2.2.size; omega
  have hod : ∀ d, (Value.slice oo nL oc).ownBlock = some d → d < gp := fun d hd => by have := (HR.out.1.form d hd).2; omega
  have HG := Lib.hid (And.intro hord (And.intro hwd (And.intro hle hod)))
  have HA := Lib.hid (And.intro hcr (And.intro hp4 (And.intro hx4 (And.intro hsw hbw))))
  clear hz3 hz4 hgp hgc hgl hord hbb hcr hp4 hsw hwd hbw hle hod hb2 hb3 hb4 hx3 hx4 hp2 hW3 hW4 HR
  go_upto_region 5 with (go_at_call 8; refine (next_any (gl + 1) gc gp _ _ L [] 0 W4 HA.out.1 HA.out.2.1 (by omega)).mono ?_; rintro e w5 ⟨rfl, hp5, ht5⟩)
  have hcr5 := HA.out.1.proc ht5
  have hx5 := (ht5.2.2.2.2 gl (heap_lt HA.out.2.2.1) (by have := HG.out.1; omega)).trans HA.out.2.2.1
  have hsw5 : SeesO w5 (.slice wo nL wc) L := HA.out.2.2.2.1.keep (fun d hd hlt => ht5.2.2.2.2 d hlt (by have := HG.out.2.1 d hd; omega))
  have hbw5 : Below w.heap.size w w5 := HA.out.2.2.2.2.trans (ht5.below HA.out.2.2.2.2.size (fun i e => by rw [e]; exact HG.out.2.2.1))
  have H5 := Lib.hid (And.intro hcr5 (And.intro hp5 (And.intro hx5 (And.intro hsw5 hbw5))))
  clear hcr5 hp5 hx5 hsw5 hbw5 ht5 HA
  go_wp2_with fail
  go_loopw [33] (fun j wr => ∃ (i : Nat) (T : List TEnt) (tv : Value), i ≤ ks.length ∧ j = .int .i64 i ∧ T.length ≤ nL ∧ Hid (ChR wr (gl + 1) gc gp L (.slice oo nL oc) T tv ∧ ProcAt wr gp (nextO L T.length) (decide (T.length < L.length)) (nextF gc L T.length) T.length ∧ wr.heap[gl]? = some (listO (.slice wo nL wc) T.length) ∧ SeesO wr (.slice wo nL wc) L ∧ Below w.heap.size w wr)) (fun j _ => ks.length - (intOf j).toNat)
  case atStart => exact ⟨0, [], _, Nat.zero_le _, rfl, Nat.zero_le _, Lib.hid H5.out⟩
  case round =>
    clear H5
    obtain ⟨i, T, tv, hi, rfl, hTL, HI⟩ := hrel
    by_cases hlt : i < ks.length
    · obtain ⟨a, rfl⟩ : ∃ a, ko = some a := by
        cases ko with
        | none => rw [HK.out.1 rfl] at hlt; simp at hlt
        | some a => exact ⟨a, rfl⟩
      have q0 := bcell HI.out.2.2.2.2 (HK.out.2 a rfl i hlt)
      generalize ks.getD i 0 = rv at q0
      have b0 : (0 : Int) ≤ (i : Int) := by omega
      have b1 : (i : Int) < (ks.length : Int) := by omega
      have HLT := Lib.hid hlt
      clear hlt
      by_cases h30 : 30 ≤ i
      · have d1 : decide (30 ≤ (i : Int)) = true := by simp; omega
        have d2 : (30 : Int) ≤ (i : Int) := by omega
        go_wp2_with (go_at_call 14; refine (awake19_any wr).mono ?_; rintro e w9 ⟨rfl, hb9⟩)
        go_ret
        exact ⟨rfl, HI.out.2.2.2.2.trans (hb9.mono HI.out.2.2.2.2.size)⟩
      · have d1 : decide (30 ≤ (i : Int)) = false := by simp; omega
        have d2 : ¬ (30 : Int) ≤ (i : Int) := by omega
        obtain ⟨c0, c1, c2⟩ := chcells HI.out.1.1
        by_cases htl : T.length < L.length
        · have hx := HNO.out T.length htl
          have HI2 := HI.out
          rw [decide_eq_true htl] at HI2
          have hrf := fun (w' : World) (hb : Below wr.heap.size wr w') => refOp_any gl T.length L (.slice wo nL wc) w' ((hb.block gl (heap_lt HI2.2.2.1)).trans HI2.2.2.1) (HI2.2.2.2.1.below hb)
          rw [decide_eq_true htl] at hrf
          have hnf : nextF gc L T.length = hearF gc := by unfold nextF; rw [if_pos htl]
          rw [hnf] at HI2
          have HXO := Lib.hid HI2
          have HRF := Lib.hid hrf
          have hFD := fun (w' : World) (hb : Below wr.heap.size wr w') => feedH_any (gl + 1) gc gp (.slice oo nL oc) tv L T T.length ⟨0, rv, emp, []⟩ (.slice none 0 0) w' (HI2.1.below hb) (HI2.2.1.below hb) (by omega) (by omega) (sees0 _) (Nat.zero_le _) (fun _ h => by cases h) (by omega)
          have HFD := Lib.hid hFD
          have HO := Lib.hid (fun (w' : World) => by have := ours_any (nextO L T.length) w'; rw [hx] at this; exact this)
          generalize hxn : nextO L T.length = x at HXO HRF HO
          have HXN := Lib.hid hxn
          have HTL := Lib.hid htl
          have hnq := neOp_self x
          clear HI2 hrf hnf hFD hx hxn htl HI
          go_upto_region 10 with (go_at_call 9; refine (opP_any gp x true (hearF gc) _ wr HXO.out.2.1).mono ?_; rintro e w2 ⟨rfl, hb2⟩)
          have hx3 := heap_alloc_new w2 (opO x)
          have hb3 := bel hb2 (belNew w2 (opO x))
          obtain ⟨bx, hbx⟩ : ∃ bx, bx = w2.heap.size := ⟨_, rfl⟩
          rw [← hbx] at hx3 ⊢
          generalize w2.alloc (opO x) = w3 at *
          have H3 := Lib.hid (And.intro hb3 hx3)
          clear hb2 hb3 hx3 hbx c0 c1 c2 q0
          go_upto_region 11 with (go_at_call 10; refine (HRF.out w3 H3.out.1).mono ?_; rintro e w4 ⟨rfl, hb4⟩)
          have hx5 := heap_alloc_new w4 (opR x)
          have hb5 := bel hb4 (belNew w4 (opR x))
          obtain ⟨by5, hby⟩ : ∃ by5, by5 = w4.heap.size := ⟨_, rfl⟩
          rw [← hby] at hx5 ⊢
          generalize w4.alloc (opR x) = w5 at *
          have H5 := Lib.hid (And.intro (bel H3.out.1 hb5) ((hb5.block _ (heap_lt H3.out.2)).trans H3.out.2))
          obtain ⟨k0, k1, k2, k3, k4, k5⟩ := opcells hx5
          clear hb4 hb5 hx5 hby H3 HRF
          go_upto_region 12 with (go_at_call 11; refine (HO.out w5).mono ?_; rintro e w6 ⟨rfl, hb6⟩)
          obtain ⟨W7, hW7, hb7, hz7, h7, -⟩ := two_new w6 (opO x) (opR x)
          change Code.wp _ _ _ _ ((w6.alloc (opO x)).alloc (opR x))
          rw [← hW7]
          obtain ⟨b7, hb7e⟩ : ∃ b7, b7 = w6.heap.size := ⟨_, rfl⟩
          rw [← hb7e] at h7 ⊢
          have hb77 := bel hb6 hb7
          have hbw7 := bel H5.out.1 hb77
          have hx7 := (hb77.block _ (heap_lt H5.out.2)).trans H5.out.2
          clear k0 k1 k2 k3 k4 k5
          obtain ⟨k0, k1, k2, k3, k4, k5⟩ := opcells h7
          obtain ⟨x0, x1, x2, x3, x4, x5⟩ := opcells hx7
          obtain ⟨c0, c1, c2⟩ := chcells (HXO.out.1.below hbw7).1
          have HB7 := Lib.hid hbw7
          clear hW7 hb7 hz7 h7 hb7e hb77 hbw7 hx7 hb6 H5 HO
          go_upto_region 14 with fail
          clear k0 k1 k2 k3 k4 k5 x0 x1 x2 x3 x4 x5
          go_upto_region 16 with (go_at_call 12; refine (HFD.out W7 HB7.out).mono ?_; rintro e w8 ⟨rfl, p8, tv8, hp8e, hcr8, hp8, -, -, ht8, ho8⟩)
          obtain ⟨n1, hn1⟩ : ∃ n1 : Nat, n1 = T.length + 1 := ⟨_, rfl⟩
          have hn1' : ((T.length : Int) + 1) = (n1 : Int) := by omega
          have hlt8 : (T ++ [p8]).length = n1 := by rw [List.length_append, hn1]; rfl
          rw [← hn1, hn1'] at hp8
          have hglt : gl < W7.heap.size := Nat.lt_of_lt_of_le (heap_lt HXO.out.2.2.1) HB7.out.size
          have hZ : ∀ d, d < gl + 1 → d ≠ gp → d ≠ gc → ¬ Ztn gc gp tv d := fun d hd h1 h2 hz => by
            rcases hz with e | e | e
            · exact h1 e
            · exact h2 e
            · have := (HXO.out.1.2.2.1.form d e).1; omega
          have hx8 := (ht8.2.2.2.2 gl hglt (hZ gl (by omega) (by have := HG.out.1; omega) (by have := HG.out.1; omega))).trans ((HB7.out.block gl (heap_lt HXO.out.2.2.1)).trans HXO.out.2.2.1)
          have hsw8 : SeesO w8 (.slice wo nL wc) L := (HXO.out.2.2.2.1.below HB7.out).keep (fun d hd hlt => ht8.2.2.2.2 d hlt (hZ d (by have := HG.out.2.1 d hd; have := HG.out.1; omega) (by have := HG.out.2.1 d hd; omega) (by have := HG.out.2.1 d hd; have := HG.out.1; omega)))
          have hbw7 := HXO.out.2.2.2.2.trans (HB7.out.mono HXO.out.2.2.2.2.size)
          have hbw8 : Below w.heap.size w w8 := hbw7.trans (ht8.below hbw7.size (fun i hz => by
            have h1 := HG.out
            rcases hz with e | e | e
            · omega
            · omega
            · have := (HXO.out.1.2.2.1.form i e).1; omega))
          have e1 : IntKind.i64.wrap ((T.length : Int) + 1) = (n1 : Int) := by rw [hn1']; exact IntWalk.i64_in _ (by have := HTL.out; omega)
          have e2 : IntKind.i64.wrap ((n1 : Int) - 1) = (T.length : Int) := by rw [show (n1 : Int) - 1 = (T.length : Int) by omega]; exact IntWalk.i64_in _ (by have := HTL.out; omega)
          have g1 := cell1 hx8
          have zg := froz hx8 1
          have HN1 := Lib.hid (And.intro hn1 hlt8)
          have HC8 := Lib.hid (And.intro hcr8 (And.intro hp8 (And.intro hx8 (And.intro hsw8 (And.intro hbw8 hp8e)))))
          obtain ⟨t0, t1, t2⟩ := chcells hcr8.1
          clear hn1 hn1' hlt8 hglt hZ hx8 hsw8 hbw7 hbw8 hcr8 hp8 ht8 ho8 hp8e c0 c1 c2 HFD
          go_upto_region 18 with fail
          have htn := touch_set w8 gl 1 (.int .i64 (n1 : Int))
          have hcr9 : ChR (w8.setCell ⟨gl, 1, none⟩ (.int .i64 (n1 : Int))) (gl + 1) gc gp L (.slice oo nL oc) (T ++ [p8]) tv8 := HC8.out.1.keep htn (by have := HG.out.1; omega) (fun d hd e => by have := HG.out.2.2.2 d hd; have := HG.out.1; omega) (fun d hd e => by have := (HC8.out.1.2.2.1.form d hd).1; omega)
          have hp9 := HC8.out.2.1.keep (htn.2.2.2.2 gp (heap_lt HC8.out.2.1) (by have := HG.out.1; omega))
          have hx9 : (w8.setCell ⟨gl, 1, none⟩ (.int .i64 (n1 : Int))).heap[gl]? = some (listO (.slice wo nL wc) n1) := dset HC8.out.2.2.1 1 _
          have hsw9 : SeesO (w8.setCell ⟨gl, 1, none⟩ (.int .i64 (n1 : Int))) (.slice wo nL wc) L := HC8.out.2.2.2.1.keep (fun d hd hlt => htn.2.2.2.2 d hlt (fun e => by have := HG.out.2.1 d hd; have := HG.out.1; omega))
          have hbw9 : Below w.heap.size w (w8.setCell ⟨gl, 1, none⟩ (.int .i64 (n1 : Int))) := HC8.out.2.2.2.2.1.setCell (p := ⟨gl, 1, none⟩) (by have := HG.out; show w.heap.size ≤ gl; omega) _
          generalize w8.setCell ⟨gl, 1, none⟩ (.int .i64 (n1 : Int)) = w9 at *
          obtain ⟨to8, tc8, rfl⟩ := hcr9.2.2.1.slice
          have hpt : (T ++ [p8])[T.length]? = some p8 := by simp
          obtain ⟨b8, rfl, -, hrc⟩ := (hcr9.2.2.1.sees encT_len).at hpt
          have m1 := off1 (hrc 1 _ rfl)
          rw [HC8.out.2.2.2.2.2] at m1
          obtain ⟨c0, c1, c2⟩ := chcells hcr9.1
          have l1 := cell1 hx9
          have HC9 := Lib.hid (And.intro hcr9 (And.intro hp9 (And.intro hx9 (And.intro hsw9 hbw9))))
          rw [HN1.out.2] at c2
          have b3 : (0 : Int) ≤ (T.length : Int) := by omega
          have b4 : (T.length : Int) < (n1 : Int) := by have := HN1.out.1; omega
          clear htn hcr9 hp9 hx9 hsw9 hbw9 hrc hpt t0 t1 t2 g1 zg e1
          refine wp_region_held_drew (S := (fun W => Below w9.heap.size w9 W)) (by kernel_rfl) ?_ (fun r0 => ?_)
          · exact ⟨rfl, rfl, rfl, Nat.le_refl _, fun _ _ => rfl⟩
          refine wpAnyH_take (i := 0) (v := ?_) rfl (by kernel_rfl) (by kernel_rfl) (by kernel_rfl) (fun _ _ _ h => h) (Or.inl ⟨by rfl, ?_⟩) (by assumption) ?_
          rotate_left
          · intro wS hSw
            (try dsimp only at hSw)
            go_simp
            first | done | with_reducible rfl
          try simp only [Act.put, List.getElem_toArray, List.getElem_cons_succ, List.getElem_cons_zero, List.setIfInBounds_toArray, List.set_cons_zero, List.set_cons_succ]
          refine wpAnyH_take (i := 1) (v := ?_) rfl (by kernel_rfl) (by kernel_rfl) (by kernel_rfl) (fun _ _ _ h => h) (Or.inl ⟨by rfl, ?_⟩) (by assumption) ?_
          rotate_left
          · intro wS hSw
            (try dsimp only at hSw)
            go_simp
            first | done | with_reducible rfl
          try simp only [Act.put, List.getElem_toArray, List.getElem_cons_succ, List.getElem_cons_zero, List.setIfInBounds_toArray, List.set_cons_zero, List.set_cons_succ]
          refine wpAnyH_take (i := 2) (v := ?_) rfl (by kernel_rfl) (by kernel_rfl) (by kernel_rfl) (fun _ _ _ h => h) (Or.inl ⟨by rfl, ?_⟩) (by assumption) ?_
          rotate_left
          · intro wS hSw
            (try dsimp only at hSw)
            go_simp
            first | done | with_reducible rfl
          try simp only [Act.put, List.getElem_toArray, List.getElem_cons_succ, List.getElem_cons_zero, List.setIfInBounds_toArray, List.set_cons_zero, List.set_cons_succ]
          refine wpAnyH_take (i := 3) (v := ?_) rfl (by kernel_rfl) (by kernel_rfl) (by kernel_rfl) (fun _ _ _ h => h) (Or.inl ⟨by rfl, ?_⟩) (by assumption) ?_
          rotate_left
          · intro wS hSw
            (try dsimp only at hSw)
            have c0 := bcell hSw c0
            have c2 := bcell hSw c2
            have l1 := bcell hSw l1
            have m1 := bcell hSw m1
            go_simp
            first | done | with_reducible rfl
          try simp only [Act.put, List.getElem_toArray, List.getElem_cons_succ, List.getElem_cons_zero, List.setIfInBounds_toArray, List.set_cons_zero, List.set_cons_succ]
          refine wpAnyH_take (i := 5) (v := ?_) rfl (by kernel_rfl) (by kernel_rfl) (by kernel_rfl) (fun _ _ _ h => h) (Or.inl ⟨by rfl, ?_⟩) (by assumption) ?_
          rotate_left
          · intro wS hSw
            (try dsimp only at hSw)
            go_simp
            first | done | with_reducible rfl
          try simp only [Act.put, List.getElem_toArray, List.getElem_cons_succ, List.getElem_cons_zero, List.setIfInBounds_toArray, List.set_cons_zero, List.set_cons_succ]
          refine wpAnyH_take (i := 6) (v := ?_) rfl (by kernel_rfl) (by kernel_rfl) (by kernel_rfl) (fun _ _ _ h => h) (Or.inl ⟨by rfl, ?_⟩) (by assumption) ?_
          rotate_left
          · intro wS hSw
            (try dsimp only at hSw)
            go_simp
            first | done | with_reducible rfl
          try simp only [Act.put, List.getElem_toArray, List.getElem_cons_succ, List.getElem_cons_zero, List.setIfInBounds_toArray, List.set_cons_zero, List.set_cons_succ]
          refine wpAnyH_take (i := 7) (v := ?_) rfl (by kernel_rfl) (by kernel_rfl) (by kernel_rfl) (fun _ _ _ h => h) (Or.inl ⟨by rfl, ?_⟩) (by assumption) ?_
          rotate_left
          · intro wS hSw
            (try dsimp only at hSw)
            go_simp
            first | done | with_reducible rfl
          try simp only [Act.put, List.getElem_toArray, List.getElem_cons_succ, List.getElem_cons_zero, List.setIfInBounds_toArray, List.set_cons_zero, List.set_cons_succ]
          refine wpAnyH_take (i := 8) (v := ?_) rfl (by kernel_rfl) (by kernel_rfl) (by kernel_rfl) (fun _ _ _ h => h) (Or.inl ⟨by rfl, ?_⟩) (by assumption) ?_
          rotate_left
          · intro wS hSw
            (try dsimp only at hSw)
            have c0 := bcell hSw c0
            have c2 := bcell hSw c2
            have l1 := bcell hSw l1
            have m1 := bcell hSw m1
            go_simp
            first | done | with_reducible rfl
          try simp only [Act.put, List.getElem_toArray, List.getElem_cons_succ, List.getElem_cons_zero, List.setIfInBounds_toArray, List.set_cons_zero, List.set_cons_succ]
          refine wpAnyH_ready (rs := [4]) (by kernel_rfl) (by simp) ?_
          refine AllReadyH.cons rfl (fun K hK => ?_) AllReadyH.nil
          go_simp
          refine ((steps_any gp _ _ _ _ _ (HC9.out.2.1.below r0))).mono ?_; rintro x w10 ⟨rfl, rfl⟩
          refine hK.out _ _ ?_ (fun r1 => ?_)
          · exact r0
          try simp only [Act.put, List.getElem_toArray, List.getElem_cons_succ, List.getElem_cons_zero, List.setIfInBounds_toArray, List.set_cons_zero, List.set_cons_succ]
          refine wpAnyH_take (i := 9) (v := ?_) rfl (by kernel_rfl) (by kernel_rfl) (by kernel_rfl) (fun _ _ _ h => h) (Or.inl ⟨by rfl, ?_⟩) (by assumption) ?_
          rotate_left
          · intro wS hSw
            (try dsimp only at hSw)
            go_simp
            first | done | with_reducible rfl
          try simp only [Act.put, List.getElem_toArray, List.getElem_cons_succ, List.getElem_cons_zero, List.setIfInBounds_toArray, List.set_cons_zero, List.set_cons_succ]
          refine wpAnyH_take (i := 10) (v := ?_) rfl (by kernel_rfl) (by kernel_rfl) (by kernel_rfl) (fun _ _ _ h => h) (Or.inl ⟨by rfl, ?_⟩) (by assumption) ?_
          rotate_left
          · intro wS hSw
            (try dsimp only at hSw)
            go_simp
            first | done | with_reducible rfl
          try simp only [Act.put, List.getElem_toArray, List.getElem_cons_succ, List.getElem_cons_zero, List.setIfInBounds_toArray, List.set_cons_zero, List.set_cons_succ]
          refine wpAnyH_take (i := 11) (v := ?_) rfl (by kernel_rfl) (by kernel_rfl) (by kernel_rfl) (fun _ _ _ h => h) (Or.inl ⟨by rfl, ?_⟩) (by assumption) ?_
          rotate_left
          · intro wS hSw
            (try dsimp only at hSw)
            go_simp
            first | done | with_reducible rfl
          try simp only [Act.put, List.getElem_toArray, List.getElem_cons_succ, List.getElem_cons_zero, List.setIfInBounds_toArray, List.set_cons_zero, List.set_cons_succ]
          refine wpAnyH_take (i := 12) (v := ?_) rfl (by kernel_rfl) (by kernel_rfl) (by kernel_rfl) (fun _ _ _ h => h) (Or.inl ⟨by rfl, ?_⟩) (by assumption) ?_
          rotate_left
          · intro wS hSw
            (try dsimp only at hSw)
            go_simp
            first | done | with_reducible rfl
          try simp only [Act.put, List.getElem_toArray, List.getElem_cons_succ, List.getElem_cons_zero, List.setIfInBounds_toArray, List.set_cons_zero, List.set_cons_succ]
          refine wpAnyH_take (i := 13) (v := ?_) rfl (by kernel_rfl) (by kernel_rfl) (by kernel_rfl) (fun _ _ _ h => h) (Or.inl ⟨by rfl, ?_⟩) (by assumption) ?_
          rotate_left
          · intro wS hSw
            (try dsimp only at hSw)
            go_simp
            first | done | with_reducible rfl
          try simp only [Act.put, List.getElem_toArray, List.getElem_cons_succ, List.getElem_cons_zero, List.setIfInBounds_toArray, List.set_cons_zero, List.set_cons_succ]
          refine wpAnyH_take (i := 14) (v := ?_) rfl (by kernel_rfl) (by kernel_rfl) (by kernel_rfl) (fun _ _ _ h => h) (Or.inl ⟨by rfl, ?_⟩) (by assumption) ?_
          rotate_left
          · intro wS hSw
            (try dsimp only at hSw)
            have c0 := bcell hSw c0
            have c2 := bcell hSw c2
            have l1 := bcell hSw l1
            have m1 := bcell hSw m1
            go_simp
            first | done | with_reducible rfl
          try simp only [Act.put, List.getElem_toArray, List.getElem_cons_succ, List.getElem_cons_zero, List.setIfInBounds_toArray, List.set_cons_zero, List.set_cons_succ]
          refine wpAnyH_take (i := 15) (v := ?_) rfl (by kernel_rfl) (by kernel_rfl) (by kernel_rfl) (fun _ _ _ h => h) (Or.inl ⟨by rfl, ?_⟩) (by assumption) ?_
          rotate_left
          · intro wS hSw
            (try dsimp only at hSw)
            go_simp
            first | done | with_reducible rfl
          try simp only [Act.put, List.getElem_toArray, List.getElem_cons_succ, List.getElem_cons_zero, List.setIfInBounds_toArray, List.set_cons_zero, List.set_cons_succ]
          refine wpAnyH_take (i := 16) (v := ?_) rfl (by kernel_rfl) (by kernel_rfl) (by kernel_rfl) (fun _ _ _ h => h) (Or.inl ⟨by rfl, ?_⟩) (by assumption) ?_
          rotate_left
          · intro wS hSw
            (try dsimp only at hSw)
            go_simp
            first | done | with_reducible rfl
          try simp only [Act.put, List.getElem_toArray, List.getElem_cons_succ, List.getElem_cons_zero, List.setIfInBounds_toArray, List.set_cons_zero, List.set_cons_succ]
          refine wpAnyH_take (i := 17) (v := ?_) rfl (by kernel_rfl) (by kernel_rfl) (by kernel_rfl) (fun _ _ _ h => h) (Or.inl ⟨by rfl, ?_⟩) (by assumption) ?_
          rotate_left
          · intro wS hSw
            (try dsimp only at hSw)
            go_simp
            first | done | with_reducible rfl
          try simp only [Act.put, List.getElem_toArray, List.getElem_cons_succ, List.getElem_cons_zero, List.setIfInBounds_toArray, List.set_cons_zero, List.set_cons_succ]
          refine wpAnyH_take (i := 18) (v := ?_) rfl (by kernel_rfl) (by kernel_rfl) (by kernel_rfl) (fun _ _ _ h => h) (Or.inl ⟨by rfl, ?_⟩) (by assumption) ?_
          rotate_left
          · intro wS hSw
            (try dsimp only at hSw)
            go_simp
            first | done | with_reducible rfl
          try simp only [Act.put, List.getElem_toArray, List.getElem_cons_succ, List.getElem_cons_zero, List.setIfInBounds_toArray, List.set_cons_zero, List.set_cons_succ]
          refine wpAnyH_take (i := 19) (v := ?_) rfl (by kernel_rfl) (by kernel_rfl) (by kernel_rfl) (fun _ _ _ h => h) (Or.inl ⟨by rfl, ?_⟩) (by assumption) ?_
          rotate_left
          · intro wS hSw
            (try dsimp only at hSw)
            have c0 := bcell hSw c0
            have c2 := bcell hSw c2
            have l1 := bcell hSw l1
            have m1 := bcell hSw m1
            go_simp
            first | done | with_reducible rfl
          try simp only [Act.put, List.getElem_toArray, List.getElem_cons_succ, List.getElem_cons_zero, List.setIfInBounds_toArray, List.set_cons_zero, List.set_cons_succ]
          refine wpAnyH_take (i := 20) (v := ?_) rfl (by kernel_rfl) (by kernel_rfl) (by kernel_rfl) (fun _ _ _ h => h) (Or.inl ⟨by rfl, ?_⟩) (by assumption) ?_
          rotate_left
          · intro wS hSw
            (try dsimp only at hSw)
            go_simp
            first | done | with_reducible rfl
          try simp only [Act.put, List.getElem_toArray, List.getElem_cons_succ, List.getElem_cons_zero, List.setIfInBounds_toArray, List.set_cons_zero, List.set_cons_succ]
          refine wpAnyH_take (i := 21) (v := ?_) rfl (by kernel_rfl) (by kernel_rfl) (by kernel_rfl) (fun _ _ _ h => h) (Or.inl ⟨by rfl, ?_⟩) (by assumption) ?_
          rotate_left
          · intro wS hSw
            (try dsimp only at hSw)
            go_simp
            first | done | with_reducible rfl
          try simp only [Act.put, List.getElem_toArray, List.getElem_cons_succ, List.getElem_cons_zero, List.setIfInBounds_toArray, List.set_cons_zero, List.set_cons_succ]
          refine wpAnyH_take (i := 22) (v := ?_) rfl (by kernel_rfl) (by kernel_rfl) (by kernel_rfl) (fun _ _ _ h => h) (Or.inl ⟨by rfl, ?_⟩) (by assumption) ?_
          rotate_left
          · intro wS hSw
            (try dsimp only at hSw)
            go_simp
            first | done | with_reducible rfl
          try simp only [Act.put, List.getElem_toArray, List.getElem_cons_succ, List.getElem_cons_zero, List.setIfInBounds_toArray, List.set_cons_zero, List.set_cons_succ]
          refine wpAnyH_take (i := 23) (v := ?_) rfl (by kernel_rfl) (by kernel_rfl) (by kernel_rfl) (fun _ _ _ h => h) (Or.inl ⟨by rfl, ?_⟩) (by assumption) ?_
          rotate_left
          · intro wS hSw
            (try dsimp only at hSw)
            go_simp
            first | done | with_reducible rfl
          try simp only [Act.put, List.getElem_toArray, List.getElem_cons_succ, List.getElem_cons_zero, List.setIfInBounds_toArray, List.set_cons_zero, List.set_cons_succ]
          refine wpAnyH_take (i := 24) (v := ?_) rfl (by kernel_rfl) (by kernel_rfl) (by kernel_rfl) (fun _ _ _ h => h) (Or.inl ⟨by rfl, ?_⟩) (by assumption) ?_
          rotate_left
          · intro wS hSw
            (try dsimp only at hSw)
            go_simp
            first | done | with_reducible rfl
          try simp only [Act.put, List.getElem_toArray, List.getElem_cons_succ, List.getElem_cons_zero, List.setIfInBounds_toArray, List.set_cons_zero, List.set_cons_succ]
          refine wpAnyH_take (i := 25) (v := ?_) rfl (by kernel_rfl) (by kernel_rfl) (by kernel_rfl) (fun _ _ _ h => h) (Or.inl ⟨by rfl, ?_⟩) (by assumption) ?_
          rotate_left
          · intro wS hSw
            (try dsimp only at hSw)
            go_simp
            first | done | with_reducible rfl
          try simp only [Act.put, List.getElem_toArray, List.getElem_cons_succ, List.getElem_cons_zero, List.setIfInBounds_toArray, List.set_cons_zero, List.set_cons_succ]
          refine wpAnyH_take (i := 26) (v := ?_) rfl (by kernel_rfl) (by kernel_rfl) (by kernel_rfl) (fun _ _ _ h => h) (Or.inl ⟨by rfl, ?_⟩) (by assumption) ?_
          rotate_left
          · intro wS hSw
            (try dsimp only at hSw)
            go_simp
            first | done | with_reducible rfl
          try simp only [Act.put, List.getElem_toArray, List.getElem_cons_succ, List.getElem_cons_zero, List.setIfInBounds_toArray, List.set_cons_zero, List.set_cons_succ]
          refine wpAnyH_take (i := 27) (v := ?_) rfl (by kernel_rfl) (by kernel_rfl) (by kernel_rfl) (fun _ _ _ h => h) (Or.inl ⟨by rfl, ?_⟩) (by assumption) ?_
          rotate_left
          · intro wS hSw
            (try dsimp only at hSw)
            go_simp
            first | done | with_reducible rfl
          try simp only [Act.put, List.getElem_toArray, List.getElem_cons_succ, List.getElem_cons_zero, List.setIfInBounds_toArray, List.set_cons_zero, List.set_cons_succ]
          refine wpAnyH_take (i := 28) (v := ?_) rfl (by kernel_rfl) (by kernel_rfl) (by kernel_rfl) (fun _ _ _ h => h) (Or.inl ⟨by rfl, ?_⟩) (by assumption) ?_
          rotate_left
          · intro wS hSw
            (try dsimp only at hSw)
            have c0 := bcell hSw c0
            have c2 := bcell hSw c2
            have l1 := bcell hSw l1
            have m1 := bcell hSw m1
            go_simp
            first | done | with_reducible rfl
          try simp only [Act.put, List.getElem_toArray, List.getElem_cons_succ, List.getElem_cons_zero, List.setIfInBounds_toArray, List.set_cons_zero, List.set_cons_succ]
          refine wpAnyH_take (i := 29) (v := ?_) rfl (by kernel_rfl) (by kernel_rfl) (by kernel_rfl) (fun _ _ _ h => h) (Or.inl ⟨by rfl, ?_⟩) (by assumption) ?_
          rotate_left
          · intro wS hSw
            (try dsimp only at hSw)
            go_simp
            first | done | with_reducible rfl
          try simp only [Act.put, List.getElem_toArray, List.getElem_cons_succ, List.getElem_cons_zero, List.setIfInBounds_toArray, List.set_cons_zero, List.set_cons_succ]
          refine wpAnyH_take (i := 30) (v := ?_) rfl (by kernel_rfl) (by kernel_rfl) (by kernel_rfl) (fun _ _ _ h => h) (Or.inl ⟨by rfl, ?_⟩) (by assumption) ?_
          rotate_left
          · intro wS hSw
            (try dsimp only at hSw)
            go_simp
            first | done | with_reducible rfl
          try simp only [Act.put, List.getElem_toArray, List.getElem_cons_succ, List.getElem_cons_zero, List.setIfInBounds_toArray, List.set_cons_zero, List.set_cons_succ]
          refine wpAnyH_take (i := 31) (v := ?_) rfl (by kernel_rfl) (by kernel_rfl) (by kernel_rfl) (fun _ _ _ h => h) (Or.inl ⟨by rfl, ?_⟩) (by assumption) ?_
          rotate_left
          · intro wS hSw
            (try dsimp only at hSw)
            go_simp
            first | done | with_reducible rfl
          try simp only [Act.put, List.getElem_toArray, List.getElem_cons_succ, List.getElem_cons_zero, List.setIfInBounds_toArray, List.set_cons_zero, List.set_cons_succ]
          refine wpAnyH_take (i := 32) (v := ?_) rfl (by kernel_rfl) (by kernel_rfl) (by kernel_rfl) (fun _ _ _ h => h) (Or.inl ⟨by rfl, ?_⟩) (by assumption) ?_
          rotate_left
          · intro wS hSw
            (try dsimp only at hSw)
            have c0 := bcell hSw c0
            have c2 := bcell hSw c2
            have l1 := bcell hSw l1
            have m1 := bcell hSw m1
            go_simp
            first | done | with_reducible rfl
          try simp only [Act.put, List.getElem_toArray, List.getElem_cons_succ, List.getElem_cons_zero, List.setIfInBounds_toArray, List.set_cons_zero, List.set_cons_succ]
          refine wpAnyH_take (i := 33) (v := ?_) rfl (by kernel_rfl) (by kernel_rfl) (by kernel_rfl) (fun _ _ _ h => h) (Or.inl ⟨by rfl, ?_⟩) (by assumption) ?_
          rotate_left
          · intro wS hSw
            (try dsimp only at hSw)
            go_simp
            first | done | with_reducible rfl
          try simp only [Act.put, List.getElem_toArray, List.getElem_cons_succ, List.getElem_cons_zero, List.setIfInBounds_toArray, List.set_cons_zero, List.set_cons_succ]
          refine wpAnyH_take (i := 34) (v := ?_) rfl (by kernel_rfl) (by kernel_rfl) (by kernel_rfl) (fun _ _ _ h => h) (Or.inl ⟨by rfl, ?_⟩) (by assumption) ?_
          rotate_left
          · intro wS hSw
            (try dsimp only at hSw)
            go_simp
            first | done | with_reducible rfl
          try simp only [Act.put, List.getElem_toArray, List.getElem_cons_succ, List.getElem_cons_zero, List.setIfInBounds_toArray, List.set_cons_zero, List.set_cons_succ]
          refine wpAnyH_take (i := 35) (v := ?_) rfl (by kernel_rfl) (by kernel_rfl) (by kernel_rfl) (fun _ _ _ h => h) (Or.inl ⟨by rfl, ?_⟩) (by assumption) ?_
          rotate_left
          · intro wS hSw
            (try dsimp only at hSw)
            go_simp
            first | done | with_reducible rfl
          try simp only [Act.put, List.getElem_toArray, List.getElem_cons_succ, List.getElem_cons_zero, List.setIfInBounds_toArray, List.set_cons_zero, List.set_cons_succ]
          refine wpAnyH_take (i := 36) (v := ?_) rfl (by kernel_rfl) (by kernel_rfl) (by kernel_rfl) (fun _ _ _ h => h) (Or.inl ⟨by rfl, ?_⟩) (by assumption) ?_
          rotate_left
          · intro wS hSw
            (try dsimp only at hSw)
            have c0 := bcell hSw c0
            have c2 := bcell hSw c2
            have l1 := bcell hSw l1
            have m1 := bcell hSw m1
            go_simp
            first | done | with_reducible rfl
          try simp only [Act.put, List.getElem_toArray, List.getElem_cons_succ, List.getElem_cons_zero, List.setIfInBounds_toArray, List.set_cons_zero, List.set_cons_succ]
          refine wpAnyH_take (i := 37) (v := ?_) rfl (by kernel_rfl) (by kernel_rfl) (by kernel_rfl) (fun _ _ _ h => h) (Or.inl ⟨by rfl, ?_⟩) (by assumption) ?_
          rotate_left
          · intro wS hSw
            (try dsimp only at hSw)
            go_simp
            first | done | with_reducible rfl
          try simp only [Act.put, List.getElem_toArray, List.getElem_cons_succ, List.getElem_cons_zero, List.setIfInBounds_toArray, List.set_cons_zero, List.set_cons_succ]
          refine wpAnyH_take (i := 38) (v := ?_) rfl (by kernel_rfl) (by kernel_rfl) (by kernel_rfl) (fun _ _ _ h => h) (Or.inl ⟨by rfl, ?_⟩) (by assumption) ?_
          rotate_left
          · intro wS hSw
            (try dsimp only at hSw)
            go_simp
            first | done | with_reducible rfl
          try simp only [Act.put, List.getElem_toArray, List.getElem_cons_succ, List.getElem_cons_zero, List.setIfInBounds_toArray, List.set_cons_zero, List.set_cons_succ]
          refine wpAnyH_take (i := 39) (v := ?_) rfl (by kernel_rfl) (by kernel_rfl) (by kernel_rfl) (fun _ _ _ h => h) (Or.inl ⟨by rfl, ?_⟩) (by assumption) ?_
          rotate_left
          · intro wS hSw
            (try dsimp only at hSw)
            go_simp
            first | done | with_reducible rfl
          try simp only [Act.put, List.getElem_toArray, List.getElem_cons_succ, List.getElem_cons_zero, List.setIfInBounds_toArray, List.set_cons_zero, List.set_cons_succ]
          refine wpAnyH_take (i := 40) (v := ?_) rfl (by kernel_rfl) (by kernel_rfl) (by kernel_rfl) (fun _ _ _ h => h) (Or.inl ⟨by rfl, ?_⟩) (by assumption) ?_
          rotate_left
          · intro wS hSw
            (try dsimp only at hSw)
            go_simp
            first | done | with_reducible rfl
          try simp only [Act.put, List.getElem_toArray, List.getElem_cons_succ, List.getElem_cons_zero, List.setIfInBounds_toArray, List.set_cons_zero, List.set_cons_succ]
          refine wpAnyH_done (by kernel_rfl) ?_ _
          go_wp2_with fail
          go_roundw
          case rel =>
            have hcr := HC9.out.1.below r0
            have hpr := HC9.out.2.1.below r0
            refine ⟨i + 1, T ++ [p8], _, HLT.out, by go_num, by rw [HN1.out.2, HN1.out.1]; have := HTL.out; have := HLn.out; omega, Lib.hid ⟨hcr, ?_, ?_, HC9.out.2.2.2.1.below r0, HC9.out.2.2.2.2.trans (r0.mono HC9.out.2.2.2.2.size)⟩⟩
            · rw [HN1.out.2]; exact hpr
            · rw [HN1.out.2]; exact (r0.block gl (heap_lt HC9.out.2.2.1)).trans HC9.out.2.2.1
          case measure => simp [intOf]; have := HLT.out; omega
        · have HI2 := HI.out
          rw [decide_eq_false htl] at HI2
          have hrf := fun (w' : World) (hb : Below wr.heap.size wr w') => refOp_any gl T.length L (.slice wo nL wc) w' ((hb.block gl (heap_lt HI2.2.2.1)).trans HI2.2.2.1) (HI2.2.2.2.1.below hb)
          rw [decide_eq_false htl] at hrf
          have HXO := Lib.hid HI2
          have HRF := Lib.hid hrf
          have HO := Lib.hid (fun (w' : World) => ours_any (nextO L T.length) w')
          have HDF := Lib.hid htl
          generalize hxn : nextO L T.length = x at HXO HRF HO
          have HXN := Lib.hid hxn
          clear HI2 hrf hxn htl HI
          go_upto_region 10 with (go_at_call 9; refine (opP_any gp x false _ _ wr HXO.out.2.1).mono ?_; rintro e w2 ⟨rfl, hb2⟩)
          have hb3 := bel hb2 (belNew w2 (opO x))
          generalize w2.alloc (opO x) = w3 at *
          have H3 := Lib.hid hb3
          clear hb2 hb3 c0 c1 c2 q0
          go_upto_region 11 with (go_at_call 10; refine (HRF.out w3 H3.out).mono ?_; rintro e w4 ⟨rfl, hb4⟩)
          have hx5 := heap_alloc_new w4 (opR x)
          have hb5 := bel hb4 (belNew w4 (opR x))
          obtain ⟨by5, hby⟩ : ∃ by5, by5 = w4.heap.size := ⟨_, rfl⟩
          rw [← hby] at hx5 ⊢
          generalize w4.alloc (opR x) = w5 at *
          have H5 := Lib.hid (bel H3.out hb5)
          obtain ⟨k0, k1, k2, k3, k4, k5⟩ := opcells hx5
          clear hb4 hb5 hx5 hby H3 HRF
          go_upto_region 12 with (go_at_call 11; refine (HO.out w5).mono ?_; rintro e w6 ⟨rfl, hb6⟩)
          obtain ⟨W7, hW7, hb7, -, -, -⟩ := two_new w6 (opO (ours x)) (opR (ours x))
          change Code.wp _ _ _ _ ((w6.alloc (opO (ours x))).alloc (opR (ours x)))
          rw [← hW7]
          have hbw7 := bel H5.out (bel hb6 hb7)
          obtain ⟨c0, c1, c2⟩ := chcells (HXO.out.1.below hbw7).1
          have HB7 := Lib.hid hbw7
          clear hW7 hb7 hbw7 hb6 H5 HO k0 k1 k2 k3 k4 k5
          go_upto_region 14 with fail
          go_upto_region 16 with (go_at_call 12; refine (feed_idle gp _ _ _ ⟨0, rv, emp, []⟩ (.slice none 0 0) W7 (HXO.out.2.1.below HB7.out) ⟨none, 0, 0, rfl⟩).mono ?_; rintro e w8 ⟨rfl, hb8⟩)
          go_upto_region 18 with fail
          have hb9 := bel HB7.out hb8
          have hcr9 := HXO.out.1.below hb9
          have hx9 := (hb9.block gl (heap_lt HXO.out.2.2.1)).trans HXO.out.2.2.1
          have hp9 := HXO.out.2.1.below hb9
          obtain ⟨to8, tc8, rfl⟩ := hcr9.2.2.1.slice
          obtain ⟨c0, c1, c2⟩ := chcells hcr9.1
          have l1 := cell1 hx9
          have HC9 := Lib.hid (And.intro hcr9 (And.intro hp9 (And.intro hx9 (And.intro (HXO.out.2.2.2.1.below hb9) (HXO.out.2.2.2.2.trans (hb9.mono HXO.out.2.2.2.2.size))))))
          clear hcr9 hx9 hp9 hb9 hb8
          refine wp_region_held_drew (S := (fun W => Below w8.heap.size w8 W)) (by kernel_rfl) ?_ (fun r0 => ?_)
          · exact ⟨rfl, rfl, rfl, Nat.le_refl _, fun _ _ => rfl⟩
          refine wpAnyH_take (i := 0) (v := ?_) rfl (by kernel_rfl) (by kernel_rfl) (by kernel_rfl) (fun _ _ _ h => h) (Or.inl ⟨by rfl, ?_⟩) (by assumption) ?_
          rotate_left
          · intro wS hSw
            (try dsimp only at hSw)
            go_simp
            first | done | with_reducible rfl
          try simp only [Act.put, List.getElem_toArray, List.getElem_cons_succ, List.getElem_cons_zero, List.setIfInBounds_toArray, List.set_cons_zero, List.set_cons_succ]
          refine wpAnyH_take (i := 1) (v := ?_) rfl (by kernel_rfl) (by kernel_rfl) (by kernel_rfl) (fun _ _ _ h => h) (Or.inl ⟨by rfl, ?_⟩) (by assumption) ?_
          rotate_left
          · intro wS hSw
            (try dsimp only at hSw)
            go_simp
            first | done | with_reducible rfl
          try simp only [Act.put, List.getElem_toArray, List.getElem_cons_succ, List.getElem_cons_zero, List.setIfInBounds_toArray, List.set_cons_zero, List.set_cons_succ]
          refine wpAnyH_take (i := 2) (v := ?_) rfl (by kernel_rfl) (by kernel_rfl) (by kernel_rfl) (fun _ _ _ h => h) (Or.inl ⟨by rfl, ?_⟩) (by assumption) ?_
          rotate_left
          · intro wS hSw
            (try dsimp only at hSw)
            go_simp
            first | done | with_reducible rfl
          try simp only [Act.put, List.getElem_toArray, List.getElem_cons_succ, List.getElem_cons_zero, List.setIfInBounds_toArray, List.set_cons_zero, List.set_cons_succ]
          refine wpAnyH_take (i := 3) (v := ?_) rfl (by kernel_rfl) (by kernel_rfl) (by kernel_rfl) (fun _ _ _ h => h) (Or.inl ⟨by rfl, ?_⟩) (by assumption) ?_
          rotate_left
          · intro wS hSw
            (try dsimp only at hSw)
            have c0 := bcell hSw c0
            have c2 := bcell hSw c2
            have l1 := bcell hSw l1
            go_simp
            first | done | with_reducible rfl
          try simp only [Act.put, List.getElem_toArray, List.getElem_cons_succ, List.getElem_cons_zero, List.setIfInBounds_toArray, List.set_cons_zero, List.set_cons_succ]
          refine wpAnyH_take (i := 5) (v := ?_) rfl (by kernel_rfl) (by kernel_rfl) (by kernel_rfl) (fun _ _ _ h => h) (Or.inl ⟨by rfl, ?_⟩) (by assumption) ?_
          rotate_left
          · intro wS hSw
            (try dsimp only at hSw)
            go_simp
            first | done | with_reducible rfl
          try simp only [Act.put, List.getElem_toArray, List.getElem_cons_succ, List.getElem_cons_zero, List.setIfInBounds_toArray, List.set_cons_zero, List.set_cons_succ]
          refine wpAnyH_take (i := 6) (v := ?_) rfl (by kernel_rfl) (by kernel_rfl) (by kernel_rfl) (fun _ _ _ h => h) (Or.inl ⟨by rfl, ?_⟩) (by assumption) ?_
          rotate_left
          · intro wS hSw
            (try dsimp only at hSw)
            go_simp
            first | done | with_reducible rfl
          try simp only [Act.put, List.getElem_toArray, List.getElem_cons_succ, List.getElem_cons_zero, List.setIfInBounds_toArray, List.set_cons_zero, List.set_cons_succ]
          refine wpAnyH_take (i := 7) (v := ?_) rfl (by kernel_rfl) (by kernel_rfl) (by kernel_rfl) (fun _ _ _ h => h) (Or.inl ⟨by rfl, ?_⟩) (by assumption) ?_
          rotate_left
          · intro wS hSw
            (try dsimp only at hSw)
            go_simp
            first | done | with_reducible rfl
          try simp only [Act.put, List.getElem_toArray, List.getElem_cons_succ, List.getElem_cons_zero, List.setIfInBounds_toArray, List.set_cons_zero, List.set_cons_succ]
          refine wpAnyH_take (i := 8) (v := ?_) rfl (by kernel_rfl) (by kernel_rfl) (by kernel_rfl) (fun _ _ _ h => h) (Or.inl ⟨by rfl, ?_⟩) (by assumption) ?_
          rotate_left
          · intro wS hSw
            (try dsimp only at hSw)
            have c0 := bcell hSw c0
            have c2 := bcell hSw c2
            have l1 := bcell hSw l1
            go_simp
            first | done | with_reducible rfl
          try simp only [Act.put, List.getElem_toArray, List.getElem_cons_succ, List.getElem_cons_zero, List.setIfInBounds_toArray, List.set_cons_zero, List.set_cons_succ]
          refine wpAnyH_ready (rs := [4]) (by kernel_rfl) (by simp) ?_
          refine AllReadyH.cons rfl (fun K hK => ?_) AllReadyH.nil
          go_simp
          refine ((steps_any gp _ _ _ _ _ (HC9.out.2.1.below r0))).mono ?_; rintro x w10 ⟨rfl, rfl⟩
          refine hK.out _ _ ?_ (fun r1 => ?_)
          · exact r0
          try simp only [Act.put, List.getElem_toArray, List.getElem_cons_succ, List.getElem_cons_zero, List.setIfInBounds_toArray, List.set_cons_zero, List.set_cons_succ]
          refine wpAnyH_take (i := 9) (v := ?_) rfl (by kernel_rfl) (by kernel_rfl) (by kernel_rfl) (fun _ _ _ h => h) (Or.inl ⟨by rfl, ?_⟩) (by assumption) ?_
          rotate_left
          · intro wS hSw
            (try dsimp only at hSw)
            go_simp
            first | done | with_reducible rfl
          try simp only [Act.put, List.getElem_toArray, List.getElem_cons_succ, List.getElem_cons_zero, List.setIfInBounds_toArray, List.set_cons_zero, List.set_cons_succ]
          refine wpAnyH_take (i := 10) (v := ?_) rfl (by kernel_rfl) (by kernel_rfl) (by kernel_rfl) (fun _ _ _ h => h) (Or.inl ⟨by rfl, ?_⟩) (by assumption) ?_
          rotate_left
          · intro wS hSw
            (try dsimp only at hSw)
            go_simp
            first | done | with_reducible rfl
          try simp only [Act.put, List.getElem_toArray, List.getElem_cons_succ, List.getElem_cons_zero, List.setIfInBounds_toArray, List.set_cons_zero, List.set_cons_succ]
          refine wpAnyH_take (i := 11) (v := ?_) rfl (by kernel_rfl) (by kernel_rfl) (by kernel_rfl) (fun _ _ _ h => h) (Or.inl ⟨by rfl, ?_⟩) (by assumption) ?_
          rotate_left
          · intro wS hSw
            (try dsimp only at hSw)
            go_simp
            first | done | with_reducible rfl
          try simp only [Act.put, List.getElem_toArray, List.getElem_cons_succ, List.getElem_cons_zero, List.setIfInBounds_toArray, List.set_cons_zero, List.set_cons_succ]
          refine wpAnyH_take (i := 12) (v := ?_) rfl (by kernel_rfl) (by kernel_rfl) (by kernel_rfl) (fun _ _ _ h => h) (Or.inl ⟨by rfl, ?_⟩) (by assumption) ?_
          rotate_left
          · intro wS hSw
            (try dsimp only at hSw)
            go_simp
            first | done | with_reducible rfl
          try simp only [Act.put, List.getElem_toArray, List.getElem_cons_succ, List.getElem_cons_zero, List.setIfInBounds_toArray, List.set_cons_zero, List.set_cons_succ]
          refine wpAnyH_take (i := 13) (v := ?_) rfl (by kernel_rfl) (by kernel_rfl) (by kernel_rfl) (fun _ _ _ h => h) (Or.inl ⟨by rfl, ?_⟩) (by assumption) ?_
          rotate_left
          · intro wS hSw
            (try dsimp only at hSw)
            go_simp
            first | done | with_reducible rfl
          try simp only [Act.put, List.getElem_toArray, List.getElem_cons_succ, List.getElem_cons_zero, List.setIfInBounds_toArray, List.set_cons_zero, List.set_cons_succ]
          refine wpAnyH_take (i := 14) (v := ?_) rfl (by kernel_rfl) (by kernel_rfl) (by kernel_rfl) (fun _ _ _ h => h) (Or.inl ⟨by rfl, ?_⟩) (by assumption) ?_
          rotate_left
          · intro wS hSw
            (try dsimp only at hSw)
            have c0 := bcell hSw c0
            have c2 := bcell hSw c2
            have l1 := bcell hSw l1
            go_simp
            first | done | with_reducible rfl
          try simp only [Act.put, List.getElem_toArray, List.getElem_cons_succ, List.getElem_cons_zero, List.setIfInBounds_toArray, List.set_cons_zero, List.set_cons_succ]
          refine wpAnyH_take (i := 15) (v := ?_) rfl (by kernel_rfl) (by kernel_rfl) (by kernel_rfl) (fun _ _ _ h => h) (Or.inl ⟨by rfl, ?_⟩) (by assumption) ?_
          rotate_left
          · intro wS hSw
            (try dsimp only at hSw)
            go_simp
            first | done | with_reducible rfl
          try simp only [Act.put, List.getElem_toArray, List.getElem_cons_succ, List.getElem_cons_zero, List.setIfInBounds_toArray, List.set_cons_zero, List.set_cons_succ]
          refine wpAnyH_take (i := 16) (v := ?_) rfl (by kernel_rfl) (by kernel_rfl) (by kernel_rfl) (fun _ _ _ h => h) (Or.inl ⟨by rfl, ?_⟩) (by assumption) ?_
          rotate_left
          · intro wS hSw
            (try dsimp only at hSw)
            go_simp
            first | done | with_reducible rfl
          try simp only [Act.put, List.getElem_toArray, List.getElem_cons_succ, List.getElem_cons_zero, List.setIfInBounds_toArray, List.set_cons_zero, List.set_cons_succ]
          refine wpAnyH_take (i := 17) (v := ?_) rfl (by kernel_rfl) (by kernel_rfl) (by kernel_rfl) (fun _ _ _ h => h) (Or.inl ⟨by rfl, ?_⟩) (by assumption) ?_
          rotate_left
          · intro wS hSw
            (try dsimp only at hSw)
            go_simp
            first | done | with_reducible rfl
          try simp only [Act.put, List.getElem_toArray, List.getElem_cons_succ, List.getElem_cons_zero, List.setIfInBounds_toArray, List.set_cons_zero, List.set_cons_succ]
          refine wpAnyH_take (i := 18) (v := ?_) rfl (by kernel_rfl) (by kernel_rfl) (by kernel_rfl) (fun _ _ _ h => h) (Or.inl ⟨by rfl, ?_⟩) (by assumption) ?_
          rotate_left
          · intro wS hSw
            (try dsimp only at hSw)
            go_simp
            first | done | with_reducible rfl
          try simp only [Act.put, List.getElem_toArray, List.getElem_cons_succ, List.getElem_cons_zero, List.setIfInBounds_toArray, List.set_cons_zero, List.set_cons_succ]
          refine wpAnyH_take (i := 19) (v := ?_) rfl (by kernel_rfl) (by kernel_rfl) (by kernel_rfl) (fun _ _ _ h => h) (Or.inl ⟨by rfl, ?_⟩) (by assumption) ?_
          rotate_left
          · intro wS hSw
            (try dsimp only at hSw)
            have c0 := bcell hSw c0
            have c2 := bcell hSw c2
            have l1 := bcell hSw l1
            go_simp
            first | done | with_reducible rfl
          try simp only [Act.put, List.getElem_toArray, List.getElem_cons_succ, List.getElem_cons_zero, List.setIfInBounds_toArray, List.set_cons_zero, List.set_cons_succ]
          refine wpAnyH_take (i := 20) (v := ?_) rfl (by kernel_rfl) (by kernel_rfl) (by kernel_rfl) (fun _ _ _ h => h) (Or.inl ⟨by rfl, ?_⟩) (by assumption) ?_
          rotate_left
          · intro wS hSw
            (try dsimp only at hSw)
            go_simp
            first | done | with_reducible rfl
          try simp only [Act.put, List.getElem_toArray, List.getElem_cons_succ, List.getElem_cons_zero, List.setIfInBounds_toArray, List.set_cons_zero, List.set_cons_succ]
          refine wpAnyH_take (i := 21) (v := ?_) rfl (by kernel_rfl) (by kernel_rfl) (by kernel_rfl) (fun _ _ _ h => h) (Or.inl ⟨by rfl, ?_⟩) (by assumption) ?_
          rotate_left
          · intro wS hSw
            (try dsimp only at hSw)
            go_simp
            first | done | with_reducible rfl
          try simp only [Act.put, List.getElem_toArray, List.getElem_cons_succ, List.getElem_cons_zero, List.setIfInBounds_toArray, List.set_cons_zero, List.set_cons_succ]
          refine wpAnyH_take (i := 22) (v := ?_) rfl (by kernel_rfl) (by kernel_rfl) (by kernel_rfl) (fun _ _ _ h => h) (Or.inl ⟨by rfl, ?_⟩) (by assumption) ?_
          rotate_left
          · intro wS hSw
            (try dsimp only at hSw)
            go_simp
            first | done | with_reducible rfl
          try simp only [Act.put, List.getElem_toArray, List.getElem_cons_succ, List.getElem_cons_zero, List.setIfInBounds_toArray, List.set_cons_zero, List.set_cons_succ]
          refine wpAnyH_take (i := 23) (v := ?_) rfl (by kernel_rfl) (by kernel_rfl) (by kernel_rfl) (fun _ _ _ h => h) (Or.inl ⟨by rfl, ?_⟩) (by assumption) ?_
          rotate_left
          · intro wS hSw
            (try dsimp only at hSw)
            go_simp
            first | done | with_reducible rfl
          try simp only [Act.put, List.getElem_toArray, List.getElem_cons_succ, List.getElem_cons_zero, List.setIfInBounds_toArray, List.set_cons_zero, List.set_cons_succ]
          refine wpAnyH_take (i := 24) (v := ?_) rfl (by kernel_rfl) (by kernel_rfl) (by kernel_rfl) (fun _ _ _ h => h) (Or.inl ⟨by rfl, ?_⟩) (by assumption) ?_
          rotate_left
          · intro wS hSw
            (try dsimp only at hSw)
            go_simp
            first | done | with_reducible rfl
          try simp only [Act.put, List.getElem_toArray, List.getElem_cons_succ, List.getElem_cons_zero, List.setIfInBounds_toArray, List.set_cons_zero, List.set_cons_succ]
          refine wpAnyH_take (i := 25) (v := undef) rfl (by kernel_rfl) (by kernel_rfl) (by kernel_rfl) (fun _ _ _ h => h) (Or.inr ⟨by rfl, rfl⟩) (by assumption) ?_
          try simp only [Act.put, List.getElem_toArray, List.getElem_cons_succ, List.getElem_cons_zero, List.setIfInBounds_toArray, List.set_cons_zero, List.set_cons_succ]
          refine wpAnyH_take (i := 26) (v := undef) rfl (by kernel_rfl) (by kernel_rfl) (by kernel_rfl) (fun _ _ _ h => h) (Or.inr ⟨by rfl, rfl⟩) (by assumption) ?_
          try simp only [Act.put, List.getElem_toArray, List.getElem_cons_succ, List.getElem_cons_zero, List.setIfInBounds_toArray, List.set_cons_zero, List.set_cons_succ]
          refine wpAnyH_take (i := 27) (v := undef) rfl (by kernel_rfl) (by kernel_rfl) (by kernel_rfl) (fun _ _ _ h => h) (Or.inr ⟨by rfl, rfl⟩) (by assumption) ?_
          try simp only [Act.put, List.getElem_toArray, List.getElem_cons_succ, List.getElem_cons_zero, List.setIfInBounds_toArray, List.set_cons_zero, List.set_cons_succ]
          refine wpAnyH_take (i := 28) (v := undef) rfl (by kernel_rfl) (by kernel_rfl) (by kernel_rfl) (fun _ _ _ h => h) (Or.inr ⟨by rfl, rfl⟩) (by assumption) ?_
          try simp only [Act.put, List.getElem_toArray, List.getElem_cons_succ, List.getElem_cons_zero, List.setIfInBounds_toArray, List.set_cons_zero, List.set_cons_succ]
          refine wpAnyH_take (i := 29) (v := undef) rfl (by kernel_rfl) (by kernel_rfl) (by kernel_rfl) (fun _ _ _ h => h) (Or.inr ⟨by rfl, rfl⟩) (by assumption) ?_
          try simp only [Act.put, List.getElem_toArray, List.getElem_cons_succ, List.getElem_cons_zero, List.setIfInBounds_toArray, List.set_cons_zero, List.set_cons_succ]
          refine wpAnyH_take (i := 30) (v := undef) rfl (by kernel_rfl) (by kernel_rfl) (by kernel_rfl) (fun _ _ _ h => h) (Or.inr ⟨by rfl, rfl⟩) (by assumption) ?_
          try simp only [Act.put, List.getElem_toArray, List.getElem_cons_succ, List.getElem_cons_zero, List.setIfInBounds_toArray, List.set_cons_zero, List.set_cons_succ]
          refine wpAnyH_take (i := 31) (v := undef) rfl (by kernel_rfl) (by kernel_rfl) (by kernel_rfl) (fun _ _ _ h => h) (Or.inr ⟨by rfl, rfl⟩) (by assumption) ?_
          try simp only [Act.put, List.getElem_toArray, List.getElem_cons_succ, List.getElem_cons_zero, List.setIfInBounds_toArray, List.set_cons_zero, List.set_cons_succ]
          refine wpAnyH_take (i := 32) (v := undef) rfl (by kernel_rfl) (by kernel_rfl) (by kernel_rfl) (fun _ _ _ h => h) (Or.inr ⟨by rfl, rfl⟩) (by assumption) ?_
          try simp only [Act.put, List.getElem_toArray, List.getElem_cons_succ, List.getElem_cons_zero, List.setIfInBounds_toArray, List.set_cons_zero, List.set_cons_succ]
          refine wpAnyH_take (i := 33) (v := undef) rfl (by kernel_rfl) (by kernel_rfl) (by kernel_rfl) (fun _ _ _ h => h) (Or.inr ⟨by rfl, rfl⟩) (by assumption) ?_
          try simp only [Act.put, List.getElem_toArray, List.getElem_cons_succ, List.getElem_cons_zero, List.setIfInBounds_toArray, List.set_cons_zero, List.set_cons_succ]
          refine wpAnyH_take (i := 34) (v := undef) rfl (by kernel_rfl) (by kernel_rfl) (by kernel_rfl) (fun _ _ _ h => h) (Or.inr ⟨by rfl, rfl⟩) (by assumption) ?_
          try simp only [Act.put, List.getElem_toArray, List.getElem_cons_succ, List.getElem_cons_zero, List.setIfInBounds_toArray, List.set_cons_zero, List.set_cons_succ]
          refine wpAnyH_take (i := 35) (v := undef) rfl (by kernel_rfl) (by kernel_rfl) (by kernel_rfl) (fun _ _ _ h => h) (Or.inr ⟨by rfl, rfl⟩) (by assumption) ?_
          try simp only [Act.put, List.getElem_toArray, List.getElem_cons_succ, List.getElem_cons_zero, List.setIfInBounds_toArray, List.set_cons_zero, List.set_cons_succ]
          refine wpAnyH_take (i := 36) (v := undef) rfl (by kernel_rfl) (by kernel_rfl) (by kernel_rfl) (fun _ _ _ h => h) (Or.inr ⟨by rfl, rfl⟩) (by assumption) ?_
          try simp only [Act.put, List.getElem_toArray, List.getElem_cons_succ, List.getElem_cons_zero, List.setIfInBounds_toArray, List.set_cons_zero, List.set_cons_succ]
          refine wpAnyH_take (i := 37) (v := undef) rfl (by kernel_rfl) (by kernel_rfl) (by kernel_rfl) (fun _ _ _ h => h) (Or.inr ⟨by rfl, rfl⟩) (by assumption) ?_
          try simp only [Act.put, List.getElem_toArray, List.getElem_cons_succ, List.getElem_cons_zero, List.setIfInBounds_toArray, List.set_cons_zero, List.set_cons_succ]
          refine wpAnyH_take (i := 38) (v := undef) rfl (by kernel_rfl) (by kernel_rfl) (by kernel_rfl) (fun _ _ _ h => h) (Or.inr ⟨by rfl, rfl⟩) (by assumption) ?_
          try simp only [Act.put, List.getElem_toArray, List.getElem_cons_succ, List.getElem_cons_zero, List.setIfInBounds_toArray, List.set_cons_zero, List.set_cons_succ]
          refine wpAnyH_take (i := 39) (v := ?_) rfl (by kernel_rfl) (by kernel_rfl) (by kernel_rfl) (fun _ _ _ h => h) (Or.inl ⟨by rfl, ?_⟩) (by assumption) ?_
          rotate_left
          · intro wS hSw
            (try dsimp only at hSw)
            go_simp
            first | done | with_reducible rfl
          try simp only [Act.put, List.getElem_toArray, List.getElem_cons_succ, List.getElem_cons_zero, List.setIfInBounds_toArray, List.set_cons_zero, List.set_cons_succ]
          refine wpAnyH_take (i := 40) (v := ?_) rfl (by kernel_rfl) (by kernel_rfl) (by kernel_rfl) (fun _ _ _ h => h) (Or.inl ⟨by rfl, ?_⟩) (by assumption) ?_
          rotate_left
          · intro wS hSw
            (try dsimp only at hSw)
            go_simp
            first | done | with_reducible rfl
          try simp only [Act.put, List.getElem_toArray, List.getElem_cons_succ, List.getElem_cons_zero, List.setIfInBounds_toArray, List.set_cons_zero, List.set_cons_succ]
          refine wpAnyH_done (by kernel_rfl) ?_ _
          go_wp2_with fail
          go_roundw
          case rel =>
            have hpr := HC9.out.2.1.below r0
            refine ⟨i + 1, T, _, HLT.out, by go_num, by assumption, Lib.hid ⟨HC9.out.1.below r0, ?_, (r0.block gl (heap_lt HC9.out.2.2.1)).trans HC9.out.2.2.1, HC9.out.2.2.2.1.below r0, HC9.out.2.2.2.2.trans (r0.mono HC9.out.2.2.2.2.size)⟩⟩
            rw [decide_eq_false HDF.out, HXN.out]; exact hpr
          case measure => simp [intOf]; have := HLT.out; omega
    · go_wp2_with (go_at_call 14; refine (awake19_any wr).mono ?_; rintro e w9 ⟨rfl, hb9⟩)
      go_ret
      exact ⟨rfl, HI.out.2.2.2.2.trans (hb9.mono HI.out.2.2.2.2.size)⟩
theorem lawMachAsksF (w : World) (v : Value) (os : List KOp) (v2 : Value) (ks : List Int) (h : ArgOps9 w v os) (hk : SeesJ w v2 ks) (hkl : ks.length ≤ maxLen) : Calls Try.prog 3 #[v, v2] w fun e w' => e = .returned (.bool true) ∧ Below w.heap.size w w' := lawMachAsks w v v2 os ks h hk hkl
end Go.Proofs.Ytholgmcfgnifdaa
