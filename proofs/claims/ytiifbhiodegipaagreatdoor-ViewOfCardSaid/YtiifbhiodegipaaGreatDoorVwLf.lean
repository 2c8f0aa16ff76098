/- The law ViewOf: what any items say is as the chapter says. Made by g_vwlf.py. -/
import Derived.Test.YtiifbhiodegipaaGreatDoorSq
import Derived.Test.YtiifbhiodegipaaGreatDoorVwSy
import Derived.Test.YtiifbhiodegipaaGreatDoorVwApart
namespace Go.Proofs.YtiifbhiodegipaaGreatDoor
open Go.RowKit
theorem fewL_len (L : List IT) : (fewL L).length ≤ 12 := by
  unfold fewL
  rw [List.length_map, List.length_take]
  omega
theorem fewL_sz (L : List IT) : ∀ q ∈ fewL L, q.1.size ≤ 130 ∧ q.2.1.size ≤ 600 := fun q hq => by
  obtain ⟨p, _, rfl⟩ := List.mem_map.1 hq
  exact ⟨cut18_le _ _, cut18_le _ _⟩
theorem ldGIf {ops : Array Oper} {S : World → Prop} {op : Oper} {a : Act} {T : TypeId} {g n : Nat} {L : List Value} (hw : Region.wanted op (yielded ops a.tmps) = true) (x : Operand) (ho : op.op = .load T x) (hx : a.eval x = .pointer (some ⟨g, 0, none⟩)) (hS : ∀ W, S W → At W g T L) (hl : L.length = n) (hi : (Tryz.prog.info? T).map (·.size) = some n) {fs} (hT : Tryz.prog.underlying T = some (.struct fs)) :
    YieldsIf Tryz.prog ops S op (.agg L.toArray) a :=
  yieldsIf_load_mid hw T x ho g 0 hx L _ (fun W hW => (hS W hW).whole) hT rfl (by rw [hi, hl])
set_option maxRecDepth 100000 in
set_option maxHeartbeats 16000000 in
theorem lawOf (v : Value) (L : List IT) (w : World) (hv : SeesIt w v L) (hE : NM.Env w) (hl : L.length ≤ maxLen) :
    Calls Tryz.prog 3 #[v] w fun e w' => e = .returned (.bool true) ∧ Below w.heap.size w w' := by
  have hM12 := fewL_len L
  have hMs := fewL_sz L
  have HFW := Lib.hid (few18_any v L w hv hl)
  generalize fewL L = M at *
  have HM := Lib.hid (And.intro hM12 hMs)
  have HE := Lib.hid hE
  clear hv hl hM12 hMs hE
  go_enter Tryz.func3, Tryz.ntmps3
  go_wp2_with fail
  refine HFW.out.mono ?_; rintro e w1 ⟨v1, rfl, hs1, hb1⟩
  have H1 := Lib.hid (And.intro hs1 hb1)
  clear hs1 hb1 HFW
  go_wp2_with fail
  refine (items18_any v1 M w1 H1.out.1 (by have := HM.out.1; omega)).mono ?_; rintro e w2 ⟨v2, rfl, hs2, hb2⟩
  have H2 := Lib.hid (And.intro (SeesG.below H1.out.1 hb2) (bel H1.out.2 hb2))
  have HS2 := Lib.hid hs2
  clear hs2 hb2 H1
  go_wp2_with fail
  refine (vwOf_all v2 M w2 HS2.out (HE.out.below H2.out.2) (by have := HM.out.1; omega) (fun q hq => by have := (HM.out.2 q hq).1; omega) (fun q hq => by have := (HM.out.2 q hq).2; omega)).mono ?_; intro e w3 hof
  rw [vwN_all M M.length (Nat.le_refl _)] at hof
  have HAL := Lib.hid (fun w h => refAll_any v1 M w h (by have := HM.out.1; omega) (fun q hq => ⟨by have := (HM.out.2 q hq).1; omega, (HM.out.2 q hq).2⟩))
  cases hall : allN M M.length with
  | none =>
    rw [hall] at hof HAL
    obtain ⟨rfl, hb3⟩ := hof
    have hb4 := bel hb3 (belNew w3 (.cells #[NS, NS, .map none, .map none, .map none] 30))
    have hk4 := heap_alloc_new w3 (.cells #[NS, NS, .map none, .map none, .map none] 30)
    go_upto_region 3 with fail
    obtain ⟨w4, hw4⟩ : ∃ w4, w4 = w3.alloc (.cells #[NS, NS, .map none, .map none, .map none] 30) := ⟨_, rfl⟩
    rw [← hw4] at hb4 hk4 ⊢
    obtain ⟨gv, hgv⟩ : ∃ gv, gv = w3.heap.size := ⟨_, rfl⟩
    rw [← hgv] at hk4 ⊢
    have H4 := Lib.hid (And.intro (bel H2.out.2 hb4) (And.intro (SeesG.below H2.out.1 hb4) hk4))
    clear hw4 hgv hb3 hb4 hk4 hall HS2 H2
    go_wp2_with fail
    refine (HAL.out _ H4.out.2.1).mono ?_; rintro e w5 ⟨rfl, hb5⟩
    have H5 := Lib.hid (And.intro (bel H4.out.1 hb5) ((hb5.block _ (heap_lt H4.out.2.2)).trans H4.out.2.2))
    clear hb5 H4 HAL
    obtain ⟨v0, v1', v2', v3', v4'⟩ := vcellsS H5.out.2
    have n3 : ∀ ty w, (Builtin.len_ #[26] ty #[.map none]).run Tryz.prog w = .ok (.int .i64 0) w := fun ty w => by kernel_rfl
    have n4 : ∀ ty w, (Builtin.len_ #[27] ty #[.map none]).run Tryz.prog w = .ok (.int .i64 0) w := fun ty w => by kernel_rfl
    have n5 : ∀ ty w, (Builtin.len_ #[28] ty #[.map none]).run Tryz.prog w = .ok (.int .i64 0) w := fun ty w => by kernel_rfl
    go_wp2_with fail
    refine (awake18_any _ (HE.out.below H5.out.1)).mono ?_; rintro e w6 ⟨rfl, hb6⟩
    have HB6 := Lib.hid (bel H5.out.1 hb6)
    clear hb6 n3 n4 n5
    go_wp2_with fail
    go_ret
    exact ⟨rfl, HB6.out⟩
  | some rs =>
    rw [hall] at hof HAL
    obtain ⟨hrs, hpw⟩ := allN_some (Nat.le_refl _) hall
    rw [List.take_length] at hrs hpw
    have hne := allN_ne hall
    obtain ⟨g, p, rfl, hV, hb3⟩ := hof
    obtain ⟨pv, bv, ma, mh, mn, PX, PH⟩ := p
    obtain ⟨po, pc, hpv⟩ := hV.pools.slice
    obtain ⟨bo, bc, hbv⟩ := hV.blks.slice
    simp only [] at hpv hbv
    subst hpv
    subst hbv
    simp only [vwL]
    have HV := Lib.hid hV
    have HRS := Lib.hid (And.intro hrs (And.intro hpw hne))
    generalize hn1 : (sumR rs).pools.length = n1 at *
    generalize hn2 : PX.length = n2 at *
    have HN := Lib.hid (And.intro hn1 hn2)
    have hb4 := bel hb3 (belNew w3 (.cells #[.slice po n1 pc, .slice bo n2 bc, .map (some ma), .map (some mh), .map (some mn)] 30))
    have hk4 := heap_alloc_new w3 (.cells #[.slice po n1 pc, .slice bo n2 bc, .map (some ma), .map (some mh), .map (some mn)] 30)
    have hV4 := hV.below (belNew w3 (.cells #[.slice po n1 pc, .slice bo n2 bc, .map (some ma), .map (some mh), .map (some mn)] 30))
    clear hn1 hn2 hrs hpw hne hall HV
    go_upto_region 3 with fail
    obtain ⟨w4, hw4⟩ : ∃ w4, w4 = w3.alloc (.cells #[.slice po n1 pc, .slice bo n2 bc, .map (some ma), .map (some mh), .map (some mn)] 30) := ⟨_, rfl⟩
    rw [← hw4] at hb4 hk4 hV4 ⊢
    obtain ⟨gv, hgv⟩ : ∃ gv, gv = w3.heap.size := ⟨_, rfl⟩
    rw [← hgv] at hk4 ⊢
    have H4 := Lib.hid (And.intro (bel H2.out.2 hb4) (And.intro (SeesG.below H2.out.1 hb4) (And.intro hk4 hV4)))
    clear hw4 hgv hb3 hb4 hk4 hV4 HS2 H2 hV
    go_wp2_with fail
    refine (HAL.out _ H4.out.2.1).mono ?_; rintro e w6 ⟨v6, X, rfl, hr6, hX, hok6, hb6⟩
    obtain ⟨wo, wc, rfl⟩ := hr6.slice
    obtain ⟨hrs, hpw, hne⟩ := HRS.out
    have hXM : X.map (·.1) = M.map rdI := hX.trans hrs
    have hXl : X.length = M.length := by
      have := congrArg List.length hXM
      rwa [List.length_map, List.length_map] at this
    have hX12 : X.length ≤ 12 := by rw [hXl]; exact HM.out.1
    have hV6 := H4.out.2.2.2.below hb6
    rw [← hX] at hV6
    have hsz := sizes18 hXM hpw (fun q hq => by have := (HM.out.2 q hq).1; omega)
    have hN := HN.out
    rw [← hX] at hN
    have hcb : ∀ W, Below w6.heap.size w6 W → ∀ k : Int, Calls Tryz.prog 11 #[.slice wo X.length wc, .int .i64 k] W fun e w' => e = .returned (.int .i64 (cntR X k)) ∧ Below W.heap.size W w' := fun W hW k => by
      have h := count18_any wo wc wc X X.length k _ W (hr6.below hW) (Nat.le_refl _) (by omega)
      rwa [List.take_length] at h
    have h1 : n1 = cntR X 1 := hN.1.symm.trans hsz.1
    have h2 : n2 = cntR X 2 := by
      have h := congrArg List.length hV6.xs
      rw [List.length_map] at h
      exact hN.2.symm.trans (h.trans hsz.2.1)
    have HC1 : Hid (∀ W, Below w6.heap.size w6 W → Calls Tryz.prog 11 #[.slice wo X.length wc, .int .i64 1] W fun e w' => e = .returned (.int .i64 n1) ∧ Below W.heap.size W w') := Lib.hid (fun W hW => by rw [h1]; exact hcb W hW 1)
    have HC2 : Hid (∀ W, Below w6.heap.size w6 W → Calls Tryz.prog 11 #[.slice wo X.length wc, .int .i64 2] W fun e w' => e = .returned (.int .i64 n2) ∧ Below W.heap.size W w') := Lib.hid (fun W hW => by rw [h2]; exact hcb W hW 2)
    obtain ⟨n3, hn3⟩ : ∃ n3, n3 = cntR X 3 := ⟨_, rfl⟩
    obtain ⟨n4, hn4⟩ : ∃ n4, n4 = cntR X 4 := ⟨_, rfl⟩
    obtain ⟨n5, hn5⟩ : ∃ n5, n5 = cntR X 5 := ⟨_, rfl⟩
    have HC3 : Hid (∀ W, Below w6.heap.size w6 W → Calls Tryz.prog 11 #[.slice wo X.length wc, .int .i64 3] W fun e w' => e = .returned (.int .i64 n3) ∧ Below W.heap.size W w') := Lib.hid (fun W hW => by rw [hn3]; exact hcb W hW 3)
    have HC4 : Hid (∀ W, Below w6.heap.size w6 W → Calls Tryz.prog 11 #[.slice wo X.length wc, .int .i64 4] W fun e w' => e = .returned (.int .i64 n4) ∧ Below W.heap.size W w') := Lib.hid (fun W hW => by rw [hn4]; exact hcb W hW 4)
    have HC5 : Hid (∀ W, Below w6.heap.size w6 W → Calls Tryz.prog 11 #[.slice wo X.length wc, .int .i64 5] W fun e w' => e = .returned (.int .i64 n5) ∧ Below W.heap.size W w') := Lib.hid (fun W hW => by rw [hn5]; exact hcb W hW 5)
    obtain ⟨na, _, hA⟩ := hV6.affs
    obtain ⟨nh, _, hH, hHR⟩ := hV6.hans
    obtain ⟨nn, _, hNo⟩ := hV6.nods
    have HM3 : Hid (∀ W, Below w6.heap.size w6 W → ∀ ty, (Builtin.len_ #[26] ty #[.map (some ma)]).run Tryz.prog W = .ok (.int .i64 n3) W) := Lib.hid (fun W hW ty => by rw [hn3, ← hsz.2.2.1]; exact (hA.below hW).len Tryz.underlying26 ty)
    have HM4 : Hid (∀ W, Below w6.heap.size w6 W → ∀ ty, (Builtin.len_ #[27] ty #[.map (some mh)]).run Tryz.prog W = .ok (.int .i64 n4) W) := Lib.hid (fun W hW ty => by rw [hn4, ← hsz.2.2.2.1, ← HRel.len hHR]; exact (hH.below hW).len Tryz.underlying27 ty)
    have HM5 : Hid (∀ W, Below w6.heap.size w6 W → ∀ ty, (Builtin.len_ #[28] ty #[.map (some mn)]).run Tryz.prog W = .ok (.int .i64 n5) W) := Lib.hid (fun W hW ty => by rw [hn5, ← hsz.2.2.2.2]; exact (hNo.below hW).len Tryz.underlying28 ty)
    have hk6 := (hb6.block _ (heap_lt H4.out.2.2.1)).trans H4.out.2.2.1
    obtain ⟨v0, v1', v2', v3', v4'⟩ := vcellsS hk6
    have H6 := Lib.hid (And.intro (bel H4.out.1 hb6) (And.intro hk6 (And.intro hV6 (And.intro hr6 (And.intro hok6 (And.intro hXM hpw))))))
    have HX6 := Lib.hid (And.intro hX12 (And.intro hXl (fun x (hx : x ∈ X) => hne x.1 (by rw [← hX]; exact List.mem_map.2 ⟨x, hx, rfl⟩))))
    clear hr6 hX hok6 hb6 hrs hpw hne hXM hXl hX12 hV6 hsz hN hcb h1 h2 hn3 hn4 hn5 hA hH hHR hNo hk6 H4 HAL HRS HN
    generalize hXL : X.length = nX at *
    have HXL := Lib.hid hXL
    clear hXL
    go_upto_region 6 with fail
    refine wp_region_held_drew (S := (fun W => Below w6.heap.size w6 W)) (by kernel_rfl) ?_ (fun r0 => ?_)
    · exact ⟨rfl, rfl, rfl, Nat.le_refl _, fun _ _ => rfl⟩
    refine tk 0 rfl ?_
    try simp only [Act.put, qA, qB, qC, qD, qE, qF]
    refine tk 1 rfl ?_
    try simp only [Act.put, qA, qB, qC, qD, qE, qF]
    refine tk 2 rfl ?_
    try simp only [Act.put, qA, qB, qC, qD, qE, qF]
    refine tk 3 rfl ?_
    try simp only [Act.put, qA, qB, qC, qD, qE, qF]
    refine tq (v := ?_) 4 rfl ?_ ?_
    rotate_left
    · intro wS hSw
      (try dsimp only at hSw)
      have v0 := bcell hSw v0
      have v1' := bcell hSw v1'
      have v2' := bcell hSw v2'
      have v3' := bcell hSw v3'
      have v4' := bcell hSw v4'
      go_simp
      first | done | with_reducible rfl
    try simp only [Act.put, qA, qB, qC, qD, qE, qF]
    refine tk 5 rfl ?_
    try simp only [Act.put, qA, qB, qC, qD, qE, qF]
    refine tk 6 rfl ?_
    try simp only [Act.put, qA, qB, qC, qD, qE, qF]
    refine wpAnyH_ready (rs := [7]) (by kernel_rfl) (by simp) ?_
    refine AllReadyH.cons rfl (fun K hK => ?_) AllReadyH.nil
    go_simp
    refine (HC1.out _ r0).mono ?_; rintro x y1 ⟨rfl, hy1⟩
    refine hK.out _ _ ?_ (fun r1 => ?_)
    · exact bel r0 hy1
    try simp only [Act.put, qA, qB, qC, qD, qE, qF]
    refine tk 8 rfl ?_
    try simp only [Act.put, qA, qB, qC, qD, qE, qF]
    refine tk 9 rfl ?_
    try simp only [Act.put, qA, qB, qC, qD, qE, qF]
    refine tk 10 rfl ?_
    try simp only [Act.put, qA, qB, qC, qD, qE, qF]
    refine tk 11 rfl ?_
    try simp only [Act.put, qA, qB, qC, qD, qE, qF]
    refine tq (v := ?_) 12 rfl ?_ ?_
    rotate_left
    · intro wS hSw
      (try dsimp only at hSw)
      have v0 := bcell hSw v0
      have v1' := bcell hSw v1'
      have v2' := bcell hSw v2'
      have v3' := bcell hSw v3'
      have v4' := bcell hSw v4'
      go_simp
      first | done | with_reducible rfl
    try simp only [Act.put, qA, qB, qC, qD, qE, qF]
    refine tk 13 rfl ?_
    try simp only [Act.put, qA, qB, qC, qD, qE, qF]
    refine tk 14 rfl ?_
    try simp only [Act.put, qA, qB, qC, qD, qE, qF]
    refine wpAnyH_ready (rs := [15]) (by kernel_rfl) (by simp) ?_
    refine AllReadyH.cons rfl (fun K hK => ?_) AllReadyH.nil
    go_simp
    refine (HC2.out _ r1).mono ?_; rintro x y2 ⟨rfl, hy2⟩
    refine hK.out _ _ ?_ (fun r2 => ?_)
    · exact bel r1 hy2
    try simp only [Act.put, qA, qB, qC, qD, qE, qF]
    refine tk 16 rfl ?_
    try simp only [Act.put, qA, qB, qC, qD, qE, qF]
    refine tk 17 rfl ?_
    try simp only [Act.put, qA, qB, qC, qD, qE, qF]
    refine tk 18 rfl ?_
    try simp only [Act.put, qA, qB, qC, qD, qE, qF]
    refine tk 19 rfl ?_
    try simp only [Act.put, qA, qB, qC, qD, qE, qF]
    refine tq (v := ?_) 20 rfl ?_ ?_
    rotate_left
    · intro wS hSw
      (try dsimp only at hSw)
      have v0 := bcell hSw v0
      have v1' := bcell hSw v1'
      have v2' := bcell hSw v2'
      have v3' := bcell hSw v3'
      have v4' := bcell hSw v4'
      go_simp
      first | done | with_reducible rfl
    try simp only [Act.put, qA, qB, qC, qD, qE, qF]
    refine tq (v := ?_) 21 rfl ?_ ?_
    rotate_left
    · intro wS hSw
      (try dsimp only at hSw)
      have hl3 := HM3.out wS hSw
      go_simp
      first | done | with_reducible rfl
    try simp only [Act.put, qA, qB, qC, qD, qE, qF]
    refine tk 22 rfl ?_
    try simp only [Act.put, qA, qB, qC, qD, qE, qF]
    refine wpAnyH_ready (rs := [23]) (by kernel_rfl) (by simp) ?_
    refine AllReadyH.cons rfl (fun K hK => ?_) AllReadyH.nil
    go_simp
    refine (HC3.out _ r2).mono ?_; rintro x y3 ⟨rfl, hy3⟩
    refine hK.out _ _ ?_ (fun r3 => ?_)
    · exact bel r2 hy3
    try simp only [Act.put, qA, qB, qC, qD, qE, qF]
    refine tk 24 rfl ?_
    try simp only [Act.put, qA, qB, qC, qD, qE, qF]
    refine tk 25 rfl ?_
    try simp only [Act.put, qA, qB, qC, qD, qE, qF]
    refine tk 26 rfl ?_
    try simp only [Act.put, qA, qB, qC, qD, qE, qF]
    refine tk 27 rfl ?_
    try simp only [Act.put, qA, qB, qC, qD, qE, qF]
    refine tq (v := ?_) 28 rfl ?_ ?_
    rotate_left
    · intro wS hSw
      (try dsimp only at hSw)
      have v0 := bcell hSw v0
      have v1' := bcell hSw v1'
      have v2' := bcell hSw v2'
      have v3' := bcell hSw v3'
      have v4' := bcell hSw v4'
      go_simp
      first | done | with_reducible rfl
    try simp only [Act.put, qA, qB, qC, qD, qE, qF]
    refine tq (v := ?_) 29 rfl ?_ ?_
    rotate_left
    · intro wS hSw
      (try dsimp only at hSw)
      have hl4 := HM4.out wS hSw
      go_simp
      first | done | with_reducible rfl
    try simp only [Act.put, qA, qB, qC, qD, qE, qF]
    refine tk 30 rfl ?_
    try simp only [Act.put, qA, qB, qC, qD, qE, qF]
    refine wpAnyH_ready (rs := [31]) (by kernel_rfl) (by simp) ?_
    refine AllReadyH.cons rfl (fun K hK => ?_) AllReadyH.nil
    go_simp
    refine (HC4.out _ r3).mono ?_; rintro x y4 ⟨rfl, hy4⟩
    refine hK.out _ _ ?_ (fun r4 => ?_)
    · exact bel r3 hy4
    try simp only [Act.put, qA, qB, qC, qD, qE, qF]
    refine tk 32 rfl ?_
    try simp only [Act.put, qA, qB, qC, qD, qE, qF]
    refine tk 33 rfl ?_
    try simp only [Act.put, qA, qB, qC, qD, qE, qF]
    refine tk 34 rfl ?_
    try simp only [Act.put, qA, qB, qC, qD, qE, qF]
    refine tk 35 rfl ?_
    try simp only [Act.put, qA, qB, qC, qD, qE, qF]
    refine tq (v := ?_) 36 rfl ?_ ?_
    rotate_left
    · intro wS hSw
      (try dsimp only at hSw)
      have v0 := bcell hSw v0
      have v1' := bcell hSw v1'
      have v2' := bcell hSw v2'
      have v3' := bcell hSw v3'
      have v4' := bcell hSw v4'
      go_simp
      first | done | with_reducible rfl
    try simp only [Act.put, qA, qB, qC, qD, qE, qF]
    refine tq (v := ?_) 37 rfl ?_ ?_
    rotate_left
    · intro wS hSw
      (try dsimp only at hSw)
      have hl5 := HM5.out wS hSw
      go_simp
      first | done | with_reducible rfl
    try simp only [Act.put, qA, qB, qC, qD, qE, qF]
    refine tk 38 rfl ?_
    try simp only [Act.put, qA, qB, qC, qD, qE, qF]
    refine wpAnyH_ready (rs := [39]) (by kernel_rfl) (by simp) ?_
    refine AllReadyH.cons rfl (fun K hK => ?_) AllReadyH.nil
    go_simp
    refine (HC5.out _ r4).mono ?_; rintro x y5 ⟨rfl, hy5⟩
    refine hK.out _ _ ?_ (fun r5 => ?_)
    · exact bel r4 hy5
    try simp only [Act.put, qA, qB, qC, qD, qE, qF]
    refine tk 40 rfl ?_
    try simp only [Act.put, qA, qB, qC, qD, qE, qF]
    refine tk 41 rfl ?_
    try simp only [Act.put, qA, qB, qC, qD, qE, qF]
    refine wpAnyH_done (by kernel_rfl) ?_ _
    have HR5 := Lib.hid r5
    clear r0 r1 r2 r3 r4 r5 hy1 hy2 hy3 hy4 hy5 HC1 HC2 HC3 HC4 HC5 HM3 HM4 HM5
    go_wp2_with fail
    go_loopw [95] (fun j wr => ∃ i : Nat, i ≤ nX ∧ j = .int .i64 i ∧ Hid (Below w6.heap.size w6 wr)) (fun j _ => nX - (intOf j).toNat)
    case atStart => exact ⟨0, Nat.zero_le _, rfl, HR5⟩
    case round =>
      obtain ⟨i, hi, rfl, HI⟩ := hrel
      by_cases hlt : i < nX
      · obtain ⟨gq, ha⟩ := row_addr H6.out.2.2.2.1 (by rw [HXL.out]; omega)
        obtain ⟨a, haa⟩ : ∃ a : Addr, a = ⟨gq, 0, none⟩ := ⟨_, rfl⟩
        have HAA := Lib.hid haa
        rw [← haa] at ha
        subst ha
        clear haa
        obtain ⟨x, hget⟩ : ∃ x, X[i]? = some x := ⟨_, List.getElem?_eq_getElem (by rw [HXL.out]; exact hlt)⟩
        have hrg := row_range encR_len (by rw [← HAA.out]; exact H6.out.2.2.2.1.below HI.out) hget
        have b0 : (0 : Int) ≤ (i : Int) := by omega
        have b1 : (i : Int) < (nX : Int) := by omega
        have b2 : (i : Int) < 1000 := by have := HX6.out.1; omega
        have hcap : nX ≤ wc := by
          obtain ⟨_, h | ⟨_, cap, _, e, _, _, hc, _⟩⟩ := H6.out.2.2.2.1
          · cases h.1
          · cases e
            exact hc
        have b3 : (i : Int) ≤ (wc : Int) := by omega
        have b4 : i ≤ wc := by omega
        have hA0 : At (wr.alloc (.cells recZ.toArray TRec)) wr.heap.size TRec recZ := heap_alloc_new wr _
        have HLT := Lib.hid hlt
        have HG := Lib.hid hget
        obtain ⟨c1, c2, c3, c4, c5, c6, c7, c8, c9, c10, c11, c12, c13, hcs⟩ := encR_form x
        have HCS := Lib.hid hcs
        clear hlt hget hcs hcap
        go_upto_region 11 with (first | (refine wpLdRow (T := TRec) (b := a) rfl _ rfl HAA.out rfl hrg (n := 14) (encR_len _) infoRec Tryz.underlying52 ?_) | (refine wpStG (T := TRec) (g := wr.heap.size) (L0 := recZ) (L := encR x) rfl _ _ rfl rfl rfl hA0 (n := 14) rfl (encR_len _) infoRec (encR_one _) ?_; intro w9 hx9 hg9))
        obtain ⟨g8, hg8⟩ : ∃ g8, g8 = wr.heap.size := ⟨_, rfl⟩
        rw [← hg8] at hx9 ⊢
        have hb9 : Below w6.heap.size w6 w9 := (bel HI.out (belNew wr (.cells recZ.toArray TRec))).grown hg9 (by have := HI.out.size; have := (belNew wr (.cells recZ.toArray TRec)).size; omega) (fun e he => by have := Option.some.inj he; have := HI.out.size; omega)
        have z0 : w9.cell? ⟨g8, 0, none⟩ = some (.int .i64 (kindR x.1)) := At.whole hx9 0 (.int .i64 (kindR x.1)) (by rw [HCS.out]; rfl)
        have HX8 := Lib.hid (And.intro hx9 hb9)
        have hk9 := (hb9.block _ (heap_lt H6.out.2.1)).trans H6.out.2.1
        obtain ⟨v0, v1', v2', v3', v4'⟩ := vcellsS hk9
        have HCT : Hid (∀ W, Below w9.heap.size w9 W → Calls Tryz.prog 11 #[.slice (some a) i wc, .int .i64 (kindR x.1)] W fun e w' => e = .returned (.int .i64 (cntR (X.take i) (kindR x.1))) ∧ Below W.heap.size W w') := Lib.hid (fun W hW => count18_any (some a) wc wc X i (kindR x.1) _ W (by rw [HXL.out]; exact (H6.out.2.2.2.1.below HX8.out.2).below hW) (by rw [HXL.out]; exact hi) (by rw [HXL.out]; have := HX6.out.1; omega))
        have HSY : Hid (∀ W, Below w9.heap.size w9 W → Calls Tryz.prog 12 #[.agg #[.slice po n1 pc, .slice bo n2 bc, .map (some ma), .map (some mh), .map (some mn)], .agg (encR x).toArray, .int .i64 (cntR (X.take i) (kindR x.1))] W fun e w' => e = .returned (.bool true) ∧ Below W.heap.size W w') := Lib.hid (fun W hW => by
          have hbW := bel HX8.out.2 hW
          have h := saysAny (i := i) (x := x) (H6.out.2.2.1.below hbW) H6.out.2.2.2.2.2.1 H6.out.2.2.2.2.2.2 (fun q hq => ⟨by have := (HM.out.2 q hq).1; omega, (HM.out.2 q hq).2⟩) (by have := HM.out.1; omega) HG.out ((H6.out.2.2.2.2.1 x (List.mem_of_getElem? HG.out)).below hbW) (HX6.out.2.2 x (List.mem_of_getElem? HG.out))
          exact h)
        clear hrg hA0 hx9 hg9 hb9 hk9 hg8
        refine wp_region_held_drew (S := (fun W => Below w9.heap.size w9 W)) (by kernel_rfl) ?_ (fun r0 => ?_)
        · exact ⟨rfl, rfl, rfl, Nat.le_refl _, fun _ _ => rfl⟩
        refine tq (v := ?_) 0 rfl ?_ ?_
        rotate_left
        · intro wS hSw
          (try dsimp only at hSw)
          have v0 := bcell hSw v0
          have v1' := bcell hSw v1'
          have v2' := bcell hSw v2'
          have v3' := bcell hSw v3'
          have v4' := bcell hSw v4'
          have z0 := bcell hSw z0
          go_simp
          first | done | with_reducible rfl
        try simp only [Act.put, qA, qB, qC, qD, qE, qF]
        refine wpAnyH_take (i := 1) (v := _) rfl (by kernel_rfl) (by kernel_rfl) (by kernel_rfl) (fun _ _ _ h => h) (ldGIf (T := TRec) (L := encR x) (by rfl) _ rfl rfl (fun W hW => (hW.block _ (heap_lt HX8.out.1)).trans HX8.out.1) (encR_len x) infoRec Tryz.underlying52) (by assumption) ?_
        try simp only [Act.put, qA, qB, qC, qD, qE, qF]
        refine tk 2 rfl ?_
        try simp only [Act.put, qA, qB, qC, qD, qE, qF]
        refine tk 3 rfl ?_
        try simp only [Act.put, qA, qB, qC, qD, qE, qF]
        refine tk 4 rfl ?_
        try simp only [Act.put, qA, qB, qC, qD, qE, qF]
        refine tk 5 rfl ?_
        try simp only [Act.put, qA, qB, qC, qD, qE, qF]
        refine tq (v := ?_) 6 rfl ?_ ?_
        rotate_left
        · intro wS hSw
          (try dsimp only at hSw)
          have v0 := bcell hSw v0
          have v1' := bcell hSw v1'
          have v2' := bcell hSw v2'
          have v3' := bcell hSw v3'
          have v4' := bcell hSw v4'
          have z0 := bcell hSw z0
          go_simp
          first | done | with_reducible rfl
        try simp only [Act.put, qA, qB, qC, qD, qE, qF]
        refine wpAnyH_ready (rs := [7]) (by kernel_rfl) (by simp) ?_
        refine AllReadyH.cons rfl (fun K hK => ?_) AllReadyH.nil
        go_simp
        refine (HCT.out _ r0).mono ?_; rintro x y1 ⟨rfl, hy1⟩
        refine hK.out _ _ ?_ (fun r1 => ?_)
        · exact bel r0 hy1
        try simp only [Act.put, qA, qB, qC, qD, qE, qF]
        refine wpAnyH_ready (rs := [8]) (by kernel_rfl) (by simp) ?_
        refine AllReadyH.cons rfl (fun K hK => ?_) AllReadyH.nil
        go_simp
        refine (HSY.out _ r1).mono ?_; rintro x y2 ⟨rfl, hy2⟩
        refine hK.out _ _ ?_ (fun r2 => ?_)
        · exact bel r1 hy2
        try simp only [Act.put, qA, qB, qC, qD, qE, qF]
        refine tk 9 rfl ?_
        try simp only [Act.put, qA, qB, qC, qD, qE, qF]
        refine wpAnyH_done (by kernel_rfl) ?_ _
        have HR9 := Lib.hid (bel HX8.out.2 r2)
        clear r0 r1 r2 hy1 hy2 HCT HSY
        go_wp2_with fail
        go_roundw
        case rel => exact ⟨i + 1, HLT.out, by go_num, HR9⟩
        case measure => have := HLT.out; simp [intOf]; omega
      · obtain rfl : i = nX := by omega
        have HB9 := Lib.hid (bel H6.out.1 HI.out)
        go_wp2_with fail
        refine (awake18_any _ (HE.out.below HB9.out)).mono ?_; rintro e w7 ⟨rfl, hb7⟩
        have HB7 := Lib.hid (bel HB9.out hb7)
        clear hb7
        go_wp2_with fail
        go_ret
        exact ⟨rfl, HB7.out⟩
end Go.Proofs.YtiifbhiodegipaaGreatDoor
