/- The walk of KvApply. Made by g_kvapplyw.py. -/
import Derived.Test.YtogcjginifcbpaaKvItOpen
import Derived.Test.YtogcjginifcbpaaKvRef5
import Derived.Test.YtogcjginifcbpaaKvRight
namespace Go.Proofs.Ytogcjginifcbpaa
open Go.RowKit Go.Maps
theorem same_yes (v v' : Value) (L : List KEnt) (w : World) (hv : SeesI w v L) (hv' : SeesI w v' L) (hl : L.length ≤ maxLen) : Calls Try.prog 24 #[v, v'] w fun e w' => e = .returned (.bool true) ∧ Below w.heap.size w w' := by
  have h := sameItems_any v v' L L w hv hv' hl hl
  rw [decide_eq_true rfl] at h
  exact h
theorem apply_step {w0 w : World} {g : Nat} {P : Nat → Prop} {S : KSt} (e : KEff) (h : KvW w0 w g P S) (hs : e.key.size ≤ maxLen) (hrv : 0 ≤ S.rev ∧ S.rev ≤ 9223372036854775807) (hn : S.L.length ≤ 1000000) :
    Calls Try.prog 30 #[ptr g, effV e] w fun x w' => x = .returned (.int .i64 (if mayA S e = true then 0 else 1)) ∧ ∃ P', KvW w0 w' g P' (if mayA S e = true then applyK S e else S) :=
  (apply_any g P S e w h.1 hs hrv hn).mono fun x w' ⟨he, P', hk, hP, ht⟩ => by
    have hz := h.2.2.size
    exact ⟨he, P', hk, fun i hi => (hP i hi).elim (h.2.1 i) (fun h1 => by omega), h.2.2.trans (ht.below h.2.2.size h.2.1)⟩
theorem SeesI.cut {w : World} {ao : Option Addr} {c : Nat} {L : List KEnt} (h : SeesI w (.slice ao L.length c) L) (n : Nat) (hn : n ≤ L.length) : SeesI w (.slice ao n c) (L.take n) := by
  obtain ⟨ao', c', e, h1, h2, h3⟩ := h
  injection e with e1 e2 e3
  subst e1 e3
  have hl : (L.take n).length = n := by rw [List.length_take]; omega
  refine ⟨ao, c, by rw [hl], by omega, fun h => by rw [h2 h, List.take_nil], fun a ha i p hp => h3 a ha i p ?_⟩
  rw [List.getElem?_take] at hp
  split at hp
  · exact hp
  · cases hp
set_option maxRecDepth 100000 in
set_option maxHeartbeats 16000000 in
theorem lawKvApply (w : World) (rev : Int) (v : Value) (L0 : List KEnt) (e : KEff) (hr0 : -9223372036854775808 ≤ rev) (hr1 : rev ≤ 9223372036854775807) (h : ArgItems w v L0) (he : EffOk e) :
    Calls Try.prog 4 #[.int .i64 rev, v, effV e] w fun x w' => x = .returned (.bool true) ∧ Below w.heap.size w w' := by
  have q := eqNilK
  obtain ⟨hs0, hok, hlm⟩ := h
  have hlm2 : L0.length ≤ 9223372036854775807 := by unfold maxLen at hlm; omega
  obtain ⟨w1, hw1⟩ : ∃ w1, w1 = w.alloc (effR9 e) := ⟨_, rfl⟩
  have hb1 : Below w.heap.size w w1 := by rw [hw1]; exact belNew _ _
  have hE1 : w1.heap[w.heap.size]? = some (effR9 e) := by rw [hw1]; exact heap_alloc_new w _
  have HW1 := Lib.hid hw1
  obtain ⟨ao, c, hve⟩ : ∃ ao c, v = .slice ao L0.length c ∧ L0.length ≤ c := by obtain ⟨ao, c, h1, h2, _⟩ := hs0; exact ⟨ao, c, h1, h2⟩
  obtain ⟨rfl, hlc⟩ := hve
  have H1 := Lib.hid (And.intro hb1 hE1)
  have HE := Lib.hid he
  have HRV := Lib.hid (And.intro hr0 hr1)
  have HS0 := Lib.hid (hs0.below hb1)
  have HOK := Lib.hid hok
  clear hw1 hb1 hE1 he hr0 hr1 hs0 hok hlm
  by_cases hgt : 8 < L0.length
  · have d0 : decide (8 < (L0.length : Int)) = true := by simp; omega
    obtain ⟨L, hL⟩ : ∃ L, L = L0.take 8 := ⟨_, rfl⟩
    have hLl : L.length ≤ 8 := by rw [hL, List.length_take]; omega
    have hL8 : True := trivial
    have HSL : Hid (SeesI w1 (.slice ao 8 c) L) := Lib.hid (by rw [hL]; exact HS0.out.cut 8 (by omega))
    have HOL : Hid (∀ p ∈ L, ItOk p) := Lib.hid (fun p hp => HOK.out p (by rw [hL] at hp; exact List.mem_of_mem_take hp))
    clear hL
    go_enter Try.func4, Try.ntmps4
    go_upto_region 1 with fail
    change Code.wp _ _ _ _ (w.alloc (effR9 e))
    rw [← HW1.out]
    go_upto_region 3 with fail
    have HL := Lib.hid hLl
    clear hLl hL8
    go_upto_region 4 with fail
    obtain ⟨W, hW⟩ : ∃ W, W = w1.alloc (stO rev (.slice ao 8 c)) := ⟨_, rfl⟩
    change Code.wp _ _ _ _ (w1.alloc (stO rev (.slice ao 8 c)))
    rw [← hW]
    have hbW : Below w1.heap.size w1 W := by rw [hW]; exact belNew _ _
    have hX : W.heap[w1.heap.size]? = some (stO rev (.slice ao 8 c)) := by rw [hW]; exact heap_alloc_new w1 _
    have hsW := HSL.out.below hbW
    have hEW := (hbW.block _ (heap_lt H1.out.2)).trans H1.out.2
    have HX := Lib.hid (And.intro (H1.out.1.trans (hbW.mono H1.out.1.size)) (And.intro (cell0 hX) (And.intro (cell1 hX) (And.intro (eff_cells hEW) hsW))))
    have HIt := Lib.hid (items9_any _ L W hsW (by have := HL.out; omega))
    have HRt : Hid (∀ w', Below W.heap.size W w' → Calls Try.prog 29 #[stV rev (.slice ao 8 c)] w' fun x w'' => x = .returned (.bool (ofB rev L)) ∧ Below w'.heap.size w' w'') := Lib.hid (fun w' hb => refRight9_any _ L rev w' (hsW.below hb) (by have := HL.out; unfold maxLen; omega) (fun p hp => ⟨(HOL.out p hp).1, (HOL.out p hp).2.1⟩))
    clear hW hbW hX hsW hEW HW1 HSL
    cases hB : ofB rev L with
    | false =>
      rw [hB] at HRt
      have HOf : Hid (∀ w' vi, RowI w' W.heap.size vi L → Calls Try.prog 27 #[.int .i64 rev, vi] w' fun e w'' => e = .returned (.tuple #[.pointer none, .int .i64 1]) ∧ Below w'.heap.size w' w'') := Lib.hid (fun w' vi hv => of_no rev vi L w' (RowE.sees hv) (by have := HL.out; unfold maxLen; omega) hB)
      clear hB
      go_upto_region 5 with (first
        | (go_at_call 28; refine HIt.out.mono ?_; rintro x w2 ⟨vi, rfl, hri, hb2⟩)
        | (go_at_call 27; refine (HOf.out w2 vi hri).mono ?_; rintro x w3 ⟨rfl, hb3⟩)
        | go_in)
      have HB3 := Lib.hid (bel hb2 hb3)
      clear hri hb2 hb3 HIt HOf
      have z0 := bcell HB3.out HX.out.2.1
      have z1 := bcell HB3.out HX.out.2.2.1
      go_wp2_with (first
        | (go_at_call 29; refine (HRt.out w3 HB3.out).mono ?_; rintro x w4 ⟨rfl, hb4⟩)
        | (go_at_call 26; refine (awake9_any w4).mono ?_; rintro x w5 ⟨rfl, hb5⟩)
        | go_in)
      go_ret
      exact ⟨rfl, HX.out.1.trans ((bel HB3.out (bel hb4 hb5)).mono HX.out.1.size)⟩
    | true =>
      rw [hB] at HRt
      have HOf : Hid (∀ w' vi, Below W.heap.size W w' → RowI w' W.heap.size vi L → Calls Try.prog 27 #[.int .i64 rev, vi] w' fun e w'' => ∃ g P, e = .returned (.tuple #[ptr g, .int .i64 0]) ∧ KvW W w'' g P ⟨rev, L⟩) := Lib.hid (fun w' vi hb hv => (of_yes rev vi L w' (RowE.sees hv) (by have := HL.out; omega) hB).mono (by
        rintro x w'' ⟨g, P, rfl, hk, hP, hb2⟩
        exact ⟨g, P, rfl, hk, fun i hi => Nat.le_trans hb.size (hP i hi), bel hb hb2⟩))
      have hBB := hB
      unfold ofB at hB
      rw [Bool.and_eq_true, decide_eq_true_eq] at hB
      have HRS := Lib.hid (And.intro hB.1 (standB_all hB.2).1)
      clear hBB hB
      go_upto_region 5 with (first
        | (go_at_call 28; refine HIt.out.mono ?_; rintro x w2 ⟨vi, rfl, hri, hb2⟩)
        | (go_at_call 27; refine (HOf.out w2 vi hb2 hri).mono ?_; rintro x w3 ⟨g, P, rfl, hk3⟩)
        | go_in)
      have HK3 := Lib.hid hk3
      clear hri hb2 hk3 HIt HOf
      have z0 := bcell HK3.out.2.2 HX.out.2.1
      have z1 := bcell HK3.out.2.2 HX.out.2.2.1
      have nrev : (rev != rev) = false := by simp
      have HLM : Hid (L.length ≤ maxLen) := Lib.hid (by have := HL.out; unfold maxLen; omega)
      go_upto_region 9 with (first
        | (go_at_call 29; refine (HRt.out w3 HK3.out.2.2).mono ?_; rintro x w4 ⟨rfl, hb4⟩)
        | (go_at_call 22; refine (rev_any g P _ w4 (HK3.out.below hb4).1).mono ?_; rintro x wx ⟨rfl, rfl⟩)
        | (go_at_call 25; refine (all_any g P _ w4 (HK3.out.below hb4).1 HRS.out.2 (by have := HL.out; simp only []; omega)).mono ?_; rintro x w5 ⟨va, rfl, hra, hb5⟩)
        | (go_at_call 24; refine (same_yes va _ L w5 (RowE.sees hra) (HX.out.2.2.2.2.below (bel HK3.out.2.2 (bel hb4 hb5))) HLM.out).mono ?_; rintro x w6 ⟨rfl, hb6⟩)
        | go_in)
      have HK6 := Lib.hid (HK3.out.below (bel hb4 (bel hb5 hb6)))
      clear hra hb4 hb5 hb6 HK3 HRt z0 z1
      obtain ⟨e0, e1, e2, e3⟩ := HX.out.2.2.2.1
      have e0 := bcell HK6.out.2.2 e0
      have e1 := bcell HK6.out.2.2 e1
      have e2 := bcell HK6.out.2.2 e2
      have e3 := bcell HK6.out.2.2 e3
      have HAp := Lib.hid (apply_step e HK6.out HE.out.1 ⟨HRS.out.1, HRV.out.2⟩ (by have := HL.out; simp only []; omega))
      cases hm : mayA ⟨rev, L⟩ e with
      | false =>
        have HMy : Hid (∀ w', Below W.heap.size W w' → Calls Try.prog 31 #[stV rev (.slice ao 8 c), effV e] w' fun x w'' => x = .returned (.bool false) ∧ Below w'.heap.size w' w'') := Lib.hid (fun w' hb => by
          have := refMay_any _ L rev e w' (HX.out.2.2.2.2.below hb) HLM.out HE.out.1 HE.out.2.1 HRV.out
          rw [hm] at this
          exact this)
        rw [hm] at HAp
        simp only [Bool.false_eq_true, if_false] at HAp
        clear hm
        go_upto_region 10 with (first
          | (go_at_call 30; refine HAp.out.mono ?_; rintro x w7 ⟨rfl, P6, hk7⟩)
          | go_in)
        have HK7 := Lib.hid hk7
        clear hk7 HAp e0 e1 e2 e3
        obtain ⟨e0, e1, e2, e3⟩ := HX.out.2.2.2.1
        have e0 := bcell HK7.out.2.2 e0
        have e1 := bcell HK7.out.2.2 e1
        have e2 := bcell HK7.out.2.2 e2
        have e3 := bcell HK7.out.2.2 e3
        have z0 := bcell HK7.out.2.2 HX.out.2.1
        have z1 := bcell HK7.out.2.2 HX.out.2.2.1
        have yrev : (rev == rev) = true := by simp
        go_wp2_with (first
          | (go_at_call 31; refine (HMy.out w7 HK7.out.2.2).mono ?_; rintro x w8 ⟨rfl, hb8⟩)
          | (go_at_call 22; refine (rev_any g P6 _ w8 (HK7.out.below hb8).1).mono ?_; rintro x wx ⟨rfl, rfl⟩)
          | (go_at_call 25; refine (all_any g P6 _ w8 (HK7.out.below hb8).1 HRS.out.2 (by have := HL.out; simp only []; omega)).mono ?_; rintro x w9 ⟨va, rfl, hra, hb9⟩)
          | (go_at_call 24; refine (same_yes va _ L w9 (RowE.sees hra) (HX.out.2.2.2.2.below (bel HK7.out.2.2 (bel hb8 hb9))) HLM.out).mono ?_; rintro x w10 ⟨rfl, hb10⟩)
          | (go_at_call 26; refine (awake9_any _).mono ?_; rintro x w11 ⟨rfl, hb11⟩)
          | go_in)
        go_ret
        exact ⟨rfl, HX.out.1.trans ((bel HK7.out.2.2 (bel hb8 (bel hb9 (bel hb10 hb11)))).mono HX.out.1.size)⟩
      | true =>
        have HMy : Hid (∀ w', Below W.heap.size W w' → Calls Try.prog 31 #[stV rev (.slice ao 8 c), effV e] w' fun x w'' => x = .returned (.bool true) ∧ Below w'.heap.size w' w'') := Lib.hid (fun w' hb => by
          have := refMay_any _ L rev e w' (HX.out.2.2.2.2.below hb) HLM.out HE.out.1 HE.out.2.1 HRV.out
          rw [hm] at this
          exact this)
        rw [hm] at HAp
        simp only [if_true] at HAp
        have HR2 : Hid (Rising (applyK ⟨rev, L⟩ e).L ∧ (applyK ⟨rev, L⟩ e).L.length ≤ 1000000 ∧ (applyK ⟨rev, L⟩ e).rev = e.rev) := Lib.hid (by
          have := HL.out
          refine ⟨?_, ?_, rfl⟩
          · unfold applyK
            split
            · exact Rising.del HRS.out.2 _
            · exact Rising.put HRS.out.2 _ _
          · unfold applyK
            split
            · have h2 := delE_le (kl e.key) L
              simp only []
              omega
            · have h2 := putE_len (kl e.key) (e.val, e.rev) L
              simp only []
              omega)
        clear hm
        go_upto_region 10 with (first
          | (go_at_call 30; refine HAp.out.mono ?_; rintro x w7 ⟨rfl, P6, hk7⟩)
          | go_in)
        have HK7 := Lib.hid hk7
        clear hk7 HAp e0 e1 e2 e3
        obtain ⟨e0, e1, e2, e3⟩ := HX.out.2.2.2.1
        have e0 := bcell HK7.out.2.2 e0
        have e1 := bcell HK7.out.2.2 e1
        have e2 := bcell HK7.out.2.2 e2
        have e3 := bcell HK7.out.2.2 e3
        have z0 := bcell HK7.out.2.2 HX.out.2.1
        have z1 := bcell HK7.out.2.2 HX.out.2.2.1
        go_upto_region 12 with (first
          | (go_at_call 31; refine (HMy.out w7 HK7.out.2.2).mono ?_; rintro x w8 ⟨rfl, hb8⟩)
          | go_in)
        have e0 := bcell hb8 e0
        have e1 := bcell hb8 e1
        have e2 := bcell hb8 e2
        have e3 := bcell hb8 e3
        have z0 := bcell hb8 z0
        have z1 := bcell hb8 z1
        have HK80 := Lib.hid (HK7.out.below hb8)
        have HRA := Lib.hid (refApply_any _ L rev e w8 (HX.out.2.2.2.2.below HK80.out.2.2) HRS.out.2 (by have := HL.out; omega))
        clear hb8 HMy HK7
        go_upto_region 13 with (first
          | (go_at_call 32; refine HRA.out.mono ?_; rintro x w9 ⟨v2, rfl, hrow2, hb9⟩; obtain ⟨ao2, n2, c2, rfl⟩ := row_slice hrow2)
          | go_in)
        obtain ⟨wz, hwz⟩ : ∃ wz, wz = w9.alloc (stO e.rev (.slice ao2 n2 c2)) := ⟨_, rfl⟩
        change Code.wp _ _ _ _ (w9.alloc (stO e.rev (.slice ao2 n2 c2)))
        rw [← hwz]
        have hbz : Below w9.heap.size w9 wz := by rw [hwz]; exact belNew _ _
        have hN : wz.heap[w9.heap.size]? = some (stO e.rev (.slice ao2 n2 c2)) := by rw [hwz]; exact heap_alloc_new w9 _
        have n0 := cell0 hN
        have n1 := cell1 hN
        have HRW := Lib.hid (row_keep hrow2 hbz)
        have hk8 := HK80.out.below (bel hb9 hbz)
        have HBZ := Lib.hid hk8.2.2
        generalize hSA : applyK ⟨rev, L⟩ e = SA at hk8 HR2 HRW
        have HK8 := Lib.hid (And.intro hk8.1 (And.intro HR2.out.1 HR2.out.2.1))
        have hrev : SA.rev = e.rev := HR2.out.2.2
        have HLM2 : Hid (SA.L.length ≤ maxLen) := Lib.hid (by have := HR2.out.2.1; unfold maxLen; omega)
        have yrev : (e.rev == e.rev) = true := by simp
        clear hSA hk8 hwz hbz hN hrow2 hb9 e0 e1 e2 e3 z0 z1 HRA HK80
        refine wp_region_held_drew (S := (fun W => Below wz.heap.size wz W)) (by kernel_rfl) ?_ (fun r0 => ?_)
        · exact ⟨rfl, rfl, rfl, Nat.le_refl _, fun _ _ => rfl⟩
        refine wpAnyH_take (i := 0) (v := ?_) rfl (by kernel_rfl) (by kernel_rfl) (by kernel_rfl) (fun _ _ _ h => h) (Or.inl ⟨by rfl, ?_⟩) (by assumption) ?_
        rotate_left
        · intro wS hSw
          (try dsimp only at hSw)
          go_simp
          first | done | with_reducible rfl
        try simp only [Act.put, List.getElem_toArray, List.getElem_cons_zero, List.setIfInBounds_toArray, List.set_cons_zero, List.set_cons_succ]
        refine wpAnyH_take (i := 1) (v := ?_) rfl (by kernel_rfl) (by kernel_rfl) (by kernel_rfl) (fun _ _ _ h => h) (Or.inl ⟨by rfl, ?_⟩) (by assumption) ?_
        rotate_left
        · intro wS hSw
          (try dsimp only at hSw)
          go_simp
          first | done | with_reducible rfl
        try simp only [Act.put, List.getElem_toArray, List.getElem_cons_succ, List.getElem_cons_zero, List.setIfInBounds_toArray, List.set_cons_zero, List.set_cons_succ]
        refine wpAnyH_take (i := 2) (v := ?_) rfl (by kernel_rfl) (by kernel_rfl) (by kernel_rfl) (fun _ _ _ h => h) (Or.inl ⟨by rfl, ?_⟩) (by assumption) ?_
        rotate_left
        · intro wS hSw
          (try dsimp only at hSw)
          go_simp
          first | done | with_reducible rfl
        try simp only [Act.put, List.getElem_toArray, List.getElem_cons_succ, List.getElem_cons_zero, List.setIfInBounds_toArray, List.set_cons_zero, List.set_cons_succ]
        refine wpAnyH_take (i := 3) (v := ?_) rfl (by kernel_rfl) (by kernel_rfl) (by kernel_rfl) (fun _ _ _ h => h) (Or.inl ⟨by rfl, ?_⟩) (by assumption) ?_
        rotate_left
        · intro wS hSw
          (try dsimp only at hSw)
          go_simp
          first | done | with_reducible rfl
        try simp only [Act.put, List.getElem_toArray, List.getElem_cons_succ, List.getElem_cons_zero, List.setIfInBounds_toArray, List.set_cons_zero, List.set_cons_succ]
        refine wpAnyH_take (i := 5) (v := ?_) rfl (by kernel_rfl) (by kernel_rfl) (by kernel_rfl) (fun _ _ _ h => h) (Or.inl ⟨by rfl, ?_⟩) (by assumption) ?_
        rotate_left
        · intro wS hSw
          (try dsimp only at hSw)
          go_simp
          first | done | with_reducible rfl
        try simp only [Act.put, List.getElem_toArray, List.getElem_cons_succ, List.getElem_cons_zero, List.setIfInBounds_toArray, List.set_cons_zero, List.set_cons_succ]
        refine wpAnyH_take (i := 6) (v := ?_) rfl (by kernel_rfl) (by kernel_rfl) (by kernel_rfl) (fun _ _ _ h => h) (Or.inl ⟨by rfl, ?_⟩) (by assumption) ?_
        rotate_left
        · intro wS hSw
          (try dsimp only at hSw)
          have n0 := bcell hSw n0
          have n1 := bcell hSw n1
          go_simp
          first | done | with_reducible rfl
        try simp only [Act.put, List.getElem_toArray, List.getElem_cons_succ, List.getElem_cons_zero, List.setIfInBounds_toArray, List.set_cons_zero, List.set_cons_succ]
        refine wpAnyH_ready (rs := [4]) (by kernel_rfl) (by simp) ?_
        refine AllReadyH.cons rfl (fun K hK => ?_) AllReadyH.nil
        go_simp
        refine (rev_any g P6 _ _ (HK8.out.1.below r0)).mono ?_; rintro x wx ⟨rfl, rfl⟩
        refine hK.out _ _ ?_ (fun r1 => ?_)
        · exact r0
        try simp only [Act.put, List.getElem_toArray, List.getElem_cons_succ, List.getElem_cons_zero, List.setIfInBounds_toArray, List.set_cons_zero, List.set_cons_succ]
        refine wpAnyH_take (i := 7) (v := ?_) rfl (by kernel_rfl) (by kernel_rfl) (by kernel_rfl) (fun _ _ _ h => h) (Or.inl ⟨by rfl, ?_⟩) (by assumption) ?_
        rotate_left
        · intro wS hSw
          (try dsimp only at hSw)
          go_simp
          first | done | with_reducible rfl
        try simp only [Act.put, List.getElem_toArray, List.getElem_cons_succ, List.getElem_cons_zero, List.setIfInBounds_toArray, List.set_cons_zero, List.set_cons_succ]
        refine wpAnyH_take (i := 8) (v := ?_) rfl (by kernel_rfl) (by kernel_rfl) (by kernel_rfl) (fun _ _ _ h => h) (Or.inl ⟨by rfl, ?_⟩) (by assumption) ?_
        rotate_left
        · intro wS hSw
          (try dsimp only at hSw)
          go_simp
          first | done | with_reducible rfl
        try simp only [Act.put, List.getElem_toArray, List.getElem_cons_succ, List.getElem_cons_zero, List.setIfInBounds_toArray, List.set_cons_zero, List.set_cons_succ]
        refine wpAnyH_take (i := 9) (v := ?_) rfl (by kernel_rfl) (by kernel_rfl) (by kernel_rfl) (fun _ _ _ h => h) (Or.inl ⟨by rfl, ?_⟩) (by assumption) ?_
        rotate_left
        · intro wS hSw
          (try dsimp only at hSw)
          go_simp
          first | done | with_reducible rfl
        try simp only [Act.put, List.getElem_toArray, List.getElem_cons_succ, List.getElem_cons_zero, List.setIfInBounds_toArray, List.set_cons_zero, List.set_cons_succ]
        refine wpAnyH_take (i := 10) (v := ?_) rfl (by kernel_rfl) (by kernel_rfl) (by kernel_rfl) (fun _ _ _ h => h) (Or.inl ⟨by rfl, ?_⟩) (by assumption) ?_
        rotate_left
        · intro wS hSw
          (try dsimp only at hSw)
          go_simp
          first | done | with_reducible rfl
        try simp only [Act.put, List.getElem_toArray, List.getElem_cons_succ, List.getElem_cons_zero, List.setIfInBounds_toArray, List.set_cons_zero, List.set_cons_succ]
        refine wpAnyH_take (i := 12) (v := ?_) rfl (by kernel_rfl) (by kernel_rfl) (by kernel_rfl) (fun _ _ _ h => h) (Or.inl ⟨by rfl, ?_⟩) (by assumption) ?_
        rotate_left
        · intro wS hSw
          (try dsimp only at hSw)
          go_simp
          first | done | with_reducible rfl
        try simp only [Act.put, List.getElem_toArray, List.getElem_cons_succ, List.getElem_cons_zero, List.setIfInBounds_toArray, List.set_cons_zero, List.set_cons_succ]
        refine wpAnyH_take (i := 13) (v := ?_) rfl (by kernel_rfl) (by kernel_rfl) (by kernel_rfl) (fun _ _ _ h => h) (Or.inl ⟨by rfl, ?_⟩) (by assumption) ?_
        rotate_left
        · intro wS hSw
          (try dsimp only at hSw)
          have n0 := bcell hSw n0
          have n1 := bcell hSw n1
          go_simp
          first | done | with_reducible rfl
        try simp only [Act.put, List.getElem_toArray, List.getElem_cons_succ, List.getElem_cons_zero, List.setIfInBounds_toArray, List.set_cons_zero, List.set_cons_succ]
        refine wpAnyH_ready (rs := [11]) (by kernel_rfl) (by simp) ?_
        refine AllReadyH.cons rfl (fun K hK => ?_) AllReadyH.nil
        go_simp
        refine (all_any g P6 _ _ (HK8.out.1.below r1) HK8.out.2.1 HK8.out.2.2).mono ?_; rintro x w9 ⟨va9, rfl, hra9, hb9⟩
        refine hK.out _ _ ?_ (fun r2 => ?_)
        · exact bel r1 hb9
        try simp only [Act.put, List.getElem_toArray, List.getElem_cons_succ, List.getElem_cons_zero, List.setIfInBounds_toArray, List.set_cons_zero, List.set_cons_succ]
        refine wpAnyH_ready (rs := [14]) (by kernel_rfl) (by simp) ?_
        refine AllReadyH.cons rfl (fun K hK => ?_) AllReadyH.nil
        go_simp
        refine (same_yes va9 (.slice ao2 n2 c2) _ _ (RowE.sees hra9) ((RowE.sees HRW.out).below (bel r1 hb9)) HLM2.out).mono ?_; rintro x w10 ⟨rfl, hb10⟩
        refine hK.out _ _ ?_ (fun r3 => ?_)
        · exact bel r2 hb10
        try simp only [Act.put, List.getElem_toArray, List.getElem_cons_succ, List.getElem_cons_zero, List.setIfInBounds_toArray, List.set_cons_zero, List.set_cons_succ]
        refine wpAnyH_take (i := 15) (v := ?_) rfl (by kernel_rfl) (by kernel_rfl) (by kernel_rfl) (fun _ _ _ h => h) (Or.inl ⟨by rfl, ?_⟩) (by assumption) ?_
        rotate_left
        · intro wS hSw
          (try dsimp only at hSw)
          go_simp
          first | done | with_reducible rfl
        try simp only [Act.put, List.getElem_toArray, List.getElem_cons_succ, List.getElem_cons_zero, List.setIfInBounds_toArray, List.set_cons_zero, List.set_cons_succ]
        refine wpAnyH_take (i := 16) (v := ?_) rfl (by kernel_rfl) (by kernel_rfl) (by kernel_rfl) (fun _ _ _ h => h) (Or.inl ⟨by rfl, ?_⟩) (by assumption) ?_
        rotate_left
        · intro wS hSw
          (try dsimp only at hSw)
          go_simp
          first | done | with_reducible rfl
        try simp only [Act.put, List.getElem_toArray, List.getElem_cons_succ, List.getElem_cons_zero, List.setIfInBounds_toArray, List.set_cons_zero, List.set_cons_succ]
        refine wpAnyH_ready (rs := [17]) (by kernel_rfl) (by simp) ?_
        refine AllReadyH.cons rfl (fun K hK => ?_) AllReadyH.nil
        go_simp
        refine (awake9_any _).mono ?_; rintro x w11 ⟨rfl, hb11⟩
        refine hK.out _ _ ?_ (fun r4 => ?_)
        · exact bel r3 hb11
        try simp only [Act.put, List.getElem_toArray, List.getElem_cons_succ, List.getElem_cons_zero, List.setIfInBounds_toArray, List.set_cons_zero, List.set_cons_succ]
        refine wpAnyH_take (i := 18) (v := ?_) rfl (by kernel_rfl) (by kernel_rfl) (by kernel_rfl) (fun _ _ _ h => h) (Or.inl ⟨by rfl, ?_⟩) (by assumption) ?_
        rotate_left
        · intro wS hSw
          (try dsimp only at hSw)
          go_simp
          first | done | with_reducible rfl
        try simp only [Act.put, List.getElem_toArray, List.getElem_cons_succ, List.getElem_cons_zero, List.setIfInBounds_toArray, List.set_cons_zero, List.set_cons_succ]
        refine wpAnyH_take (i := 19) (v := ?_) rfl (by kernel_rfl) (by kernel_rfl) (by kernel_rfl) (fun _ _ _ h => h) (Or.inl ⟨by rfl, ?_⟩) (by assumption) ?_
        rotate_left
        · intro wS hSw
          (try dsimp only at hSw)
          go_simp
          first | done | with_reducible rfl
        try simp only [Act.put, List.getElem_toArray, List.getElem_cons_succ, List.getElem_cons_zero, List.setIfInBounds_toArray, List.set_cons_zero, List.set_cons_succ]
        refine wpAnyH_done (by kernel_rfl) ?_ _
        go_wp2_with fail
        go_ret
        exact ⟨rfl, HX.out.1.trans ((bel HBZ.out r4).mono HX.out.1.size)⟩
  · have d0 : decide (8 < (L0.length : Int)) = false := by simp; omega
    obtain ⟨L, hL⟩ : ∃ L, L = L0 := ⟨_, rfl⟩
    have hLl : L.length ≤ 8 := by rw [hL]; omega
    have hL8 : True := trivial
    have HSL : Hid (SeesI w1 (.slice ao L0.length c) L) := Lib.hid (by rw [hL]; exact HS0.out)
    have HOL : Hid (∀ p ∈ L, ItOk p) := Lib.hid (fun p hp => HOK.out p (by rw [hL] at hp; exact hp))
    clear hL
    go_enter Try.func4, Try.ntmps4
    go_upto_region 1 with fail
    change Code.wp _ _ _ _ (w.alloc (effR9 e))
    rw [← HW1.out]
    go_upto_region 3 with fail
    have HL := Lib.hid hLl
    clear hLl hL8
    go_upto_region 4 with fail
    obtain ⟨W, hW⟩ : ∃ W, W = w1.alloc (stO rev (.slice ao L0.length c)) := ⟨_, rfl⟩
    change Code.wp _ _ _ _ (w1.alloc (stO rev (.slice ao L0.length c)))
    rw [← hW]
    have hbW : Below w1.heap.size w1 W := by rw [hW]; exact belNew _ _
    have hX : W.heap[w1.heap.size]? = some (stO rev (.slice ao L0.length c)) := by rw [hW]; exact heap_alloc_new w1 _
    have hsW := HSL.out.below hbW
    have hEW := (hbW.block _ (heap_lt H1.out.2)).trans H1.out.2
    have HX := Lib.hid (And.intro (H1.out.1.trans (hbW.mono H1.out.1.size)) (And.intro (cell0 hX) (And.intro (cell1 hX) (And.intro (eff_cells hEW) hsW))))
    have HIt := Lib.hid (items9_any _ L W hsW (by have := HL.out; omega))
    have HRt : Hid (∀ w', Below W.heap.size W w' → Calls Try.prog 29 #[stV rev (.slice ao L0.length c)] w' fun x w'' => x = .returned (.bool (ofB rev L)) ∧ Below w'.heap.size w' w'') := Lib.hid (fun w' hb => refRight9_any _ L rev w' (hsW.below hb) (by have := HL.out; unfold maxLen; omega) (fun p hp => ⟨(HOL.out p hp).1, (HOL.out p hp).2.1⟩))
    clear hW hbW hX hsW hEW HW1 HSL
    cases hB : ofB rev L with
    | false =>
      rw [hB] at HRt
      have HOf : Hid (∀ w' vi, RowI w' W.heap.size vi L → Calls Try.prog 27 #[.int .i64 rev, vi] w' fun e w'' => e = .returned (.tuple #[.pointer none, .int .i64 1]) ∧ Below w'.heap.size w' w'') := Lib.hid (fun w' vi hv => of_no rev vi L w' (RowE.sees hv) (by have := HL.out; unfold maxLen; omega) hB)
      clear hB
      go_upto_region 5 with (first
        | (go_at_call 28; refine HIt.out.mono ?_; rintro x w2 ⟨vi, rfl, hri, hb2⟩)
        | (go_at_call 27; refine (HOf.out w2 vi hri).mono ?_; rintro x w3 ⟨rfl, hb3⟩)
        | go_in)
      have HB3 := Lib.hid (bel hb2 hb3)
      clear hri hb2 hb3 HIt HOf
      have z0 := bcell HB3.out HX.out.2.1
      have z1 := bcell HB3.out HX.out.2.2.1
      go_wp2_with (first
        | (go_at_call 29; refine (HRt.out w3 HB3.out).mono ?_; rintro x w4 ⟨rfl, hb4⟩)
        | (go_at_call 26; refine (awake9_any w4).mono ?_; rintro x w5 ⟨rfl, hb5⟩)
        | go_in)
      go_ret
      exact ⟨rfl, HX.out.1.trans ((bel HB3.out (bel hb4 hb5)).mono HX.out.1.size)⟩
    | true =>
      rw [hB] at HRt
      have HOf : Hid (∀ w' vi, Below W.heap.size W w' → RowI w' W.heap.size vi L → Calls Try.prog 27 #[.int .i64 rev, vi] w' fun e w'' => ∃ g P, e = .returned (.tuple #[ptr g, .int .i64 0]) ∧ KvW W w'' g P ⟨rev, L⟩) := Lib.hid (fun w' vi hb hv => (of_yes rev vi L w' (RowE.sees hv) (by have := HL.out; omega) hB).mono (by
        rintro x w'' ⟨g, P, rfl, hk, hP, hb2⟩
        exact ⟨g, P, rfl, hk, fun i hi => Nat.le_trans hb.size (hP i hi), bel hb hb2⟩))
      have hBB := hB
      unfold ofB at hB
      rw [Bool.and_eq_true, decide_eq_true_eq] at hB
      have HRS := Lib.hid (And.intro hB.1 (standB_all hB.2).1)
      clear hBB hB
      go_upto_region 5 with (first
        | (go_at_call 28; refine HIt.out.mono ?_; rintro x w2 ⟨vi, rfl, hri, hb2⟩)
        | (go_at_call 27; refine (HOf.out w2 vi hb2 hri).mono ?_; rintro x w3 ⟨g, P, rfl, hk3⟩)
        | go_in)
      have HK3 := Lib.hid hk3
      clear hri hb2 hk3 HIt HOf
      have z0 := bcell HK3.out.2.2 HX.out.2.1
      have z1 := bcell HK3.out.2.2 HX.out.2.2.1
      have nrev : (rev != rev) = false := by simp
      have HLM : Hid (L.length ≤ maxLen) := Lib.hid (by have := HL.out; unfold maxLen; omega)
      go_upto_region 9 with (first
        | (go_at_call 29; refine (HRt.out w3 HK3.out.2.2).mono ?_; rintro x w4 ⟨rfl, hb4⟩)
        | (go_at_call 22; refine (rev_any g P _ w4 (HK3.out.below hb4).1).mono ?_; rintro x wx ⟨rfl, rfl⟩)
        | (go_at_call 25; refine (all_any g P _ w4 (HK3.out.below hb4).1 HRS.out.2 (by have := HL.out; simp only []; omega)).mono ?_; rintro x w5 ⟨va, rfl, hra, hb5⟩)
        | (go_at_call 24; refine (same_yes va _ L w5 (RowE.sees hra) (HX.out.2.2.2.2.below (bel HK3.out.2.2 (bel hb4 hb5))) HLM.out).mono ?_; rintro x w6 ⟨rfl, hb6⟩)
        | go_in)
      have HK6 := Lib.hid (HK3.out.below (bel hb4 (bel hb5 hb6)))
      clear hra hb4 hb5 hb6 HK3 HRt z0 z1
      obtain ⟨e0, e1, e2, e3⟩ := HX.out.2.2.2.1
      have e0 := bcell HK6.out.2.2 e0
      have e1 := bcell HK6.out.2.2 e1
      have e2 := bcell HK6.out.2.2 e2
      have e3 := bcell HK6.out.2.2 e3
      have HAp := Lib.hid (apply_step e HK6.out HE.out.1 ⟨HRS.out.1, HRV.out.2⟩ (by have := HL.out; simp only []; omega))
      cases hm : mayA ⟨rev, L⟩ e with
      | false =>
        have HMy : Hid (∀ w', Below W.heap.size W w' → Calls Try.prog 31 #[stV rev (.slice ao L0.length c), effV e] w' fun x w'' => x = .returned (.bool false) ∧ Below w'.heap.size w' w'') := Lib.hid (fun w' hb => by
          have := refMay_any _ L rev e w' (HX.out.2.2.2.2.below hb) HLM.out HE.out.1 HE.out.2.1 HRV.out
          rw [hm] at this
          exact this)
        rw [hm] at HAp
        simp only [Bool.false_eq_true, if_false] at HAp
        clear hm
        go_upto_region 10 with (first
          | (go_at_call 30; refine HAp.out.mono ?_; rintro x w7 ⟨rfl, P6, hk7⟩)
          | go_in)
        have HK7 := Lib.hid hk7
        clear hk7 HAp e0 e1 e2 e3
        obtain ⟨e0, e1, e2, e3⟩ := HX.out.2.2.2.1
        have e0 := bcell HK7.out.2.2 e0
        have e1 := bcell HK7.out.2.2 e1
        have e2 := bcell HK7.out.2.2 e2
        have e3 := bcell HK7.out.2.2 e3
        have z0 := bcell HK7.out.2.2 HX.out.2.1
        have z1 := bcell HK7.out.2.2 HX.out.2.2.1
        have yrev : (rev == rev) = true := by simp
        go_wp2_with (first
          | (go_at_call 31; refine (HMy.out w7 HK7.out.2.2).mono ?_; rintro x w8 ⟨rfl, hb8⟩)
          | (go_at_call 22; refine (rev_any g P6 _ w8 (HK7.out.below hb8).1).mono ?_; rintro x wx ⟨rfl, rfl⟩)
          | (go_at_call 25; refine (all_any g P6 _ w8 (HK7.out.below hb8).1 HRS.out.2 (by have := HL.out; simp only []; omega)).mono ?_; rintro x w9 ⟨va, rfl, hra, hb9⟩)
          | (go_at_call 24; refine (same_yes va _ L w9 (RowE.sees hra) (HX.out.2.2.2.2.below (bel HK7.out.2.2 (bel hb8 hb9))) HLM.out).mono ?_; rintro x w10 ⟨rfl, hb10⟩)
          | (go_at_call 26; refine (awake9_any _).mono ?_; rintro x w11 ⟨rfl, hb11⟩)
          | go_in)
        go_ret
        exact ⟨rfl, HX.out.1.trans ((bel HK7.out.2.2 (bel hb8 (bel hb9 (bel hb10 hb11)))).mono HX.out.1.size)⟩
      | true =>
        have HMy : Hid (∀ w', Below W.heap.size W w' → Calls Try.prog 31 #[stV rev (.slice ao L0.length c), effV e] w' fun x w'' => x = .returned (.bool true) ∧ Below w'.heap.size w' w'') := Lib.hid (fun w' hb => by
          have := refMay_any _ L rev e w' (HX.out.2.2.2.2.below hb) HLM.out HE.out.1 HE.out.2.1 HRV.out
          rw [hm] at this
          exact this)
        rw [hm] at HAp
        simp only [if_true] at HAp
        have HR2 : Hid (Rising (applyK ⟨rev, L⟩ e).L ∧ (applyK ⟨rev, L⟩ e).L.length ≤ 1000000 ∧ (applyK ⟨rev, L⟩ e).rev = e.rev) := Lib.hid (by
          have := HL.out
          refine ⟨?_, ?_, rfl⟩
          · unfold applyK
            split
            · exact Rising.del HRS.out.2 _
            · exact Rising.put HRS.out.2 _ _
          · unfold applyK
            split
            · have h2 := delE_le (kl e.key) L
              simp only []
              omega
            · have h2 := putE_len (kl e.key) (e.val, e.rev) L
              simp only []
              omega)
        clear hm
        go_upto_region 10 with (first
          | (go_at_call 30; refine HAp.out.mono ?_; rintro x w7 ⟨rfl, P6, hk7⟩)
          | go_in)
        have HK7 := Lib.hid hk7
        clear hk7 HAp e0 e1 e2 e3
        obtain ⟨e0, e1, e2, e3⟩ := HX.out.2.2.2.1
        have e0 := bcell HK7.out.2.2 e0
        have e1 := bcell HK7.out.2.2 e1
        have e2 := bcell HK7.out.2.2 e2
        have e3 := bcell HK7.out.2.2 e3
        have z0 := bcell HK7.out.2.2 HX.out.2.1
        have z1 := bcell HK7.out.2.2 HX.out.2.2.1
        go_upto_region 12 with (first
          | (go_at_call 31; refine (HMy.out w7 HK7.out.2.2).mono ?_; rintro x w8 ⟨rfl, hb8⟩)
          | go_in)
        have e0 := bcell hb8 e0
        have e1 := bcell hb8 e1
        have e2 := bcell hb8 e2
        have e3 := bcell hb8 e3
        have z0 := bcell hb8 z0
        have z1 := bcell hb8 z1
        have HK80 := Lib.hid (HK7.out.below hb8)
        have HRA := Lib.hid (refApply_any _ L rev e w8 (HX.out.2.2.2.2.below HK80.out.2.2) HRS.out.2 (by have := HL.out; omega))
        clear hb8 HMy HK7
        go_upto_region 13 with (first
          | (go_at_call 32; refine HRA.out.mono ?_; rintro x w9 ⟨v2, rfl, hrow2, hb9⟩; obtain ⟨ao2, n2, c2, rfl⟩ := row_slice hrow2)
          | go_in)
        obtain ⟨wz, hwz⟩ : ∃ wz, wz = w9.alloc (stO e.rev (.slice ao2 n2 c2)) := ⟨_, rfl⟩
        change Code.wp _ _ _ _ (w9.alloc (stO e.rev (.slice ao2 n2 c2)))
        rw [← hwz]
        have hbz : Below w9.heap.size w9 wz := by rw [hwz]; exact belNew _ _
        have hN : wz.heap[w9.heap.size]? = some (stO e.rev (.slice ao2 n2 c2)) := by rw [hwz]; exact heap_alloc_new w9 _
        have n0 := cell0 hN
        have n1 := cell1 hN
        have HRW := Lib.hid (row_keep hrow2 hbz)
        have hk8 := HK80.out.below (bel hb9 hbz)
        have HBZ := Lib.hid hk8.2.2
        generalize hSA : applyK ⟨rev, L⟩ e = SA at hk8 HR2 HRW
        have HK8 := Lib.hid (And.intro hk8.1 (And.intro HR2.out.1 HR2.out.2.1))
        have hrev : SA.rev = e.rev := HR2.out.2.2
        have HLM2 : Hid (SA.L.length ≤ maxLen) := Lib.hid (by have := HR2.out.2.1; unfold maxLen; omega)
        have yrev : (e.rev == e.rev) = true := by simp
        clear hSA hk8 hwz hbz hN hrow2 hb9 e0 e1 e2 e3 z0 z1 HRA HK80
        refine wp_region_held_drew (S := (fun W => Below wz.heap.size wz W)) (by kernel_rfl) ?_ (fun r0 => ?_)
        · exact ⟨rfl, rfl, rfl, Nat.le_refl _, fun _ _ => rfl⟩
        refine wpAnyH_take (i := 0) (v := ?_) rfl (by kernel_rfl) (by kernel_rfl) (by kernel_rfl) (fun _ _ _ h => h) (Or.inl ⟨by rfl, ?_⟩) (by assumption) ?_
        rotate_left
        · intro wS hSw
          (try dsimp only at hSw)
          go_simp
          first | done | with_reducible rfl
        try simp only [Act.put, List.getElem_toArray, List.getElem_cons_zero, List.setIfInBounds_toArray, List.set_cons_zero, List.set_cons_succ]
        refine wpAnyH_take (i := 1) (v := ?_) rfl (by kernel_rfl) (by kernel_rfl) (by kernel_rfl) (fun _ _ _ h => h) (Or.inl ⟨by rfl, ?_⟩) (by assumption) ?_
        rotate_left
        · intro wS hSw
          (try dsimp only at hSw)
          go_simp
          first | done | with_reducible rfl
        try simp only [Act.put, List.getElem_toArray, List.getElem_cons_succ, List.getElem_cons_zero, List.setIfInBounds_toArray, List.set_cons_zero, List.set_cons_succ]
        refine wpAnyH_take (i := 2) (v := ?_) rfl (by kernel_rfl) (by kernel_rfl) (by kernel_rfl) (fun _ _ _ h => h) (Or.inl ⟨by rfl, ?_⟩) (by assumption) ?_
        rotate_left
        · intro wS hSw
          (try dsimp only at hSw)
          go_simp
          first | done | with_reducible rfl
        try simp only [Act.put, List.getElem_toArray, List.getElem_cons_succ, List.getElem_cons_zero, List.setIfInBounds_toArray, List.set_cons_zero, List.set_cons_succ]
        refine wpAnyH_take (i := 3) (v := ?_) rfl (by kernel_rfl) (by kernel_rfl) (by kernel_rfl) (fun _ _ _ h => h) (Or.inl ⟨by rfl, ?_⟩) (by assumption) ?_
        rotate_left
        · intro wS hSw
          (try dsimp only at hSw)
          go_simp
          first | done | with_reducible rfl
        try simp only [Act.put, List.getElem_toArray, List.getElem_cons_succ, List.getElem_cons_zero, List.setIfInBounds_toArray, List.set_cons_zero, List.set_cons_succ]
        refine wpAnyH_take (i := 5) (v := ?_) rfl (by kernel_rfl) (by kernel_rfl) (by kernel_rfl) (fun _ _ _ h => h) (Or.inl ⟨by rfl, ?_⟩) (by assumption) ?_
        rotate_left
        · intro wS hSw
          (try dsimp only at hSw)
          go_simp
          first | done | with_reducible rfl
        try simp only [Act.put, List.getElem_toArray, List.getElem_cons_succ, List.getElem_cons_zero, List.setIfInBounds_toArray, List.set_cons_zero, List.set_cons_succ]
        refine wpAnyH_take (i := 6) (v := ?_) rfl (by kernel_rfl) (by kernel_rfl) (by kernel_rfl) (fun _ _ _ h => h) (Or.inl ⟨by rfl, ?_⟩) (by assumption) ?_
        rotate_left
        · intro wS hSw
          (try dsimp only at hSw)
          have n0 := bcell hSw n0
          have n1 := bcell hSw n1
          go_simp
          first | done | with_reducible rfl
        try simp only [Act.put, List.getElem_toArray, List.getElem_cons_succ, List.getElem_cons_zero, List.setIfInBounds_toArray, List.set_cons_zero, List.set_cons_succ]
        refine wpAnyH_ready (rs := [4]) (by kernel_rfl) (by simp) ?_
        refine AllReadyH.cons rfl (fun K hK => ?_) AllReadyH.nil
        go_simp
        refine (rev_any g P6 _ _ (HK8.out.1.below r0)).mono ?_; rintro x wx ⟨rfl, rfl⟩
        refine hK.out _ _ ?_ (fun r1 => ?_)
        · exact r0
        try simp only [Act.put, List.getElem_toArray, List.getElem_cons_succ, List.getElem_cons_zero, List.setIfInBounds_toArray, List.set_cons_zero, List.set_cons_succ]
        refine wpAnyH_take (i := 7) (v := ?_) rfl (by kernel_rfl) (by kernel_rfl) (by kernel_rfl) (fun _ _ _ h => h) (Or.inl ⟨by rfl, ?_⟩) (by assumption) ?_
        rotate_left
        · intro wS hSw
          (try dsimp only at hSw)
          go_simp
          first | done | with_reducible rfl
        try simp only [Act.put, List.getElem_toArray, List.getElem_cons_succ, List.getElem_cons_zero, List.setIfInBounds_toArray, List.set_cons_zero, List.set_cons_succ]
        refine wpAnyH_take (i := 8) (v := ?_) rfl (by kernel_rfl) (by kernel_rfl) (by kernel_rfl) (fun _ _ _ h => h) (Or.inl ⟨by rfl, ?_⟩) (by assumption) ?_
        rotate_left
        · intro wS hSw
          (try dsimp only at hSw)
          go_simp
          first | done | with_reducible rfl
        try simp only [Act.put, List.getElem_toArray, List.getElem_cons_succ, List.getElem_cons_zero, List.setIfInBounds_toArray, List.set_cons_zero, List.set_cons_succ]
        refine wpAnyH_take (i := 9) (v := ?_) rfl (by kernel_rfl) (by kernel_rfl) (by kernel_rfl) (fun _ _ _ h => h) (Or.inl ⟨by rfl, ?_⟩) (by assumption) ?_
        rotate_left
        · intro wS hSw
          (try dsimp only at hSw)
          go_simp
          first | done | with_reducible rfl
        try simp only [Act.put, List.getElem_toArray, List.getElem_cons_succ, List.getElem_cons_zero, List.setIfInBounds_toArray, List.set_cons_zero, List.set_cons_succ]
        refine wpAnyH_take (i := 10) (v := ?_) rfl (by kernel_rfl) (by kernel_rfl) (by kernel_rfl) (fun _ _ _ h => h) (Or.inl ⟨by rfl, ?_⟩) (by assumption) ?_
        rotate_left
        · intro wS hSw
          (try dsimp only at hSw)
          go_simp
          first | done | with_reducible rfl
        try simp only [Act.put, List.getElem_toArray, List.getElem_cons_succ, List.getElem_cons_zero, List.setIfInBounds_toArray, List.set_cons_zero, List.set_cons_succ]
        refine wpAnyH_take (i := 12) (v := ?_) rfl (by kernel_rfl) (by kernel_rfl) (by kernel_rfl) (fun _ _ _ h => h) (Or.inl ⟨by rfl, ?_⟩) (by assumption) ?_
        rotate_left
        · intro wS hSw
          (try dsimp only at hSw)
          go_simp
          first | done | with_reducible rfl
        try simp only [Act.put, List.getElem_toArray, List.getElem_cons_succ, List.getElem_cons_zero, List.setIfInBounds_toArray, List.set_cons_zero, List.set_cons_succ]
        refine wpAnyH_take (i := 13) (v := ?_) rfl (by kernel_rfl) (by kernel_rfl) (by kernel_rfl) (fun _ _ _ h => h) (Or.inl ⟨by rfl, ?_⟩) (by assumption) ?_
        rotate_left
        · intro wS hSw
          (try dsimp only at hSw)
          have n0 := bcell hSw n0
          have n1 := bcell hSw n1
          go_simp
          first | done | with_reducible rfl
        try simp only [Act.put, List.getElem_toArray, List.getElem_cons_succ, List.getElem_cons_zero, List.setIfInBounds_toArray, List.set_cons_zero, List.set_cons_succ]
        refine wpAnyH_ready (rs := [11]) (by kernel_rfl) (by simp) ?_
        refine AllReadyH.cons rfl (fun K hK => ?_) AllReadyH.nil
        go_simp
        refine (all_any g P6 _ _ (HK8.out.1.below r1) HK8.out.2.1 HK8.out.2.2).mono ?_; rintro x w9 ⟨va9, rfl, hra9, hb9⟩
        refine hK.out _ _ ?_ (fun r2 => ?_)
        · exact bel r1 hb9
        try simp only [Act.put, List.getElem_toArray, List.getElem_cons_succ, List.getElem_cons_zero, List.setIfInBounds_toArray, List.set_cons_zero, List.set_cons_succ]
        refine wpAnyH_ready (rs := [14]) (by kernel_rfl) (by simp) ?_
        refine AllReadyH.cons rfl (fun K hK => ?_) AllReadyH.nil
        go_simp
        refine (same_yes va9 (.slice ao2 n2 c2) _ _ (RowE.sees hra9) ((RowE.sees HRW.out).below (bel r1 hb9)) HLM2.out).mono ?_; rintro x w10 ⟨rfl, hb10⟩
        refine hK.out _ _ ?_ (fun r3 => ?_)
        · exact bel r2 hb10
        try simp only [Act.put, List.getElem_toArray, List.getElem_cons_succ, List.getElem_cons_zero, List.setIfInBounds_toArray, List.set_cons_zero, List.set_cons_succ]
        refine wpAnyH_take (i := 15) (v := ?_) rfl (by kernel_rfl) (by kernel_rfl) (by kernel_rfl) (fun _ _ _ h => h) (Or.inl ⟨by rfl, ?_⟩) (by assumption) ?_
        rotate_left
        · intro wS hSw
          (try dsimp only at hSw)
          go_simp
          first | done | with_reducible rfl
        try simp only [Act.put, List.getElem_toArray, List.getElem_cons_succ, List.getElem_cons_zero, List.setIfInBounds_toArray, List.set_cons_zero, List.set_cons_succ]
        refine wpAnyH_take (i := 16) (v := ?_) rfl (by kernel_rfl) (by kernel_rfl) (by kernel_rfl) (fun _ _ _ h => h) (Or.inl ⟨by rfl, ?_⟩) (by assumption) ?_
        rotate_left
        · intro wS hSw
          (try dsimp only at hSw)
          go_simp
          first | done | with_reducible rfl
        try simp only [Act.put, List.getElem_toArray, List.getElem_cons_succ, List.getElem_cons_zero, List.setIfInBounds_toArray, List.set_cons_zero, List.set_cons_succ]
        refine wpAnyH_ready (rs := [17]) (by kernel_rfl) (by simp) ?_
        refine AllReadyH.cons rfl (fun K hK => ?_) AllReadyH.nil
        go_simp
        refine (awake9_any _).mono ?_; rintro x w11 ⟨rfl, hb11⟩
        refine hK.out _ _ ?_ (fun r4 => ?_)
        · exact bel r3 hb11
        try simp only [Act.put, List.getElem_toArray, List.getElem_cons_succ, List.getElem_cons_zero, List.setIfInBounds_toArray, List.set_cons_zero, List.set_cons_succ]
        refine wpAnyH_take (i := 18) (v := ?_) rfl (by kernel_rfl) (by kernel_rfl) (by kernel_rfl) (fun _ _ _ h => h) (Or.inl ⟨by rfl, ?_⟩) (by assumption) ?_
        rotate_left
        · intro wS hSw
          (try dsimp only at hSw)
          go_simp
          first | done | with_reducible rfl
        try simp only [Act.put, List.getElem_toArray, List.getElem_cons_succ, List.getElem_cons_zero, List.setIfInBounds_toArray, List.set_cons_zero, List.set_cons_succ]
        refine wpAnyH_take (i := 19) (v := ?_) rfl (by kernel_rfl) (by kernel_rfl) (by kernel_rfl) (fun _ _ _ h => h) (Or.inl ⟨by rfl, ?_⟩) (by assumption) ?_
        rotate_left
        · intro wS hSw
          (try dsimp only at hSw)
          go_simp
          first | done | with_reducible rfl
        try simp only [Act.put, List.getElem_toArray, List.getElem_cons_succ, List.getElem_cons_zero, List.setIfInBounds_toArray, List.set_cons_zero, List.set_cons_succ]
        refine wpAnyH_done (by kernel_rfl) ?_ _
        go_wp2_with fail
        go_ret
        exact ⟨rfl, HX.out.1.trans ((bel HBZ.out r4).mono HX.out.1.size)⟩
end Go.Proofs.Ytogcjginifcbpaa
