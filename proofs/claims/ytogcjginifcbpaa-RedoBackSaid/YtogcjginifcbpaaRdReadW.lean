/- The walk of RedoRead. -/
import Derived.Test.YtogcjginifcbpaaRdAny
import Derived.Test.YtogcjginifcbpaaRdEqK
import Derived.Test.YtogcjginifcbpaaRdRef
import Derived.Test.YtogcjginifcbpaaKvInv
namespace Go.Proofs.Ytogcjginifcbpaa
open Go.RowKit Go.Maps
theorem few10_any (v : Value) (xs : List Int) (w : World) (h : Sees w v xs) (hm : xs.length ≤ maxLen) :
    Calls Try.prog 42 #[v] w fun e w' => ∃ v', e = .returned v' ∧ Sees w v' (xs.take 300) ∧ w = w' := by
  have H := Lib.hid h
  obtain ⟨ao, c, rfl, hlc, hnil, hc⟩ := h
  unfold maxLen at hm
  by_cases hgt : 300 < xs.length
  · have d0 : decide (300 < (xs.length : Int)) = true := by simp; omega
    have K : Hid (Sees w (.slice ao 300 c) (xs.take 300)) := Lib.hid (by
      have e : (xs.take 300).length = 300 := by rw [List.length_take]; omega
      refine ⟨ao, c, by rw [e], by omega, fun h => by rw [hnil h]; rfl, fun a ha i hi => ?_⟩
      rw [e] at hi
      rw [hc a ha i (by omega)]
      simp only [List.getD, List.getElem?_take, if_pos hi])
    clear hc
    go_enter Try.func42, Try.ntmps42
    go_wp2
    go_ret
    exact ⟨_, rfl, K.out, rfl⟩
  · have d0 : decide (300 < (xs.length : Int)) = false := by simp; omega
    have K : Hid (xs.take 300 = xs) := Lib.hid (List.take_of_length_le (by omega))
    clear hc
    go_enter Try.func42, Try.ntmps42
    go_wp2
    go_ret
    exact ⟨_, rfl, by rw [K.out]; exact H.out, rfl⟩
set_option maxRecDepth 100000 in
set_option maxHeartbeats 2000000 in
theorem lawRedoRead (w : World) (b : Value) (xs : List Int) (h : Sees w b xs) (hok : okB xs) (hm : xs.length ≤ maxLen) : Calls Try.prog 11 #[b] w fun x w' => x = .returned (.bool true) ∧ Below w.heap.size w w' := by
  have HF := Lib.hid (few10_any b xs w h hm)
  have hlt : (xs.take 300).length ≤ 100000000000000 := by rw [List.length_take]; omega
  have HT := Lib.hid (And.intro (hok.take 300) hlt)
  clear h hok hm hlt
  generalize xs.take 300 = ys at HF HT
  go_enter Try.func11, Try.ntmps11
  go_upto_region 2 with (first
    | (go_at_call 42; refine HF.out.mono ?_; rintro x w1 ⟨v1, rfl, hs1, rfl⟩)
    | go_in)
  have HRd : Hid (Calls Try.prog 40 #[v1] w fun x w' => (∃ (e : KEff) (er : Int), x = .returned (.tuple #[effV e, .int .i64 er]) ∧ (er = 0 ∧ rightB e = true ∧ e.rev ≤ 9223372036854775807 ∧ effL e = ys ∨ er = 3 ∧ e = eff0)) ∧ Below w.heap.size w w') := Lib.hid ((read10_any v1 ys w hs1 HT.out.1 HT.out.2).mono (by
    rintro x w' ⟨hx, hb⟩
    refine ⟨?_, hb⟩
    rcases hx with ⟨e, rfl, h1, h2, h3⟩ | rfl
    · exact ⟨e, 0, rfl, Or.inl ⟨rfl, h1, h2, h3⟩⟩
    · exact ⟨eff0, 3, rfl, Or.inr ⟨rfl, rfl⟩⟩))
  have HS1 := Lib.hid hs1
  clear hs1
  go_upto_region 3 with (first
    | (go_at_call 40; refine HRd.out.mono ?_; rintro x w2 ⟨⟨e, er, rfl, hor⟩, hb2⟩)
    | go_in)
  obtain ⟨w3, hw3⟩ : ∃ w3, w3 = w2.alloc (effO e) := ⟨_, rfl⟩
  have hb3 : Below w.heap.size w w3 := by rw [hw3]; exact belAlloc hb2 _
  have hA3 : w3.heap[w2.heap.size]? = some (effO e) := by rw [hw3]; exact heap_alloc_new w2 _
  change Code.wp _ _ _ _ (w2.alloc (effO e))
  rw [← hw3]
  have HB3 := Lib.hid hb3
  have hs3 := HS1.out.keep hb3
  obtain ⟨a0, a1, a2, a3, -⟩ := four hA3
  clear hw3 hb3 hA3 hb2 HRd HF
  rcases hor with ⟨rfl, hr, hm2, hL⟩ | ⟨rfl, rfl⟩
  · have HS3 := Lib.hid hs3
    clear hs3
    have HR : Hid (∀ w, Calls Try.prog 38 #[effV e] w fun x w' => x = .returned (.bool true) ∧ Below w.heap.size w w') := Lib.hid (fun w => by have := refRight_any e w; rw [hr] at this; exact this)
    obtain ⟨_, r2, r3, r4, _⟩ := rightB_ok hr
    obtain ⟨ta, hta⟩ : ∃ ta, ta = strOfNums ys := ⟨_, rfl⟩
    have HP : Hid (∀ w, Calls Try.prog 41 #[effV e] w fun x w' => x = .returned (.string ta) ∧ Below w.heap.size w w') := Lib.hid (fun w => by rw [hta, ← hL]; exact refPut10_any e (by omega) (by omega) ⟨by omega, hm2⟩ w)
    have HTA := Lib.hid hta
    clear r2 r3 r4 hta hr hm2 hL
    go_upto_region 6 with fail
    obtain ⟨wz, hwz⟩ : ∃ wz, wz = w3.alloc (effR e) := ⟨_, rfl⟩
    change Code.wp _ _ _ _ (w3.alloc (effR e))
    rw [← hwz]
    have hbz : Below w3.heap.size w3 wz := by rw [hwz]; exact belNew _ _
    have hZ : wz.heap[w3.heap.size]? = some (effR e) := by rw [hwz]; exact heap_alloc_new w3 _
    have HBZ := Lib.hid (HB3.out.trans (hbz.mono HB3.out.size))
    have hsz := HS3.out.keep hbz
    have HCA : Hid (∀ W, Below wz.heap.size wz W → (convert 76 9 v1).run Try.prog W = .ok (.string ta) W) := Lib.hid (fun W hW => by rw [HTA.out]; exact conv_sees (hsz.keep hW))
    clear a0 a1 a2 a3 hwz hbz hsz
    obtain ⟨p0, p1, p2, p3, -⟩ := four hZ
    clear hZ
    refine wp_region_held_drew (S := (fun W => Below wz.heap.size wz W)) (by kernel_rfl) ?_ (fun r0 => ?_)
    · exact ⟨rfl, rfl, rfl, Nat.le_refl _, fun _ _ => rfl⟩
    refine wpAnyH_take (i := 0) (v := ?_) rfl (by kernel_rfl) (by kernel_rfl) (by kernel_rfl) (fun _ _ _ h => h) (Or.inl ⟨by rfl, ?_⟩) (by assumption) ?_
    rotate_left
    · intro wS hSw
      (try dsimp only at hSw)
      have p0 := bcell hSw p0
      have p1 := bcell hSw p1
      have p2 := bcell hSw p2
      have p3 := bcell hSw p3
      go_simp
      first | done | with_reducible rfl
    try simp only [Act.put, List.getElem_toArray, List.getElem_cons_zero, List.setIfInBounds_toArray, List.set_cons_zero, List.set_cons_succ]
    refine wpAnyH_ready (rs := [1]) (by kernel_rfl) (by simp) ?_
    refine AllReadyH.cons rfl (fun K hK => ?_) AllReadyH.nil
    go_simp
    refine (HR.out _).mono ?_; rintro x w8 ⟨rfl, hb8⟩
    refine hK.out _ _ ?_ (fun r1 => ?_)
    · exact bel r0 hb8
    try simp only [Act.put, List.getElem_toArray, List.getElem_cons_succ, List.getElem_cons_zero, List.setIfInBounds_toArray, List.set_cons_zero, List.set_cons_succ]
    refine wpAnyH_take (i := 2) (v := ?_) rfl (by kernel_rfl) (by kernel_rfl) (by kernel_rfl) (fun _ _ _ h => h) (Or.inl ⟨by rfl, ?_⟩) (by assumption) ?_
    rotate_left
    · intro wS hSw
      (try dsimp only at hSw)
      go_simp
      first | done | with_reducible rfl
    try simp only [Act.put, List.getElem_toArray, List.getElem_cons_succ, List.getElem_cons_zero, List.setIfInBounds_toArray, List.set_cons_zero, List.set_cons_succ]
    refine wpAnyH_take (i := 3) (v := ?_) rfl (by kernel_rfl) (by kernel_rfl) (by kernel_rfl) (fun _ _ _ h => h) (Or.inl ⟨by rfl, ?_⟩) (by assumption) ?_
    rotate_left
    · intro wS hSw
      (try dsimp only at hSw)
      have p0 := bcell hSw p0
      have p1 := bcell hSw p1
      have p2 := bcell hSw p2
      have p3 := bcell hSw p3
      go_simp
      first | done | with_reducible rfl
    try simp only [Act.put, List.getElem_toArray, List.getElem_cons_succ, List.getElem_cons_zero, List.setIfInBounds_toArray, List.set_cons_zero, List.set_cons_succ]
    refine wpAnyH_take (i := 5) (v := ?_) rfl (by kernel_rfl) (by kernel_rfl) (by kernel_rfl) (fun _ _ _ h => h) (Or.inl ⟨by rfl, ?_⟩) (by assumption) ?_
    rotate_left
    · intro wS hSw
      (try dsimp only at hSw)
      go_simp
      first | done | with_reducible rfl
    try simp only [Act.put, List.getElem_toArray, List.getElem_cons_succ, List.getElem_cons_zero, List.setIfInBounds_toArray, List.set_cons_zero, List.set_cons_succ]
    refine wpAnyH_take (i := 6) (v := ?_) rfl (by kernel_rfl) (by kernel_rfl) (by kernel_rfl) (fun _ _ _ h => h) (Or.inl ⟨by rfl, ?_⟩) (by assumption) ?_
    rotate_left
    · intro wS hSw
      (try dsimp only at hSw)
      have hcv := HCA.out _ hSw
      go_simp
      first | done | with_reducible rfl
    try simp only [Act.put, List.getElem_toArray, List.getElem_cons_succ, List.getElem_cons_zero, List.setIfInBounds_toArray, List.set_cons_zero, List.set_cons_succ]
    refine wpAnyH_ready (rs := [4]) (by kernel_rfl) (by simp) ?_
    refine AllReadyH.cons rfl (fun K hK => ?_) AllReadyH.nil
    go_simp
    refine (HP.out _).mono ?_; rintro x w9 ⟨rfl, hb9⟩
    refine hK.out _ _ ?_ (fun r2 => ?_)
    · exact bel r1 hb9
    try simp only [Act.put, List.getElem_toArray, List.getElem_cons_succ, List.getElem_cons_zero, List.setIfInBounds_toArray, List.set_cons_zero, List.set_cons_succ]
    refine wpAnyH_take (i := 7) (v := ?_) rfl (by kernel_rfl) (by kernel_rfl) (by kernel_rfl) (fun _ _ _ h => h) (Or.inl ⟨by rfl, ?_⟩) (by assumption) ?_
    rotate_left
    · intro wS hSw
      (try dsimp only at hSw)
      go_simp
      first | done | with_reducible rfl
    try simp only [Act.put, List.getElem_toArray, List.getElem_cons_succ, List.getElem_cons_zero, List.setIfInBounds_toArray, List.set_cons_zero, List.set_cons_succ]
    refine wpAnyH_take (i := 8) (v := ?_) rfl (by kernel_rfl) (by kernel_rfl) (by kernel_rfl) (fun _ _ _ h => h) (Or.inl ⟨by rfl, ?_⟩) (by assumption) ?_
    rotate_left
    · intro wS hSw
      (try dsimp only at hSw)
      go_simp
      first | done | with_reducible rfl
    try simp only [Act.put, List.getElem_toArray, List.getElem_cons_succ, List.getElem_cons_zero, List.setIfInBounds_toArray, List.set_cons_zero, List.set_cons_succ]
    refine wpAnyH_take (i := 9) (v := ?_) rfl (by kernel_rfl) (by kernel_rfl) (by kernel_rfl) (fun _ _ _ h => h) (Or.inl ⟨by rfl, ?_⟩) (by assumption) ?_
    rotate_left
    · intro wS hSw
      (try dsimp only at hSw)
      go_simp
      first | done | with_reducible rfl
    try simp only [Act.put, List.getElem_toArray, List.getElem_cons_succ, List.getElem_cons_zero, List.setIfInBounds_toArray, List.set_cons_zero, List.set_cons_succ]
    refine wpAnyH_ready (rs := [10]) (by kernel_rfl) (by simp) ?_
    refine AllReadyH.cons rfl (fun K hK => ?_) AllReadyH.nil
    go_simp
    refine (awake10_any _).mono ?_; rintro x w10 ⟨rfl, hb10⟩
    refine hK.out _ _ ?_ (fun r3 => ?_)
    · exact bel r2 hb10
    try simp only [Act.put, List.getElem_toArray, List.getElem_cons_succ, List.getElem_cons_zero, List.setIfInBounds_toArray, List.set_cons_zero, List.set_cons_succ]
    refine wpAnyH_take (i := 11) (v := ?_) rfl (by kernel_rfl) (by kernel_rfl) (by kernel_rfl) (fun _ _ _ h => h) (Or.inl ⟨by rfl, ?_⟩) (by assumption) ?_
    rotate_left
    · intro wS hSw
      (try dsimp only at hSw)
      go_simp
      first | done | with_reducible rfl
    try simp only [Act.put, List.getElem_toArray, List.getElem_cons_succ, List.getElem_cons_zero, List.setIfInBounds_toArray, List.set_cons_zero, List.set_cons_succ]
    refine wpAnyH_take (i := 12) (v := ?_) rfl (by kernel_rfl) (by kernel_rfl) (by kernel_rfl) (fun _ _ _ h => h) (Or.inl ⟨by rfl, ?_⟩) (by assumption) ?_
    rotate_left
    · intro wS hSw
      (try dsimp only at hSw)
      go_simp
      first | done | with_reducible rfl
    try simp only [Act.put, List.getElem_toArray, List.getElem_cons_succ, List.getElem_cons_zero, List.setIfInBounds_toArray, List.set_cons_zero, List.set_cons_succ]
    refine wpAnyH_done (by kernel_rfl) ?_ _
    go_wp2_with fail
    go_ret
    exact ⟨rfl, HBZ.out.trans (r3.mono HBZ.out.size)⟩
  · have hE : ∀ w, (binOp .eql 38 (effV eff0) (effV eff0)).run Try.prog w = .ok (.bool true) w := fun w => by rw [eqEffK]; simp
    clear hs3
    go_wp2_with (first
      | (go_at_call 39; refine (awake10_any _).mono ?_; rintro x wy ⟨rfl, hby⟩)
      | go_in)
    go_ret
    exact ⟨rfl, HB3.out.trans (hby.mono HB3.out.size)⟩
end Go.Proofs.Ytogcjginifcbpaa
