/- The document's virgateref10: long, Put. Made by g_rdref.py. -/
import Derived.Test.YtogcjginifcbpaaRdLaw
import Derived.Test.YtogcjginifcbpaaRdMath
namespace Go.Proofs.Ytogcjginifcbpaa
open Go.RowKit Go.Maps
set_option maxHeartbeats 1000000 in
theorem long10_any (s : ByteArray) (hs : s.size ≤ 100000) (w : World) :
    Calls Try.prog 65 #[.string s] w fun e w' => e = .returned (.string (strOfNums (longL s))) ∧ Below w.heap.size w w' := by
  have hc : IntKind.u64.wrap (s.size : Int) = (s.size : Int) := IntWalk.u64_in _ (by omega)
  have HP := Lib.hid (refPut_any (s.size : Int) 4 w (by omega) (by omega))
  have HE : Hid (strOfNums (longL s) = strOfNums (putL (s.size : Int) 4) ++ s) := Lib.hid (by unfold longL; rw [strOfNums_append, strOf_strI])
  have q : ¬ 9223372036854775807 < (strOfNums (putL (s.size : Int) 4)).size + s.size := by rw [strOfNums_size]; have := putL_len (s.size : Int) 4; omega
  clear hs
  go_enter Try.func65, Try.ntmps65
  go_wp2_with fail
  refine HP.out.mono ?_; rintro e w1 ⟨v, rfl, ho, hb1⟩
  have hcv := conv_sees ho.sees
  go_wp2_with fail
  go_ret
  rw [HE.out]
  exact ⟨rfl, hb1⟩
theorem strOf_one : strOfNums (putL 1 1) = ⟨#[1]⟩ := by decide
theorem strOf_two : strOfNums (putL 2 1) = ⟨#[2]⟩ := by decide
theorem strOf_eff (e : KEff) : strOfNums (effL e) = strOfNums (putL (kindOf e) 1) ++ strOfNums (putL e.rev 8) ++ strOfNums (longL e.key) ++ strOfNums (longL e.val) := by
  unfold effL itemL
  rw [strOfNums_append, strOfNums_append, strOfNums_append, ← ByteArray.append_assoc, ← ByteArray.append_assoc, kl_str]
set_option maxRecDepth 100000 in
set_option maxHeartbeats 1000000 in
theorem refPut10_any (e : KEff) (hk0 : e.key.size ≤ 100000) (hv0 : e.val.size ≤ 100000) (hr : 0 ≤ e.rev ∧ e.rev ≤ 9223372036854775807) (w : World) :
    Calls Try.prog 41 #[effV e] w fun x w' => x = .returned (.string (strOfNums (effL e))) ∧ Below w.heap.size w w' := by
  have HS := strOf_eff e
  obtain ⟨key, val, rv, gn⟩ := e
  obtain ⟨wq, hW⟩ : ∃ wq, wq = w.alloc (effR ⟨key, val, rv, gn⟩) := ⟨_, rfl⟩
  have hb : Below w.heap.size w wq := by rw [hW]; exact belNew _ _
  have hA : wq.heap[w.heap.size]? = some (effR ⟨key, val, rv, gn⟩) := by rw [hW]; exact heap_alloc_new w _
  have hk : key.size ≤ 100000 := hk0
  have hv : val.size ≤ 100000 := hv0
  have hr0 : 0 ≤ rv := hr.1
  have hr2 : rv < 18446744073709551616 := by have : rv ≤ 9223372036854775807 := hr.2; omega
  have hc : IntKind.u64.wrap rv = rv := IntWalk.u64_in _ (by omega)
  have HZ : Hid ((strOfNums (putL rv 8)).size ≤ 8 ∧ (strOfNums (longL key)).size ≤ 100008 ∧ (strOfNums (longL val)).size ≤ 100008) := Lib.hid (by
    refine ⟨by rw [strOfNums_size]; exact putL_len rv 8, ?_, ?_⟩
    · rw [strOfNums_size]; unfold longL; rw [List.length_append, strI_length]; have := putL_len (key.size : Int) 4; omega
    · rw [strOfNums_size]; unfold longL; rw [List.length_append, strI_length]; have := putL_len (val.size : Int) 4; omega)
  have HW := Lib.hid hW
  have HB := Lib.hid hb
  obtain ⟨p0, p1, p2, p3, -⟩ := four hA
  dsimp only at p0 p1 p2 p3
  clear hW hb hA hr hk0 hv0
  cases gn with
  | false =>
    have HE : Hid (strOfNums (effL ⟨key, val, rv, false⟩) = ⟨#[1]⟩ ++ strOfNums (putL rv 8) ++ strOfNums (longL key) ++ strOfNums (longL val)) := Lib.hid (by rw [HS, ← strOf_one]; rfl)
    clear HS
    go_enter Try.func41, Try.ntmps41
    go_upto_region 1 with fail
    change Code.wp _ _ _ _ (w.alloc (effR ⟨key, val, rv, false⟩))
    rw [← HW.out]
    go_upto_region 4 with fail
    refine wp_region_held_drew (S := (fun W => Below wq.heap.size wq W)) (by kernel_rfl) ?_ (fun r0 => ?_)
    · exact ⟨rfl, rfl, rfl, Nat.le_refl _, fun _ _ => rfl⟩
    refine wpAnyH_take (i := 0) (v := ?_) rfl (by kernel_rfl) (by kernel_rfl) (by kernel_rfl) (fun _ _ _ h => h) (Or.inl ⟨by rfl, ?_⟩) (by assumption) ?_
    rotate_left
    · intro wS hSw
      (try dsimp only at hSw)
      go_simp
      first | done | with_reducible rfl
    try simp only [Act.put, List.getElem_toArray, List.getElem_cons_zero, List.setIfInBounds_toArray, List.set_cons_zero, List.set_cons_succ]
    refine wpAnyH_take (i := 1) (v := ?_) rfl (by kernel_rfl) (by kernel_rfl) (by kernel_rfl) (fun _ _ _ h => h) (Or.inl ⟨by rfl, ?_⟩) (by assumption) ?_
    rotate_left
    · intro wS hSw
      (try dsimp only at hSw)
      go_simp
      first | done | with_reducible rfl
    try simp only [Act.put, List.getElem_toArray, List.getElem_cons_succ, List.getElem_cons_zero, List.setIfInBounds_toArray, List.set_cons_zero, List.set_cons_succ]
    refine wpAnyH_take (i := 2) (v := ?_) rfl (by kernel_rfl) (by kernel_rfl) (by kernel_rfl) (fun _ _ _ h => h) (Or.inl ⟨by rfl, ?_⟩) (by assumption) ?_
    rotate_left
    · intro wS hSw
      (try dsimp only at hSw)
      have p0 := bcell hSw p0
      have p1 := bcell hSw p1
      have p2 := bcell hSw p2
      have p3 := bcell hSw p3
      go_simp
      first | done | with_reducible rfl
    try simp only [Act.put, List.getElem_toArray, List.getElem_cons_succ, List.getElem_cons_zero, List.setIfInBounds_toArray, List.set_cons_zero, List.set_cons_succ]
    refine wpAnyH_take (i := 3) (v := ?_) rfl (by kernel_rfl) (by kernel_rfl) (by kernel_rfl) (fun _ _ _ h => h) (Or.inl ⟨by rfl, ?_⟩) (by assumption) ?_
    rotate_left
    · intro wS hSw
      (try dsimp only at hSw)
      go_simp
      first | done | with_reducible rfl
    try simp only [Act.put, List.getElem_toArray, List.getElem_cons_succ, List.getElem_cons_zero, List.setIfInBounds_toArray, List.set_cons_zero, List.set_cons_succ]
    refine wpAnyH_take (i := 7) (v := ?_) rfl (by kernel_rfl) (by kernel_rfl) (by kernel_rfl) (fun _ _ _ h => h) (Or.inl ⟨by rfl, ?_⟩) (by assumption) ?_
    rotate_left
    · intro wS hSw
      (try dsimp only at hSw)
      go_simp
      first | done | with_reducible rfl
    try simp only [Act.put, List.getElem_toArray, List.getElem_cons_succ, List.getElem_cons_zero, List.setIfInBounds_toArray, List.set_cons_zero, List.set_cons_succ]
    refine wpAnyH_take (i := 8) (v := ?_) rfl (by kernel_rfl) (by kernel_rfl) (by kernel_rfl) (fun _ _ _ h => h) (Or.inl ⟨by rfl, ?_⟩) (by assumption) ?_
    rotate_left
    · intro wS hSw
      (try dsimp only at hSw)
      have p0 := bcell hSw p0
      have p1 := bcell hSw p1
      have p2 := bcell hSw p2
      have p3 := bcell hSw p3
      go_simp
      first | done | with_reducible rfl
    try simp only [Act.put, List.getElem_toArray, List.getElem_cons_succ, List.getElem_cons_zero, List.setIfInBounds_toArray, List.set_cons_zero, List.set_cons_succ]
    refine wpAnyH_take (i := 11) (v := ?_) rfl (by kernel_rfl) (by kernel_rfl) (by kernel_rfl) (fun _ _ _ h => h) (Or.inl ⟨by rfl, ?_⟩) (by assumption) ?_
    rotate_left
    · intro wS hSw
      (try dsimp only at hSw)
      go_simp
      first | done | with_reducible rfl
    try simp only [Act.put, List.getElem_toArray, List.getElem_cons_succ, List.getElem_cons_zero, List.setIfInBounds_toArray, List.set_cons_zero, List.set_cons_succ]
    refine wpAnyH_take (i := 12) (v := ?_) rfl (by kernel_rfl) (by kernel_rfl) (by kernel_rfl) (fun _ _ _ h => h) (Or.inl ⟨by rfl, ?_⟩) (by assumption) ?_
    rotate_left
    · intro wS hSw
      (try dsimp only at hSw)
      have p0 := bcell hSw p0
      have p1 := bcell hSw p1
      have p2 := bcell hSw p2
      have p3 := bcell hSw p3
      go_simp
      first | done | with_reducible rfl
    try simp only [Act.put, List.getElem_toArray, List.getElem_cons_succ, List.getElem_cons_zero, List.setIfInBounds_toArray, List.set_cons_zero, List.set_cons_succ]
    refine wpAnyH_ready (rs := [4]) (by kernel_rfl) (by simp) ?_
    refine AllReadyH.cons rfl (fun K hK => ?_) AllReadyH.nil
    go_simp
    refine (refPut_any rv 8 _ hr0 hr2).mono ?_; rintro e w3 ⟨v3, rfl, ho3, hb3⟩
    refine hK.out _ _ ?_ (fun r1 => ?_)
    · exact bel r0 hb3
    refine wpAnyH_mono (S' := (fun W' => Below wq.heap.size wq W' ∧ Sees W' v3 (putL rv 8))) (fun _ h => h.1) _ _ _ _ ?_
    have r1x := And.intro r1 ho3.sees
    try simp only [Act.put, List.getElem_toArray, List.getElem_cons_succ, List.getElem_cons_zero, List.setIfInBounds_toArray, List.set_cons_zero, List.set_cons_succ]
    refine wpAnyH_take (i := 5) (v := ?_) rfl (by kernel_rfl) (by kernel_rfl) (by kernel_rfl) (fun _ _ _ h => h) (Or.inl ⟨by rfl, ?_⟩) (by assumption) ?_
    rotate_left
    · intro wS hSw
      (try dsimp only at hSw)
      have q1 := conv_sees hSw.2
      go_simp
      first | done | with_reducible rfl
    try simp only [Act.put, List.getElem_toArray, List.getElem_cons_succ, List.getElem_cons_zero, List.setIfInBounds_toArray, List.set_cons_zero, List.set_cons_succ]
    refine wpAnyH_take (i := 6) (v := ?_) rfl (by kernel_rfl) (by kernel_rfl) (by kernel_rfl) (fun _ _ _ h => h) (Or.inl ⟨by rfl, ?_⟩) (by assumption) ?_
    rotate_left
    · intro wS hSw
      (try dsimp only at hSw)
      go_simp
      rw [if_neg (by have := HZ.out; omega)]
      first | done | with_reducible rfl
    try simp only [Act.put, List.getElem_toArray, List.getElem_cons_succ, List.getElem_cons_zero, List.setIfInBounds_toArray, List.set_cons_zero, List.set_cons_succ]
    refine wpAnyH_ready (rs := [9]) (by kernel_rfl) (by simp) ?_
    refine AllReadyH.cons rfl (fun K hK => ?_) AllReadyH.nil
    go_simp
    refine (long10_any key hk _).mono ?_; rintro e w4 ⟨rfl, hb4⟩
    refine hK.out _ _ ?_ (fun r2 => ?_)
    · exact ⟨bel r1x.1 hb4, r1x.2.keep hb4⟩
    try simp only [Act.put, List.getElem_toArray, List.getElem_cons_succ, List.getElem_cons_zero, List.setIfInBounds_toArray, List.set_cons_zero, List.set_cons_succ]
    refine wpAnyH_take (i := 10) (v := ?_) rfl (by kernel_rfl) (by kernel_rfl) (by kernel_rfl) (fun _ _ _ h => h) (Or.inl ⟨by rfl, ?_⟩) (by assumption) ?_
    rotate_left
    · intro wS hSw
      (try dsimp only at hSw)
      go_simp
      rw [if_neg (by have := HZ.out; omega)]
      first | done | with_reducible rfl
    try simp only [Act.put, List.getElem_toArray, List.getElem_cons_succ, List.getElem_cons_zero, List.setIfInBounds_toArray, List.set_cons_zero, List.set_cons_succ]
    refine wpAnyH_ready (rs := [13]) (by kernel_rfl) (by simp) ?_
    refine AllReadyH.cons rfl (fun K hK => ?_) AllReadyH.nil
    go_simp
    refine (long10_any val hv _).mono ?_; rintro e w5 ⟨rfl, hb5⟩
    refine hK.out _ _ ?_ (fun r3 => ?_)
    · exact ⟨bel r2.1 hb5, r2.2.keep hb5⟩
    try simp only [Act.put, List.getElem_toArray, List.getElem_cons_succ, List.getElem_cons_zero, List.setIfInBounds_toArray, List.set_cons_zero, List.set_cons_succ]
    refine wpAnyH_take (i := 14) (v := ?_) rfl (by kernel_rfl) (by kernel_rfl) (by kernel_rfl) (fun _ _ _ h => h) (Or.inl ⟨by rfl, ?_⟩) (by assumption) ?_
    rotate_left
    · intro wS hSw
      (try dsimp only at hSw)
      go_simp
      rw [if_neg (by have := HZ.out; omega)]
      first | done | with_reducible rfl
    try simp only [Act.put, List.getElem_toArray, List.getElem_cons_succ, List.getElem_cons_zero, List.setIfInBounds_toArray, List.set_cons_zero, List.set_cons_succ]
    refine wpAnyH_take (i := 15) (v := ?_) rfl (by kernel_rfl) (by kernel_rfl) (by kernel_rfl) (fun _ _ _ h => h) (Or.inl ⟨by rfl, ?_⟩) (by assumption) ?_
    rotate_left
    · intro wS hSw
      (try dsimp only at hSw)
      go_simp
      first | done | with_reducible rfl
    try simp only [Act.put, List.getElem_toArray, List.getElem_cons_succ, List.getElem_cons_zero, List.setIfInBounds_toArray, List.set_cons_zero, List.set_cons_succ]
    refine wpAnyH_done (by kernel_rfl) ?_ _
    go_wp2_with fail
    go_ret
    rw [HE.out]
    exact ⟨rfl, HB.out.trans (r3.1.mono HB.out.size)⟩
  | true =>
    have HE : Hid (strOfNums (effL ⟨key, val, rv, true⟩) = ⟨#[2]⟩ ++ strOfNums (putL rv 8) ++ strOfNums (longL key) ++ strOfNums (longL val)) := Lib.hid (by rw [HS, ← strOf_two]; rfl)
    clear HS
    go_enter Try.func41, Try.ntmps41
    go_upto_region 1 with fail
    change Code.wp _ _ _ _ (w.alloc (effR ⟨key, val, rv, true⟩))
    rw [← HW.out]
    go_upto_region 4 with fail
    refine wp_region_held_drew (S := (fun W => Below wq.heap.size wq W)) (by kernel_rfl) ?_ (fun r0 => ?_)
    · exact ⟨rfl, rfl, rfl, Nat.le_refl _, fun _ _ => rfl⟩
    refine wpAnyH_take (i := 0) (v := ?_) rfl (by kernel_rfl) (by kernel_rfl) (by kernel_rfl) (fun _ _ _ h => h) (Or.inl ⟨by rfl, ?_⟩) (by assumption) ?_
    rotate_left
    · intro wS hSw
      (try dsimp only at hSw)
      go_simp
      first | done | with_reducible rfl
    try simp only [Act.put, List.getElem_toArray, List.getElem_cons_zero, List.setIfInBounds_toArray, List.set_cons_zero, List.set_cons_succ]
    refine wpAnyH_take (i := 1) (v := ?_) rfl (by kernel_rfl) (by kernel_rfl) (by kernel_rfl) (fun _ _ _ h => h) (Or.inl ⟨by rfl, ?_⟩) (by assumption) ?_
    rotate_left
    · intro wS hSw
      (try dsimp only at hSw)
      go_simp
      first | done | with_reducible rfl
    try simp only [Act.put, List.getElem_toArray, List.getElem_cons_succ, List.getElem_cons_zero, List.setIfInBounds_toArray, List.set_cons_zero, List.set_cons_succ]
    refine wpAnyH_take (i := 2) (v := ?_) rfl (by kernel_rfl) (by kernel_rfl) (by kernel_rfl) (fun _ _ _ h => h) (Or.inl ⟨by rfl, ?_⟩) (by assumption) ?_
    rotate_left
    · intro wS hSw
      (try dsimp only at hSw)
      have p0 := bcell hSw p0
      have p1 := bcell hSw p1
      have p2 := bcell hSw p2
      have p3 := bcell hSw p3
      go_simp
      first | done | with_reducible rfl
    try simp only [Act.put, List.getElem_toArray, List.getElem_cons_succ, List.getElem_cons_zero, List.setIfInBounds_toArray, List.set_cons_zero, List.set_cons_succ]
    refine wpAnyH_take (i := 3) (v := ?_) rfl (by kernel_rfl) (by kernel_rfl) (by kernel_rfl) (fun _ _ _ h => h) (Or.inl ⟨by rfl, ?_⟩) (by assumption) ?_
    rotate_left
    · intro wS hSw
      (try dsimp only at hSw)
      go_simp
      first | done | with_reducible rfl
    try simp only [Act.put, List.getElem_toArray, List.getElem_cons_succ, List.getElem_cons_zero, List.setIfInBounds_toArray, List.set_cons_zero, List.set_cons_succ]
    refine wpAnyH_take (i := 7) (v := ?_) rfl (by kernel_rfl) (by kernel_rfl) (by kernel_rfl) (fun _ _ _ h => h) (Or.inl ⟨by rfl, ?_⟩) (by assumption) ?_
    rotate_left
    · intro wS hSw
      (try dsimp only at hSw)
      go_simp
      first | done | with_reducible rfl
    try simp only [Act.put, List.getElem_toArray, List.getElem_cons_succ, List.getElem_cons_zero, List.setIfInBounds_toArray, List.set_cons_zero, List.set_cons_succ]
    refine wpAnyH_take (i := 8) (v := ?_) rfl (by kernel_rfl) (by kernel_rfl) (by kernel_rfl) (fun _ _ _ h => h) (Or.inl ⟨by rfl, ?_⟩) (by assumption) ?_
    rotate_left
    · intro wS hSw
      (try dsimp only at hSw)
      have p0 := bcell hSw p0
      have p1 := bcell hSw p1
      have p2 := bcell hSw p2
      have p3 := bcell hSw p3
      go_simp
      first | done | with_reducible rfl
    try simp only [Act.put, List.getElem_toArray, List.getElem_cons_succ, List.getElem_cons_zero, List.setIfInBounds_toArray, List.set_cons_zero, List.set_cons_succ]
    refine wpAnyH_take (i := 11) (v := ?_) rfl (by kernel_rfl) (by kernel_rfl) (by kernel_rfl) (fun _ _ _ h => h) (Or.inl ⟨by rfl, ?_⟩) (by assumption) ?_
    rotate_left
    · intro wS hSw
      (try dsimp only at hSw)
      go_simp
      first | done | with_reducible rfl
    try simp only [Act.put, List.getElem_toArray, List.getElem_cons_succ, List.getElem_cons_zero, List.setIfInBounds_toArray, List.set_cons_zero, List.set_cons_succ]
    refine wpAnyH_take (i := 12) (v := ?_) rfl (by kernel_rfl) (by kernel_rfl) (by kernel_rfl) (fun _ _ _ h => h) (Or.inl ⟨by rfl, ?_⟩) (by assumption) ?_
    rotate_left
    · intro wS hSw
      (try dsimp only at hSw)
      have p0 := bcell hSw p0
      have p1 := bcell hSw p1
      have p2 := bcell hSw p2
      have p3 := bcell hSw p3
      go_simp
      first | done | with_reducible rfl
    try simp only [Act.put, List.getElem_toArray, List.getElem_cons_succ, List.getElem_cons_zero, List.setIfInBounds_toArray, List.set_cons_zero, List.set_cons_succ]
    refine wpAnyH_ready (rs := [4]) (by kernel_rfl) (by simp) ?_
    refine AllReadyH.cons rfl (fun K hK => ?_) AllReadyH.nil
    go_simp
    refine (refPut_any rv 8 _ hr0 hr2).mono ?_; rintro e w3 ⟨v3, rfl, ho3, hb3⟩
    refine hK.out _ _ ?_ (fun r1 => ?_)
    · exact bel r0 hb3
    refine wpAnyH_mono (S' := (fun W' => Below wq.heap.size wq W' ∧ Sees W' v3 (putL rv 8))) (fun _ h => h.1) _ _ _ _ ?_
    have r1x := And.intro r1 ho3.sees
    try simp only [Act.put, List.getElem_toArray, List.getElem_cons_succ, List.getElem_cons_zero, List.setIfInBounds_toArray, List.set_cons_zero, List.set_cons_succ]
    refine wpAnyH_take (i := 5) (v := ?_) rfl (by kernel_rfl) (by kernel_rfl) (by kernel_rfl) (fun _ _ _ h => h) (Or.inl ⟨by rfl, ?_⟩) (by assumption) ?_
    rotate_left
    · intro wS hSw
      (try dsimp only at hSw)
      have q1 := conv_sees hSw.2
      go_simp
      first | done | with_reducible rfl
    try simp only [Act.put, List.getElem_toArray, List.getElem_cons_succ, List.getElem_cons_zero, List.setIfInBounds_toArray, List.set_cons_zero, List.set_cons_succ]
    refine wpAnyH_take (i := 6) (v := ?_) rfl (by kernel_rfl) (by kernel_rfl) (by kernel_rfl) (fun _ _ _ h => h) (Or.inl ⟨by rfl, ?_⟩) (by assumption) ?_
    rotate_left
    · intro wS hSw
      (try dsimp only at hSw)
      go_simp
      rw [if_neg (by have := HZ.out; omega)]
      first | done | with_reducible rfl
    try simp only [Act.put, List.getElem_toArray, List.getElem_cons_succ, List.getElem_cons_zero, List.setIfInBounds_toArray, List.set_cons_zero, List.set_cons_succ]
    refine wpAnyH_ready (rs := [9]) (by kernel_rfl) (by simp) ?_
    refine AllReadyH.cons rfl (fun K hK => ?_) AllReadyH.nil
    go_simp
    refine (long10_any key hk _).mono ?_; rintro e w4 ⟨rfl, hb4⟩
    refine hK.out _ _ ?_ (fun r2 => ?_)
    · exact ⟨bel r1x.1 hb4, r1x.2.keep hb4⟩
    try simp only [Act.put, List.getElem_toArray, List.getElem_cons_succ, List.getElem_cons_zero, List.setIfInBounds_toArray, List.set_cons_zero, List.set_cons_succ]
    refine wpAnyH_take (i := 10) (v := ?_) rfl (by kernel_rfl) (by kernel_rfl) (by kernel_rfl) (fun _ _ _ h => h) (Or.inl ⟨by rfl, ?_⟩) (by assumption) ?_
    rotate_left
    · intro wS hSw
      (try dsimp only at hSw)
      go_simp
      rw [if_neg (by have := HZ.out; omega)]
      first | done | with_reducible rfl
    try simp only [Act.put, List.getElem_toArray, List.getElem_cons_succ, List.getElem_cons_zero, List.setIfInBounds_toArray, List.set_cons_zero, List.set_cons_succ]
    refine wpAnyH_ready (rs := [13]) (by kernel_rfl) (by simp) ?_
    refine AllReadyH.cons rfl (fun K hK => ?_) AllReadyH.nil
    go_simp
    refine (long10_any val hv _).mono ?_; rintro e w5 ⟨rfl, hb5⟩
    refine hK.out _ _ ?_ (fun r3 => ?_)
    · exact ⟨bel r2.1 hb5, r2.2.keep hb5⟩
    try simp only [Act.put, List.getElem_toArray, List.getElem_cons_succ, List.getElem_cons_zero, List.setIfInBounds_toArray, List.set_cons_zero, List.set_cons_succ]
    refine wpAnyH_take (i := 14) (v := ?_) rfl (by kernel_rfl) (by kernel_rfl) (by kernel_rfl) (fun _ _ _ h => h) (Or.inl ⟨by rfl, ?_⟩) (by assumption) ?_
    rotate_left
    · intro wS hSw
      (try dsimp only at hSw)
      go_simp
      rw [if_neg (by have := HZ.out; omega)]
      first | done | with_reducible rfl
    try simp only [Act.put, List.getElem_toArray, List.getElem_cons_succ, List.getElem_cons_zero, List.setIfInBounds_toArray, List.set_cons_zero, List.set_cons_succ]
    refine wpAnyH_take (i := 15) (v := ?_) rfl (by kernel_rfl) (by kernel_rfl) (by kernel_rfl) (fun _ _ _ h => h) (Or.inl ⟨by rfl, ?_⟩) (by assumption) ?_
    rotate_left
    · intro wS hSw
      (try dsimp only at hSw)
      go_simp
      first | done | with_reducible rfl
    try simp only [Act.put, List.getElem_toArray, List.getElem_cons_succ, List.getElem_cons_zero, List.setIfInBounds_toArray, List.set_cons_zero, List.set_cons_succ]
    refine wpAnyH_done (by kernel_rfl) ?_ _
    go_wp2_with fail
    go_ret
    rw [HE.out]
    exact ⟨rfl, HB.out.trans (r3.1.mono HB.out.size)⟩
end Go.Proofs.Ytogcjginifcbpaa
