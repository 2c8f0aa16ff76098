/- virgatelaw07's same; the walk of WalOpens. Conditions: the world facts of Env. -/
import Derived.Test.YtkjdfelmjanpcaaDoorWlNil
namespace Go.Proofs.YtkjdfelmjanpcaaDoor
open Go.RowKit Go.Maps
set_option maxHeartbeats 2000000 in
theorem same7_any (va vb : Value) (ls : List (List Int)) (w : World) (ha : SeesRow w va ls) (hb : SeesRow w vb ls) (hl : ls.length ≤ 100000) :
    Calls Tryd.prog 25 #[va, vb] w fun e w' => e = .returned (.bool true) ∧ ∃ n, w' = w.drewN n := by
  obtain ⟨ao, c, rfl, hlc, hn, hc⟩ := ha
  obtain ⟨bo, c2, rfl, hlc2, hn2, hc2⟩ := hb
  have HA := Lib.hid (And.intro hn hc)
  have HB := Lib.hid (And.intro hn2 hc2)
  clear hn hc hn2 hc2
  go_enter Tryd.func25, Tryd.ntmps25
  go_wp2_with fail
  go_loopw [13] (fun j wr => ∃ i : Nat, i ≤ ls.length ∧ j = .int .i64 i ∧ ∃ n, wr = w.drewN n) (fun j _ => ls.length - (intOf j).toNat)
  case atStart => exact ⟨0, by omega, rfl, 0, rfl⟩
  case round =>
    obtain ⟨i, hi, rfl, n, rfl⟩ := hrel
    by_cases hlt : i < ls.length
    · obtain ⟨a, rfl⟩ : ∃ a, ao = some a := by
        cases ao with
        | none => rw [HA.out.1 rfl] at hlt; simp at hlt
        | some a => exact ⟨a, rfl⟩
      obtain ⟨b, rfl⟩ : ∃ b, bo = some b := by
        cases bo with
        | none => rw [HB.out.1 rfl] at hlt; simp at hlt
        | some b => exact ⟨b, rfl⟩
      obtain ⟨u, hu, hsu⟩ := HA.out.2 a rfl i hlt
      obtain ⟨y, hy, hsy⟩ := HB.out.2 b rfl i hlt
      have k1 : ∀ m, (convert 32 9 u).run Tryd.prog (w.drewN m) = .ok (.string (strOfNums (ls.getD i []))) (w.drewN m) := fun m => conv_sees (hsu.drewN m)
      have k2 : ∀ m, (convert 32 9 y).run Tryd.prog (w.drewN m) = .ok (.string (strOfNums (ls.getD i []))) (w.drewN m) := fun m => conv_sees (hsy.drewN m)
      obtain ⟨S, hS⟩ : ∃ S, S = strOfNums (ls.getD i []) := ⟨_, rfl⟩
      rw [← hS] at k1 k2
      clear hS hsu hsy
      have b0 : (0 : Int) ≤ (i : Int) := by omega
      have b1 : (i : Int) < (ls.length : Int) := by omega
      go_wp2_with fail
      go_quiet (fail)
      go_wp2_with fail
      go_roundw
      case rel => exact ⟨i + 1, by omega, by go_num, _, by first | rfl | (rw [World.drewN_drewN])⟩
      case measure => simp [intOf]; omega
    · obtain rfl : i = ls.length := by omega
      go_wp2_with fail
      go_ret
      exact ⟨rfl, n, rfl⟩
theorem wo1 {xs : List Int} : appD ⟨[], false, false, 0⟩ nW.data.toList xs = (0, wD xs 0 false false) := by
  show (if false = true then _ else _) = _
  rw [if_neg (by simp)]
  rfl
theorem wlost (xs : List Int) (su : Nat) : ¬ lost1 (wD xs su false false).lost (wD xs su false false).armed (wD xs su false false).left = true := by simp [wD, lost1]
theorem wo2 {xs : List Int} {su : Nat} : readD (wD xs su false false) nW.data.toList = (xs, 0) := rfl
/-- What a file's whole records leave of it. -/
theorem wo3 {xs : List Int} {n : Nat} (hn : n ≤ xs.length) : settleD (wD xs 0 false false) nW.data.toList xs.length n = (0, wD (xs.take n) n false false) := by
  unfold settleD
  by_cases h1 : n < xs.length
  · rw [if_pos h1]
    have e : getE (wD xs 0 false false).fs nW.data.toList = some (xs, 0) := rfl
    unfold cutD
    rw [e]
    simp only []
    rw [if_neg (by omega), if_neg (wlost xs 0), Int.toNat_natCast]
    rfl
  · rw [if_neg h1]
    obtain rfl : n = xs.length := by omega
    rw [List.take_length]
    have e : ((getE (wD xs 0 false false).fs nW.data.toList).getD ([], 0)).2 = 0 := rfl
    rw [e]
    by_cases h2 : 0 < xs.length
    · rw [if_pos h2]
      have e : getE (wD xs 0 false false).fs nW.data.toList = some (xs, 0) := rfl
      unfold syncD
      rw [e]
      simp only []
      rw [if_neg (wlost xs 0)]
      rfl
    · rw [if_neg h2]
      have : xs.length = 0 := by omega
      rw [this]
theorem wo4 {xs : List Int} : settleD (wD xs xs.length false false) nW.data.toList xs.length xs.length = (0, wD xs xs.length false false) := by
  unfold settleD
  rw [if_neg (Nat.lt_irrefl _)]
  have e : ((getE (wD xs xs.length false false).fs nW.data.toList).getD ([], 0)).2 = xs.length := rfl
  rw [e, if_neg (Nat.lt_irrefl _)]
/-- A whole frame at the beginning is seen of any piece that has it. -/
theorem next_take {l : List Int} (h : nextE l = 0) {m : Nat} (hm : nextN l ≤ m) : nextE (l.take m) = 0 ∧ nextP (l.take m) = nextP l ∧ nextN (l.take m) = nextN l := by
  obtain ⟨r1, r2, r3⟩ := next_room h
  have h0 := h
  unfold nextE at h
  have eN : nextN l = 8 + (recL l).length := by unfold nextN; rw [if_pos h0]
  have eP : nextP l = recL l := by unfold nextP; rw [if_pos h0]
  have hc : 1 ≤ cntL l ∧ cntL l ≤ 1048576 ∧ cntL l ≤ l.length - 8 ∧ numBE ((l.drop 4).take 4) = ofN (recL l) := by
    split at h
    · cases h
    · split at h
      · cases h
      · split at h
        · cases h
        · rename_i h3
          split at h
          · cases h
          · split at h
            · rename_i h4 h5
              refine ⟨by omega, by omega, by omega, h5⟩
            · cases h
  have hrl : (recL l).length = cntL l := by unfold recL; rw [List.length_take, List.length_drop]; omega
  have e1 : cntL (l.take m) = cntL l := by unfold cntL; rw [List.take_take, show min 4 m = 4 from by omega]
  have e2 : recL (l.take m) = recL l := by
    unfold recL
    rw [e1, List.drop_take, List.take_take, show min (cntL l) (m - 8) = cntL l from by omega]
  have e3 : ((l.take m).drop 4).take 4 = (l.drop 4).take 4 := by rw [List.drop_take, List.take_take, show min 4 (m - 4) = 4 from by omega]
  have e4 : nextE (l.take m) = 0 := by
    unfold nextE
    rw [e1, e2, e3, List.length_take, if_neg (by omega), if_neg (by omega), if_neg (by omega), if_neg (by omega), if_pos hc.2.2.2]
  refine ⟨e4, ?_, ?_⟩
  · unfold nextP; rw [if_pos e4, if_pos h0, e2]
  · unfold nextN; rw [if_pos e4, if_pos h0, e2]
theorem steps_take : ∀ (ls : List (List Int)) (l : List Int) (k : Nat), Steps ls l k → Steps ls (l.take k) k
  | [], _, _, h => h
  | p :: ls, l, k, h => by
    obtain ⟨h1, h2, k', h3, rfl⟩ := h
    obtain ⟨r1, r2, r3⟩ := next_room h1
    have hk := (Steps.room _ _ _ h3).2
    rw [List.length_drop] at hk
    have e := next_take h1 (m := nextN l + k') (by omega)
    refine ⟨e.1, e.2.1.trans h2, k', ?_, by rw [e.2.2]⟩
    rw [e.2.2, List.drop_take, show nextN l + k' - nextN l = k' from by omega]
    exact steps_take ls _ _ h3
/-- Of the whole records' bytes alone the records are the same. -/
theorem all_take {ls : List (List Int)} {l : List Int} {k x : Nat} (h : AllIs ls l k x) : AllIs ls (l.take k) k 6 := by
  have hk := (Steps.room _ _ _ h.1).2
  refine ⟨steps_take _ _ _ h.1, ?_, by decide⟩
  rw [List.drop_take, Nat.sub_self, List.take_zero]
  rfl
set_option linter.unusedVariables false in
set_option linter.unusedSimpArgs false in
set_option maxRecDepth 100000 in
set_option maxHeartbeats 8000000 in
theorem lawOpens (w : World) (v : Value) (ys : List Int) (h : Sees w v ys) (hok : okB ys) (hm : ys.length ≤ maxLen) (hE : Env w) :
    Calls Tryd.prog 5 #[v] w fun e w' => e = .returned (.bool true) ∧ Below w.heap.size w w' := by
  have HH := Lib.hid h
  have HM := Lib.hid hm
  obtain ⟨ao0, c0, rfl, hlc0, -⟩ := id h
  clear hm
  go_enter Tryd.func5, Tryd.ntmps5
  go_upto_if 17 with (fail)
  go_cut [0] from 15 (fun s0 wx => ∃ xs ao c, s0 = .slice ao xs.length c ∧ Sees w (.slice ao xs.length c) xs ∧ okB xs ∧ xs.length ≤ 200 ∧ wx = w)
  case first =>
    by_cases h200 : ys.length ≤ 200
    · have d1 : decide (200 < (ys.length : Int)) = false := by simp; omega
      go_wp2_with fail
      go_meet
      case rel => exact ⟨ys, ao0, c0, rfl, h, hok, h200, rfl⟩
    · have d1 : decide (200 < (ys.length : Int)) = true := by simp; omega
      have hh := sees_head h (n := 200) (by omega)
      have hlt : (ys.take 200).length = 200 := by rw [List.length_take]; omega
      have e5 : (200 : Int) ≤ (c0 : Int) := by omega
      have e6 : 200 ≤ c0 := by omega
      go_wp2_with fail
      go_meet
      case rel => exact ⟨ys.take 200, ao0, c0, by rw [hlt], by rw [hlt]; exact hh, hok.take 200, by rw [hlt]; exact Nat.le_refl _, rfl⟩
  case rest =>
    obtain ⟨xs, ao, c, rfl, hsee, hxo, hxl, rfl⟩ := hcut
    have hcl : xs.length ≤ c := by obtain ⟨_, _, e, h1, _⟩ := hsee; injection e with e1 e2 e3; omega
    have HS := Lib.hid hsee
    have HXO := Lib.hid hxo
    have HVB : Hid (xs ≠ [] → ∀ d, (Value.slice ao xs.length c).ownBlock = some d → d < wc.heap.size) := Lib.hid (by
      intro hne d hd
      obtain ⟨ao', c', e, _, _, hcell⟩ := hsee
      obtain rfl : ao = ao' := by injection e
      cases ao with
      | none => cases hd
      | some b0 =>
        have := cell_lt8 (hcell b0 rfl 0 (List.length_pos_iff.2 hne))
        rw [add_block] at this
        cases hd
        exact this)
    clear h hok HH HM hsee hxo hlc0
    go_wp2_with fail
    refine (new_disk wc).mono ?_; rintro e w1 ⟨g, rfl, hD1, hg, hb1⟩
    have hz1 := hb1.size
    have HA1 := Lib.hid (append_any g _ _ nW (.slice ao xs.length c) xs w1 hD1 (by decide) (by decide) (by decide) (by show 0 + _ ≤ _; omega) (HS.out.keep hb1) HXO.out (fun h0 d hd e => by have := HVB.out h0 d hd; omega))
    rw [wo1] at HA1
    clear hD1
    go_wp2_with fail
    refine HA1.out.mono ?_; rintro e w2 ⟨P2, rfl, hD2, hS2⟩
    obtain ⟨hP2, hb2⟩ := hS2.ge (n := wc.heap.size) (fun i e => by rw [e]; exact hg) hz1
    have hB2 := hb1.trans hb2
    have HO2 := Lib.hid (open_any g P2 _ nW w2 hD2 (by decide) (by decide) (by show 1 ≤ 1000; omega) (fun f hf => by
      obtain rfl := List.mem_singleton.1 hf
      show xs.length ≤ _
      omega) (hE.below hB2))
    have HB2 := Lib.hid hB2
    clear hD2 hS2 hB2
    go_wp2_with fail
    refine HO2.out.mono ?_; rintro e w3 ⟨P3, hS3, hpost⟩
    rw [wo2] at hpost
    rcases hpost with ⟨h12, -⟩ | ⟨-, ls, n, x, hall, hD3, hpost⟩
    · cases h12
    have hn := (Steps.room _ _ _ hall.1).2
    have hln := (Steps.room _ _ _ hall.1).1
    rw [wo3 hn] at hD3 hpost
    rcases hpost with ⟨h0, -⟩ | ⟨-, l3, v3, rfl, -, hrow3, -, -⟩
    · exact absurd rfl h0
    obtain ⟨hP3, hb3⟩ := hS3.ge (n := wc.heap.size) hP2 HB2.out.size
    have hB3 := HB2.out.trans hb3
    have HRW3 := Lib.hid (fun w'' (ht : Touch P3 w3 w'') => hrow3 w'' (ht.mono (fun _ _ h => Or.inl h)))
    have HD3 := Lib.hid hD3
    have HALL := Lib.hid hall
    have HRA := Lib.hid (rall_z (.slice ao xs.length c) xs w3 (HS.out.keep hB3) HXO.out (by omega))
    have HB3 := Lib.hid hB3
    clear hS3 hD3 hrow3 hall hB3
    go_wp2_with fail
    refine HRA.out.mono ?_; rintro e w4 ⟨v4, ls', n', x', rfl, hrow4, hall4, hb4⟩
    obtain ⟨rfl, rfl, rfl⟩ := AllIs.same _ _ _ _ _ _ _ HALL.out hall4
    have HRW4 := Lib.hid hrow4
    have hD4 := HD3.out.below hb4
    have HR4 := Lib.hid (read_any g P3 _ nW w4 hD4 (by decide) (by show (xs.take n).length ≤ _; rw [List.length_take]; omega))
    rw [wo2] at HR4
    have HD4 := Lib.hid hD4
    have HB4 := Lib.hid (bel HB3.out hb4)
    have HB34 := Lib.hid hb4
    clear hrow4 hall4 hD4 hb4
    go_wp2_with fail
    refine HR4.out.mono ?_; rintro e w5 ⟨v5, rfl, ho5, hb5⟩
    have hD5 := HD4.out.below hb5
    have hB5 := bel HB4.out hb5
    have hTl : (xs.take n).length = n := by rw [List.length_take]; omega
    have HO5 := Lib.hid (open_any g P3 _ nW w5 hD5 (by decide) (by decide) (by show 1 ≤ 1000; omega) (fun f hf => by
      obtain rfl := List.mem_singleton.1 hf
      show (xs.take n).length ≤ _
      omega) (hE.below hB5))
    have HX5 := Lib.hid ho5.sees
    have HB5 := Lib.hid hB5
    have HBB5 := Lib.hid hb5
    have HLt : Hid (∀ d, v5.ownBlock = some d → w4.heap.size ≤ d) := Lib.hid (fun d hd => (World.ownsRow.lt ho5 d hd).1)
    have HP3w : Hid (∀ i, P3 i → i < w3.heap.size) := Lib.hid (fun i hi => HD3.out.lt hi)
    have HPB : Hid (∀ i, P3 i → wc.heap.size ≤ i) := Lib.hid hP3
    have HP3 : Hid (∀ i, P3 i → i < w4.heap.size) := Lib.hid (fun i hi => HD4.out.lt hi)
    clear hD5 hB5 ho5 hb5
    go_wp2_with fail
    refine HO5.out.mono ?_; rintro e w6 ⟨P6, hS6, hpost⟩
    rw [wo2] at hpost
    rcases hpost with ⟨h12, -⟩ | ⟨-, ls6, n6, x6, hall6, hD6, hpost⟩
    · cases h12
    obtain ⟨rfl, rfl, rfl⟩ := AllIs.same _ _ _ _ _ _ _ (all_take HALL.out) hall6
    have hset : settleD (wD (xs.take n) n false false) nW.data.toList (xs.take n).length n = (0, wD (xs.take n) n false false) := by
      have := wo4 (xs := xs.take n)
      rw [hTl] at this ⊢
      exact this
    rw [hset] at hD6 hpost
    rcases hpost with ⟨h0, -⟩ | ⟨-, l6, v6, rfl, -, hrow6, -, -⟩
    · exact absurd rfl h0
    have hz6 := hS6.1.2.2.2.1
    have hkeep : ∀ d, d < w5.heap.size → ¬ P3 d → w6.heap[d]? = w5.heap[d]? := fun d h1 h2 => hS6.1.2.2.2.2 d h1 h2
    obtain ⟨hP6, hb6⟩ := hS6.ge (n := wc.heap.size) hP3 HB5.out.size
    have hB6 := HB5.out.trans hb6
    have hz5 := HBB5.out.size
    have hx6 : Sees w6 v5 (xs.take n) := sees_heap HX5.out (fun d hd hlt => hkeep d hlt (fun hp => by have h1 := HLt.out d hd; have h2 := HP3.out d hp; omega))
    have hlb : ls.length ≤ 100000 := by omega
    have hT36 : Touch P3 w3 w6 := (Touch.of_below _ (bel HB34.out HBB5.out)).trans hS6.1 (fun _ _ h => h)
    have hrow3 := (HRW3.out w6 hT36).sees
    have hz34 := HB34.out.size
    have hrow4 : SeesRow w6 v4 ls := RowZ.sees (HRW4.out.stay (by omega) (fun d hd hlt => by
      have e1 := HBB5.out.block d hlt
      refine (hkeep d (by omega) (fun hp => ?_)).trans e1
      have h4 := HP3.out d hp
      rcases hd with hd | hd
      · have := HP3w.out d hp; omega
      · have h1 := HVB.out hd.1 d hd.2
        have h2 := HPB.out d hp
        omega))
    have hD6' := Lib.hid hD6
    have HR6 := Lib.hid hrow6
    have hxs6 : Sees w6 (.slice ao xs.length c) xs := HS.out.keep hB6
    have hxn6 := sees_head hxs6 hn
    have HB6 := Lib.hid hB6
    have HT36 := Lib.hid hT36
    obtain ⟨T, hT⟩ : ∃ T, T = xs.take n := ⟨_, rfl⟩
    rw [← hT] at hx6 hxn6 hTl
    have n1 : n ≤ c := by omega
    have n2 : (n : Int) ≤ (c : Int) := by omega
    have n3 : n ≤ xs.length := hn
    have n4 : (n : Int) ≤ (xs.length : Int) := by omega
    have hE6 := hE.below hB6
    have HE6 := Lib.hid hE6
    obtain ⟨xo, xc, hv5, -⟩ := id hx6
    rw [hTl] at hv5
    subst hv5
    have HHX := Lib.hid (And.intro hx6 hxn6)
    have HR3 := Lib.hid (And.intro hrow3 hrow4)
    clear hrow6 hS6 hD6 hkeep hxs6 hx6 hxn6 hT36 hB6 hE6 hrow3 hrow4 hall6 hset hTl
    go_wp2_with fail
    refine wp_region_held_drew (S := (fun W => Sees W (.slice xo n xc) T ∧ Sees W (.slice ao n c) T)) (by kernel_rfl) ?_ (fun r0 => ?_)
    · exact ⟨HHX.out.1.keep (belDrew w6), HHX.out.2.keep (belDrew w6)⟩
    refine wpAnyH_take (i := 0) (v := ?_) rfl (by kernel_rfl) (by kernel_rfl) (by kernel_rfl) (fun _ _ _ h => h) (Or.inl ⟨by rfl, ?_⟩) (by assumption) ?_
    rotate_left
    · intro w hSw
      (try dsimp only at hSw)
      go_simp
      first | done | with_reducible rfl
    try simp only [Act.put, List.getElem_toArray, List.getElem_cons_succ, List.getElem_cons_zero, List.setIfInBounds_toArray, List.set_cons_zero, List.set_cons_succ]
    refine wpAnyH_take (i := 1) (v := ?_) rfl (by kernel_rfl) (by kernel_rfl) (by kernel_rfl) (fun _ _ _ h => h) (Or.inl ⟨by rfl, ?_⟩) (by assumption) ?_
    rotate_left
    · intro w hSw
      (try dsimp only at hSw)
      go_simp
      first | done | with_reducible rfl
    try simp only [Act.put, List.getElem_toArray, List.getElem_cons_succ, List.getElem_cons_zero, List.setIfInBounds_toArray, List.set_cons_zero, List.set_cons_succ]
    refine wpAnyH_take (i := 2) (v := ?_) rfl (by kernel_rfl) (by kernel_rfl) (by kernel_rfl) (fun _ _ _ h => h) (Or.inl ⟨by rfl, ?_⟩) (by assumption) ?_
    rotate_left
    · intro w hSw
      (try dsimp only at hSw)
      go_simp
      first | done | with_reducible rfl
    try simp only [Act.put, List.getElem_toArray, List.getElem_cons_succ, List.getElem_cons_zero, List.setIfInBounds_toArray, List.set_cons_zero, List.set_cons_succ]
    refine wpAnyH_take (i := 3) (v := ?_) rfl (by kernel_rfl) (by kernel_rfl) (by kernel_rfl) (fun _ _ _ h => h) (Or.inl ⟨by rfl, ?_⟩) (by assumption) ?_
    rotate_left
    · intro w hSw
      (try dsimp only at hSw)
      go_simp
      first | done | with_reducible rfl
    try simp only [Act.put, List.getElem_toArray, List.getElem_cons_succ, List.getElem_cons_zero, List.setIfInBounds_toArray, List.set_cons_zero, List.set_cons_succ]
    refine wpAnyH_take (i := 4) (v := ?_) rfl (by kernel_rfl) (by kernel_rfl) (by kernel_rfl) (fun _ _ _ h => h) (Or.inl ⟨by rfl, ?_⟩) (by assumption) ?_
    rotate_left
    · intro w hSw
      (try dsimp only at hSw)
      go_simp
      first | done | with_reducible rfl
    try simp only [Act.put, List.getElem_toArray, List.getElem_cons_succ, List.getElem_cons_zero, List.setIfInBounds_toArray, List.set_cons_zero, List.set_cons_succ]
    refine wpAnyH_take (i := 5) (v := ?_) rfl (by kernel_rfl) (by kernel_rfl) (by kernel_rfl) (fun _ _ _ h => h) (Or.inl ⟨by rfl, ?_⟩) (by assumption) ?_
    rotate_left
    · intro w hSw
      (try dsimp only at hSw)
      go_simp
      first | done | with_reducible rfl
    try simp only [Act.put, List.getElem_toArray, List.getElem_cons_succ, List.getElem_cons_zero, List.setIfInBounds_toArray, List.set_cons_zero, List.set_cons_succ]
    refine wpAnyH_take (i := 6) (v := ?_) rfl (by kernel_rfl) (by kernel_rfl) (by kernel_rfl) (fun _ _ _ h => h) (Or.inl ⟨by rfl, ?_⟩) (by assumption) ?_
    rotate_left
    · intro w hSw
      (try dsimp only at hSw)
      go_simp
      first | done | with_reducible rfl
    try simp only [Act.put, List.getElem_toArray, List.getElem_cons_succ, List.getElem_cons_zero, List.setIfInBounds_toArray, List.set_cons_zero, List.set_cons_succ]
    refine wpAnyH_take (i := 7) (v := ?_) rfl (by kernel_rfl) (by kernel_rfl) (by kernel_rfl) (fun _ _ _ h => h) (Or.inl ⟨by rfl, ?_⟩) (by assumption) ?_
    rotate_left
    · intro w hSw
      (try dsimp only at hSw)
      go_simp
      first | done | with_reducible rfl
    try simp only [Act.put, List.getElem_toArray, List.getElem_cons_succ, List.getElem_cons_zero, List.setIfInBounds_toArray, List.set_cons_zero, List.set_cons_succ]
    refine wpAnyH_take (i := 8) (v := ?_) rfl (by kernel_rfl) (by kernel_rfl) (by kernel_rfl) (fun _ _ _ h => h) (Or.inl ⟨by rfl, ?_⟩) (by assumption) ?_
    rotate_left
    · intro w hSw
      (try dsimp only at hSw)
      go_simp
      first | done | with_reducible rfl
    try simp only [Act.put, List.getElem_toArray, List.getElem_cons_succ, List.getElem_cons_zero, List.setIfInBounds_toArray, List.set_cons_zero, List.set_cons_succ]
    refine wpAnyH_take (i := 9) (v := ?_) rfl (by kernel_rfl) (by kernel_rfl) (by kernel_rfl) (fun _ _ _ h => h) (Or.inl ⟨by rfl, ?_⟩) (by assumption) ?_
    rotate_left
    · intro w hSw
      (try dsimp only at hSw)
      go_simp
      first | done | with_reducible rfl
    try simp only [Act.put, List.getElem_toArray, List.getElem_cons_succ, List.getElem_cons_zero, List.setIfInBounds_toArray, List.set_cons_zero, List.set_cons_succ]
    refine wpAnyH_take (i := 10) (v := ?_) rfl (by kernel_rfl) (by kernel_rfl) (by kernel_rfl) (fun _ _ _ h => h) (Or.inl ⟨by rfl, ?_⟩) (by assumption) ?_
    rotate_left
    · intro w hSw
      (try dsimp only at hSw)
      go_simp
      first | done | with_reducible rfl
    try simp only [Act.put, List.getElem_toArray, List.getElem_cons_succ, List.getElem_cons_zero, List.setIfInBounds_toArray, List.set_cons_zero, List.set_cons_succ]
    refine wpAnyH_take (i := 11) (v := ?_) rfl (by kernel_rfl) (by kernel_rfl) (by kernel_rfl) (fun _ _ _ h => h) (Or.inl ⟨by rfl, ?_⟩) (by assumption) ?_
    rotate_left
    · intro w hSw
      (try dsimp only at hSw)
      go_simp
      first | done | with_reducible rfl
    try simp only [Act.put, List.getElem_toArray, List.getElem_cons_succ, List.getElem_cons_zero, List.setIfInBounds_toArray, List.set_cons_zero, List.set_cons_succ]
    refine wpAnyH_take (i := 12) (v := ?_) rfl (by kernel_rfl) (by kernel_rfl) (by kernel_rfl) (fun _ _ _ h => h) (Or.inl ⟨by rfl, ?_⟩) (by assumption) ?_
    rotate_left
    · intro w hSw
      (try dsimp only at hSw)
      go_simp
      first | done | with_reducible rfl
    try simp only [Act.put, List.getElem_toArray, List.getElem_cons_succ, List.getElem_cons_zero, List.setIfInBounds_toArray, List.set_cons_zero, List.set_cons_succ]
    refine wpAnyH_ready (rs := [13]) (by kernel_rfl) (by simp) ?_
    refine AllReadyH.cons rfl (fun K hK => ?_) AllReadyH.nil
    go_simp
    refine (same7_any v3 v4 ls w6.drew (HR3.out.1.keep (belDrew w6)) (HR3.out.2.keep (belDrew w6)) hlb).mono ?_; rintro e w7 ⟨rfl, m7, hw7⟩
    have hb67 : Below w6.heap.size w6 w7 := by rw [hw7]; exact bel (belDrew w6) ⟨rfl, rfl, rfl, Nat.le_refl _, fun _ _ => rfl⟩
    have hx7 := HHX.out.1.keep hb67
    have hy7 := HHX.out.2.keep hb67
    clear hw7
    refine hK.out _ _ ?_ (fun r1 => ?_)
    · exact ⟨hx7, hy7⟩
    try simp only [Act.put, List.getElem_toArray, List.getElem_cons_succ, List.getElem_cons_zero, List.setIfInBounds_toArray, List.set_cons_zero, List.set_cons_succ]
    refine wpAnyH_take (i := 14) (v := ?_) rfl (by kernel_rfl) (by kernel_rfl) (by kernel_rfl) (fun _ _ _ h => h) (Or.inl ⟨by rfl, ?_⟩) (by assumption) ?_
    rotate_left
    · intro w hSw
      (try dsimp only at hSw)
      go_simp
      first | done | with_reducible rfl
    try simp only [Act.put, List.getElem_toArray, List.getElem_cons_succ, List.getElem_cons_zero, List.setIfInBounds_toArray, List.set_cons_zero, List.set_cons_succ]
    refine wpAnyH_take (i := 15) (v := ?_) rfl (by kernel_rfl) (by kernel_rfl) (by kernel_rfl) (fun _ _ _ h => h) (Or.inl ⟨by rfl, ?_⟩) (by assumption) ?_
    rotate_left
    · intro w hSw
      (try dsimp only at hSw)
      go_simp
      first | done | with_reducible rfl
    try simp only [Act.put, List.getElem_toArray, List.getElem_cons_succ, List.getElem_cons_zero, List.setIfInBounds_toArray, List.set_cons_zero, List.set_cons_succ]
    refine wpAnyH_take (i := 16) (v := ?_) rfl (by kernel_rfl) (by kernel_rfl) (by kernel_rfl) (fun _ _ _ h => h) (Or.inl ⟨by rfl, ?_⟩) (by assumption) ?_
    rotate_left
    · intro w hSw
      (try dsimp only at hSw)
      go_simp
      first | done | with_reducible rfl
    try simp only [Act.put, List.getElem_toArray, List.getElem_cons_succ, List.getElem_cons_zero, List.setIfInBounds_toArray, List.set_cons_zero, List.set_cons_succ]
    refine wpAnyH_take (i := 17) (v := ?_) rfl (by kernel_rfl) (by kernel_rfl) (by kernel_rfl) (fun _ _ _ h => h) (Or.inl ⟨by rfl, ?_⟩) (by assumption) ?_
    rotate_left
    · intro w hSw
      (try dsimp only at hSw)
      have q1 := conv_sees hSw.1
      go_simp
      first | done | with_reducible rfl
    try simp only [Act.put, List.getElem_toArray, List.getElem_cons_succ, List.getElem_cons_zero, List.setIfInBounds_toArray, List.set_cons_zero, List.set_cons_succ]
    refine wpAnyH_take (i := 18) (v := ?_) rfl (by kernel_rfl) (by kernel_rfl) (by kernel_rfl) (fun _ _ _ h => h) (Or.inl ⟨by rfl, ?_⟩) (by assumption) ?_
    rotate_left
    · intro w hSw
      (try dsimp only at hSw)
      go_simp
      first | done | with_reducible rfl
    try simp only [Act.put, List.getElem_toArray, List.getElem_cons_succ, List.getElem_cons_zero, List.setIfInBounds_toArray, List.set_cons_zero, List.set_cons_succ]
    refine wpAnyH_take (i := 19) (v := ?_) rfl (by kernel_rfl) (by kernel_rfl) (by kernel_rfl) (fun _ _ _ h => h) (Or.inl ⟨by rfl, ?_⟩) (by assumption) ?_
    rotate_left
    · intro w hSw
      (try dsimp only at hSw)
      go_simp
      first | done | with_reducible rfl
    try simp only [Act.put, List.getElem_toArray, List.getElem_cons_succ, List.getElem_cons_zero, List.setIfInBounds_toArray, List.set_cons_zero, List.set_cons_succ]
    refine wpAnyH_take (i := 20) (v := ?_) rfl (by kernel_rfl) (by kernel_rfl) (by kernel_rfl) (fun _ _ _ h => h) (Or.inl ⟨by rfl, ?_⟩) (by assumption) ?_
    rotate_left
    · intro w hSw
      (try dsimp only at hSw)
      go_simp
      first | done | with_reducible rfl
    try simp only [Act.put, List.getElem_toArray, List.getElem_cons_succ, List.getElem_cons_zero, List.setIfInBounds_toArray, List.set_cons_zero, List.set_cons_succ]
    refine wpAnyH_take (i := 21) (v := ?_) rfl (by kernel_rfl) (by kernel_rfl) (by kernel_rfl) (fun _ _ _ h => h) (Or.inl ⟨by rfl, ?_⟩) (by assumption) ?_
    rotate_left
    · intro w hSw
      (try dsimp only at hSw)
      have q1 := conv_sees hSw.2
      go_simp
      first | done | with_reducible rfl
    try simp only [Act.put, List.getElem_toArray, List.getElem_cons_succ, List.getElem_cons_zero, List.setIfInBounds_toArray, List.set_cons_zero, List.set_cons_succ]
    refine wpAnyH_take (i := 22) (v := ?_) rfl (by kernel_rfl) (by kernel_rfl) (by kernel_rfl) (fun _ _ _ h => h) (Or.inl ⟨by rfl, ?_⟩) (by assumption) ?_
    rotate_left
    · intro w hSw
      (try dsimp only at hSw)
      go_simp
      first | done | with_reducible rfl
    try simp only [Act.put, List.getElem_toArray, List.getElem_cons_succ, List.getElem_cons_zero, List.setIfInBounds_toArray, List.set_cons_zero, List.set_cons_succ]
    refine wpAnyH_take (i := 23) (v := ?_) rfl (by kernel_rfl) (by kernel_rfl) (by kernel_rfl) (fun _ _ _ h => h) (Or.inl ⟨by rfl, ?_⟩) (by assumption) ?_
    rotate_left
    · intro w hSw
      (try dsimp only at hSw)
      go_simp
      first | done | with_reducible rfl
    try simp only [Act.put, List.getElem_toArray, List.getElem_cons_succ, List.getElem_cons_zero, List.setIfInBounds_toArray, List.set_cons_zero, List.set_cons_succ]
    refine wpAnyH_take (i := 24) (v := ?_) rfl (by kernel_rfl) (by kernel_rfl) (by kernel_rfl) (fun _ _ _ h => h) (Or.inl ⟨by rfl, ?_⟩) (by assumption) ?_
    rotate_left
    · intro w hSw
      (try dsimp only at hSw)
      go_simp
      first | done | with_reducible rfl
    try simp only [Act.put, List.getElem_toArray, List.getElem_cons_succ, List.getElem_cons_zero, List.setIfInBounds_toArray, List.set_cons_zero, List.set_cons_succ]
    refine wpAnyH_take (i := 25) (v := ?_) rfl (by kernel_rfl) (by kernel_rfl) (by kernel_rfl) (fun _ _ _ h => h) (Or.inl ⟨by rfl, ?_⟩) (by assumption) ?_
    rotate_left
    · intro w hSw
      (try dsimp only at hSw)
      go_simp
      first | done | with_reducible rfl
    try simp only [Act.put, List.getElem_toArray, List.getElem_cons_succ, List.getElem_cons_zero, List.setIfInBounds_toArray, List.set_cons_zero, List.set_cons_succ]
    refine wpAnyH_take (i := 27) (v := ?_) rfl (by kernel_rfl) (by kernel_rfl) (by kernel_rfl) (fun _ _ _ h => h) (Or.inl ⟨by rfl, ?_⟩) (by assumption) ?_
    rotate_left
    · intro w hSw
      (try dsimp only at hSw)
      go_simp
      first | done | with_reducible rfl
    try simp only [Act.put, List.getElem_toArray, List.getElem_cons_succ, List.getElem_cons_zero, List.setIfInBounds_toArray, List.set_cons_zero, List.set_cons_succ]
    refine wpAnyH_ready (rs := [26]) (by kernel_rfl) (by simp) ?_
    refine AllReadyH.cons rfl (fun K hK => ?_) AllReadyH.nil
    go_simp
    have hD7 := hD6'.out.below hb67
    refine (sure_any g P6 _ nW w7 hD7 (by decide)).mono ?_; rintro e w8 ⟨rfl, hb8⟩
    rw [show ((getE (wD (xs.take n) n false false).fs nW.data.toList).getD ([], 0)).2 = n from rfl]
    have hb68 := bel hb67 hb8
    refine hK.out _ _ ?_ (fun r2 => ?_)
    · exact ⟨HHX.out.1.keep hb68, HHX.out.2.keep hb68⟩
    try simp only [Act.put, List.getElem_toArray, List.getElem_cons_succ, List.getElem_cons_zero, List.setIfInBounds_toArray, List.set_cons_zero, List.set_cons_succ]
    refine wpAnyH_take (i := 28) (v := ?_) rfl (by kernel_rfl) (by kernel_rfl) (by kernel_rfl) (fun _ _ _ h => h) (Or.inl ⟨by rfl, ?_⟩) (by assumption) ?_
    rotate_left
    · intro w hSw
      (try dsimp only at hSw)
      go_simp
      first | done | with_reducible rfl
    try simp only [Act.put, List.getElem_toArray, List.getElem_cons_succ, List.getElem_cons_zero, List.setIfInBounds_toArray, List.set_cons_zero, List.set_cons_succ]
    refine wpAnyH_take (i := 29) (v := ?_) rfl (by kernel_rfl) (by kernel_rfl) (by kernel_rfl) (fun _ _ _ h => h) (Or.inl ⟨by rfl, ?_⟩) (by assumption) ?_
    rotate_left
    · intro w hSw
      (try dsimp only at hSw)
      go_simp
      first | done | with_reducible rfl
    try simp only [Act.put, List.getElem_toArray, List.getElem_cons_succ, List.getElem_cons_zero, List.setIfInBounds_toArray, List.set_cons_zero, List.set_cons_succ]
    refine wpAnyH_take (i := 30) (v := ?_) rfl (by kernel_rfl) (by kernel_rfl) (by kernel_rfl) (fun _ _ _ h => h) (Or.inl ⟨by rfl, ?_⟩) (by assumption) ?_
    rotate_left
    · intro w hSw
      (try dsimp only at hSw)
      go_simp
      first | done | with_reducible rfl
    try simp only [Act.put, List.getElem_toArray, List.getElem_cons_succ, List.getElem_cons_zero, List.setIfInBounds_toArray, List.set_cons_zero, List.set_cons_succ]
    refine wpAnyH_take (i := 31) (v := ?_) rfl (by kernel_rfl) (by kernel_rfl) (by kernel_rfl) (fun _ _ _ h => h) (Or.inl ⟨by rfl, ?_⟩) (by assumption) ?_
    rotate_left
    · intro w hSw
      (try dsimp only at hSw)
      go_simp
      first | done | with_reducible rfl
    try simp only [Act.put, List.getElem_toArray, List.getElem_cons_succ, List.getElem_cons_zero, List.setIfInBounds_toArray, List.set_cons_zero, List.set_cons_succ]
    refine wpAnyH_take (i := 32) (v := ?_) rfl (by kernel_rfl) (by kernel_rfl) (by kernel_rfl) (fun _ _ _ h => h) (Or.inl ⟨by rfl, ?_⟩) (by assumption) ?_
    rotate_left
    · intro w hSw
      (try dsimp only at hSw)
      go_simp
      first | done | with_reducible rfl
    try simp only [Act.put, List.getElem_toArray, List.getElem_cons_succ, List.getElem_cons_zero, List.setIfInBounds_toArray, List.set_cons_zero, List.set_cons_succ]
    refine wpAnyH_ready (rs := [33]) (by kernel_rfl) (by simp) ?_
    refine AllReadyH.cons rfl (fun K hK => ?_) AllReadyH.nil
    go_simp
    have hrow68 := (HR6.out w6 (Touch.refl _ _)).sees
    refine (same7_any v6 v4 ls w8 (hrow68.keep hb68) (HR3.out.2.keep hb68) hlb).mono ?_; rintro e w9 ⟨rfl, m9, hw9⟩
    have hb89 : Below w8.heap.size w8 w9 := by rw [hw9]; exact ⟨rfl, rfl, rfl, Nat.le_refl _, fun _ _ => rfl⟩
    have hb69 := bel hb68 hb89
    clear hw9
    refine hK.out _ _ ?_ (fun r3 => ?_)
    · exact ⟨HHX.out.1.keep hb69, HHX.out.2.keep hb69⟩
    try simp only [Act.put, List.getElem_toArray, List.getElem_cons_succ, List.getElem_cons_zero, List.setIfInBounds_toArray, List.set_cons_zero, List.set_cons_succ]
    refine wpAnyH_take (i := 34) (v := ?_) rfl (by kernel_rfl) (by kernel_rfl) (by kernel_rfl) (fun _ _ _ h => h) (Or.inl ⟨by rfl, ?_⟩) (by assumption) ?_
    rotate_left
    · intro w hSw
      (try dsimp only at hSw)
      go_simp
      first | done | with_reducible rfl
    try simp only [Act.put, List.getElem_toArray, List.getElem_cons_succ, List.getElem_cons_zero, List.setIfInBounds_toArray, List.set_cons_zero, List.set_cons_succ]
    refine wpAnyH_take (i := 35) (v := ?_) rfl (by kernel_rfl) (by kernel_rfl) (by kernel_rfl) (fun _ _ _ h => h) (Or.inl ⟨by rfl, ?_⟩) (by assumption) ?_
    rotate_left
    · intro w hSw
      (try dsimp only at hSw)
      go_simp
      first | done | with_reducible rfl
    try simp only [Act.put, List.getElem_toArray, List.getElem_cons_succ, List.getElem_cons_zero, List.setIfInBounds_toArray, List.set_cons_zero, List.set_cons_succ]
    refine wpAnyH_ready (rs := [36]) (by kernel_rfl) (by simp) ?_
    refine AllReadyH.cons rfl (fun K hK => ?_) AllReadyH.nil
    go_simp
    refine (awake7_any w9 (HE6.out.below hb69)).mono ?_; rintro e wa ⟨rfl, hba⟩
    have hb6a := bel hb69 hba
    refine hK.out _ _ ?_ (fun r4 => ?_)
    · exact ⟨HHX.out.1.keep hb6a, HHX.out.2.keep hb6a⟩
    try simp only [Act.put, List.getElem_toArray, List.getElem_cons_succ, List.getElem_cons_zero, List.setIfInBounds_toArray, List.set_cons_zero, List.set_cons_succ]
    refine wpAnyH_take (i := 37) (v := ?_) rfl (by kernel_rfl) (by kernel_rfl) (by kernel_rfl) (fun _ _ _ h => h) (Or.inl ⟨by rfl, ?_⟩) (by assumption) ?_
    rotate_left
    · intro w hSw
      (try dsimp only at hSw)
      go_simp
      first | done | with_reducible rfl
    try simp only [Act.put, List.getElem_toArray, List.getElem_cons_succ, List.getElem_cons_zero, List.setIfInBounds_toArray, List.set_cons_zero, List.set_cons_succ]
    refine wpAnyH_take (i := 38) (v := ?_) rfl (by kernel_rfl) (by kernel_rfl) (by kernel_rfl) (fun _ _ _ h => h) (Or.inl ⟨by rfl, ?_⟩) (by assumption) ?_
    rotate_left
    · intro w hSw
      (try dsimp only at hSw)
      go_simp
      first | done | with_reducible rfl
    try simp only [Act.put, List.getElem_toArray, List.getElem_cons_succ, List.getElem_cons_zero, List.setIfInBounds_toArray, List.set_cons_zero, List.set_cons_succ]
    refine wpAnyH_done (by kernel_rfl) ?_ _
    go_wp2_with fail
    go_ret
    exact ⟨rfl, bel HB6.out hb6a⟩
end Go.Proofs.YtkjdfelmjanpcaaDoor
