/- The walk of KvLists. Made by g_kvlists.py. -/
import Derived.Test.YtogcjginifcbpaaKvInv
namespace Go.Proofs.Ytogcjginifcbpaa
open Go.RowKit Go.Maps
theorem beginB (s k : ByteArray) : Lib.hasPrefix (kl k) (kl s) = (decide (s.size ≤ k.size) && ((k.extract 0 s.size).toList == s.toList)) := by
  unfold Lib.hasPrefix
  rw [ByteArray.toList_eq, ByteArray.toList_eq, ByteArray.data_extract, Array.toList_extract]
  have h1 := kl_len s
  have h2 := kl_len k
  unfold kl at h1 h2 ⊢
  simp only [List.extract_eq_take_drop, List.drop_zero, Nat.sub_zero]
  rw [← h1, ← h2]
  generalize s.data.toList = a
  generalize k.data.toList = b
  rw [Bool.eq_iff_iff]
  simp only [List.isPrefixOf_iff_prefix, Bool.and_eq_true, decide_eq_true_eq, beq_iff_eq]
  constructor
  · intro h
    exact ⟨h.length_le, (List.prefix_iff_eq_take.1 h).symm⟩
  · rintro ⟨_, h⟩
    exact List.prefix_iff_eq_take.2 h.symm
abbrev op2 : KOp := ⟨2, emp, emp, 0, emp, 0⟩
set_option maxRecDepth 100000 in
set_option maxHeartbeats 8000000 in
theorem lawKvLists (w : World) (v : Value) (os : List KOp) (wi : ByteArray) (h : ArgOps9 w v os) (hwi : wi.size ≤ maxLen) : Calls Try.prog 9 #[v, .string wi] w fun e w' => e = .returned (.bool true) ∧ Below w.heap.size w w' := by
  obtain ⟨⟨ao, c, rfl, hlc, hnil, hc⟩, hok, hlm⟩ := h
  have HC := Lib.hid (And.intro hnil (And.intro hc hok))
  have HWI := Lib.hid hwi
  clear hnil hc hok hwi
  go_enter Try.func9, Try.ntmps9
  go_wp2_with (first
    | (go_at_call 15; refine (new_step w w (Below.refl _ _)).mono ?_; rintro e w1 ⟨g, rfl, hk1, -⟩)
    | go_in)
  go_loopw [17] (fun j wr => ∃ (i : Nat) (S : KSt) (P : Nat → Prop), i ≤ os.length ∧ j = .int .i64 i ∧ KvW w wr g P S ∧ KInv S (min i 15)) (fun j _ => os.length - (intOf j).toNat)
  case atStart => exact ⟨0, ⟨0, []⟩, _, Nat.zero_le _, rfl, hk1, KInv.zero⟩
  case round =>
    obtain ⟨i, S, P, hi, rfl, hk, hinv⟩ := hrel
    by_cases hlt : i < os.length
    · obtain ⟨a, rfl⟩ : ∃ a, ao = some a := by
        cases ao with
        | none => rw [HC.out.1 rfl] at hlt; simp at hlt
        | some a => exact ⟨a, rfl⟩
      have hop := HC.out.2.1 a rfl i hlt
      have hokx := HC.out.2.2 (os.getD i default) (by rw [List.getD_eq_getElem?_getD, List.getElem?_eq_getElem hlt]; exact List.getElem_mem hlt)
      generalize os.getD i default = o at hop hokx
      obtain ⟨q0, q1, q2, q3, q4, q5⟩ := hop
      have q0 := bcell hk.2.2 q0
      have q1 := off1 (bcell hk.2.2 q1)
      have q2 := off2 (bcell hk.2.2 q2)
      have q3 := off3 (bcell hk.2.2 q3)
      have q4 := off4 (bcell hk.2.2 q4)
      have q5 := off5 (bcell hk.2.2 q5)
      have b0 : (0 : Int) ≤ (i : Int) := by omega
      have b1 : (i : Int) < (os.length : Int) := by omega
      have HLT := Lib.hid hlt
      have hlm2 : os.length ≤ 9223372036854775807 := by unfold maxLen at hlm; omega
      by_cases h15 : i < 15
      · have d1 : decide ((i : Int) < 15) = true := by simp; omega
        have hin : KInv S i := by rwa [Nat.min_eq_left (by omega)] at hinv
        have HO := Lib.hid (ours_any o)
        have hk1 : (ours o).key.size ≤ maxLen := Nat.le_trans (cutB_le _ _) (by decide)
        have hk2 : (ours o).iff.size ≤ maxLen := hokx.2.2
        have HX := Lib.hid (And.intro hk1 (And.intro hk2 (And.intro hin hk)))
        clear hk1 hk2 hin hk hinv hokx
        generalize ours o = x at HO HX
        go_wp2_with (first
          | (go_at_call 16; refine (HO.out _).mono ?_; rintro e w2 ⟨rfl, hb2⟩)
          | (go_at_call 21; refine (do_step x (HX.out.2.2.2.below (belAlloc (belAlloc (bel (belNew _ (opR o)) hb2) (opO x)) (opR x))) HX.out.1 HX.out.2.1 HX.out.2.2.1.1 (by have := HX.out.2.2.1.2.2.2.1; omega) (by have := HX.out.2.2.1.2.1; have := HX.out.2.2.1.2.2.1; omega)).mono ?_; rintro e w4 ⟨ao4, c4, P4, rfl, -, hk4, -⟩)
          | go_in)
        go_roundw
        case rel => exact ⟨i + 1, _, P4, by omega, by go_num, hk4, by rw [Nat.min_eq_left (by omega)]; exact doK_inv HX.out.2.2.1 x⟩
        case measure => simp [intOf]; omega
      · have d1 : decide ((i : Int) < 15) = false := by simp; omega
        have HX := Lib.hid (And.intro hk hinv)
        clear hk hinv hokx
        go_wp2_with fail
        go_roundw
        case rel => exact ⟨i + 1, S, P, HLT.out, by go_num, HX.out.1.below (belNew _ _), by rw [Nat.min_eq_right (by omega)]; have := HX.out.2; rwa [Nat.min_eq_right (by omega)] at this⟩
        case measure => have := HLT.out; simp [intOf]; omega
    · obtain rfl : i = os.length := by omega
      have hin : KInv S 15 := by
        obtain ⟨i1, i2, i3, i4, i5⟩ := hinv
        exact ⟨i1, i2, by omega, by omega, i5⟩
      have hD := do_step ⟨2, wi, emp, 0, emp, 0⟩ hk HWI.out (by show (0 : Nat) ≤ maxLen; exact Nat.zero_le _) hin.1 (by have := hin.2.2.2.1; omega) (by have := hin.2.1; have := hin.2.2.1; omega)
      rw [doK_list S _ rfl] at hD
      have HD := Lib.hid hD
      have HX := Lib.hid (And.intro hk hin)
      clear hD hk hin hinv
      go_upto_region 10 with (first
        | (go_at_call 21; refine HD.out.mono ?_; rintro e w2 ⟨ao2, c2, P2, rfl, hrow2, hk2, hnp2, hkeep2, hz2, hP2⟩)
        | go_in)
      obtain ⟨w3, hw3⟩ : ∃ w3, w3 = w2.alloc (resO 0 S.rev emp (.slice ao2 (beginL S.L wi).length c2)) := ⟨_, rfl⟩
      have hk3 : KvW w w3 g P2 S := by rw [hw3]; exact hk2.below (belNew w2 _)
      have hr3 : w3.heap[w2.heap.size]? = some (resO 0 S.rev emp (.slice ao2 (beginL S.L wi).length c2)) := by rw [hw3]; exact heap_alloc_new w2 _
      have hrow3 := row_keep hrow2 (belNew w2 (resO 0 S.rev emp (.slice ao2 (beginL S.L wi).length c2)))
      rw [← hw3] at hrow3 ⊢
      have hnr : ¬ P2 w2.heap.size := fun h => Nat.lt_irrefl _ (hk2.1.own _ h)
      have HA := Lib.hid (all_any g P2 S w3 hk3.1 HX.out.2.1 (by have := HX.out.2.2.2.2.1; omega))
      have H3 := Lib.hid (And.intro hk3 (And.intro hr3 (And.intro hrow3.sees hnr)))
      clear hw3 hk3 hr3 hrow3 hrow2 hk2 hnp2 hkeep2 hz2 hP2 hnr HD
      go_wp2_with (first
        | (go_at_call 25; refine HA.out.mono ?_; rintro e w4 ⟨v4, rfl, hrow4, hb4⟩; obtain ⟨ao4, c4, rfl, hlc4, hnil4, hc4⟩ := RowE.sees hrow4)
        | go_in)
      have hz4 := hb4.size
      obtain ⟨hk3, hr3, hs3, hnr⟩ := H3.out
      have hk4 := hk3.below hb4
      have hr4 := (hb4.block _ (heap_lt hr3)).trans hr3
      obtain ⟨ao5, c5, he5, hlc5, hnil5, hc5⟩ := hs3.below hb4
      obtain ⟨rfl, rfl⟩ : ao5 = ao2 ∧ c5 = c2 := by injection he5 with e1 e2 e3; exact ⟨e1.symm, e3.symm⟩
      have HN4 := Lib.hid (And.intro hnil4 hc4)
      have HN5 := Lib.hid (And.intro hnil5 hc5)
      have H4 := Lib.hid (And.intro hk4 (And.intro hr4 hnr))
      clear hnil4 hc4 hnil5 hc5 hk4 hr4 hnr hk3 hr3 hs3 he5 hrow4 hb4 hz4
      go_loopw [11, 40] (fun n j wr => ∃ i : Nat, i ≤ S.L.length ∧ j = .int .i64 i ∧ n = .int .i64 ((S.L.take i).filter (fun p => begins wi p.1)).length ∧ Below w4.heap.size w4 wr) (fun _ j _ => S.L.length - (intOf j).toNat)
      case atStart => exact ⟨0, Nat.zero_le _, rfl, rfl, Below.refl _ _⟩
      case round =>
        obtain ⟨i, hi, rfl, rfl, hB⟩ := hrel
        by_cases hlt : i < S.L.length
        · obtain ⟨a, rfl⟩ : ∃ a, ao4 = some a := by
            cases ao4 with
            | none => rw [HN4.out.1 rfl] at hlt; simp at hlt
            | some a => exact ⟨a, rfl⟩
          obtain ⟨p, hget⟩ : ∃ p, S.L[i]? = some p := ⟨_, List.getElem?_eq_getElem hlt⟩
          obtain ⟨q0, q1, q2⟩ := HN4.out.2 a rfl i p hget
          have q0 := bcell hB q0
          have q1 := off1 (bcell hB q1)
          have q2 := off2 (bcell hB q2)
          have b0 : (0 : Int) ≤ (i : Int) := by omega
          have b1 : (i : Int) < (S.L.length : Int) := by omega
          have hbg : begins wi p.1 = (decide (wi.size ≤ (⟨p.1.toArray⟩ : ByteArray).size) && (((⟨p.1.toArray⟩ : ByteArray).extract 0 wi.size).toList == wi.toList)) := beginB wi ⟨p.1.toArray⟩
          have hfa := filter_at (fun p : KEnt => begins wi p.1) S.L i p hget
          have htk : S.L.take (i + 1) = S.L.take i ++ [p] := by rw [List.take_add_one, hget]; rfl
          have HTK : Hid (begins wi p.1 = true → ((S.L.take (i + 1)).filter (fun p => begins wi p.1)).length = ((S.L.take i).filter (fun p => begins wi p.1)).length + 1) := Lib.hid (fun h => by rw [htk, List.filter_append, List.filter_cons_of_pos (by exact h), List.filter_nil, List.length_append]; rfl)
          have HTK0 : Hid (begins wi p.1 = false → ((S.L.take (i + 1)).filter (fun p => begins wi p.1)).length = ((S.L.take i).filter (fun p => begins wi p.1)).length) := Lib.hid (fun h => by rw [htk, List.filter_append, List.filter_cons_of_neg (by simp [h]), List.filter_nil, List.append_nil])
          have HFA := Lib.hid hfa
          have HBG := Lib.hid hbg
          have hle : ((S.L.take i).filter (fun p => begins wi p.1)).length ≤ 15 := Nat.le_trans (List.length_filter_le _ _) (by rw [List.length_take]; have := HX.out.2.2.2.2.1; omega)
          generalize hNN : ((S.L.take i).filter (fun p => begins wi p.1)).length = N at HTK HTK0 HFA hle
          clear hbg hfa htk hNN hget
          have hsz0 : (0 : Int) ≤ (wi.size : Int) := by omega
          have hl15 : S.L.length ≤ 15 := HX.out.2.2.2.2.1
          have HLk := Lib.hid hlt
          have hsz : (⟨p.1.toArray⟩ : ByteArray).size = p.1.length := by simp [ByteArray.size]
          by_cases hlen : wi.size ≤ (⟨p.1.toArray⟩ : ByteArray).size
          · have d1 : decide ((wi.size : Int) ≤ ((⟨p.1.toArray⟩ : ByteArray).size : Int)) = true := by simp; omega
            have d1b : (wi.size : Int) ≤ ((⟨p.1.toArray⟩ : ByteArray).size : Int) := by omega
            have d1c : wi.size ≤ p.1.length := by omega
            have d1d : (wi.size : Int) ≤ (p.1.length : Int) := by omega
            cases hpx : ((⟨p.1.toArray⟩ : ByteArray).extract 0 wi.size).toList == wi.toList with
            | true =>
              have hpx2 : ((⟨p.1.toArray⟩ : ByteArray).extract 0 wi.size).toList = wi.toList := by simpa using hpx
              have hbt : begins wi p.1 = true := by rw [HBG.out, hpx]; simp; exact hlen
              have hat := HFA.out hbt
              have hNl : N < (beginL S.L wi).length := (List.getElem?_eq_some_iff.1 hat).1
              obtain ⟨a5, ha5⟩ : ∃ a5, ao5 = some a5 := by
                cases hao : ao5 with
                | none => rw [HN5.out.1 hao] at hNl; simp at hNl
                | some a5 => exact ⟨a5, rfl⟩
              subst ha5
              obtain ⟨r0, r1, r2⟩ := HN5.out.2 a5 rfl N p hat
              have r0 := bcell hB r0
              have r1 := off1 (bcell hB r1)
              have r2 := off2 (bcell hB r2)
              have c0 : (0 : Int) ≤ (N : Int) := by omega
              have c1 : (N : Int) < ((beginL S.L wi).length : Int) := by omega
              have d2 : decide (((beginL S.L wi).length : Int) ≤ (N : Int)) = false := by simp; omega
              have d2n : ¬ (beginL S.L wi).length ≤ N := by omega
              have s1 : IntKind.i64.wrap ((N : Int) + 1) = (N : Int) + 1 := IntWalk.i64_in _ (by omega)
              have hr := (hB.block _ (heap_lt H4.out.2.1)).trans H4.out.2.1
              obtain ⟨t0, t1, t2, t3, -⟩ := four hr
              have hne : ∀ w, (binOp .neq 73 (.agg #[.string ⟨p.1.toArray⟩, .string p.2.1, .int .i64 p.2.2]) (.agg #[.string ⟨p.1.toArray⟩, .string p.2.1, .int .i64 p.2.2])).run Try.prog w = .ok (.bool false) w := fun w => by rw [neItem]; simp
              have hNx := HTK.out hbt
              have HNX := Lib.hid hNx
              clear hNx hat hbt hr hlen
              go_upto_region 15 with fail
              have hx1 := heap_alloc_new wr (.cells #[.string ⟨p.1.toArray⟩, .string p.2.1, .int .i64 p.2.2] 73)
              obtain ⟨wx, hwx⟩ : ∃ wx, wx = wr.alloc (.cells #[.string ⟨p.1.toArray⟩, .string p.2.1, .int .i64 p.2.2] 73) := ⟨_, rfl⟩
              have hbx : Below wr.heap.size wr wx := by rw [hwx]; exact belNew _ _
              rw [← hwx] at hx1 ⊢
              obtain ⟨x0, x1, x2⟩ := rcells hx1
              have r0 := bcell hbx r0
              have r1 := bcell hbx r1
              have r2 := bcell hbx r2
              have t3 := bcell hbx t3
              have HBX := Lib.hid (bel hB hbx)
              clear hwx hbx hx1 t0 t1 t2 q0 q1 q2 hpx hpx2
              refine wp_region_held_drew (S := (fun W => Below wx.heap.size wx W)) (by kernel_rfl) ?_ (fun rr0 => ?_)
              · exact ⟨rfl, rfl, rfl, Nat.le_refl _, fun _ _ => rfl⟩
              refine wpAnyH_take (i := 0) (v := ?_) rfl (by kernel_rfl) (by kernel_rfl) (by kernel_rfl) (fun _ _ _ h => h) (Or.inl ⟨by rfl, ?_⟩) (by assumption) ?_
              rotate_left
              · intro wS hSw
                (try dsimp only at hSw)
                go_simp
                first | done | with_reducible rfl
              try simp only [Act.put, List.getElem_toArray, List.getElem_cons_zero, List.setIfInBounds_toArray, List.set_cons_zero, List.set_cons_succ]
              refine wpAnyH_take (i := 1) (v := ?_) rfl (by kernel_rfl) (by kernel_rfl) (by kernel_rfl) (fun _ _ _ h => h) (Or.inl ⟨by rfl, ?_⟩) (by assumption) ?_
              rotate_left
              · intro wS hSw
                (try dsimp only at hSw)
                go_simp
                first | done | with_reducible rfl
              try simp only [Act.put, List.getElem_toArray, List.getElem_cons_succ, List.getElem_cons_zero, List.setIfInBounds_toArray, List.set_cons_zero, List.set_cons_succ]
              refine wpAnyH_take (i := 2) (v := ?_) rfl (by kernel_rfl) (by kernel_rfl) (by kernel_rfl) (fun _ _ _ h => h) (Or.inl ⟨by rfl, ?_⟩) (by assumption) ?_
              rotate_left
              · intro wS hSw
                (try dsimp only at hSw)
                have r0 := bcell hSw r0
                have r1 := bcell hSw r1
                have r2 := bcell hSw r2
                have t3 := bcell hSw t3
                have x0 := bcell hSw x0
                have x1 := bcell hSw x1
                have x2 := bcell hSw x2
                go_simp
                first | done | with_reducible rfl
              try simp only [Act.put, List.getElem_toArray, List.getElem_cons_succ, List.getElem_cons_zero, List.setIfInBounds_toArray, List.set_cons_zero, List.set_cons_succ]
              refine wpAnyH_take (i := 3) (v := ?_) rfl (by kernel_rfl) (by kernel_rfl) (by kernel_rfl) (fun _ _ _ h => h) (Or.inl ⟨by rfl, ?_⟩) (by assumption) ?_
              rotate_left
              · intro wS hSw
                (try dsimp only at hSw)
                go_simp
                first | done | with_reducible rfl
              try simp only [Act.put, List.getElem_toArray, List.getElem_cons_succ, List.getElem_cons_zero, List.setIfInBounds_toArray, List.set_cons_zero, List.set_cons_succ]
              refine wpAnyH_take (i := 4) (v := ?_) rfl (by kernel_rfl) (by kernel_rfl) (by kernel_rfl) (fun _ _ _ h => h) (Or.inl ⟨by rfl, ?_⟩) (by assumption) ?_
              rotate_left
              · intro wS hSw
                (try dsimp only at hSw)
                go_simp
                first | done | with_reducible rfl
              try simp only [Act.put, List.getElem_toArray, List.getElem_cons_succ, List.getElem_cons_zero, List.setIfInBounds_toArray, List.set_cons_zero, List.set_cons_succ]
              refine wpAnyH_take (i := 5) (v := ?_) rfl (by kernel_rfl) (by kernel_rfl) (by kernel_rfl) (fun _ _ _ h => h) (Or.inl ⟨by rfl, ?_⟩) (by assumption) ?_
              rotate_left
              · intro wS hSw
                (try dsimp only at hSw)
                go_simp
                first | done | with_reducible rfl
              try simp only [Act.put, List.getElem_toArray, List.getElem_cons_succ, List.getElem_cons_zero, List.setIfInBounds_toArray, List.set_cons_zero, List.set_cons_succ]
              refine wpAnyH_take (i := 6) (v := ?_) rfl (by kernel_rfl) (by kernel_rfl) (by kernel_rfl) (fun _ _ _ h => h) (Or.inl ⟨by rfl, ?_⟩) (by assumption) ?_
              rotate_left
              · intro wS hSw
                (try dsimp only at hSw)
                go_simp
                first | done | with_reducible rfl
              try simp only [Act.put, List.getElem_toArray, List.getElem_cons_succ, List.getElem_cons_zero, List.setIfInBounds_toArray, List.set_cons_zero, List.set_cons_succ]
              refine wpAnyH_take (i := 7) (v := ?_) rfl (by kernel_rfl) (by kernel_rfl) (by kernel_rfl) (fun _ _ _ h => h) (Or.inl ⟨by rfl, ?_⟩) (by assumption) ?_
              rotate_left
              · intro wS hSw
                (try dsimp only at hSw)
                have r0 := bcell hSw r0
                have r1 := bcell hSw r1
                have r2 := bcell hSw r2
                have t3 := bcell hSw t3
                have x0 := bcell hSw x0
                have x1 := bcell hSw x1
                have x2 := bcell hSw x2
                go_simp
                first | done | with_reducible rfl
              try simp only [Act.put, List.getElem_toArray, List.getElem_cons_succ, List.getElem_cons_zero, List.setIfInBounds_toArray, List.set_cons_zero, List.set_cons_succ]
              refine wpAnyH_take (i := 8) (v := ?_) rfl (by kernel_rfl) (by kernel_rfl) (by kernel_rfl) (fun _ _ _ h => h) (Or.inl ⟨by rfl, ?_⟩) (by assumption) ?_
              rotate_left
              · intro wS hSw
                (try dsimp only at hSw)
                go_simp
                first | done | with_reducible rfl
              try simp only [Act.put, List.getElem_toArray, List.getElem_cons_succ, List.getElem_cons_zero, List.setIfInBounds_toArray, List.set_cons_zero, List.set_cons_succ]
              refine wpAnyH_take (i := 9) (v := ?_) rfl (by kernel_rfl) (by kernel_rfl) (by kernel_rfl) (fun _ _ _ h => h) (Or.inl ⟨by rfl, ?_⟩) (by assumption) ?_
              rotate_left
              · intro wS hSw
                (try dsimp only at hSw)
                go_simp
                first | done | with_reducible rfl
              try simp only [Act.put, List.getElem_toArray, List.getElem_cons_succ, List.getElem_cons_zero, List.setIfInBounds_toArray, List.set_cons_zero, List.set_cons_succ]
              refine wpAnyH_take (i := 10) (v := ?_) rfl (by kernel_rfl) (by kernel_rfl) (by kernel_rfl) (fun _ _ _ h => h) (Or.inl ⟨by rfl, ?_⟩) (by assumption) ?_
              rotate_left
              · intro wS hSw
                (try dsimp only at hSw)
                have r0 := bcell hSw r0
                have r1 := bcell hSw r1
                have r2 := bcell hSw r2
                have t3 := bcell hSw t3
                have x0 := bcell hSw x0
                have x1 := bcell hSw x1
                have x2 := bcell hSw x2
                go_simp
                first | done | with_reducible rfl
              try simp only [Act.put, List.getElem_toArray, List.getElem_cons_succ, List.getElem_cons_zero, List.setIfInBounds_toArray, List.set_cons_zero, List.set_cons_succ]
              refine wpAnyH_take (i := 11) (v := ?_) rfl (by kernel_rfl) (by kernel_rfl) (by kernel_rfl) (fun _ _ _ h => h) (Or.inl ⟨by rfl, ?_⟩) (by assumption) ?_
              rotate_left
              · intro wS hSw
                (try dsimp only at hSw)
                have r0 := bcell hSw r0
                have r1 := bcell hSw r1
                have r2 := bcell hSw r2
                have t3 := bcell hSw t3
                have x0 := bcell hSw x0
                have x1 := bcell hSw x1
                have x2 := bcell hSw x2
                go_simp
                first | done | with_reducible rfl
              try simp only [Act.put, List.getElem_toArray, List.getElem_cons_succ, List.getElem_cons_zero, List.setIfInBounds_toArray, List.set_cons_zero, List.set_cons_succ]
              refine wpAnyH_take (i := 12) (v := ?_) rfl (by kernel_rfl) (by kernel_rfl) (by kernel_rfl) (fun _ _ _ h => h) (Or.inl ⟨by rfl, ?_⟩) (by assumption) ?_
              rotate_left
              · intro wS hSw
                (try dsimp only at hSw)
                go_simp
                first | done | with_reducible rfl
              try simp only [Act.put, List.getElem_toArray, List.getElem_cons_succ, List.getElem_cons_zero, List.setIfInBounds_toArray, List.set_cons_zero, List.set_cons_succ]
              refine wpAnyH_take (i := 13) (v := ?_) rfl (by kernel_rfl) (by kernel_rfl) (by kernel_rfl) (fun _ _ _ h => h) (Or.inl ⟨by rfl, ?_⟩) (by assumption) ?_
              rotate_left
              · intro wS hSw
                (try dsimp only at hSw)
                go_simp
                first | done | with_reducible rfl
              try simp only [Act.put, List.getElem_toArray, List.getElem_cons_succ, List.getElem_cons_zero, List.setIfInBounds_toArray, List.set_cons_zero, List.set_cons_succ]
              refine wpAnyH_done (by kernel_rfl) ?_ _
              go_wp2_with fail
              go_roundw
              case rel => exact ⟨i + 1, HLk.out, by go_num, by rw [HNX.out]; go_num, bdrew HBX.out⟩
              case measure => have := HLk.out; simp [intOf]; omega
            | false =>
              have hpx2 : ¬ ((⟨p.1.toArray⟩ : ByteArray).extract 0 wi.size).toList = wi.toList := by simpa using hpx
              have hbt : begins wi p.1 = false := by rw [HBG.out, hpx]; simp
              have HNX := Lib.hid (HTK0.out hbt)
              clear hbt
              go_wp2_with fail
              go_roundw
              case rel => exact ⟨i + 1, HLk.out, by go_num, by rw [HNX.out], belAlloc hB _⟩
              case measure => have := HLk.out; simp [intOf]; omega
          · have d1 : decide ((wi.size : Int) ≤ ((⟨p.1.toArray⟩ : ByteArray).size : Int)) = false := by simp; omega
            have d1c : ¬ wi.size ≤ p.1.length := by omega
            have hbt : begins wi p.1 = false := by rw [HBG.out]; simp; intro h; exact absurd h hlen
            have HNX := Lib.hid (HTK0.out hbt)
            clear hbt
            go_wp2_with fail
            go_roundw
            case rel => exact ⟨i + 1, HLk.out, by go_num, by rw [HNX.out], belAlloc hB _⟩
            case measure => simp [intOf]; omega
        · obtain rfl : i = S.L.length := by omega
          rw [List.take_length]
          have hr := (hB.block _ (heap_lt H4.out.2.1)).trans H4.out.2.1
          have hk5 := H4.out.1.below hB
          obtain ⟨t0, t1, t2, t3, -⟩ := four hr
          have HR := Lib.hid hr
          have HK := Lib.hid hk5
          have hnn : (((S.L.filter (fun p => begins wi p.1)).length : Int) == ((beginL S.L wi).length : Int)) = true := by simp [beginL]
          have HIN := Lib.hid HX.out.2
          generalize (S.L.filter (fun p => begins wi p.1)).length = N at hnn
          clear hr hk5 HX
          go_upto_region 19 with fail
          refine wp_region_held_drew (S := (fun W => W.heap[w2.heap.size]? = some (resO 0 S.rev emp (.slice ao5 (beginL S.L wi).length c5)))) (by kernel_rfl) ?_ (fun rr0 => ?_)
          · exact HR.out
          obtain ⟨wd, hwd⟩ : ∃ wd, wd = wr.drew := ⟨_, rfl⟩
          rw [← hwd] at rr0 ⊢
          have hkd : KvW w wd g P2 S := by rw [hwd]; exact HK.out.below (bdrew (Below.refl _ _))
          clear hwd t0 t1 t2 t3
          refine wpAnyH_take (i := 0) (v := ?_) rfl (by kernel_rfl) (by kernel_rfl) (by kernel_rfl) (fun _ _ _ h => h) (Or.inl ⟨by rfl, ?_⟩) (by assumption) ?_
          rotate_left
          · intro wS hSw
            (try dsimp only at hSw)
            go_simp
            first | done | with_reducible rfl
          try simp only [Act.put, List.getElem_toArray, List.getElem_cons_zero, List.setIfInBounds_toArray, List.set_cons_zero, List.set_cons_succ]
          refine wpAnyH_take (i := 1) (v := ?_) rfl (by kernel_rfl) (by kernel_rfl) (by kernel_rfl) (fun _ _ _ h => h) (Or.inl ⟨by rfl, ?_⟩) (by assumption) ?_
          rotate_left
          · intro wS hSw
            (try dsimp only at hSw)
            obtain ⟨t0, t1, t2, t3, -⟩ := four hSw
            go_simp
            first | done | with_reducible rfl
          try simp only [Act.put, List.getElem_toArray, List.getElem_cons_succ, List.getElem_cons_zero, List.setIfInBounds_toArray, List.set_cons_zero, List.set_cons_succ]
          refine wpAnyH_take (i := 2) (v := ?_) rfl (by kernel_rfl) (by kernel_rfl) (by kernel_rfl) (fun _ _ _ h => h) (Or.inl ⟨by rfl, ?_⟩) (by assumption) ?_
          rotate_left
          · intro wS hSw
            (try dsimp only at hSw)
            go_simp
            first | done | with_reducible rfl
          try simp only [Act.put, List.getElem_toArray, List.getElem_cons_succ, List.getElem_cons_zero, List.setIfInBounds_toArray, List.set_cons_zero, List.set_cons_succ]
          refine wpAnyH_take (i := 3) (v := ?_) rfl (by kernel_rfl) (by kernel_rfl) (by kernel_rfl) (fun _ _ _ h => h) (Or.inl ⟨by rfl, ?_⟩) (by assumption) ?_
          rotate_left
          · intro wS hSw
            (try dsimp only at hSw)
            go_simp
            first | done | with_reducible rfl
          try simp only [Act.put, List.getElem_toArray, List.getElem_cons_succ, List.getElem_cons_zero, List.setIfInBounds_toArray, List.set_cons_zero, List.set_cons_succ]
          refine wpAnyH_take (i := 4) (v := ?_) rfl (by kernel_rfl) (by kernel_rfl) (by kernel_rfl) (fun _ _ _ h => h) (Or.inl ⟨by rfl, ?_⟩) (by assumption) ?_
          rotate_left
          · intro wS hSw
            (try dsimp only at hSw)
            go_simp
            first | done | with_reducible rfl
          try simp only [Act.put, List.getElem_toArray, List.getElem_cons_succ, List.getElem_cons_zero, List.setIfInBounds_toArray, List.set_cons_zero, List.set_cons_succ]
          refine wpAnyH_take (i := 5) (v := ?_) rfl (by kernel_rfl) (by kernel_rfl) (by kernel_rfl) (fun _ _ _ h => h) (Or.inl ⟨by rfl, ?_⟩) (by assumption) ?_
          rotate_left
          · intro wS hSw
            (try dsimp only at hSw)
            go_simp
            first | done | with_reducible rfl
          try simp only [Act.put, List.getElem_toArray, List.getElem_cons_succ, List.getElem_cons_zero, List.setIfInBounds_toArray, List.set_cons_zero, List.set_cons_succ]
          refine wpAnyH_take (i := 6) (v := ?_) rfl (by kernel_rfl) (by kernel_rfl) (by kernel_rfl) (fun _ _ _ h => h) (Or.inl ⟨by rfl, ?_⟩) (by assumption) ?_
          rotate_left
          · intro wS hSw
            (try dsimp only at hSw)
            obtain ⟨t0, t1, t2, t3, -⟩ := four hSw
            go_simp
            first | done | with_reducible rfl
          try simp only [Act.put, List.getElem_toArray, List.getElem_cons_succ, List.getElem_cons_zero, List.setIfInBounds_toArray, List.set_cons_zero, List.set_cons_succ]
          refine wpAnyH_take (i := 7) (v := ?_) rfl (by kernel_rfl) (by kernel_rfl) (by kernel_rfl) (fun _ _ _ h => h) (Or.inl ⟨by rfl, ?_⟩) (by assumption) ?_
          rotate_left
          · intro wS hSw
            (try dsimp only at hSw)
            go_simp
            first | done | with_reducible rfl
          try simp only [Act.put, List.getElem_toArray, List.getElem_cons_succ, List.getElem_cons_zero, List.setIfInBounds_toArray, List.set_cons_zero, List.set_cons_succ]
          refine wpAnyH_take (i := 8) (v := ?_) rfl (by kernel_rfl) (by kernel_rfl) (by kernel_rfl) (fun _ _ _ h => h) (Or.inl ⟨by rfl, ?_⟩) (by assumption) ?_
          rotate_left
          · intro wS hSw
            (try dsimp only at hSw)
            go_simp
            first | done | with_reducible rfl
          try simp only [Act.put, List.getElem_toArray, List.getElem_cons_succ, List.getElem_cons_zero, List.setIfInBounds_toArray, List.set_cons_zero, List.set_cons_succ]
          refine wpAnyH_take (i := 9) (v := ?_) rfl (by kernel_rfl) (by kernel_rfl) (by kernel_rfl) (fun _ _ _ h => h) (Or.inl ⟨by rfl, ?_⟩) (by assumption) ?_
          rotate_left
          · intro wS hSw
            (try dsimp only at hSw)
            go_simp
            first | done | with_reducible rfl
          try simp only [Act.put, List.getElem_toArray, List.getElem_cons_succ, List.getElem_cons_zero, List.setIfInBounds_toArray, List.set_cons_zero, List.set_cons_succ]
          refine wpAnyH_take (i := 10) (v := ?_) rfl (by kernel_rfl) (by kernel_rfl) (by kernel_rfl) (fun _ _ _ h => h) (Or.inl ⟨by rfl, ?_⟩) (by assumption) ?_
          rotate_left
          · intro wS hSw
            (try dsimp only at hSw)
            go_simp
            first | done | with_reducible rfl
          try simp only [Act.put, List.getElem_toArray, List.getElem_cons_succ, List.getElem_cons_zero, List.setIfInBounds_toArray, List.set_cons_zero, List.set_cons_succ]
          refine wpAnyH_take (i := 11) (v := ?_) rfl (by kernel_rfl) (by kernel_rfl) (by kernel_rfl) (fun _ _ _ h => h) (Or.inl ⟨by rfl, ?_⟩) (by assumption) ?_
          rotate_left
          · intro wS hSw
            (try dsimp only at hSw)
            go_simp
            first | done | with_reducible rfl
          try simp only [Act.put, List.getElem_toArray, List.getElem_cons_succ, List.getElem_cons_zero, List.setIfInBounds_toArray, List.set_cons_zero, List.set_cons_succ]
          refine wpAnyH_take (i := 12) (v := ?_) rfl (by kernel_rfl) (by kernel_rfl) (by kernel_rfl) (fun _ _ _ h => h) (Or.inl ⟨by rfl, ?_⟩) (by assumption) ?_
          rotate_left
          · intro wS hSw
            (try dsimp only at hSw)
            obtain ⟨t0, t1, t2, t3, -⟩ := four hSw
            go_simp
            first | done | with_reducible rfl
          try simp only [Act.put, List.getElem_toArray, List.getElem_cons_succ, List.getElem_cons_zero, List.setIfInBounds_toArray, List.set_cons_zero, List.set_cons_succ]
          refine wpAnyH_take (i := 13) (v := ?_) rfl (by kernel_rfl) (by kernel_rfl) (by kernel_rfl) (fun _ _ _ h => h) (Or.inl ⟨by rfl, ?_⟩) (by assumption) ?_
          rotate_left
          · intro wS hSw
            (try dsimp only at hSw)
            go_simp
            first | done | with_reducible rfl
          try simp only [Act.put, List.getElem_toArray, List.getElem_cons_succ, List.getElem_cons_zero, List.setIfInBounds_toArray, List.set_cons_zero, List.set_cons_succ]
          refine wpAnyH_ready (rs := [14]) (by kernel_rfl) (by simp) ?_
          refine AllReadyH.cons rfl (fun K hK => ?_) AllReadyH.nil
          go_simp
          refine (rev_any g P2 S wd hkd.1).mono ?_; rintro e wy ⟨rfl, rfl⟩
          refine hK.out _ _ ?_ (fun rr1 => ?_)
          · exact rr0
          try simp only [Act.put, List.getElem_toArray, List.getElem_cons_succ, List.getElem_cons_zero, List.setIfInBounds_toArray, List.set_cons_zero, List.set_cons_succ]
          refine wpAnyH_take (i := 15) (v := ?_) rfl (by kernel_rfl) (by kernel_rfl) (by kernel_rfl) (fun _ _ _ h => h) (Or.inl ⟨by rfl, ?_⟩) (by assumption) ?_
          rotate_left
          · intro wS hSw
            (try dsimp only at hSw)
            go_simp
            first | done | with_reducible rfl
          try simp only [Act.put, List.getElem_toArray, List.getElem_cons_succ, List.getElem_cons_zero, List.setIfInBounds_toArray, List.set_cons_zero, List.set_cons_succ]
          refine wpAnyH_take (i := 16) (v := ?_) rfl (by kernel_rfl) (by kernel_rfl) (by kernel_rfl) (fun _ _ _ h => h) (Or.inl ⟨by rfl, ?_⟩) (by assumption) ?_
          rotate_left
          · intro wS hSw
            (try dsimp only at hSw)
            go_simp
            first | done | with_reducible rfl
          try simp only [Act.put, List.getElem_toArray, List.getElem_cons_succ, List.getElem_cons_zero, List.setIfInBounds_toArray, List.set_cons_zero, List.set_cons_succ]
          refine wpAnyH_take (i := 17) (v := ?_) rfl (by kernel_rfl) (by kernel_rfl) (by kernel_rfl) (fun _ _ _ h => h) (Or.inl ⟨by rfl, ?_⟩) (by assumption) ?_
          rotate_left
          · intro wS hSw
            (try dsimp only at hSw)
            go_simp
            first | done | with_reducible rfl
          try simp only [Act.put, List.getElem_toArray, List.getElem_cons_succ, List.getElem_cons_zero, List.setIfInBounds_toArray, List.set_cons_zero, List.set_cons_succ]
          refine wpAnyH_take (i := 18) (v := ?_) rfl (by kernel_rfl) (by kernel_rfl) (by kernel_rfl) (fun _ _ _ h => h) (Or.inl ⟨by rfl, ?_⟩) (by assumption) ?_
          rotate_left
          · intro wS hSw
            (try dsimp only at hSw)
            go_simp
            first | done | with_reducible rfl
          try simp only [Act.put, List.getElem_toArray, List.getElem_cons_succ, List.getElem_cons_zero, List.setIfInBounds_toArray, List.set_cons_zero, List.set_cons_succ]
          refine wpAnyH_take (i := 19) (v := ?_) rfl (by kernel_rfl) (by kernel_rfl) (by kernel_rfl) (fun _ _ _ h => h) (Or.inl ⟨by rfl, ?_⟩) (by assumption) ?_
          rotate_left
          · intro wS hSw
            (try dsimp only at hSw)
            go_simp
            first | done | with_reducible rfl
          try simp only [Act.put, List.getElem_toArray, List.getElem_cons_succ, List.getElem_cons_zero, List.setIfInBounds_toArray, List.set_cons_zero, List.set_cons_succ]
          refine wpAnyH_take (i := 23) (v := ?_) rfl (by kernel_rfl) (by kernel_rfl) (by kernel_rfl) (fun _ _ _ h => h) (Or.inl ⟨by rfl, ?_⟩) (by assumption) ?_
          rotate_left
          · intro wS hSw
            (try dsimp only at hSw)
            go_simp
            first | done | with_reducible rfl
          try simp only [Act.put, List.getElem_toArray, List.getElem_cons_succ, List.getElem_cons_zero, List.setIfInBounds_toArray, List.set_cons_zero, List.set_cons_succ]
          have hD := do_step op2 hkd (by decide) (by decide) HIN.out.1 (by have := HIN.out.2.2.2.1; omega) (by have := HIN.out.2.1; have := HIN.out.2.2.1; omega)
          rw [doK_list S op2 rfl] at hD
          simp only [beginL_emp] at hD
          refine wpAnyH_ready (rs := [20]) (by kernel_rfl) (by simp) ?_
          refine AllReadyH.cons rfl (fun K hK => ?_) AllReadyH.nil
          go_simp
          refine hD.mono ?_; rintro e w7 ⟨ao7, c7, P7, rfl, -, hk7, -, hkeep7, hz7, hP7⟩
          refine hK.out _ _ ?_ (fun rr2 => ?_)
          · exact (hkeep7 _ (heap_lt rr0) H4.out.2.2).trans rr0
          try simp only [Act.put, List.getElem_toArray, List.getElem_cons_succ, List.getElem_cons_zero, List.setIfInBounds_toArray, List.set_cons_zero, List.set_cons_succ]
          have hfi := field_its (.int .i64 0) (.int .i64 S.rev) (.string emp) (.slice ao7 S.L.length c7)
          refine wpAnyH_take (i := 21) (v := ?_) rfl (by kernel_rfl) (by kernel_rfl) (by kernel_rfl) (fun _ _ _ h => h) (Or.inl ⟨by rfl, ?_⟩) (by assumption) ?_
          rotate_left
          · intro wS hSw
            (try dsimp only at hSw)
            go_simp
            first | done | with_reducible rfl
          try simp only [Act.put, List.getElem_toArray, List.getElem_cons_succ, List.getElem_cons_zero, List.setIfInBounds_toArray, List.set_cons_zero, List.set_cons_succ]
          refine wpAnyH_take (i := 22) (v := ?_) rfl (by kernel_rfl) (by kernel_rfl) (by kernel_rfl) (fun _ _ _ h => h) (Or.inl ⟨by rfl, ?_⟩) (by assumption) ?_
          rotate_left
          · intro wS hSw
            (try dsimp only at hSw)
            go_simp
            first | done | with_reducible rfl
          try simp only [Act.put, List.getElem_toArray, List.getElem_cons_succ, List.getElem_cons_zero, List.setIfInBounds_toArray, List.set_cons_zero, List.set_cons_succ]
          refine wpAnyH_ready (rs := [24]) (by kernel_rfl) (by simp) ?_
          refine AllReadyH.cons rfl (fun K hK => ?_) AllReadyH.nil
          go_simp
          refine (len_any g P7 S w7 hk7.1).mono ?_; rintro e wy ⟨rfl, rfl⟩
          refine hK.out _ _ ?_ (fun rr3 => ?_)
          · exact rr2
          try simp only [Act.put, List.getElem_toArray, List.getElem_cons_succ, List.getElem_cons_zero, List.setIfInBounds_toArray, List.set_cons_zero, List.set_cons_succ]
          refine wpAnyH_take (i := 25) (v := ?_) rfl (by kernel_rfl) (by kernel_rfl) (by kernel_rfl) (fun _ _ _ h => h) (Or.inl ⟨by rfl, ?_⟩) (by assumption) ?_
          rotate_left
          · intro wS hSw
            (try dsimp only at hSw)
            go_simp
            first | done | with_reducible rfl
          try simp only [Act.put, List.getElem_toArray, List.getElem_cons_succ, List.getElem_cons_zero, List.setIfInBounds_toArray, List.set_cons_zero, List.set_cons_succ]
          refine wpAnyH_take (i := 26) (v := ?_) rfl (by kernel_rfl) (by kernel_rfl) (by kernel_rfl) (fun _ _ _ h => h) (Or.inl ⟨by rfl, ?_⟩) (by assumption) ?_
          rotate_left
          · intro wS hSw
            (try dsimp only at hSw)
            go_simp
            first | done | with_reducible rfl
          try simp only [Act.put, List.getElem_toArray, List.getElem_cons_succ, List.getElem_cons_zero, List.setIfInBounds_toArray, List.set_cons_zero, List.set_cons_succ]
          refine wpAnyH_take (i := 27) (v := ?_) rfl (by kernel_rfl) (by kernel_rfl) (by kernel_rfl) (fun _ _ _ h => h) (Or.inl ⟨by rfl, ?_⟩) (by assumption) ?_
          rotate_left
          · intro wS hSw
            (try dsimp only at hSw)
            go_simp
            first | done | with_reducible rfl
          try simp only [Act.put, List.getElem_toArray, List.getElem_cons_succ, List.getElem_cons_zero, List.setIfInBounds_toArray, List.set_cons_zero, List.set_cons_succ]
          refine wpAnyH_ready (rs := [28]) (by kernel_rfl) (by simp) ?_
          refine AllReadyH.cons rfl (fun K hK => ?_) AllReadyH.nil
          go_simp
          refine (awake9_any w7).mono ?_; rintro e w8 ⟨rfl, hb8⟩
          refine hK.out _ _ ?_ (fun rr4 => ?_)
          · exact (hb8.block _ (heap_lt rr2)).trans rr2
          try simp only [Act.put, List.getElem_toArray, List.getElem_cons_succ, List.getElem_cons_zero, List.setIfInBounds_toArray, List.set_cons_zero, List.set_cons_succ]
          refine wpAnyH_take (i := 29) (v := ?_) rfl (by kernel_rfl) (by kernel_rfl) (by kernel_rfl) (fun _ _ _ h => h) (Or.inl ⟨by rfl, ?_⟩) (by assumption) ?_
          rotate_left
          · intro wS hSw
            (try dsimp only at hSw)
            go_simp
            first | done | with_reducible rfl
          try simp only [Act.put, List.getElem_toArray, List.getElem_cons_succ, List.getElem_cons_zero, List.setIfInBounds_toArray, List.set_cons_zero, List.set_cons_succ]
          refine wpAnyH_take (i := 30) (v := ?_) rfl (by kernel_rfl) (by kernel_rfl) (by kernel_rfl) (fun _ _ _ h => h) (Or.inl ⟨by rfl, ?_⟩) (by assumption) ?_
          rotate_left
          · intro wS hSw
            (try dsimp only at hSw)
            go_simp
            first | done | with_reducible rfl
          try simp only [Act.put, List.getElem_toArray, List.getElem_cons_succ, List.getElem_cons_zero, List.setIfInBounds_toArray, List.set_cons_zero, List.set_cons_succ]
          refine wpAnyH_done (by kernel_rfl) ?_ _
          go_wp2_with fail
          go_ret
          exact ⟨rfl, hk7.2.2.trans (hb8.mono hk7.2.2.size)⟩
end Go.Proofs.Ytogcjginifcbpaa
