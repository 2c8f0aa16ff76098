/- The walk of KvOnce: its rounds. Made by g_kvoncew.py. -/
import Derived.Test.YtogcjginifcbpaaKvOnceA
import Derived.Deep.LoopGhost
namespace Go.Proofs.Ytogcjginifcbpaa
open Go.RowKit Go.Maps
set_option maxRecDepth 100000 in
set_option maxHeartbeats 8000000 in
theorem lawKvOnce (w : World) (v : Value) (os : List KOp) (h : ArgOps9 w v os) : Calls Try.prog 5 #[v] w fun e w' => e = .returned (.bool true) ∧ Below w.heap.size w w' := by
  obtain ⟨⟨ao, c, rfl, hlc, hnil, hc⟩, hok, hlm⟩ := h
  have HC := Lib.hid (And.intro hnil (And.intro hc hok))
  clear hnil hc hok
  go_enter Try.func5, Try.ntmps5
  go_wp2_with (first
    | (go_at_call 15; refine (new_step w w (Below.refl _ _)).mono ?_; rintro e w1 ⟨g, rfl, hk1, -⟩)
    | go_in)
  go_loopg [4, 5, 17] os.length (fun gh la dn j wr => ∃ (i : Nat) (S : KSt) (P : Nat → Prop) (D : List UEnt), i ≤ os.length ∧ gh = os.length - i ∧ j = .int .i64 i ∧ la = .int .i64 S.rev ∧ KvW w wr g P S ∧ KInv S (min i 30) ∧ RowU wr w.heap.size dn D ∧ UInv S D ∧ D.length ≤ min i 30)
  case atStart => exact ⟨0, ⟨0, []⟩, _, [], Nat.zero_le _, rfl, rfl, rfl, hk1, KInv.zero, World.ownsRow_nil _ _ _ _, (fun d hd => by cases hd), Nat.le_refl _⟩
  case round =>
    obtain ⟨i, S, P, D, hi, rfl, rfl, rfl, hk, hinv, hrow, hui, hDl⟩ := hrel
    have HBW := Lib.hid hk.2.2
    by_cases hlt : i < os.length
    · obtain ⟨a, rfl⟩ : ∃ a, ao = some a := by
        cases ao with
        | none => rw [HC.out.1 rfl] at hlt; simp at hlt
        | some a => exact ⟨a, rfl⟩
      have hop := HC.out.2.1 a rfl i hlt
      have hokx := HC.out.2.2 (os.getD i default) (by rw [List.getD_eq_getElem?_getD, List.getElem?_eq_getElem hlt]; exact List.getElem_mem hlt)
      generalize os.getD i default = o at hop hokx
      obtain ⟨q0, q1, q2, q3, q4, q5⟩ := hop
      have q0 := bcell hk.2.2 q0
      have q1 := off1 (bcell hk.2.2 q1)
      have q2 := off2 (bcell hk.2.2 q2)
      have q3 := off3 (bcell hk.2.2 q3)
      have q4 := off4 (bcell hk.2.2 q4)
      have q5 := off5 (bcell hk.2.2 q5)
      have b0 : (0 : Int) ≤ (i : Int) := by omega
      have b1 : (i : Int) < (os.length : Int) := by omega
      have HLT := Lib.hid hlt
      have hlm2 : os.length ≤ 9223372036854775807 := by unfold maxLen at hlm; omega
      by_cases h30 : i < 30
      · have d1 : decide ((30 : Int) ≤ (i : Int)) = false := by simp; omega
        rw [Nat.min_eq_left (by omega)] at hinv hDl
        obtain ⟨P1, hk1', hfree⟩ := hk.tight
        have hfr := hrow.free hfree
        have HO := Lib.hid (ours_any o)
        have hk2 : (ours o).key.size ≤ maxLen := Nat.le_trans (cutB_le _ _) (by decide)
        have hk3 : (ours o).iff.size ≤ maxLen := hokx.2.2
        have HX := Lib.hid (And.intro hk2 (And.intro hk3 (And.intro hinv hk1')))
        have HU := Lib.hid (And.intro hrow (And.intro hfr (And.intro hui hDl)))
        have hplt := hk1'.1.own
        have HPL := Lib.hid hplt
        clear hk2 hk3 hinv hk hokx hk1' hfree hfr hrow hui hDl hplt hlt hi
        generalize ours o = x at HO HX
        go_upto_region 9 with (first
          | (go_at_call 16; refine (HO.out _).mono ?_; rintro e w2 ⟨rfl, hb2⟩)
          | go_in)
        obtain ⟨w3, hw3⟩ : ∃ w3, w3 = (w2.alloc (opO x)).alloc (opR x) := ⟨_, rfl⟩
        have hb3 : Below wr.heap.size wr w3 := by rw [hw3]; exact belAlloc (belAlloc (bel (belNew _ (opR o)) hb2) (opO x)) (opR x)
        have hx3 : w3.heap[w2.heap.size]? = some (opO x) := by rw [hw3, Below.heap_alloc _ _ _ (by simp)]; exact heap_alloc_new w2 _
        have hz23 : wr.heap.size < w2.heap.size := by have := hb2.size; simp at this; omega
        rw [← hw3]
        have hD := do_step x (HX.out.2.2.2.below hb3) HX.out.1 HX.out.2.1 HX.out.2.2.1.1 (by have := HX.out.2.2.1.2.2.2.1; omega) (by have := HX.out.2.2.1.2.1; have := HX.out.2.2.1.2.2.1; omega)
        have HD := Lib.hid hD
        have H3 := Lib.hid (And.intro hb3 (And.intro hx3 hz23))
        obtain ⟨x0, x1, x2, x3, x4, x5⟩ := opcells hx3
        have HSame := Lib.hid (doK_same (S := S) (o := x))
        have HDone := Lib.hid (fun h1 h2 => doK_done (S := S) (o := x) HX.out.2.2.1 h1 h2)
        have HUst := Lib.hid (fun h1 h2 => HU.out.2.2.1.step (o := x) HX.out.2.2.1 h1 h2)
        have HIn := Lib.hid (doK_inv HX.out.2.2.1 x)
        clear hw3 hb3 hx3 hz23 hD hb2 q0 q1 q2 q3 q4 q5
        generalize doK S x = r at HD HSame HDone HUst HIn
        obtain ⟨⟨code, rev, val, its⟩, S2⟩ := r
        simp only [] at HD HSame HDone HUst HIn
        go_upto_region 10 with (first
          | (go_at_call 21; refine HD.out.mono ?_; rintro e w4 ⟨ao4, c4, P4, rfl, -, hk4, -, hkeep4, hz4, hP4⟩)
          | go_in)
        obtain ⟨w5, hw5⟩ : ∃ w5, w5 = w4.alloc (resO code rev val (.slice ao4 its.length c4)) := ⟨_, rfl⟩
        have hk5 : KvW w w5 g P4 S2 := by rw [hw5]; exact hk4.below (belNew w4 _)
        have hr5 : w5.heap[w4.heap.size]? = some (resO code rev val (.slice ao4 its.length c4)) := by rw [hw5]; exact heap_alloc_new w4 _
        have hx5 : w5.heap[w2.heap.size]? = some (opO x) := by
          rw [hw5, Below.heap_alloc _ _ _ (by have := heap_lt H3.out.2.1; omega), hkeep4 _ (heap_lt H3.out.2.1) (fun h => by have := HPL.out _ h; have := H3.out.2.2; omega)]
          exact H3.out.2.1
        have hrow5 : RowU w5 w.heap.size u5 D := HU.out.1.keep (fun d hd hlt => by
          rw [hw5, Below.heap_alloc _ _ _ (by have := H3.out.1.size; omega), hkeep4 _ (by have := H3.out.1.size; omega) (HU.out.2.1 d hd)]
          exact H3.out.1.block d hlt)
        rw [← hw5]
        clear hw5 hk4 hkeep4 hz4 hP4 HD x0 x1 x2 x3 x4 x5
        have HR := Lib.hid (rev_any g P4 S2 w5 hk5.1)
        have H5 := Lib.hid (And.intro hk5 (And.intro hr5 (And.intro hx5 hrow5)))
        obtain ⟨x0, x1, x2, x3, x4, x5⟩ := opcells hx5
        obtain ⟨t0, t1, -⟩ := four hr5
        clear hk5 hr5 hx5 hrow5
        by_cases hk3 : x.kind < 3
        · have e3 : decide (x.kind < 3) = true := by simpa using hk3
          have hS2 : S2 = S := HSame.out (Or.inl (by unfold wr5; simp; omega))
          rw [hS2] at HR
          have HS2 := Lib.hid hS2
          clear hS2
          go_wp2_with (first
            | (go_at_call 22; refine HR.out.mono ?_; rintro e wz ⟨rfl, rfl⟩)
            | go_in)
          go_roundg (os.length - (i + 1))
          case measure => have := HLT.out; omega
          case rel => exact ⟨i + 1, S2, P4, D, HLT.out, rfl, by go_num, by rw [HS2.out], H5.out.1, by rw [Nat.min_eq_left (by omega)]; exact HIn.out, H5.out.2.2.2, HU.out.2.2.1.same HS2.out, by rw [Nat.min_eq_left (by omega)]; have := HU.out.2.2.2; omega⟩
        · have e3 : decide (x.kind < 3) = false := by simpa using hk3
          by_cases hk5 : 5 < x.kind
          · have e5 : decide (5 < x.kind) = true := by simpa using hk5
            have hS2 : S2 = S := HSame.out (Or.inl (by unfold wr5; simp; omega))
            rw [hS2] at HR
            have HS2 := Lib.hid hS2
            clear hS2
            go_wp2_with (first
              | (go_at_call 22; refine HR.out.mono ?_; rintro e wz ⟨rfl, rfl⟩)
              | go_in)
            go_roundg (os.length - (i + 1))
            case measure => have := HLT.out; omega
            case rel => exact ⟨i + 1, S2, P4, D, HLT.out, rfl, by go_num, by rw [HS2.out], H5.out.1, by rw [Nat.min_eq_left (by omega)]; exact HIn.out, H5.out.2.2.2, HU.out.2.2.1.same HS2.out, by rw [Nat.min_eq_left (by omega)]; have := HU.out.2.2.2; omega⟩
          · have e5 : decide (5 < x.kind) = false := by simpa using hk5
            by_cases hc0 : code = 0
            · subst hc0
              have e0 : ((0 : Int) != 0) = false := rfl
              have hw5 : wr5 x = true := by unfold wr5; simp; omega
              obtain ⟨hrev, hrev2, -⟩ := HDone.out hw5 rfl
              have hust := HUst.out hw5 rfl
              subst hrev
              rw [hrev2] at HR
              have s1 : IntKind.i64.wrap (S.rev + 1) = S.rev + 1 := IntWalk.i64_in _ (by have := HX.out.2.2.1.2.1; have := HX.out.2.2.1.2.2.1; omega)
              have HUs := Lib.hid hust
              have HRV := Lib.hid hrev2
              clear hust hrev2 hw5 hk3 hk5
              go_upto_region 13 with fail
              refine wp_region_held_drew (S := (fun W => Below w5.heap.size w5 W)) (by kernel_rfl) ?_ (fun rr0 => ?_)
              · exact ⟨rfl, rfl, rfl, Nat.le_refl _, fun _ _ => rfl⟩
              refine wpAnyH_take (i := 0) (v := ?_) rfl (by kernel_rfl) (by kernel_rfl) (by kernel_rfl) (fun _ _ _ h => h) (Or.inl ⟨by rfl, ?_⟩) (by assumption) ?_
              rotate_left
              · intro wS hSw
                (try dsimp only at hSw)
                go_simp
                first | done | with_reducible rfl
              try simp only [Act.put, List.getElem_toArray, List.getElem_cons_zero, List.setIfInBounds_toArray, List.set_cons_zero, List.set_cons_succ]
              refine wpAnyH_take (i := 1) (v := ?_) rfl (by kernel_rfl) (by kernel_rfl) (by kernel_rfl) (fun _ _ _ h => h) (Or.inl ⟨by rfl, ?_⟩) (by assumption) ?_
              rotate_left
              · intro wS hSw
                (try dsimp only at hSw)
                have t1 := bcell hSw t1
                go_simp
                first | done | with_reducible rfl
              try simp only [Act.put, List.getElem_toArray, List.getElem_cons_succ, List.getElem_cons_zero, List.setIfInBounds_toArray, List.set_cons_zero, List.set_cons_succ]
              refine wpAnyH_take (i := 2) (v := ?_) rfl (by kernel_rfl) (by kernel_rfl) (by kernel_rfl) (fun _ _ _ h => h) (Or.inl ⟨by rfl, ?_⟩) (by assumption) ?_
              rotate_left
              · intro wS hSw
                (try dsimp only at hSw)
                go_simp
                first | done | with_reducible rfl
              try simp only [Act.put, List.getElem_toArray, List.getElem_cons_succ, List.getElem_cons_zero, List.setIfInBounds_toArray, List.set_cons_zero, List.set_cons_succ]
              refine wpAnyH_take (i := 3) (v := ?_) rfl (by kernel_rfl) (by kernel_rfl) (by kernel_rfl) (fun _ _ _ h => h) (Or.inl ⟨by rfl, ?_⟩) (by assumption) ?_
              rotate_left
              · intro wS hSw
                (try dsimp only at hSw)
                go_simp
                first | done | with_reducible rfl
              try simp only [Act.put, List.getElem_toArray, List.getElem_cons_succ, List.getElem_cons_zero, List.setIfInBounds_toArray, List.set_cons_zero, List.set_cons_succ]
              refine wpAnyH_take (i := 4) (v := ?_) rfl (by kernel_rfl) (by kernel_rfl) (by kernel_rfl) (fun _ _ _ h => h) (Or.inl ⟨by rfl, ?_⟩) (by assumption) ?_
              rotate_left
              · intro wS hSw
                (try dsimp only at hSw)
                go_simp
                first | done | with_reducible rfl
              try simp only [Act.put, List.getElem_toArray, List.getElem_cons_succ, List.getElem_cons_zero, List.setIfInBounds_toArray, List.set_cons_zero, List.set_cons_succ]
              refine wpAnyH_take (i := 5) (v := ?_) rfl (by kernel_rfl) (by kernel_rfl) (by kernel_rfl) (fun _ _ _ h => h) (Or.inl ⟨by rfl, ?_⟩) (by assumption) ?_
              rotate_left
              · intro wS hSw
                (try dsimp only at hSw)
                go_simp
                first | done | with_reducible rfl
              try simp only [Act.put, List.getElem_toArray, List.getElem_cons_succ, List.getElem_cons_zero, List.setIfInBounds_toArray, List.set_cons_zero, List.set_cons_succ]
              refine wpAnyH_take (i := 6) (v := ?_) rfl (by kernel_rfl) (by kernel_rfl) (by kernel_rfl) (fun _ _ _ h => h) (Or.inl ⟨by rfl, ?_⟩) (by assumption) ?_
              rotate_left
              · intro wS hSw
                (try dsimp only at hSw)
                go_simp
                first | done | with_reducible rfl
              try simp only [Act.put, List.getElem_toArray, List.getElem_cons_succ, List.getElem_cons_zero, List.setIfInBounds_toArray, List.set_cons_zero, List.set_cons_succ]
              refine wpAnyH_take (i := 8) (v := ?_) rfl (by kernel_rfl) (by kernel_rfl) (by kernel_rfl) (fun _ _ _ h => h) (Or.inl ⟨by rfl, ?_⟩) (by assumption) ?_
              rotate_left
              · intro wS hSw
                (try dsimp only at hSw)
                go_simp
                first | done | with_reducible rfl
              try simp only [Act.put, List.getElem_toArray, List.getElem_cons_succ, List.getElem_cons_zero, List.setIfInBounds_toArray, List.set_cons_zero, List.set_cons_succ]
              refine wpAnyH_take (i := 9) (v := ?_) rfl (by kernel_rfl) (by kernel_rfl) (by kernel_rfl) (fun _ _ _ h => h) (Or.inl ⟨by rfl, ?_⟩) (by assumption) ?_
              rotate_left
              · intro wS hSw
                (try dsimp only at hSw)
                have t1 := bcell hSw t1
                go_simp
                first | done | with_reducible rfl
              try simp only [Act.put, List.getElem_toArray, List.getElem_cons_succ, List.getElem_cons_zero, List.setIfInBounds_toArray, List.set_cons_zero, List.set_cons_succ]
              refine wpAnyH_ready (rs := [7]) (by kernel_rfl) (by simp) ?_
              refine AllReadyH.cons rfl (fun K hK => ?_) AllReadyH.nil
              go_simp
              refine (rev_any g P4 S2 _ (H5.out.1.below rr0).1).mono ?_; rintro e wy ⟨rfl, rfl⟩
              refine hK.out _ _ ?_ (fun rr1 => ?_)
              · exact rr0
              rw [HRV.out]
              try simp only [Act.put, List.getElem_toArray, List.getElem_cons_succ, List.getElem_cons_zero, List.setIfInBounds_toArray, List.set_cons_zero, List.set_cons_succ]
              refine wpAnyH_take (i := 10) (v := ?_) rfl (by kernel_rfl) (by kernel_rfl) (by kernel_rfl) (fun _ _ _ h => h) (Or.inl ⟨by rfl, ?_⟩) (by assumption) ?_
              rotate_left
              · intro wS hSw
                (try dsimp only at hSw)
                go_simp
                first | done | with_reducible rfl
              try simp only [Act.put, List.getElem_toArray, List.getElem_cons_succ, List.getElem_cons_zero, List.setIfInBounds_toArray, List.set_cons_zero, List.set_cons_succ]
              refine wpAnyH_take (i := 11) (v := ?_) rfl (by kernel_rfl) (by kernel_rfl) (by kernel_rfl) (fun _ _ _ h => h) (Or.inl ⟨by rfl, ?_⟩) (by assumption) ?_
              rotate_left
              · intro wS hSw
                (try dsimp only at hSw)
                go_simp
                first | done | with_reducible rfl
              try simp only [Act.put, List.getElem_toArray, List.getElem_cons_succ, List.getElem_cons_zero, List.setIfInBounds_toArray, List.set_cons_zero, List.set_cons_succ]
              refine wpAnyH_done (by kernel_rfl) ?_ _
              obtain ⟨wd, hwd⟩ : ∃ wd, wd = w5.drew := ⟨_, rfl⟩
              rw [← hwd]
              have hbd : Below w5.heap.size w5 wd := by rw [hwd]; exact bdrew (Below.refl _ _)
              have t1 := bcell hbd t1
              have x0 := bcell hbd x0
              have x1 := bcell hbd x1
              have x3 := bcell hbd x3
              have HBd := Lib.hid hbd
              clear hwd hbd rr0 rr1 t0 x2 x4 x5
              go_upto_region 17 with fail
              obtain ⟨we, hwe⟩ : ∃ we, we = wd.alloc (.cells #[.string x.key, .int .i64 x.rev] 66) := ⟨_, rfl⟩
              have hbe : Below wd.heap.size wd we := by rw [hwe]; exact belNew _ _
              have hu := heap_alloc_new wd (.cells #[.string x.key, .int .i64 x.rev] 66)
              rw [← hwe] at hu ⊢
              have hb5e := bel HBd.out hbe
              have hrowe := H5.out.2.2.2.keep (fun d _ hlt => hb5e.block d hlt)
              have x0 := bcell hbe x0
              have y0 := cell0 hu
              have y1 := cell1 hu
              obtain ⟨do_, dc, rfl, hdl, hdn, hdc⟩ := hrowe.sees
              have HDN := Lib.hid (And.intro hdn hdc)
              have HE := Lib.hid (And.intro hb5e hrowe)
              clear hwe hbe hu hb5e hrowe hdn hdc t1 x1 x3
              have hDl := HU.out.2.2.2
              go_wp2_with fail
              go_loopg [70] D.length (fun gh j wr => ∃ k : Nat, k ≤ D.length ∧ gh = D.length - k ∧ j = .int .i64 k ∧ Below we.heap.size we wr)
              case atStart => exact ⟨0, Nat.zero_le _, rfl, rfl, Below.refl _ _⟩
              case round =>
                obtain ⟨k, hkl, rfl, rfl, hBk⟩ := hrel
                have x0 := bcell hBk x0
                have y0 := bcell hBk y0
                have y1 := bcell hBk y1
                by_cases hlk : k < D.length
                · obtain ⟨da, rfl⟩ : ∃ a, do_ = some a := by
                    cases do_ with
                    | none => rw [HDN.out.1 rfl] at hlk; simp at hlk
                    | some a => exact ⟨a, rfl⟩
                  obtain ⟨d, hget⟩ : ∃ d, D[k]? = some d := ⟨_, List.getElem?_eq_getElem hlk⟩
                  obtain ⟨r0, r1⟩ := HDN.out.2 da rfl k d hget
                  have r0 := bcell hBk r0
                  have r1 := off1 (bcell hBk r1)
                  have c0 : (0 : Int) ≤ (k : Int) := by omega
                  have c1 : (k : Int) < (D.length : Int) := by omega
                  have hmem : d ∈ D := List.mem_of_getElem? hget
                  clear hget
                  have hbd := belNew wr (.cells #[.string d.1, .int .i64 d.2] 66)
                  have x0a := bcell hbd x0
                  have y0a := bcell hbd y0
                  have y1a := bcell hbd y1
                  clear hbd
                  have HLK := Lib.hid hlk
                  by_cases hk3 : x.kind = 3
                  · have e3 : (x.kind != 3) = false := by simpa using hk3
                    clear hk3 hmem
                    go_wp2_with fail
                    go_roundg (D.length - (k + 1))
                    case measure => have := HLK.out; omega
                    case rel => exact ⟨k + 1, HLK.out, rfl, by go_num, belAlloc hBk _⟩
                  · have e3 : (x.kind != 3) = true := by simpa using hk3
                    have hne : d ≠ (x.key, x.rev) := fun e => HUs.out.2 hk3 (e ▸ hmem)
                    have hq : ∀ w, (binOp .eql 66 (.agg #[.string d.1, .int .i64 d.2]) (.agg #[.string x.key, .int .i64 x.rev])).run Try.prog w = .ok (.bool false) w := fun w => by
                      rw [eqUsed, eqB]
                      by_cases h1 : d.1 = x.key
                      · have h2 : ¬ d.2 = x.rev := fun e => hne (Prod.ext h1 e)
                        simp [h2]
                      · simp [h1]
                    clear hk3 hmem hne
                    go_wp2_with fail
                    go_roundg (D.length - (k + 1))
                    case measure => have := HLK.out; omega
                    case rel => exact ⟨k + 1, HLK.out, rfl, by go_num, belAlloc hBk _⟩
                · obtain rfl : k = D.length := by omega
                  have hrowk := HE.out.2.keep (fun d _ hlt => hBk.block d hlt)
                  have hkk := H5.out.1.below (bel HE.out.1 hBk)
                  by_cases hk3 : x.kind = 3
                  · have e3 : (x.kind != 3) = false := by simpa using hk3
                    have hui2 := HUs.out.1
                    rw [if_pos hk3] at hui2
                    have HF := Lib.hid (And.intro hkk (And.intro hrowk hui2))
                    clear hk3 hkk hrowk hui2
                    go_wp2_with fail
                    go_roundg (os.length - (i + 1))
                    case measure => have := HLT.out; omega
                    case rel => exact ⟨i + 1, S2, P4, D, HLT.out, rfl, by go_num, by rw [HRV.out], HF.out.1, by rw [Nat.min_eq_left (by omega)]; exact HIn.out, HF.out.2.1, HF.out.2.2, by rw [Nat.min_eq_left (by omega)]; omega⟩
                  · have e3 : (x.kind != 3) = true := by simpa using hk3
                    have hui2 := HUs.out.1
                    rw [if_neg hk3] at hui2
                    obtain ⟨P5, hk5, hfree5⟩ := hkk.tight
                    have hfr5 := hrowk.free hfree5
                    have HF := Lib.hid (And.intro hk5 (And.intro hui2 hfr5))
                    have hsz := hkk.2.2.size
                    clear hk3 hkk hui2 hk5 hfree5 hfr5
                    go_wp2_with (first
                      | (at_builtin; refine wpList_pushU rfl (.tmp 86) (.tmp 88) rfl w.heap.size (.slice do_ D.length dc) D (x.key, x.rev) wr.heap.size rfl rfl rfl hrowk (by omega) hsz ?_; intro v6 w6 hrow6 hb6 hg6)
                      | go_in)
                    have hk6 : KvW w w6 g P5 S2 := by
                      refine ⟨HF.out.1.1.keep (Touch.of_grown (P := fun i => (Value.slice do_ D.length dc).ownBlock = some i) hg6 (fun k hk => hk)) (fun i hi hd => HF.out.2.2 i hd hi), HF.out.1.2.1, HF.out.1.2.2.trans hb6⟩
                    go_roundg (os.length - (i + 1))
                    case measure => have := HLT.out; omega
                    case rel => exact ⟨i + 1, S2, P5, D ++ [(x.key, x.rev)], HLT.out, rfl, by go_num, by rw [HRV.out], hk6, by rw [Nat.min_eq_left (by omega)]; exact HIn.out, hrow6, HF.out.2.1, by rw [Nat.min_eq_left (by omega), List.length_append]; simp; omega⟩
            · have e0 : (code != 0) = true := by simpa using hc0
              have hS2 : S2 = S := HSame.out (Or.inr hc0)
              rw [hS2] at HR
              have HS2 := Lib.hid hS2
              clear hS2
              go_wp2_with (first
                | (go_at_call 22; refine HR.out.mono ?_; rintro e wz ⟨rfl, rfl⟩)
                | go_in)
              go_roundg (os.length - (i + 1))
              case measure => have := HLT.out; omega
              case rel => exact ⟨i + 1, S2, P4, D, HLT.out, rfl, by go_num, by rw [HS2.out], H5.out.1, by rw [Nat.min_eq_left (by omega)]; exact HIn.out, H5.out.2.2.2, HU.out.2.2.1.same HS2.out, by rw [Nat.min_eq_left (by omega)]; have := HU.out.2.2.2; omega⟩
      · have d1 : decide ((30 : Int) ≤ (i : Int)) = true := by simp; omega
        clear hk hinv hokx hrow hui hDl
        have HBW2 := Lib.hid (belAlloc HBW.out (opR o))
        clear HBW
        have HBW := HBW2
        clear HBW2
        go_wp2_with (first
          | (go_at_call 26; refine (awake9_any _).mono ?_; rintro e w8 ⟨rfl, hb8⟩)
          | go_in)
        go_ret
        exact ⟨rfl, HBW.out.trans (hb8.mono HBW.out.size)⟩
    · obtain rfl : i = os.length := by omega
      clear hk hinv hrow hui hDl
      go_wp2_with (first
        | (go_at_call 26; refine (awake9_any _).mono ?_; rintro e w8 ⟨rfl, hb8⟩)
        | go_in)
      go_ret
      exact ⟨rfl, HBW.out.trans (hb8.mono HBW.out.size)⟩
end Go.Proofs.Ytogcjginifcbpaa
