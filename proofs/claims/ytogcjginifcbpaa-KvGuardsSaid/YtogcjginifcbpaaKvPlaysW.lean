/- The walk of KvPlays. Made by g_kvplaysw.py. -/
import Derived.Test.YtogcjginifcbpaaKvTwo
import Derived.Test.YtogcjginifcbpaaKvInv
namespace Go.Proofs.Ytogcjginifcbpaa
open Go.RowKit Go.Maps
theorem neEff (k1 v1 k2 v2 : ByteArray) (r1 r2 : Int) (b1 b2 : Bool) (w : World) : (binOp .neq 38 (.agg #[.string k1, .string v1, .int .i64 r1, .bool b1]) (.agg #[.string k2, .string v2, .int .i64 r2, .bool b2])).run Try.prog w = .ok (.bool (!(k1.toList == k2.toList && (v1.toList == v2.toList && (r1 == r2 && b1 == b2))))) w := by
  have hS : Try.prog.underlying 38 = some (.struct (Try.prog.fieldsOf 38)) := by kernel_rfl
  have hp : Try.prog.stoodInHeld 38 = false := by kernel_rfl
  have u3 := Try.underlying9
  have a3 := Try.isAgg9
  have z3 := Try.sizeOf9
  have u4 := Try.underlying2
  have a4 := Try.isAgg2
  have z4 := Try.sizeOf2
  have u5 := Try.underlying4
  have a5 := Try.isAgg4
  have z5 := Try.sizeOf4
  rw [run_neq_struct, show (10000 : Nat) = 9999 + 1 from rfl, run_equalIn_agg w 9999 38 _ _ hS hp]
  simp only [Program.fieldsOf, Try.underlying38]
  go_simp
  by_cases h1 : k1.toList = k2.toList <;> by_cases h2 : v1.toList = v2.toList <;> by_cases h3 : r1 = r2 <;> by_cases h4 : b1 = b2 <;> simp [h1, h2, h3, h4]
theorem own_not {w : World} {B : Nat} {E : TypeId} {P : Nat → Prop} {v : Value} {L : List KEnt} (h : RowE E w B v L) (hP : ∀ i, P i → i < B) : ∀ d, v.ownBlock = some d → ¬ P d := fun d hd hp => by
  have h1 := World.ownsRow.lt h d hd
  have h2 := hP d hp
  omega
set_option maxRecDepth 100000 in
set_option maxHeartbeats 16000000 in
theorem lawKvPlays (w : World) (v : Value) (os : List KOp) (h : ArgOps9 w v os) : Calls Try.prog 3 #[v] w fun e w' => e = .returned (.bool true) ∧ Below w.heap.size w w' := by
  obtain ⟨⟨ao, c, rfl, hlc, hnil, hc⟩, hok, hlm⟩ := h
  have HC := Lib.hid (And.intro hnil (And.intro hc hok))
  have hlm2 : os.length ≤ 9223372036854775807 := by unfold maxLen at hlm; omega
  clear hnil hc hok hlm
  go_enter Try.func3, Try.ntmps3
  go_upto_region 2 with (first
    | (go_at_call 15; refine (new_step w w (Below.refl _ _)).mono ?_; rintro e w1 ⟨g, rfl, hk1, hb1⟩)
    | go_in)
  obtain ⟨W1, hW1⟩ : ∃ W1, W1 = w1.alloc (stO 0 (.slice none 0 0)) := ⟨_, rfl⟩
  change Code.wp _ _ _ _ (w1.alloc (stO 0 (.slice none 0 0)))
  rw [← hW1]
  have hbW : Below w1.heap.size w1 W1 := by rw [hW1]; exact belNew _ _
  have hbox : W1.heap[w1.heap.size]? = some (stO 0 (.slice none 0 0)) := by rw [hW1]; exact heap_alloc_new w1 _
  obtain ⟨B, hB⟩ : ∃ B, B = w1.heap.size := ⟨_, rfl⟩
  rw [← hB] at hbox ⊢
  have hk2 := hk1.below hbW
  have hd2 : DocAt W1 B (· = g) ⟨0, []⟩ (.slice none 0 0) := DocAt.start (by have := hk1.1.lt; omega) hbox
  have HBw : Hid (w.heap.size ≤ B) := Lib.hid (by rw [hB]; exact hk1.2.2.size)
  clear hW1 hbW hbox hB hk1 hb1
  go_wp2_with fail
  go_loopw [21] (fun j wr => ∃ (i : Nat) (S : KSt) (P : Nat → Prop) (vr : Value), i ≤ os.length ∧ j = .int .i64 i ∧ KvW w wr g P S ∧ DocAt wr B P S vr ∧ KInv S (min i 40)) (fun j _ => os.length - (intOf j).toNat)
  case atStart => exact ⟨0, ⟨0, []⟩, _, _, Nat.zero_le _, rfl, hk2, hd2, KInv.zero⟩
  case round =>
    clear hk2 hd2
    obtain ⟨i, ⟨R, L⟩, P, vr, hi, rfl, hk, hd, hinv⟩ := hrel
    by_cases hlt : i < os.length
    · obtain ⟨a, rfl⟩ : ∃ a, ao = some a := by
        cases ao with
        | none => rw [HC.out.1 rfl] at hlt; simp at hlt
        | some a => exact ⟨a, rfl⟩
      have hop := HC.out.2.1 a rfl i hlt
      have hokx := HC.out.2.2 (os.getD i default) (by rw [List.getD_eq_getElem?_getD, List.getElem?_eq_getElem hlt]; exact List.getElem_mem hlt)
      generalize os.getD i default = o at hop hokx
      obtain ⟨q0, q1, q2, q3, q4, q5⟩ := hop
      have q0 := bcell hk.2.2 q0
      have q1 := off1 (bcell hk.2.2 q1)
      have q2 := off2 (bcell hk.2.2 q2)
      have q3 := off3 (bcell hk.2.2 q3)
      have q4 := off4 (bcell hk.2.2 q4)
      have q5 := off5 (bcell hk.2.2 q5)
      have b0 : (0 : Int) ≤ (i : Int) := by omega
      have b1 : (i : Int) < (os.length : Int) := by omega
      have HLT := Lib.hid hlt
      by_cases h40 : i < 40
      · have d1 : decide (40 ≤ (i : Int)) = false := by simp; omega
        have hin : KInv ⟨R, L⟩ i := by rwa [Nat.min_eq_left (by omega)] at hinv
        have HO := Lib.hid (ours_any o)
        have hxo := ours_ok hokx
        clear hokx hinv
        generalize ours o = x at HO hxo
        have hin2 := doK_inv hin x
        have HX := Lib.hid (And.intro hk (And.intro hd (And.intro hin hxo)))
        have HPl : Hid (∀ w', KvAt w' g P ⟨R, L⟩ → Calls Try.prog 17 #[ptr g, opV x] w' fun e w'' => ∃ v, e = .returned (.tuple #[kres (planK ⟨R, L⟩ x).1 v, effV (planK ⟨R, L⟩ x).2.1, .bool (planK ⟨R, L⟩ x).2.2]) ∧ RowI w'' w'.heap.size v (planK ⟨R, L⟩ x).1.its ∧ Below w'.heap.size w' w'') := Lib.hid (fun w' h => plan_any g P ⟨R, L⟩ x w' h hxo.1 hxo.2.2 hin.1 (by have := hin.2.2.2.1; simp only [] at this ⊢; omega) (by have := hin.2.1; have := hin.2.2.1; simp only [] at *; omega))
        have HRP : Hid (∀ w', SeesI w' vr L → Calls Try.prog 18 #[stV R vr, opV x] w' fun e w'' => ∃ v, e = .returned (.tuple #[kres (planK ⟨R, L⟩ x).1 v, effV (planK ⟨R, L⟩ x).2.1, .bool (planK ⟨R, L⟩ x).2.2]) ∧ RowR w'' w'.heap.size v (planK ⟨R, L⟩ x).1.its ∧ Below w'.heap.size w' w'') := Lib.hid (fun w' h => refPlan_any vr L R x w' h (by have := hin.2.2.2.1; simp only [] at this; omega) hxo (by have := hin.2.1; have := hin.2.2.1; simp only [] at *; omega))
        have HRD : Hid (∀ w', SeesI w' vr L → Calls Try.prog 20 #[stV R vr, opV x] w' fun e w'' => ∃ vs vi, e = .returned (.tuple #[stV (doK ⟨R, L⟩ x).2.rev vs, kres (doK ⟨R, L⟩ x).1 vi]) ∧ SeesI w'' vs (doK ⟨R, L⟩ x).2.L ∧ (∀ d, vs.ownBlock = some d → vr.ownBlock = some d ∨ w'.heap.size ≤ d ∧ d < w''.heap.size) ∧ RowR w'' w'.heap.size vi (doK ⟨R, L⟩ x).1.its ∧ Below w'.heap.size w' w'') := Lib.hid (fun w' h => refDo_any vr L R x w' h hin.1 (by have := hin.2.2.2.1; simp only [] at this; omega) hxo (by have := hin.2.1; have := hin.2.2.1; simp only [] at *; omega))
        have HSD : Hid (∀ w', KvW w w' g P ⟨R, L⟩ → Calls Try.prog 21 #[ptr g, opV x] w' fun e w'' => ∃ ao c P', e = .returned (kres (doK ⟨R, L⟩ x).1 (.slice ao (doK ⟨R, L⟩ x).1.its.length c)) ∧ RowI w'' w'.heap.size (.slice ao (doK ⟨R, L⟩ x).1.its.length c) (doK ⟨R, L⟩ x).1.its ∧ KvW w w'' g P' (doK ⟨R, L⟩ x).2 ∧ (∀ k, k < w'.heap.size → ¬ P k → w''.heap[k]? = w'.heap[k]?) ∧ w'.heap.size ≤ w''.heap.size ∧ (∀ i, P' i → P i ∨ w'.heap.size ≤ i)) := Lib.hid (fun w' h => (do_step x h hxo.1 hxo.2.2 hin.1 (by have := hin.2.2.2.1; simp only [] at this ⊢; omega) (by have := hin.2.1; have := hin.2.2.1; simp only [] at *; omega)).mono (by
          rintro e w'' ⟨ao, c, P', h1, h2, h3, _, h5, h6, h7⟩
          exact ⟨ao, c, P', h1, h2, h3, h5, h6, h7⟩))
        have HPI : Hid ((planK ⟨R, L⟩ x).1.its.length ≤ maxLen ∧ (doK ⟨R, L⟩ x).1.its.length ≤ maxLen) := Lib.hid (by
          have hp : (planK ⟨R, L⟩ x).1.its.length ≤ L.length := by
            unfold planK
            split
            · simp
            · split
              · exact beginL_le L _
              · split <;> simp
          have hq : (doK ⟨R, L⟩ x).1 = (planK ⟨R, L⟩ x).1 := rfl
          rw [hq]
          have := hin.2.2.2.1
          simp only [] at this
          unfold maxLen
          omega)
        generalize doK ⟨R, L⟩ x = dk at HRD HSD HPI hin2
        obtain ⟨⟨dc, dr, dv, di⟩, ⟨R2, L2⟩⟩ := dk
        generalize planK ⟨R, L⟩ x = pl at HPl HRP HPI
        obtain ⟨⟨rc, rr, rv, ri⟩, ⟨ek, ev, er, eg⟩, wr2⟩ := pl
        simp only [] at HPl HRP HRD HSD HPI hin2
        have HIN := Lib.hid hin2
        clear hk hd hin hxo hin2
        go_upto_region 7 with (first
          | (go_at_call 16; refine (HO.out _).mono ?_; rintro e w2 ⟨rfl, hb2⟩)
          | go_in)
        obtain ⟨W6, hW6, hb6, hz6, h7, h8⟩ := two_new w2 (opO x) (opR x)
        change Code.wp _ _ _ _ ((w2.alloc (opO x)).alloc (opR x))
        rw [← hW6]
        obtain ⟨b7, hb7⟩ : ∃ b7, b7 = w2.heap.size := ⟨_, rfl⟩
        rw [← hb7] at h7 h8 ⊢
        have hb26 : Below wr.heap.size wr W6 := bel (bel (belNew wr (opR o)) hb2) hb6
        have HA := Lib.hid (And.intro (HX.out.1.below hb26) (And.intro (HX.out.2.1.below hb26) (And.intro h7 (And.intro h8 (heap_lt HX.out.2.1.2.1)))))
        have hw2 : wr.heap.size ≤ b7 := by rw [hb7]; exact (bel (belNew wr (opR o)) hb2).size
        have HBb : Hid (B < b7) := Lib.hid (Nat.lt_of_lt_of_le (heap_lt HX.out.2.1.2.1) hw2)
        have HPb : Hid (∀ i, P i → i < b7) := Lib.hid (fun i hi => Nat.lt_of_lt_of_le (HX.out.1.1.own i hi) hw2)
        obtain ⟨k0, k1, k2, k3, k4, k5⟩ := opcells h7
        clear hW6 hb6 hz6 h7 h8 hb7 hb26 hb2 hw2 q0 q1 q2 q3 q4 q5 HO
        go_upto_region 8 with (first
          | (go_at_call 17; refine (HPl.out W6 HA.out.1.1).mono ?_; rintro e w7 ⟨va, rfl, hra, hb7⟩; obtain ⟨aoA, nA, cA, rfl⟩ := row_slice hra)
          | go_in)
        obtain ⟨W7, hW7, hb77, hz7, h9, h10⟩ := two_new w7 (resO rc rr rv (.slice aoA nA cA)) (effO ⟨ek, ev, er, eg⟩)
        change Code.wp _ _ _ _ ((w7.alloc (resO rc rr rv (.slice aoA nA cA))).alloc (effO ⟨ek, ev, er, eg⟩))
        rw [← hW7]
        have hbb : Below W6.heap.size W6 W7 := bel hb7 hb77
        have HB7 := Lib.hid (And.intro (HA.out.1.below hbb) (And.intro (HA.out.2.1.below hbb) (And.intro ((hbb.block _ (heap_lt HA.out.2.2.1)).trans HA.out.2.2.1) (And.intro ((hbb.block _ (heap_lt HA.out.2.2.2.1)).trans HA.out.2.2.2.1) (And.intro h9 (And.intro h10 ((RowE.sees hra).below hb77)))))))
        clear k0 k1 k2 k3 k4 k5 hW7 hb77 hz7 h9 h10 hra hb7 hbb HPl
        obtain ⟨k0, k1, k2, k3, k4, k5⟩ := opcells HB7.out.2.2.2.1
        have s0 := cell0 HB7.out.2.1.2.1
        have s1 := cell1 HB7.out.2.1.2.1
        go_upto_region 9 with (first
          | (go_at_call 18; refine (HRP.out W7 HB7.out.2.1.2.2.1).mono ?_; rintro e w8 ⟨vb, rfl, hrb, hb8⟩; obtain ⟨aoB, nB, cB, rfl⟩ := row_slice hrb)
          | go_in)
        obtain ⟨W8, hW8, hb88, hz8, h12, h13⟩ := two_new w8 (resR rc rr rv (.slice aoB nB cB)) (effR9 ⟨ek, ev, er, eg⟩)
        change Code.wp _ _ _ _ ((w8.alloc (resR rc rr rv (.slice aoB nB cB))).alloc (effR9 ⟨ek, ev, er, eg⟩))
        rw [← hW8]
        have hbb : Below W7.heap.size W7 W8 := bel hb8 hb88
        have h9 := (hbb.block _ (heap_lt HB7.out.2.2.2.2.1)).trans HB7.out.2.2.2.2.1
        have h10 := (hbb.block _ (heap_lt HB7.out.2.2.2.2.2.1)).trans HB7.out.2.2.2.2.2.1
        have HSm := Lib.hid (same9_yes ⟨rc, rr, rv, ri⟩ (.slice aoA nA cA) (.slice aoB nB cB) W8 (HB7.out.2.2.2.2.2.2.below hbb) ((RowE.sees hrb).below hb88) HPI.out.1)
        have HC8 := Lib.hid (And.intro (HB7.out.1.below hbb) (And.intro (HB7.out.2.1.below hbb) (And.intro ((hbb.block _ (heap_lt HB7.out.2.2.1)).trans HB7.out.2.2.1) (And.intro ((hbb.block _ (heap_lt HB7.out.2.2.2.1)).trans HB7.out.2.2.2.1) (And.intro h10 h13)))))
        clear k0 k1 k2 k3 k4 k5 s0 s1 hW8 hb88 hz8 hrb hb8 hbb HRP h10 h13
        obtain ⟨m0, m1, m2, m3⟩ := resA h9
        obtain ⟨n0, n1, n2, n3⟩ := resA h12
        clear h9 h12
        have hne : ∀ w', (binOp .neq 38 (.agg #[.string ek, .string ev, .int .i64 er, .bool eg]) (.agg #[.string ek, .string ev, .int .i64 er, .bool eg])).run Try.prog w' = .ok (.bool false) w' := fun w' => by rw [neEff]; simp
        have hwn : (wr2 != wr2) = false := by simp
        go_upto_region 11 with (first
          | (go_at_call 19; refine HSm.out.mono ?_; rintro e w9 ⟨rfl, hb9⟩; have h10 := (hb9.block _ (heap_lt HC8.out.2.2.2.2.1)).trans HC8.out.2.2.2.2.1; have h13 := (hb9.block _ (heap_lt HC8.out.2.2.2.2.2)).trans HC8.out.2.2.2.2.2; obtain ⟨y0, y1, y2, y3⟩ := eff_cells h10; obtain ⟨z0, z1, z2, z3⟩ := eff_cells h13; clear h10 h13)
          | go_in)
        have HD9 := Lib.hid (And.intro (HC8.out.1.below hb9) (And.intro (HC8.out.2.1.below hb9) (And.intro ((hb9.block _ (heap_lt HC8.out.2.2.1)).trans HC8.out.2.2.1) ((hb9.block _ (heap_lt HC8.out.2.2.2.1)).trans HC8.out.2.2.2.1))))
        clear y0 y1 y2 y3 z0 z1 z2 z3 m0 m1 m2 m3 n0 n1 n2 n3 hne hwn hb9 HC8 HSm
        obtain ⟨k0, k1, k2, k3, k4, k5⟩ := opcells HD9.out.2.2.2
        have s0 := cell0 HD9.out.2.1.2.1
        have s1 := cell1 HD9.out.2.1.2.1
        go_upto_region 12 with (first
          | (go_at_call 20; refine (HRD.out w9 HD9.out.2.1.2.2.1).mono ?_; rintro e w10 ⟨vs, vi, rfl, hs10, hown10, hrow10, hb10⟩; obtain ⟨ao8, c8, hve, -⟩ := id hs10; subst hve; obtain ⟨ao9, n9, c9, rfl⟩ := row_slice hrow10)
          | go_in)
        obtain ⟨W10, hW10, hb1010, hz10, h15, h16⟩ := two_new w10 (stO R2 (.slice ao8 L2.length c8)) (resR dc dr dv (.slice ao9 n9 c9))
        change Code.wp _ _ _ _ ((w10.alloc (stO R2 (.slice ao8 L2.length c8))).alloc (resR dc dr dv (.slice ao9 n9 c9)))
        rw [← hW10]
        have hbb : Below w9.heap.size w9 W10 := bel hb10 hb1010
        have hB10 := (hbb.block _ (heap_lt HD9.out.2.1.2.1)).trans HD9.out.2.1.2.1
        have h7 := (hbb.block _ (heap_lt HD9.out.2.2.1)).trans HD9.out.2.2.1
        have hk10 := HD9.out.1.below hbb
        have hPw9 : ∀ i, P i → i < w9.heap.size := HD9.out.1.1.own
        have hdoc : DocAt (put2 W10 B (.int .i64 R2) (.slice ao8 L2.length c8)) B P ⟨R2, L2⟩ (.slice ao8 L2.length c8) := DocAt.put (S' := ⟨R2, L2⟩) HD9.out.2.1 hbb (hs10.below hb1010) (fun d hd => (hown10 d hd).imp id (fun h => ⟨h.1, Nat.lt_of_lt_of_le h.2 hb1010.size⟩)) hPw9
        have hBlt := heap_lt HD9.out.2.1.2.1
        have hb7lt := heap_lt HD9.out.2.2.1
        have hsz10 := hb10.size
        have hb7le : b7 ≤ w10.heap.size := by omega
        have g7 : (put2 W10 B (.int .i64 R2) (.slice ao8 L2.length c8)).heap[b7]? = some (opO x) := (put2_ne (by have := HBb.out; omega) _ _).trans h7
        have g16 : (put2 W10 B (.int .i64 R2) (.slice ao8 L2.length c8)).heap[w10.heap.size + 1]? = some (resR dc dr dv (.slice ao9 n9 c9)) := (put2_ne (by omega) _ _).trans h16
        have gvi : SeesI (put2 W10 B (.int .i64 R2) (.slice ao8 L2.length c8)) (.slice ao9 n9 c9) di := ((RowE.sees hrow10).below hb1010).keep (fun d hd _ => put2_ne (show d ≠ B from fun e => by have := (World.ownsRow.lt hrow10 d hd).1; omega) _ _)
        have HE10 := Lib.hid (And.intro (hk10.put2 HD9.out.2.1.1 HBw.out (.int .i64 R2) (.slice ao8 L2.length c8)) (And.intro hdoc (And.intro g7 (And.intro g16 (And.intro gvi (own_not hrow10 hPw9))))))
        clear g7 g16 gvi
        have t0 := cell0 h15
        have t1 := cell1 h15
        have x0 := cell0 hB10
        have x1 := cell1 hB10
        have f0 := froz hB10 0
        have f1 := froz hB10 1
        clear k0 k1 k2 k3 k4 k5 s0 s1 hW10 hb1010 hz10 h15 h16 hbb hB10 h7 hk10 hPw9 hdoc hBlt hb7lt hsz10 hb10 hrow10 hown10 hs10 HRD HD9
        go_upto_region 13 with fail
        change Code.wp _ _ _ _ (put2 W10 B (.int .i64 R2) (.slice ao8 L2.length c8))
        generalize put2 W10 B (.int .i64 R2) (.slice ao8 L2.length c8) = w11 at HE10 ⊢
        clear t0 t1 x0 x1 f0 f1
        have HLT16 : Hid (b7 ≤ w10.heap.size) := Lib.hid hb7le
        clear hb7le
        have hnr : (R2 != R2) = false := by simp
        have hnl : ((L2.length : Int) != (L2.length : Int)) = false := by simp
        refine wp_region_held_drew (S := (fun X => X.heap[b7]? = some (opO x) ∧ X.heap[w10.heap.size + 1]? = some (resR dc dr dv (.slice ao9 n9 c9)) ∧ X.heap[B]? = some (stO R2 (.slice ao8 L2.length c8)))) (by kernel_rfl) ?_ (fun r0 => ?_)
        · exact ⟨HE10.out.2.2.1, HE10.out.2.2.2.1, HE10.out.2.1.2.1⟩
        obtain ⟨wd, hwd⟩ : ∃ wd, wd = w11.drew := ⟨_, rfl⟩
        rw [← hwd] at r0 ⊢
        have hbd : Below w11.heap.size w11 wd := by rw [hwd]; exact bdrew (Below.refl _ _)
        have HF := Lib.hid (And.intro (HE10.out.1.below hbd) (And.intro (HE10.out.2.1.below hbd) (And.intro (HE10.out.2.2.2.2.1.below hbd) HE10.out.2.2.2.2.2)))
        clear hwd hbd
        refine wpAnyH_take (i := 0) (v := ?_) rfl (by kernel_rfl) (by kernel_rfl) (by kernel_rfl) (fun _ _ _ h => h) (Or.inl ⟨by rfl, ?_⟩) (by assumption) ?_
        rotate_left
        · intro wS hSw
          (try dsimp only at hSw)
          go_simp
          first | done | with_reducible rfl
        try simp only [Act.put, List.getElem_toArray, List.getElem_cons_zero, List.setIfInBounds_toArray, List.set_cons_zero, List.set_cons_succ]
        refine wpAnyH_take (i := 1) (v := ?_) rfl (by kernel_rfl) (by kernel_rfl) (by kernel_rfl) (fun _ _ _ h => h) (Or.inl ⟨by rfl, ?_⟩) (by assumption) ?_
        rotate_left
        · intro wS hSw
          (try dsimp only at hSw)
          obtain ⟨g7, g16, gB⟩ := hSw
          obtain ⟨k0, k1, k2, k3, k4, k5⟩ := opcells g7
          obtain ⟨n0, n1, n2, n3⟩ := resA g16
          have s0 := cell0 gB
          have s1 := cell1 gB
          go_simp
          first | done | with_reducible rfl
        try simp only [Act.put, List.getElem_toArray, List.getElem_cons_succ, List.getElem_cons_zero, List.setIfInBounds_toArray, List.set_cons_zero, List.set_cons_succ]
        refine wpAnyH_take (i := 3) (v := ?_) rfl (by kernel_rfl) (by kernel_rfl) (by kernel_rfl) (fun _ _ _ h => h) (Or.inl ⟨by rfl, ?_⟩) (by assumption) ?_
        rotate_left
        · intro wS hSw
          (try dsimp only at hSw)
          obtain ⟨g7, g16, gB⟩ := hSw
          obtain ⟨k0, k1, k2, k3, k4, k5⟩ := opcells g7
          obtain ⟨n0, n1, n2, n3⟩ := resA g16
          have s0 := cell0 gB
          have s1 := cell1 gB
          go_simp
          first | done | with_reducible rfl
        try simp only [Act.put, List.getElem_toArray, List.getElem_cons_succ, List.getElem_cons_zero, List.setIfInBounds_toArray, List.set_cons_zero, List.set_cons_succ]
        refine wpAnyH_ready (rs := [2]) (by kernel_rfl) (by simp) ?_
        refine AllReadyH.cons rfl (fun K hK => ?_) AllReadyH.nil
        go_simp
        refine (HSD.out wd HF.out.1).mono ?_; rintro e w12 ⟨ao12, c12, P12, rfl, hrow12, hk12, hkeep12, hz12, hP12⟩
        have hd12 := HF.out.2.1.step hkeep12 hz12 hP12
        have hvi := HF.out.2.2.1.keep (w' := w12) (fun d hd hl => hkeep12 d hl (HF.out.2.2.2 d hd))
        have h7k := (hkeep12 b7 (heap_lt r0.1) (fun hp => by have := HPb.out b7 hp; omega)).trans r0.1
        have h16k := (hkeep12 _ (heap_lt r0.2.1) (fun hp => by have := HPb.out _ hp; have := HBb.out; have := HLT16.out; omega)).trans r0.2.1
        refine hK.out _ _ ?_ (fun r1 => ?_)
        · exact ⟨h7k, h16k, hd12.2.1⟩
        try simp only [Act.put, List.getElem_toArray, List.getElem_cons_succ, List.getElem_cons_zero, List.setIfInBounds_toArray, List.set_cons_zero, List.set_cons_succ]
        refine wpAnyH_ready (rs := [4]) (by kernel_rfl) (by simp) ?_
        refine AllReadyH.cons rfl (fun K hK => ?_) AllReadyH.nil
        go_simp
        refine (same9_yes ⟨dc, dr, dv, di⟩ (.slice ao12 di.length c12) (.slice ao9 n9 c9) w12 (RowE.sees hrow12) hvi HPI.out.2).mono ?_; rintro e w13 ⟨rfl, hb13⟩
        have hk13 := hk12.below hb13
        have hd13 := hd12.below hb13
        refine hK.out _ _ ?_ (fun r2 => ?_)
        · exact ⟨(hb13.block _ (heap_lt h7k)).trans h7k, (hb13.block _ (heap_lt h16k)).trans h16k, hd13.2.1⟩
        try simp only [Act.put, List.getElem_toArray, List.getElem_cons_succ, List.getElem_cons_zero, List.setIfInBounds_toArray, List.set_cons_zero, List.set_cons_succ]
        refine wpAnyH_take (i := 5) (v := ?_) rfl (by kernel_rfl) (by kernel_rfl) (by kernel_rfl) (fun _ _ _ h => h) (Or.inl ⟨by rfl, ?_⟩) (by assumption) ?_
        rotate_left
        · intro wS hSw
          (try dsimp only at hSw)
          go_simp
          first | done | with_reducible rfl
        try simp only [Act.put, List.getElem_toArray, List.getElem_cons_succ, List.getElem_cons_zero, List.setIfInBounds_toArray, List.set_cons_zero, List.set_cons_succ]
        refine wpAnyH_take (i := 6) (v := ?_) rfl (by kernel_rfl) (by kernel_rfl) (by kernel_rfl) (fun _ _ _ h => h) (Or.inl ⟨by rfl, ?_⟩) (by assumption) ?_
        rotate_left
        · intro wS hSw
          (try dsimp only at hSw)
          go_simp
          first | done | with_reducible rfl
        try simp only [Act.put, List.getElem_toArray, List.getElem_cons_succ, List.getElem_cons_zero, List.setIfInBounds_toArray, List.set_cons_zero, List.set_cons_succ]
        refine wpAnyH_take (i := 7) (v := ?_) rfl (by kernel_rfl) (by kernel_rfl) (by kernel_rfl) (fun _ _ _ h => h) (Or.inl ⟨by rfl, ?_⟩) (by assumption) ?_
        rotate_left
        · intro wS hSw
          (try dsimp only at hSw)
          go_simp
          first | done | with_reducible rfl
        try simp only [Act.put, List.getElem_toArray, List.getElem_cons_succ, List.getElem_cons_zero, List.setIfInBounds_toArray, List.set_cons_zero, List.set_cons_succ]
        refine wpAnyH_take (i := 9) (v := ?_) rfl (by kernel_rfl) (by kernel_rfl) (by kernel_rfl) (fun _ _ _ h => h) (Or.inl ⟨by rfl, ?_⟩) (by assumption) ?_
        rotate_left
        · intro wS hSw
          (try dsimp only at hSw)
          go_simp
          first | done | with_reducible rfl
        try simp only [Act.put, List.getElem_toArray, List.getElem_cons_succ, List.getElem_cons_zero, List.setIfInBounds_toArray, List.set_cons_zero, List.set_cons_succ]
        refine wpAnyH_take (i := 10) (v := ?_) rfl (by kernel_rfl) (by kernel_rfl) (by kernel_rfl) (fun _ _ _ h => h) (Or.inl ⟨by rfl, ?_⟩) (by assumption) ?_
        rotate_left
        · intro wS hSw
          (try dsimp only at hSw)
          obtain ⟨g7, g16, gB⟩ := hSw
          obtain ⟨k0, k1, k2, k3, k4, k5⟩ := opcells g7
          obtain ⟨n0, n1, n2, n3⟩ := resA g16
          have s0 := cell0 gB
          have s1 := cell1 gB
          go_simp
          first | done | with_reducible rfl
        try simp only [Act.put, List.getElem_toArray, List.getElem_cons_succ, List.getElem_cons_zero, List.setIfInBounds_toArray, List.set_cons_zero, List.set_cons_succ]
        refine wpAnyH_ready (rs := [8]) (by kernel_rfl) (by simp) ?_
        refine AllReadyH.cons rfl (fun K hK => ?_) AllReadyH.nil
        go_simp
        refine (rev_any g P12 ⟨R2, L2⟩ w13 hk13.1).mono ?_; rintro e wx ⟨rfl, rfl⟩
        refine hK.out _ _ ?_ (fun r3 => ?_)
        · exact r2
        try simp only 
        refine wpAnyH_take (i := 11) (v := ?_) rfl (by kernel_rfl) (by kernel_rfl) (by kernel_rfl) (fun _ _ _ h => h) (Or.inl ⟨by rfl, ?_⟩) (by assumption) ?_
        rotate_left
        · intro wS hSw
          (try dsimp only at hSw)
          go_simp
          first | done | with_reducible rfl
        try simp only [Act.put, List.getElem_toArray, List.getElem_cons_succ, List.getElem_cons_zero, List.setIfInBounds_toArray, List.set_cons_zero, List.set_cons_succ]
        refine wpAnyH_take (i := 12) (v := ?_) rfl (by kernel_rfl) (by kernel_rfl) (by kernel_rfl) (fun _ _ _ h => h) (Or.inl ⟨by rfl, ?_⟩) (by assumption) ?_
        rotate_left
        · intro wS hSw
          (try dsimp only at hSw)
          go_simp
          first | done | with_reducible rfl
        try simp only [Act.put, List.getElem_toArray, List.getElem_cons_succ, List.getElem_cons_zero, List.setIfInBounds_toArray, List.set_cons_zero, List.set_cons_succ]
        refine wpAnyH_take (i := 13) (v := ?_) rfl (by kernel_rfl) (by kernel_rfl) (by kernel_rfl) (fun _ _ _ h => h) (Or.inl ⟨by rfl, ?_⟩) (by assumption) ?_
        rotate_left
        · intro wS hSw
          (try dsimp only at hSw)
          go_simp
          first | done | with_reducible rfl
        try simp only [Act.put, List.getElem_toArray, List.getElem_cons_succ, List.getElem_cons_zero, List.setIfInBounds_toArray, List.set_cons_zero, List.set_cons_succ]
        refine wpAnyH_take (i := 14) (v := ?_) rfl (by kernel_rfl) (by kernel_rfl) (by kernel_rfl) (fun _ _ _ h => h) (Or.inl ⟨by rfl, ?_⟩) (by assumption) ?_
        rotate_left
        · intro wS hSw
          (try dsimp only at hSw)
          go_simp
          first | done | with_reducible rfl
        try simp only [Act.put, List.getElem_toArray, List.getElem_cons_succ, List.getElem_cons_zero, List.setIfInBounds_toArray, List.set_cons_zero, List.set_cons_succ]
        refine wpAnyH_take (i := 16) (v := ?_) rfl (by kernel_rfl) (by kernel_rfl) (by kernel_rfl) (fun _ _ _ h => h) (Or.inl ⟨by rfl, ?_⟩) (by assumption) ?_
        rotate_left
        · intro wS hSw
          (try dsimp only at hSw)
          go_simp
          first | done | with_reducible rfl
        try simp only [Act.put, List.getElem_toArray, List.getElem_cons_succ, List.getElem_cons_zero, List.setIfInBounds_toArray, List.set_cons_zero, List.set_cons_succ]
        refine wpAnyH_take (i := 17) (v := ?_) rfl (by kernel_rfl) (by kernel_rfl) (by kernel_rfl) (fun _ _ _ h => h) (Or.inl ⟨by rfl, ?_⟩) (by assumption) ?_
        rotate_left
        · intro wS hSw
          (try dsimp only at hSw)
          obtain ⟨g7, g16, gB⟩ := hSw
          obtain ⟨k0, k1, k2, k3, k4, k5⟩ := opcells g7
          obtain ⟨n0, n1, n2, n3⟩ := resA g16
          have s0 := cell0 gB
          have s1 := cell1 gB
          go_simp
          first | done | with_reducible rfl
        try simp only [Act.put, List.getElem_toArray, List.getElem_cons_succ, List.getElem_cons_zero, List.setIfInBounds_toArray, List.set_cons_zero, List.set_cons_succ]
        refine wpAnyH_take (i := 18) (v := ?_) rfl (by kernel_rfl) (by kernel_rfl) (by kernel_rfl) (fun _ _ _ h => h) (Or.inl ⟨by rfl, ?_⟩) (by assumption) ?_
        rotate_left
        · intro wS hSw
          (try dsimp only at hSw)
          go_simp
          first | done | with_reducible rfl
        try simp only [Act.put, List.getElem_toArray, List.getElem_cons_succ, List.getElem_cons_zero, List.setIfInBounds_toArray, List.set_cons_zero, List.set_cons_succ]
        refine wpAnyH_ready (rs := [15]) (by kernel_rfl) (by simp) ?_
        refine AllReadyH.cons rfl (fun K hK => ?_) AllReadyH.nil
        go_simp
        refine (len_any g P12 ⟨R2, L2⟩ w13 hk13.1).mono ?_; rintro e wx ⟨rfl, rfl⟩
        refine hK.out _ _ ?_ (fun r4 => ?_)
        · exact r2
        try simp only 
        refine wpAnyH_take (i := 19) (v := ?_) rfl (by kernel_rfl) (by kernel_rfl) (by kernel_rfl) (fun _ _ _ h => h) (Or.inl ⟨by rfl, ?_⟩) (by assumption) ?_
        rotate_left
        · intro wS hSw
          (try dsimp only at hSw)
          go_simp
          first | done | with_reducible rfl
        try simp only [Act.put, List.getElem_toArray, List.getElem_cons_succ, List.getElem_cons_zero, List.setIfInBounds_toArray, List.set_cons_zero, List.set_cons_succ]
        refine wpAnyH_take (i := 20) (v := ?_) rfl (by kernel_rfl) (by kernel_rfl) (by kernel_rfl) (fun _ _ _ h => h) (Or.inl ⟨by rfl, ?_⟩) (by assumption) ?_
        rotate_left
        · intro wS hSw
          (try dsimp only at hSw)
          go_simp
          first | done | with_reducible rfl
        try simp only [Act.put, List.getElem_toArray, List.getElem_cons_succ, List.getElem_cons_zero, List.setIfInBounds_toArray, List.set_cons_zero, List.set_cons_succ]
        refine wpAnyH_done (by kernel_rfl) ?_ _
        go_wp2_with fail
        go_roundw
        case rel => exact ⟨i + 1, ⟨R2, L2⟩, P12, _, by omega, by go_num, hk13, hd13, by rw [Nat.min_eq_left (by omega)]; exact HIN.out⟩
        case measure => simp [intOf]; omega
      · have d1 : decide (40 ≤ (i : Int)) = true := by simp; omega
        obtain ⟨W6, hW6⟩ : ∃ W6, W6 = wr.alloc (opR o) := ⟨_, rfl⟩
        have hb6 : Below wr.heap.size wr W6 := by rw [hW6]; exact belNew _ _
        have HW6 := Lib.hid hW6
        have HZ := Lib.hid (And.intro (hk.below hb6) (And.intro (hd.below hb6) (And.intro hinv.1 (show L.length ≤ 40 by have := hinv.2.2.2.1; simp only [] at this; omega))))
        clear hokx hinv hk hd hW6 hb6
        go_upto_region 16 with fail
        change Code.wp _ _ _ _ (wr.alloc (opR o))
        rw [← HW6.out]
        obtain ⟨aoB, cB, hve, -⟩ := id HZ.out.2.1.2.2.1
        try simp only [] at hve
        subst hve
        refine wp_region_held_drew (S := (fun X => X.heap[B]? = some (stO R (.slice aoB L.length cB)))) (by kernel_rfl) ?_ (fun r0 => ?_)
        · exact HZ.out.2.1.2.1
        obtain ⟨wd, hwd⟩ : ∃ wd, wd = W6.drew := ⟨_, rfl⟩
        rw [← hwd] at r0 ⊢
        have hbd : Below W6.heap.size W6 wd := by rw [hwd]; exact bdrew (Below.refl _ _)
        have HF := Lib.hid (And.intro (HZ.out.1.below hbd) (HZ.out.2.1.2.2.1.below hbd))
        clear hwd hbd
        refine wpAnyH_take (i := 0) (v := ?_) rfl (by kernel_rfl) (by kernel_rfl) (by kernel_rfl) (fun _ _ _ h => h) (Or.inl ⟨by rfl, ?_⟩) (by assumption) ?_
        rotate_left
        · intro wS hSw
          (try dsimp only at hSw)
          go_simp
          first | done | with_reducible rfl
        try simp only [Act.put, List.getElem_toArray, List.getElem_cons_zero, List.setIfInBounds_toArray, List.set_cons_zero, List.set_cons_succ]
        refine wpAnyH_take (i := 2) (v := ?_) rfl (by kernel_rfl) (by kernel_rfl) (by kernel_rfl) (fun _ _ _ h => h) (Or.inl ⟨by rfl, ?_⟩) (by assumption) ?_
        rotate_left
        · intro wS hSw
          (try dsimp only at hSw)
          go_simp
          first | done | with_reducible rfl
        try simp only [Act.put, List.getElem_toArray, List.getElem_cons_succ, List.getElem_cons_zero, List.setIfInBounds_toArray, List.set_cons_zero, List.set_cons_succ]
        refine wpAnyH_take (i := 3) (v := ?_) rfl (by kernel_rfl) (by kernel_rfl) (by kernel_rfl) (fun _ _ _ h => h) (Or.inl ⟨by rfl, ?_⟩) (by assumption) ?_
        rotate_left
        · intro wS hSw
          (try dsimp only at hSw)
          have s0 := cell0 hSw
          have s1 := cell1 hSw
          go_simp
          first | done | with_reducible rfl
        try simp only [Act.put, List.getElem_toArray, List.getElem_cons_succ, List.getElem_cons_zero, List.setIfInBounds_toArray, List.set_cons_zero, List.set_cons_succ]
        refine wpAnyH_ready (rs := [1]) (by kernel_rfl) (by simp) ?_
        refine AllReadyH.cons rfl (fun K hK => ?_) AllReadyH.nil
        go_simp
        refine (all_any g P ⟨R, L⟩ wd HF.out.1.1 HZ.out.2.2.1 (by have := HZ.out.2.2.2; simp only []; omega)).mono ?_; rintro e w12 ⟨vq, rfl, hrq, hb12⟩
        refine hK.out _ _ ?_ (fun r1 => ?_)
        · exact (hb12.block _ (heap_lt r0)).trans r0
        try simp only [Act.put, List.getElem_toArray, List.getElem_cons_succ, List.getElem_cons_zero, List.setIfInBounds_toArray, List.set_cons_zero, List.set_cons_succ]
        refine wpAnyH_ready (rs := [4]) (by kernel_rfl) (by simp) ?_
        refine AllReadyH.cons rfl (fun K hK => ?_) AllReadyH.nil
        go_simp
        refine (same_yes vq _ L w12 (RowE.sees hrq) (HF.out.2.below hb12) (by have := HZ.out.2.2.2; unfold maxLen; omega)).mono ?_; rintro e w13 ⟨rfl, hb13⟩
        refine hK.out _ _ ?_ (fun r2 => ?_)
        · exact (hb13.block _ (heap_lt r1)).trans r1
        try simp only [Act.put, List.getElem_toArray, List.getElem_cons_succ, List.getElem_cons_zero, List.setIfInBounds_toArray, List.set_cons_zero, List.set_cons_succ]
        refine wpAnyH_take (i := 5) (v := ?_) rfl (by kernel_rfl) (by kernel_rfl) (by kernel_rfl) (fun _ _ _ h => h) (Or.inl ⟨by rfl, ?_⟩) (by assumption) ?_
        rotate_left
        · intro wS hSw
          (try dsimp only at hSw)
          go_simp
          first | done | with_reducible rfl
        try simp only [Act.put, List.getElem_toArray, List.getElem_cons_succ, List.getElem_cons_zero, List.setIfInBounds_toArray, List.set_cons_zero, List.set_cons_succ]
        refine wpAnyH_ready (rs := [6]) (by kernel_rfl) (by simp) ?_
        refine AllReadyH.cons rfl (fun K hK => ?_) AllReadyH.nil
        go_simp
        refine (awake9_any w13).mono ?_; rintro e w14 ⟨rfl, hb14⟩
        refine hK.out _ _ ?_ (fun r3 => ?_)
        · exact (hb14.block _ (heap_lt r2)).trans r2
        try simp only [Act.put, List.getElem_toArray, List.getElem_cons_succ, List.getElem_cons_zero, List.setIfInBounds_toArray, List.set_cons_zero, List.set_cons_succ]
        refine wpAnyH_take (i := 7) (v := ?_) rfl (by kernel_rfl) (by kernel_rfl) (by kernel_rfl) (fun _ _ _ h => h) (Or.inl ⟨by rfl, ?_⟩) (by assumption) ?_
        rotate_left
        · intro wS hSw
          (try dsimp only at hSw)
          go_simp
          first | done | with_reducible rfl
        try simp only [Act.put, List.getElem_toArray, List.getElem_cons_succ, List.getElem_cons_zero, List.setIfInBounds_toArray, List.set_cons_zero, List.set_cons_succ]
        refine wpAnyH_take (i := 8) (v := ?_) rfl (by kernel_rfl) (by kernel_rfl) (by kernel_rfl) (fun _ _ _ h => h) (Or.inl ⟨by rfl, ?_⟩) (by assumption) ?_
        rotate_left
        · intro wS hSw
          (try dsimp only at hSw)
          go_simp
          first | done | with_reducible rfl
        try simp only [Act.put, List.getElem_toArray, List.getElem_cons_succ, List.getElem_cons_zero, List.setIfInBounds_toArray, List.set_cons_zero, List.set_cons_succ]
        refine wpAnyH_done (by kernel_rfl) ?_ _
        go_wp2_with fail
        go_ret
        exact ⟨rfl, HF.out.1.2.2.trans ((bel hb12 (bel hb13 hb14)).mono HF.out.1.2.2.size)⟩
    · obtain rfl : i = os.length := by omega
      have HZ := Lib.hid (And.intro hk (And.intro hd (And.intro hinv.1 (show L.length ≤ 40 by have := hinv.2.2.2.1; simp only [] at this; omega))))
      clear hk hd hinv
      go_upto_region 16 with fail
      obtain ⟨aoB, cB, hve, -⟩ := id HZ.out.2.1.2.2.1
      try simp only [] at hve
      subst hve
      refine wp_region_held_drew (S := (fun X => X.heap[B]? = some (stO R (.slice aoB L.length cB)))) (by kernel_rfl) ?_ (fun r0 => ?_)
      · exact HZ.out.2.1.2.1
      obtain ⟨wd, hwd⟩ : ∃ wd, wd = wr.drew := ⟨_, rfl⟩
      rw [← hwd] at r0 ⊢
      have hbd : Below wr.heap.size wr wd := by rw [hwd]; exact bdrew (Below.refl _ _)
      have HF := Lib.hid (And.intro (HZ.out.1.below hbd) (HZ.out.2.1.2.2.1.below hbd))
      clear hwd hbd
      refine wpAnyH_take (i := 0) (v := ?_) rfl (by kernel_rfl) (by kernel_rfl) (by kernel_rfl) (fun _ _ _ h => h) (Or.inl ⟨by rfl, ?_⟩) (by assumption) ?_
      rotate_left
      · intro wS hSw
        (try dsimp only at hSw)
        go_simp
        first | done | with_reducible rfl
      try simp only [Act.put, List.getElem_toArray, List.getElem_cons_zero, List.setIfInBounds_toArray, List.set_cons_zero, List.set_cons_succ]
      refine wpAnyH_take (i := 2) (v := ?_) rfl (by kernel_rfl) (by kernel_rfl) (by kernel_rfl) (fun _ _ _ h => h) (Or.inl ⟨by rfl, ?_⟩) (by assumption) ?_
      rotate_left
      · intro wS hSw
        (try dsimp only at hSw)
        go_simp
        first | done | with_reducible rfl
      try simp only [Act.put, List.getElem_toArray, List.getElem_cons_succ, List.getElem_cons_zero, List.setIfInBounds_toArray, List.set_cons_zero, List.set_cons_succ]
      refine wpAnyH_take (i := 3) (v := ?_) rfl (by kernel_rfl) (by kernel_rfl) (by kernel_rfl) (fun _ _ _ h => h) (Or.inl ⟨by rfl, ?_⟩) (by assumption) ?_
      rotate_left
      · intro wS hSw
        (try dsimp only at hSw)
        have s0 := cell0 hSw
        have s1 := cell1 hSw
        go_simp
        first | done | with_reducible rfl
      try simp only [Act.put, List.getElem_toArray, List.getElem_cons_succ, List.getElem_cons_zero, List.setIfInBounds_toArray, List.set_cons_zero, List.set_cons_succ]
      refine wpAnyH_ready (rs := [1]) (by kernel_rfl) (by simp) ?_
      refine AllReadyH.cons rfl (fun K hK => ?_) AllReadyH.nil
      go_simp
      refine (all_any g P ⟨R, L⟩ wd HF.out.1.1 HZ.out.2.2.1 (by have := HZ.out.2.2.2; simp only []; omega)).mono ?_; rintro e w12 ⟨vq, rfl, hrq, hb12⟩
      refine hK.out _ _ ?_ (fun r1 => ?_)
      · exact (hb12.block _ (heap_lt r0)).trans r0
      try simp only [Act.put, List.getElem_toArray, List.getElem_cons_succ, List.getElem_cons_zero, List.setIfInBounds_toArray, List.set_cons_zero, List.set_cons_succ]
      refine wpAnyH_ready (rs := [4]) (by kernel_rfl) (by simp) ?_
      refine AllReadyH.cons rfl (fun K hK => ?_) AllReadyH.nil
      go_simp
      refine (same_yes vq _ L w12 (RowE.sees hrq) (HF.out.2.below hb12) (by have := HZ.out.2.2.2; unfold maxLen; omega)).mono ?_; rintro e w13 ⟨rfl, hb13⟩
      refine hK.out _ _ ?_ (fun r2 => ?_)
      · exact (hb13.block _ (heap_lt r1)).trans r1
      try simp only [Act.put, List.getElem_toArray, List.getElem_cons_succ, List.getElem_cons_zero, List.setIfInBounds_toArray, List.set_cons_zero, List.set_cons_succ]
      refine wpAnyH_take (i := 5) (v := ?_) rfl (by kernel_rfl) (by kernel_rfl) (by kernel_rfl) (fun _ _ _ h => h) (Or.inl ⟨by rfl, ?_⟩) (by assumption) ?_
      rotate_left
      · intro wS hSw
        (try dsimp only at hSw)
        go_simp
        first | done | with_reducible rfl
      try simp only [Act.put, List.getElem_toArray, List.getElem_cons_succ, List.getElem_cons_zero, List.setIfInBounds_toArray, List.set_cons_zero, List.set_cons_succ]
      refine wpAnyH_ready (rs := [6]) (by kernel_rfl) (by simp) ?_
      refine AllReadyH.cons rfl (fun K hK => ?_) AllReadyH.nil
      go_simp
      refine (awake9_any w13).mono ?_; rintro e w14 ⟨rfl, hb14⟩
      refine hK.out _ _ ?_ (fun r3 => ?_)
      · exact (hb14.block _ (heap_lt r2)).trans r2
      try simp only [Act.put, List.getElem_toArray, List.getElem_cons_succ, List.getElem_cons_zero, List.setIfInBounds_toArray, List.set_cons_zero, List.set_cons_succ]
      refine wpAnyH_take (i := 7) (v := ?_) rfl (by kernel_rfl) (by kernel_rfl) (by kernel_rfl) (fun _ _ _ h => h) (Or.inl ⟨by rfl, ?_⟩) (by assumption) ?_
      rotate_left
      · intro wS hSw
        (try dsimp only at hSw)
        go_simp
        first | done | with_reducible rfl
      try simp only [Act.put, List.getElem_toArray, List.getElem_cons_succ, List.getElem_cons_zero, List.setIfInBounds_toArray, List.set_cons_zero, List.set_cons_succ]
      refine wpAnyH_take (i := 8) (v := ?_) rfl (by kernel_rfl) (by kernel_rfl) (by kernel_rfl) (fun _ _ _ h => h) (Or.inl ⟨by rfl, ?_⟩) (by assumption) ?_
      rotate_left
      · intro wS hSw
        (try dsimp only at hSw)
        go_simp
        first | done | with_reducible rfl
      try simp only [Act.put, List.getElem_toArray, List.getElem_cons_succ, List.getElem_cons_zero, List.setIfInBounds_toArray, List.set_cons_zero, List.set_cons_succ]
      refine wpAnyH_done (by kernel_rfl) ?_ _
      go_wp2_with fail
      go_ret
      exact ⟨rfl, HF.out.1.2.2.trans ((bel hb12 (bel hb13 hb14)).mono HF.out.1.2.2.size)⟩
end Go.Proofs.Ytogcjginifcbpaa
