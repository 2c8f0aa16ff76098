/- The walk of KvGuards. Made by g_kvguardsw.py. -/
import Derived.Test.YtogcjginifcbpaaKvLoop
import Derived.Test.YtogcjginifcbpaaKvPlaysW
namespace Go.Proofs.Ytogcjginifcbpaa
open Go.RowKit Go.Maps
theorem opO_if {w : World} {g : Nat} {x : KOp} {t : TypeId} (h : w.heap[g]? = some (.cells #[.int .i64 x.kind, .string x.key, .string x.val, .int .i64 x.rev, .string x.iff, .int .i64 x.ifRev] t (0, 0))) (s : ByteArray) : (w.setCell ⟨g, 4, none⟩ (.string s)).heap[g]? = some (.cells #[.int .i64 x.kind, .string x.key, .string x.val, .int .i64 x.rev, .string s, .int .i64 x.ifRev] t (0, 0)) := by
  have := dset h 4 (.string s)
  simpa using this
theorem opO_ir {w : World} {g : Nat} {k r i : Int} {a b s : ByteArray} {t : TypeId} (h : w.heap[g]? = some (.cells #[.int .i64 k, .string a, .string b, .int .i64 r, .string s, .int .i64 i] t (0, 0))) (j : Int) : (w.setCell ⟨g, 5, none⟩ (.int .i64 j)).heap[g]? = some (.cells #[.int .i64 k, .string a, .string b, .int .i64 r, .string s, .int .i64 j] t (0, 0)) := by
  have := dset h 5 (.int .i64 j)
  simpa using this
theorem refB_1 : ∀ mw k3 th re ie st st' : Bool, (ie = true ∨ st = true) → refB mw k3 th re ie st false = refB mw k3 th re true st' false := by decide
theorem refB_2 : ∀ mw k3 th re ie st st' : Bool, ie = false → st = false → refB mw k3 th re true st' false = 0 → refB mw k3 th re ie st false = 8 := by decide
theorem refB_3 : ∀ mw k3 th re ie st st' : Bool, refB mw k3 th re true st' false ≠ 0 → refB mw k3 th re ie st false = refB mw k3 th re true st' false := by decide
theorem guard_same {S : KSt} {k r ir rev : Int} {a b key : ByteArray} (hm : (S.rev == 9223372036854775807) = false) (h : (key.toList == ([] : List UInt8)) = true ∨ stands S.L key rev = true ∨ (planK S ⟨k, a, b, r, emp, ir⟩).2.2 = false) : (planK S ⟨k, a, b, r, key, rev⟩).1 = (planK S ⟨k, a, b, r, emp, ir⟩).1 := by
  unfold planK
  by_cases h1 : k = 1
  · rw [if_pos h1, if_pos h1]
  · by_cases h2 : k = 2
    · rw [if_neg h1, if_pos h2, if_neg h1, if_pos h2]
    · rw [if_neg h1, if_neg h2, if_neg h1, if_neg h2]
      have e0 : ((emp : ByteArray).toList == ([] : List UInt8)) = true := by rw [ByteArray.toList_eq]; rfl
      have e : refuse S ⟨k, a, b, r, key, rev⟩ = refuse S ⟨k, a, b, r, emp, ir⟩ := by
        have hw : mayW ⟨k, a, b, r, key, rev⟩ = mayW ⟨k, a, b, r, emp, ir⟩ := rfl
        unfold refuse
        simp only [hm, e0, hw]
        rcases h with h | h | h
        · exact refB_1 _ _ _ _ _ _ _ (Or.inl h)
        · exact refB_1 _ _ _ _ _ _ _ (Or.inr h)
        · refine refB_3 _ _ _ _ _ _ _ (fun hz => ?_)
          unfold planK at h
          rw [if_neg h1, if_neg h2] at h
          have hz' : refuse S ⟨k, a, b, r, emp, ir⟩ = 0 := by unfold refuse; simp only [hm, e0]; exact hz
          rw [if_pos hz'] at h
          cases h
      rw [e]
      split <;> rfl
theorem guard_no {S : KSt} {k r ir rev : Int} {a b key : ByteArray} (hm : (S.rev == 9223372036854775807) = false) (h1 : (key.toList == ([] : List UInt8)) = false) (h2 : stands S.L key rev = false) (h3 : (planK S ⟨k, a, b, r, emp, ir⟩).2.2 = true) : doK S ⟨k, a, b, r, key, rev⟩ = (⟨8, 0, emp, []⟩, S) := by
  obtain ⟨-, hz, hk1, hk2⟩ := plan_write h3
  have e0 : ((emp : ByteArray).toList == ([] : List UInt8)) = true := by rw [ByteArray.toList_eq]; rfl
  have e : refuse S ⟨k, a, b, r, key, rev⟩ = 8 := by
    have hw : mayW ⟨k, a, b, r, key, rev⟩ = mayW ⟨k, a, b, r, emp, ir⟩ := rfl
    unfold refuse at hz ⊢
    simp only [hm, e0, hw] at hz ⊢
    exact refB_2 _ _ _ _ _ _ _ h1 h2 hz
  have hp : planK S ⟨k, a, b, r, key, rev⟩ = (⟨8, 0, emp, []⟩, eff0, false) := by
    unfold planK
    rw [if_neg hk1, if_neg hk2, if_neg (by rw [e]; decide), e]
  unfold doK
  rw [hp]
  rfl
theorem setc_below {n : Nat} {w W : World} (hb : Below n w W) {g : Nat} (hg : n ≤ g) (i : Nat) (x : Value) : Below n w (W.setCell ⟨g, i, none⟩ x) := hb.setCell (p := ⟨g, i, none⟩) hg x
theorem KvW.setc {w0 w : World} {g B i : Nat} {P : Nat → Prop} {S : KSt} (h : KvW w0 w g P S) (hB : ¬ P B) (hw : w0.heap.size ≤ B) (x : Value) : KvW w0 (w.setCell ⟨B, i, none⟩ x) g P S :=
  ⟨h.1.keep (touch_set w B i x) (fun j hj e => hB (by rw [← e]; exact hj)), h.2.1, setc_below h.2.2 hw i x⟩
theorem DocAt.setc {w : World} {B k i : Nat} {P : Nat → Prop} {S : KSt} {vr : Value} (h : DocAt w B P S vr) (hk : k ≠ B) (hv : ∀ d, vr.ownBlock = some d → d ≠ k) (x : Value) : DocAt (w.setCell ⟨k, i, none⟩ x) B P S vr :=
  h.same (Below.heap_setCell _ _ _ _ (by show B ≠ k; omega)) (fun d hd => Below.heap_setCell _ _ _ _ (hv d hd)) (by simp [World.setCell])
set_option maxRecDepth 100000 in
set_option maxHeartbeats 16000000 in
theorem lawKvGuards (w : World) (v : Value) (os : List KOp) (o0 : KOp) (key : ByteArray) (rev : Int) (h : ArgOps9 w v os) (ho0 : Op9Ok o0) (hkey : key.size ≤ maxLen) (_ : -9223372036854775808 ≤ rev) (_ : rev ≤ 9223372036854775807) : Calls Try.prog 8 #[v, opV o0, .string key, .int .i64 rev] w fun e w' => e = .returned (.bool true) ∧ Below w.heap.size w w' := by
  obtain ⟨⟨ao, c, rfl, hlc, hnil, hc⟩, hok, hlm⟩ := h
  have HC := Lib.hid (And.intro hnil (And.intro hc hok))
  have hlm2 : os.length ≤ 9223372036854775807 := by unfold maxLen at hlm; omega
  have HO0 := Lib.hid ho0
  have HKE := Lib.hid hkey
  obtain ⟨wA, hwA⟩ : ∃ wA, wA = w.alloc (opR o0) := ⟨_, rfl⟩
  have hbA : Below w.heap.size w wA := by rw [hwA]; exact belNew _ _
  have hxA : wA.heap[w.heap.size]? = some (opR o0) := by rw [hwA]; exact heap_alloc_new w _
  obtain ⟨b5, hb5⟩ : ∃ b5, b5 = w.heap.size := ⟨_, rfl⟩
  rw [← hb5] at hxA
  have HWA := Lib.hid (And.intro hwA (And.intro hbA hxA))
  clear hnil hc hok hlm ho0 hkey hwA hbA hxA
  go_enter Try.func8, Try.ntmps8
  go_upto_region 1 with fail
  change Code.wp _ _ _ _ (w.alloc (opR o0))
  rw [← HWA.out.1, ← hb5]
  have HB5 := Lib.hid hb5
  clear hb5
  go_upto_region 2 with (first
    | (go_at_call 15; refine (new_kv wA).mono ?_; rintro e w1 ⟨g, rfl, hka1, hg1, hb1⟩)
    | go_in)
  have hAl := heap_lt HWA.out.2.2
  have hk1 : KvW w w1 g (· = g) ⟨0, []⟩ := ⟨hka1, fun i e => by cases e; have := HWA.out.2.1.size; omega, HWA.out.2.1.trans (hb1.mono HWA.out.2.1.size)⟩
  obtain ⟨W1, hW1⟩ : ∃ W1, W1 = w1.alloc (stO 0 (.slice none 0 0)) := ⟨_, rfl⟩
  change Code.wp _ _ _ _ (w1.alloc (stO 0 (.slice none 0 0)))
  rw [← hW1]
  have hbW : Below w1.heap.size w1 W1 := by rw [hW1]; exact belNew _ _
  have hbox : W1.heap[w1.heap.size]? = some (stO 0 (.slice none 0 0)) := by rw [hW1]; exact heap_alloc_new w1 _
  obtain ⟨B, hB⟩ : ∃ B, B = w1.heap.size := ⟨_, rfl⟩
  rw [← hB] at hbox ⊢
  have hd2 : DocAt W1 B (· = g) ⟨0, []⟩ (.slice none 0 0) := DocAt.start (by have := hk1.1.lt; show ¬ B = g; omega) hbox
  have HBw : Hid (w.heap.size ≤ B) := Lib.hid (by rw [hB]; exact hk1.2.2.size)
  have hg5 : ¬ b5 = g := fun e => by have := HB5.out; omega
  have hx1 := (hb1.block b5 (heap_lt HWA.out.2.2)).trans HWA.out.2.2
  have hxW := (hbW.block b5 (heap_lt hx1)).trans hx1
  have HST := Lib.hid (And.intro (hk1.below hbW) (And.intro hd2 (And.intro (show FrameOk (fun k => k = b5) W1 B (· = g) W1 from ⟨Nat.le_refl _, fun k hk => by
    cases hk
    exact ⟨hg5, heap_lt hxW, by have := heap_lt hx1; omega, rfl⟩⟩) hxW)))
  clear hW1 hbW hbox hB hk1 hb1 hd2 hg5 hx1 hxW hka1 hg1 hAl
  go_wp2_with fail
  go_loopw [25] (fun j wr => ∃ (i : Nat) (S : KSt) (P : Nat → Prop) (vr : Value), i ≤ os.length ∧ j = .int .i64 i ∧ KvW w wr g P S ∧ DocAt wr B P S vr ∧ KInv S (min i 12) ∧ Aside (FrameOk (fun k => k = b5) W1 B P wr) ∧ Aside (KGood S)) (fun j _ => os.length - (intOf j).toNat)
  case atStart => exact ⟨0, ⟨0, []⟩, _, _, Nat.zero_le _, rfl, HST.out.1, HST.out.2.1, KInv.zero, HST.out.2.2.1, KGood.zero⟩
  case round =>
    obtain ⟨i, ⟨R, L⟩, P, vr, hi, rfl, hk, hd, hinv, hfr, hgd⟩ := hrel
    by_cases hlt : i < os.length
    · obtain ⟨a, rfl⟩ : ∃ a, ao = some a := by
        cases ao with
        | none => rw [HC.out.1 rfl] at hlt; simp at hlt
        | some a => exact ⟨a, rfl⟩
      have hop := HC.out.2.1 a rfl i hlt
      have hokx := HC.out.2.2 (os.getD i default) (by rw [List.getD_eq_getElem?_getD, List.getElem?_eq_getElem hlt]; exact List.getElem_mem hlt)
      generalize os.getD i default = o at hop hokx
      obtain ⟨q0, q1, q2, q3, q4, q5⟩ := hop
      have q0 := bcell hk.2.2 q0
      have q1 := off1 (bcell hk.2.2 q1)
      have q2 := off2 (bcell hk.2.2 q2)
      have q3 := off3 (bcell hk.2.2 q3)
      have q4 := off4 (bcell hk.2.2 q4)
      have q5 := off5 (bcell hk.2.2 q5)
      have b0 : (0 : Int) ≤ (i : Int) := by omega
      have b1 : (i : Int) < (os.length : Int) := by omega
      by_cases hN : i < 12
      · have d1 : decide ((i : Int) < 12) = true := by simp; omega
        have hin : KInv ⟨R, L⟩ i := by rwa [Nat.min_eq_left (by omega)] at hinv
        have HO := Lib.hid (ours_any o)
        have hxo := ours_ok hokx
        have hxv : (ours o).val.size ≤ 100 := cutB_le _ _
        clear hokx hinv
        generalize ours o = x at HO hxo hxv
        have hin2 := And.intro (doK_inv hin x) (doK_good hgd.out hin.2.1 x hxv)
        have HX := Lib.hid (And.intro hk (And.intro hd (And.intro hin (And.intro hxo hfr.out))))
        have HRD : Hid (∀ w', SeesI w' vr L → Calls Try.prog 20 #[stV R vr, opV x] w' fun e w'' => ∃ vs vi, e = .returned (.tuple #[stV (doK ⟨R, L⟩ x).2.rev vs, kres (doK ⟨R, L⟩ x).1 vi]) ∧ SeesI w'' vs (doK ⟨R, L⟩ x).2.L ∧ (∀ d, vs.ownBlock = some d → vr.ownBlock = some d ∨ w'.heap.size ≤ d ∧ d < w''.heap.size) ∧ RowR w'' w'.heap.size vi (doK ⟨R, L⟩ x).1.its ∧ Below w'.heap.size w' w'') := Lib.hid (fun w' h => refDo_any vr L R x w' h hin.1 (by have := hin.2.2.2.1; simp only [] at this; omega) hxo (by have := hin.2.1; have := hin.2.2.1; simp only [] at *; omega))
        have HSD : Hid (∀ w', KvW w w' g P ⟨R, L⟩ → Calls Try.prog 21 #[ptr g, opV x] w' fun e w'' => ∃ v P', e = .returned v ∧ KvW w w'' g P' (doK ⟨R, L⟩ x).2 ∧ (∀ k, k < w'.heap.size → ¬ P k → w''.heap[k]? = w'.heap[k]?) ∧ w'.heap.size ≤ w''.heap.size ∧ (∀ i, P' i → P i ∨ w'.heap.size ≤ i)) := Lib.hid (fun w' h => (do_step x h hxo.1 hxo.2.2 hin.1 (by have := hin.2.2.2.1; simp only [] at this ⊢; omega) (by have := hin.2.1; have := hin.2.2.1; simp only [] at *; omega)).mono (by
          rintro e w'' ⟨ao, c, P', h1, h2, h3, _, h5, h6, h7⟩
          exact ⟨_, P', h1, h3, h5, h6, h7⟩))
        generalize doK ⟨R, L⟩ x = dk at HRD HSD hin2
        obtain ⟨⟨dc, dr, dv, di⟩, ⟨R2, L2⟩⟩ := dk
        simp only [] at HRD HSD hin2
        have HIN := Lib.hid hin2
        have HLT := Lib.hid hlt
        clear hk hd hin hxo hxv hin2 hfr hgd
        go_upto_region 7 with (first
          | (go_at_call 16; refine (HO.out _).mono ?_; rintro e w2 ⟨rfl, hb2⟩)
          | go_in)
        obtain ⟨W6, hW6, hb6, hz6, h7, h8⟩ := two_new w2 (opO x) (opR x)
        change Code.wp _ _ _ _ ((w2.alloc (opO x)).alloc (opR x))
        rw [← hW6]
        obtain ⟨b7, hb7⟩ : ∃ b7, b7 = w2.heap.size := ⟨_, rfl⟩
        rw [← hb7] at h7 h8 ⊢
        have hb26 : Below wr.heap.size wr W6 := bel (bel (belNew wr (opR o)) hb2) hb6
        have hw2 : wr.heap.size ≤ b7 := by rw [hb7]; exact (bel (belNew wr (opR o)) hb2).size
        have HA := Lib.hid (And.intro (HX.out.1.below hb26) (And.intro (HX.out.2.1.below hb26) (And.intro h8 (And.intro (HX.out.2.2.2.2.below hb26) (show ∀ i, P i → i < b7 from fun i hi => Nat.lt_of_lt_of_le (HX.out.1.1.own i hi) hw2)))))
        obtain ⟨k0, k1, k2, k3, k4, k5⟩ := opcells h7
        clear hW6 hb6 hz6 h7 h8 hb7 hb26 hb2 hw2 q0 q1 q2 q3 q4 q5 HO
        go_upto_region 8 with (first
          | (go_at_call 21; refine (HSD.out W6 HA.out.1).mono ?_; rintro e w7 ⟨v7, P7, rfl, hk7, hkeep7, hz7, hP7⟩)
          | go_in)
        have hx7 : w7.heap[b7 + 1]? = some (opR x) := (hkeep7 _ (heap_lt HA.out.2.2.1) (fun hp => by have := HA.out.2.2.2.2 _ hp; omega)).trans HA.out.2.2.1
        have HB7 := Lib.hid (And.intro hk7 (And.intro (HA.out.2.1.step hkeep7 hz7 hP7) (And.intro hkeep7 (And.intro hz7 hP7))))
        obtain ⟨k0, k1, k2, k3, k4, k5⟩ := opcells hx7
        have s0 := cell0 HB7.out.2.1.2.1
        have s1 := cell1 HB7.out.2.1.2.1
        clear hk7 hkeep7 hz7 hP7 hx7
        go_upto_region 9 with (first
          | (go_at_call 20; refine (HRD.out w7 HB7.out.2.1.2.2.1).mono ?_; rintro e w8 ⟨vs, vi, rfl, hs8, hown8, hrow8, hb8⟩; obtain ⟨ao8, c8, hve, -⟩ := id hs8; subst hve; have hB8 := (hb8.block _ (heap_lt HB7.out.2.1.2.1)).trans HB7.out.2.1.2.1; have t0 := cell0 hB8; have t1 := cell1 hB8; have f0 := froz hB8 0; have f1 := froz hB8 1)
          | go_in)
        change Code.wp _ _ _ _ (put2 w8 B (.int .i64 R2) (.slice ao8 L2.length c8))
        have hk9 := (HB7.out.1.below hb8).put2 HB7.out.2.1.1 HBw.out (.int .i64 R2) (.slice ao8 L2.length c8)
        have hd9 : DocAt (put2 w8 B (.int .i64 R2) (.slice ao8 L2.length c8)) B P7 ⟨R2, L2⟩ (.slice ao8 L2.length c8) := DocAt.put (S' := ⟨R2, L2⟩) HB7.out.2.1 hb8 hs8 hown8 (fun i hi => HB7.out.1.1.own i hi)
        have hf9 := HA.out.2.2.2.1.step HB7.out.2.2.1 HB7.out.2.2.2.1 HB7.out.2.2.2.2 hb8 (.int .i64 R2) (.slice ao8 L2.length c8)
        have HZ := Lib.hid (And.intro hk9 (And.intro hd9 hf9))
        generalize put2 w8 B (.int .i64 R2) (.slice ao8 L2.length c8) = w9 at HZ ⊢
        clear hk9 hd9 hf9 hB8 t0 t1 f0 f1 s0 s1 k0 k1 k2 k3 k4 k5 hb8 hrow8 hown8 hs8
        go_wp2_with fail
        go_roundw
        case rel => exact ⟨i + 1, ⟨R2, L2⟩, P7, _, by have := HLT.out; omega, by go_num, HZ.out.1, HZ.out.2.1, by rw [Nat.min_eq_left (by omega)]; exact HIN.out.1, HZ.out.2.2, HIN.out.2⟩
        case measure => have := HLT.out; simp [intOf]; omega
      · have d1 : decide ((i : Int) < 12) = false := by simp; omega
        have HLT := Lib.hid hlt
        have HX := Lib.hid (And.intro hk (And.intro hd (And.intro hinv (And.intro hfr.out hgd.out))))
        clear hk hd hinv hokx hfr hgd
        go_wp2_with fail
        go_roundw
        case rel => exact ⟨i + 1, ⟨R, L⟩, P, vr, HLT.out, by go_num, HX.out.1.below (belNew _ _), HX.out.2.1.below (belNew _ _), by rw [Nat.min_eq_right (by omega)]; have := HX.out.2.2.1; rwa [Nat.min_eq_right (by omega)] at this, HX.out.2.2.2.1.below (belNew _ _), HX.out.2.2.2.2⟩
        case measure => have := HLT.out; simp [intOf]; omega
    · obtain rfl : i = os.length := by omega
      have hin : KInv ⟨R, L⟩ 12 := by
        obtain ⟨i1, i2, i3, i4, i5⟩ := hinv
        exact ⟨i1, i2, by omega, by omega, i5⟩
      have hfr := hfr.out
      have hgd := hgd.out
      clear hinv
      have hks := HKE.out
      have k00 : (0 : Int) ≤ (key.size : Int) := by omega
      have k01 : (key.size : Int) ≤ 9223372036854775807 := by unfold maxLen at hks; omega
      by_cases hgt : 140 < key.size
      · have d0 : decide (140 < (key.size : Int)) = true := by simp; omega
        have d1 : (140 : Int) ≤ (key.size : Int) := by omega
        have d2 : 140 ≤ key.size := by omega
        clear hks
        have HX0 := Lib.hid (And.intro hk (And.intro hd (And.intro hin (And.intro ((hfr.2 b5 rfl).2.2.2.trans HST.out.2.2.2) (hfr.2 b5 rfl).1))))
        clear hk hd hin hfr hgd
        have HO := Lib.hid (ours_any o0)
        have hxo := ours_ok HO0.out
        generalize ours o0 = x at HO hxo
        obtain ⟨xk, xa, xb, xr, xi, xj⟩ := x
        have HXO := Lib.hid hxo
        clear hxo
        go_upto_region 12 with fail
        generalize hkk : key.extract 0 140 = kk
        have HKK : Hid (kk.size ≤ maxLen) := Lib.hid (by rw [← hkk, ByteArray.size_extract]; unfold maxLen; omega)
        clear hkk
        obtain ⟨k0, k1, k2, k3, k4, k5⟩ := opcells HX0.out.2.2.2.1
        go_upto_region 13 with (first
          | (go_at_call 16; refine (HO.out _).mono ?_; rintro e w2 ⟨rfl, hb2⟩)
          | go_in)
        obtain ⟨W6, hW6, hb6, hz6, h7, h8⟩ := two_new w2 (opO ⟨xk, xa, xb, xr, xi, xj⟩) (opR ⟨xk, xa, xb, xr, xi, xj⟩)
        change Code.wp _ _ _ _ ((w2.alloc (opO ⟨xk, xa, xb, xr, xi, xj⟩)).alloc (opR ⟨xk, xa, xb, xr, xi, xj⟩))
        rw [← hW6]
        obtain ⟨b7, hb7⟩ : ∃ b7, b7 = w2.heap.size := ⟨_, rfl⟩
        rw [← hb7] at h7 h8 ⊢
        obtain ⟨b8, hb8⟩ : ∃ b8, b8 = b7 + 1 := ⟨_, rfl⟩
        rw [← hb8] at h8 ⊢
        have hb26 : Below wr.heap.size wr W6 := bel hb2 hb6
        have hwb7 : wr.heap.size ≤ b7 := by rw [hb7]; exact hb2.size
        have HN : Hid ((∀ i, P i → i < b7) ∧ B < b7 ∧ (∀ d, vr.ownBlock = some d → d < b7) ∧ w.heap.size ≤ b7 ∧ b7 < b8) := Lib.hid ⟨fun i hi => Nat.lt_of_lt_of_le (HX0.out.1.1.own i hi) hwb7, Nat.lt_of_lt_of_le (heap_lt HX0.out.2.1.2.1) hwb7, fun d hd => Nat.lt_of_lt_of_le (HX0.out.2.1.2.2.2 d hd).2.2 hwb7, Nat.le_trans HX0.out.1.2.2.size hwb7, by omega⟩
        have HA := Lib.hid (And.intro (HX0.out.1.below hb26) (And.intro (HX0.out.2.1.below hb26) (And.intro h7 h8)))
        obtain ⟨y0, y1, y2, y3, y4, y5, z0, z1, z2, z3, z4, z5⟩ := six h7
        clear hW6 hb6 hz6 h7 h8 hb7 hb8 hb26 hb2 hwb7 k0 k1 k2 k3 k4 k5
        go_upto_region 14 with fail
        obtain ⟨W7, hW7⟩ : ∃ W7, W7 = W6.setCell ⟨b7, 4, none⟩ (.string emp) := ⟨_, rfl⟩
        change Code.wp _ _ _ _ (W6.setCell ⟨b7, 4, none⟩ (.string emp))
        rw [← hW7]
        have h7 : W7.heap[b7]? = some (opO ⟨xk, xa, xb, xr, emp, xj⟩) := by rw [hW7]; exact opO_if (x := ⟨xk, xa, xb, xr, xi, xj⟩) HA.out.2.2.1 emp
        have h8 : W7.heap[b8]? = some (opR ⟨xk, xa, xb, xr, xi, xj⟩) := by rw [hW7]; exact (Below.heap_setCell _ _ _ _ (by have := HN.out.2.2.2.2; show b8 ≠ b7; omega)).trans HA.out.2.2.2
        have HA7 := Lib.hid (And.intro (show KvW w W7 g P ⟨R, L⟩ by rw [hW7]; exact HA.out.1.setc (fun hp => by have := HN.out.1 _ hp; omega) HN.out.2.2.2.1 _) (And.intro (show DocAt W7 B P ⟨R, L⟩ vr by rw [hW7]; exact HA.out.2.1.setc (by have := HN.out.2.1; omega) (fun d hd => by have := HN.out.2.2.1 d hd; omega) _) (And.intro h7 h8)))
        clear y0 y1 y2 y3 y4 y5 z0 z1 z2 z3 z4 z5 hW7 h7
        obtain ⟨y0, y1, y2, y3, y4, y5, z0, z1, z2, z3, z4, z5⟩ := six h8
        clear h8
        go_upto_region 15 with fail
        obtain ⟨W8, hW8⟩ : ∃ W8, W8 = W7.setCell ⟨b8, 4, none⟩ (.string emp) := ⟨_, rfl⟩
        change Code.wp _ _ _ _ (W7.setCell ⟨b8, 4, none⟩ (.string emp))
        rw [← hW8]
        have h7 : W8.heap[b7]? = some (opO ⟨xk, xa, xb, xr, emp, xj⟩) := by rw [hW8]; exact (Below.heap_setCell _ _ _ _ (by have := HN.out.2.2.2.2; show b7 ≠ b8; omega)).trans HA7.out.2.2.1
        have h8 : W8.heap[b8]? = some (opR ⟨xk, xa, xb, xr, emp, xj⟩) := by rw [hW8]; exact opO_if (x := ⟨xk, xa, xb, xr, xi, xj⟩) HA7.out.2.2.2 emp
        have HA8 := Lib.hid (And.intro (show KvW w W8 g P ⟨R, L⟩ by rw [hW8]; exact HA7.out.1.setc (fun hp => by have := HN.out.1 _ hp; have := HN.out.2.2.2.2; omega) (by have := HN.out.2.2.2; omega) _) (And.intro (show DocAt W8 B P ⟨R, L⟩ vr by rw [hW8]; exact HA7.out.2.1.setc (by have := HN.out.2.1; have := HN.out.2.2.2.2; omega) (fun d hd => by have := HN.out.2.2.1 d hd; have := HN.out.2.2.2.2; omega) _) h7))
        have HRP := Lib.hid (refPlan_any vr L R ⟨xk, xa, xb, xr, emp, xj⟩ W8 HA8.out.2.1.2.2.1 (by have := HX0.out.2.2.1.2.2.2.1; simp only [] at this; omega) ⟨HXO.out.1, HXO.out.2.1, Nat.zero_le _⟩ (by have h1 := HX0.out.2.2.1.2.1; have h2 := HX0.out.2.2.1.2.2.1; simp only [] at h1 h2; omega))
        have hmx : (R == 9223372036854775807) = false := by have h2 := HX0.out.2.2.1.2.2.1; simp only [] at h2; simp; omega
        have HGS : Hid (((kk.toList == ([] : List UInt8)) = true ∨ stands L kk rev = true ∨ (planK ⟨R, L⟩ ⟨xk, xa, xb, xr, emp, xj⟩).2.2 = false) → (doK ⟨R, L⟩ ⟨xk, xa, xb, xr, kk, rev⟩).1 = (planK ⟨R, L⟩ ⟨xk, xa, xb, xr, emp, xj⟩).1) := Lib.hid (fun h => guard_same (S := ⟨R, L⟩) hmx h)
        have HGN : Hid ((kk.toList == ([] : List UInt8)) = false → stands L kk rev = false → (planK ⟨R, L⟩ ⟨xk, xa, xb, xr, emp, xj⟩).2.2 = true → doK ⟨R, L⟩ ⟨xk, xa, xb, xr, kk, rev⟩ = (⟨8, 0, emp, []⟩, ⟨R, L⟩)) := Lib.hid (fun h1 h2 h3 => guard_no (S := ⟨R, L⟩) hmx h1 h2 h3)
        have HSD : Hid (∀ w', KvW w w' g P ⟨R, L⟩ → Calls Try.prog 21 #[ptr g, opV ⟨xk, xa, xb, xr, kk, rev⟩] w' fun e w'' => ∃ ao c P', e = .returned (kres (doK ⟨R, L⟩ ⟨xk, xa, xb, xr, kk, rev⟩).1 (.slice ao (doK ⟨R, L⟩ ⟨xk, xa, xb, xr, kk, rev⟩).1.its.length c)) ∧ RowI w'' w'.heap.size (.slice ao (doK ⟨R, L⟩ ⟨xk, xa, xb, xr, kk, rev⟩).1.its.length c) (doK ⟨R, L⟩ ⟨xk, xa, xb, xr, kk, rev⟩).1.its ∧ KvW w w'' g P' (doK ⟨R, L⟩ ⟨xk, xa, xb, xr, kk, rev⟩).2 ∧ (∀ k, k < w'.heap.size → ¬ P k → w''.heap[k]? = w'.heap[k]?) ∧ w'.heap.size ≤ w''.heap.size ∧ (∀ i, P' i → P i ∨ w'.heap.size ≤ i)) := Lib.hid (fun w' h => (do_step ⟨xk, xa, xb, xr, kk, rev⟩ h HXO.out.1 HKK.out HX0.out.2.2.1.1 (by have := HX0.out.2.2.1.2.2.2.1; simp only [] at this ⊢; omega) (by have h1 := HX0.out.2.2.1.2.1; have h2 := HX0.out.2.2.1.2.2.1; simp only [] at *; omega)).mono (by
          rintro e w'' ⟨ao, c, P', h1, h2, h3, _, h5, h6, h7⟩
          exact ⟨ao, c, P', h1, h2, h3, h5, h6, h7⟩))
        have HPL : Hid ((planK ⟨R, L⟩ ⟨xk, xa, xb, xr, emp, xj⟩).1.its.length ≤ 1000000) := Lib.hid (by
          have hp : (planK ⟨R, L⟩ ⟨xk, xa, xb, xr, emp, xj⟩).1.its.length ≤ L.length := by
            unfold planK
            split
            · simp
            · split
              · exact beginL_le L _
              · split <;> simp
          have := HX0.out.2.2.1.2.2.2.1
          simp only [] at this
          omega)
        generalize doK ⟨R, L⟩ ⟨xk, xa, xb, xr, kk, rev⟩ = dk at HSD HGS HGN
        obtain ⟨⟨dc, dr, dv, di⟩, S2⟩ := dk
        generalize planK ⟨R, L⟩ ⟨xk, xa, xb, xr, emp, xj⟩ = pl at HRP HGS HGN HPL
        obtain ⟨⟨rc, rr, rv, ri⟩, ⟨ek, ev, er, eg⟩, cd⟩ := pl
        simp only [] at HRP HSD HGS HGN HPL
        clear y0 y1 y2 y3 y4 y5 z0 z1 z2 z3 z4 z5 hW8 h7 hmx
        obtain ⟨y0, y1, y2, y3, y4, y5⟩ := opcells h8
        have s0 := cell0 HA8.out.2.1.2.1
        have s1 := cell1 HA8.out.2.1.2.1
        clear h8
        go_upto_region 16 with (first
          | (go_at_call 18; refine HRP.out.mono ?_; rintro e w9 ⟨vf, rfl, hrf, hb9⟩; obtain ⟨aoF, nF, cF, rfl⟩ := row_slice hrf)
          | go_in)
        obtain ⟨W9, hW9, hb99, hz9, h17, h18⟩ := two_new w9 (resR rc rr rv (.slice aoF nF cF)) (effR9 ⟨ek, ev, er, eg⟩)
        change Code.wp _ _ _ _ ((w9.alloc (resR rc rr rv (.slice aoF nF cF))).alloc (effR9 ⟨ek, ev, er, eg⟩))
        rw [← hW9]
        obtain ⟨b17, hb17⟩ : ∃ b17, b17 = w9.heap.size := ⟨_, rfl⟩
        rw [← hb17] at h17 h18 ⊢
        have hbb : Below W8.heap.size W8 W9 := bel hb9 hb99
        have h7 := (hbb.block _ (heap_lt HA8.out.2.2)).trans HA8.out.2.2
        have hP8 : ∀ i, P i → i < W8.heap.size := HA8.out.1.1.own
        have hnb : ∀ d, (Value.slice aoF nF cF).ownBlock = some d → d ≠ b7 ∧ ¬ P d := fun d hd => ⟨by have := (World.ownsRow.lt hrf d hd).1; have := heap_lt HA8.out.2.2; omega, own_not hrf hP8 d hd⟩
        have h7b : b7 < b17 := by have := heap_lt HA8.out.2.2; have := hb9.size; omega
        have HA9 := Lib.hid (And.intro (HA8.out.1.below hbb) (And.intro (HA8.out.2.1.below hbb) (And.intro h7 (And.intro h17 (And.intro ((RowE.sees hrf).below hb99) (And.intro hnb (And.intro h7b (show ¬ P b17 from fun hp => by have := hP8 _ hp; have := hb9.size; omega))))))))
        clear y0 y1 y2 y3 y4 y5 s0 s1 hW9 hb99 hz9 h17 h18 hb17 hbb hP8 hnb h7b hrf hb9 HRP
        obtain ⟨y0, y1, y2, y3, y4, y5, z0, z1, z2, z3, z4, z5⟩ := six h7
        clear h7
        go_upto_region 17 with fail
        obtain ⟨W10, hW10⟩ : ∃ W10, W10 = W9.setCell ⟨b7, 4, none⟩ (.string kk) := ⟨_, rfl⟩
        change Code.wp _ _ _ _ (W9.setCell ⟨b7, 4, none⟩ (.string kk))
        rw [← hW10]
        have h7 : W10.heap[b7]? = some (opO ⟨xk, xa, xb, xr, kk, xj⟩) := by rw [hW10]; exact opO_if (x := ⟨xk, xa, xb, xr, emp, xj⟩) HA9.out.2.2.1 kk
        have HA10 := Lib.hid (And.intro (show KvW w W10 g P ⟨R, L⟩ by rw [hW10]; exact HA9.out.1.setc (fun hp => by have := HN.out.1 _ hp; omega) HN.out.2.2.2.1 _) (And.intro (show DocAt W10 B P ⟨R, L⟩ vr by rw [hW10]; exact HA9.out.2.1.setc (by have := HN.out.2.1; omega) (fun d hd => by have := HN.out.2.2.1 d hd; omega) _) (And.intro h7 (And.intro (show W10.heap[b17]? = some (resR rc rr rv (.slice aoF nF cF)) by rw [hW10]; exact (Below.heap_setCell _ _ _ _ (by have := HA9.out.2.2.2.2.2.2.1; show b17 ≠ b7; omega)).trans HA9.out.2.2.2.1) (show SeesI W10 (.slice aoF nF cF) ri by rw [hW10]; exact HA9.out.2.2.2.2.1.keep (fun d hd _ => Below.heap_setCell _ _ _ _ (HA9.out.2.2.2.2.2.1 d hd).1))))))
        clear y0 y1 y2 y3 y4 y5 z0 z1 z2 z3 z4 z5 hW10
        obtain ⟨y0, y1, y2, y3, y4, y5, z0, z1, z2, z3, z4, z5⟩ := six h7
        clear h7
        go_upto_region 18 with fail
        obtain ⟨W11, hW11⟩ : ∃ W11, W11 = W10.setCell ⟨b7, 5, none⟩ (.int .i64 rev) := ⟨_, rfl⟩
        change Code.wp _ _ _ _ (W10.setCell ⟨b7, 5, none⟩ (.int .i64 rev))
        rw [← hW11]
        have h7 : W11.heap[b7]? = some (opO ⟨xk, xa, xb, xr, kk, rev⟩) := by rw [hW11]; exact opO_ir HA10.out.2.2.1 rev
        have HA11 := Lib.hid (And.intro (show KvW w W11 g P ⟨R, L⟩ by rw [hW11]; exact HA10.out.1.setc (fun hp => by have := HN.out.1 _ hp; omega) HN.out.2.2.2.1 _) (And.intro (show DocAt W11 B P ⟨R, L⟩ vr by rw [hW11]; exact HA10.out.2.1.setc (by have := HN.out.2.1; omega) (fun d hd => by have := HN.out.2.2.1 d hd; omega) _) (And.intro h7 (And.intro (show W11.heap[b17]? = some (resR rc rr rv (.slice aoF nF cF)) by rw [hW11]; exact (Below.heap_setCell _ _ _ _ (by have := HA9.out.2.2.2.2.2.2.1; show b17 ≠ b7; omega)).trans HA10.out.2.2.2.1) (show SeesI W11 (.slice aoF nF cF) ri by rw [hW11]; exact HA10.out.2.2.2.2.keep (fun d hd _ => Below.heap_setCell _ _ _ _ (HA9.out.2.2.2.2.2.1 d hd).1))))))
        clear y0 y1 y2 y3 y4 y5 z0 z1 z2 z3 z4 z5 hW11
        obtain ⟨y0, y1, y2, y3, y4, y5⟩ := opcells h7
        clear h7
        go_upto_region 19 with (first
          | (go_at_call 21; refine (HSD.out W11 HA11.out.1).mono ?_; rintro e w12 ⟨ao12, c12, P12, rfl, hrow12, hk12, hkeep12, hz12, hP12⟩)
          | go_in)
        obtain ⟨W12, hW12⟩ : ∃ W12, W12 = w12.alloc (resO dc dr dv (.slice ao12 di.length c12)) := ⟨_, rfl⟩
        change Code.wp _ _ _ _ (w12.alloc (resO dc dr dv (.slice ao12 di.length c12)))
        rw [← hW12]
        have hbW : Below w12.heap.size w12 W12 := by rw [hW12]; exact belNew _ _
        have h20 : W12.heap[w12.heap.size]? = some (resO dc dr dv (.slice ao12 di.length c12)) := by rw [hW12]; exact heap_alloc_new w12 _
        have h17k := (hkeep12 b17 (heap_lt HA11.out.2.2.2.1) HA9.out.2.2.2.2.2.2.2).trans HA11.out.2.2.2.1
        have HE := Lib.hid (And.intro (hk12.below hbW) (And.intro ((HA11.out.2.1.step hkeep12 hz12 hP12).below hbW) (And.intro h20 (And.intro ((hbW.block _ (heap_lt h17k)).trans h17k) (And.intro ((RowE.sees hrow12).below hbW) ((HA11.out.2.2.2.2.keep (w' := w12) (fun d hd hl => hkeep12 d hl (HA9.out.2.2.2.2.2.1 d hd).2)).below hbW))))))
        have HSt : Hid (∀ w', Below W12.heap.size W12 w' → Calls Try.prog 34 #[stV R vr, .string kk, .int .i64 rev] w' fun x w'' => x = .returned (.bool (stands L kk rev)) ∧ Below w'.heap.size w' w'') := Lib.hid (fun w' hb => refStands_any vr L R kk rev w' (HE.out.2.1.2.2.1.below hb) (by have := HX0.out.2.2.1.2.2.2.1; simp only [] at this; unfold maxLen; omega))
        have s0 := cell0 HE.out.2.1.2.1
        have s1 := cell1 HE.out.2.1.2.1
        obtain ⟨m0, m1, m2, m3⟩ := resA HE.out.2.2.1
        obtain ⟨n0, n1, n2, n3⟩ := resA HE.out.2.2.2.1
        clear y0 y1 y2 y3 y4 y5 hW12 hbW h20 h17k hrow12 hk12 hkeep12 hz12 hP12 HSD HA11 HA10
        cases hke : (kk.toList == ([] : List UInt8)) with
        | true =>
          have hke2 := bne_of hke
          have HTOLD := HGS.out (Or.inl hke)
          obtain ⟨e1, e2, e3, e4⟩ : dc = rc ∧ dr = rr ∧ dv = rv ∧ di = ri := by injection HTOLD with e1 e2 e3 e4; exact ⟨e1, e2, e3, e4⟩
          subst e1 e2 e3 e4
          go_wp2_with (first
            | (go_at_call 19; refine (same9_yes ⟨dc, dr, dv, di⟩ (.slice ao12 di.length c12) (.slice aoF nF cF) W12 (HE.out.2.2.2.2.1.below (Below.refl W12.heap.size W12)) (HE.out.2.2.2.2.2.below (Below.refl W12.heap.size W12)) (show di.length ≤ maxLen by have := HPL.out; unfold maxLen; omega)).mono ?_; rintro e wsm ⟨rfl, hbsm⟩)
            | (go_at_call 26; refine (awake9_any wsm).mono ?_; rintro e wy ⟨rfl, hby⟩)
            | go_in)
          go_ret
          exact ⟨rfl, HE.out.1.2.2.trans ((bel (Below.refl W12.heap.size W12) (bel hbsm hby)).mono HE.out.1.2.2.size)⟩
        | false =>
          have hke2 := bne_of hke
          generalize hst : stands L kk rev = st at HSt
          cases st with
          | true =>
            have HTOLD := HGS.out (Or.inr (Or.inl hst))
            obtain ⟨e1, e2, e3, e4⟩ : dc = rc ∧ dr = rr ∧ dv = rv ∧ di = ri := by injection HTOLD with e1 e2 e3 e4; exact ⟨e1, e2, e3, e4⟩
            subst e1 e2 e3 e4
            go_wp2_with (first
              | (go_at_call 34; refine (HSt.out W12 (Below.refl _ _)).mono ?_; rintro e wst ⟨rfl, hbst⟩; have m0 := bcell hbst m0; have m1 := bcell hbst m1; have m2 := bcell hbst m2; have m3 := bcell hbst m3; have n0 := bcell hbst n0; have n1 := bcell hbst n1; have n2 := bcell hbst n2; have n3 := bcell hbst n3)
              | (go_at_call 19; refine (same9_yes ⟨dc, dr, dv, di⟩ (.slice ao12 di.length c12) (.slice aoF nF cF) wst (HE.out.2.2.2.2.1.below hbst) (HE.out.2.2.2.2.2.below hbst) (show di.length ≤ maxLen by have := HPL.out; unfold maxLen; omega)).mono ?_; rintro e wsm ⟨rfl, hbsm⟩)
              | (go_at_call 26; refine (awake9_any wsm).mono ?_; rintro e wy ⟨rfl, hby⟩)
              | go_in)
            go_ret
            exact ⟨rfl, HE.out.1.2.2.trans ((bel hbst (bel hbsm hby)).mono HE.out.1.2.2.size)⟩
          | false =>
            cases cd with
            | false =>
              have HTOLD := HGS.out (Or.inr (Or.inr rfl))
              obtain ⟨e1, e2, e3, e4⟩ : dc = rc ∧ dr = rr ∧ dv = rv ∧ di = ri := by injection HTOLD with e1 e2 e3 e4; exact ⟨e1, e2, e3, e4⟩
              subst e1 e2 e3 e4
              go_wp2_with (first
                | (go_at_call 34; refine (HSt.out W12 (Below.refl _ _)).mono ?_; rintro e wst ⟨rfl, hbst⟩; have m0 := bcell hbst m0; have m1 := bcell hbst m1; have m2 := bcell hbst m2; have m3 := bcell hbst m3; have n0 := bcell hbst n0; have n1 := bcell hbst n1; have n2 := bcell hbst n2; have n3 := bcell hbst n3)
                | (go_at_call 19; refine (same9_yes ⟨dc, dr, dv, di⟩ (.slice ao12 di.length c12) (.slice aoF nF cF) wst (HE.out.2.2.2.2.1.below hbst) (HE.out.2.2.2.2.2.below hbst) (show di.length ≤ maxLen by have := HPL.out; unfold maxLen; omega)).mono ?_; rintro e wsm ⟨rfl, hbsm⟩)
                | (go_at_call 26; refine (awake9_any wsm).mono ?_; rintro e wy ⟨rfl, hby⟩)
                | go_in)
              go_ret
              exact ⟨rfl, HE.out.1.2.2.trans ((bel hbst (bel hbsm hby)).mono HE.out.1.2.2.size)⟩
            | true =>
              have HNO := HGN.out hke hst rfl
              obtain ⟨e1, e2⟩ : (⟨dc, dr, dv, di⟩ : KRes) = ⟨8, 0, emp, []⟩ ∧ S2 = ⟨R, L⟩ := ⟨congrArg Prod.fst HNO, congrArg Prod.snd HNO⟩
              obtain ⟨e3, e4, e5, e6⟩ : dc = 8 ∧ dr = 0 ∧ dv = emp ∧ di = [] := by injection e1 with e1 e2 e3 e4; exact ⟨e1, e2, e3, e4⟩
              subst e2 e3 e4 e5 e6
              go_upto_region 21 with (first
                | (go_at_call 34; refine (HSt.out W12 (Below.refl _ _)).mono ?_; rintro e wst ⟨rfl, hbst⟩)
                | go_in)
              have HF := Lib.hid (And.intro (HE.out.1.below hbst) (HE.out.2.1.below hbst))
              have m0 := bcell hbst m0
              have s0 := bcell hbst s0
              have s1 := bcell hbst s1
              have yr : (R == R) = true := by simp
              clear hbst
              refine wp_region_held_drew (S := (fun W => Below wst.heap.size wst W)) (by kernel_rfl) ?_ (fun r0 => ?_)
              · exact ⟨rfl, rfl, rfl, Nat.le_refl _, fun _ _ => rfl⟩
              refine wpAnyH_take (i := 0) (v := ?_) rfl (by kernel_rfl) (by kernel_rfl) (by kernel_rfl) (fun _ _ _ h => h) (Or.inl ⟨by rfl, ?_⟩) (by assumption) ?_
              rotate_left
              · intro wS hSw
                (try dsimp only at hSw)
                go_simp
                first | done | with_reducible rfl
              try simp only [Act.put, List.getElem_toArray, List.getElem_cons_zero, List.setIfInBounds_toArray, List.set_cons_zero, List.set_cons_succ]
              refine wpAnyH_take (i := 1) (v := ?_) rfl (by kernel_rfl) (by kernel_rfl) (by kernel_rfl) (fun _ _ _ h => h) (Or.inl ⟨by rfl, ?_⟩) (by assumption) ?_
              rotate_left
              · intro wS hSw
                (try dsimp only at hSw)
                have m0 := bcell hSw m0
                have s0 := bcell hSw s0
                have s1 := bcell hSw s1
                go_simp
                first | done | with_reducible rfl
              try simp only [Act.put, List.getElem_toArray, List.getElem_cons_succ, List.getElem_cons_zero, List.setIfInBounds_toArray, List.set_cons_zero, List.set_cons_succ]
              refine wpAnyH_take (i := 2) (v := ?_) rfl (by kernel_rfl) (by kernel_rfl) (by kernel_rfl) (fun _ _ _ h => h) (Or.inl ⟨by rfl, ?_⟩) (by assumption) ?_
              rotate_left
              · intro wS hSw
                (try dsimp only at hSw)
                go_simp
                first | done | with_reducible rfl
              try simp only [Act.put, List.getElem_toArray, List.getElem_cons_succ, List.getElem_cons_zero, List.setIfInBounds_toArray, List.set_cons_zero, List.set_cons_succ]
              refine wpAnyH_take (i := 3) (v := ?_) rfl (by kernel_rfl) (by kernel_rfl) (by kernel_rfl) (fun _ _ _ h => h) (Or.inl ⟨by rfl, ?_⟩) (by assumption) ?_
              rotate_left
              · intro wS hSw
                (try dsimp only at hSw)
                go_simp
                first | done | with_reducible rfl
              try simp only [Act.put, List.getElem_toArray, List.getElem_cons_succ, List.getElem_cons_zero, List.setIfInBounds_toArray, List.set_cons_zero, List.set_cons_succ]
              refine wpAnyH_take (i := 4) (v := ?_) rfl (by kernel_rfl) (by kernel_rfl) (by kernel_rfl) (fun _ _ _ h => h) (Or.inl ⟨by rfl, ?_⟩) (by assumption) ?_
              rotate_left
              · intro wS hSw
                (try dsimp only at hSw)
                go_simp
                first | done | with_reducible rfl
              try simp only [Act.put, List.getElem_toArray, List.getElem_cons_succ, List.getElem_cons_zero, List.setIfInBounds_toArray, List.set_cons_zero, List.set_cons_succ]
              refine wpAnyH_take (i := 6) (v := ?_) rfl (by kernel_rfl) (by kernel_rfl) (by kernel_rfl) (fun _ _ _ h => h) (Or.inl ⟨by rfl, ?_⟩) (by assumption) ?_
              rotate_left
              · intro wS hSw
                (try dsimp only at hSw)
                go_simp
                first | done | with_reducible rfl
              try simp only [Act.put, List.getElem_toArray, List.getElem_cons_succ, List.getElem_cons_zero, List.setIfInBounds_toArray, List.set_cons_zero, List.set_cons_succ]
              refine wpAnyH_take (i := 7) (v := ?_) rfl (by kernel_rfl) (by kernel_rfl) (by kernel_rfl) (fun _ _ _ h => h) (Or.inl ⟨by rfl, ?_⟩) (by assumption) ?_
              rotate_left
              · intro wS hSw
                (try dsimp only at hSw)
                have m0 := bcell hSw m0
                have s0 := bcell hSw s0
                have s1 := bcell hSw s1
                go_simp
                first | done | with_reducible rfl
              try simp only [Act.put, List.getElem_toArray, List.getElem_cons_succ, List.getElem_cons_zero, List.setIfInBounds_toArray, List.set_cons_zero, List.set_cons_succ]
              refine wpAnyH_ready (rs := [5]) (by kernel_rfl) (by simp) ?_
              refine AllReadyH.cons rfl (fun K hK => ?_) AllReadyH.nil
              go_simp
              refine (rev_any g P12 ⟨R, L⟩ _ (HF.out.1.1.below r0)).mono ?_; rintro x wx ⟨rfl, rfl⟩
              refine hK.out _ _ ?_ (fun r1 => ?_)
              · exact r0
              try simp only 
              refine wpAnyH_take (i := 8) (v := ?_) rfl (by kernel_rfl) (by kernel_rfl) (by kernel_rfl) (fun _ _ _ h => h) (Or.inl ⟨by rfl, ?_⟩) (by assumption) ?_
              rotate_left
              · intro wS hSw
                (try dsimp only at hSw)
                go_simp
                first | done | with_reducible rfl
              try simp only [Act.put, List.getElem_toArray, List.getElem_cons_succ, List.getElem_cons_zero, List.setIfInBounds_toArray, List.set_cons_zero, List.set_cons_succ]
              refine wpAnyH_take (i := 9) (v := ?_) rfl (by kernel_rfl) (by kernel_rfl) (by kernel_rfl) (fun _ _ _ h => h) (Or.inl ⟨by rfl, ?_⟩) (by assumption) ?_
              rotate_left
              · intro wS hSw
                (try dsimp only at hSw)
                go_simp
                first | done | with_reducible rfl
              try simp only [Act.put, List.getElem_toArray, List.getElem_cons_succ, List.getElem_cons_zero, List.setIfInBounds_toArray, List.set_cons_zero, List.set_cons_succ]
              refine wpAnyH_take (i := 10) (v := ?_) rfl (by kernel_rfl) (by kernel_rfl) (by kernel_rfl) (fun _ _ _ h => h) (Or.inl ⟨by rfl, ?_⟩) (by assumption) ?_
              rotate_left
              · intro wS hSw
                (try dsimp only at hSw)
                go_simp
                first | done | with_reducible rfl
              try simp only [Act.put, List.getElem_toArray, List.getElem_cons_succ, List.getElem_cons_zero, List.setIfInBounds_toArray, List.set_cons_zero, List.set_cons_succ]
              refine wpAnyH_take (i := 11) (v := ?_) rfl (by kernel_rfl) (by kernel_rfl) (by kernel_rfl) (fun _ _ _ h => h) (Or.inl ⟨by rfl, ?_⟩) (by assumption) ?_
              rotate_left
              · intro wS hSw
                (try dsimp only at hSw)
                go_simp
                first | done | with_reducible rfl
              try simp only [Act.put, List.getElem_toArray, List.getElem_cons_succ, List.getElem_cons_zero, List.setIfInBounds_toArray, List.set_cons_zero, List.set_cons_succ]
              refine wpAnyH_take (i := 13) (v := ?_) rfl (by kernel_rfl) (by kernel_rfl) (by kernel_rfl) (fun _ _ _ h => h) (Or.inl ⟨by rfl, ?_⟩) (by assumption) ?_
              rotate_left
              · intro wS hSw
                (try dsimp only at hSw)
                go_simp
                first | done | with_reducible rfl
              try simp only [Act.put, List.getElem_toArray, List.getElem_cons_succ, List.getElem_cons_zero, List.setIfInBounds_toArray, List.set_cons_zero, List.set_cons_succ]
              refine wpAnyH_take (i := 14) (v := ?_) rfl (by kernel_rfl) (by kernel_rfl) (by kernel_rfl) (fun _ _ _ h => h) (Or.inl ⟨by rfl, ?_⟩) (by assumption) ?_
              rotate_left
              · intro wS hSw
                (try dsimp only at hSw)
                have m0 := bcell hSw m0
                have s0 := bcell hSw s0
                have s1 := bcell hSw s1
                go_simp
                first | done | with_reducible rfl
              try simp only [Act.put, List.getElem_toArray, List.getElem_cons_succ, List.getElem_cons_zero, List.setIfInBounds_toArray, List.set_cons_zero, List.set_cons_succ]
              refine wpAnyH_ready (rs := [12]) (by kernel_rfl) (by simp) ?_
              refine AllReadyH.cons rfl (fun K hK => ?_) AllReadyH.nil
              go_simp
              refine (all_any g P12 ⟨R, L⟩ _ (HF.out.1.1.below r1) HX0.out.2.2.1.1 (by have := HX0.out.2.2.1.2.2.2.1; simp only [] at *; omega)).mono ?_; rintro x w29 ⟨va9, rfl, hra9, hb29⟩
              refine hK.out _ _ ?_ (fun r2 => ?_)
              · exact bel r1 hb29
              try simp only [Act.put, List.getElem_toArray, List.getElem_cons_succ, List.getElem_cons_zero, List.setIfInBounds_toArray, List.set_cons_zero, List.set_cons_succ]
              refine wpAnyH_ready (rs := [15]) (by kernel_rfl) (by simp) ?_
              refine AllReadyH.cons rfl (fun K hK => ?_) AllReadyH.nil
              go_simp
              refine (same_yes va9 _ L _ (RowE.sees hra9) (HF.out.2.2.2.1.below (bel r1 hb29)) (by have := HX0.out.2.2.1.2.2.2.1; simp only [] at this; unfold maxLen; omega)).mono ?_; rintro x w30 ⟨rfl, hb30⟩
              refine hK.out _ _ ?_ (fun r3 => ?_)
              · exact bel r2 hb30
              try simp only [Act.put, List.getElem_toArray, List.getElem_cons_succ, List.getElem_cons_zero, List.setIfInBounds_toArray, List.set_cons_zero, List.set_cons_succ]
              refine wpAnyH_take (i := 16) (v := ?_) rfl (by kernel_rfl) (by kernel_rfl) (by kernel_rfl) (fun _ _ _ h => h) (Or.inl ⟨by rfl, ?_⟩) (by assumption) ?_
              rotate_left
              · intro wS hSw
                (try dsimp only at hSw)
                go_simp
                first | done | with_reducible rfl
              try simp only [Act.put, List.getElem_toArray, List.getElem_cons_succ, List.getElem_cons_zero, List.setIfInBounds_toArray, List.set_cons_zero, List.set_cons_succ]
              refine wpAnyH_take (i := 17) (v := ?_) rfl (by kernel_rfl) (by kernel_rfl) (by kernel_rfl) (fun _ _ _ h => h) (Or.inl ⟨by rfl, ?_⟩) (by assumption) ?_
              rotate_left
              · intro wS hSw
                (try dsimp only at hSw)
                go_simp
                first | done | with_reducible rfl
              try simp only [Act.put, List.getElem_toArray, List.getElem_cons_succ, List.getElem_cons_zero, List.setIfInBounds_toArray, List.set_cons_zero, List.set_cons_succ]
              refine wpAnyH_ready (rs := [18]) (by kernel_rfl) (by simp) ?_
              refine AllReadyH.cons rfl (fun K hK => ?_) AllReadyH.nil
              go_simp
              refine (awake9_any _).mono ?_; rintro x w31 ⟨rfl, hb31⟩
              refine hK.out _ _ ?_ (fun r4 => ?_)
              · exact bel r3 hb31
              try simp only [Act.put, List.getElem_toArray, List.getElem_cons_succ, List.getElem_cons_zero, List.setIfInBounds_toArray, List.set_cons_zero, List.set_cons_succ]
              refine wpAnyH_take (i := 19) (v := ?_) rfl (by kernel_rfl) (by kernel_rfl) (by kernel_rfl) (fun _ _ _ h => h) (Or.inl ⟨by rfl, ?_⟩) (by assumption) ?_
              rotate_left
              · intro wS hSw
                (try dsimp only at hSw)
                go_simp
                first | done | with_reducible rfl
              try simp only [Act.put, List.getElem_toArray, List.getElem_cons_succ, List.getElem_cons_zero, List.setIfInBounds_toArray, List.set_cons_zero, List.set_cons_succ]
              refine wpAnyH_take (i := 20) (v := ?_) rfl (by kernel_rfl) (by kernel_rfl) (by kernel_rfl) (fun _ _ _ h => h) (Or.inl ⟨by rfl, ?_⟩) (by assumption) ?_
              rotate_left
              · intro wS hSw
                (try dsimp only at hSw)
                go_simp
                first | done | with_reducible rfl
              try simp only [Act.put, List.getElem_toArray, List.getElem_cons_succ, List.getElem_cons_zero, List.setIfInBounds_toArray, List.set_cons_zero, List.set_cons_succ]
              refine wpAnyH_done (by kernel_rfl) ?_ _
              go_wp2_with fail
              go_ret
              exact ⟨rfl, HF.out.1.2.2.trans (r4.mono HF.out.1.2.2.size)⟩
      · have d0 : decide (140 < (key.size : Int)) = false := by simp; omega
        clear hks
        have HX0 := Lib.hid (And.intro hk (And.intro hd (And.intro hin (And.intro ((hfr.2 b5 rfl).2.2.2.trans HST.out.2.2.2) (hfr.2 b5 rfl).1))))
        clear hk hd hin hfr hgd
        have HO := Lib.hid (ours_any o0)
        have hxo := ours_ok HO0.out
        generalize ours o0 = x at HO hxo
        obtain ⟨xk, xa, xb, xr, xi, xj⟩ := x
        have HXO := Lib.hid hxo
        clear hxo
        go_upto_region 12 with fail
        generalize hkk : key = kk
        have HKK : Hid (kk.size ≤ maxLen) := Lib.hid (by rw [← hkk]; exact HKE.out)
        clear hkk
        obtain ⟨k0, k1, k2, k3, k4, k5⟩ := opcells HX0.out.2.2.2.1
        go_upto_region 13 with (first
          | (go_at_call 16; refine (HO.out _).mono ?_; rintro e w2 ⟨rfl, hb2⟩)
          | go_in)
        obtain ⟨W6, hW6, hb6, hz6, h7, h8⟩ := two_new w2 (opO ⟨xk, xa, xb, xr, xi, xj⟩) (opR ⟨xk, xa, xb, xr, xi, xj⟩)
        change Code.wp _ _ _ _ ((w2.alloc (opO ⟨xk, xa, xb, xr, xi, xj⟩)).alloc (opR ⟨xk, xa, xb, xr, xi, xj⟩))
        rw [← hW6]
        obtain ⟨b7, hb7⟩ : ∃ b7, b7 = w2.heap.size := ⟨_, rfl⟩
        rw [← hb7] at h7 h8 ⊢
        obtain ⟨b8, hb8⟩ : ∃ b8, b8 = b7 + 1 := ⟨_, rfl⟩
        rw [← hb8] at h8 ⊢
        have hb26 : Below wr.heap.size wr W6 := bel hb2 hb6
        have hwb7 : wr.heap.size ≤ b7 := by rw [hb7]; exact hb2.size
        have HN : Hid ((∀ i, P i → i < b7) ∧ B < b7 ∧ (∀ d, vr.ownBlock = some d → d < b7) ∧ w.heap.size ≤ b7 ∧ b7 < b8) := Lib.hid ⟨fun i hi => Nat.lt_of_lt_of_le (HX0.out.1.1.own i hi) hwb7, Nat.lt_of_lt_of_le (heap_lt HX0.out.2.1.2.1) hwb7, fun d hd => Nat.lt_of_lt_of_le (HX0.out.2.1.2.2.2 d hd).2.2 hwb7, Nat.le_trans HX0.out.1.2.2.size hwb7, by omega⟩
        have HA := Lib.hid (And.intro (HX0.out.1.below hb26) (And.intro (HX0.out.2.1.below hb26) (And.intro h7 h8)))
        obtain ⟨y0, y1, y2, y3, y4, y5, z0, z1, z2, z3, z4, z5⟩ := six h7
        clear hW6 hb6 hz6 h7 h8 hb7 hb8 hb26 hb2 hwb7 k0 k1 k2 k3 k4 k5
        go_upto_region 14 with fail
        obtain ⟨W7, hW7⟩ : ∃ W7, W7 = W6.setCell ⟨b7, 4, none⟩ (.string emp) := ⟨_, rfl⟩
        change Code.wp _ _ _ _ (W6.setCell ⟨b7, 4, none⟩ (.string emp))
        rw [← hW7]
        have h7 : W7.heap[b7]? = some (opO ⟨xk, xa, xb, xr, emp, xj⟩) := by rw [hW7]; exact opO_if (x := ⟨xk, xa, xb, xr, xi, xj⟩) HA.out.2.2.1 emp
        have h8 : W7.heap[b8]? = some (opR ⟨xk, xa, xb, xr, xi, xj⟩) := by rw [hW7]; exact (Below.heap_setCell _ _ _ _ (by have := HN.out.2.2.2.2; show b8 ≠ b7; omega)).trans HA.out.2.2.2
        have HA7 := Lib.hid (And.intro (show KvW w W7 g P ⟨R, L⟩ by rw [hW7]; exact HA.out.1.setc (fun hp => by have := HN.out.1 _ hp; omega) HN.out.2.2.2.1 _) (And.intro (show DocAt W7 B P ⟨R, L⟩ vr by rw [hW7]; exact HA.out.2.1.setc (by have := HN.out.2.1; omega) (fun d hd => by have := HN.out.2.2.1 d hd; omega) _) (And.intro h7 h8)))
        clear y0 y1 y2 y3 y4 y5 z0 z1 z2 z3 z4 z5 hW7 h7
        obtain ⟨y0, y1, y2, y3, y4, y5, z0, z1, z2, z3, z4, z5⟩ := six h8
        clear h8
        go_upto_region 15 with fail
        obtain ⟨W8, hW8⟩ : ∃ W8, W8 = W7.setCell ⟨b8, 4, none⟩ (.string emp) := ⟨_, rfl⟩
        change Code.wp _ _ _ _ (W7.setCell ⟨b8, 4, none⟩ (.string emp))
        rw [← hW8]
        have h7 : W8.heap[b7]? = some (opO ⟨xk, xa, xb, xr, emp, xj⟩) := by rw [hW8]; exact (Below.heap_setCell _ _ _ _ (by have := HN.out.2.2.2.2; show b7 ≠ b8; omega)).trans HA7.out.2.2.1
        have h8 : W8.heap[b8]? = some (opR ⟨xk, xa, xb, xr, emp, xj⟩) := by rw [hW8]; exact opO_if (x := ⟨xk, xa, xb, xr, xi, xj⟩) HA7.out.2.2.2 emp
        have HA8 := Lib.hid (And.intro (show KvW w W8 g P ⟨R, L⟩ by rw [hW8]; exact HA7.out.1.setc (fun hp => by have := HN.out.1 _ hp; have := HN.out.2.2.2.2; omega) (by have := HN.out.2.2.2; omega) _) (And.intro (show DocAt W8 B P ⟨R, L⟩ vr by rw [hW8]; exact HA7.out.2.1.setc (by have := HN.out.2.1; have := HN.out.2.2.2.2; omega) (fun d hd => by have := HN.out.2.2.1 d hd; have := HN.out.2.2.2.2; omega) _) h7))
        have HRP := Lib.hid (refPlan_any vr L R ⟨xk, xa, xb, xr, emp, xj⟩ W8 HA8.out.2.1.2.2.1 (by have := HX0.out.2.2.1.2.2.2.1; simp only [] at this; omega) ⟨HXO.out.1, HXO.out.2.1, Nat.zero_le _⟩ (by have h1 := HX0.out.2.2.1.2.1; have h2 := HX0.out.2.2.1.2.2.1; simp only [] at h1 h2; omega))
        have hmx : (R == 9223372036854775807) = false := by have h2 := HX0.out.2.2.1.2.2.1; simp only [] at h2; simp; omega
        have HGS : Hid (((kk.toList == ([] : List UInt8)) = true ∨ stands L kk rev = true ∨ (planK ⟨R, L⟩ ⟨xk, xa, xb, xr, emp, xj⟩).2.2 = false) → (doK ⟨R, L⟩ ⟨xk, xa, xb, xr, kk, rev⟩).1 = (planK ⟨R, L⟩ ⟨xk, xa, xb, xr, emp, xj⟩).1) := Lib.hid (fun h => guard_same (S := ⟨R, L⟩) hmx h)
        have HGN : Hid ((kk.toList == ([] : List UInt8)) = false → stands L kk rev = false → (planK ⟨R, L⟩ ⟨xk, xa, xb, xr, emp, xj⟩).2.2 = true → doK ⟨R, L⟩ ⟨xk, xa, xb, xr, kk, rev⟩ = (⟨8, 0, emp, []⟩, ⟨R, L⟩)) := Lib.hid (fun h1 h2 h3 => guard_no (S := ⟨R, L⟩) hmx h1 h2 h3)
        have HSD : Hid (∀ w', KvW w w' g P ⟨R, L⟩ → Calls Try.prog 21 #[ptr g, opV ⟨xk, xa, xb, xr, kk, rev⟩] w' fun e w'' => ∃ ao c P', e = .returned (kres (doK ⟨R, L⟩ ⟨xk, xa, xb, xr, kk, rev⟩).1 (.slice ao (doK ⟨R, L⟩ ⟨xk, xa, xb, xr, kk, rev⟩).1.its.length c)) ∧ RowI w'' w'.heap.size (.slice ao (doK ⟨R, L⟩ ⟨xk, xa, xb, xr, kk, rev⟩).1.its.length c) (doK ⟨R, L⟩ ⟨xk, xa, xb, xr, kk, rev⟩).1.its ∧ KvW w w'' g P' (doK ⟨R, L⟩ ⟨xk, xa, xb, xr, kk, rev⟩).2 ∧ (∀ k, k < w'.heap.size → ¬ P k → w''.heap[k]? = w'.heap[k]?) ∧ w'.heap.size ≤ w''.heap.size ∧ (∀ i, P' i → P i ∨ w'.heap.size ≤ i)) := Lib.hid (fun w' h => (do_step ⟨xk, xa, xb, xr, kk, rev⟩ h HXO.out.1 HKK.out HX0.out.2.2.1.1 (by have := HX0.out.2.2.1.2.2.2.1; simp only [] at this ⊢; omega) (by have h1 := HX0.out.2.2.1.2.1; have h2 := HX0.out.2.2.1.2.2.1; simp only [] at *; omega)).mono (by
          rintro e w'' ⟨ao, c, P', h1, h2, h3, _, h5, h6, h7⟩
          exact ⟨ao, c, P', h1, h2, h3, h5, h6, h7⟩))
        have HPL : Hid ((planK ⟨R, L⟩ ⟨xk, xa, xb, xr, emp, xj⟩).1.its.length ≤ 1000000) := Lib.hid (by
          have hp : (planK ⟨R, L⟩ ⟨xk, xa, xb, xr, emp, xj⟩).1.its.length ≤ L.length := by
            unfold planK
            split
            · simp
            · split
              · exact beginL_le L _
              · split <;> simp
          have := HX0.out.2.2.1.2.2.2.1
          simp only [] at this
          omega)
        generalize doK ⟨R, L⟩ ⟨xk, xa, xb, xr, kk, rev⟩ = dk at HSD HGS HGN
        obtain ⟨⟨dc, dr, dv, di⟩, S2⟩ := dk
        generalize planK ⟨R, L⟩ ⟨xk, xa, xb, xr, emp, xj⟩ = pl at HRP HGS HGN HPL
        obtain ⟨⟨rc, rr, rv, ri⟩, ⟨ek, ev, er, eg⟩, cd⟩ := pl
        simp only [] at HRP HSD HGS HGN HPL
        clear y0 y1 y2 y3 y4 y5 z0 z1 z2 z3 z4 z5 hW8 h7 hmx
        obtain ⟨y0, y1, y2, y3, y4, y5⟩ := opcells h8
        have s0 := cell0 HA8.out.2.1.2.1
        have s1 := cell1 HA8.out.2.1.2.1
        clear h8
        go_upto_region 16 with (first
          | (go_at_call 18; refine HRP.out.mono ?_; rintro e w9 ⟨vf, rfl, hrf, hb9⟩; obtain ⟨aoF, nF, cF, rfl⟩ := row_slice hrf)
          | go_in)
        obtain ⟨W9, hW9, hb99, hz9, h17, h18⟩ := two_new w9 (resR rc rr rv (.slice aoF nF cF)) (effR9 ⟨ek, ev, er, eg⟩)
        change Code.wp _ _ _ _ ((w9.alloc (resR rc rr rv (.slice aoF nF cF))).alloc (effR9 ⟨ek, ev, er, eg⟩))
        rw [← hW9]
        obtain ⟨b17, hb17⟩ : ∃ b17, b17 = w9.heap.size := ⟨_, rfl⟩
        rw [← hb17] at h17 h18 ⊢
        have hbb : Below W8.heap.size W8 W9 := bel hb9 hb99
        have h7 := (hbb.block _ (heap_lt HA8.out.2.2)).trans HA8.out.2.2
        have hP8 : ∀ i, P i → i < W8.heap.size := HA8.out.1.1.own
        have hnb : ∀ d, (Value.slice aoF nF cF).ownBlock = some d → d ≠ b7 ∧ ¬ P d := fun d hd => ⟨by have := (World.ownsRow.lt hrf d hd).1; have := heap_lt HA8.out.2.2; omega, own_not hrf hP8 d hd⟩
        have h7b : b7 < b17 := by have := heap_lt HA8.out.2.2; have := hb9.size; omega
        have HA9 := Lib.hid (And.intro (HA8.out.1.below hbb) (And.intro (HA8.out.2.1.below hbb) (And.intro h7 (And.intro h17 (And.intro ((RowE.sees hrf).below hb99) (And.intro hnb (And.intro h7b (show ¬ P b17 from fun hp => by have := hP8 _ hp; have := hb9.size; omega))))))))
        clear y0 y1 y2 y3 y4 y5 s0 s1 hW9 hb99 hz9 h17 h18 hb17 hbb hP8 hnb h7b hrf hb9 HRP
        obtain ⟨y0, y1, y2, y3, y4, y5, z0, z1, z2, z3, z4, z5⟩ := six h7
        clear h7
        go_upto_region 17 with fail
        obtain ⟨W10, hW10⟩ : ∃ W10, W10 = W9.setCell ⟨b7, 4, none⟩ (.string kk) := ⟨_, rfl⟩
        change Code.wp _ _ _ _ (W9.setCell ⟨b7, 4, none⟩ (.string kk))
        rw [← hW10]
        have h7 : W10.heap[b7]? = some (opO ⟨xk, xa, xb, xr, kk, xj⟩) := by rw [hW10]; exact opO_if (x := ⟨xk, xa, xb, xr, emp, xj⟩) HA9.out.2.2.1 kk
        have HA10 := Lib.hid (And.intro (show KvW w W10 g P ⟨R, L⟩ by rw [hW10]; exact HA9.out.1.setc (fun hp => by have := HN.out.1 _ hp; omega) HN.out.2.2.2.1 _) (And.intro (show DocAt W10 B P ⟨R, L⟩ vr by rw [hW10]; exact HA9.out.2.1.setc (by have := HN.out.2.1; omega) (fun d hd => by have := HN.out.2.2.1 d hd; omega) _) (And.intro h7 (And.intro (show W10.heap[b17]? = some (resR rc rr rv (.slice aoF nF cF)) by rw [hW10]; exact (Below.heap_setCell _ _ _ _ (by have := HA9.out.2.2.2.2.2.2.1; show b17 ≠ b7; omega)).trans HA9.out.2.2.2.1) (show SeesI W10 (.slice aoF nF cF) ri by rw [hW10]; exact HA9.out.2.2.2.2.1.keep (fun d hd _ => Below.heap_setCell _ _ _ _ (HA9.out.2.2.2.2.2.1 d hd).1))))))
        clear y0 y1 y2 y3 y4 y5 z0 z1 z2 z3 z4 z5 hW10
        obtain ⟨y0, y1, y2, y3, y4, y5, z0, z1, z2, z3, z4, z5⟩ := six h7
        clear h7
        go_upto_region 18 with fail
        obtain ⟨W11, hW11⟩ : ∃ W11, W11 = W10.setCell ⟨b7, 5, none⟩ (.int .i64 rev) := ⟨_, rfl⟩
        change Code.wp _ _ _ _ (W10.setCell ⟨b7, 5, none⟩ (.int .i64 rev))
        rw [← hW11]
        have h7 : W11.heap[b7]? = some (opO ⟨xk, xa, xb, xr, kk, rev⟩) := by rw [hW11]; exact opO_ir HA10.out.2.2.1 rev
        have HA11 := Lib.hid (And.intro (show KvW w W11 g P ⟨R, L⟩ by rw [hW11]; exact HA10.out.1.setc (fun hp => by have := HN.out.1 _ hp; omega) HN.out.2.2.2.1 _) (And.intro (show DocAt W11 B P ⟨R, L⟩ vr by rw [hW11]; exact HA10.out.2.1.setc (by have := HN.out.2.1; omega) (fun d hd => by have := HN.out.2.2.1 d hd; omega) _) (And.intro h7 (And.intro (show W11.heap[b17]? = some (resR rc rr rv (.slice aoF nF cF)) by rw [hW11]; exact (Below.heap_setCell _ _ _ _ (by have := HA9.out.2.2.2.2.2.2.1; show b17 ≠ b7; omega)).trans HA10.out.2.2.2.1) (show SeesI W11 (.slice aoF nF cF) ri by rw [hW11]; exact HA10.out.2.2.2.2.keep (fun d hd _ => Below.heap_setCell _ _ _ _ (HA9.out.2.2.2.2.2.1 d hd).1))))))
        clear y0 y1 y2 y3 y4 y5 z0 z1 z2 z3 z4 z5 hW11
        obtain ⟨y0, y1, y2, y3, y4, y5⟩ := opcells h7
        clear h7
        go_upto_region 19 with (first
          | (go_at_call 21; refine (HSD.out W11 HA11.out.1).mono ?_; rintro e w12 ⟨ao12, c12, P12, rfl, hrow12, hk12, hkeep12, hz12, hP12⟩)
          | go_in)
        obtain ⟨W12, hW12⟩ : ∃ W12, W12 = w12.alloc (resO dc dr dv (.slice ao12 di.length c12)) := ⟨_, rfl⟩
        change Code.wp _ _ _ _ (w12.alloc (resO dc dr dv (.slice ao12 di.length c12)))
        rw [← hW12]
        have hbW : Below w12.heap.size w12 W12 := by rw [hW12]; exact belNew _ _
        have h20 : W12.heap[w12.heap.size]? = some (resO dc dr dv (.slice ao12 di.length c12)) := by rw [hW12]; exact heap_alloc_new w12 _
        have h17k := (hkeep12 b17 (heap_lt HA11.out.2.2.2.1) HA9.out.2.2.2.2.2.2.2).trans HA11.out.2.2.2.1
        have HE := Lib.hid (And.intro (hk12.below hbW) (And.intro ((HA11.out.2.1.step hkeep12 hz12 hP12).below hbW) (And.intro h20 (And.intro ((hbW.block _ (heap_lt h17k)).trans h17k) (And.intro ((RowE.sees hrow12).below hbW) ((HA11.out.2.2.2.2.keep (w' := w12) (fun d hd hl => hkeep12 d hl (HA9.out.2.2.2.2.2.1 d hd).2)).below hbW))))))
        have HSt : Hid (∀ w', Below W12.heap.size W12 w' → Calls Try.prog 34 #[stV R vr, .string kk, .int .i64 rev] w' fun x w'' => x = .returned (.bool (stands L kk rev)) ∧ Below w'.heap.size w' w'') := Lib.hid (fun w' hb => refStands_any vr L R kk rev w' (HE.out.2.1.2.2.1.below hb) (by have := HX0.out.2.2.1.2.2.2.1; simp only [] at this; unfold maxLen; omega))
        have s0 := cell0 HE.out.2.1.2.1
        have s1 := cell1 HE.out.2.1.2.1
        obtain ⟨m0, m1, m2, m3⟩ := resA HE.out.2.2.1
        obtain ⟨n0, n1, n2, n3⟩ := resA HE.out.2.2.2.1
        clear y0 y1 y2 y3 y4 y5 hW12 hbW h20 h17k hrow12 hk12 hkeep12 hz12 hP12 HSD HA11 HA10
        cases hke : (kk.toList == ([] : List UInt8)) with
        | true =>
          have hke2 := bne_of hke
          have HTOLD := HGS.out (Or.inl hke)
          obtain ⟨e1, e2, e3, e4⟩ : dc = rc ∧ dr = rr ∧ dv = rv ∧ di = ri := by injection HTOLD with e1 e2 e3 e4; exact ⟨e1, e2, e3, e4⟩
          subst e1 e2 e3 e4
          go_wp2_with (first
            | (go_at_call 19; refine (same9_yes ⟨dc, dr, dv, di⟩ (.slice ao12 di.length c12) (.slice aoF nF cF) W12 (HE.out.2.2.2.2.1.below (Below.refl W12.heap.size W12)) (HE.out.2.2.2.2.2.below (Below.refl W12.heap.size W12)) (show di.length ≤ maxLen by have := HPL.out; unfold maxLen; omega)).mono ?_; rintro e wsm ⟨rfl, hbsm⟩)
            | (go_at_call 26; refine (awake9_any wsm).mono ?_; rintro e wy ⟨rfl, hby⟩)
            | go_in)
          go_ret
          exact ⟨rfl, HE.out.1.2.2.trans ((bel (Below.refl W12.heap.size W12) (bel hbsm hby)).mono HE.out.1.2.2.size)⟩
        | false =>
          have hke2 := bne_of hke
          generalize hst : stands L kk rev = st at HSt
          cases st with
          | true =>
            have HTOLD := HGS.out (Or.inr (Or.inl hst))
            obtain ⟨e1, e2, e3, e4⟩ : dc = rc ∧ dr = rr ∧ dv = rv ∧ di = ri := by injection HTOLD with e1 e2 e3 e4; exact ⟨e1, e2, e3, e4⟩
            subst e1 e2 e3 e4
            go_wp2_with (first
              | (go_at_call 34; refine (HSt.out W12 (Below.refl _ _)).mono ?_; rintro e wst ⟨rfl, hbst⟩; have m0 := bcell hbst m0; have m1 := bcell hbst m1; have m2 := bcell hbst m2; have m3 := bcell hbst m3; have n0 := bcell hbst n0; have n1 := bcell hbst n1; have n2 := bcell hbst n2; have n3 := bcell hbst n3)
              | (go_at_call 19; refine (same9_yes ⟨dc, dr, dv, di⟩ (.slice ao12 di.length c12) (.slice aoF nF cF) wst (HE.out.2.2.2.2.1.below hbst) (HE.out.2.2.2.2.2.below hbst) (show di.length ≤ maxLen by have := HPL.out; unfold maxLen; omega)).mono ?_; rintro e wsm ⟨rfl, hbsm⟩)
              | (go_at_call 26; refine (awake9_any wsm).mono ?_; rintro e wy ⟨rfl, hby⟩)
              | go_in)
            go_ret
            exact ⟨rfl, HE.out.1.2.2.trans ((bel hbst (bel hbsm hby)).mono HE.out.1.2.2.size)⟩
          | false =>
            cases cd with
            | false =>
              have HTOLD := HGS.out (Or.inr (Or.inr rfl))
              obtain ⟨e1, e2, e3, e4⟩ : dc = rc ∧ dr = rr ∧ dv = rv ∧ di = ri := by injection HTOLD with e1 e2 e3 e4; exact ⟨e1, e2, e3, e4⟩
              subst e1 e2 e3 e4
              go_wp2_with (first
                | (go_at_call 34; refine (HSt.out W12 (Below.refl _ _)).mono ?_; rintro e wst ⟨rfl, hbst⟩; have m0 := bcell hbst m0; have m1 := bcell hbst m1; have m2 := bcell hbst m2; have m3 := bcell hbst m3; have n0 := bcell hbst n0; have n1 := bcell hbst n1; have n2 := bcell hbst n2; have n3 := bcell hbst n3)
                | (go_at_call 19; refine (same9_yes ⟨dc, dr, dv, di⟩ (.slice ao12 di.length c12) (.slice aoF nF cF) wst (HE.out.2.2.2.2.1.below hbst) (HE.out.2.2.2.2.2.below hbst) (show di.length ≤ maxLen by have := HPL.out; unfold maxLen; omega)).mono ?_; rintro e wsm ⟨rfl, hbsm⟩)
                | (go_at_call 26; refine (awake9_any wsm).mono ?_; rintro e wy ⟨rfl, hby⟩)
                | go_in)
              go_ret
              exact ⟨rfl, HE.out.1.2.2.trans ((bel hbst (bel hbsm hby)).mono HE.out.1.2.2.size)⟩
            | true =>
              have HNO := HGN.out hke hst rfl
              obtain ⟨e1, e2⟩ : (⟨dc, dr, dv, di⟩ : KRes) = ⟨8, 0, emp, []⟩ ∧ S2 = ⟨R, L⟩ := ⟨congrArg Prod.fst HNO, congrArg Prod.snd HNO⟩
              obtain ⟨e3, e4, e5, e6⟩ : dc = 8 ∧ dr = 0 ∧ dv = emp ∧ di = [] := by injection e1 with e1 e2 e3 e4; exact ⟨e1, e2, e3, e4⟩
              subst e2 e3 e4 e5 e6
              go_upto_region 21 with (first
                | (go_at_call 34; refine (HSt.out W12 (Below.refl _ _)).mono ?_; rintro e wst ⟨rfl, hbst⟩)
                | go_in)
              have HF := Lib.hid (And.intro (HE.out.1.below hbst) (HE.out.2.1.below hbst))
              have m0 := bcell hbst m0
              have s0 := bcell hbst s0
              have s1 := bcell hbst s1
              have yr : (R == R) = true := by simp
              clear hbst
              refine wp_region_held_drew (S := (fun W => Below wst.heap.size wst W)) (by kernel_rfl) ?_ (fun r0 => ?_)
              · exact ⟨rfl, rfl, rfl, Nat.le_refl _, fun _ _ => rfl⟩
              refine wpAnyH_take (i := 0) (v := ?_) rfl (by kernel_rfl) (by kernel_rfl) (by kernel_rfl) (fun _ _ _ h => h) (Or.inl ⟨by rfl, ?_⟩) (by assumption) ?_
              rotate_left
              · intro wS hSw
                (try dsimp only at hSw)
                go_simp
                first | done | with_reducible rfl
              try simp only [Act.put, List.getElem_toArray, List.getElem_cons_zero, List.setIfInBounds_toArray, List.set_cons_zero, List.set_cons_succ]
              refine wpAnyH_take (i := 1) (v := ?_) rfl (by kernel_rfl) (by kernel_rfl) (by kernel_rfl) (fun _ _ _ h => h) (Or.inl ⟨by rfl, ?_⟩) (by assumption) ?_
              rotate_left
              · intro wS hSw
                (try dsimp only at hSw)
                have m0 := bcell hSw m0
                have s0 := bcell hSw s0
                have s1 := bcell hSw s1
                go_simp
                first | done | with_reducible rfl
              try simp only [Act.put, List.getElem_toArray, List.getElem_cons_succ, List.getElem_cons_zero, List.setIfInBounds_toArray, List.set_cons_zero, List.set_cons_succ]
              refine wpAnyH_take (i := 2) (v := ?_) rfl (by kernel_rfl) (by kernel_rfl) (by kernel_rfl) (fun _ _ _ h => h) (Or.inl ⟨by rfl, ?_⟩) (by assumption) ?_
              rotate_left
              · intro wS hSw
                (try dsimp only at hSw)
                go_simp
                first | done | with_reducible rfl
              try simp only [Act.put, List.getElem_toArray, List.getElem_cons_succ, List.getElem_cons_zero, List.setIfInBounds_toArray, List.set_cons_zero, List.set_cons_succ]
              refine wpAnyH_take (i := 3) (v := ?_) rfl (by kernel_rfl) (by kernel_rfl) (by kernel_rfl) (fun _ _ _ h => h) (Or.inl ⟨by rfl, ?_⟩) (by assumption) ?_
              rotate_left
              · intro wS hSw
                (try dsimp only at hSw)
                go_simp
                first | done | with_reducible rfl
              try simp only [Act.put, List.getElem_toArray, List.getElem_cons_succ, List.getElem_cons_zero, List.setIfInBounds_toArray, List.set_cons_zero, List.set_cons_succ]
              refine wpAnyH_take (i := 4) (v := ?_) rfl (by kernel_rfl) (by kernel_rfl) (by kernel_rfl) (fun _ _ _ h => h) (Or.inl ⟨by rfl, ?_⟩) (by assumption) ?_
              rotate_left
              · intro wS hSw
                (try dsimp only at hSw)
                go_simp
                first | done | with_reducible rfl
              try simp only [Act.put, List.getElem_toArray, List.getElem_cons_succ, List.getElem_cons_zero, List.setIfInBounds_toArray, List.set_cons_zero, List.set_cons_succ]
              refine wpAnyH_take (i := 6) (v := ?_) rfl (by kernel_rfl) (by kernel_rfl) (by kernel_rfl) (fun _ _ _ h => h) (Or.inl ⟨by rfl, ?_⟩) (by assumption) ?_
              rotate_left
              · intro wS hSw
                (try dsimp only at hSw)
                go_simp
                first | done | with_reducible rfl
              try simp only [Act.put, List.getElem_toArray, List.getElem_cons_succ, List.getElem_cons_zero, List.setIfInBounds_toArray, List.set_cons_zero, List.set_cons_succ]
              refine wpAnyH_take (i := 7) (v := ?_) rfl (by kernel_rfl) (by kernel_rfl) (by kernel_rfl) (fun _ _ _ h => h) (Or.inl ⟨by rfl, ?_⟩) (by assumption) ?_
              rotate_left
              · intro wS hSw
                (try dsimp only at hSw)
                have m0 := bcell hSw m0
                have s0 := bcell hSw s0
                have s1 := bcell hSw s1
                go_simp
                first | done | with_reducible rfl
              try simp only [Act.put, List.getElem_toArray, List.getElem_cons_succ, List.getElem_cons_zero, List.setIfInBounds_toArray, List.set_cons_zero, List.set_cons_succ]
              refine wpAnyH_ready (rs := [5]) (by kernel_rfl) (by simp) ?_
              refine AllReadyH.cons rfl (fun K hK => ?_) AllReadyH.nil
              go_simp
              refine (rev_any g P12 ⟨R, L⟩ _ (HF.out.1.1.below r0)).mono ?_; rintro x wx ⟨rfl, rfl⟩
              refine hK.out _ _ ?_ (fun r1 => ?_)
              · exact r0
              try simp only 
              refine wpAnyH_take (i := 8) (v := ?_) rfl (by kernel_rfl) (by kernel_rfl) (by kernel_rfl) (fun _ _ _ h => h) (Or.inl ⟨by rfl, ?_⟩) (by assumption) ?_
              rotate_left
              · intro wS hSw
                (try dsimp only at hSw)
                go_simp
                first | done | with_reducible rfl
              try simp only [Act.put, List.getElem_toArray, List.getElem_cons_succ, List.getElem_cons_zero, List.setIfInBounds_toArray, List.set_cons_zero, List.set_cons_succ]
              refine wpAnyH_take (i := 9) (v := ?_) rfl (by kernel_rfl) (by kernel_rfl) (by kernel_rfl) (fun _ _ _ h => h) (Or.inl ⟨by rfl, ?_⟩) (by assumption) ?_
              rotate_left
              · intro wS hSw
                (try dsimp only at hSw)
                go_simp
                first | done | with_reducible rfl
              try simp only [Act.put, List.getElem_toArray, List.getElem_cons_succ, List.getElem_cons_zero, List.setIfInBounds_toArray, List.set_cons_zero, List.set_cons_succ]
              refine wpAnyH_take (i := 10) (v := ?_) rfl (by kernel_rfl) (by kernel_rfl) (by kernel_rfl) (fun _ _ _ h => h) (Or.inl ⟨by rfl, ?_⟩) (by assumption) ?_
              rotate_left
              · intro wS hSw
                (try dsimp only at hSw)
                go_simp
                first | done | with_reducible rfl
              try simp only [Act.put, List.getElem_toArray, List.getElem_cons_succ, List.getElem_cons_zero, List.setIfInBounds_toArray, List.set_cons_zero, List.set_cons_succ]
              refine wpAnyH_take (i := 11) (v := ?_) rfl (by kernel_rfl) (by kernel_rfl) (by kernel_rfl) (fun _ _ _ h => h) (Or.inl ⟨by rfl, ?_⟩) (by assumption) ?_
              rotate_left
              · intro wS hSw
                (try dsimp only at hSw)
                go_simp
                first | done | with_reducible rfl
              try simp only [Act.put, List.getElem_toArray, List.getElem_cons_succ, List.getElem_cons_zero, List.setIfInBounds_toArray, List.set_cons_zero, List.set_cons_succ]
              refine wpAnyH_take (i := 13) (v := ?_) rfl (by kernel_rfl) (by kernel_rfl) (by kernel_rfl) (fun _ _ _ h => h) (Or.inl ⟨by rfl, ?_⟩) (by assumption) ?_
              rotate_left
              · intro wS hSw
                (try dsimp only at hSw)
                go_simp
                first | done | with_reducible rfl
              try simp only [Act.put, List.getElem_toArray, List.getElem_cons_succ, List.getElem_cons_zero, List.setIfInBounds_toArray, List.set_cons_zero, List.set_cons_succ]
              refine wpAnyH_take (i := 14) (v := ?_) rfl (by kernel_rfl) (by kernel_rfl) (by kernel_rfl) (fun _ _ _ h => h) (Or.inl ⟨by rfl, ?_⟩) (by assumption) ?_
              rotate_left
              · intro wS hSw
                (try dsimp only at hSw)
                have m0 := bcell hSw m0
                have s0 := bcell hSw s0
                have s1 := bcell hSw s1
                go_simp
                first | done | with_reducible rfl
              try simp only [Act.put, List.getElem_toArray, List.getElem_cons_succ, List.getElem_cons_zero, List.setIfInBounds_toArray, List.set_cons_zero, List.set_cons_succ]
              refine wpAnyH_ready (rs := [12]) (by kernel_rfl) (by simp) ?_
              refine AllReadyH.cons rfl (fun K hK => ?_) AllReadyH.nil
              go_simp
              refine (all_any g P12 ⟨R, L⟩ _ (HF.out.1.1.below r1) HX0.out.2.2.1.1 (by have := HX0.out.2.2.1.2.2.2.1; simp only [] at *; omega)).mono ?_; rintro x w29 ⟨va9, rfl, hra9, hb29⟩
              refine hK.out _ _ ?_ (fun r2 => ?_)
              · exact bel r1 hb29
              try simp only [Act.put, List.getElem_toArray, List.getElem_cons_succ, List.getElem_cons_zero, List.setIfInBounds_toArray, List.set_cons_zero, List.set_cons_succ]
              refine wpAnyH_ready (rs := [15]) (by kernel_rfl) (by simp) ?_
              refine AllReadyH.cons rfl (fun K hK => ?_) AllReadyH.nil
              go_simp
              refine (same_yes va9 _ L _ (RowE.sees hra9) (HF.out.2.2.2.1.below (bel r1 hb29)) (by have := HX0.out.2.2.1.2.2.2.1; simp only [] at this; unfold maxLen; omega)).mono ?_; rintro x w30 ⟨rfl, hb30⟩
              refine hK.out _ _ ?_ (fun r3 => ?_)
              · exact bel r2 hb30
              try simp only [Act.put, List.getElem_toArray, List.getElem_cons_succ, List.getElem_cons_zero, List.setIfInBounds_toArray, List.set_cons_zero, List.set_cons_succ]
              refine wpAnyH_take (i := 16) (v := ?_) rfl (by kernel_rfl) (by kernel_rfl) (by kernel_rfl) (fun _ _ _ h => h) (Or.inl ⟨by rfl, ?_⟩) (by assumption) ?_
              rotate_left
              · intro wS hSw
                (try dsimp only at hSw)
                go_simp
                first | done | with_reducible rfl
              try simp only [Act.put, List.getElem_toArray, List.getElem_cons_succ, List.getElem_cons_zero, List.setIfInBounds_toArray, List.set_cons_zero, List.set_cons_succ]
              refine wpAnyH_take (i := 17) (v := ?_) rfl (by kernel_rfl) (by kernel_rfl) (by kernel_rfl) (fun _ _ _ h => h) (Or.inl ⟨by rfl, ?_⟩) (by assumption) ?_
              rotate_left
              · intro wS hSw
                (try dsimp only at hSw)
                go_simp
                first | done | with_reducible rfl
              try simp only [Act.put, List.getElem_toArray, List.getElem_cons_succ, List.getElem_cons_zero, List.setIfInBounds_toArray, List.set_cons_zero, List.set_cons_succ]
              refine wpAnyH_ready (rs := [18]) (by kernel_rfl) (by simp) ?_
              refine AllReadyH.cons rfl (fun K hK => ?_) AllReadyH.nil
              go_simp
              refine (awake9_any _).mono ?_; rintro x w31 ⟨rfl, hb31⟩
              refine hK.out _ _ ?_ (fun r4 => ?_)
              · exact bel r3 hb31
              try simp only [Act.put, List.getElem_toArray, List.getElem_cons_succ, List.getElem_cons_zero, List.setIfInBounds_toArray, List.set_cons_zero, List.set_cons_succ]
              refine wpAnyH_take (i := 19) (v := ?_) rfl (by kernel_rfl) (by kernel_rfl) (by kernel_rfl) (fun _ _ _ h => h) (Or.inl ⟨by rfl, ?_⟩) (by assumption) ?_
              rotate_left
              · intro wS hSw
                (try dsimp only at hSw)
                go_simp
                first | done | with_reducible rfl
              try simp only [Act.put, List.getElem_toArray, List.getElem_cons_succ, List.getElem_cons_zero, List.setIfInBounds_toArray, List.set_cons_zero, List.set_cons_succ]
              refine wpAnyH_take (i := 20) (v := ?_) rfl (by kernel_rfl) (by kernel_rfl) (by kernel_rfl) (fun _ _ _ h => h) (Or.inl ⟨by rfl, ?_⟩) (by assumption) ?_
              rotate_left
              · intro wS hSw
                (try dsimp only at hSw)
                go_simp
                first | done | with_reducible rfl
              try simp only [Act.put, List.getElem_toArray, List.getElem_cons_succ, List.getElem_cons_zero, List.setIfInBounds_toArray, List.set_cons_zero, List.set_cons_succ]
              refine wpAnyH_done (by kernel_rfl) ?_ _
              go_wp2_with fail
              go_ret
              exact ⟨rfl, HF.out.1.2.2.trans (r4.mono HF.out.1.2.2.size)⟩
end Go.Proofs.Ytogcjginifcbpaa
