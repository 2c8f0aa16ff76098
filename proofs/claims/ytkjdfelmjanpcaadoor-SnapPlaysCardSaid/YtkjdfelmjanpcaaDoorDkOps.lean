/- Package disk: New, Lost, Arm, Append. -/
import Derived.Test.YtkjdfelmjanpcaaDoorDkSt
namespace Go.Proofs.YtkjdfelmjanpcaaDoor
open Go.RowKit Go.Maps
abbrev ptr (g : Nat) : Value := .pointer (some ⟨g, 0, none⟩)
theorem eqNilD (w : World) (a : Option Addr) : (binOp .eql 23 (.pointer a) (.pointer none)).run Tryd.prog w = .ok (.bool a.isNone) w := by cases a <;> kernel_rfl
theorem neNilD (w : World) (a : Option Addr) : (binOp .neq 23 (.pointer a) (.pointer none)).run Tryd.prog w = .ok (.bool a.isSome) w := by cases a <;> kernel_rfl
theorem new_disk (w : World) : Calls Tryd.prog 10 #[] w fun e w' => ∃ g, e = .returned (ptr g) ∧ DiskAt w' g (· = g) ⟨[], false, false, 0⟩ ∧ w.heap.size ≤ g ∧ Below w.heap.size w w' := by
  go_enter Tryd.func10, Tryd.ntmps10
  go_wp2
  go_ret
  refine ⟨w.heap.size, rfl, ⟨none, [], ⟨heap_alloc_new w _, (fun b h => by cases h), fun _ => rfl, fun p hp => by cases hp⟩, rfl, (fun b h => by cases h), trivial, List.Pairwise.nil, List.Pairwise.nil, (fun i hi => by simp [hi]), by simp, by simp⟩, Nat.le_refl _, belNew w _⟩
theorem lost_any (g : Nat) (P : Nat → Prop) (D : DSt) (w : World) (h : DiskAt w g P D) : Calls Tryd.prog 16 #[ptr g] w fun e w' => e = .returned (.bool D.lost) ∧ w = w' := by
  obtain ⟨mb, es, h, -⟩ := h
  have q := neNilD
  obtain ⟨c0, c1, c2, c3⟩ := dcells h.1
  clear h
  go_enter Tryd.func16, Tryd.ntmps16
  go_wp2
  go_ret
  exact ⟨rfl, rfl⟩
theorem lost_nil (w : World) : Calls Tryd.prog 16 #[.pointer none] w fun e w' => e = .returned (.bool false) ∧ w = w' := by
  have q := neNilD
  go_enter Tryd.func16, Tryd.ntmps16
  go_wp2
  go_ret
  exact ⟨rfl, rfl⟩
theorem arm_nil (n : Int) (w : World) : Calls Tryd.prog 21 #[.pointer none, .int .i64 n] w fun e w' => e = .returned (.tuple #[]) ∧ w = w' := by
  have q := neNilD
  go_enter Tryd.func21, Tryd.ntmps21
  go_wp2
  go_end0
  exact ⟨rfl, rfl⟩
set_option maxHeartbeats 1000000 in
theorem arm_any (g : Nat) (P : Nat → Prop) (D : DSt) (n : Int) (w : World) (h : DiskAt w g P D) (_ : -9223372036854775808 ≤ n) (hn : n ≤ 9223372036854775807) :
    Calls Tryd.prog 21 #[ptr g, .int .i64 n] w fun e w' => e = .returned (.tuple #[]) ∧ DiskAt w' g P { D with armed := true, left := max n 0 } ∧ Touch P w w' := by
  obtain ⟨mb, es, h, h2, h3, h4, h5, h6, h7, h8⟩ := h
  have q := neNilD
  obtain ⟨c0, c1, c2, c3⟩ := dcells h.1
  have f2 := dfroz h.1 2
  have f3 := dfroz h.1 3
  have hA := (h.setArmed true).setLeft (max n 0)
  have hT : Touch (· = g) w ((w.setCell ⟨g, 2, none⟩ (.bool true)).setCell ⟨g, 3, none⟩ (.int .i64 (max n 0))) := (touch_set w g 2 _).trans (touch_set _ g 3 _) (fun _ _ e => e)
  have hR : Hid (DiskAt ((w.setCell ⟨g, 2, none⟩ (.bool true)).setCell ⟨g, 3, none⟩ (.int .i64 (max n 0))) g P { D with armed := true, left := max n 0 } ∧ Touch P w ((w.setCell ⟨g, 2, none⟩ (.bool true)).setCell ⟨g, 3, none⟩ (.int .i64 (max n 0)))) := Lib.hid
    ⟨⟨mb, es, hA, h2, h3, All2.imp (fun e _ f hf => hf.keep hT (fun d hd e2 => by
        obtain ⟨_, sv, he, ho, _⟩ := hf
        have h9 := own_ne_cells ho h.1 (by decide)
        unfold blkE at hd
        rw [he] at hd
        exact h9 (hd.trans (congrArg some e2))) (fun _ h => h)) h4, h5, h6, (fun i hi => Nat.lt_of_lt_of_le (h7 i hi) hT.2.2.2.1), by simp only []; omega, by simp only []; omega⟩, hT.mono (fun i _ e => by rw [e]; exact h2)⟩
  obtain ⟨M, hM⟩ : ∃ M, M = max n 0 := ⟨_, rfl⟩
  rw [← hM] at hR
  have HM := Lib.hid hM
  clear h hA hT h4 hM
  go_enter Tryd.func21, Tryd.ntmps21
  go_wp2
  go_end0
  have hR := hR.out
  rw [HM.out] at hR
  exact ⟨rfl, hR⟩
theorem sees_touch {w w1 : World} {v : Value} {t : List Int} {g : Nat} (h : Sees w v t) (hv : t ≠ [] → ∀ d, v.ownBlock = some d → d ≠ g) (ht : Touch (· = g) w w1) : Sees w1 v t := by
  by_cases h0 : t = []
  · subst h0
    obtain ⟨ao, c, e, h1, h2, _⟩ := h
    exact ⟨ao, c, e, h1, h2, fun a _ i hi => by cases hi⟩
  · exact sees_heap h (fun d hd hlt => ht.2.2.2.2 d hlt (fun e => hv h0 d hd e))
/-- The file of a name: what lies in memory for it. -/
theorem file_of {w : World} {P : Nat → Prop} {es : List Ent} {fs : List FEnt} (h : All2 (FileOk w P) es fs) (k : List UInt8) :
    ∃ sv, (getE es k).getD zeroF = .agg #[sv, .int .i64 (((getE fs k).getD ([], 0)).2 : Nat)] ∧ Owns w 0 sv ((getE fs k).getD ([], 0)).1 ∧ okB ((getE fs k).getD ([], 0)).1 ∧ ((getE fs k).getD ([], 0)).2 ≤ ((getE fs k).getD ([], 0)).1.length ∧
      (∀ d, sv.ownBlock = some d → P d ∧ ∃ v, getE es k = some v ∧ blkE (k, v) = some d) ∧ (getE es k).isSome = (getE fs k).isSome := by
  rcases All2.get fileKey k h with ⟨h1, h2⟩ | ⟨v, u, h1, h2, h3⟩
  · rw [h1, h2]
    exact ⟨.slice none 0 0, rfl, Owns.nil _ _, (fun x hx => by cases hx), Nat.le_refl _, (fun d hd => by cases hd), rfl⟩
  · rw [h1, h2]
    obtain ⟨_, sv, e1, e2, e3, e4, e5⟩ := h3
    refine ⟨sv, e1, e2, e3, e4, fun d hd => ⟨e5 d hd, v, rfl, ?_⟩, rfl⟩
    unfold blkE
    rw [e1]
    exact hd
theorem all2_mem {w : World} {P : Nat → Prop} : ∀ {es : List Ent} {fs : List FEnt}, All2 (FileOk w P) es fs → ∀ e ∈ es, ∃ f, FileOk w P e f
  | [], [], _, _, h => by cases h
  | a :: _, b :: _, ⟨h1, h2⟩, e, he => by
    rcases List.mem_cons.1 he with rfl | he
    · exact ⟨b, h1⟩
    · exact all2_mem h2 e he
theorem apart_of {es : List Ent} (hap : es.Pairwise Apart) {a b : Ent} (ha : a ∈ es) (hb : b ∈ es) (hab : a ≠ b) : Apart a b := by
  have hp := List.pairwise_iff_getElem.1 hap
  obtain ⟨i, hi, rfl⟩ := List.mem_iff_getElem.1 ha
  obtain ⟨j, hj, rfl⟩ := List.mem_iff_getElem.1 hb
  rcases Nat.lt_trichotomy i j with h | h | h
  · exact hp i j hi hj h
  · subst h; exact absurd rfl hab
  · exact (hp j i hj hi h).symm
/-- What a disk's own blocks are that a write to the file of a name may turn. -/
def TurnQ (g : Nat) (mb : Option Nat) (sv : Value) (i : Nat) : Prop := i = g ∨ some i = mb ∨ sv.ownBlock = some i
theorem others {w : World} {g : Nat} {mb : Option Nat} {es : List Ent} {fs : List FEnt} {P : Nat → Prop} {lost armed : Bool} {left : Int} (h : DiskE w g mb es lost armed left) (hall : All2 (FileOk w P) es fs) (hap : es.Pairwise Apart) (k : List UInt8) (sv : Value)
    (hsv : ∀ d, sv.ownBlock = some d → P d ∧ ∃ v, getE es k = some v ∧ blkE (k, v) = some d) : ∀ e ∈ es, e.1 ≠ k → ∀ d, blkE e = some d → ¬ TurnQ g mb sv d := by
  intro e he hne d hd hq
  obtain ⟨f, hf⟩ := all2_mem hall e he
  obtain ⟨_, sv2, e1, e2, _⟩ := hf
  have e3 : sv2.ownBlock = some d := by unfold blkE at hd; rw [e1] at hd; exact hd
  rcases hq with hq | hq | hq
  · exact own_ne_cells e2 h.1 (by decide) (e3.trans (congrArg some hq))
  · exact own_ne_map e2 (h.2.1 d hq.symm) e3
  · obtain ⟨_, v, h1, h2⟩ := hsv d hq
    exact apart_of hap (getE_mem h1) he (fun e4 => hne (by rw [← e4])) d h2 hd
/-- What Append answers, and leaves. -/
def appD (D : DSt) (k : List UInt8) (t : List Int) : Int × DSt :=
  if D.lost = true then (12, D) else (errW D.lost D.armed D.left, { fs := putE k (((getE D.fs k).getD ([], 0)).1 ++ t, ((getE D.fs k).getD ([], 0)).2) D.fs, lost := lost1 D.lost D.armed D.left, armed := D.armed, left := left1 D.lost D.armed D.left })
theorem left1_bd {lost armed : Bool} {left : Int} (h0 : 0 ≤ left) (h1 : left ≤ 9223372036854775807) : 0 ≤ left1 lost armed left ∧ left1 lost armed left ≤ 9223372036854775807 := by
  unfold left1
  by_cases h : lost1 lost armed left = false ∧ armed = true
  · rw [if_pos h]
    obtain ⟨h2, h3⟩ := h
    have : left ≠ 0 := by
      intro e
      subst e h3
      simp [lost1] at h2
    omega
  · rw [if_neg h]; exact ⟨h0, h1⟩
set_option maxHeartbeats 1000000 in
theorem append_empty (g : Nat) (src : Value) (w : World) : Calls Tryd.prog 26 #[ptr g, .string ⟨#[]⟩, src] w fun e w' => e = .returned (.int .i64 1) ∧ w = w' := by
  have q := eqNilD
  go_enter Tryd.func26, Tryd.ntmps26
  go_wp2
  go_ret
  exact ⟨rfl, rfl⟩
theorem append_nil (s : ByteArray) (src : Value) (w : World) : Calls Tryd.prog 26 #[.pointer none, .string s, src] w fun e w' => e = .returned (.int .i64 2) ∧ w = w' := by
  have q := eqNilD
  go_enter Tryd.func26, Tryd.ntmps26
  go_wp2
  go_ret
  exact ⟨rfl, rfl⟩
set_option maxHeartbeats 2000000 in
theorem append_any (g : Nat) (P : Nat → Prop) (D : DSt) (s : ByteArray) (src : Value) (t : List Int) (w : World) (h : DiskAt w g P D) (hs : s.size ≤ maxLen) (hs0 : s.data.toList ≠ []) (hn : D.fs.length ≤ 1000000) (hb : ((getE D.fs s.data.toList).getD ([], 0)).1.length + t.length ≤ 100000000000)
    (hsee : Sees w src t) (hok : okB t) (hsrc : t ≠ [] → ∀ d, src.ownBlock = some d → d ≠ g) :
    Calls Tryd.prog 26 #[ptr g, .string s, src] w fun e w' => ∃ P', e = .returned (.int .i64 (appD D s.data.toList t).1) ∧ DiskAt w' g P' (appD D s.data.toList t).2 ∧ Step P P' w w' := by
  have HA := Lib.hid h
  obtain ⟨mb, es, h, h2, h3, h4, h5, h6, h7, h8, h9⟩ := h
  have q := eqNilD
  have hs1 : ¬ s.toList = [] := by rw [ByteArray.toList_eq]; exact hs0
  have hs2 : s.toList.isEmpty = false := by cases hh : s.toList with | nil => exact absurd hh hs1 | cons a b => rfl
  obtain ⟨c0, c1, c2, c3⟩ := dcells h.1
  cases hl : D.lost with
  | true =>
    rw [hl] at c1
    have e1 : appD D s.data.toList t = (12, D) := by unfold appD; rw [if_pos hl]
    rw [e1]
    clear h h4 hl e1
    go_enter Tryd.func26, Tryd.ntmps26
    go_wp2
    go_ret
    exact ⟨P, rfl, HA.out, Touch.refl _ _, fun i hi => Or.inl hi⟩
  | false =>
    rw [hl] at c1
    go_enter Tryd.func26, Tryd.ntmps26
    have hE := h
    rw [hl] at hE
    have HE := Lib.hid hE
    have HW := Lib.hid (write_any g mb es false D.armed D.left w hE h8 h9)
    obtain ⟨sv, hv, ho, hko, hsu, hsv, -⟩ := file_of h4 s.data.toList
    have HQ := Lib.hid (others h h4 h5 s.data.toList sv hsv)
    have hgs : Sees w src t → ∀ w1, Touch (· = g) w w1 → Sees w1 src t := fun hh w1 ht => sees_touch hh hsrc ht
    have HGS := Lib.hid hgs
    have HO : Hid (∀ w1, Touch (· = g) w w1 → Owns w1 0 sv ((getE D.fs s.data.toList).getD ([], 0)).1) := Lib.hid fun w1 ht => ⟨ho.1, ho.2.imp id fun ⟨g', cap, cur, e1, e2, e3, r⟩ => ⟨g', cap, cur, e1, e2, (ht.2.2.2.2 g' (heap_lt e3) (fun e => own_ne_cells ho h.1 (by decide) (by rw [e1, ← e]; rfl))).trans e3, r⟩⟩
    have HAll := Lib.hid (And.intro hv (And.intro h4 (And.intro hsee (And.intro hko (And.intro hsu hsv)))))
    have hlen : es.length ≤ 1000000 := by rw [All2.len h4]; exact hn
    obtain ⟨xs, hxs⟩ : ∃ xs, xs = ((getE D.fs s.data.toList).getD ([], 0)).1 := ⟨_, rfl⟩
    obtain ⟨su, hsue⟩ : ∃ su, su = ((getE D.fs s.data.toList).getD ([], 0)).2 := ⟨_, rfl⟩
    rw [← hxs] at hb HO
    rw [← hxs, ← hsue] at HAll
    have HX := Lib.hid (And.intro hxs hsue)
    clear h h4 hv ho hko hsu hsv hgs hE hxs hsue hsee
    go_wp2_with fail
    refine HW.out.mono ?_; rintro e w1 ⟨rfl, hd1, ht1⟩
    have hs1' := HGS.out HAll.out.2.2.1 w1 ht1
    have ho1 := HO.out w1 ht1
    go_wp2_with fail
    refine (grow_any g mb es _ _ _ s src sv su xs t w1 hd1 hs hlen HAll.out.1 ho1 hs1' hb).mono ?_
    rintro e w2 ⟨mb', sv', rfl, hd2, ho2, hm2, hs2, ht2⟩
    have ht : Touch (TurnQ g mb sv) w w2 := (ht1.mono (fun i _ e => Or.inl e)).trans ht2 (fun i _ h => h)
    have hz1 := ht1.2.2.2.1
    have hR : Hid (DiskAt w2 g (grow' P w w2) { fs := putE s.data.toList (xs ++ t, su) D.fs, lost := lost1 false D.armed D.left, armed := D.armed, left := left1 false D.armed D.left } ∧ Step P (grow' P w w2) w w2) := Lib.hid
      ⟨DiskAt.put h2 h3 HAll.out.2.1 h5 h6 h7 hd2 (left1_bd h8 h9).1 (left1_bd h8 h9).2 (hm2.imp id (fun ⟨_, b, e1, e2⟩ => ⟨b, e1, by omega⟩)) ht HQ.out ho2 (okB_append HAll.out.2.2.2.1 hok) (by rw [List.length_append]; have := HAll.out.2.2.2.2.1; omega)
          (fun d hd => by
            rcases hs2 with e1 | ⟨d', e1, e2⟩
            · exact Or.inl (HAll.out.2.2.2.2.2 d (e1 ▸ hd)).2
            · rw [hd] at e1
              have := Option.some.inj e1
              exact Or.inr (by omega)),
        step_grow ht (fun i hi => by
          rcases hi with hi | hi | hi
          · rw [hi]; exact h2
          · exact h3 i hi.symm
          · exact (HAll.out.2.2.2.2.2 i hi).1)⟩
    go_wp2
    go_ret
    refine ⟨grow' P w w2, ?_, ?_⟩
    · unfold appD; rw [hl]; rfl
    · unfold appD
      rw [hl, ← HX.out.1, ← HX.out.2]
      exact hR.out
end Go.Proofs.YtkjdfelmjanpcaaDoor
