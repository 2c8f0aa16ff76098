/- Package store: keep, where all is well: the effect stands in the log, and is done. -/
import Derived.Test.YtbbefakmpmniiaaGreatDoorSt5
namespace Go.Proofs.YtbbefakmpmniiaaGreatDoor
open Go.RowKit Go.Maps
open KV (bcell bdrew)
/-- A store whole: its block, its disk, its log, its state, each apart. -/
def SAll (w : World) (s g l k : Nat) (P Pk : Nat → Prop) (T : WSt) (S : KV.KSt) (ev wr : Int) (dead : Bool) : Prop :=
  StoreIs w s g k l ev wr dead ∧ DiskAt w g P T.D ∧ LogIs 138 w l g nLog T.size T.dead ∧ KV.KvAt w k Pk S ∧ (∀ i, Pk i → ¬ P i ∧ i ≠ l ∧ i ≠ s) ∧ ¬ P l ∧ ¬ P s ∧ l ≠ s
theorem SAll.below {w w' : World} {s g l k : Nat} {P Pk : Nat → Prop} {T : WSt} {S : KV.KSt} {ev wr : Int} {dead : Bool} (h : SAll w s g l k P Pk T S ev wr dead) (hb : Below w.heap.size w w') : SAll w' s g l k P Pk T S ev wr dead :=
  ⟨(hb.block s (heap_lt h.1)).trans h.1, h.2.1.below hb, h.2.2.1.below hb, h.2.2.2.1.below hb, h.2.2.2.2⟩
/-- What a step of a store leaves of the world. -/
def StepS (P P' Pk Pk' : Nat → Prop) (l s : Nat) (w w' : World) : Prop :=
  Touch (fun i => P i ∨ Pk i ∨ i = l ∨ i = s) w w' ∧ (∀ i, P' i → P i ∨ w.heap.size ≤ i) ∧ ∀ i, Pk' i → Pk i ∨ w.heap.size ≤ i
theorem tcell {P : Nat → Prop} {w w' : World} {a : Addr} {v : Value} (h : KV.Touch P w w') (hc : w.cell? a = some v) (hn : ¬ P a.block) : w'.cell? a = some v := by
  rw [← hc]
  simp [World.cell?, h.2.2.2.2 a.block (World.block_lt_of_cell? w a hc) hn]
theorem tfroz {P : Nat → Prop} {w w' : World} {s : Nat} (h : KV.Touch P w w') (hs : s < w.heap.size) (hn : ¬ P s) (i : Nat) : w'.frozen? ⟨s, i, none⟩ = w.frozen? ⟨s, i, none⟩ := by
  simp [World.frozen?, h.2.2.2.2 s hs hn]
theorem six6 {w : World} {s : Nat} {a b c d e f : Value} {t : TypeId} (h : w.heap[s]? = some (.cells #[a, b, c, d, e, f] t (0, 0))) (x : Value) : (w.setCell ⟨s, 4, none⟩ x).heap[s]? = some (.cells #[a, b, c, d, x, f] t (0, 0)) := by
  have h1 := KV.dset h 4 x
  simpa using h1
set_option maxRecDepth 100000 in
set_option maxHeartbeats 8000000 in
theorem skeep_ok (s g l k : Nat) (P Pk : Nat → Prop) (T T' : WSt) (S : KV.KSt) (ev wr : Int) (e : KV.KEff) (w : World) (h : SAll w s g l k P Pk T S ev wr false) (hE : Env w)
    (hr : KV.rightB e = true) (hrm : e.rev ≤ 9223372036854775807) (hlen : (KV.effL e).length ≤ 1000) (hok : okB (KV.effL e)) (hm : KV.mayA S e = true) (hn : T.D.fs.length ≤ 1000) (hsz : T.size ≤ 100000000) (hb : ((getE T.D.fs nLog.data.toList).getD ([], 0)).1.length ≤ 1000000)
    (hT : walA T nLog.data.toList (KV.effL e) = (0, T')) (hrv : 0 ≤ S.rev ∧ S.rev ≤ 9223372036854775807) (hnl : S.L.length ≤ 1000000) (hw0 : 0 ≤ wr) (hw1 : wr ≤ 1000000) :
    Calls Tryz.prog 44 #[ptr s, KV.effV e] w fun x w' => ∃ P' Pk', x = .returned (.int .i64 0) ∧ SAll w' s g l k P' Pk' T' (KV.applyK S e) ev (wr + 1) false ∧ StepS P P' Pk Pk' l s w w' := by
  obtain ⟨W1, hW1⟩ : ∃ W1, W1 = w.alloc (KV.effO e) := ⟨_, rfl⟩
  have hb1 : Below w.heap.size w W1 := by rw [hW1]; exact belNew w _
  have hT0 : W1.heap[w.heap.size]? = some (KV.effO e) := by rw [hW1]; exact heap_alloc_new w _
  have HA1 := Lib.hid (h.below hb1)
  obtain ⟨t0, t1, t2, t3, -⟩ := KV.four hT0
  have HPUT := Lib.hid (fun w => KV.put10_yes e w hr hrm)
  have HAPP := Lib.hid (fun (v : Value) (w2 : World) (hb2 : Below W1.heap.size W1 w2) (hsee : Sees w2 v (KV.effL e)) => lappend_any l g P T nLog v (KV.effL e) w2 (HA1.out.below hb2).2.1 (HA1.out.below hb2).2.2.1 HA1.out.2.2.2.2.2.1 (by decide) (by decide) hn hsz hb hsee hok hlen (hE.below (hb1.trans (hb2.mono hb1.size))))
  rw [hT] at HAPP
  obtain ⟨_, hks, _⟩ := KV.rightB_ok hr
  have HAPL := Lib.hid (fun (w2 : World) (hk : KV.KvAt w2 k Pk S) => KV.apply_any k Pk S e w2 hk (by unfold maxLen; omega) hrv hnl)
  rw [hm] at HAPL
  simp only [if_true] at HAPL
  have HB1 := Lib.hid (And.intro hb1 hT0)
  have HW := Lib.hid hW1
  have HX := Lib.hid (And.intro (fun (i : Nat) (hp : P i) => DiskAt.lt h.2.1 hp) (And.intro (heap_lt h.2.2.1) (And.intro (heap_lt h.1) (fun (i : Nat) (hp : Pk i) => KV.KvAt.own h.2.2.2.1 i hp))))
  clear h hE hr hrm hlen hok hm hn hsz hb hT hrv hnl hb1 hT0 hks hW1
  go_enter Tryz.func44, Tryz.ntmps44
  go_upto_region 1 with fail
  change Code.wp _ _ _ _ (w.alloc (KV.effO e))
  rw [← HW.out]
  go_wp2_with fail
  refine (HPUT.out W1).mono ?_; rintro _ w2 ⟨v, rfl, ho, hb2⟩
  have HB2 := Lib.hid (And.intro hb2 ho)
  obtain ⟨c0, c1, c2, c3, c4, c5⟩ := scells (HA1.out.below hb2).1
  clear hb2 ho
  go_wp2_with fail
  refine (HAPP.out v w2 HB2.out.1 HB2.out.2.sees).mono ?_; rintro _ w3 ⟨P3, rfl, hd3, hl3, hs3⟩
  have hA2 := HA1.out.below HB2.out.1
  have z1 := HB1.out.1.size
  have z2 := HB2.out.1.size
  have z3 := hs3.1.2.2.2.1
  have hst3 := (hs3.1.2.2.2.2 s (heap_lt hA2.1) (fun h => h.elim hA2.2.2.2.2.2.2.1 (fun e => hA2.2.2.2.2.2.2.2 e.symm))).trans hA2.1
  have hT2 := (HB2.out.1.block _ (heap_lt HB1.out.2)).trans HB1.out.2
  have hT3 := (hs3.1.2.2.2.2 w.heap.size (heap_lt hT2) (fun h => h.elim (fun hp => by have := HX.out.1 _ hp; omega) (fun e => by have := HX.out.2.1; omega))).trans hT2
  have hk3 := hA2.2.2.2.1.keep hs3.1 (fun i hi h => h.elim (hA2.2.2.2.2.1 i hi).1 (hA2.2.2.2.2.1 i hi).2.1)
  have HD3 := Lib.hid (And.intro hd3 (And.intro hl3 (And.intro hs3 (And.intro hst3 hk3))))
  have HZ := Lib.hid (And.intro z1 (And.intro z2 z3))
  obtain ⟨c0, c1, c2, c3, c4, c5⟩ := scells hst3
  have f4 := sfroz hst3 4
  obtain ⟨t0, t1, t2, t3, -⟩ := KV.four hT3
  have nS : ¬ Pk s := fun h => (hA2.2.2.2.2.1 s h).2.2 rfl
  have nB : ¬ Pk w.heap.size := fun h => by have := HX.out.2.2.2 _ h; omega
  have HNS := Lib.hid nS
  clear hd3 hl3 hs3 hA2 hst3 hT2 hT3 hk3 z1 z2 z3
  go_upto_region 6 with fail
  refine wp_region_held_drew (S := (fun W => KV.Touch Pk w3 W)) (by kernel_rfl) ?_ (fun hS0 => ?_)
  · exact ⟨rfl, rfl, rfl, Nat.le_refl _, fun _ _ _ => rfl⟩
  refine wpAnyH_take (i := 0) (v := ?_) rfl (by kernel_rfl) (by kernel_rfl) (by kernel_rfl) (fun _ _ _ h => h) (Or.inl ⟨by rfl, ?_⟩) (by assumption) ?_
  rotate_left
  · intro wS hSw
    (try dsimp only at hSw)
    go_simp
    first | done | with_reducible rfl
  try simp only [Act.put, List.getElem_toArray, List.getElem_cons_succ, List.getElem_cons_zero, List.setIfInBounds_toArray, List.set_cons_zero, List.set_cons_succ]
  refine wpAnyH_take (i := 1) (v := ?_) rfl (by kernel_rfl) (by kernel_rfl) (by kernel_rfl) (fun _ _ _ h => h) (Or.inl ⟨by rfl, ?_⟩) (by assumption) ?_
  rotate_left
  · intro wS hSw
    (try dsimp only at hSw)
    go_simp
    first | done | with_reducible rfl
  try simp only [Act.put, List.getElem_toArray, List.getElem_cons_succ, List.getElem_cons_zero, List.setIfInBounds_toArray, List.set_cons_zero, List.set_cons_succ]
  refine wpAnyH_take (i := 2) (v := ?_) rfl (by kernel_rfl) (by kernel_rfl) (by kernel_rfl) (fun _ _ _ h => h) (Or.inl ⟨by rfl, ?_⟩) (by assumption) ?_
  rotate_left
  · intro wS hSw
    (try dsimp only at hSw)
    go_simp
    first | done | with_reducible rfl
  try simp only [Act.put, List.getElem_toArray, List.getElem_cons_succ, List.getElem_cons_zero, List.setIfInBounds_toArray, List.set_cons_zero, List.set_cons_succ]
  refine wpAnyH_take (i := 3) (v := ?_) rfl (by kernel_rfl) (by kernel_rfl) (by kernel_rfl) (fun _ _ _ h => h) (Or.inl ⟨by rfl, ?_⟩) (by assumption) ?_
  rotate_left
  · intro wS hSw
    (try dsimp only at hSw)
    have c1 := tcell hSw c1 nS
    go_simp
    first | done | with_reducible rfl
  try simp only [Act.put, List.getElem_toArray, List.getElem_cons_succ, List.getElem_cons_zero, List.setIfInBounds_toArray, List.set_cons_zero, List.set_cons_succ]
  refine wpAnyH_take (i := 4) (v := ?_) rfl (by kernel_rfl) (by kernel_rfl) (by kernel_rfl) (fun _ _ _ h => h) (Or.inl ⟨by rfl, ?_⟩) (by assumption) ?_
  rotate_left
  · intro wS hSw
    (try dsimp only at hSw)
    have t0 := tcell hSw t0 nB
    have t1 := tcell hSw t1 nB
    have t2 := tcell hSw t2 nB
    have t3 := tcell hSw t3 nB
    go_simp
    first | done | with_reducible rfl
  try simp only [Act.put, List.getElem_toArray, List.getElem_cons_succ, List.getElem_cons_zero, List.setIfInBounds_toArray, List.set_cons_zero, List.set_cons_succ]
  refine wpAnyH_ready (rs := [5]) (by kernel_rfl) (by simp) ?_
  refine AllReadyH.cons rfl (fun K hK => ?_) AllReadyH.nil
  go_simp
  refine (HAPL.out w3.drew (show KV.KvAt w3.drew k Pk S from HD3.out.2.2.2.2)).mono ?_; rintro _ w5 ⟨rfl, P5, hk5, hp5, ht5⟩
  refine hK.out _ _ ?_ (fun hS1 => ?_)
  · exact ht5
  try simp only [Act.put, List.getElem_toArray, List.getElem_cons_succ, List.getElem_cons_zero, List.setIfInBounds_toArray, List.set_cons_zero, List.set_cons_succ]
  refine wpAnyH_done (by kernel_rfl) ?_ _
  have c4 := tcell ht5 c4 nS
  have f4 := (tfroz ht5 (heap_lt HD3.out.2.2.2.1) nS 4).trans f4
  have HF := Lib.hid (And.intro hk5 (And.intro hp5 ht5))
  clear hk5 hp5 ht5 hS1 t0 t1 t2 t3 c0 c1 c2 c3 c5
  go_wp2_with fail
  go_ret
  have hst5 := (HF.out.2.2.2.2.2.2 s (heap_lt HD3.out.2.2.2.1) HNS.out).trans HD3.out.2.2.2.1
  have h3l := HX.out.2.1
  have h3s := HX.out.2.2.1
  have z1 := HZ.out.1
  have z2 := HZ.out.2.1
  have z3 := HZ.out.2.2
  have z5 := HF.out.2.2.2.2.2.1
  have hP3 : ∀ i, P3 i → ¬ Pk i ∧ i ≠ s ∧ i ≠ l := fun i hp => by
    rcases HD3.out.2.2.1.2 i hp with h | h
    · exact ⟨fun hk => (HA1.out.2.2.2.2.1 i hk).1 h, fun e => HA1.out.2.2.2.2.2.2.1 (e ▸ h), fun e => HA1.out.2.2.2.2.2.1 (e ▸ h)⟩
    · exact ⟨fun hk => by have := HX.out.2.2.2 _ hk; omega, by omega, by omega⟩
  have hP5 : ∀ i, P5 i → ¬ P3 i ∧ i ≠ l ∧ i ≠ s := fun i hp => by
    rcases HF.out.2.1 i hp with h | h
    · exact ⟨fun h3 => (hP3 i h3).1 h, (HA1.out.2.2.2.2.1 i h).2⟩
    · exact ⟨fun h3 => by have := DiskAt.lt HD3.out.1 h3; have : w3.heap.size ≤ i := h; omega, by have : w3.heap.size ≤ i := h; omega, by have : w3.heap.size ≤ i := h; omega⟩
  have hnl : ¬ Pk l := fun h => (HA1.out.2.2.2.2.1 l h).2.1 rfl
  have hts := touch_set w5 s 4 (.int .i64 (wr + 1))
  refine ⟨P3, P5, rfl, ⟨six6 hst5 _, (HD3.out.1.keep (touchK HF.out.2.2) (fun i hp => (hP3 i hp).1)).keep hts (fun i hp => (hP3 i hp).2.1), (HD3.out.2.1.keep (touchK HF.out.2.2) hnl).keep hts HA1.out.2.2.2.2.2.2.2, HF.out.1.keep hts (fun i hp => (hP5 i hp).2.2), hP5, fun h => (hP3 l h).2.2 rfl, fun h => (hP3 s h).2.1 rfl, HA1.out.2.2.2.2.2.2.2⟩, ?_, ?_, ?_⟩
  · refine ((((Touch.of_below _ HB1.out.1).trans (Touch.of_below (fun _ => False) HB2.out.1) (fun _ _ h => h.elim)).trans HD3.out.2.2.1.1 (fun i _ h => h.elim Or.inl (fun h => Or.inr (Or.inr (Or.inl h))))).trans (touchK HF.out.2.2) (fun i _ h => Or.inr (Or.inl h))).trans hts (fun i _ h => Or.inr (Or.inr (Or.inr h)))
  · exact fun i hp => (HD3.out.2.2.1.2 i hp).imp id (fun h => by omega)
  · exact fun i hp => (HF.out.2.1 i hp).imp id (fun h => by have : w3.heap.size ≤ i := h; omega)
end Go.Proofs.YtbbefakmpmniiaaGreatDoor
