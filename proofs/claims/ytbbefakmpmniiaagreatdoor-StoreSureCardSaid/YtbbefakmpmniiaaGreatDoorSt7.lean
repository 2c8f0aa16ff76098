/- Package store: Rev, All; die; keep, where the disk is lost. -/
import Derived.Test.YtbbefakmpmniiaaGreatDoorSt6
namespace Go.Proofs.YtbbefakmpmniiaaGreatDoor
open Go.RowKit Go.Maps
set_option maxRecDepth 100000 in
theorem srev_any (s g l k : Nat) (P Pk : Nat → Prop) (T : WSt) (S : KV.KSt) (ev wr : Int) (dead : Bool) (w : World) (h : SAll w s g l k P Pk T S ev wr dead) :
    Calls Tryz.prog 21 #[ptr s] w fun e w' => e = .returned (.int .i64 S.rev) ∧ w = w' := by
  obtain ⟨_, c1, _, _, _, _⟩ := scells h.1
  have hN := eqNilT w (some ⟨s, 0, none⟩)
  have HR := Lib.hid (KV.rev_any k Pk S w h.2.2.2.1)
  clear h
  go_enter Tryz.func21, Tryz.ntmps21
  go_wp2_with fail
  refine HR.out.mono ?_; rintro e w' ⟨rfl, rfl⟩
  go_wp2_with fail
  go_ret
  exact ⟨rfl, rfl⟩
set_option maxRecDepth 100000 in
theorem sall_any (s g l k : Nat) (P Pk : Nat → Prop) (T : WSt) (S : KV.KSt) (ev wr : Int) (dead : Bool) (w : World) (h : SAll w s g l k P Pk T S ev wr dead) (hr : KV.Rising S.L) (hn : S.L.length ≤ 1000000) :
    Calls Tryz.prog 23 #[ptr s] w fun e w' => ∃ v, e = .returned v ∧ KV.RowI w' w.heap.size v S.L ∧ Below w.heap.size w w' := by
  obtain ⟨_, c1, _, _, _, _⟩ := scells h.1
  have hN := eqNilT w (some ⟨s, 0, none⟩)
  have HR := Lib.hid (KV.all_any k Pk S w h.2.2.2.1 hr hn)
  clear h
  go_enter Tryz.func23, Tryz.ntmps23
  go_wp2_with fail
  refine HR.out.mono ?_; rintro e w' ⟨v, rfl, ho, hb⟩
  go_wp2_with fail
  go_ret
  exact ⟨v, rfl, ho, hb⟩
theorem six5 {w : World} {s : Nat} {a b c d e f : Value} {t : TypeId} (h : w.heap[s]? = some (.cells #[a, b, c, d, e, f] t (0, 0))) (x : Value) : (w.setCell ⟨s, 5, none⟩ x).heap[s]? = some (.cells #[a, b, c, d, e, x] t (0, 0)) := by
  have h1 := KV.dset h 5 x
  simpa using h1
theorem StoreIs.setDead {w : World} {s gd gk gl : Nat} {ev wr : Int} {dead : Bool} (h : StoreIs w s gd gk gl ev wr dead) : StoreIs (w.setCell ⟨s, 5, none⟩ (.bool true)) s gd gk gl ev wr true := six5 h _
set_option maxRecDepth 100000 in
theorem sdie_any (s gd gk gl : Nat) (ev wr : Int) (dead : Bool) (x : Int) (w : World) (h : StoreIs w s gd gk gl ev wr dead) :
    Calls Tryz.prog 80 #[ptr s, .int .i64 x] w fun e w' => e = .returned (.int .i64 x) ∧ w' = w.setCell ⟨s, 5, none⟩ (.bool true) := by
  obtain ⟨_, _, _, _, _, c5⟩ := scells h
  have f5 := sfroz h 5
  clear h
  go_enter Tryz.func80, Tryz.ntmps80
  go_wp2_with fail
  go_ret
  exact ⟨rfl, rfl⟩
set_option maxRecDepth 100000 in
set_option maxHeartbeats 8000000 in
theorem skeep_lost (s g l k : Nat) (P Pk : Nat → Prop) (T T' : WSt) (S : KV.KSt) (ev wr c : Int) (e : KV.KEff) (w : World) (h : SAll w s g l k P Pk T S ev wr false) (hE : Env w)
    (hr : KV.rightB e = true) (hrm : e.rev ≤ 9223372036854775807) (hlen : (KV.effL e).length ≤ 1000) (hok : okB (KV.effL e)) (hn : T.D.fs.length ≤ 1000) (hsz : T.size ≤ 100000000) (hb : ((getE T.D.fs nLog.data.toList).getD ([], 0)).1.length ≤ 1000000)
    (hT : walA T nLog.data.toList (KV.effL e) = (c, T')) (hc : c ≠ 0) :
    Calls Tryz.prog 44 #[ptr s, KV.effV e] w fun x w' => ∃ P', x = .returned (.int .i64 c) ∧ SAll w' s g l k P' Pk T' S ev wr true ∧ StepS P P' Pk Pk l s w w' := by
  obtain ⟨W1, hW1⟩ : ∃ W1, W1 = w.alloc (KV.effO e) := ⟨_, rfl⟩
  have hb1 : Below w.heap.size w W1 := by rw [hW1]; exact belNew w _
  have hT0 : W1.heap[w.heap.size]? = some (KV.effO e) := by rw [hW1]; exact heap_alloc_new w _
  have HA1 := Lib.hid (h.below hb1)
  obtain ⟨t0, t1, t2, t3, -⟩ := KV.four hT0
  have HPUT := Lib.hid (fun w => KV.put10_yes e w hr hrm)
  have HAPP := Lib.hid (fun (v : Value) (w2 : World) (hb2 : Below W1.heap.size W1 w2) (hsee : Sees w2 v (KV.effL e)) => lappend_any l g P T nLog v (KV.effL e) w2 (HA1.out.below hb2).2.1 (HA1.out.below hb2).2.2.1 HA1.out.2.2.2.2.2.1 (by decide) (by decide) hn hsz hb hsee hok hlen (hE.below (hb1.trans (hb2.mono hb1.size))))
  rw [hT] at HAPP
  have HB1 := Lib.hid hb1
  have HW := Lib.hid hW1
  have HX := Lib.hid (And.intro (heap_lt h.2.2.1) (And.intro (heap_lt h.1) (fun (i : Nat) (hp : Pk i) => KV.KvAt.own h.2.2.2.1 i hp)))
  have dc : (c == 0) = false := by simpa using hc
  have dc2 : (c != 0) = true := by simpa using hc
  clear h hE hr hrm hlen hok hn hsz hb hT hb1 hT0 hW1 hc
  go_enter Tryz.func44, Tryz.ntmps44
  go_upto_region 1 with fail
  change Code.wp _ _ _ _ (w.alloc (KV.effO e))
  rw [← HW.out]
  go_wp2_with fail
  refine (HPUT.out W1).mono ?_; rintro _ w2 ⟨v, rfl, ho, hb2⟩
  have HB2 := Lib.hid (And.intro hb2 ho)
  obtain ⟨c0, c1, c2, c3, c4, c5⟩ := scells (HA1.out.below hb2).1
  clear hb2 ho
  go_wp2_with fail
  refine (HAPP.out v w2 HB2.out.1 HB2.out.2.sees).mono ?_; rintro _ w3 ⟨P3, rfl, hd3, hl3, hs3⟩
  have hA2 := HA1.out.below HB2.out.1
  have z1 := HB1.out.size
  have z2 := HB2.out.1.size
  have hst3 := (hs3.1.2.2.2.2 s (heap_lt hA2.1) (fun h => h.elim hA2.2.2.2.2.2.2.1 (fun e => hA2.2.2.2.2.2.2.2 e.symm))).trans hA2.1
  have hk3 := hA2.2.2.2.1.keep hs3.1 (fun i hi h => h.elim (hA2.2.2.2.2.1 i hi).1 (hA2.2.2.2.2.1 i hi).2.1)
  have HD3 := Lib.hid (And.intro hd3 (And.intro hl3 (And.intro hs3 (And.intro hst3 hk3))))
  have HZ := Lib.hid (And.intro z1 z2)
  have HDI := Lib.hid (sdie_any s g k l ev wr false c w3 hst3)
  clear hd3 hl3 hs3 hA2 hst3 hk3 z1 z2 t0 t1 t2 t3 c0 c1 c2 c3 c4 c5
  go_wp2_with fail
  refine HDI.out.mono ?_; rintro _ w4 ⟨rfl, rfl⟩
  go_wp2_with fail
  go_ret
  have z1 := HZ.out.1
  have z2 := HZ.out.2
  have hP3 : ∀ i, P3 i → ¬ Pk i ∧ i ≠ s ∧ i ≠ l := fun i hp => by
    rcases HD3.out.2.2.1.2 i hp with h | h
    · exact ⟨fun hk => (HA1.out.2.2.2.2.1 i hk).1 h, fun e => HA1.out.2.2.2.2.2.2.1 (e ▸ h), fun e => HA1.out.2.2.2.2.2.1 (e ▸ h)⟩
    · have h3l := HX.out.1
      have h3s := HX.out.2.1
      exact ⟨fun hk => by have := HX.out.2.2 _ hk; omega, by omega, by omega⟩
  have hts := touch_set w3 s 5 (.bool true)
  refine ⟨P3, rfl, ⟨StoreIs.setDead HD3.out.2.2.2.1, HD3.out.1.keep hts (fun i hp => (hP3 i hp).2.1), HD3.out.2.1.keep hts HA1.out.2.2.2.2.2.2.2, HD3.out.2.2.2.2.keep hts (fun i hp => (HA1.out.2.2.2.2.1 i hp).2.2), fun i hp => ⟨fun h3 => (hP3 i h3).1 hp, (HA1.out.2.2.2.2.1 i hp).2⟩, fun h => (hP3 l h).2.2 rfl, fun h => (hP3 s h).2.1 rfl, HA1.out.2.2.2.2.2.2.2⟩, ?_, ?_, ?_⟩
  · exact (((Touch.of_below _ HB1.out).trans (Touch.of_below (fun _ => False) HB2.out.1) (fun _ _ h => h.elim)).trans HD3.out.2.2.1.1 (fun i _ h => h.elim Or.inl (fun h => Or.inr (Or.inr (Or.inl h))))).trans hts (fun i _ h => Or.inr (Or.inr (Or.inr h)))
  · exact fun i hp => (HD3.out.2.2.1.2 i hp).imp id (fun h => by omega)
  · exact fun i hp => Or.inl hp
end Go.Proofs.YtbbefakmpmniiaaGreatDoor
