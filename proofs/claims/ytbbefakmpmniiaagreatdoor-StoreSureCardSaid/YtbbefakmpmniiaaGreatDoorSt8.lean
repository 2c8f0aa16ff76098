/- Package store: compact: the state as one file, the log anew; and where the disk is lost. -/
import Derived.Test.YtbbefakmpmniiaaGreatDoorSt7
import Derived.Test.YtbbefakmpmniiaaGreatDoorSRs
namespace Go.Proofs.YtbbefakmpmniiaaGreatDoor
open Go.RowKit Go.Maps
set_option maxRecDepth 100000 in
set_option maxHeartbeats 8000000 in
theorem scompact_ok (s g l k : Nat) (P Pk : Nat → Prop) (T T' : WSt) (D1 : DSt) (S : KV.KSt) (ev wr : Int) (w0 w : World) (h : SAll w s g l k P Pk T S ev wr false) (hri : KV.Rising S.L) (hst : KV.StOk S) (hok : okB (KV.stL S)) (hxl : (KV.stL S).length ≤ 1000000) (hE : Env w0) (hB : Below w0.heap.size w0 w) (hP : ∀ i, P i → w0.heap.size ≤ i)
    (hn : T.D.fs.length ≤ 1000) (hbt : ((getE T.D.fs (tilde nSnap).data.toList).getD ([], 0)).1.length ≤ 1000000) (hsv : saveD T.D nSnap (KV.stL S) = (0, D1)) (hn1 : D1.fs.length ≤ 1000) (hall1 : ∀ f ∈ D1.fs, f.2.1.length ≤ 100000000000) (hT : walC ⟨D1, T.size, T.dead⟩ nLog.data.toList = (0, T')) :
    Calls Tryz.prog 42 #[ptr s] w fun x w' => ∃ P', x = .returned (.int .i64 0) ∧ SAll w' s g l k P' Pk T' S ev 0 false ∧ StepS P P' Pk Pk l s w w' := by
  obtain ⟨c0, c1, c2, c3, c4, c5⟩ := scells h.1
  have HPS := Lib.hid (KV.putState_any k Pk S w h.2.2.2.1 hri hst)
  have HA := Lib.hid h
  have HX := Lib.hid (And.intro (fun (i : Nat) (hp : P i) => DiskAt.lt h.2.1 hp) (And.intro (heap_lt h.2.2.1) (And.intro (heap_lt h.1) (fun (i : Nat) (hp : Pk i) => KV.KvAt.own h.2.2.2.1 i hp))))
  have HSV := Lib.hid (fun (v : Value) (w2 : World) (hb2 : Below w.heap.size w w2) (ho : Owns w2 w.heap.size v (KV.stL S)) => save_any g P T.D nSnap v (KV.stL S) w0 w2 (h.2.1.below hb2) (by decide) (by decide) hn hbt ho.sees (fun _ d hd hp => by have h1 := (World.ownsRow.lt ho d hd).1; have h2 := DiskAt.lt h.2.1 hp; omega) hok hxl hE (hB.trans (hb2.mono hB.size)) hP)
  rw [hsv] at HSV
  have HN1 := Lib.hid (And.intro hn1 (And.intro hall1 hT))
  clear h hri hst hok hxl hE hB hP hn hbt hsv hn1 hall1 hT
  go_enter Tryz.func42, Tryz.ntmps42
  go_wp2_with fail
  refine HPS.out.mono ?_; rintro _ w2 ⟨v, rfl, ho, hb2⟩
  have hA2 := HA.out.below hb2
  obtain ⟨c0, c1, c2, c3, c4, c5⟩ := scells hA2.1
  have HB2 := Lib.hid (And.intro hb2 ho)
  clear hb2 ho hA2
  go_wp2_with fail
  refine (HSV.out v w2 HB2.out.1 HB2.out.2).mono ?_; rintro _ w3 ⟨P3, rfl, hd3, hs3⟩
  have hA2 := HA.out.below HB2.out.1
  have hst3 := (hs3.1.2.2.2.2 s (heap_lt hA2.1) hA2.2.2.2.2.2.2.1).trans hA2.1
  have hl3 := hA2.2.2.1.keep hs3.1 hA2.2.2.2.2.2.1
  have hk3 := hA2.2.2.2.1.keep hs3.1 (fun i hi h => (hA2.2.2.2.2.1 i hi).1 h)
  have hz2 := HB2.out.1.size
  have h3l := HX.out.2.1
  have h3s := HX.out.2.2.1
  have hP3 : ∀ i, P3 i → ¬ Pk i ∧ i ≠ s ∧ i ≠ l := fun i hp => by
    rcases hs3.2 i hp with h | h
    · exact ⟨fun hk => (HA.out.2.2.2.2.1 i hk).1 h, fun e => HA.out.2.2.2.2.2.2.1 (e ▸ h), fun e => HA.out.2.2.2.2.2.1 (e ▸ h)⟩
    · exact ⟨fun hk => by have := HX.out.2.2.2 _ hk; omega, by omega, by omega⟩
  have HD3 := Lib.hid (And.intro hd3 (And.intro hl3 (And.intro hs3 (And.intro hst3 (And.intro hk3 (And.intro hP3 hz2))))))
  have HCL := Lib.hid (lclear_any l g P3 ⟨D1, T.size, T.dead⟩ nLog w3 hd3 hl3 (fun h => (hP3 l h).2.2 rfl) (by decide) HN1.out.1 HN1.out.2.1)
  rw [HN1.out.2.2] at HCL
  obtain ⟨c0, c1, c2, c3, c4, c5⟩ := scells hst3
  clear hd3 hl3 hs3 hst3 hk3 hP3 hA2 hz2 h3l h3s
  go_wp2_with fail
  refine HCL.out.mono ?_; rintro _ w4 ⟨P4, rfl, hd4, hl4, hs4⟩
  have hst4 := (hs4.1.2.2.2.2 s (heap_lt HD3.out.2.2.2.1) (fun h => h.elim (fun h => (HD3.out.2.2.2.2.2.1 s h).2.1 rfl) (fun e => HA.out.2.2.2.2.2.2.2 e.symm))).trans HD3.out.2.2.2.1
  have hk4 := HD3.out.2.2.2.2.1.keep hs4.1 (fun i hi h => h.elim (fun h => (HD3.out.2.2.2.2.2.1 i h).1 hi) (HA.out.2.2.2.2.1 i hi).2.1)
  obtain ⟨c0, c1, c2, c3, c4, c5⟩ := scells hst4
  have f4 := sfroz hst4 4
  have HD4 := Lib.hid (And.intro hd4 (And.intro hl4 (And.intro hs4 (And.intro hst4 hk4))))
  clear hd4 hl4 hs4 hst4 hk4
  go_wp2_with fail
  go_ret
  have z2 := HD3.out.2.2.2.2.2.2
  have z3 := HD3.out.2.2.1.1.2.2.2.1
  have h3l := HX.out.2.1
  have h3s := HX.out.2.2.1
  have hP4 : ∀ i, P4 i → ¬ Pk i ∧ i ≠ s ∧ i ≠ l := fun i hp => by
    rcases HD4.out.2.2.1.2 i hp with h | h
    · exact HD3.out.2.2.2.2.2.1 i h
    · exact ⟨fun hk => by have := HX.out.2.2.2 _ hk; omega, by omega, by omega⟩
  have hts := touch_set w4 s 4 (.int .i64 0)
  refine ⟨P4, rfl, ⟨six6 HD4.out.2.2.2.1 _, HD4.out.1.keep hts (fun i hp => (hP4 i hp).2.1), HD4.out.2.1.keep hts HA.out.2.2.2.2.2.2.2, HD4.out.2.2.2.2.keep hts (fun i hp => (HA.out.2.2.2.2.1 i hp).2.2), fun i hp => ⟨fun h4 => (hP4 i h4).1 hp, (HA.out.2.2.2.2.1 i hp).2⟩, fun h => (hP4 l h).2.2 rfl, fun h => (hP4 s h).2.1 rfl, HA.out.2.2.2.2.2.2.2⟩, ?_, ?_, fun i hp => Or.inl hp⟩
  · exact (((Touch.of_below _ HB2.out.1).trans HD3.out.2.2.1.1 (fun i _ h => Or.inl h)).trans HD4.out.2.2.1.1 (fun i hi h => h.elim (fun h => (HD3.out.2.2.1.2 i h).elim Or.inl (fun h => absurd hi (by omega))) (fun h => Or.inr (Or.inr (Or.inl h))))).trans hts (fun i _ h => Or.inr (Or.inr (Or.inr h)))
  · exact fun i hp => (HD4.out.2.2.1.2 i hp).elim (fun h => (HD3.out.2.2.1.2 i h).imp id (fun h => by omega)) (fun h => Or.inr (by omega))
set_option maxRecDepth 100000 in
set_option maxHeartbeats 8000000 in
theorem scompact_lost1 (s g l k : Nat) (P Pk : Nat → Prop) (T T' : WSt) (D1 : DSt) (S : KV.KSt) (ev wr c : Int) (w0 w : World) (h : SAll w s g l k P Pk T S ev wr false) (hri : KV.Rising S.L) (hst : KV.StOk S) (hok : okB (KV.stL S)) (hxl : (KV.stL S).length ≤ 1000000) (hE : Env w0) (hB : Below w0.heap.size w0 w) (hP : ∀ i, P i → w0.heap.size ≤ i)
    (hn : T.D.fs.length ≤ 1000) (hbt : ((getE T.D.fs (tilde nSnap).data.toList).getD ([], 0)).1.length ≤ 1000000) (hsv : saveD T.D nSnap (KV.stL S) = (c, D1)) (hc : c ≠ 0) :
    Calls Tryz.prog 42 #[ptr s] w fun x w' => ∃ P', x = .returned (.int .i64 c) ∧ SAll w' s g l k P' Pk ⟨D1, T.size, T.dead⟩ S ev wr true ∧ StepS P P' Pk Pk l s w w' := by
  obtain ⟨c0, c1, c2, c3, c4, c5⟩ := scells h.1
  have HPS := Lib.hid (KV.putState_any k Pk S w h.2.2.2.1 hri hst)
  have HA := Lib.hid h
  have HX := Lib.hid (And.intro (fun (i : Nat) (hp : P i) => DiskAt.lt h.2.1 hp) (And.intro (heap_lt h.2.2.1) (And.intro (heap_lt h.1) (fun (i : Nat) (hp : Pk i) => KV.KvAt.own h.2.2.2.1 i hp))))
  have HSV := Lib.hid (fun (v : Value) (w2 : World) (hb2 : Below w.heap.size w w2) (ho : Owns w2 w.heap.size v (KV.stL S)) => save_any g P T.D nSnap v (KV.stL S) w0 w2 (h.2.1.below hb2) (by decide) (by decide) hn hbt ho.sees (fun _ d hd hp => by have h1 := (World.ownsRow.lt ho d hd).1; have h2 := DiskAt.lt h.2.1 hp; omega) hok hxl hE (hB.trans (hb2.mono hB.size)) hP)
  rw [hsv] at HSV
  have dc : (c == 0) = false := by simpa using hc
  have dc2 : (c != 0) = true := by simpa using hc
  clear h hri hst hok hxl hE hB hP hn hbt hsv hc
  go_enter Tryz.func42, Tryz.ntmps42
  go_wp2_with fail
  refine HPS.out.mono ?_; rintro _ w2 ⟨v, rfl, ho, hb2⟩
  have hA2 := HA.out.below hb2
  obtain ⟨c0, c1, c2, c3, c4, c5⟩ := scells hA2.1
  have HB2 := Lib.hid (And.intro hb2 ho)
  clear hb2 ho hA2
  go_wp2_with fail
  refine (HSV.out v w2 HB2.out.1 HB2.out.2).mono ?_; rintro _ w3 ⟨P3, rfl, hd3, hs3⟩
  have hA2 := HA.out.below HB2.out.1
  have hst3 := (hs3.1.2.2.2.2 s (heap_lt hA2.1) hA2.2.2.2.2.2.2.1).trans hA2.1
  have hl3 := hA2.2.2.1.keep hs3.1 hA2.2.2.2.2.2.1
  have hk3 := hA2.2.2.2.1.keep hs3.1 (fun i hi h => (hA2.2.2.2.2.1 i hi).1 h)
  have hz2 := HB2.out.1.size
  have h3l := HX.out.2.1
  have h3s := HX.out.2.2.1
  have hP3 : ∀ i, P3 i → ¬ Pk i ∧ i ≠ s ∧ i ≠ l := fun i hp => by
    rcases hs3.2 i hp with h | h
    · exact ⟨fun hk => (HA.out.2.2.2.2.1 i hk).1 h, fun e => HA.out.2.2.2.2.2.2.1 (e ▸ h), fun e => HA.out.2.2.2.2.2.1 (e ▸ h)⟩
    · exact ⟨fun hk => by have := HX.out.2.2.2 _ hk; omega, by omega, by omega⟩
  have HD3 := Lib.hid (And.intro hd3 (And.intro hl3 (And.intro hs3 (And.intro hst3 (And.intro hk3 (And.intro hP3 hz2))))))
  have HDI := Lib.hid (sdie_any s g k l ev wr false c w3 hst3)
  clear hd3 hl3 hs3 hst3 hk3 hP3 hA2 hz2 h3l h3s c0 c1 c2 c3 c4 c5
  go_wp2_with fail
  refine HDI.out.mono ?_; rintro _ w4 ⟨rfl, rfl⟩
  go_wp2_with fail
  go_ret
  have z2 := HD3.out.2.2.2.2.2.2
  have hP3 := HD3.out.2.2.2.2.2.1
  have hts := touch_set w3 s 5 (.bool true)
  refine ⟨P3, rfl, ⟨StoreIs.setDead HD3.out.2.2.2.1, HD3.out.1.keep hts (fun i hp => (hP3 i hp).2.1), HD3.out.2.1.keep hts HA.out.2.2.2.2.2.2.2, HD3.out.2.2.2.2.1.keep hts (fun i hp => (HA.out.2.2.2.2.1 i hp).2.2), fun i hp => ⟨fun h3 => (hP3 i h3).1 hp, (HA.out.2.2.2.2.1 i hp).2⟩, fun h => (hP3 l h).2.2 rfl, fun h => (hP3 s h).2.1 rfl, HA.out.2.2.2.2.2.2.2⟩, ?_, ?_, fun i hp => Or.inl hp⟩
  · exact ((Touch.of_below _ HB2.out.1).trans HD3.out.2.2.1.1 (fun i _ h => Or.inl h)).trans hts (fun i _ h => Or.inr (Or.inr (Or.inr h)))
  · exact fun i hp => (HD3.out.2.2.1.2 i hp).imp id (fun h => by omega)
set_option maxRecDepth 100000 in
set_option maxHeartbeats 8000000 in
theorem scompact_lost2 (s g l k : Nat) (P Pk : Nat → Prop) (T T' : WSt) (D1 : DSt) (S : KV.KSt) (ev wr c : Int) (w0 w : World) (h : SAll w s g l k P Pk T S ev wr false) (hri : KV.Rising S.L) (hst : KV.StOk S) (hok : okB (KV.stL S)) (hxl : (KV.stL S).length ≤ 1000000) (hE : Env w0) (hB : Below w0.heap.size w0 w) (hP : ∀ i, P i → w0.heap.size ≤ i)
    (hn : T.D.fs.length ≤ 1000) (hbt : ((getE T.D.fs (tilde nSnap).data.toList).getD ([], 0)).1.length ≤ 1000000) (hsv : saveD T.D nSnap (KV.stL S) = (0, D1)) (hn1 : D1.fs.length ≤ 1000) (hall1 : ∀ f ∈ D1.fs, f.2.1.length ≤ 100000000000) (hT : walC ⟨D1, T.size, T.dead⟩ nLog.data.toList = (c, T')) (hc : c ≠ 0) :
    Calls Tryz.prog 42 #[ptr s] w fun x w' => ∃ P', x = .returned (.int .i64 c) ∧ SAll w' s g l k P' Pk T' S ev wr true ∧ StepS P P' Pk Pk l s w w' := by
  obtain ⟨c0, c1, c2, c3, c4, c5⟩ := scells h.1
  have HPS := Lib.hid (KV.putState_any k Pk S w h.2.2.2.1 hri hst)
  have HA := Lib.hid h
  have HX := Lib.hid (And.intro (fun (i : Nat) (hp : P i) => DiskAt.lt h.2.1 hp) (And.intro (heap_lt h.2.2.1) (And.intro (heap_lt h.1) (fun (i : Nat) (hp : Pk i) => KV.KvAt.own h.2.2.2.1 i hp))))
  have HSV := Lib.hid (fun (v : Value) (w2 : World) (hb2 : Below w.heap.size w w2) (ho : Owns w2 w.heap.size v (KV.stL S)) => save_any g P T.D nSnap v (KV.stL S) w0 w2 (h.2.1.below hb2) (by decide) (by decide) hn hbt ho.sees (fun _ d hd hp => by have h1 := (World.ownsRow.lt ho d hd).1; have h2 := DiskAt.lt h.2.1 hp; omega) hok hxl hE (hB.trans (hb2.mono hB.size)) hP)
  rw [hsv] at HSV
  have HN1 := Lib.hid (And.intro hn1 (And.intro hall1 hT))
  clear h hri hst hok hxl hE hB hP hn hbt hsv hn1 hall1 hT
  have dc : (c == 0) = false := by simpa using hc
  have dc2 : (c != 0) = true := by simpa using hc
  clear hc
  go_enter Tryz.func42, Tryz.ntmps42
  go_wp2_with fail
  refine HPS.out.mono ?_; rintro _ w2 ⟨v, rfl, ho, hb2⟩
  have hA2 := HA.out.below hb2
  obtain ⟨c0, c1, c2, c3, c4, c5⟩ := scells hA2.1
  have HB2 := Lib.hid (And.intro hb2 ho)
  clear hb2 ho hA2
  go_wp2_with fail
  refine (HSV.out v w2 HB2.out.1 HB2.out.2).mono ?_; rintro _ w3 ⟨P3, rfl, hd3, hs3⟩
  have hA2 := HA.out.below HB2.out.1
  have hst3 := (hs3.1.2.2.2.2 s (heap_lt hA2.1) hA2.2.2.2.2.2.2.1).trans hA2.1
  have hl3 := hA2.2.2.1.keep hs3.1 hA2.2.2.2.2.2.1
  have hk3 := hA2.2.2.2.1.keep hs3.1 (fun i hi h => (hA2.2.2.2.2.1 i hi).1 h)
  have hz2 := HB2.out.1.size
  have h3l := HX.out.2.1
  have h3s := HX.out.2.2.1
  have hP3 : ∀ i, P3 i → ¬ Pk i ∧ i ≠ s ∧ i ≠ l := fun i hp => by
    rcases hs3.2 i hp with h | h
    · exact ⟨fun hk => (HA.out.2.2.2.2.1 i hk).1 h, fun e => HA.out.2.2.2.2.2.2.1 (e ▸ h), fun e => HA.out.2.2.2.2.2.1 (e ▸ h)⟩
    · exact ⟨fun hk => by have := HX.out.2.2.2 _ hk; omega, by omega, by omega⟩
  have HD3 := Lib.hid (And.intro hd3 (And.intro hl3 (And.intro hs3 (And.intro hst3 (And.intro hk3 (And.intro hP3 hz2))))))
  have HCL := Lib.hid (lclear_any l g P3 ⟨D1, T.size, T.dead⟩ nLog w3 hd3 hl3 (fun h => (hP3 l h).2.2 rfl) (by decide) HN1.out.1 HN1.out.2.1)
  rw [HN1.out.2.2] at HCL
  obtain ⟨c0, c1, c2, c3, c4, c5⟩ := scells hst3
  clear hd3 hl3 hs3 hst3 hk3 hP3 hA2 hz2 h3l h3s
  go_wp2_with fail
  refine HCL.out.mono ?_; rintro _ w4 ⟨P4, rfl, hd4, hl4, hs4⟩
  have hst4 := (hs4.1.2.2.2.2 s (heap_lt HD3.out.2.2.2.1) (fun h => h.elim (fun h => (HD3.out.2.2.2.2.2.1 s h).2.1 rfl) (fun e => HA.out.2.2.2.2.2.2.2 e.symm))).trans HD3.out.2.2.2.1
  have hk4 := HD3.out.2.2.2.2.1.keep hs4.1 (fun i hi h => h.elim (fun h => (HD3.out.2.2.2.2.2.1 i h).1 hi) (HA.out.2.2.2.2.1 i hi).2.1)
  have HD4 := Lib.hid (And.intro hd4 (And.intro hl4 (And.intro hs4 (And.intro hst4 hk4))))
  have HDI := Lib.hid (sdie_any s g k l ev wr false c w4 hst4)
  clear hd4 hl4 hs4 hst4 hk4 c0 c1 c2 c3 c4 c5
  go_wp2_with fail
  refine HDI.out.mono ?_; rintro _ w5 ⟨rfl, rfl⟩
  go_wp2_with fail
  go_ret
  have z2 := HD3.out.2.2.2.2.2.2
  have z3 := HD3.out.2.2.1.1.2.2.2.1
  have h3l := HX.out.2.1
  have h3s := HX.out.2.2.1
  have hP4 : ∀ i, P4 i → ¬ Pk i ∧ i ≠ s ∧ i ≠ l := fun i hp => by
    rcases HD4.out.2.2.1.2 i hp with h | h
    · exact HD3.out.2.2.2.2.2.1 i h
    · exact ⟨fun hk => by have := HX.out.2.2.2 _ hk; omega, by omega, by omega⟩
  have hts := touch_set w4 s 5 (.bool true)
  refine ⟨P4, rfl, ⟨StoreIs.setDead HD4.out.2.2.2.1, HD4.out.1.keep hts (fun i hp => (hP4 i hp).2.1), HD4.out.2.1.keep hts HA.out.2.2.2.2.2.2.2, HD4.out.2.2.2.2.keep hts (fun i hp => (HA.out.2.2.2.2.1 i hp).2.2), fun i hp => ⟨fun h4 => (hP4 i h4).1 hp, (HA.out.2.2.2.2.1 i hp).2⟩, fun h => (hP4 l h).2.2 rfl, fun h => (hP4 s h).2.1 rfl, HA.out.2.2.2.2.2.2.2⟩, ?_, ?_, fun i hp => Or.inl hp⟩
  · exact (((Touch.of_below _ HB2.out.1).trans HD3.out.2.2.1.1 (fun i _ h => Or.inl h)).trans HD4.out.2.2.1.1 (fun i hi h => h.elim (fun h => (HD3.out.2.2.1.2 i h).elim Or.inl (fun h => absurd hi (by omega))) (fun h => Or.inr (Or.inr (Or.inl h))))).trans hts (fun i _ h => Or.inr (Or.inr (Or.inr h)))
  · exact fun i hp => (HD4.out.2.2.1.2 i hp).elim (fun h => (HD3.out.2.2.1.2 i h).imp id (fun h => by omega)) (fun h => Or.inr (by omega))
end Go.Proofs.YtbbefakmpmniiaaGreatDoor
