/- Package store: Open, where all is well. -/
import Derived.Test.YtbbefakmpmniiaaGreatDoorSt4
namespace Go.Proofs.YtbbefakmpmniiaaGreatDoor
open Go.RowKit Go.Maps
theorem touchK {P : Nat → Prop} {w w' : World} (h : KV.Touch P w w') : Touch P w w' := h
set_option maxRecDepth 100000 in
set_option maxHeartbeats 4000000 in
theorem sopen_core (g : Nat) (P : Nat → Prop) (D D' : DSt) (ev : Int) (S0 : KV.KSt) (xs : List Int) (er : Int) (ls : List (List Int)) (n x : Nat) (w : World) (h : DiskAt w g P D)
    (HL : Hid (Calls Tryz.prog 33 #[ptr g] w fun e w' => ∃ k Pk, e = .returned (.tuple #[ptr k, .int .i64 0]) ∧ KV.KvAt w' k Pk S0 ∧ (∀ i, Pk i → w.heap.size ≤ i) ∧ Below w.heap.size w w'))
    (hn : D.fs.length ≤ 1000) (hall : ∀ f ∈ D.fs, f.2.1.length ≤ 100000) (hE : Env w)
    (hr : readD D nLog.data.toList = (xs, er)) (he : er ≠ 12) (ha : AllIs ls xs n x) (hd : settleD D nLog.data.toList xs.length n = (0, D'))
    (hok : ∀ p ∈ ls, okB p ∧ p.length ≤ 100000000000000) (hrv : 0 ≤ S0.rev ∧ S0.rev ≤ 9223372036854775807) (hnl : S0.L.length + ls.length ≤ 1000000) (hz : (replayS S0 ls).1 = 0) :
    Calls Tryz.prog 10 #[ptr g, .int .i64 ev] w fun e w' => ∃ s k l P' Pk, e = .returned (.tuple #[ptr s, .int .i64 0]) ∧ StoreIs w' s g k l (max ev 1) 0 false ∧ DiskAt w' g P' D' ∧ LogIs 138 w' l g nLog n false ∧ KV.KvAt w' k Pk (replayS S0 ls).2 ∧
      (∀ i, Pk i → w.heap.size ≤ i ∧ ¬ P' i ∧ i ≠ l ∧ i ≠ s) ∧ ¬ P' l ∧ ¬ P' s ∧ w.heap.size ≤ l ∧ w.heap.size ≤ s ∧ l ≠ s ∧ Step P P' w w' := by
  have HO := Lib.hid (fun (w1 : World) (hb : Below w.heap.size w w1) => open_ok g P D D' nLog xs er ls n x w1 (h.below hb) (by decide) (by decide) hn hall (hE.below hb) hr he ha hd)
  have HRP := Lib.hid (fun (k B : Nat) (Pk : Nat → Prop) (v : Value) (w1 : World) (hk : KV.KvAt w1 k Pk S0) (hrow : RowN w1 B v ls) (hP : ∀ i, Pk i → i < B) (hB : B ≤ w1.heap.size) => sreplay_any k B Pk S0 v ls w1 hk hrow hP hB hok hrv hnl)
  rw [hz] at HRP
  have H := Lib.hid h
  clear h hn hall hE hr he ha hd hok hrv hnl hz
  go_enter Tryz.func10, Tryz.ntmps10
  go_wp2_with fail
  refine HL.out.mono ?_; rintro e w1 ⟨k, Pk, rfl, hk, hpk, hb1⟩
  have HK := Lib.hid (And.intro hk (And.intro hpk hb1))
  clear hk hpk hb1 HL
  go_wp2_with fail
  refine (HO.out w1 HK.out.2.2).mono ?_; rintro e w2 ⟨P2, l, v, rfl, hd2, hl2, hrow, hPl, hwl, hS2⟩
  have hk2 : KV.KvAt w2 k Pk S0 := HK.out.1.keep hS2.1 (fun i hi hp => by
    have h1 := HK.out.2.1 i hi
    have h2 := DiskAt.lt H.out hp
    omega)
  have hr2 := hrow w2 (Touch.refl _ w2)
  have HW2 := Lib.hid (And.intro hd2 (And.intro hl2 (And.intro hPl (And.intro hwl (And.intro hS2 (And.intro hk2 hr2))))))
  clear hd2 hl2 hrow hPl hwl hS2 hk2 hr2
  go_wp2_with fail
  refine (HRP.out k w1.heap.size Pk v w2 HW2.out.2.2.2.2.2.1 HW2.out.2.2.2.2.2.2 (fun i hi => KV.KvAt.own HK.out.1 i hi) HW2.out.2.2.2.2.1.1.2.2.2.1).mono ?_; rintro e w3 ⟨P3, rfl, hk3, hp3, ht3⟩
  have hk3' := hk3 trivial
  have HW3 := Lib.hid (And.intro hk3' (And.intro hp3 ht3))
  clear hk3 hk3' hp3 ht3
  go_wp2_with fail
  go_ret2
  have hk1 := fun i hi => KV.KvAt.own HK.out.1 i hi
  have z1 := HK.out.2.2.size
  have z2 := HW2.out.2.2.2.2.1.1.2.2.2.1
  have z3 := HW3.out.2.2.2.2.2.1
  have hl3 := heap_lt HW2.out.2.1
  have hb4 := belNew w3 (Obj.cells #[ptr g, ptr k, ptr l, .int .i64 (max ev 1), .int .i64 0, .bool false] 102)
  have hq : ∀ i, P i → ¬ Pk i := fun i hp hi => by have h1 := HK.out.2.1 i hi; have h2 := DiskAt.lt H.out hp; omega
  have hq2 : ∀ i, P2 i → ¬ Pk i := fun i hp hi => by
    have h1 := HK.out.2.1 i hi
    have h2 := hk1 i hi
    rcases HW2.out.2.2.2.2.1.2 i hp with h | h
    · exact hq i h hi
    · omega
  have hp3 : ∀ i, P3 i → w.heap.size ≤ i ∧ ¬ P2 i ∧ i ≠ l ∧ i ≠ w3.heap.size := fun i hi => by
    have h0 := KV.KvAt.own HW3.out.1 i hi
    rcases HW3.out.2.1 i hi with h | h
    · have h1 := HK.out.2.1 i h
      have h2 := hk1 i h
      have h3 := HW2.out.2.2.2.1
      exact ⟨h1, fun hp => hq2 i hp h, by omega, by omega⟩
    · exact ⟨by omega, fun hp => by have h4 := DiskAt.lt HW2.out.1 hp; omega, by omega, by omega⟩
  have hd3 := (HW2.out.1.keep (touchK HW3.out.2.2) hq2).below hb4
  have hl4 := (HW2.out.2.1.keep (touchK HW3.out.2.2) (fun hi => by have h2 := hk1 l hi; have h3 := HW2.out.2.2.2.1; omega)).below hb4
  have ht : Touch P w (w3.alloc (Obj.cells #[ptr g, ptr k, ptr l, .int .i64 (max ev 1), .int .i64 0, .bool false] 102)) :=
    (((Touch.of_below P HK.out.2.2).trans HW2.out.2.2.2.2.1.1 (fun _ _ h => h)).trans (touchK HW3.out.2.2) (fun i hi h => absurd (HK.out.2.1 i h) (by omega))).trans (Touch.of_below P hb4) (fun _ _ h => h)
  exact ⟨w3.heap.size, k, l, P2, P3, rfl, heap_alloc_new w3 _, hd3, hl4, HW3.out.1.below hb4, hp3, HW2.out.2.2.1, fun hp => by have h4 := DiskAt.lt HW2.out.1 hp; omega, by have := HW2.out.2.2.2.1; omega, by omega, by omega, ht, fun i hi => (HW2.out.2.2.2.2.1.2 i hi).imp id (fun h => by omega)⟩
end Go.Proofs.YtbbefakmpmniiaaGreatDoor
