/- Package store: chapter 11's example. -/
import Derived.Test.YtbbefakmpmniiaaGreatDoorSt10
namespace Go.Proofs.YtbbefakmpmniiaaGreatDoor
open Go.RowKit Go.Maps
theorem SAll.of {w : World} {s g l k : Nat} {P Pk : Nat → Prop} {D : DSt} {n : Nat} {S : KV.KSt} {ev : Int} (w0 : World) (h1 : StoreIs w s g k l ev 0 false) (h2 : DiskAt w g P D) (h3 : LogIs 138 w l g nLog n false) (h4 : KV.KvAt w k Pk S)
    (h5 : ∀ i, Pk i → w0.heap.size ≤ i ∧ ¬ P i ∧ i ≠ l ∧ i ≠ s) (h6 : ¬ P l) (h7 : ¬ P s) (h8 : l ≠ s) : SAll w s g l k P Pk ⟨D, n, false⟩ S ev 0 false :=
  ⟨h1, h2, h3, h4, fun i hi => (h5 i hi).2, h6, h7, h8⟩
set_option maxRecDepth 100000 in
set_option maxHeartbeats 8000000 in
theorem awake11_any (w : World) (hE : Env w) : Calls Tryz.prog 29 #[] w fun e w' => e = .returned (.bool true) ∧ Below w.heap.size w w' := by
  have HND := Lib.hid (new_disk w)
  have HO1 := Lib.hid (fun (g : Nat) (P : Nat → Prop) (w1 : World) (hd : DiskAt w1 g P D0) (hb : Below w.heap.size w w1) =>
    sopen_core g P D0 D0 10 ⟨0, []⟩ [] 6 [] 0 6 w1 hd (Lib.hid ((sload_new g P D0 w1 hd (by decide) (hE.below hb) (by rw [sm1])).mono (fun e w' ⟨k, he, hk, hkk, hbb⟩ => ⟨k, _, he, hk, fun i hi => by rw [show i = k from hi]; exact hkk, hbb⟩)))
      (by decide) (fun f hf => by cases hf) (hE.below hb) sm2 (by decide) ⟨rfl, rfl, by decide⟩ sm3 (fun p hp => by cases hp) ⟨by decide, by decide⟩ (by decide) (by rw [replayS]))
  have HO2 := Lib.hid (fun (g : Nat) (P : Nat → Prop) (w1 : World) (hd : DiskAt w1 g P dA) (hb : Below w.heap.size w w1) =>
    sopen_core g P dA dA 10 ⟨0, []⟩ (frameL bA) 0 [bA] 27 6 w1 hd (Lib.hid ((sload_new g P dA w1 hd (by decide) (hE.below hb) (by rw [sm6])).mono (fun e w' ⟨k, he, hk, hkk, hbb⟩ => ⟨k, _, he, hk, fun i hi => by rw [show i = k from hi]; exact hkk, hbb⟩)))
      (by decide) (fun f hf => by obtain rfl := List.mem_singleton.1 hf; decide) (hE.below hb) sm7 (by decide) sm8 sm9 (fun p hp => by obtain rfl := List.mem_singleton.1 hp; exact ⟨sok, by decide⟩) ⟨by decide, by decide⟩ (by decide) (by rw [srep]))
  rw [srep] at HO2
  have e0 : (replayS ⟨0, []⟩ []).2 = ⟨0, []⟩ := by rw [replayS]
  rw [e0] at HO1
  have HD1 := Lib.hid (fun (s g l k : Nat) (P Pk : Nat → Prop) (w1 : World) (h : SAll w1 s g l k P Pk ⟨D0, 0, false⟩ ⟨0, []⟩ (max 10 1) 0 false) (hb : Below w.heap.size w w1) =>
    sdo_any s g l k P Pk ⟨D0, 0, false⟩ ⟨dA, 27, false⟩ ⟨0, []⟩ sA (max 10 1) 0 1 0 false oA w1 h (by decide) (by decide) (by decide) List.Pairwise.nil (by decide) ⟨by decide, by decide⟩
      (Lib.hid (fun _ w2 h2 hb2 => by
        have hk := skeep_ok s g l k P Pk ⟨D0, 0, false⟩ ⟨dA, 27, false⟩ ⟨0, []⟩ (max 10 1) 0 eA w2 h2 (hE.below (hb.trans (hb2.mono hb.size))) sp2 (by decide) (by rw [bA_eq]; decide) (by rw [bA_eq]; exact sok) sp3 (by decide) (by decide) (by decide) (by rw [bA_eq]; exact sm4) ⟨by decide, by decide⟩ (by decide) (by decide) (by decide)
        rw [sp4] at hk
        rw [sp1]
        exact hk))
      (Lib.hid (fun h => by rw [sp1] at h; cases h)))
  rw [sp1] at HD1
  have HD2 := Lib.hid (fun (s g l k : Nat) (P Pk : Nat → Prop) (w1 : World) (h : SAll w1 s g l k P Pk ⟨dA, 27, false⟩ sA (max 10 1) 0 false) =>
    sdo_any s g l k P Pk ⟨dA, 27, false⟩ ⟨dA, 27, false⟩ sA sA (max 10 1) 0 0 0 false oG w1 h (by decide) (by decide) (by decide) (List.pairwise_singleton _ _) (by decide) ⟨by decide, by decide⟩
      (Lib.hid (fun h => by rw [sp5] at h; cases h)) (Lib.hid (fun _ => ⟨rfl, rfl, rfl, rfl, rfl⟩)))
  rw [sp5] at HD2
  have HCR := Lib.hid (fun (g : Nat) (P : Nat → Prop) (w1 : World) (hd : DiskAt w1 g P dA) => crash_any g P dA (.slice none 0 0) [] w1 hd (by decide) (fun f hf => by obtain rfl := List.mem_singleton.1 hf; decide) (seesU_nil w1) (fun x hx => by cases hx) (fun h => absurd rfl h))
  rw [sm5] at HCR
  clear hE e0
  go_enter Tryz.func29, Tryz.ntmps29
  go_wp2_with fail
  refine HND.out.mono ?_; rintro _ w1 ⟨g, rfl, hd1, hg, hb1⟩
  have H1 := Lib.hid (And.intro hd1 (And.intro hg hb1))
  clear hd1 hg hb1
  go_wp2_with fail
  refine (HO1.out g _ w1 H1.out.1 H1.out.2.2).mono ?_; rintro _ w2 ⟨s, k, l, P2, Q2, rfl, h1, h2, h3, h4, h5, h6, h7, h8, h9, h10, h11⟩
  have hb2 : Below w.heap.size w w2 := H1.out.2.2.trans (h11.1.below H1.out.2.2.size (fun i hi => by rw [show i = g from hi]; exact H1.out.2.1))
  have hP2 : ∀ i, P2 i → w.heap.size ≤ i := fun i hi => (h11.2 i hi).elim (fun h => by rw [show i = g from h]; exact H1.out.2.1) (fun h => Nat.le_trans H1.out.2.2.size h)
  have H2 := Lib.hid (And.intro (SAll.of w1 h1 h2 h3 h4 h5 h6 h7 h10) (And.intro hb2 (And.intro hP2 (And.intro h5 (And.intro h8 h9)))))
  clear h1 h2 h3 h4 h5 h6 h7 h8 h9 h10 h11 hb2 hP2
  go_upto_region 4 with (first | (go_at_call 16; refine (HD1.out s g l k P2 Q2 w2 H2.out.1 H2.out.2.1).mono ?_; rintro _ w3 ⟨P3, Q3, v3, rfl, hr3, hs3, ht3⟩; obtain ⟨a3, c3, rfl⟩ := rowForm (hr3 (by first | rfl | trivial))) | go_in)
  obtain ⟨w4, hw4⟩ : ∃ w4, w4 = w3.alloc (KV.resO 0 1 KV.emp (.slice a3 0 c3)) := ⟨_, rfl⟩
  have hT4 : w4.heap[w3.heap.size]? = some (KV.resO 0 1 KV.emp (.slice a3 0 c3)) := by rw [hw4]; exact heap_alloc_new w3 _
  have hb34 : Below w3.heap.size w3 w4 := by rw [hw4]; exact belNew w3 _
  change Code.wp _ _ _ _ (w3.alloc (KV.resO 0 1 KV.emp (.slice a3 0 c3)))
  rw [← hw4]
  have hz1 := H1.out.2.2.size
  have hz2 := H2.out.2.1.size
  have hb3 : Below w.heap.size w w3 := H2.out.2.1.trans (ht3.1.below hz2 (fun i hi => by
    rcases hi with h | h | h | h
    · exact H2.out.2.2.1 i h
    · have := (H2.out.2.2.2.1 i h).1; omega
    · have := H2.out.2.2.2.2.1; omega
    · have := H2.out.2.2.2.2.2; omega))
  have hP3 : ∀ i, P3 i → w.heap.size ≤ i := fun i hi => (ht3.2.1 i hi).elim (H2.out.2.2.1 i) (fun h => by omega)
  have hb4 : Below w.heap.size w w4 := hb3.trans (hb34.mono hb3.size)
  have nb3 : ¬ P3 w3.heap.size := fun h => by have := DiskAt.lt hs3.2.1 h; omega
  have H4 := Lib.hid (And.intro (hs3.below hb34).2.1 (And.intro hb4 (And.intro hP3 (And.intro hT4 nb3))))
  clear hr3 hs3 ht3 hw4 hT4 hb34 hz1 hz2 hb3 hP3 hb4 nb3
  go_wp2_with fail
  refine (HCR.out g P3 w4 H4.out.1).mono ?_; rintro _ w5 ⟨P5, rfl, hd5, hs5⟩
  have hb5 : Below w.heap.size w w5 := H4.out.2.1.trans (hs5.1.below H4.out.2.1.size H4.out.2.2.1)
  have hT5 := (hs5.1.2.2.2.2 _ (heap_lt H4.out.2.2.2.1) H4.out.2.2.2.2).trans H4.out.2.2.2.1
  have nb5 : ¬ P5 w3.heap.size := fun h => (hs5.2 _ h).elim H4.out.2.2.2.2 (fun h => by have := heap_lt H4.out.2.2.2.1; omega)
  have hP5 : ∀ i, P5 i → w.heap.size ≤ i := fun i hi => (hs5.2 i hi).elim (H4.out.2.2.1 i) (fun h => by have := H4.out.2.1.size; omega)
  have H5 := Lib.hid (And.intro hd5 (And.intro hb5 (And.intro hT5 (And.intro nb5 hP5))))
  clear hd5 hs5 hb5 hT5 nb5 hP5
  go_wp2_with fail
  refine (HO2.out g P5 w5 H5.out.1 H5.out.2.1).mono ?_; rintro _ w6 ⟨s', k', l', P6, Q6, rfl, h1, h2, h3, h4, h5, h6, h7, h8, h9, h10, h11⟩
  have z5 := heap_lt H5.out.2.2.1
  have hT6 := (h11.1.2.2.2.2 _ z5 H5.out.2.2.2.1).trans H5.out.2.2.1
  have hb6 : Below w.heap.size w w6 := H5.out.2.1.trans (h11.1.below H5.out.2.1.size H5.out.2.2.2.2)
  have hP6 : ∀ i, P6 i → w.heap.size ≤ i := fun i hi => (h11.2 i hi).elim (H5.out.2.2.2.2 i) (fun h => by have := H5.out.2.1.size; omega)
  have nb6 : ¬ (P6 w3.heap.size ∨ Q6 w3.heap.size ∨ w3.heap.size = l' ∨ w3.heap.size = s') := fun h => by
    rcases h with h | h | h | h
    · exact (h11.2 _ h).elim H5.out.2.2.2.1 (fun h => by omega)
    · have := (h5 _ h).1; omega
    · omega
    · omega
  have hge : ∀ i, (P6 i ∨ Q6 i ∨ i = l' ∨ i = s') → w.heap.size ≤ i := fun i h => by
    have hz := H5.out.2.1.size
    rcases h with h | h | h | h
    · exact hP6 i h
    · have := (h5 _ h).1; omega
    · omega
    · omega
  have H6 := Lib.hid (And.intro (SAll.of w5 h1 h2 h3 h4 h5 h6 h7 h10) (And.intro hb6 (And.intro hT6 (And.intro nb6 hge))))
  clear h1 h2 h3 h4 h5 h6 h7 h8 h9 h10 h11 z5 hT6 hb6 hP6 nb6 hge
  go_upto_region 7 with (first | (go_at_call 16; refine (HD2.out s' g l' k' P6 Q6 w6 H6.out.1).mono ?_; rintro _ w7 ⟨P7, Q7, v7, rfl, hr7, hs7, ht7⟩; obtain ⟨a7, c7, rfl⟩ := rowForm (hr7 (by first | rfl | trivial))) | go_in)
  obtain ⟨w8, hw8⟩ : ∃ w8, w8 = w7.alloc (KV.resO 0 1 strX (.slice a7 0 c7)) := ⟨_, rfl⟩
  have hT8 : w8.heap[w7.heap.size]? = some (KV.resO 0 1 strX (.slice a7 0 c7)) := by rw [hw8]; exact heap_alloc_new w7 _
  have hb78 : Below w7.heap.size w7 w8 := by rw [hw8]; exact belNew w7 _
  change Code.wp _ _ _ _ (w7.alloc (KV.resO 0 1 strX (.slice a7 0 c7)))
  rw [← hw8]
  have hT7 := (ht7.1.2.2.2.2 _ (heap_lt H6.out.2.2.1) H6.out.2.2.2.1).trans H6.out.2.2.1
  have hb7 : Below w.heap.size w w7 := H6.out.2.1.trans (ht7.1.below H6.out.2.1.size H6.out.2.2.2.2)
  have hB8 := Lib.hid (hb7.trans (hb78.mono hb7.size))
  have hT78 := (hb78.block _ (heap_lt hT7)).trans hT7
  obtain ⟨x0, x1, x2, x3, -⟩ := KV.four hT78
  obtain ⟨y0, y1, y2, y3, -⟩ := KV.four hT8
  clear hr7 hs7 ht7 hw8 hT8 hb78 hT7 hb7 hT78
  go_wp2_with fail
  go_ret
  exact ⟨rfl, hB8.out⟩
end Go.Proofs.YtbbefakmpmniiaaGreatDoor
