/- Package store: Do and compact of a store that stands: what they leave, and what a disk has that is lost at them. -/
import Derived.Test.YtbbefakmpmniiaaGreatDoorSt15
import Derived.Test.YtbbefakmpmniiaaGreatDoorSt8
import Derived.Test.YtbbefakmpmniiaaGreatDoorSm2
namespace Go.Proofs.YtbbefakmpmniiaaGreatDoor
open Go.RowKit Go.Maps
theorem StepS.ge {P P' Pk Pk' : Nat → Prop} {l s : Nat} {a b : World} {n : Nat} (h : StepS P P' Pk Pk' l s a b) (hp : ∀ i, (P i ∨ Pk i ∨ i = l ∨ i = s) → n ≤ i) (hn : n ≤ a.heap.size) :
    (∀ i, (P' i ∨ Pk' i ∨ i = l ∨ i = s) → n ≤ i) ∧ Below n a b := by
  refine ⟨fun i hi => ?_, h.1.below hn hp⟩
  rcases hi with hi | hi | hi
  · exact (h.2.1 i hi).elim (fun h => hp i (Or.inl h)) (fun h => by omega)
  · exact (h.2.2 i hi).elim (fun h => hp i (Or.inr (Or.inl h))) (fun h => by omega)
  · exact hp i (Or.inr (Or.inr hi))
theorem GoodS.at {n : Nat} {ar : Bool} {T : WSt} {S : KV.KSt} (h : GoodS n ar T S) (hn : n ≤ 100) (k : List UInt8) : ((getE T.D.fs k).getD ([], 0)).1.length ≤ 1000000 := by
  have := (h.small hn).2.1.get k
  omega
/-- A write of a store that stands: what comes of it is one of two things, and keep does it. -/
theorem keep_good (s g l k : Nat) {n : Nat} {ar : Bool} {T : WSt} {S : KV.KSt} {o : KV.KOp} (ev wr : Int) (h : GoodS n ar T S) (hn : n + 1 ≤ 100) (hv : o.val.size ≤ 100) (hw : (KV.planK S o).2.2 = true) (hw0 : 0 ≤ wr) (hw1 : wr ≤ 1000) :
    ∃ c T' S' wr' dead', ((c = 0 ∧ S' = (KV.doK S o).2 ∧ GoodS (n + 1) ar T' S' ∧ wr' = wr + 1 ∧ dead' = false) ∨ (c = 12 ∧ ar = true ∧ MaybeS (n + 1) T'.D.fs S (KV.doK S o).2 ∧ S' = S ∧ wr' = wr ∧ dead' = true)) ∧
      ∀ P Pk w2, SAll w2 s g l k P Pk T S ev wr false → Env w2 → Calls Tryz.prog 44 #[ptr s, KV.effV (KV.planK S o).2.1] w2 fun x w' => ∃ P' Pk', x = .returned (.int .i64 c) ∧ SAll w' s g l k P' Pk' T' S' ev wr' dead' ∧ StepS P P' Pk Pk' l s w2 w' := by
  obtain ⟨e1, e2, e3, e4, e5, e6, e7, e8⟩ := plan_eff h.2.2.2.1 (by omega) hv hw
  have hsm := h.small (by omega)
  have hrev := h.2.2.2.1.1
  have hdo : (KV.doK S o).2 = KV.applyK S (KV.planK S o).2.1 := by unfold KV.doK; rw [if_pos hw]
  rw [hdo]
  rcases keep_out h hn hv hw with ⟨T', hT, hG⟩ | ⟨T', hT, ha, hM⟩
  · refine ⟨0, T', _, wr + 1, false, Or.inl ⟨rfl, rfl, hG, rfl, rfl⟩, fun P Pk w2 hA hE => ?_⟩
    exact skeep_ok s g l k P Pk T T' S ev wr _ w2 hA hE e1 (by have := hrev.2.2.1; omega) (by omega) e4 e3 (by omega) (by omega) (h.at (by omega) _) hT ⟨hrev.2.1, by have := hrev.2.2.1; omega⟩ (by have := hrev.2.2.2.1; omega) hw0 (by omega)
  · refine ⟨12, T', S, wr, true, Or.inr ⟨rfl, ha, hM, rfl, rfl, rfl⟩, fun P Pk w2 hA hE => ?_⟩
    exact (skeep_lost s g l k P Pk T T' S ev wr 12 _ w2 hA hE e1 (by have := hrev.2.2.1; omega) (by omega) e4 (by omega) (by omega) (h.at (by omega) _) hT (by decide)).mono (fun x w' ⟨P', h1, h2, h3⟩ => ⟨P', Pk, h1, h2, h3⟩)
/-- Compacting a store that stands. -/
theorem comp_good (s g l k : Nat) {n : Nat} {ar : Bool} {T : WSt} {S : KV.KSt} (ev wr : Int) (h : GoodS n ar T S) (hn : n ≤ 100) :
    ∃ c T' wr' dead', ((c = 0 ∧ GoodS n ar T' S ∧ wr' = 0 ∧ dead' = false ∧ ∃ a b c, T'.D.fs = fs3 a b c ∧ (a = none ∨ a = some ([], 0))) ∨ (c = 12 ∧ ar = true ∧ MaybeS n T'.D.fs S S ∧ wr' = wr ∧ dead' = true)) ∧
      ∀ (P Pk : Nat → Prop) (w0 w2 : World), SAll w2 s g l k P Pk T S ev wr false → Env w0 → Below w0.heap.size w0 w2 → (∀ i, P i → w0.heap.size ≤ i) → Calls Tryz.prog 42 #[ptr s] w2 fun x w' => ∃ P', x = .returned (.int .i64 c) ∧ SAll w' s g l k P' Pk T' S ev wr' dead' ∧ StepS P P' Pk Pk l s w2 w' := by
  have hsm := h.small hn
  have hg := h.2.2.2.1
  have hst := hg.ok hn
  have hl := hg.len hn
  rcases comp_out h hn with ⟨D1, T', q1, q2, q3, q4, q5, q6⟩ | ⟨D1, q1, q2, q3⟩ | ⟨D1, T', q1, q2, q3, q4, q5, q6⟩
  · refine ⟨0, T', 0, false, Or.inl ⟨rfl, q5, rfl, rfl, q6⟩, fun P Pk w0 w2 hA hE hB hP => ?_⟩
    exact scompact_ok s g l k P Pk T T' D1 S ev wr w0 w2 hA hg.1.1 hst (KV.okB_state S) (by omega) hE hB hP (by omega) (h.at hn _) q1 (by omega) (fun f hf => by have := q3 f hf; omega) q4
  · refine ⟨12, ⟨D1, T.size, T.dead⟩, wr, true, Or.inr ⟨rfl, q2, q3, rfl, rfl⟩, fun P Pk w0 w2 hA hE hB hP => ?_⟩
    exact scompact_lost1 s g l k P Pk T T D1 S ev wr 12 w0 w2 hA hg.1.1 hst (KV.okB_state S) (by omega) hE hB hP (by omega) (h.at hn _) q1 (by decide)
  · refine ⟨12, T', wr, true, Or.inr ⟨rfl, q5, q6, rfl, rfl⟩, fun P Pk w0 w2 hA hE hB hP => ?_⟩
    exact scompact_lost2 s g l k P Pk T T' D1 S ev wr 12 w0 w2 hA hg.1.1 hst (KV.okB_state S) (by omega) hE hB hP (by omega) (h.at hn _) q1 (by omega) (fun f hf => by have := q3 f hf; omega) q4 (by decide)
theorem MaybeS.mono {n m : Nat} {fs : List FEnt} {S S' : KV.KSt} (h : MaybeS n fs S S') (hm : n ≤ m) : MaybeS m fs S S' := by
  rcases h with ⟨hg, ps, S0, a, b, c, h1, h2, h3, h4, h5⟩ | ⟨hg, hg', S0, ps, p, b, c, h1, h2, h3, h4, h5⟩
  · exact Or.inl ⟨hg.mono hm, ps, S0, a, b, c, h1, h2, h3, h4, h5.mono hm⟩
  · exact Or.inr ⟨hg.mono hm, hg'.mono hm, S0, ps, p, b, c, h1, h2, h3, h4.mono hm, h5.mono hm⟩
theorem GoodS.mono {n m : Nat} {ar : Bool} {T : WSt} {S : KV.KSt} (h : GoodS n ar T S) (hm : n ≤ m) : GoodS m ar T S := by
  obtain ⟨h1, h2, h3, hg, ps, ⟨S0, a, b, c, hf, q1, q2, q3, q4⟩, hsz⟩ := h
  exact ⟨h1, h2, h3, hg.mono hm, ps, ⟨S0, a, b, c, hf, q1, q2, q3, q4.mono hm⟩, hsz⟩
/-- One state alone may be left: then it may be that one, or any other one. -/
theorem MaybeS.or {n : Nat} {fs : List FEnt} {S : KV.KSt} (h : MaybeS n fs S S) (S' : KV.KSt) : (KvG n S ∧ ∃ ps, ShapeS n fs ps S) → MaybeS n fs S S' := fun h => Or.inl h
/-- What Do of a store that stands leaves, and tells. -/
def DoPost (s g l k : Nat) (P Pk : Nat → Prop) (n : Nat) (ar : Bool) (S : KV.KSt) (ev wr : Int) (o : KV.KOp) (w : World) (x : Ending) (w' : World) : Prop :=
  ∃ P' Pk' T' wr' S', StepS P P' Pk Pk' l s w w' ∧
    ((∃ v, x = .returned (KV.kres (KV.planK S o).1 v) ∧ KV.RowI w' w.heap.size v (KV.planK S o).1.its ∧ S' = (KV.doK S o).2 ∧ GoodS (n + 1) ar T' S' ∧ SAll w' s g l k P' Pk' T' S' ev wr' false ∧ 0 ≤ wr' ∧ wr' ≤ wr + 1) ∨
     (x = .returned (KV.resV 12 0 KV.emp (.slice none 0 0)) ∧ ar = true ∧ (MaybeS (n + 1) T'.D.fs S S ∨ MaybeS (n + 1) T'.D.fs S (KV.doK S o).2) ∧ SAll w' s g l k P' Pk' T' S' ev wr' true))
theorem sdo_good (s g l k : Nat) (P Pk : Nat → Prop) (n : Nat) (ar : Bool) (T : WSt) (S : KV.KSt) (ev wr : Int) (o : KV.KOp) (w0 w : World) (h : SAll w s g l k P Pk T S ev wr false) (hG : GoodS n ar T S) (hn : n + 1 ≤ 100) (hv : o.val.size ≤ 100) (hs : o.key.size ≤ maxLen) (hs2 : o.iff.size ≤ maxLen)
    (hE : Env w0) (hB : Below w0.heap.size w0 w) (hP : ∀ i, (P i ∨ Pk i ∨ i = l ∨ i = s) → w0.heap.size ≤ i) (hw0 : 0 ≤ wr) (hw1 : wr ≤ 999) :
    Calls Tryz.prog 16 #[ptr s, KV.opV o] w (DoPost s g l k P Pk n ar S ev wr o w) := by
  have hg := hG.2.2.2.1
  have hz := hB.size
  have hri := hg.1.1
  have hnl : S.L.length ≤ 1000000 := by have := hg.1.2.2.2.1; omega
  have hrv : 0 ≤ S.rev ∧ S.rev < 9223372036854775807 := ⟨hg.1.2.1, by have := hg.1.2.2.1; omega⟩
  by_cases hge : ev ≤ wr
  · obtain ⟨c1, T1, wr1, d1, hout1, hcall1⟩ := comp_good s g l k ev wr hG (by omega)
    rcases hout1 with ⟨rfl, hG1, rfl, rfl, -⟩ | ⟨rfl, ha, hM, -, rfl⟩
    · have HC : Hid (∀ w2, SAll w2 s g l k P Pk T S ev wr false → Below w.heap.size w w2 → Calls Tryz.prog 42 #[ptr s] w2 fun x w' => ∃ P1, x = .returned (.int .i64 0) ∧ SAll w' s g l k P1 Pk T1 S ev 0 false ∧ StepS P P1 Pk Pk l s w2 w') :=
        Lib.hid (fun w2 hA2 hb2 => hcall1 P Pk w0 w2 hA2 hE (hB.trans (hb2.mono hz)) (fun i hi => hP i (Or.inl hi)))
      cases hwr : (KV.planK S o).2.2 with
      | false =>
        have hdo : (KV.doK S o).2 = S := by unfold KV.doK; rw [hwr]; rfl
        refine (sdo_comp s g l k P Pk T T1 T1 S S ev wr 0 0 0 false o w h hge hs hs2 hri hnl hrv HC (Lib.hid (fun h => by rw [hwr] at h; cases h)) (Lib.hid (fun _ => ⟨rfl, rfl, rfl, rfl, rfl⟩))).mono ?_
        rintro x w' ⟨P', Pk', v, rfl, hrow, hA', hst⟩
        exact ⟨P', Pk', T1, 0, S, hst, Or.inl ⟨v, by rw [if_pos rfl], hrow rfl, hdo.symm, hG1.mono (by omega), hA', by decide, by omega⟩⟩
      | true =>
        obtain ⟨c, T', S', wr', dead', hout, hcall⟩ := keep_good s g l k (o := o) ev 0 hG1 hn hv hwr (by decide) (by decide)
        refine (sdo_comp s g l k P Pk T T1 T' S S' ev wr 0 wr' c dead' o w h hge hs hs2 hri hnl hrv HC (Lib.hid (fun _ P1 w2 hA2 hst2 => hcall P1 Pk w2 hA2 (hE.below (hB.trans ((hst2.ge hP hz).2))))) (Lib.hid (fun h => by rw [hwr] at h; cases h))).mono ?_
        rintro x w' ⟨P', Pk', v, rfl, hrow, hA', hst⟩
        rcases hout with ⟨rfl, rfl, hG', rfl, rfl⟩ | ⟨rfl, ha, hM, rfl, -, rfl⟩
        · exact ⟨P', Pk', T', _, _, hst, Or.inl ⟨v, by rw [if_pos rfl], hrow rfl, rfl, hG', hA', by decide, by omega⟩⟩
        · exact ⟨P', Pk', T', _, _, hst, Or.inr ⟨by rw [if_neg (by decide)], ha, Or.inr hM, hA'⟩⟩
    · refine (sdo_clost s g l k P Pk T T1 S ev wr wr1 12 o w h hge (by decide) (Lib.hid (fun w2 hA2 hb2 => hcall1 P Pk w0 w2 hA2 hE (hB.trans (hb2.mono hz)) (fun i hi => hP i (Or.inl hi))))).mono ?_
      rintro x w' ⟨P', rfl, hA', hst⟩
      exact ⟨P', Pk, T1, wr1, S, hst, Or.inr ⟨rfl, ha, Or.inl (hM.mono (by omega)), hA'⟩⟩
  · cases hwr : (KV.planK S o).2.2 with
    | false =>
      have hdo : (KV.doK S o).2 = S := by unfold KV.doK; rw [hwr]; rfl
      refine (sdo_any s g l k P Pk T T S S ev wr wr 0 false o w h (by omega) hs hs2 hri hnl hrv (Lib.hid (fun h => by rw [hwr] at h; cases h)) (Lib.hid (fun _ => ⟨rfl, rfl, rfl, rfl, rfl⟩))).mono ?_
      rintro x w' ⟨P', Pk', v, rfl, hrow, hA', hst⟩
      exact ⟨P', Pk', T, wr, S, hst, Or.inl ⟨v, by rw [if_pos rfl], hrow rfl, hdo.symm, hG.mono (by omega), hA', hw0, by omega⟩⟩
    | true =>
      obtain ⟨c, T', S', wr', dead', hout, hcall⟩ := keep_good s g l k (o := o) ev wr hG hn hv hwr hw0 (by omega)
      refine (sdo_any s g l k P Pk T T' S S' ev wr wr' c dead' o w h (by omega) hs hs2 hri hnl hrv (Lib.hid (fun _ w2 hA2 hb2 => hcall P Pk w2 hA2 (hE.below (hB.trans (hb2.mono hz))))) (Lib.hid (fun h => by rw [hwr] at h; cases h))).mono ?_
      rintro x w' ⟨P', Pk', v, rfl, hrow, hA', hst⟩
      rcases hout with ⟨rfl, rfl, hG', rfl, rfl⟩ | ⟨rfl, ha, hM, rfl, -, rfl⟩
      · exact ⟨P', Pk', T', _, _, hst, Or.inl ⟨v, by rw [if_pos rfl], hrow rfl, rfl, hG', hA', by omega, by omega⟩⟩
      · exact ⟨P', Pk', T', _, _, hst, Or.inr ⟨by rw [if_neg (by decide)], ha, Or.inr hM, hA'⟩⟩
end Go.Proofs.YtbbefakmpmniiaaGreatDoor
