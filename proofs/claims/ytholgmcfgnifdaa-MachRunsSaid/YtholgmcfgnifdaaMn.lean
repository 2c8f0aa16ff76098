/- Run at a state. Made by g_mn.py. -/
import Derived.Test.YtholgmcfgnifdaaMk
namespace Go.Proofs.Ytholgmcfgnifdaa
open Go.RowKit Go.Maps
/-- The state behind the first so many; what is told of the next one. -/
def stK (L : List KOp) (k : Nat) : KSt := (L.take k).foldl (fun S o => (doK S o).2) ⟨0, []⟩
def rsK (L : List KOp) (k : Nat) : KRes := (doK (stK L k) (L.getD k opZ)).1
theorem stK_zero (L : List KOp) : stK L 0 = ⟨0, []⟩ := by unfold stK; rw [List.take_zero]; rfl
theorem stK_succ {L : List KOp} {k : Nat} (h : k < L.length) : stK L (k + 1) = (doK (stK L k) (L.getD k opZ)).2 := by
  unfold stK
  rw [List.take_add_one, List.foldl_append, List.getD_eq_getElem?_getD, List.getElem?_eq_getElem h]
  rfl
theorem stK_inv (L : List KOp) : ∀ k, KInv (stK L k) k
  | 0 => by rw [stK_zero]; exact KInv.zero
  | k + 1 => by
    by_cases h : k < L.length
    · rw [stK_succ h]; exact doK_inv (stK_inv L k) _
    · have e : stK L (k + 1) = stK L k := by unfold stK; rw [List.take_of_length_le (by omega), List.take_of_length_le (by omega)]
      rw [e]
      obtain ⟨h1, h2, h3, h4, h5⟩ := stK_inv L k
      exact ⟨h1, h2, by omega, by omega, h5⟩
theorem doK_its {S : KSt} {o : KOp} : (doK S o).1.its.length ≤ S.L.length := by
  have hq : (doK S o).1 = (planK S o).1 := rfl
  rw [hq]
  unfold planK
  split
  · simp
  · split
    · exact beginL_le S.L _
    · split <;> simp
/-- What was told, one thing behind the other, and where it lies. -/
def TOK (w : World) (B : Nat) (L : List KOp) (gc gp : Nat) (tv : Value) (P : Nat → Prop) (T : List TEnt) : Prop :=
  ∀ j p, T[j]? = some p → p.1 = ((rsK L j).code, (rsK L j).rev, (rsK L j).val) ∧ SeesI w (.slice p.2.1 p.2.2.1 p.2.2.2) (rsK L j).its ∧ ∀ d, (Value.slice p.2.1 p.2.2.1 p.2.2.2).ownBlock = some d → d < w.heap.size ∧ ¬ P d ∧ ¬ Ztn gc gp tv d ∧ B ≤ d
/-- Where a run stands, since world w. -/
def RunAt (w0 : World) (P0 : Nat → Prop) (g gc gp : Nat) (L : List KOp) (lv : Value) (w : World) (T : List TEnt) (tv : Value) (P : Nat → Prop) : Prop :=
  ChR w w0.heap.size gc gp L lv T tv ∧ ProcAt w gp (nextO L T.length) (decide (T.length < L.length)) (nextF gc L T.length) T.length ∧ KvAt w g P (stK L T.length) ∧ (∀ i, P i → P0 i ∨ w0.heap.size ≤ i) ∧ (∀ i, P i → ¬ Ztn gc gp tv i) ∧ TOK w w0.heap.size L gc gp tv P T ∧ Touch (fun i => i = gp ∨ i = gc ∨ P0 i) w0 w
theorem TOK.below {w w' : World} {B : Nat} {L : List KOp} {gc gp : Nat} {tv : Value} {P : Nat → Prop} {T : List TEnt} (h : TOK w B L gc gp tv P T) (hb : Below w.heap.size w w') : TOK w' B L gc gp tv P T := fun j p hp => by
  obtain ⟨h1, h2, h3⟩ := h j p hp
  exact ⟨h1, h2.below hb, fun d hd => ⟨Nat.lt_of_lt_of_le (h3 d hd).1 hb.size, (h3 d hd).2⟩⟩
theorem RunAt.below {w0 : World} {P0 : Nat → Prop} {g gc gp : Nat} {L : List KOp} {lv : Value} {w w' : World} {T : List TEnt} {tv : Value} {P : Nat → Prop} (h : RunAt w0 P0 g gc gp L lv w T tv P) (hb : Below w.heap.size w w') : RunAt w0 P0 g gc gp L lv w' T tv P :=
  ⟨h.1.below hb, h.2.1.below hb, h.2.2.1.below hb, h.2.2.2.1, h.2.2.2.2.1, h.2.2.2.2.2.1.below hb, h.2.2.2.2.2.2.trans (Touch.of_below (fun _ => False) hb) (fun _ _ h => h.elim)⟩
theorem RunAt.lt {w0 : World} {P0 : Nat → Prop} {g gc gp : Nat} {L : List KOp} {lv : Value} {w : World} {T : List TEnt} {tv : Value} {P : Nat → Prop} (h : RunAt w0 P0 g gc gp L lv w T tv P) : ∀ i, Ztn gc gp tv i → i < w.heap.size := fun i hi => by
  have h1 := h.1.2.2.2.2.2.2.2
  have h2 := h.1.2.2.2.2.1
  have h3 := h.1.2.2.2.2.2.1
  rcases hi with e | e | e
  · omega
  · omega
  · exact (h.1.2.2.1.form i e).2
/-- One thing more is done and told. -/
theorem RunAt.step {w0 : World} {P0 : Nat → Prop} {g gc gp : Nat} {L : List KOp} {lv : Value} {w w2 w3 : World} {T : List TEnt} {tv tv' : Value} {P P' : Nat → Prop} {p : TEnt} (h : RunAt w0 P0 g gc gp L lv w T tv P) (hlt : T.length < L.length)
    (hl : ∀ i, P0 i → i < w0.heap.size) (hP' : ∀ i, P' i → P i ∨ w.heap.size ≤ i) (hk2 : KvAt w2 g P' (stK L (T.length + 1))) (ht2 : Touch P w w2)
    (hcr : ChR w3 w0.heap.size gc gp L lv (T ++ [p]) tv') (hpr : ProcAt w3 gp (nextO L (T.length + 1)) (decide (T.length + 1 < L.length)) (nextF gc L (T.length + 1)) (T.length + 1))
    (hp1 : p.1 = ((rsK L T.length).code, (rsK L T.length).rev, (rsK L T.length).val)) (hsi : SeesI w3 (.slice p.2.1 p.2.2.1 p.2.2.2) (rsK L T.length).its) (hso : ∀ d, (Value.slice p.2.1 p.2.2.1 p.2.2.2).ownBlock = some d → w2.heap.size ≤ d ∧ tv'.ownBlock ≠ some d ∧ d < w3.heap.size)
    (ht3 : Touch (Ztn gc gp tv) w2 w3) (htv : ∀ d, tv'.ownBlock = some d → tv.ownBlock = some d ∨ w2.heap.size ≤ d) : RunAt w0 P0 g gc gp L lv w3 (T ++ [p]) tv' P' := by
  have hZ := h.lt
  have hs2 := ht2.2.2.2.1
  have hs3 := ht3.2.2.2.1
  have hB := h.1.2.2.2.2.2.2.2
  have hgc := h.1.2.2.2.2.1
  have hgp := h.1.2.2.2.2.2.1
  have hPlt : ∀ i, P' i → i < w2.heap.size := hk2.own
  have hn1 : (T ++ [p]).length = T.length + 1 := by simp
  refine ⟨hcr, by rw [hn1]; exact_mod_cast hpr, ?_, fun i hi => ?_, fun i hi hz => ?_, fun j q hq => ?_, ?_⟩
  · rw [hn1]
    exact hk2.keep ht3 (fun i hi hz => (hP' i hi).elim (fun h1 => h.2.2.2.2.1 i h1 hz) (fun h1 => by have := hZ i hz; omega))
  · rcases hP' i hi with h1 | h1
    · exact h.2.2.2.1 i h1
    · exact Or.inr (by omega)
  · have hold : ¬ Ztn gc gp tv i := (hP' i hi).elim (h.2.2.2.2.1 i) (fun h1 hz => by have := hZ i hz; omega)
    rcases hz with e | e | e
    · exact hold (Or.inl e)
    · exact hold (Or.inr (Or.inl e))
    · rcases htv i e with h1 | h1
      · exact hold (Or.inr (Or.inr h1))
      · have := hPlt i hi; omega
  · by_cases hj : j < T.length
    · rw [List.getElem?_append_left hj] at hq
      obtain ⟨h1, h2, h3⟩ := h.2.2.2.2.2.1 j q hq
      refine ⟨h1, (h2.keep (fun d hd hlt => ht2.2.2.2.2 d hlt (h3 d hd).2.1)).keep (fun d hd _ => ht3.2.2.2.2 d (Nat.lt_of_lt_of_le (h3 d hd).1 hs2) (h3 d hd).2.2.1), fun d hd => ⟨by have := (h3 d hd).1; omega, fun hp => ?_, fun hz => ?_, (h3 d hd).2.2.2⟩⟩
      · rcases hP' d hp with h4 | h4
        · exact (h3 d hd).2.1 h4
        · have := (h3 d hd).1; omega
      · rcases hz with e | e | e
        · exact (h3 d hd).2.2.1 (Or.inl e)
        · exact (h3 d hd).2.2.1 (Or.inr (Or.inl e))
        · rcases htv d e with h4 | h4
          · exact (h3 d hd).2.2.1 (Or.inr (Or.inr h4))
          · have := (h3 d hd).1; omega
    · have hje : j = T.length := by
        have := (List.getElem?_eq_some_iff.1 hq).1
        rw [hn1] at this
        omega
      subst hje
      have hqe : p = q := by simpa using hq
      subst hqe
      refine ⟨hp1, hsi, fun d hd => ⟨(hso d hd).2.2, fun hp => by have := hPlt d hp; have := (hso d hd).1; omega, fun hz => ?_, by have := (hso d hd).1; omega⟩⟩
      rcases hz with e | e | e
      · have := (hso d hd).1; omega
      · have := (hso d hd).1; omega
      · exact (hso d hd).2.1 e
  · refine (h.2.2.2.2.2.2.trans ht2 (fun i hi hp => ?_)).trans ht3 (fun i hi hz => ?_)
    · rcases h.2.2.2.1 i hp with h1 | h1
      · exact Or.inr (Or.inr h1)
      · omega
    · rcases hz with e | e | e
      · exact Or.inl e
      · exact Or.inr (Or.inl e)
      · have := (h.1.2.2.1.form i e).1; omega
set_option maxRecDepth 100000 in
set_option maxHeartbeats 8000000 in
theorem run_do (w : World) (P0 : Nat → Prop) (g gc gp : Nat) (L : List KOp) (lv : Value) (m : Int) (h : RunAt w P0 g gc gp L lv w [] (.slice none 0 0) P0) (hl : ∀ i, P0 i → i < w.heap.size) (hlv : ∀ d, lv.ownBlock = some d → ¬ P0 d) (hLl : L.length ≤ 20) (hok : ∀ x ∈ L, Op9Ok x) :
    Calls Try.prog 16 #[ptr gp, .func (.func 17) #[ptr g] #[], .int .i64 m] w fun e w' => ∃ T tv P, e = .returned (.bool (!decide (T.length < L.length))) ∧ RunAt w P0 g gc gp L lv w' T tv P ∧ T.length = min L.length m.toNat := by
  have q := eqFN
  have H0 := Lib.hid (And.intro h (And.intro hl (And.intro hlv hok)))
  clear h hl hlv hok
  go_enter Try.func16, Try.ntmps16
  go_wp2_with fail
  go_loopw [12] (fun j wr => ∃ (T : List TEnt) (tv : Value) (P : Nat → Prop), j = .int .i64 T.length ∧ T.length ≤ L.length ∧ (T.length = 0 ∨ (T.length : Int) ≤ m) ∧ Hid (RunAt w P0 g gc gp L lv wr T tv P)) (fun j _ => L.length + 1 - (intOf j).toNat)
  case atStart => exact ⟨[], _, _, rfl, Nat.zero_le _, Or.inl rfl, Lib.hid H0.out.1⟩
  case round =>
    obtain ⟨T, tv, P, rfl, hTL, hTm, HI⟩ := hrel
    by_cases hm : (T.length : Int) < m
    · have d1 : decide ((T.length : Int) < m) = true := by simpa using hm
      by_cases htl : T.length < L.length
      · have hop := HI.out.2.1
        rw [decide_eq_true htl] at hop
        have HOP := Lib.hid hop
        have hxm : nextO L T.length = L.getD T.length opZ := by unfold nextO; rw [if_pos htl]
        have hxo : Op9Ok (nextO L T.length) := by rw [hxm, List.getD_eq_getElem?_getD, List.getElem?_eq_getElem htl]; exact H0.out.2.2.2 _ (List.getElem_mem htl)
        have HX := Lib.hid (And.intro hxm hxo)
        have HTL := Lib.hid (And.intro htl (And.intro hm hTL))
        clear hop hxm hxo htl hm hTL hTm
        generalize hxn : nextO L T.length = x at HOP HX
        have HXN := Lib.hid hxn
        clear hxn
        go_upto_region 4 with (go_at_call 9; refine (opP_any gp x true _ _ wr HOP.out).mono ?_; rintro e w1 ⟨rfl, hb1⟩)
        have hb2 := bel hb1 (belNew w1 (opO x))
        have hx2 := heap_alloc_new w1 (opO x)
        obtain ⟨bx, hbx⟩ : ∃ bx, bx = w1.heap.size := ⟨_, rfl⟩
        rw [← hbx] at hx2 ⊢
        generalize w1.alloc (opO x) = w2 at *
        have HI2 := Lib.hid (HI.out.below hb2)
        obtain ⟨k0, k1, k2, k3, k4, k5⟩ := opcells hx2
        clear hb1 hb2 hx2 hbx HI HOP
        go_upto_region 5 with fail
        have hinv := stK_inv L T.length
        have htl := HTL.out.1
        have HDO := Lib.hid (do_any g P (stK L T.length) x w2 HI2.out.2.2.1 HX.out.2.1 HX.out.2.2.2 hinv.1 (by have := hinv.2.2.2.1; omega) (by have := hinv.2.1; have := hinv.2.2.1; omega))
        have hsucc := stK_succ htl
        have HRS : Hid ((doK (stK L T.length) x).1 = rsK L T.length ∧ (doK (stK L T.length) x).2 = stK L (T.length + 1) ∧ (rsK L T.length).its.length ≤ 1000000) := Lib.hid ⟨by rw [HX.out.1]; rfl, by rw [HX.out.1]; exact hsucc.symm, by have h1 : (rsK L T.length).its.length ≤ (stK L T.length).L.length := doK_its; have := hinv.2.2.2.1; omega⟩
        rw [HRS.out.1, HRS.out.2.1] at HDO
        have hnf : nextF gc L T.length = hearF gc := by unfold nextF; rw [if_pos htl]
        have hp2 := HI2.out.2.1
        rw [decide_eq_true htl, hnf] at hp2
        have HP2 := Lib.hid hp2
        generalize hr : rsK L T.length = r at HDO HRS
        have HR := Lib.hid hr
        clear hinv htl hsucc hnf hp2 hr
        go_upto_region 6 with (first
          | (go_at_call 17; refine HDO.out.mono ?_; rintro e w3 ⟨v3, rfl, hrow3, P3, hk3, hP3, hnp3, ht3⟩; obtain ⟨ao3, n3, c3, rfl⟩ := rowI_slice hrow3; have HD3 := Lib.hid (And.intro hrow3 (And.intro hk3 (And.intro hP3 (And.intro hnp3 ht3)))); have HF3 := Lib.hid (feedH_any w.heap.size gc gp lv tv L T T.length r (.slice ao3 n3 c3) w3 (HI2.out.1.keep ht3 (fun hp => HI2.out.2.2.2.2.1 gc hp (Or.inr (Or.inl rfl))) (fun d hd hp => (HI2.out.2.2.2.1 d hp).elim (H0.out.2.2.1 d hd) (fun hw => by have := (HI2.out.1.2.2.2.2.2.2.1 d hd).2.2; omega)) (fun d hd hp => HI2.out.2.2.2.2.1 d hp (Or.inr (Or.inr hd)))) (HP2.out.keep (ht3.2.2.2.2 gp (heap_lt HP2.out) (fun hp => HI2.out.2.2.2.2.1 gp hp (Or.inl rfl)))) (by omega) (by have := HTL.out; omega) (RowE.sees hrow3) HRS.out.2.2 (fun d hd e => by have h1 := (World.ownsRow.lt hrow3 d hd).1; have h2 := heap_lt HP2.out; omega) (by have := HTL.out; omega)); clear hrow3 hk3 hP3 hnp3 ht3)
          | (go_at_call 12; refine HF3.out.mono ?_; rintro e w4 ⟨rfl, p4, tv4, hp4e, hcr4, hp4, hs4, ho4, ht4, htv4⟩))
        have hstep := HI2.out.step HTL.out.1 H0.out.2.1 HD3.out.2.2.1 HD3.out.2.1 HD3.out.2.2.2.2 hcr4 hp4 (by rw [hp4e, HR.out]) (by rw [HR.out]; exact hs4) ho4 ht4 htv4
        have HS := Lib.hid hstep
        clear hstep hp4e hcr4 hp4 hs4 ho4 ht4 htv4 HD3 HF3 HDO k0 k1 k2 k3 k4 k5
        have e1 : IntKind.i64.wrap ((T.length : Int) + 1) = (T.length : Int) + 1 := IntWalk.i64_in _ (by have := HTL.out; omega)
        go_wp2_with fail
        go_roundw
        case rel => exact ⟨T ++ [p4], tv4, P3, by simp, by have := HTL.out; simp; omega, Or.inr (by have := HTL.out; simp; omega), Lib.hid HS.out⟩
        case measure =>
          have := HTL.out
          simp only [intOf]
          omega
      · have hop := HI.out.2.1
        rw [decide_eq_false htl] at hop
        have HOP := Lib.hid hop
        have HTL := Lib.hid (And.intro htl (And.intro hm hTL))
        clear hop htl hm hTL hTm
        go_upto_region 4 with (go_at_call 9; refine (opP_any gp _ false _ _ wr HOP.out).mono ?_; rintro e w1 ⟨rfl, hb1⟩)
        have hb2 := bel hb1 (belNew w1 (opO (nextO L T.length)))
        generalize w1.alloc (opO (nextO L T.length)) = w2 at *
        have HI2 := Lib.hid (HI.out.below hb2)
        have HOP2 := Lib.hid (HOP.out.below hb2)
        clear hb1 hb2 HI HOP
        go_upto_region 7 with fail
        go_upto_region 8 with (go_at_call 9; refine (opP_any gp _ false _ _ w2 HOP2.out).mono ?_; rintro e w3 ⟨rfl, hb3⟩)
        have hb4 := bel hb3 (belNew w3 (opO (nextO L T.length)))
        generalize w3.alloc (opO (nextO L T.length)) = w4 at *
        go_wp2_with fail
        go_ret
        refine ⟨T, tv, P, ?_, HI2.out.below hb4, by have := HTL.out; omega⟩
        rw [decide_eq_false HTL.out.1]
        rfl
    · have d1 : decide ((T.length : Int) < m) = false := by simpa using hm
      have HTL := Lib.hid (And.intro hm (And.intro hTL hTm))
      clear hm hTL hTm
      go_upto_region 7 with fail
      go_upto_region 8 with (go_at_call 9; refine (opP_any gp _ _ _ _ wr HI.out.2.1).mono ?_; rintro e w3 ⟨rfl, hb3⟩)
      have hb4 := bel hb3 (belNew w3 (opO (nextO L T.length)))
      generalize w3.alloc (opO (nextO L T.length)) = w4 at *
      go_wp2_with fail
      go_ret
      exact ⟨T, tv, P, rfl, HI.out.below hb4, by have := HTL.out; omega⟩
end Go.Proofs.Ytholgmcfgnifdaa
