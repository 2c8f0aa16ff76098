/- The walk of MachRuns. Made by g_mp.py. -/
import Derived.Test.YtholgmcfgnifdaaMn
import Derived.Deep.DeepCutAuto
namespace Go.Proofs.Ytholgmcfgnifdaa
open Go.RowKit Go.Maps
theorem rowEk {E : TypeId} {w w' : World} {B : Nat} {v : Value} {L : List KEnt} (h : RowE E w B v L) (hk : ∀ d, v.ownBlock = some d → d < w.heap.size → w'.heap[d]? = w.heap[d]?) : RowE E w' B v L := RowG.keep (enc := encI) h hk
/-- What the run left, while the law goes on. -/
def Left (w : World) (B gc gp gr g : Nat) (L : List KOp) (lv wv tv : Value) (T : List TEnt) (P : Nat → Prop) (w0 : World) : Prop :=
  ChR w B gc gp L lv T tv ∧ KvAt w g P (stK L T.length) ∧ TOK w B L gc gp tv P T ∧ SeesO w wv L ∧ Below w0.heap.size w0 w ∧ ¬ P gr ∧ gr < B ∧ gr ≠ gc ∧ gr ≠ gp ∧ (∀ d, wv.ownBlock = some d → d ≠ gr) ∧ (∀ d, lv.ownBlock = some d → d ≠ gr) ∧ w0.heap.size ≤ gr
theorem Left.touch {w w' : World} {B gc gp gr g : Nat} {L : List KOp} {lv wv tv : Value} {T : List TEnt} {P : Nat → Prop} {w0 : World} (h : Left w B gc gp gr g L lv wv tv T P w0) (ht : Touch (· = gr) w w') : Left w' B gc gp gr g L lv wv tv T P w0 := by
  obtain ⟨h1, h2, h3, h4, h5, h6, h7, h8, h9, h10, h11, h12⟩ := h
  refine ⟨h1.keep ht (fun e => h8 e.symm) (fun d hd e => h11 d hd e) (fun d hd e => by have := (h1.2.2.1.form d hd).1; omega), h2.keep ht (fun i hi e => h6 (e ▸ hi)), fun j p hp => ?_, h4.keep (fun d hd hlt => ht.2.2.2.2 d hlt (h10 d hd)), h5.trans (ht.below h5.size (fun i e => by omega)), h6, h7, h8, h9, h10, h11, h12⟩
  obtain ⟨q1, q2, q3⟩ := h3 j p hp
  exact ⟨q1, q2.keep (fun d hd hlt => ht.2.2.2.2 d hlt (fun e => by have := (q3 d hd).2.2.2; omega)), fun d hd => ⟨Nat.lt_of_lt_of_le (q3 d hd).1 ht.2.2.2.1, (q3 d hd).2⟩⟩
theorem Left.below {w w' : World} {B gc gp gr g : Nat} {L : List KOp} {lv wv tv : Value} {T : List TEnt} {P : Nat → Prop} {w0 : World} (h : Left w B gc gp gr g L lv wv tv T P w0) (hb : Below w.heap.size w w') : Left w' B gc gp gr g L lv wv tv T P w0 := h.touch (Touch.of_below _ hb)
set_option maxRecDepth 100000 in
set_option maxHeartbeats 16000000 in
theorem lawMachRuns (w : World) (v : Value) (os : List KOp) (m : Int) (h : ArgOps9 w v os) (hm1 : -9223372036854775808 ≤ m) (hm2 : m ≤ 9223372036854775807) : Calls Try.prog 4 #[v, .int .i64 m] w fun e w' => e = .returned (.bool true) ∧ Below w.heap.size w w' := by
  have HO := Lib.hid (ours19_any w v os h)
  have HOK : Hid (∀ x ∈ oursL os, Op9Ok x) := Lib.hid (fun x hx => by
    unfold oursL at hx
    obtain ⟨y, hy, rfl⟩ := List.mem_map.1 hx
    exact ours_ok (h.2.1 y (List.mem_of_mem_take hy)))
  have hLl := oursL_len os
  generalize oursL os = L at HO HOK hLl
  clear h hm1 hm2
  go_enter Try.func4, Try.ntmps4
  go_upto_region 2 with (go_at_call 6; refine HO.out.mono ?_; rintro e w1 ⟨ov, wv, rfl, hro, hrw, hb1⟩)
  have HR := Lib.hid (And.intro hro (And.intro hrw hb1))
  obtain ⟨oo, oc, rfl⟩ := hro.slice
  obtain ⟨wo, wq, rfl⟩ := hrw.slice
  clear hro hrw hb1 HO
  generalize hLn : L.length = nL at HR
  have HLn := Lib.hid hLn
  clear hLn
  go_upto_region 3 with (go_at_call 7; refine (newP_any w1).mono ?_; rintro e w2 ⟨rfl, hp2, hb2⟩)
  have hb3 := belNew w2 (chainO w1.heap.size (.slice oo nL oc) (.slice none 0 0))
  have hx3 := heap_alloc_new w2 (chainO w1.heap.size (.slice oo nL oc) (.slice none 0 0))
  obtain ⟨gp, hgp⟩ : ∃ gp, gp = w1.heap.size := ⟨_, rfl⟩
  obtain ⟨gc, hgc⟩ : ∃ gc, gc = w2.heap.size := ⟨_, rfl⟩
  have hgpc : gp < gc := by have := heap_lt hp2; omega
  have hz3 : (w2.alloc (chainO w1.heap.size (.slice oo nL oc) (.slice none 0 0))).heap.size = w2.heap.size + 1 := by simp
  change Code.wp _ _ _ _ (w2.alloc (chainO w1.heap.size (.slice oo nL oc) (.slice none 0 0)))
  rw [← hgp] at hp2 hx3 hb3 hz3 ⊢
  rw [← hgc] at hx3 hz3 ⊢
  generalize w2.alloc (chainO gp (.slice oo nL oc) (.slice none 0 0)) = w3 at *
  have hbb : Below w1.heap.size w1 w3 := bel hb2 hb3
  have hcr : ChR w3 (gc + 1) gc gp L (.slice oo nL oc) [] (.slice none 0 0) :=
    ⟨hx3, (HR.out.1.sees encO_len).below hbb, RowG.nil _ _ _ _ _, by omega, by omega, by omega, fun d hd => by (have := (HR.out.1.form d hd).2; omega), by omega⟩
  have HG : Hid (gp < gc ∧ w.heap.size ≤ gp ∧ (∀ d, (Value.slice wo nL wq).ownBlock = some d → d < gp) ∧ (∀ d, (Value.slice oo nL oc).ownBlock = some d → d < gp)) := Lib.hid ⟨hgpc, by have := HR.out.2.2.size; omega, fun d hd => by have := (HR.out.2.1.form d hd).2; omega, fun d hd => by have := (HR.out.1.form d hd).2; omega⟩
  have HA := Lib.hid (And.intro hcr (And.intro (hp2.below hb3) (And.intro ((HR.out.2.1.sees encO_len).below hbb) (HR.out.2.2.trans (hbb.mono HR.out.2.2.size)))))
  clear hgp hgc hgpc hz3 hbb hcr hb2 hb3 hx3 hp2 HR
  go_upto_region 4 with (go_at_call 8; refine (next_any (gc + 1) gc gp _ _ L [] 0 w3 HA.out.1 HA.out.2.1 (by omega)).mono ?_; rintro e w4 ⟨rfl, hp4, ht4⟩)
  have hcr4 := HA.out.1.proc ht4
  have hsw4 : SeesO w4 (.slice wo nL wq) L := HA.out.2.2.1.keep (fun d hd hlt => ht4.2.2.2.2 d hlt (by have := HG.out.2.2.1 d hd; omega))
  have hbw4 : Below w.heap.size w w4 := HA.out.2.2.2.trans (ht4.below HA.out.2.2.2.size (fun i e => by have := HG.out; omega))
  have H4 := Lib.hid (And.intro hcr4 (And.intro hp4 (And.intro hsw4 hbw4)))
  clear hcr4 hp4 hsw4 hbw4 ht4 HA
  go_upto_region 5 with (go_at_call 15; refine (new_kv w4).mono ?_; rintro e w5 ⟨g, rfl, hk5, hg5, hb5⟩)
  have hb6 := belNew w5 (stO 0 (.slice none 0 0))
  have hx6 := heap_alloc_new w5 (stO 0 (.slice none 0 0))
  have hz6 : (w5.alloc (stO 0 (.slice none 0 0))).heap.size = w5.heap.size + 1 := by simp
  obtain ⟨gr, hgr⟩ : ∃ gr, gr = w5.heap.size := ⟨_, rfl⟩
  change Code.wp _ _ _ _ (w5.alloc (stO 0 (.slice none 0 0)))
  rw [← hgr] at hx6 hz6 ⊢
  generalize w5.alloc (stO 0 (.slice none 0 0)) = w6 at *
  have hb46 := bel hb5 hb6
  have hglt := hk5.lt
  have hord : gp < gc ∧ gc < g ∧ g < gr ∧ w6.heap.size = gr + 1 := by
    have h1 := H4.out.1.2.2.2.2.2.2.2
    have h2 := HG.out.1
    omega
  have hc6 := H4.out.1.below hb46
  have hrun : RunAt w6 (· = g) g gc gp L (.slice oo nL oc) w6 [] (.slice none 0 0) (· = g) := by
    obtain ⟨a1, a2, -, a4, a5, a6, a7, a8⟩ := hc6
    refine ⟨⟨a1, a2, RowG.nil _ _ _ _ _, a4, by omega, by omega, fun d hd => ⟨(a7 d hd).1, (a7 d hd).2.1, by have := (a7 d hd).2.2; omega⟩, Nat.le_refl _⟩, H4.out.2.1.below hb46, by (show KvAt w6 g (· = g) (stK L 0)); rw [stK_zero]; exact hk5.below hb6, fun i hi => Or.inl hi, ?_, fun j p hp => by simp at hp, Touch.refl _ _⟩
    intro i hi hz
    rcases hz with e | e | e
    · omega
    · omega
    · cases e
  have HRD := Lib.hid (run_do w6 (· = g) g gc gp L (.slice oo nL oc) m hrun (fun i e => by omega) (fun d hd e => by have := HG.out.2.2.2 d hd; omega) hLl HOK.out)
  have hx6' : w6.heap[gr]? = some (stO 0 (.slice none 0 0)) := hx6
  obtain ⟨c0, c1, c2⟩ := chcells hrun.1.1
  have H6 := Lib.hid (And.intro hord (And.intro hx6' (And.intro (H4.out.2.2.1.below hb46) (H4.out.2.2.2.trans (hb46.mono H4.out.2.2.2.size)))))
  clear hb46 hglt hord hc6 hrun hx6 hx6' hz6 hb6 hb5 hk5 hg5 hgr H4
  go_upto_region 6 with (go_at_call 16; refine HRD.out.mono ?_; rintro e w7 ⟨T, tv, P, rfl, hra, hTl⟩)
  obtain ⟨to8, tc8, rfl⟩ := hra.1.2.2.1.slice
  have ho := H6.out.1
  have hg0 := HG.out
  have htr := hra.2.2.2.2.2.2
  have hP : ¬ P gr := fun hp => by
    rcases hra.2.2.2.1 gr hp with e | e
    · omega
    · omega
  have hx7 := (htr.2.2.2.2 gr (by omega) (fun hz => by rcases hz with e | e | e <;> omega)).trans H6.out.2.1
  have hleft : Left w7 w6.heap.size gc gp gr g L (.slice oo nL oc) (.slice wo nL wq) (.slice to8 T.length tc8) T P w :=
    ⟨hra.1, hra.2.2.1, hra.2.2.2.2.2.1, H6.out.2.2.1.keep (fun d hd hlt => htr.2.2.2.2 d hlt (fun hz => by have := hg0.2.2.1 d hd; rcases hz with e | e | e <;> omega)), H6.out.2.2.2.trans (htr.below H6.out.2.2.2.size (fun i hz => by rcases hz with e | e | e <;> omega)), hP, by omega, by omega, by omega, fun d hd e => by have := hg0.2.2.1 d hd; omega, fun d hd e => by have := hg0.2.2.2 d hd; omega, by omega⟩
  have hdoc : DocAt w7 gr P (stK L 0) (.slice none 0 0) := by rw [stK_zero]; exact DocAt.start hP hx7
  have HL := Lib.hid (And.intro hleft (And.intro hdoc hTl))
  clear ho hg0 htr hP hx7 hleft hdoc hTl hra HRD H6 HG c0 c1 c2
  go_upto_region 7 with fail
  go_loopw [11] (fun j wr => ∃ (i : Nat) (vr : Value), i ≤ T.length ∧ j = .int .i64 i ∧ Hid (Left wr w6.heap.size gc gp gr g L (.slice oo nL oc) (.slice wo nL wq) (.slice to8 T.length tc8) T P w ∧ DocAt wr gr P (stK L i) vr)) (fun j _ => T.length - (intOf j).toNat)
  case atStart => exact ⟨0, _, Nat.zero_le _, rfl, Lib.hid ⟨HL.out.1, HL.out.2.1⟩⟩
  case round =>
    obtain ⟨i, vr, hi, rfl, HI⟩ := hrel
    have HTl := Lib.hid HL.out.2.2
    clear HL
    by_cases hlt : i < T.length
    · have hTL := HTl.out
      have hn0 := HLn.out
      have d1 : decide ((i : Int) < (nL : Int)) = true := by simp; omega
      have d2 : decide ((i : Int) < m) = true := by simp; omega
      have p1 : (i : Int) < (nL : Int) := by omega
      have p2 : (i : Int) < m := by omega
      have hiL : i < L.length := by omega
      have hx : L[i]? = some (L.getD i opZ) := by rw [List.getD_eq_getElem?_getD, List.getElem?_eq_getElem hiL]; rfl
      have hinv := stK_inv L i
      have hsuc := stK_succ hiL
      have hri : rsK L i = (doK (stK L i) (L.getD i opZ)).1 := rfl
      have HXM : Hid (L.getD i opZ ∈ L) := Lib.hid (by rw [List.getD_eq_getElem?_getD, List.getElem?_eq_getElem hiL]; exact List.getElem_mem hiL)
      have HI20 : Hid (i ≤ 20) := Lib.hid (by omega)
      generalize L.getD i opZ = x at hx hsuc hri HXM
      obtain ⟨b, e0, -, q0, q1, q2, q3, q4, q5⟩ := opAt HI.out.1.2.2.2.1 hx
      subst e0
      have q1 := off1 q1
      have q2 := off2 q2
      have q3 := off3 q3
      have q4 := off4 q4
      have q5 := off5 q5
      have b0 : (0 : Int) ≤ (i : Int) := by omega
      have x0 := cell0 HI.out.2.2.1
      have x1 := cell1 HI.out.2.2.1
      have HXO := Lib.hid (HOK.out x HXM.out)
      have HDO : Hid (∀ w', SeesI w' vr (stK L i).L → Calls Try.prog 18 #[stV (stK L i).rev vr, opV x] w' fun e w'' => ∃ vs vi, e = .returned (.tuple #[stV (stK L (i + 1)).rev vs, kres (rsK L i) vi]) ∧ SeesI w'' vs (stK L (i + 1)).L ∧ (∀ d, vs.ownBlock = some d → vr.ownBlock = some d ∨ w'.heap.size ≤ d ∧ d < w''.heap.size) ∧ RowR w'' w'.heap.size vi (rsK L i).its ∧ Below w'.heap.size w' w'') := Lib.hid (fun w' h => by
        have h2 := refDo_any vr (stK L i).L (stK L i).rev x w' h hinv.1 (by have := hinv.2.2.2.1; have := HI20.out; omega) HXO.out (by have := hinv.2.1; have := hinv.2.2.1; have := HI20.out; omega)
        rw [hsuc, hri]
        exact h2)
      have HIT : Hid ((rsK L i).its.length ≤ maxLen) := Lib.hid (by rw [hri]; have h1 := doK_its (S := stK L i) (o := x); have h2 := hinv.2.2.2.1; have := HI20.out; unfold maxLen; omega)
      have HLT := Lib.hid hlt
      obtain ⟨va, vc, hve⟩ : ∃ ao c, vr = .slice ao (stK L i).L.length c := by obtain ⟨ao, c, e, -⟩ := HI.out.2.2.2.1; exact ⟨ao, c, e⟩
      have HRI := Lib.hid hri
      generalize hS2 : stK L (i + 1) = S2 at HDO
      have HS2 := Lib.hid hS2
      generalize hrr : rsK L i = r at HDO HIT
      have HRR := Lib.hid hrr
      have HVS := Lib.hid HI.out.2.2.2.1
      generalize (stK L i).L.length = vn at hve
      have HS0 := Lib.hid (And.intro HI.out.1 HI.out.2)
      generalize stK L i = S0 at *
      obtain ⟨R0, L0⟩ := S0
      obtain ⟨R2, L2⟩ := S2
      obtain ⟨rc, rr, rv, ri⟩ := r
      simp only [] at HDO HIT HVS x0 x1
      subst hve
      have HVB : Hid (∀ d, (Value.slice va vn vc).ownBlock = some d → d < wr.heap.size) := Lib.hid (fun d hd => (HS0.out.2.2.2.2 d hd).2.2)
      clear hlt hTL hn0 hx hinv hsuc hri hiL hS2 hrr HI
      go_upto_region 8 with fail
      go_cut [12, 13] (fun s12 s13 wx => ∃ (p q : Nat) (vs vi : Value), s12 = ptr p ∧ s13 = ptr q ∧ Hid (Below wr.heap.size wr wx ∧ wr.heap.size ≤ p ∧ wr.heap.size ≤ q ∧ wx.heap[p]? = some (stO R2 vs) ∧ wx.heap[q]? = some (resR rc rr rv vi) ∧ SeesI wx vs L2 ∧ (∀ d, vs.ownBlock = some d → (Value.slice va vn vc).ownBlock = some d ∨ wr.heap.size ≤ d ∧ d < wx.heap.size) ∧ RowR wx wr.heap.size vi ri))
      case first =>
        refine wp_region_held_drew (S := (fun X => Below wr.heap.size wr X)) (by kernel_rfl) ?_ (fun b0 => ?_)
        · exact ⟨rfl, rfl, rfl, Nat.le_refl _, fun _ _ => rfl⟩
        obtain ⟨u0, hu0⟩ : ∃ u0, u0 = wr.drew := ⟨_, rfl⟩
        rw [← hu0] at b0 ⊢
        clear hu0
        have HB0 := Lib.hid b0.size
        refine wpAnyH_take (i := 0) (v := ?_) rfl (by kernel_rfl) (by kernel_rfl) (by kernel_rfl) (fun _ _ _ h => h) (Or.inl ⟨by rfl, ?_⟩) (by assumption) ?_
        rotate_left
        · intro wS hSw
          (try dsimp only at hSw)
          have x0 := bcell hSw x0
          have x1 := bcell hSw x1
          go_simp
          first | done | with_reducible rfl
        try simp only [Act.put, List.getElem_toArray, List.getElem_cons_succ, List.getElem_cons_zero, List.setIfInBounds_toArray, List.set_cons_zero, List.set_cons_succ]
        refine wpAnyH_take (i := 1) (v := ?_) rfl (by kernel_rfl) (by kernel_rfl) (by kernel_rfl) (fun _ _ _ h => h) (Or.inl ⟨by rfl, ?_⟩) (by assumption) ?_
        rotate_left
        · intro wS hSw
          (try dsimp only at hSw)
          go_simp
          first | done | with_reducible rfl
        try simp only [Act.put, List.getElem_toArray, List.getElem_cons_succ, List.getElem_cons_zero, List.setIfInBounds_toArray, List.set_cons_zero, List.set_cons_succ]
        refine wpAnyH_take (i := 2) (v := ?_) rfl (by kernel_rfl) (by kernel_rfl) (by kernel_rfl) (fun _ _ _ h => h) (Or.inl ⟨by rfl, ?_⟩) (by assumption) ?_
        rotate_left
        · intro wS hSw
          (try dsimp only at hSw)
          go_simp
          first | done | with_reducible rfl
        try simp only [Act.put, List.getElem_toArray, List.getElem_cons_succ, List.getElem_cons_zero, List.setIfInBounds_toArray, List.set_cons_zero, List.set_cons_succ]
        refine wpAnyH_take (i := 3) (v := ?_) rfl (by kernel_rfl) (by kernel_rfl) (by kernel_rfl) (fun _ _ _ h => h) (Or.inl ⟨by rfl, ?_⟩) (by assumption) ?_
        rotate_left
        · intro wS hSw
          (try dsimp only at hSw)
          go_simp
          first | done | with_reducible rfl
        try simp only [Act.put, List.getElem_toArray, List.getElem_cons_succ, List.getElem_cons_zero, List.setIfInBounds_toArray, List.set_cons_zero, List.set_cons_succ]
        refine wpAnyH_take (i := 4) (v := ?_) rfl (by kernel_rfl) (by kernel_rfl) (by kernel_rfl) (fun _ _ _ h => h) (Or.inl ⟨by rfl, ?_⟩) (by assumption) ?_
        rotate_left
        · intro wS hSw
          (try dsimp only at hSw)
          have q0 := bcell hSw q0
          have q1 := bcell hSw q1
          have q2 := bcell hSw q2
          have q3 := bcell hSw q3
          have q4 := bcell hSw q4
          have q5 := bcell hSw q5
          go_simp
          first | done | with_reducible rfl
        try simp only [Act.put, List.getElem_toArray, List.getElem_cons_succ, List.getElem_cons_zero, List.setIfInBounds_toArray, List.set_cons_zero, List.set_cons_succ]
        clear x0 x1 q0 q1 q2 q3 q4 q5
        refine wpAnyH_ready (rs := [5, 9, 10]) (by kernel_rfl) (by simp) ?_
        refine AllReadyH.cons rfl (fun K hK => ?_) (AllReadyH.cons rfl (fun K hK => ?_) (AllReadyH.cons rfl (fun K hK => ?_) AllReadyH.nil))
        · go_simp
          refine (HDO.out u0 (HVS.out.below b0)).mono ?_; rintro y u1 ⟨vs, vi, rfl, hs1, ho1, hr1, bk1⟩
          obtain ⟨sa, sc, hse, -⟩ := id hs1
          subst hse
          obtain ⟨ra, rn, rc2, rfl⟩ := row_slice hr1
          have NC := Lib.hid (And.intro ho1 (And.intro (fun d hd => World.ownsRow.lt hr1 d hd) (And.intro bk1.size b0.size)))
          have b1 := bel b0 bk1
          refine hK.out _ _ ?_ (fun _ => ?_)
          · exact b1
          try simp only [Act.put, List.getElem_toArray, List.getElem_cons_succ, List.getElem_cons_zero, List.setIfInBounds_toArray, List.set_cons_zero, List.set_cons_succ]
          clear bk1 ho1
          refine wpAnyH_take (i := 6) (v := ?_) rfl (by kernel_rfl) (by kernel_rfl) (by kernel_rfl) (fun _ _ _ h => h) (Or.inl ⟨by rfl, ?_⟩) (by assumption) ?_
          rotate_left
          · intro wS hSw
            (try dsimp only at hSw)
            go_simp
            first | done | with_reducible rfl
          try simp only [Act.put, List.getElem_toArray, List.getElem_cons_succ, List.getElem_cons_zero, List.setIfInBounds_toArray, List.set_cons_zero, List.set_cons_succ]
          refine wpAnyH_take (i := 7) (v := ?_) rfl (by kernel_rfl) (by kernel_rfl) (by kernel_rfl) (fun _ _ _ h => h) (Or.inl ⟨by rfl, ?_⟩) (by assumption) ?_
          rotate_left
          · intro wS hSw
            (try dsimp only at hSw)
            go_simp
            first | done | with_reducible rfl
          try simp only [Act.put, List.getElem_toArray, List.getElem_cons_succ, List.getElem_cons_zero, List.setIfInBounds_toArray, List.set_cons_zero, List.set_cons_succ]
          refine wpAnyH_take (i := 8) (v := ?_) rfl (by kernel_rfl) (by kernel_rfl) (by kernel_rfl) (fun _ _ _ h => h) (Or.inl ⟨by rfl, ?_⟩) (by assumption) ?_
          rotate_left
          · intro wS hSw
            (try dsimp only at hSw)
            go_simp
            first | done | with_reducible rfl
          try simp only [Act.put, List.getElem_toArray, List.getElem_cons_succ, List.getElem_cons_zero, List.setIfInBounds_toArray, List.set_cons_zero, List.set_cons_succ]
          refine wpAnyH_ready (rs := [9, 10]) (by kernel_rfl) (by simp) ?_
          refine AllReadyH.cons rfl (fun K hK => ?_) (AllReadyH.cons rfl (fun K hK => ?_) AllReadyH.nil)
          · go_simp
            have bk2 := belNew u1 (stO 0 (.slice none 0 0))
            have hk2 := heap_alloc_new u1 (stO 0 (.slice none 0 0))
            have zk2 : (u1.alloc (stO 0 (.slice none 0 0))).heap.size = u1.heap.size + 1 := by simp
            change K _ (u1.alloc (stO 0 (.slice none 0 0)))
            generalize u1.alloc (stO 0 (.slice none 0 0)) = u2 at *
            obtain ⟨gP, hgP⟩ : ∃ p, p = u1.heap.size := ⟨_, rfl⟩
            rw [← hgP] at hk2 ⊢
            have NP := Lib.hid (And.intro hgP zk2)
            clear hgP zk2
            have fS2 := hs1.below bk2
            have fR2 := row_keep hr1 bk2
            have b2 := bel b1 bk2
            refine hK.out _ _ ?_ (fun _ => ?_)
            · exact b2
            try simp only [Act.put, List.getElem_toArray, List.getElem_cons_succ, List.getElem_cons_zero, List.setIfInBounds_toArray, List.set_cons_zero, List.set_cons_succ]
            clear bk2
            refine wpAnyH_ready (rs := [10]) (by kernel_rfl) (by simp) ?_
            refine AllReadyH.cons rfl (fun K hK => ?_) AllReadyH.nil
            go_simp
            have bk3 := belNew u2 (resR 0 0 emp (.slice none 0 0))
            have hk3 := heap_alloc_new u2 (resR 0 0 emp (.slice none 0 0))
            have zk3 : (u2.alloc (resR 0 0 emp (.slice none 0 0))).heap.size = u2.heap.size + 1 := by simp
            change K _ (u2.alloc (resR 0 0 emp (.slice none 0 0)))
            generalize u2.alloc (resR 0 0 emp (.slice none 0 0)) = u3 at *
            obtain ⟨gQ, hgQ⟩ : ∃ p, p = u2.heap.size := ⟨_, rfl⟩
            rw [← hgQ] at hk3 ⊢
            have NQ := Lib.hid (And.intro hgQ zk3)
            clear hgQ zk3
            have fP3 := (bk3.block _ (heap_lt hk2)).trans hk2
            have fS3 := fS2.below bk3
            have fR3 := row_keep fR2 bk3
            have b3 := bel b2 bk3
            refine hK.out _ _ ?_ (fun _ => ?_)
            · exact b3
            try simp only [Act.put, List.getElem_toArray, List.getElem_cons_succ, List.getElem_cons_zero, List.setIfInBounds_toArray, List.set_cons_zero, List.set_cons_succ]
            clear bk3
            refine wpAnyH_ready (rs := [11]) (by kernel_rfl) (by simp) ?_
            refine AllReadyH.cons rfl (fun K hK => ?_) AllReadyH.nil
            have nsX : ∀ d, (Value.slice sa L2.length sc).ownBlock = some d → d ≠ gP := fun d hd e => by
              have w0 := HB0.out
              have w1 := NC.out
              have w2 := NP.out
              have w3 := NQ.out
              rcases NC.out.1 d hd with h | h
              · have h5 := HVB.out d h; omega
              · omega
            have nrX : ∀ d, (Value.slice ra rn rc2).ownBlock = some d → d ≠ gP := fun d hd e => by
              have w0 := HB0.out
              have w1 := NC.out
              have w2 := NP.out
              have w3 := NQ.out
              have h := NC.out.2.1 d hd
              omega
            have nYX : gQ ≠ gP := fun e => by
              have w0 := HB0.out
              have w1 := NC.out
              have w2 := NP.out
              have w3 := NQ.out
              omega
            have nX : wr.heap.size ≤ gP := by
              have w0 := HB0.out
              have w1 := NC.out
              have w2 := NP.out
              have w3 := NQ.out
              omega
            have x0 := cell0 fP3
            have x1 := cell1 fP3
            have y0 := froz fP3 0
            have y1 := froz fP3 1
            go_simp
            change K _ (put2 u3 gP (.int .i64 R2) (.slice sa L2.length sc))
            have hP4 := put2_at fP3 (.int .i64 R2) (.slice sa L2.length sc)
            have hQ4 := (put2_ne (W := u3) nYX (.int .i64 R2) (.slice sa L2.length sc)).trans hk3
            have hS4 : SeesI (put2 u3 gP (.int .i64 R2) (.slice sa L2.length sc)) (.slice sa L2.length sc) L2 := fS3.keep (fun d hd _ => put2_ne (nsX d hd) _ _)
            have hR4 := rowEk (w' := put2 u3 gP (.int .i64 R2) (.slice sa L2.length sc)) fR3 (fun d hd _ => put2_ne (nrX d hd) _ _)
            have b4 := put2_below b3 nX (.int .i64 R2) (.slice sa L2.length sc)
            have zz4 : (put2 u3 gP (.int .i64 R2) (.slice sa L2.length sc)).heap.size = u3.heap.size := by simp [put2, World.setCell]
            generalize put2 u3 gP (.int .i64 R2) (.slice sa L2.length sc) = u4 at *
            have NZ4 := Lib.hid zz4
            clear zz4 nsX nrX nYX x0 x1 y0 y1
            have nP := nX
            clear nX
            refine hK.out _ _ ?_ (fun _ => ?_)
            · exact b4
            try simp only [Act.put, List.getElem_toArray, List.getElem_cons_succ, List.getElem_cons_zero, List.setIfInBounds_toArray, List.set_cons_zero, List.set_cons_succ]
            refine wpAnyH_ready (rs := [12]) (by kernel_rfl) (by simp) ?_
            refine AllReadyH.cons rfl (fun K hK => ?_) AllReadyH.nil
            have nsX : ∀ d, (Value.slice sa L2.length sc).ownBlock = some d → d ≠ gQ := fun d hd e => by
              have w0 := HB0.out
              have w1 := NC.out
              have w2 := NP.out
              have w3 := NQ.out
              have w4 := NZ4.out
              rcases NC.out.1 d hd with h | h
              · have h5 := HVB.out d h; omega
              · omega
            have nrX : ∀ d, (Value.slice ra rn rc2).ownBlock = some d → d ≠ gQ := fun d hd e => by
              have w0 := HB0.out
              have w1 := NC.out
              have w2 := NP.out
              have w3 := NQ.out
              have w4 := NZ4.out
              have h := NC.out.2.1 d hd
              omega
            have nYX : gP ≠ gQ := fun e => by
              have w0 := HB0.out
              have w1 := NC.out
              have w2 := NP.out
              have w3 := NQ.out
              have w4 := NZ4.out
              omega
            have nX : wr.heap.size ≤ gQ := by
              have w0 := HB0.out
              have w1 := NC.out
              have w2 := NP.out
              have w3 := NQ.out
              have w4 := NZ4.out
              omega
            obtain ⟨x0, x1, x2, x3, y0, y1, y2, y3⟩ := four hQ4
            go_simp
            change K _ (put4 u4 gQ (.int .i64 rc) (.int .i64 rr) (.string rv) (.slice ra rn rc2))
            have hQ5 := put4_at hQ4 (.int .i64 rc) (.int .i64 rr) (.string rv) (.slice ra rn rc2)
            have hP5 := (put4_ne (W := u4) nYX (.int .i64 rc) (.int .i64 rr) (.string rv) (.slice ra rn rc2)).trans hP4
            have hS5 : SeesI (put4 u4 gQ (.int .i64 rc) (.int .i64 rr) (.string rv) (.slice ra rn rc2)) (.slice sa L2.length sc) L2 := hS4.keep (fun d hd _ => put4_ne (nsX d hd) _ _ _ _)
            have hR5 := rowEk (w' := put4 u4 gQ (.int .i64 rc) (.int .i64 rr) (.string rv) (.slice ra rn rc2)) hR4 (fun d hd _ => put4_ne (nrX d hd) _ _ _ _)
            have b5 := put4_below b4 nX (.int .i64 rc) (.int .i64 rr) (.string rv) (.slice ra rn rc2)
            have zz5 : (put4 u4 gQ (.int .i64 rc) (.int .i64 rr) (.string rv) (.slice ra rn rc2)).heap.size = u4.heap.size := by simp [put4, World.setCell]
            generalize put4 u4 gQ (.int .i64 rc) (.int .i64 rr) (.string rv) (.slice ra rn rc2) = u5 at *
            have NZ5 := Lib.hid zz5
            clear zz5 nsX nrX nYX x0 x1 x2 x3 y0 y1 y2 y3
            have nQ := nX
            clear nX
            refine hK.out _ _ ?_ (fun _ => ?_)
            · exact b5
            try simp only [Act.put, List.getElem_toArray, List.getElem_cons_succ, List.getElem_cons_zero, List.setIfInBounds_toArray, List.set_cons_zero, List.set_cons_succ]
            refine wpAnyH_done (by kernel_rfl) ?_ _
            (try go_wp2_with fail)
            go_meet
            refine ⟨gP, gQ, _, _, rfl, rfl, Lib.hid ⟨b5, nP, nQ, hP5, hQ5, hS5, fun d hd => ?_, row_leE hR5 NC.out.2.2.2⟩⟩
            have w0 := HB0.out
            have w1 := NC.out
            have w2 := NP.out
            have w3 := NQ.out
            have w4 := NZ4.out
            have w5 := NZ5.out
            rcases NC.out.1 d hd with h | h
            · exact Or.inl h
            · exact Or.inr ⟨by omega, by omega⟩
          · go_simp
            have bk2 := belNew u1 (resR 0 0 emp (.slice none 0 0))
            have hk2 := heap_alloc_new u1 (resR 0 0 emp (.slice none 0 0))
            have zk2 : (u1.alloc (resR 0 0 emp (.slice none 0 0))).heap.size = u1.heap.size + 1 := by simp
            change K _ (u1.alloc (resR 0 0 emp (.slice none 0 0)))
            generalize u1.alloc (resR 0 0 emp (.slice none 0 0)) = u2 at *
            obtain ⟨gQ, hgQ⟩ : ∃ p, p = u1.heap.size := ⟨_, rfl⟩
            rw [← hgQ] at hk2 ⊢
            have NQ := Lib.hid (And.intro hgQ zk2)
            clear hgQ zk2
            have fS2 := hs1.below bk2
            have fR2 := row_keep hr1 bk2
            have b2 := bel b1 bk2
            refine hK.out _ _ ?_ (fun _ => ?_)
            · exact b2
            try simp only [Act.put, List.getElem_toArray, List.getElem_cons_succ, List.getElem_cons_zero, List.setIfInBounds_toArray, List.set_cons_zero, List.set_cons_succ]
            clear bk2
            refine wpAnyH_ready (rs := [9]) (by kernel_rfl) (by simp) ?_
            refine AllReadyH.cons rfl (fun K hK => ?_) AllReadyH.nil
            go_simp
            have bk3 := belNew u2 (stO 0 (.slice none 0 0))
            have hk3 := heap_alloc_new u2 (stO 0 (.slice none 0 0))
            have zk3 : (u2.alloc (stO 0 (.slice none 0 0))).heap.size = u2.heap.size + 1 := by simp
            change K _ (u2.alloc (stO 0 (.slice none 0 0)))
            generalize u2.alloc (stO 0 (.slice none 0 0)) = u3 at *
            obtain ⟨gP, hgP⟩ : ∃ p, p = u2.heap.size := ⟨_, rfl⟩
            rw [← hgP] at hk3 ⊢
            have NP := Lib.hid (And.intro hgP zk3)
            clear hgP zk3
            have fQ3 := (bk3.block _ (heap_lt hk2)).trans hk2
            have fS3 := fS2.below bk3
            have fR3 := row_keep fR2 bk3
            have b3 := bel b2 bk3
            refine hK.out _ _ ?_ (fun _ => ?_)
            · exact b3
            try simp only [Act.put, List.getElem_toArray, List.getElem_cons_succ, List.getElem_cons_zero, List.setIfInBounds_toArray, List.set_cons_zero, List.set_cons_succ]
            clear bk3
            refine wpAnyH_ready (rs := [11]) (by kernel_rfl) (by simp) ?_
            refine AllReadyH.cons rfl (fun K hK => ?_) AllReadyH.nil
            have nsX : ∀ d, (Value.slice sa L2.length sc).ownBlock = some d → d ≠ gP := fun d hd e => by
              have w0 := HB0.out
              have w1 := NC.out
              have w2 := NQ.out
              have w3 := NP.out
              rcases NC.out.1 d hd with h | h
              · have h5 := HVB.out d h; omega
              · omega
            have nrX : ∀ d, (Value.slice ra rn rc2).ownBlock = some d → d ≠ gP := fun d hd e => by
              have w0 := HB0.out
              have w1 := NC.out
              have w2 := NQ.out
              have w3 := NP.out
              have h := NC.out.2.1 d hd
              omega
            have nYX : gQ ≠ gP := fun e => by
              have w0 := HB0.out
              have w1 := NC.out
              have w2 := NQ.out
              have w3 := NP.out
              omega
            have nX : wr.heap.size ≤ gP := by
              have w0 := HB0.out
              have w1 := NC.out
              have w2 := NQ.out
              have w3 := NP.out
              omega
            have x0 := cell0 hk3
            have x1 := cell1 hk3
            have y0 := froz hk3 0
            have y1 := froz hk3 1
            go_simp
            change K _ (put2 u3 gP (.int .i64 R2) (.slice sa L2.length sc))
            have hP4 := put2_at hk3 (.int .i64 R2) (.slice sa L2.length sc)
            have hQ4 := (put2_ne (W := u3) nYX (.int .i64 R2) (.slice sa L2.length sc)).trans fQ3
            have hS4 : SeesI (put2 u3 gP (.int .i64 R2) (.slice sa L2.length sc)) (.slice sa L2.length sc) L2 := fS3.keep (fun d hd _ => put2_ne (nsX d hd) _ _)
            have hR4 := rowEk (w' := put2 u3 gP (.int .i64 R2) (.slice sa L2.length sc)) fR3 (fun d hd _ => put2_ne (nrX d hd) _ _)
            have b4 := put2_below b3 nX (.int .i64 R2) (.slice sa L2.length sc)
            have zz4 : (put2 u3 gP (.int .i64 R2) (.slice sa L2.length sc)).heap.size = u3.heap.size := by simp [put2, World.setCell]
            generalize put2 u3 gP (.int .i64 R2) (.slice sa L2.length sc) = u4 at *
            have NZ4 := Lib.hid zz4
            clear zz4 nsX nrX nYX x0 x1 y0 y1
            have nP := nX
            clear nX
            refine hK.out _ _ ?_ (fun _ => ?_)
            · exact b4
            try simp only [Act.put, List.getElem_toArray, List.getElem_cons_succ, List.getElem_cons_zero, List.setIfInBounds_toArray, List.set_cons_zero, List.set_cons_succ]
            refine wpAnyH_ready (rs := [12]) (by kernel_rfl) (by simp) ?_
            refine AllReadyH.cons rfl (fun K hK => ?_) AllReadyH.nil
            have nsX : ∀ d, (Value.slice sa L2.length sc).ownBlock = some d → d ≠ gQ := fun d hd e => by
              have w0 := HB0.out
              have w1 := NC.out
              have w2 := NQ.out
              have w3 := NP.out
              have w4 := NZ4.out
              rcases NC.out.1 d hd with h | h
              · have h5 := HVB.out d h; omega
              · omega
            have nrX : ∀ d, (Value.slice ra rn rc2).ownBlock = some d → d ≠ gQ := fun d hd e => by
              have w0 := HB0.out
              have w1 := NC.out
              have w2 := NQ.out
              have w3 := NP.out
              have w4 := NZ4.out
              have h := NC.out.2.1 d hd
              omega
            have nYX : gP ≠ gQ := fun e => by
              have w0 := HB0.out
              have w1 := NC.out
              have w2 := NQ.out
              have w3 := NP.out
              have w4 := NZ4.out
              omega
            have nX : wr.heap.size ≤ gQ := by
              have w0 := HB0.out
              have w1 := NC.out
              have w2 := NQ.out
              have w3 := NP.out
              have w4 := NZ4.out
              omega
            obtain ⟨x0, x1, x2, x3, y0, y1, y2, y3⟩ := four hQ4
            go_simp
            change K _ (put4 u4 gQ (.int .i64 rc) (.int .i64 rr) (.string rv) (.slice ra rn rc2))
            have hQ5 := put4_at hQ4 (.int .i64 rc) (.int .i64 rr) (.string rv) (.slice ra rn rc2)
            have hP5 := (put4_ne (W := u4) nYX (.int .i64 rc) (.int .i64 rr) (.string rv) (.slice ra rn rc2)).trans hP4
            have hS5 : SeesI (put4 u4 gQ (.int .i64 rc) (.int .i64 rr) (.string rv) (.slice ra rn rc2)) (.slice sa L2.length sc) L2 := hS4.keep (fun d hd _ => put4_ne (nsX d hd) _ _ _ _)
            have hR5 := rowEk (w' := put4 u4 gQ (.int .i64 rc) (.int .i64 rr) (.string rv) (.slice ra rn rc2)) hR4 (fun d hd _ => put4_ne (nrX d hd) _ _ _ _)
            have b5 := put4_below b4 nX (.int .i64 rc) (.int .i64 rr) (.string rv) (.slice ra rn rc2)
            have zz5 : (put4 u4 gQ (.int .i64 rc) (.int .i64 rr) (.string rv) (.slice ra rn rc2)).heap.size = u4.heap.size := by simp [put4, World.setCell]
            generalize put4 u4 gQ (.int .i64 rc) (.int .i64 rr) (.string rv) (.slice ra rn rc2) = u5 at *
            have NZ5 := Lib.hid zz5
            clear zz5 nsX nrX nYX x0 x1 x2 x3 y0 y1 y2 y3
            have nQ := nX
            clear nX
            refine hK.out _ _ ?_ (fun _ => ?_)
            · exact b5
            try simp only [Act.put, List.getElem_toArray, List.getElem_cons_succ, List.getElem_cons_zero, List.setIfInBounds_toArray, List.set_cons_zero, List.set_cons_succ]
            refine wpAnyH_done (by kernel_rfl) ?_ _
            (try go_wp2_with fail)
            go_meet
            refine ⟨gP, gQ, _, _, rfl, rfl, Lib.hid ⟨b5, nP, nQ, hP5, hQ5, hS5, fun d hd => ?_, row_leE hR5 NC.out.2.2.2⟩⟩
            have w0 := HB0.out
            have w1 := NC.out
            have w2 := NQ.out
            have w3 := NP.out
            have w4 := NZ4.out
            have w5 := NZ5.out
            rcases NC.out.1 d hd with h | h
            · exact Or.inl h
            · exact Or.inr ⟨by omega, by omega⟩
        · go_simp
          have bk1 := belNew u0 (stO 0 (.slice none 0 0))
          have hk1 := heap_alloc_new u0 (stO 0 (.slice none 0 0))
          have zk1 : (u0.alloc (stO 0 (.slice none 0 0))).heap.size = u0.heap.size + 1 := by simp
          change K _ (u0.alloc (stO 0 (.slice none 0 0)))
          generalize u0.alloc (stO 0 (.slice none 0 0)) = u1 at *
          obtain ⟨gP, hgP⟩ : ∃ p, p = u0.heap.size := ⟨_, rfl⟩
          rw [← hgP] at hk1 ⊢
          have NP := Lib.hid (And.intro hgP zk1)
          clear hgP zk1
          have b1 := bel b0 bk1
          refine hK.out _ _ ?_ (fun _ => ?_)
          · exact b1
          try simp only [Act.put, List.getElem_toArray, List.getElem_cons_succ, List.getElem_cons_zero, List.setIfInBounds_toArray, List.set_cons_zero, List.set_cons_succ]
          clear bk1
          refine wpAnyH_ready (rs := [5, 10]) (by kernel_rfl) (by simp) ?_
          refine AllReadyH.cons rfl (fun K hK => ?_) (AllReadyH.cons rfl (fun K hK => ?_) AllReadyH.nil)
          · go_simp
            refine (HDO.out u1 (HVS.out.below b1)).mono ?_; rintro y u2 ⟨vs, vi, rfl, hs2, ho2, hr2, bk2⟩
            obtain ⟨sa, sc, hse, -⟩ := id hs2
            subst hse
            obtain ⟨ra, rn, rc2, rfl⟩ := row_slice hr2
            have NC := Lib.hid (And.intro ho2 (And.intro (fun d hd => World.ownsRow.lt hr2 d hd) (And.intro bk2.size b1.size)))
            have fP2 := (bk2.block _ (heap_lt hk1)).trans hk1
            have b2 := bel b1 bk2
            refine hK.out _ _ ?_ (fun _ => ?_)
            · exact b2
            try simp only [Act.put, List.getElem_toArray, List.getElem_cons_succ, List.getElem_cons_zero, List.setIfInBounds_toArray, List.set_cons_zero, List.set_cons_succ]
            clear bk2 ho2
            refine wpAnyH_take (i := 6) (v := ?_) rfl (by kernel_rfl) (by kernel_rfl) (by kernel_rfl) (fun _ _ _ h => h) (Or.inl ⟨by rfl, ?_⟩) (by assumption) ?_
            rotate_left
            · intro wS hSw
              (try dsimp only at hSw)
              go_simp
              first | done | with_reducible rfl
            try simp only [Act.put, List.getElem_toArray, List.getElem_cons_succ, List.getElem_cons_zero, List.setIfInBounds_toArray, List.set_cons_zero, List.set_cons_succ]
            refine wpAnyH_take (i := 7) (v := ?_) rfl (by kernel_rfl) (by kernel_rfl) (by kernel_rfl) (fun _ _ _ h => h) (Or.inl ⟨by rfl, ?_⟩) (by assumption) ?_
            rotate_left
            · intro wS hSw
              (try dsimp only at hSw)
              go_simp
              first | done | with_reducible rfl
            try simp only [Act.put, List.getElem_toArray, List.getElem_cons_succ, List.getElem_cons_zero, List.setIfInBounds_toArray, List.set_cons_zero, List.set_cons_succ]
            refine wpAnyH_take (i := 8) (v := ?_) rfl (by kernel_rfl) (by kernel_rfl) (by kernel_rfl) (fun _ _ _ h => h) (Or.inl ⟨by rfl, ?_⟩) (by assumption) ?_
            rotate_left
            · intro wS hSw
              (try dsimp only at hSw)
              go_simp
              first | done | with_reducible rfl
            try simp only [Act.put, List.getElem_toArray, List.getElem_cons_succ, List.getElem_cons_zero, List.setIfInBounds_toArray, List.set_cons_zero, List.set_cons_succ]
            refine wpAnyH_ready (rs := [10]) (by kernel_rfl) (by simp) ?_
            refine AllReadyH.cons rfl (fun K hK => ?_) AllReadyH.nil
            go_simp
            have bk3 := belNew u2 (resR 0 0 emp (.slice none 0 0))
            have hk3 := heap_alloc_new u2 (resR 0 0 emp (.slice none 0 0))
            have zk3 : (u2.alloc (resR 0 0 emp (.slice none 0 0))).heap.size = u2.heap.size + 1 := by simp
            change K _ (u2.alloc (resR 0 0 emp (.slice none 0 0)))
            generalize u2.alloc (resR 0 0 emp (.slice none 0 0)) = u3 at *
            obtain ⟨gQ, hgQ⟩ : ∃ p, p = u2.heap.size := ⟨_, rfl⟩
            rw [← hgQ] at hk3 ⊢
            have NQ := Lib.hid (And.intro hgQ zk3)
            clear hgQ zk3
            have fP3 := (bk3.block _ (heap_lt fP2)).trans fP2
            have fS3 := hs2.below bk3
            have fR3 := row_keep hr2 bk3
            have b3 := bel b2 bk3
            refine hK.out _ _ ?_ (fun _ => ?_)
            · exact b3
            try simp only [Act.put, List.getElem_toArray, List.getElem_cons_succ, List.getElem_cons_zero, List.setIfInBounds_toArray, List.set_cons_zero, List.set_cons_succ]
            clear bk3
            refine wpAnyH_ready (rs := [11]) (by kernel_rfl) (by simp) ?_
            refine AllReadyH.cons rfl (fun K hK => ?_) AllReadyH.nil
            have nsX : ∀ d, (Value.slice sa L2.length sc).ownBlock = some d → d ≠ gP := fun d hd e => by
              have w0 := HB0.out
              have w1 := NP.out
              have w2 := NC.out
              have w3 := NQ.out
              rcases NC.out.1 d hd with h | h
              · have h5 := HVB.out d h; omega
              · omega
            have nrX : ∀ d, (Value.slice ra rn rc2).ownBlock = some d → d ≠ gP := fun d hd e => by
              have w0 := HB0.out
              have w1 := NP.out
              have w2 := NC.out
              have w3 := NQ.out
              have h := NC.out.2.1 d hd
              omega
            have nYX : gQ ≠ gP := fun e => by
              have w0 := HB0.out
              have w1 := NP.out
              have w2 := NC.out
              have w3 := NQ.out
              omega
            have nX : wr.heap.size ≤ gP := by
              have w0 := HB0.out
              have w1 := NP.out
              have w2 := NC.out
              have w3 := NQ.out
              omega
            have x0 := cell0 fP3
            have x1 := cell1 fP3
            have y0 := froz fP3 0
            have y1 := froz fP3 1
            go_simp
            change K _ (put2 u3 gP (.int .i64 R2) (.slice sa L2.length sc))
            have hP4 := put2_at fP3 (.int .i64 R2) (.slice sa L2.length sc)
            have hQ4 := (put2_ne (W := u3) nYX (.int .i64 R2) (.slice sa L2.length sc)).trans hk3
            have hS4 : SeesI (put2 u3 gP (.int .i64 R2) (.slice sa L2.length sc)) (.slice sa L2.length sc) L2 := fS3.keep (fun d hd _ => put2_ne (nsX d hd) _ _)
            have hR4 := rowEk (w' := put2 u3 gP (.int .i64 R2) (.slice sa L2.length sc)) fR3 (fun d hd _ => put2_ne (nrX d hd) _ _)
            have b4 := put2_below b3 nX (.int .i64 R2) (.slice sa L2.length sc)
            have zz4 : (put2 u3 gP (.int .i64 R2) (.slice sa L2.length sc)).heap.size = u3.heap.size := by simp [put2, World.setCell]
            generalize put2 u3 gP (.int .i64 R2) (.slice sa L2.length sc) = u4 at *
            have NZ4 := Lib.hid zz4
            clear zz4 nsX nrX nYX x0 x1 y0 y1
            have nP := nX
            clear nX
            refine hK.out _ _ ?_ (fun _ => ?_)
            · exact b4
            try simp only [Act.put, List.getElem_toArray, List.getElem_cons_succ, List.getElem_cons_zero, List.setIfInBounds_toArray, List.set_cons_zero, List.set_cons_succ]
            refine wpAnyH_ready (rs := [12]) (by kernel_rfl) (by simp) ?_
            refine AllReadyH.cons rfl (fun K hK => ?_) AllReadyH.nil
            have nsX : ∀ d, (Value.slice sa L2.length sc).ownBlock = some d → d ≠ gQ := fun d hd e => by
              have w0 := HB0.out
              have w1 := NP.out
              have w2 := NC.out
              have w3 := NQ.out
              have w4 := NZ4.out
              rcases NC.out.1 d hd with h | h
              · have h5 := HVB.out d h; omega
              · omega
            have nrX : ∀ d, (Value.slice ra rn rc2).ownBlock = some d → d ≠ gQ := fun d hd e => by
              have w0 := HB0.out
              have w1 := NP.out
              have w2 := NC.out
              have w3 := NQ.out
              have w4 := NZ4.out
              have h := NC.out.2.1 d hd
              omega
            have nYX : gP ≠ gQ := fun e => by
              have w0 := HB0.out
              have w1 := NP.out
              have w2 := NC.out
              have w3 := NQ.out
              have w4 := NZ4.out
              omega
            have nX : wr.heap.size ≤ gQ := by
              have w0 := HB0.out
              have w1 := NP.out
              have w2 := NC.out
              have w3 := NQ.out
              have w4 := NZ4.out
              omega
            obtain ⟨x0, x1, x2, x3, y0, y1, y2, y3⟩ := four hQ4
            go_simp
            change K _ (put4 u4 gQ (.int .i64 rc) (.int .i64 rr) (.string rv) (.slice ra rn rc2))
            have hQ5 := put4_at hQ4 (.int .i64 rc) (.int .i64 rr) (.string rv) (.slice ra rn rc2)
            have hP5 := (put4_ne (W := u4) nYX (.int .i64 rc) (.int .i64 rr) (.string rv) (.slice ra rn rc2)).trans hP4
            have hS5 : SeesI (put4 u4 gQ (.int .i64 rc) (.int .i64 rr) (.string rv) (.slice ra rn rc2)) (.slice sa L2.length sc) L2 := hS4.keep (fun d hd _ => put4_ne (nsX d hd) _ _ _ _)
            have hR5 := rowEk (w' := put4 u4 gQ (.int .i64 rc) (.int .i64 rr) (.string rv) (.slice ra rn rc2)) hR4 (fun d hd _ => put4_ne (nrX d hd) _ _ _ _)
            have b5 := put4_below b4 nX (.int .i64 rc) (.int .i64 rr) (.string rv) (.slice ra rn rc2)
            have zz5 : (put4 u4 gQ (.int .i64 rc) (.int .i64 rr) (.string rv) (.slice ra rn rc2)).heap.size = u4.heap.size := by simp [put4, World.setCell]
            generalize put4 u4 gQ (.int .i64 rc) (.int .i64 rr) (.string rv) (.slice ra rn rc2) = u5 at *
            have NZ5 := Lib.hid zz5
            clear zz5 nsX nrX nYX x0 x1 x2 x3 y0 y1 y2 y3
            have nQ := nX
            clear nX
            refine hK.out _ _ ?_ (fun _ => ?_)
            · exact b5
            try simp only [Act.put, List.getElem_toArray, List.getElem_cons_succ, List.getElem_cons_zero, List.setIfInBounds_toArray, List.set_cons_zero, List.set_cons_succ]
            refine wpAnyH_done (by kernel_rfl) ?_ _
            (try go_wp2_with fail)
            go_meet
            refine ⟨gP, gQ, _, _, rfl, rfl, Lib.hid ⟨b5, nP, nQ, hP5, hQ5, hS5, fun d hd => ?_, row_leE hR5 NC.out.2.2.2⟩⟩
            have w0 := HB0.out
            have w1 := NP.out
            have w2 := NC.out
            have w3 := NQ.out
            have w4 := NZ4.out
            have w5 := NZ5.out
            rcases NC.out.1 d hd with h | h
            · exact Or.inl h
            · exact Or.inr ⟨by omega, by omega⟩
          · go_simp
            have bk2 := belNew u1 (resR 0 0 emp (.slice none 0 0))
            have hk2 := heap_alloc_new u1 (resR 0 0 emp (.slice none 0 0))
            have zk2 : (u1.alloc (resR 0 0 emp (.slice none 0 0))).heap.size = u1.heap.size + 1 := by simp
            change K _ (u1.alloc (resR 0 0 emp (.slice none 0 0)))
            generalize u1.alloc (resR 0 0 emp (.slice none 0 0)) = u2 at *
            obtain ⟨gQ, hgQ⟩ : ∃ p, p = u1.heap.size := ⟨_, rfl⟩
            rw [← hgQ] at hk2 ⊢
            have NQ := Lib.hid (And.intro hgQ zk2)
            clear hgQ zk2
            have fP2 := (bk2.block _ (heap_lt hk1)).trans hk1
            have b2 := bel b1 bk2
            refine hK.out _ _ ?_ (fun _ => ?_)
            · exact b2
            try simp only [Act.put, List.getElem_toArray, List.getElem_cons_succ, List.getElem_cons_zero, List.setIfInBounds_toArray, List.set_cons_zero, List.set_cons_succ]
            clear bk2
            refine wpAnyH_ready (rs := [5]) (by kernel_rfl) (by simp) ?_
            refine AllReadyH.cons rfl (fun K hK => ?_) AllReadyH.nil
            go_simp
            refine (HDO.out u2 (HVS.out.below b2)).mono ?_; rintro y u3 ⟨vs, vi, rfl, hs3, ho3, hr3, bk3⟩
            obtain ⟨sa, sc, hse, -⟩ := id hs3
            subst hse
            obtain ⟨ra, rn, rc2, rfl⟩ := row_slice hr3
            have NC := Lib.hid (And.intro ho3 (And.intro (fun d hd => World.ownsRow.lt hr3 d hd) (And.intro bk3.size b2.size)))
            have fP3 := (bk3.block _ (heap_lt fP2)).trans fP2
            have fQ3 := (bk3.block _ (heap_lt hk2)).trans hk2
            have b3 := bel b2 bk3
            refine hK.out _ _ ?_ (fun _ => ?_)
            · exact b3
            try simp only [Act.put, List.getElem_toArray, List.getElem_cons_succ, List.getElem_cons_zero, List.setIfInBounds_toArray, List.set_cons_zero, List.set_cons_succ]
            clear bk3 ho3
            refine wpAnyH_take (i := 6) (v := ?_) rfl (by kernel_rfl) (by kernel_rfl) (by kernel_rfl) (fun _ _ _ h => h) (Or.inl ⟨by rfl, ?_⟩) (by assumption) ?_
            rotate_left
            · intro wS hSw
              (try dsimp only at hSw)
              go_simp
              first | done | with_reducible rfl
            try simp only [Act.put, List.getElem_toArray, List.getElem_cons_succ, List.getElem_cons_zero, List.setIfInBounds_toArray, List.set_cons_zero, List.set_cons_succ]
            refine wpAnyH_take (i := 7) (v := ?_) rfl (by kernel_rfl) (by kernel_rfl) (by kernel_rfl) (fun _ _ _ h => h) (Or.inl ⟨by rfl, ?_⟩) (by assumption) ?_
            rotate_left
            · intro wS hSw
              (try dsimp only at hSw)
              go_simp
              first | done | with_reducible rfl
            try simp only [Act.put, List.getElem_toArray, List.getElem_cons_succ, List.getElem_cons_zero, List.setIfInBounds_toArray, List.set_cons_zero, List.set_cons_succ]
            refine wpAnyH_take (i := 8) (v := ?_) rfl (by kernel_rfl) (by kernel_rfl) (by kernel_rfl) (fun _ _ _ h => h) (Or.inl ⟨by rfl, ?_⟩) (by assumption) ?_
            rotate_left
            · intro wS hSw
              (try dsimp only at hSw)
              go_simp
              first | done | with_reducible rfl
            try simp only [Act.put, List.getElem_toArray, List.getElem_cons_succ, List.getElem_cons_zero, List.setIfInBounds_toArray, List.set_cons_zero, List.set_cons_succ]
            refine wpAnyH_ready (rs := [11]) (by kernel_rfl) (by simp) ?_
            refine AllReadyH.cons rfl (fun K hK => ?_) AllReadyH.nil
            have nsX : ∀ d, (Value.slice sa L2.length sc).ownBlock = some d → d ≠ gP := fun d hd e => by
              have w0 := HB0.out
              have w1 := NP.out
              have w2 := NQ.out
              have w3 := NC.out
              rcases NC.out.1 d hd with h | h
              · have h5 := HVB.out d h; omega
              · omega
            have nrX : ∀ d, (Value.slice ra rn rc2).ownBlock = some d → d ≠ gP := fun d hd e => by
              have w0 := HB0.out
              have w1 := NP.out
              have w2 := NQ.out
              have w3 := NC.out
              have h := NC.out.2.1 d hd
              omega
            have nYX : gQ ≠ gP := fun e => by
              have w0 := HB0.out
              have w1 := NP.out
              have w2 := NQ.out
              have w3 := NC.out
              omega
            have nX : wr.heap.size ≤ gP := by
              have w0 := HB0.out
              have w1 := NP.out
              have w2 := NQ.out
              have w3 := NC.out
              omega
            have x0 := cell0 fP3
            have x1 := cell1 fP3
            have y0 := froz fP3 0
            have y1 := froz fP3 1
            go_simp
            change K _ (put2 u3 gP (.int .i64 R2) (.slice sa L2.length sc))
            have hP4 := put2_at fP3 (.int .i64 R2) (.slice sa L2.length sc)
            have hQ4 := (put2_ne (W := u3) nYX (.int .i64 R2) (.slice sa L2.length sc)).trans fQ3
            have hS4 : SeesI (put2 u3 gP (.int .i64 R2) (.slice sa L2.length sc)) (.slice sa L2.length sc) L2 := hs3.keep (fun d hd _ => put2_ne (nsX d hd) _ _)
            have hR4 := rowEk (w' := put2 u3 gP (.int .i64 R2) (.slice sa L2.length sc)) hr3 (fun d hd _ => put2_ne (nrX d hd) _ _)
            have b4 := put2_below b3 nX (.int .i64 R2) (.slice sa L2.length sc)
            have zz4 : (put2 u3 gP (.int .i64 R2) (.slice sa L2.length sc)).heap.size = u3.heap.size := by simp [put2, World.setCell]
            generalize put2 u3 gP (.int .i64 R2) (.slice sa L2.length sc) = u4 at *
            have NZ4 := Lib.hid zz4
            clear zz4 nsX nrX nYX x0 x1 y0 y1
            have nP := nX
            clear nX
            refine hK.out _ _ ?_ (fun _ => ?_)
            · exact b4
            try simp only [Act.put, List.getElem_toArray, List.getElem_cons_succ, List.getElem_cons_zero, List.setIfInBounds_toArray, List.set_cons_zero, List.set_cons_succ]
            refine wpAnyH_ready (rs := [12]) (by kernel_rfl) (by simp) ?_
            refine AllReadyH.cons rfl (fun K hK => ?_) AllReadyH.nil
            have nsX : ∀ d, (Value.slice sa L2.length sc).ownBlock = some d → d ≠ gQ := fun d hd e => by
              have w0 := HB0.out
              have w1 := NP.out
              have w2 := NQ.out
              have w3 := NC.out
              have w4 := NZ4.out
              rcases NC.out.1 d hd with h | h
              · have h5 := HVB.out d h; omega
              · omega
            have nrX : ∀ d, (Value.slice ra rn rc2).ownBlock = some d → d ≠ gQ := fun d hd e => by
              have w0 := HB0.out
              have w1 := NP.out
              have w2 := NQ.out
              have w3 := NC.out
              have w4 := NZ4.out
              have h := NC.out.2.1 d hd
              omega
            have nYX : gP ≠ gQ := fun e => by
              have w0 := HB0.out
              have w1 := NP.out
              have w2 := NQ.out
              have w3 := NC.out
              have w4 := NZ4.out
              omega
            have nX : wr.heap.size ≤ gQ := by
              have w0 := HB0.out
              have w1 := NP.out
              have w2 := NQ.out
              have w3 := NC.out
              have w4 := NZ4.out
              omega
            obtain ⟨x0, x1, x2, x3, y0, y1, y2, y3⟩ := four hQ4
            go_simp
            change K _ (put4 u4 gQ (.int .i64 rc) (.int .i64 rr) (.string rv) (.slice ra rn rc2))
            have hQ5 := put4_at hQ4 (.int .i64 rc) (.int .i64 rr) (.string rv) (.slice ra rn rc2)
            have hP5 := (put4_ne (W := u4) nYX (.int .i64 rc) (.int .i64 rr) (.string rv) (.slice ra rn rc2)).trans hP4
            have hS5 : SeesI (put4 u4 gQ (.int .i64 rc) (.int .i64 rr) (.string rv) (.slice ra rn rc2)) (.slice sa L2.length sc) L2 := hS4.keep (fun d hd _ => put4_ne (nsX d hd) _ _ _ _)
            have hR5 := rowEk (w' := put4 u4 gQ (.int .i64 rc) (.int .i64 rr) (.string rv) (.slice ra rn rc2)) hR4 (fun d hd _ => put4_ne (nrX d hd) _ _ _ _)
            have b5 := put4_below b4 nX (.int .i64 rc) (.int .i64 rr) (.string rv) (.slice ra rn rc2)
            have zz5 : (put4 u4 gQ (.int .i64 rc) (.int .i64 rr) (.string rv) (.slice ra rn rc2)).heap.size = u4.heap.size := by simp [put4, World.setCell]
            generalize put4 u4 gQ (.int .i64 rc) (.int .i64 rr) (.string rv) (.slice ra rn rc2) = u5 at *
            have NZ5 := Lib.hid zz5
            clear zz5 nsX nrX nYX x0 x1 x2 x3 y0 y1 y2 y3
            have nQ := nX
            clear nX
            refine hK.out _ _ ?_ (fun _ => ?_)
            · exact b5
            try simp only [Act.put, List.getElem_toArray, List.getElem_cons_succ, List.getElem_cons_zero, List.setIfInBounds_toArray, List.set_cons_zero, List.set_cons_succ]
            refine wpAnyH_done (by kernel_rfl) ?_ _
            (try go_wp2_with fail)
            go_meet
            refine ⟨gP, gQ, _, _, rfl, rfl, Lib.hid ⟨b5, nP, nQ, hP5, hQ5, hS5, fun d hd => ?_, row_leE hR5 NC.out.2.2.2⟩⟩
            have w0 := HB0.out
            have w1 := NP.out
            have w2 := NQ.out
            have w3 := NC.out
            have w4 := NZ4.out
            have w5 := NZ5.out
            rcases NC.out.1 d hd with h | h
            · exact Or.inl h
            · exact Or.inr ⟨by omega, by omega⟩
        · go_simp
          have bk1 := belNew u0 (resR 0 0 emp (.slice none 0 0))
          have hk1 := heap_alloc_new u0 (resR 0 0 emp (.slice none 0 0))
          have zk1 : (u0.alloc (resR 0 0 emp (.slice none 0 0))).heap.size = u0.heap.size + 1 := by simp
          change K _ (u0.alloc (resR 0 0 emp (.slice none 0 0)))
          generalize u0.alloc (resR 0 0 emp (.slice none 0 0)) = u1 at *
          obtain ⟨gQ, hgQ⟩ : ∃ p, p = u0.heap.size := ⟨_, rfl⟩
          rw [← hgQ] at hk1 ⊢
          have NQ := Lib.hid (And.intro hgQ zk1)
          clear hgQ zk1
          have b1 := bel b0 bk1
          refine hK.out _ _ ?_ (fun _ => ?_)
          · exact b1
          try simp only [Act.put, List.getElem_toArray, List.getElem_cons_succ, List.getElem_cons_zero, List.setIfInBounds_toArray, List.set_cons_zero, List.set_cons_succ]
          clear bk1
          refine wpAnyH_ready (rs := [5, 9]) (by kernel_rfl) (by simp) ?_
          refine AllReadyH.cons rfl (fun K hK => ?_) (AllReadyH.cons rfl (fun K hK => ?_) AllReadyH.nil)
          · go_simp
            refine (HDO.out u1 (HVS.out.below b1)).mono ?_; rintro y u2 ⟨vs, vi, rfl, hs2, ho2, hr2, bk2⟩
            obtain ⟨sa, sc, hse, -⟩ := id hs2
            subst hse
            obtain ⟨ra, rn, rc2, rfl⟩ := row_slice hr2
            have NC := Lib.hid (And.intro ho2 (And.intro (fun d hd => World.ownsRow.lt hr2 d hd) (And.intro bk2.size b1.size)))
            have fQ2 := (bk2.block _ (heap_lt hk1)).trans hk1
            have b2 := bel b1 bk2
            refine hK.out _ _ ?_ (fun _ => ?_)
            · exact b2
            try simp only [Act.put, List.getElem_toArray, List.getElem_cons_succ, List.getElem_cons_zero, List.setIfInBounds_toArray, List.set_cons_zero, List.set_cons_succ]
            clear bk2 ho2
            refine wpAnyH_take (i := 6) (v := ?_) rfl (by kernel_rfl) (by kernel_rfl) (by kernel_rfl) (fun _ _ _ h => h) (Or.inl ⟨by rfl, ?_⟩) (by assumption) ?_
            rotate_left
            · intro wS hSw
              (try dsimp only at hSw)
              go_simp
              first | done | with_reducible rfl
            try simp only [Act.put, List.getElem_toArray, List.getElem_cons_succ, List.getElem_cons_zero, List.setIfInBounds_toArray, List.set_cons_zero, List.set_cons_succ]
            refine wpAnyH_take (i := 7) (v := ?_) rfl (by kernel_rfl) (by kernel_rfl) (by kernel_rfl) (fun _ _ _ h => h) (Or.inl ⟨by rfl, ?_⟩) (by assumption) ?_
            rotate_left
            · intro wS hSw
              (try dsimp only at hSw)
              go_simp
              first | done | with_reducible rfl
            try simp only [Act.put, List.getElem_toArray, List.getElem_cons_succ, List.getElem_cons_zero, List.setIfInBounds_toArray, List.set_cons_zero, List.set_cons_succ]
            refine wpAnyH_take (i := 8) (v := ?_) rfl (by kernel_rfl) (by kernel_rfl) (by kernel_rfl) (fun _ _ _ h => h) (Or.inl ⟨by rfl, ?_⟩) (by assumption) ?_
            rotate_left
            · intro wS hSw
              (try dsimp only at hSw)
              go_simp
              first | done | with_reducible rfl
            try simp only [Act.put, List.getElem_toArray, List.getElem_cons_succ, List.getElem_cons_zero, List.setIfInBounds_toArray, List.set_cons_zero, List.set_cons_succ]
            refine wpAnyH_ready (rs := [9]) (by kernel_rfl) (by simp) ?_
            refine AllReadyH.cons rfl (fun K hK => ?_) AllReadyH.nil
            go_simp
            have bk3 := belNew u2 (stO 0 (.slice none 0 0))
            have hk3 := heap_alloc_new u2 (stO 0 (.slice none 0 0))
            have zk3 : (u2.alloc (stO 0 (.slice none 0 0))).heap.size = u2.heap.size + 1 := by simp
            change K _ (u2.alloc (stO 0 (.slice none 0 0)))
            generalize u2.alloc (stO 0 (.slice none 0 0)) = u3 at *
            obtain ⟨gP, hgP⟩ : ∃ p, p = u2.heap.size := ⟨_, rfl⟩
            rw [← hgP] at hk3 ⊢
            have NP := Lib.hid (And.intro hgP zk3)
            clear hgP zk3
            have fQ3 := (bk3.block _ (heap_lt fQ2)).trans fQ2
            have fS3 := hs2.below bk3
            have fR3 := row_keep hr2 bk3
            have b3 := bel b2 bk3
            refine hK.out _ _ ?_ (fun _ => ?_)
            · exact b3
            try simp only [Act.put, List.getElem_toArray, List.getElem_cons_succ, List.getElem_cons_zero, List.setIfInBounds_toArray, List.set_cons_zero, List.set_cons_succ]
            clear bk3
            refine wpAnyH_ready (rs := [11]) (by kernel_rfl) (by simp) ?_
            refine AllReadyH.cons rfl (fun K hK => ?_) AllReadyH.nil
            have nsX : ∀ d, (Value.slice sa L2.length sc).ownBlock = some d → d ≠ gP := fun d hd e => by
              have w0 := HB0.out
              have w1 := NQ.out
              have w2 := NC.out
              have w3 := NP.out
              rcases NC.out.1 d hd with h | h
              · have h5 := HVB.out d h; omega
              · omega
            have nrX : ∀ d, (Value.slice ra rn rc2).ownBlock = some d → d ≠ gP := fun d hd e => by
              have w0 := HB0.out
              have w1 := NQ.out
              have w2 := NC.out
              have w3 := NP.out
              have h := NC.out.2.1 d hd
              omega
            have nYX : gQ ≠ gP := fun e => by
              have w0 := HB0.out
              have w1 := NQ.out
              have w2 := NC.out
              have w3 := NP.out
              omega
            have nX : wr.heap.size ≤ gP := by
              have w0 := HB0.out
              have w1 := NQ.out
              have w2 := NC.out
              have w3 := NP.out
              omega
            have x0 := cell0 hk3
            have x1 := cell1 hk3
            have y0 := froz hk3 0
            have y1 := froz hk3 1
            go_simp
            change K _ (put2 u3 gP (.int .i64 R2) (.slice sa L2.length sc))
            have hP4 := put2_at hk3 (.int .i64 R2) (.slice sa L2.length sc)
            have hQ4 := (put2_ne (W := u3) nYX (.int .i64 R2) (.slice sa L2.length sc)).trans fQ3
            have hS4 : SeesI (put2 u3 gP (.int .i64 R2) (.slice sa L2.length sc)) (.slice sa L2.length sc) L2 := fS3.keep (fun d hd _ => put2_ne (nsX d hd) _ _)
            have hR4 := rowEk (w' := put2 u3 gP (.int .i64 R2) (.slice sa L2.length sc)) fR3 (fun d hd _ => put2_ne (nrX d hd) _ _)
            have b4 := put2_below b3 nX (.int .i64 R2) (.slice sa L2.length sc)
            have zz4 : (put2 u3 gP (.int .i64 R2) (.slice sa L2.length sc)).heap.size = u3.heap.size := by simp [put2, World.setCell]
            generalize put2 u3 gP (.int .i64 R2) (.slice sa L2.length sc) = u4 at *
            have NZ4 := Lib.hid zz4
            clear zz4 nsX nrX nYX x0 x1 y0 y1
            have nP := nX
            clear nX
            refine hK.out _ _ ?_ (fun _ => ?_)
            · exact b4
            try simp only [Act.put, List.getElem_toArray, List.getElem_cons_succ, List.getElem_cons_zero, List.setIfInBounds_toArray, List.set_cons_zero, List.set_cons_succ]
            refine wpAnyH_ready (rs := [12]) (by kernel_rfl) (by simp) ?_
            refine AllReadyH.cons rfl (fun K hK => ?_) AllReadyH.nil
            have nsX : ∀ d, (Value.slice sa L2.length sc).ownBlock = some d → d ≠ gQ := fun d hd e => by
              have w0 := HB0.out
              have w1 := NQ.out
              have w2 := NC.out
              have w3 := NP.out
              have w4 := NZ4.out
              rcases NC.out.1 d hd with h | h
              · have h5 := HVB.out d h; omega
              · omega
            have nrX : ∀ d, (Value.slice ra rn rc2).ownBlock = some d → d ≠ gQ := fun d hd e => by
              have w0 := HB0.out
              have w1 := NQ.out
              have w2 := NC.out
              have w3 := NP.out
              have w4 := NZ4.out
              have h := NC.out.2.1 d hd
              omega
            have nYX : gP ≠ gQ := fun e => by
              have w0 := HB0.out
              have w1 := NQ.out
              have w2 := NC.out
              have w3 := NP.out
              have w4 := NZ4.out
              omega
            have nX : wr.heap.size ≤ gQ := by
              have w0 := HB0.out
              have w1 := NQ.out
              have w2 := NC.out
              have w3 := NP.out
              have w4 := NZ4.out
              omega
            obtain ⟨x0, x1, x2, x3, y0, y1, y2, y3⟩ := four hQ4
            go_simp
            change K _ (put4 u4 gQ (.int .i64 rc) (.int .i64 rr) (.string rv) (.slice ra rn rc2))
            have hQ5 := put4_at hQ4 (.int .i64 rc) (.int .i64 rr) (.string rv) (.slice ra rn rc2)
            have hP5 := (put4_ne (W := u4) nYX (.int .i64 rc) (.int .i64 rr) (.string rv) (.slice ra rn rc2)).trans hP4
            have hS5 : SeesI (put4 u4 gQ (.int .i64 rc) (.int .i64 rr) (.string rv) (.slice ra rn rc2)) (.slice sa L2.length sc) L2 := hS4.keep (fun d hd _ => put4_ne (nsX d hd) _ _ _ _)
            have hR5 := rowEk (w' := put4 u4 gQ (.int .i64 rc) (.int .i64 rr) (.string rv) (.slice ra rn rc2)) hR4 (fun d hd _ => put4_ne (nrX d hd) _ _ _ _)
            have b5 := put4_below b4 nX (.int .i64 rc) (.int .i64 rr) (.string rv) (.slice ra rn rc2)
            have zz5 : (put4 u4 gQ (.int .i64 rc) (.int .i64 rr) (.string rv) (.slice ra rn rc2)).heap.size = u4.heap.size := by simp [put4, World.setCell]
            generalize put4 u4 gQ (.int .i64 rc) (.int .i64 rr) (.string rv) (.slice ra rn rc2) = u5 at *
            have NZ5 := Lib.hid zz5
            clear zz5 nsX nrX nYX x0 x1 x2 x3 y0 y1 y2 y3
            have nQ := nX
            clear nX
            refine hK.out _ _ ?_ (fun _ => ?_)
            · exact b5
            try simp only [Act.put, List.getElem_toArray, List.getElem_cons_succ, List.getElem_cons_zero, List.setIfInBounds_toArray, List.set_cons_zero, List.set_cons_succ]
            refine wpAnyH_done (by kernel_rfl) ?_ _
            (try go_wp2_with fail)
            go_meet
            refine ⟨gP, gQ, _, _, rfl, rfl, Lib.hid ⟨b5, nP, nQ, hP5, hQ5, hS5, fun d hd => ?_, row_leE hR5 NC.out.2.2.2⟩⟩
            have w0 := HB0.out
            have w1 := NQ.out
            have w2 := NC.out
            have w3 := NP.out
            have w4 := NZ4.out
            have w5 := NZ5.out
            rcases NC.out.1 d hd with h | h
            · exact Or.inl h
            · exact Or.inr ⟨by omega, by omega⟩
          · go_simp
            have bk2 := belNew u1 (stO 0 (.slice none 0 0))
            have hk2 := heap_alloc_new u1 (stO 0 (.slice none 0 0))
            have zk2 : (u1.alloc (stO 0 (.slice none 0 0))).heap.size = u1.heap.size + 1 := by simp
            change K _ (u1.alloc (stO 0 (.slice none 0 0)))
            generalize u1.alloc (stO 0 (.slice none 0 0)) = u2 at *
            obtain ⟨gP, hgP⟩ : ∃ p, p = u1.heap.size := ⟨_, rfl⟩
            rw [← hgP] at hk2 ⊢
            have NP := Lib.hid (And.intro hgP zk2)
            clear hgP zk2
            have fQ2 := (bk2.block _ (heap_lt hk1)).trans hk1
            have b2 := bel b1 bk2
            refine hK.out _ _ ?_ (fun _ => ?_)
            · exact b2
            try simp only [Act.put, List.getElem_toArray, List.getElem_cons_succ, List.getElem_cons_zero, List.setIfInBounds_toArray, List.set_cons_zero, List.set_cons_succ]
            clear bk2
            refine wpAnyH_ready (rs := [5]) (by kernel_rfl) (by simp) ?_
            refine AllReadyH.cons rfl (fun K hK => ?_) AllReadyH.nil
            go_simp
            refine (HDO.out u2 (HVS.out.below b2)).mono ?_; rintro y u3 ⟨vs, vi, rfl, hs3, ho3, hr3, bk3⟩
            obtain ⟨sa, sc, hse, -⟩ := id hs3
            subst hse
            obtain ⟨ra, rn, rc2, rfl⟩ := row_slice hr3
            have NC := Lib.hid (And.intro ho3 (And.intro (fun d hd => World.ownsRow.lt hr3 d hd) (And.intro bk3.size b2.size)))
            have fP3 := (bk3.block _ (heap_lt hk2)).trans hk2
            have fQ3 := (bk3.block _ (heap_lt fQ2)).trans fQ2
            have b3 := bel b2 bk3
            refine hK.out _ _ ?_ (fun _ => ?_)
            · exact b3
            try simp only [Act.put, List.getElem_toArray, List.getElem_cons_succ, List.getElem_cons_zero, List.setIfInBounds_toArray, List.set_cons_zero, List.set_cons_succ]
            clear bk3 ho3
            refine wpAnyH_take (i := 6) (v := ?_) rfl (by kernel_rfl) (by kernel_rfl) (by kernel_rfl) (fun _ _ _ h => h) (Or.inl ⟨by rfl, ?_⟩) (by assumption) ?_
            rotate_left
            · intro wS hSw
              (try dsimp only at hSw)
              go_simp
              first | done | with_reducible rfl
            try simp only [Act.put, List.getElem_toArray, List.getElem_cons_succ, List.getElem_cons_zero, List.setIfInBounds_toArray, List.set_cons_zero, List.set_cons_succ]
            refine wpAnyH_take (i := 7) (v := ?_) rfl (by kernel_rfl) (by kernel_rfl) (by kernel_rfl) (fun _ _ _ h => h) (Or.inl ⟨by rfl, ?_⟩) (by assumption) ?_
            rotate_left
            · intro wS hSw
              (try dsimp only at hSw)
              go_simp
              first | done | with_reducible rfl
            try simp only [Act.put, List.getElem_toArray, List.getElem_cons_succ, List.getElem_cons_zero, List.setIfInBounds_toArray, List.set_cons_zero, List.set_cons_succ]
            refine wpAnyH_take (i := 8) (v := ?_) rfl (by kernel_rfl) (by kernel_rfl) (by kernel_rfl) (fun _ _ _ h => h) (Or.inl ⟨by rfl, ?_⟩) (by assumption) ?_
            rotate_left
            · intro wS hSw
              (try dsimp only at hSw)
              go_simp
              first | done | with_reducible rfl
            try simp only [Act.put, List.getElem_toArray, List.getElem_cons_succ, List.getElem_cons_zero, List.setIfInBounds_toArray, List.set_cons_zero, List.set_cons_succ]
            refine wpAnyH_ready (rs := [11]) (by kernel_rfl) (by simp) ?_
            refine AllReadyH.cons rfl (fun K hK => ?_) AllReadyH.nil
            have nsX : ∀ d, (Value.slice sa L2.length sc).ownBlock = some d → d ≠ gP := fun d hd e => by
              have w0 := HB0.out
              have w1 := NQ.out
              have w2 := NP.out
              have w3 := NC.out
              rcases NC.out.1 d hd with h | h
              · have h5 := HVB.out d h; omega
              · omega
            have nrX : ∀ d, (Value.slice ra rn rc2).ownBlock = some d → d ≠ gP := fun d hd e => by
              have w0 := HB0.out
              have w1 := NQ.out
              have w2 := NP.out
              have w3 := NC.out
              have h := NC.out.2.1 d hd
              omega
            have nYX : gQ ≠ gP := fun e => by
              have w0 := HB0.out
              have w1 := NQ.out
              have w2 := NP.out
              have w3 := NC.out
              omega
            have nX : wr.heap.size ≤ gP := by
              have w0 := HB0.out
              have w1 := NQ.out
              have w2 := NP.out
              have w3 := NC.out
              omega
            have x0 := cell0 fP3
            have x1 := cell1 fP3
            have y0 := froz fP3 0
            have y1 := froz fP3 1
            go_simp
            change K _ (put2 u3 gP (.int .i64 R2) (.slice sa L2.length sc))
            have hP4 := put2_at fP3 (.int .i64 R2) (.slice sa L2.length sc)
            have hQ4 := (put2_ne (W := u3) nYX (.int .i64 R2) (.slice sa L2.length sc)).trans fQ3
            have hS4 : SeesI (put2 u3 gP (.int .i64 R2) (.slice sa L2.length sc)) (.slice sa L2.length sc) L2 := hs3.keep (fun d hd _ => put2_ne (nsX d hd) _ _)
            have hR4 := rowEk (w' := put2 u3 gP (.int .i64 R2) (.slice sa L2.length sc)) hr3 (fun d hd _ => put2_ne (nrX d hd) _ _)
            have b4 := put2_below b3 nX (.int .i64 R2) (.slice sa L2.length sc)
            have zz4 : (put2 u3 gP (.int .i64 R2) (.slice sa L2.length sc)).heap.size = u3.heap.size := by simp [put2, World.setCell]
            generalize put2 u3 gP (.int .i64 R2) (.slice sa L2.length sc) = u4 at *
            have NZ4 := Lib.hid zz4
            clear zz4 nsX nrX nYX x0 x1 y0 y1
            have nP := nX
            clear nX
            refine hK.out _ _ ?_ (fun _ => ?_)
            · exact b4
            try simp only [Act.put, List.getElem_toArray, List.getElem_cons_succ, List.getElem_cons_zero, List.setIfInBounds_toArray, List.set_cons_zero, List.set_cons_succ]
            refine wpAnyH_ready (rs := [12]) (by kernel_rfl) (by simp) ?_
            refine AllReadyH.cons rfl (fun K hK => ?_) AllReadyH.nil
            have nsX : ∀ d, (Value.slice sa L2.length sc).ownBlock = some d → d ≠ gQ := fun d hd e => by
              have w0 := HB0.out
              have w1 := NQ.out
              have w2 := NP.out
              have w3 := NC.out
              have w4 := NZ4.out
              rcases NC.out.1 d hd with h | h
              · have h5 := HVB.out d h; omega
              · omega
            have nrX : ∀ d, (Value.slice ra rn rc2).ownBlock = some d → d ≠ gQ := fun d hd e => by
              have w0 := HB0.out
              have w1 := NQ.out
              have w2 := NP.out
              have w3 := NC.out
              have w4 := NZ4.out
              have h := NC.out.2.1 d hd
              omega
            have nYX : gP ≠ gQ := fun e => by
              have w0 := HB0.out
              have w1 := NQ.out
              have w2 := NP.out
              have w3 := NC.out
              have w4 := NZ4.out
              omega
            have nX : wr.heap.size ≤ gQ := by
              have w0 := HB0.out
              have w1 := NQ.out
              have w2 := NP.out
              have w3 := NC.out
              have w4 := NZ4.out
              omega
            obtain ⟨x0, x1, x2, x3, y0, y1, y2, y3⟩ := four hQ4
            go_simp
            change K _ (put4 u4 gQ (.int .i64 rc) (.int .i64 rr) (.string rv) (.slice ra rn rc2))
            have hQ5 := put4_at hQ4 (.int .i64 rc) (.int .i64 rr) (.string rv) (.slice ra rn rc2)
            have hP5 := (put4_ne (W := u4) nYX (.int .i64 rc) (.int .i64 rr) (.string rv) (.slice ra rn rc2)).trans hP4
            have hS5 : SeesI (put4 u4 gQ (.int .i64 rc) (.int .i64 rr) (.string rv) (.slice ra rn rc2)) (.slice sa L2.length sc) L2 := hS4.keep (fun d hd _ => put4_ne (nsX d hd) _ _ _ _)
            have hR5 := rowEk (w' := put4 u4 gQ (.int .i64 rc) (.int .i64 rr) (.string rv) (.slice ra rn rc2)) hR4 (fun d hd _ => put4_ne (nrX d hd) _ _ _ _)
            have b5 := put4_below b4 nX (.int .i64 rc) (.int .i64 rr) (.string rv) (.slice ra rn rc2)
            have zz5 : (put4 u4 gQ (.int .i64 rc) (.int .i64 rr) (.string rv) (.slice ra rn rc2)).heap.size = u4.heap.size := by simp [put4, World.setCell]
            generalize put4 u4 gQ (.int .i64 rc) (.int .i64 rr) (.string rv) (.slice ra rn rc2) = u5 at *
            have NZ5 := Lib.hid zz5
            clear zz5 nsX nrX nYX x0 x1 x2 x3 y0 y1 y2 y3
            have nQ := nX
            clear nX
            refine hK.out _ _ ?_ (fun _ => ?_)
            · exact b5
            try simp only [Act.put, List.getElem_toArray, List.getElem_cons_succ, List.getElem_cons_zero, List.setIfInBounds_toArray, List.set_cons_zero, List.set_cons_succ]
            refine wpAnyH_done (by kernel_rfl) ?_ _
            (try go_wp2_with fail)
            go_meet
            refine ⟨gP, gQ, _, _, rfl, rfl, Lib.hid ⟨b5, nP, nQ, hP5, hQ5, hS5, fun d hd => ?_, row_leE hR5 NC.out.2.2.2⟩⟩
            have w0 := HB0.out
            have w1 := NQ.out
            have w2 := NP.out
            have w3 := NC.out
            have w4 := NZ4.out
            have w5 := NZ5.out
            rcases NC.out.1 d hd with h | h
            · exact Or.inl h
            · exact Or.inr ⟨by omega, by omega⟩
      case rest =>
        obtain ⟨p, q, vs, vi, rfl, rfl, HC⟩ := hcut
        obtain ⟨hbC, hgp, hgq, hxp, hxq, hsv, how, hrv⟩ := HC.out
        obtain ⟨sa, sc, hse, -⟩ := id hsv
        subst hse
        obtain ⟨ra, rn, rc2, rfl⟩ := row_slice hrv
        have hgr0 := heap_lt HS0.out.2.2.1
        have hxg := (hbC.block gr hgr0).trans HS0.out.2.2.1
        have x0 := cell0 hxp
        have x1 := cell1 hxp
        have y0 := cell0 hxg
        have y1 := cell1 hxg
        have z0 := froz hxg 0
        have z1 := froz hxg 1
        have hlf := (HS0.out.1.below hbC).touch ((touch_set wc gr 0 (.int .i64 R2)).trans (touch_set _ gr 1 (.slice sa L2.length sc)) (fun _ _ h => h))
        have hdc : DocAt (put2 wc gr (.int .i64 R2) (.slice sa L2.length sc)) gr P ⟨R2, L2⟩ (.slice sa L2.length sc) := DocAt.put (S' := ⟨R2, L2⟩) HS0.out.2 hbC hsv how HS0.out.1.2.1.own
        have hq9 : (put2 wc gr (.int .i64 R2) (.slice sa L2.length sc)).heap[q]? = some (resR rc rr rv (.slice ra rn rc2)) := (put2_ne (by omega) _ _).trans hxq
        have hv9 : SeesI (put2 wc gr (.int .i64 R2) (.slice sa L2.length sc)) (.slice ra rn rc2) ri := (RowE.sees hrv).keep (fun d hd _ => put2_ne (fun e => by have := (World.ownsRow.lt hrv d hd).1; omega) _ _)
        have H9 := Lib.hid (And.intro (show Left (put2 wc gr (.int .i64 R2) (.slice sa L2.length sc)) _ _ _ _ _ _ _ _ _ _ _ _ from hlf) (And.intro hdc (And.intro hq9 hv9)))
        clear hlf hdc hq9 hv9 hbC hgp hgq hxp hxq hsv how hrv hgr0 hxg HC
        go_upto_region 10 with fail
        change Code.wp _ _ _ _ (put2 wc gr (.int .i64 R2) (.slice sa L2.length sc))
        generalize put2 wc gr (.int .i64 R2) (.slice sa L2.length sc) = w9 at *
        clear x0 x1 y0 y1 z0 z1
        obtain ⟨c0, c1, c2⟩ := chcells H9.out.1.1.1
        have hpt : T[i]? = some (T[i]'HLT.out) := List.getElem?_eq_getElem HLT.out
        generalize T[i]'HLT.out = pT at hpt
        obtain ⟨b8, e8, -, hrc⟩ := (H9.out.1.1.2.2.1.sees encT_len).at hpt
        subst e8
        obtain ⟨pe, ps, -⟩ := H9.out.1.2.2.1 i pT hpt
        rw [HRR.out] at pe ps
        have m0 : w9.cell? (b8.add (i * 4)) = some (.int .i64 pT.1.1) := hrc 0 _ rfl
        have m1 := off1 (hrc 1 _ rfl)
        have m2 := off2 (hrc 2 _ rfl)
        have m3 := off3 (hrc 3 _ rfl)
        rw [pe] at m0 m1 m2
        obtain ⟨⟨pc, pr, pv⟩, po, pn, pk⟩ := pT
        simp only [] at m0 m1 m2 m3 ps
        obtain ⟨n0, n1, n2, n3, -⟩ := four H9.out.2.2.1
        have HPS := Lib.hid ps
        have d3 : decide ((T.length : Int) ≤ (i : Int)) = false := by have := HLT.out; simp; omega
        have p3 : ¬ (T.length : Int) ≤ (i : Int) := by have := HLT.out; omega
        have b4 : (i : Int) < (T.length : Int) := by have := HLT.out; omega
        have e1 : IntKind.i64.wrap ((i : Int) + 1) = (i : Int) + 1 := IntWalk.i64_in _ (by have := HI20.out; omega)
        clear hpt hrc pe ps
        refine wp_region_held_drew (S := (fun W => Below w9.heap.size w9 W)) (by kernel_rfl) ?_ (fun r0 => ?_)
        · exact ⟨rfl, rfl, rfl, Nat.le_refl _, fun _ _ => rfl⟩
        refine wpAnyH_take (i := 0) (v := ?_) rfl (by kernel_rfl) (by kernel_rfl) (by kernel_rfl) (fun _ _ _ h => h) (Or.inl ⟨by rfl, ?_⟩) (by assumption) ?_
        rotate_left
        · intro wS hSw
          (try dsimp only at hSw)
          go_simp
          first | done | with_reducible rfl
        try simp only [Act.put, List.getElem_toArray, List.getElem_cons_succ, List.getElem_cons_zero, List.setIfInBounds_toArray, List.set_cons_zero, List.set_cons_succ]
        refine wpAnyH_take (i := 1) (v := ?_) rfl (by kernel_rfl) (by kernel_rfl) (by kernel_rfl) (fun _ _ _ h => h) (Or.inl ⟨by rfl, ?_⟩) (by assumption) ?_
        rotate_left
        · intro wS hSw
          (try dsimp only at hSw)
          go_simp
          first | done | with_reducible rfl
        try simp only [Act.put, List.getElem_toArray, List.getElem_cons_succ, List.getElem_cons_zero, List.setIfInBounds_toArray, List.set_cons_zero, List.set_cons_succ]
        refine wpAnyH_take (i := 2) (v := ?_) rfl (by kernel_rfl) (by kernel_rfl) (by kernel_rfl) (fun _ _ _ h => h) (Or.inl ⟨by rfl, ?_⟩) (by assumption) ?_
        rotate_left
        · intro wS hSw
          (try dsimp only at hSw)
          go_simp
          first | done | with_reducible rfl
        try simp only [Act.put, List.getElem_toArray, List.getElem_cons_succ, List.getElem_cons_zero, List.setIfInBounds_toArray, List.set_cons_zero, List.set_cons_succ]
        refine wpAnyH_take (i := 3) (v := ?_) rfl (by kernel_rfl) (by kernel_rfl) (by kernel_rfl) (fun _ _ _ h => h) (Or.inl ⟨by rfl, ?_⟩) (by assumption) ?_
        rotate_left
        · intro wS hSw
          (try dsimp only at hSw)
          go_simp
          first | done | with_reducible rfl
        try simp only [Act.put, List.getElem_toArray, List.getElem_cons_succ, List.getElem_cons_zero, List.setIfInBounds_toArray, List.set_cons_zero, List.set_cons_succ]
        refine wpAnyH_take (i := 4) (v := ?_) rfl (by kernel_rfl) (by kernel_rfl) (by kernel_rfl) (fun _ _ _ h => h) (Or.inl ⟨by rfl, ?_⟩) (by assumption) ?_
        rotate_left
        · intro wS hSw
          (try dsimp only at hSw)
          have c0 := bcell hSw c0
          have c2 := bcell hSw c2
          have m0 := bcell hSw m0
          have m1 := bcell hSw m1
          have m2 := bcell hSw m2
          have m3 := bcell hSw m3
          have n0 := bcell hSw n0
          have n1 := bcell hSw n1
          have n2 := bcell hSw n2
          have n3 := bcell hSw n3
          go_simp
          first | done | with_reducible rfl
        try simp only [Act.put, List.getElem_toArray, List.getElem_cons_succ, List.getElem_cons_zero, List.setIfInBounds_toArray, List.set_cons_zero, List.set_cons_succ]
        refine wpAnyH_take (i := 5) (v := ?_) rfl (by kernel_rfl) (by kernel_rfl) (by kernel_rfl) (fun _ _ _ h => h) (Or.inl ⟨by rfl, ?_⟩) (by assumption) ?_
        rotate_left
        · intro wS hSw
          (try dsimp only at hSw)
          go_simp
          first | done | with_reducible rfl
        try simp only [Act.put, List.getElem_toArray, List.getElem_cons_succ, List.getElem_cons_zero, List.setIfInBounds_toArray, List.set_cons_zero, List.set_cons_succ]
        refine wpAnyH_take (i := 6) (v := ?_) rfl (by kernel_rfl) (by kernel_rfl) (by kernel_rfl) (fun _ _ _ h => h) (Or.inl ⟨by rfl, ?_⟩) (by assumption) ?_
        rotate_left
        · intro wS hSw
          (try dsimp only at hSw)
          go_simp
          first | done | with_reducible rfl
        try simp only [Act.put, List.getElem_toArray, List.getElem_cons_succ, List.getElem_cons_zero, List.setIfInBounds_toArray, List.set_cons_zero, List.set_cons_succ]
        refine wpAnyH_take (i := 7) (v := ?_) rfl (by kernel_rfl) (by kernel_rfl) (by kernel_rfl) (fun _ _ _ h => h) (Or.inl ⟨by rfl, ?_⟩) (by assumption) ?_
        rotate_left
        · intro wS hSw
          (try dsimp only at hSw)
          go_simp
          first | done | with_reducible rfl
        try simp only [Act.put, List.getElem_toArray, List.getElem_cons_succ, List.getElem_cons_zero, List.setIfInBounds_toArray, List.set_cons_zero, List.set_cons_succ]
        refine wpAnyH_take (i := 8) (v := ?_) rfl (by kernel_rfl) (by kernel_rfl) (by kernel_rfl) (fun _ _ _ h => h) (Or.inl ⟨by rfl, ?_⟩) (by assumption) ?_
        rotate_left
        · intro wS hSw
          (try dsimp only at hSw)
          go_simp
          first | done | with_reducible rfl
        try simp only [Act.put, List.getElem_toArray, List.getElem_cons_succ, List.getElem_cons_zero, List.setIfInBounds_toArray, List.set_cons_zero, List.set_cons_succ]
        refine wpAnyH_take (i := 9) (v := ?_) rfl (by kernel_rfl) (by kernel_rfl) (by kernel_rfl) (fun _ _ _ h => h) (Or.inl ⟨by rfl, ?_⟩) (by assumption) ?_
        rotate_left
        · intro wS hSw
          (try dsimp only at hSw)
          go_simp
          first | done | with_reducible rfl
        try simp only [Act.put, List.getElem_toArray, List.getElem_cons_succ, List.getElem_cons_zero, List.setIfInBounds_toArray, List.set_cons_zero, List.set_cons_succ]
        refine wpAnyH_take (i := 10) (v := ?_) rfl (by kernel_rfl) (by kernel_rfl) (by kernel_rfl) (fun _ _ _ h => h) (Or.inl ⟨by rfl, ?_⟩) (by assumption) ?_
        rotate_left
        · intro wS hSw
          (try dsimp only at hSw)
          go_simp
          first | done | with_reducible rfl
        try simp only [Act.put, List.getElem_toArray, List.getElem_cons_succ, List.getElem_cons_zero, List.setIfInBounds_toArray, List.set_cons_zero, List.set_cons_succ]
        refine wpAnyH_take (i := 11) (v := ?_) rfl (by kernel_rfl) (by kernel_rfl) (by kernel_rfl) (fun _ _ _ h => h) (Or.inl ⟨by rfl, ?_⟩) (by assumption) ?_
        rotate_left
        · intro wS hSw
          (try dsimp only at hSw)
          have c0 := bcell hSw c0
          have c2 := bcell hSw c2
          have m0 := bcell hSw m0
          have m1 := bcell hSw m1
          have m2 := bcell hSw m2
          have m3 := bcell hSw m3
          have n0 := bcell hSw n0
          have n1 := bcell hSw n1
          have n2 := bcell hSw n2
          have n3 := bcell hSw n3
          go_simp
          first | done | with_reducible rfl
        try simp only [Act.put, List.getElem_toArray, List.getElem_cons_succ, List.getElem_cons_zero, List.setIfInBounds_toArray, List.set_cons_zero, List.set_cons_succ]
        refine wpAnyH_take (i := 12) (v := ?_) rfl (by kernel_rfl) (by kernel_rfl) (by kernel_rfl) (fun _ _ _ h => h) (Or.inl ⟨by rfl, ?_⟩) (by assumption) ?_
        rotate_left
        · intro wS hSw
          (try dsimp only at hSw)
          go_simp
          first | done | with_reducible rfl
        try simp only [Act.put, List.getElem_toArray, List.getElem_cons_succ, List.getElem_cons_zero, List.setIfInBounds_toArray, List.set_cons_zero, List.set_cons_succ]
        refine wpAnyH_take (i := 13) (v := ?_) rfl (by kernel_rfl) (by kernel_rfl) (by kernel_rfl) (fun _ _ _ h => h) (Or.inl ⟨by rfl, ?_⟩) (by assumption) ?_
        rotate_left
        · intro wS hSw
          (try dsimp only at hSw)
          go_simp
          first | done | with_reducible rfl
        try simp only [Act.put, List.getElem_toArray, List.getElem_cons_succ, List.getElem_cons_zero, List.setIfInBounds_toArray, List.set_cons_zero, List.set_cons_succ]
        refine wpAnyH_take (i := 14) (v := ?_) rfl (by kernel_rfl) (by kernel_rfl) (by kernel_rfl) (fun _ _ _ h => h) (Or.inl ⟨by rfl, ?_⟩) (by assumption) ?_
        rotate_left
        · intro wS hSw
          (try dsimp only at hSw)
          have c0 := bcell hSw c0
          have c2 := bcell hSw c2
          have m0 := bcell hSw m0
          have m1 := bcell hSw m1
          have m2 := bcell hSw m2
          have m3 := bcell hSw m3
          have n0 := bcell hSw n0
          have n1 := bcell hSw n1
          have n2 := bcell hSw n2
          have n3 := bcell hSw n3
          go_simp
          first | done | with_reducible rfl
        try simp only [Act.put, List.getElem_toArray, List.getElem_cons_succ, List.getElem_cons_zero, List.setIfInBounds_toArray, List.set_cons_zero, List.set_cons_succ]
        refine wpAnyH_take (i := 15) (v := ?_) rfl (by kernel_rfl) (by kernel_rfl) (by kernel_rfl) (fun _ _ _ h => h) (Or.inl ⟨by rfl, ?_⟩) (by assumption) ?_
        rotate_left
        · intro wS hSw
          (try dsimp only at hSw)
          have c0 := bcell hSw c0
          have c2 := bcell hSw c2
          have m0 := bcell hSw m0
          have m1 := bcell hSw m1
          have m2 := bcell hSw m2
          have m3 := bcell hSw m3
          have n0 := bcell hSw n0
          have n1 := bcell hSw n1
          have n2 := bcell hSw n2
          have n3 := bcell hSw n3
          go_simp
          first | done | with_reducible rfl
        try simp only [Act.put, List.getElem_toArray, List.getElem_cons_succ, List.getElem_cons_zero, List.setIfInBounds_toArray, List.set_cons_zero, List.set_cons_succ]
        refine wpAnyH_ready (rs := [16]) (by kernel_rfl) (by simp) ?_
        refine AllReadyH.cons rfl (fun K hK => ?_) AllReadyH.nil
        go_simp
        refine ((same9_yes ⟨rc, rr, rv, ri⟩ (.slice po pn pk) (.slice ra rn rc2) _ (HPS.out.below r0) (H9.out.2.2.2.below r0) HIT.out)).mono ?_; rintro x w10 ⟨rfl, hb10⟩
        refine hK.out _ _ ?_ (fun r1 => ?_)
        · exact bel r0 hb10
        try simp only [Act.put, List.getElem_toArray, List.getElem_cons_succ, List.getElem_cons_zero, List.setIfInBounds_toArray, List.set_cons_zero, List.set_cons_succ]
        refine wpAnyH_take (i := 17) (v := ?_) rfl (by kernel_rfl) (by kernel_rfl) (by kernel_rfl) (fun _ _ _ h => h) (Or.inl ⟨by rfl, ?_⟩) (by assumption) ?_
        rotate_left
        · intro wS hSw
          (try dsimp only at hSw)
          go_simp
          first | done | with_reducible rfl
        try simp only [Act.put, List.getElem_toArray, List.getElem_cons_succ, List.getElem_cons_zero, List.setIfInBounds_toArray, List.set_cons_zero, List.set_cons_succ]
        refine wpAnyH_take (i := 18) (v := ?_) rfl (by kernel_rfl) (by kernel_rfl) (by kernel_rfl) (fun _ _ _ h => h) (Or.inl ⟨by rfl, ?_⟩) (by assumption) ?_
        rotate_left
        · intro wS hSw
          (try dsimp only at hSw)
          go_simp
          first | done | with_reducible rfl
        try simp only [Act.put, List.getElem_toArray, List.getElem_cons_succ, List.getElem_cons_zero, List.setIfInBounds_toArray, List.set_cons_zero, List.set_cons_succ]
        refine wpAnyH_done (by kernel_rfl) ?_ _
        go_wp2_with fail
        go_roundw
        case rel => exact ⟨i + 1, _, HLT.out, by simp, Lib.hid ⟨H9.out.1.below r1, by rw [HS2.out]; exact H9.out.2.1.below r1⟩⟩
        case measure =>
          have := HLT.out
          simp only [intOf]
          omega
    · obtain rfl : i = T.length := by omega
      have hinv := stK_inv L T.length
      have hn0 := HLn.out
      have hTL := HTl.out
      have HZ := Lib.hid (And.intro HI.out.1 (And.intro HI.out.2 (And.intro hinv.1 (And.intro (show (stK L T.length).L.length ≤ 1000000 by have := hinv.2.2.2.1; omega) (show (stK L T.length).L.length ≤ maxLen by have := hinv.2.2.2.1; unfold maxLen; omega)))))
      have x0 := cell0 HI.out.2.2.1
      have x1 := cell1 HI.out.2.2.1
      obtain ⟨c0, c1, c2⟩ := chcells HI.out.1.1.1
      have HKV : Hid (KvAt wr g P (stK L T.length)) := Lib.hid HI.out.1.2.1
      obtain ⟨va, vc, hve⟩ : ∃ ao c, vr = .slice ao (stK L T.length).L.length c := by obtain ⟨ao, c, e, -⟩ := HI.out.2.2.2.1; exact ⟨ao, c, e⟩
      have hcase : (T.length < L.length ∧ decide ((T.length : Int) < (nL : Int)) = true ∧ decide ((T.length : Int) < m) = false ∧ ((T.length : Int) == (nL : Int)) = false) ∨ (¬ T.length < L.length ∧ decide ((T.length : Int) < (nL : Int)) = false ∧ ((T.length : Int) == (nL : Int)) = true) := by
        by_cases h1 : T.length < L.length
        · exact Or.inl ⟨h1, by simp; omega, by simp; omega, by simp; omega⟩
        · exact Or.inr ⟨h1, by simp; omega, by simp; omega⟩
      generalize stK L T.length = S0 at *
      obtain ⟨R0, L0⟩ := S0
      simp only [] at hve HZ x0 x1
      generalize hvn : L0.length = vn at hve
      subst hve
      have HRV : Hid (∀ w', Below wr.heap.size wr w' → Calls Try.prog 20 #[ptr g] w' fun e w'' => e = .returned (.int .i64 R0) ∧ w' = w'') := Lib.hid (fun w' hb => rev_any g P ⟨R0, L0⟩ w' (HKV.out.below hb))
      have hrr : (R0 == R0) = true := by simp
      have hrt : ((T.length : Int) == (T.length : Int)) = true := by simp
      clear HI hinv hn0 hTL hvn hlt
      rcases hcase with ⟨h1, d1, d2, d3⟩ | ⟨h1, d1, d3⟩
      · have p1 : (T.length : Int) < (nL : Int) := by simpa using d1
        have p2 : ¬ (T.length : Int) < m := by simpa using d2
        have d4 : decide (min L.length m.toNat < L.length) = true := by rw [← HTl.out]; exact decide_eq_true h1
        clear h1
        go_upto_region 13 with fail
        refine wp_region_held_drew (S := (fun W => Below wr.heap.size wr W)) (by kernel_rfl) ?_ (fun r0 => ?_)
        · exact ⟨rfl, rfl, rfl, Nat.le_refl _, fun _ _ => rfl⟩
        refine wpAnyH_take (i := 0) (v := ?_) rfl (by kernel_rfl) (by kernel_rfl) (by kernel_rfl) (fun _ _ _ h => h) (Or.inl ⟨by rfl, ?_⟩) (by assumption) ?_
        rotate_left
        · intro wS hSw
          (try dsimp only at hSw)
          go_simp
          first | done | with_reducible rfl
        try simp only [Act.put, List.getElem_toArray, List.getElem_cons_succ, List.getElem_cons_zero, List.setIfInBounds_toArray, List.set_cons_zero, List.set_cons_succ]
        refine wpAnyH_take (i := 1) (v := ?_) rfl (by kernel_rfl) (by kernel_rfl) (by kernel_rfl) (fun _ _ _ h => h) (Or.inl ⟨by rfl, ?_⟩) (by assumption) ?_
        rotate_left
        · intro wS hSw
          (try dsimp only at hSw)
          go_simp
          first | done | with_reducible rfl
        try simp only [Act.put, List.getElem_toArray, List.getElem_cons_succ, List.getElem_cons_zero, List.setIfInBounds_toArray, List.set_cons_zero, List.set_cons_succ]
        refine wpAnyH_take (i := 2) (v := ?_) rfl (by kernel_rfl) (by kernel_rfl) (by kernel_rfl) (fun _ _ _ h => h) (Or.inl ⟨by rfl, ?_⟩) (by assumption) ?_
        rotate_left
        · intro wS hSw
          (try dsimp only at hSw)
          go_simp
          first | done | with_reducible rfl
        try simp only [Act.put, List.getElem_toArray, List.getElem_cons_succ, List.getElem_cons_zero, List.setIfInBounds_toArray, List.set_cons_zero, List.set_cons_succ]
        refine wpAnyH_take (i := 3) (v := ?_) rfl (by kernel_rfl) (by kernel_rfl) (by kernel_rfl) (fun _ _ _ h => h) (Or.inl ⟨by rfl, ?_⟩) (by assumption) ?_
        rotate_left
        · intro wS hSw
          (try dsimp only at hSw)
          go_simp
          first | done | with_reducible rfl
        try simp only [Act.put, List.getElem_toArray, List.getElem_cons_succ, List.getElem_cons_zero, List.setIfInBounds_toArray, List.set_cons_zero, List.set_cons_succ]
        refine wpAnyH_take (i := 4) (v := ?_) rfl (by kernel_rfl) (by kernel_rfl) (by kernel_rfl) (fun _ _ _ h => h) (Or.inl ⟨by rfl, ?_⟩) (by assumption) ?_
        rotate_left
        · intro wS hSw
          (try dsimp only at hSw)
          go_simp
          first | done | with_reducible rfl
        try simp only [Act.put, List.getElem_toArray, List.getElem_cons_succ, List.getElem_cons_zero, List.setIfInBounds_toArray, List.set_cons_zero, List.set_cons_succ]
        refine wpAnyH_take (i := 5) (v := ?_) rfl (by kernel_rfl) (by kernel_rfl) (by kernel_rfl) (fun _ _ _ h => h) (Or.inl ⟨by rfl, ?_⟩) (by assumption) ?_
        rotate_left
        · intro wS hSw
          (try dsimp only at hSw)
          go_simp
          first | done | with_reducible rfl
        try simp only [Act.put, List.getElem_toArray, List.getElem_cons_succ, List.getElem_cons_zero, List.setIfInBounds_toArray, List.set_cons_zero, List.set_cons_succ]
        refine wpAnyH_take (i := 6) (v := ?_) rfl (by kernel_rfl) (by kernel_rfl) (by kernel_rfl) (fun _ _ _ h => h) (Or.inl ⟨by rfl, ?_⟩) (by assumption) ?_
        rotate_left
        · intro wS hSw
          (try dsimp only at hSw)
          go_simp
          first | done | with_reducible rfl
        try simp only [Act.put, List.getElem_toArray, List.getElem_cons_succ, List.getElem_cons_zero, List.setIfInBounds_toArray, List.set_cons_zero, List.set_cons_succ]
        refine wpAnyH_take (i := 7) (v := ?_) rfl (by kernel_rfl) (by kernel_rfl) (by kernel_rfl) (fun _ _ _ h => h) (Or.inl ⟨by rfl, ?_⟩) (by assumption) ?_
        rotate_left
        · intro wS hSw
          (try dsimp only at hSw)
          go_simp
          first | done | with_reducible rfl
        try simp only [Act.put, List.getElem_toArray, List.getElem_cons_succ, List.getElem_cons_zero, List.setIfInBounds_toArray, List.set_cons_zero, List.set_cons_succ]
        refine wpAnyH_take (i := 8) (v := ?_) rfl (by kernel_rfl) (by kernel_rfl) (by kernel_rfl) (fun _ _ _ h => h) (Or.inl ⟨by rfl, ?_⟩) (by assumption) ?_
        rotate_left
        · intro wS hSw
          (try dsimp only at hSw)
          go_simp
          first | done | with_reducible rfl
        try simp only [Act.put, List.getElem_toArray, List.getElem_cons_succ, List.getElem_cons_zero, List.setIfInBounds_toArray, List.set_cons_zero, List.set_cons_succ]
        refine wpAnyH_take (i := 9) (v := ?_) rfl (by kernel_rfl) (by kernel_rfl) (by kernel_rfl) (fun _ _ _ h => h) (Or.inl ⟨by rfl, ?_⟩) (by assumption) ?_
        rotate_left
        · intro wS hSw
          (try dsimp only at hSw)
          go_simp
          first | done | with_reducible rfl
        try simp only [Act.put, List.getElem_toArray, List.getElem_cons_succ, List.getElem_cons_zero, List.setIfInBounds_toArray, List.set_cons_zero, List.set_cons_succ]
        refine wpAnyH_take (i := 10) (v := ?_) rfl (by kernel_rfl) (by kernel_rfl) (by kernel_rfl) (fun _ _ _ h => h) (Or.inl ⟨by rfl, ?_⟩) (by assumption) ?_
        rotate_left
        · intro wS hSw
          (try dsimp only at hSw)
          have c0 := bcell hSw c0
          have c2 := bcell hSw c2
          have x0 := bcell hSw x0
          have x1 := bcell hSw x1
          go_simp
          first | done | with_reducible rfl
        try simp only [Act.put, List.getElem_toArray, List.getElem_cons_succ, List.getElem_cons_zero, List.setIfInBounds_toArray, List.set_cons_zero, List.set_cons_succ]
        refine wpAnyH_take (i := 11) (v := ?_) rfl (by kernel_rfl) (by kernel_rfl) (by kernel_rfl) (fun _ _ _ h => h) (Or.inl ⟨by rfl, ?_⟩) (by assumption) ?_
        rotate_left
        · intro wS hSw
          (try dsimp only at hSw)
          go_simp
          first | done | with_reducible rfl
        try simp only [Act.put, List.getElem_toArray, List.getElem_cons_succ, List.getElem_cons_zero, List.setIfInBounds_toArray, List.set_cons_zero, List.set_cons_succ]
        refine wpAnyH_take (i := 12) (v := ?_) rfl (by kernel_rfl) (by kernel_rfl) (by kernel_rfl) (fun _ _ _ h => h) (Or.inl ⟨by rfl, ?_⟩) (by assumption) ?_
        rotate_left
        · intro wS hSw
          (try dsimp only at hSw)
          go_simp
          first | done | with_reducible rfl
        try simp only [Act.put, List.getElem_toArray, List.getElem_cons_succ, List.getElem_cons_zero, List.setIfInBounds_toArray, List.set_cons_zero, List.set_cons_succ]
        refine wpAnyH_take (i := 13) (v := ?_) rfl (by kernel_rfl) (by kernel_rfl) (by kernel_rfl) (fun _ _ _ h => h) (Or.inl ⟨by rfl, ?_⟩) (by assumption) ?_
        rotate_left
        · intro wS hSw
          (try dsimp only at hSw)
          go_simp
          first | done | with_reducible rfl
        try simp only [Act.put, List.getElem_toArray, List.getElem_cons_succ, List.getElem_cons_zero, List.setIfInBounds_toArray, List.set_cons_zero, List.set_cons_succ]
        refine wpAnyH_take (i := 14) (v := ?_) rfl (by kernel_rfl) (by kernel_rfl) (by kernel_rfl) (fun _ _ _ h => h) (Or.inl ⟨by rfl, ?_⟩) (by assumption) ?_
        rotate_left
        · intro wS hSw
          (try dsimp only at hSw)
          go_simp
          first | done | with_reducible rfl
        try simp only [Act.put, List.getElem_toArray, List.getElem_cons_succ, List.getElem_cons_zero, List.setIfInBounds_toArray, List.set_cons_zero, List.set_cons_succ]
        refine wpAnyH_take (i := 15) (v := ?_) rfl (by kernel_rfl) (by kernel_rfl) (by kernel_rfl) (fun _ _ _ h => h) (Or.inl ⟨by rfl, ?_⟩) (by assumption) ?_
        rotate_left
        · intro wS hSw
          (try dsimp only at hSw)
          go_simp
          first | done | with_reducible rfl
        try simp only [Act.put, List.getElem_toArray, List.getElem_cons_succ, List.getElem_cons_zero, List.setIfInBounds_toArray, List.set_cons_zero, List.set_cons_succ]
        refine wpAnyH_take (i := 16) (v := ?_) rfl (by kernel_rfl) (by kernel_rfl) (by kernel_rfl) (fun _ _ _ h => h) (Or.inl ⟨by rfl, ?_⟩) (by assumption) ?_
        rotate_left
        · intro wS hSw
          (try dsimp only at hSw)
          go_simp
          first | done | with_reducible rfl
        try simp only [Act.put, List.getElem_toArray, List.getElem_cons_succ, List.getElem_cons_zero, List.setIfInBounds_toArray, List.set_cons_zero, List.set_cons_succ]
        refine wpAnyH_take (i := 18) (v := ?_) rfl (by kernel_rfl) (by kernel_rfl) (by kernel_rfl) (fun _ _ _ h => h) (Or.inl ⟨by rfl, ?_⟩) (by assumption) ?_
        rotate_left
        · intro wS hSw
          (try dsimp only at hSw)
          go_simp
          first | done | with_reducible rfl
        try simp only [Act.put, List.getElem_toArray, List.getElem_cons_succ, List.getElem_cons_zero, List.setIfInBounds_toArray, List.set_cons_zero, List.set_cons_succ]
        refine wpAnyH_take (i := 19) (v := ?_) rfl (by kernel_rfl) (by kernel_rfl) (by kernel_rfl) (fun _ _ _ h => h) (Or.inl ⟨by rfl, ?_⟩) (by assumption) ?_
        rotate_left
        · intro wS hSw
          (try dsimp only at hSw)
          have c0 := bcell hSw c0
          have c2 := bcell hSw c2
          have x0 := bcell hSw x0
          have x1 := bcell hSw x1
          go_simp
          first | done | with_reducible rfl
        try simp only [Act.put, List.getElem_toArray, List.getElem_cons_succ, List.getElem_cons_zero, List.setIfInBounds_toArray, List.set_cons_zero, List.set_cons_succ]
        refine wpAnyH_ready (rs := [17]) (by kernel_rfl) (by simp) ?_
        refine AllReadyH.cons rfl (fun K hK => ?_) AllReadyH.nil
        go_simp
        refine ((HRV.out _ r0)).mono ?_; rintro x w20 ⟨rfl, rfl⟩
        refine hK.out _ _ ?_ (fun r1 => ?_)
        · exact r0
        try simp only [Act.put, List.getElem_toArray, List.getElem_cons_succ, List.getElem_cons_zero, List.setIfInBounds_toArray, List.set_cons_zero, List.set_cons_succ]
        refine wpAnyH_take (i := 20) (v := ?_) rfl (by kernel_rfl) (by kernel_rfl) (by kernel_rfl) (fun _ _ _ h => h) (Or.inl ⟨by rfl, ?_⟩) (by assumption) ?_
        rotate_left
        · intro wS hSw
          (try dsimp only at hSw)
          go_simp
          first | done | with_reducible rfl
        try simp only [Act.put, List.getElem_toArray, List.getElem_cons_succ, List.getElem_cons_zero, List.setIfInBounds_toArray, List.set_cons_zero, List.set_cons_succ]
        refine wpAnyH_take (i := 21) (v := ?_) rfl (by kernel_rfl) (by kernel_rfl) (by kernel_rfl) (fun _ _ _ h => h) (Or.inl ⟨by rfl, ?_⟩) (by assumption) ?_
        rotate_left
        · intro wS hSw
          (try dsimp only at hSw)
          go_simp
          first | done | with_reducible rfl
        try simp only [Act.put, List.getElem_toArray, List.getElem_cons_succ, List.getElem_cons_zero, List.setIfInBounds_toArray, List.set_cons_zero, List.set_cons_succ]
        refine wpAnyH_take (i := 22) (v := ?_) rfl (by kernel_rfl) (by kernel_rfl) (by kernel_rfl) (fun _ _ _ h => h) (Or.inl ⟨by rfl, ?_⟩) (by assumption) ?_
        rotate_left
        · intro wS hSw
          (try dsimp only at hSw)
          go_simp
          first | done | with_reducible rfl
        try simp only [Act.put, List.getElem_toArray, List.getElem_cons_succ, List.getElem_cons_zero, List.setIfInBounds_toArray, List.set_cons_zero, List.set_cons_succ]
        refine wpAnyH_take (i := 23) (v := ?_) rfl (by kernel_rfl) (by kernel_rfl) (by kernel_rfl) (fun _ _ _ h => h) (Or.inl ⟨by rfl, ?_⟩) (by assumption) ?_
        rotate_left
        · intro wS hSw
          (try dsimp only at hSw)
          go_simp
          first | done | with_reducible rfl
        try simp only [Act.put, List.getElem_toArray, List.getElem_cons_succ, List.getElem_cons_zero, List.setIfInBounds_toArray, List.set_cons_zero, List.set_cons_succ]
        refine wpAnyH_take (i := 25) (v := ?_) rfl (by kernel_rfl) (by kernel_rfl) (by kernel_rfl) (fun _ _ _ h => h) (Or.inl ⟨by rfl, ?_⟩) (by assumption) ?_
        rotate_left
        · intro wS hSw
          (try dsimp only at hSw)
          go_simp
          first | done | with_reducible rfl
        try simp only [Act.put, List.getElem_toArray, List.getElem_cons_succ, List.getElem_cons_zero, List.setIfInBounds_toArray, List.set_cons_zero, List.set_cons_succ]
        refine wpAnyH_take (i := 26) (v := ?_) rfl (by kernel_rfl) (by kernel_rfl) (by kernel_rfl) (fun _ _ _ h => h) (Or.inl ⟨by rfl, ?_⟩) (by assumption) ?_
        rotate_left
        · intro wS hSw
          (try dsimp only at hSw)
          have c0 := bcell hSw c0
          have c2 := bcell hSw c2
          have x0 := bcell hSw x0
          have x1 := bcell hSw x1
          go_simp
          first | done | with_reducible rfl
        try simp only [Act.put, List.getElem_toArray, List.getElem_cons_succ, List.getElem_cons_zero, List.setIfInBounds_toArray, List.set_cons_zero, List.set_cons_succ]
        refine wpAnyH_ready (rs := [24]) (by kernel_rfl) (by simp) ?_
        refine AllReadyH.cons rfl (fun K hK => ?_) AllReadyH.nil
        go_simp
        refine ((all_any g P ⟨R0, L0⟩ _ (HKV.out.below r1) HZ.out.2.2.1 HZ.out.2.2.2.1)).mono ?_; rintro x w22 ⟨vq, rfl, hrq, hb22⟩
        refine hK.out _ _ ?_ (fun r2 => ?_)
        · exact bel r1 hb22
        try simp only [Act.put, List.getElem_toArray, List.getElem_cons_succ, List.getElem_cons_zero, List.setIfInBounds_toArray, List.set_cons_zero, List.set_cons_succ]
        refine wpAnyH_ready (rs := [27]) (by kernel_rfl) (by simp) ?_
        refine AllReadyH.cons rfl (fun K hK => ?_) AllReadyH.nil
        go_simp
        refine ((same_yes vq _ L0 w22 (RowE.sees hrq) (HZ.out.2.1.2.2.1.below r2) HZ.out.2.2.2.2)).mono ?_; rintro x w21 ⟨rfl, hb21⟩
        refine hK.out _ _ ?_ (fun r3 => ?_)
        · exact bel r2 hb21
        try simp only [Act.put, List.getElem_toArray, List.getElem_cons_succ, List.getElem_cons_zero, List.setIfInBounds_toArray, List.set_cons_zero, List.set_cons_succ]
        refine wpAnyH_take (i := 28) (v := ?_) rfl (by kernel_rfl) (by kernel_rfl) (by kernel_rfl) (fun _ _ _ h => h) (Or.inl ⟨by rfl, ?_⟩) (by assumption) ?_
        rotate_left
        · intro wS hSw
          (try dsimp only at hSw)
          go_simp
          first | done | with_reducible rfl
        try simp only [Act.put, List.getElem_toArray, List.getElem_cons_succ, List.getElem_cons_zero, List.setIfInBounds_toArray, List.set_cons_zero, List.set_cons_succ]
        refine wpAnyH_take (i := 29) (v := ?_) rfl (by kernel_rfl) (by kernel_rfl) (by kernel_rfl) (fun _ _ _ h => h) (Or.inl ⟨by rfl, ?_⟩) (by assumption) ?_
        rotate_left
        · intro wS hSw
          (try dsimp only at hSw)
          go_simp
          first | done | with_reducible rfl
        try simp only [Act.put, List.getElem_toArray, List.getElem_cons_succ, List.getElem_cons_zero, List.setIfInBounds_toArray, List.set_cons_zero, List.set_cons_succ]
        refine wpAnyH_ready (rs := [30]) (by kernel_rfl) (by simp) ?_
        refine AllReadyH.cons rfl (fun K hK => ?_) AllReadyH.nil
        go_simp
        refine ((awake19_any w21)).mono ?_; rintro x w14 ⟨rfl, hb14⟩
        refine hK.out _ _ ?_ (fun r4 => ?_)
        · exact bel r3 hb14
        try simp only [Act.put, List.getElem_toArray, List.getElem_cons_succ, List.getElem_cons_zero, List.setIfInBounds_toArray, List.set_cons_zero, List.set_cons_succ]
        refine wpAnyH_take (i := 31) (v := ?_) rfl (by kernel_rfl) (by kernel_rfl) (by kernel_rfl) (fun _ _ _ h => h) (Or.inl ⟨by rfl, ?_⟩) (by assumption) ?_
        rotate_left
        · intro wS hSw
          (try dsimp only at hSw)
          go_simp
          first | done | with_reducible rfl
        try simp only [Act.put, List.getElem_toArray, List.getElem_cons_succ, List.getElem_cons_zero, List.setIfInBounds_toArray, List.set_cons_zero, List.set_cons_succ]
        refine wpAnyH_take (i := 32) (v := ?_) rfl (by kernel_rfl) (by kernel_rfl) (by kernel_rfl) (fun _ _ _ h => h) (Or.inl ⟨by rfl, ?_⟩) (by assumption) ?_
        rotate_left
        · intro wS hSw
          (try dsimp only at hSw)
          go_simp
          first | done | with_reducible rfl
        try simp only [Act.put, List.getElem_toArray, List.getElem_cons_succ, List.getElem_cons_zero, List.setIfInBounds_toArray, List.set_cons_zero, List.set_cons_succ]
        refine wpAnyH_done (by kernel_rfl) ?_ _
        go_wp2_with fail
        go_ret
        exact ⟨rfl, HZ.out.1.2.2.2.2.1.trans (r4.mono HZ.out.1.2.2.2.2.1.size)⟩
      · have p1 : ¬ (T.length : Int) < (nL : Int) := by simpa using d1
        have d4 : decide (min L.length m.toNat < L.length) = false := by rw [← HTl.out]; exact decide_eq_false h1
        clear h1
        go_upto_region 13 with fail
        refine wp_region_held_drew (S := (fun W => Below wr.heap.size wr W)) (by kernel_rfl) ?_ (fun r0 => ?_)
        · exact ⟨rfl, rfl, rfl, Nat.le_refl _, fun _ _ => rfl⟩
        refine wpAnyH_take (i := 0) (v := ?_) rfl (by kernel_rfl) (by kernel_rfl) (by kernel_rfl) (fun _ _ _ h => h) (Or.inl ⟨by rfl, ?_⟩) (by assumption) ?_
        rotate_left
        · intro wS hSw
          (try dsimp only at hSw)
          go_simp
          first | done | with_reducible rfl
        try simp only [Act.put, List.getElem_toArray, List.getElem_cons_succ, List.getElem_cons_zero, List.setIfInBounds_toArray, List.set_cons_zero, List.set_cons_succ]
        refine wpAnyH_take (i := 1) (v := ?_) rfl (by kernel_rfl) (by kernel_rfl) (by kernel_rfl) (fun _ _ _ h => h) (Or.inl ⟨by rfl, ?_⟩) (by assumption) ?_
        rotate_left
        · intro wS hSw
          (try dsimp only at hSw)
          go_simp
          first | done | with_reducible rfl
        try simp only [Act.put, List.getElem_toArray, List.getElem_cons_succ, List.getElem_cons_zero, List.setIfInBounds_toArray, List.set_cons_zero, List.set_cons_succ]
        refine wpAnyH_take (i := 2) (v := ?_) rfl (by kernel_rfl) (by kernel_rfl) (by kernel_rfl) (fun _ _ _ h => h) (Or.inl ⟨by rfl, ?_⟩) (by assumption) ?_
        rotate_left
        · intro wS hSw
          (try dsimp only at hSw)
          go_simp
          first | done | with_reducible rfl
        try simp only [Act.put, List.getElem_toArray, List.getElem_cons_succ, List.getElem_cons_zero, List.setIfInBounds_toArray, List.set_cons_zero, List.set_cons_succ]
        refine wpAnyH_take (i := 3) (v := ?_) rfl (by kernel_rfl) (by kernel_rfl) (by kernel_rfl) (fun _ _ _ h => h) (Or.inl ⟨by rfl, ?_⟩) (by assumption) ?_
        rotate_left
        · intro wS hSw
          (try dsimp only at hSw)
          go_simp
          first | done | with_reducible rfl
        try simp only [Act.put, List.getElem_toArray, List.getElem_cons_succ, List.getElem_cons_zero, List.setIfInBounds_toArray, List.set_cons_zero, List.set_cons_succ]
        refine wpAnyH_take (i := 4) (v := ?_) rfl (by kernel_rfl) (by kernel_rfl) (by kernel_rfl) (fun _ _ _ h => h) (Or.inl ⟨by rfl, ?_⟩) (by assumption) ?_
        rotate_left
        · intro wS hSw
          (try dsimp only at hSw)
          go_simp
          first | done | with_reducible rfl
        try simp only [Act.put, List.getElem_toArray, List.getElem_cons_succ, List.getElem_cons_zero, List.setIfInBounds_toArray, List.set_cons_zero, List.set_cons_succ]
        refine wpAnyH_take (i := 5) (v := ?_) rfl (by kernel_rfl) (by kernel_rfl) (by kernel_rfl) (fun _ _ _ h => h) (Or.inl ⟨by rfl, ?_⟩) (by assumption) ?_
        rotate_left
        · intro wS hSw
          (try dsimp only at hSw)
          go_simp
          first | done | with_reducible rfl
        try simp only [Act.put, List.getElem_toArray, List.getElem_cons_succ, List.getElem_cons_zero, List.setIfInBounds_toArray, List.set_cons_zero, List.set_cons_succ]
        refine wpAnyH_take (i := 6) (v := ?_) rfl (by kernel_rfl) (by kernel_rfl) (by kernel_rfl) (fun _ _ _ h => h) (Or.inl ⟨by rfl, ?_⟩) (by assumption) ?_
        rotate_left
        · intro wS hSw
          (try dsimp only at hSw)
          go_simp
          first | done | with_reducible rfl
        try simp only [Act.put, List.getElem_toArray, List.getElem_cons_succ, List.getElem_cons_zero, List.setIfInBounds_toArray, List.set_cons_zero, List.set_cons_succ]
        refine wpAnyH_take (i := 7) (v := ?_) rfl (by kernel_rfl) (by kernel_rfl) (by kernel_rfl) (fun _ _ _ h => h) (Or.inl ⟨by rfl, ?_⟩) (by assumption) ?_
        rotate_left
        · intro wS hSw
          (try dsimp only at hSw)
          go_simp
          first | done | with_reducible rfl
        try simp only [Act.put, List.getElem_toArray, List.getElem_cons_succ, List.getElem_cons_zero, List.setIfInBounds_toArray, List.set_cons_zero, List.set_cons_succ]
        refine wpAnyH_take (i := 8) (v := ?_) rfl (by kernel_rfl) (by kernel_rfl) (by kernel_rfl) (fun _ _ _ h => h) (Or.inl ⟨by rfl, ?_⟩) (by assumption) ?_
        rotate_left
        · intro wS hSw
          (try dsimp only at hSw)
          go_simp
          first | done | with_reducible rfl
        try simp only [Act.put, List.getElem_toArray, List.getElem_cons_succ, List.getElem_cons_zero, List.setIfInBounds_toArray, List.set_cons_zero, List.set_cons_succ]
        refine wpAnyH_take (i := 9) (v := ?_) rfl (by kernel_rfl) (by kernel_rfl) (by kernel_rfl) (fun _ _ _ h => h) (Or.inl ⟨by rfl, ?_⟩) (by assumption) ?_
        rotate_left
        · intro wS hSw
          (try dsimp only at hSw)
          go_simp
          first | done | with_reducible rfl
        try simp only [Act.put, List.getElem_toArray, List.getElem_cons_succ, List.getElem_cons_zero, List.setIfInBounds_toArray, List.set_cons_zero, List.set_cons_succ]
        refine wpAnyH_take (i := 10) (v := ?_) rfl (by kernel_rfl) (by kernel_rfl) (by kernel_rfl) (fun _ _ _ h => h) (Or.inl ⟨by rfl, ?_⟩) (by assumption) ?_
        rotate_left
        · intro wS hSw
          (try dsimp only at hSw)
          have c0 := bcell hSw c0
          have c2 := bcell hSw c2
          have x0 := bcell hSw x0
          have x1 := bcell hSw x1
          go_simp
          first | done | with_reducible rfl
        try simp only [Act.put, List.getElem_toArray, List.getElem_cons_succ, List.getElem_cons_zero, List.setIfInBounds_toArray, List.set_cons_zero, List.set_cons_succ]
        refine wpAnyH_take (i := 11) (v := ?_) rfl (by kernel_rfl) (by kernel_rfl) (by kernel_rfl) (fun _ _ _ h => h) (Or.inl ⟨by rfl, ?_⟩) (by assumption) ?_
        rotate_left
        · intro wS hSw
          (try dsimp only at hSw)
          go_simp
          first | done | with_reducible rfl
        try simp only [Act.put, List.getElem_toArray, List.getElem_cons_succ, List.getElem_cons_zero, List.setIfInBounds_toArray, List.set_cons_zero, List.set_cons_succ]
        refine wpAnyH_take (i := 12) (v := ?_) rfl (by kernel_rfl) (by kernel_rfl) (by kernel_rfl) (fun _ _ _ h => h) (Or.inl ⟨by rfl, ?_⟩) (by assumption) ?_
        rotate_left
        · intro wS hSw
          (try dsimp only at hSw)
          go_simp
          first | done | with_reducible rfl
        try simp only [Act.put, List.getElem_toArray, List.getElem_cons_succ, List.getElem_cons_zero, List.setIfInBounds_toArray, List.set_cons_zero, List.set_cons_succ]
        refine wpAnyH_take (i := 13) (v := ?_) rfl (by kernel_rfl) (by kernel_rfl) (by kernel_rfl) (fun _ _ _ h => h) (Or.inl ⟨by rfl, ?_⟩) (by assumption) ?_
        rotate_left
        · intro wS hSw
          (try dsimp only at hSw)
          go_simp
          first | done | with_reducible rfl
        try simp only [Act.put, List.getElem_toArray, List.getElem_cons_succ, List.getElem_cons_zero, List.setIfInBounds_toArray, List.set_cons_zero, List.set_cons_succ]
        refine wpAnyH_take (i := 14) (v := ?_) rfl (by kernel_rfl) (by kernel_rfl) (by kernel_rfl) (fun _ _ _ h => h) (Or.inl ⟨by rfl, ?_⟩) (by assumption) ?_
        rotate_left
        · intro wS hSw
          (try dsimp only at hSw)
          go_simp
          first | done | with_reducible rfl
        try simp only [Act.put, List.getElem_toArray, List.getElem_cons_succ, List.getElem_cons_zero, List.setIfInBounds_toArray, List.set_cons_zero, List.set_cons_succ]
        refine wpAnyH_take (i := 15) (v := ?_) rfl (by kernel_rfl) (by kernel_rfl) (by kernel_rfl) (fun _ _ _ h => h) (Or.inl ⟨by rfl, ?_⟩) (by assumption) ?_
        rotate_left
        · intro wS hSw
          (try dsimp only at hSw)
          go_simp
          first | done | with_reducible rfl
        try simp only [Act.put, List.getElem_toArray, List.getElem_cons_succ, List.getElem_cons_zero, List.setIfInBounds_toArray, List.set_cons_zero, List.set_cons_succ]
        refine wpAnyH_take (i := 16) (v := ?_) rfl (by kernel_rfl) (by kernel_rfl) (by kernel_rfl) (fun _ _ _ h => h) (Or.inl ⟨by rfl, ?_⟩) (by assumption) ?_
        rotate_left
        · intro wS hSw
          (try dsimp only at hSw)
          go_simp
          first | done | with_reducible rfl
        try simp only [Act.put, List.getElem_toArray, List.getElem_cons_succ, List.getElem_cons_zero, List.setIfInBounds_toArray, List.set_cons_zero, List.set_cons_succ]
        refine wpAnyH_take (i := 18) (v := ?_) rfl (by kernel_rfl) (by kernel_rfl) (by kernel_rfl) (fun _ _ _ h => h) (Or.inl ⟨by rfl, ?_⟩) (by assumption) ?_
        rotate_left
        · intro wS hSw
          (try dsimp only at hSw)
          go_simp
          first | done | with_reducible rfl
        try simp only [Act.put, List.getElem_toArray, List.getElem_cons_succ, List.getElem_cons_zero, List.setIfInBounds_toArray, List.set_cons_zero, List.set_cons_succ]
        refine wpAnyH_take (i := 19) (v := ?_) rfl (by kernel_rfl) (by kernel_rfl) (by kernel_rfl) (fun _ _ _ h => h) (Or.inl ⟨by rfl, ?_⟩) (by assumption) ?_
        rotate_left
        · intro wS hSw
          (try dsimp only at hSw)
          have c0 := bcell hSw c0
          have c2 := bcell hSw c2
          have x0 := bcell hSw x0
          have x1 := bcell hSw x1
          go_simp
          first | done | with_reducible rfl
        try simp only [Act.put, List.getElem_toArray, List.getElem_cons_succ, List.getElem_cons_zero, List.setIfInBounds_toArray, List.set_cons_zero, List.set_cons_succ]
        refine wpAnyH_ready (rs := [17]) (by kernel_rfl) (by simp) ?_
        refine AllReadyH.cons rfl (fun K hK => ?_) AllReadyH.nil
        go_simp
        refine ((HRV.out _ r0)).mono ?_; rintro x w20 ⟨rfl, rfl⟩
        refine hK.out _ _ ?_ (fun r1 => ?_)
        · exact r0
        try simp only [Act.put, List.getElem_toArray, List.getElem_cons_succ, List.getElem_cons_zero, List.setIfInBounds_toArray, List.set_cons_zero, List.set_cons_succ]
        refine wpAnyH_take (i := 20) (v := ?_) rfl (by kernel_rfl) (by kernel_rfl) (by kernel_rfl) (fun _ _ _ h => h) (Or.inl ⟨by rfl, ?_⟩) (by assumption) ?_
        rotate_left
        · intro wS hSw
          (try dsimp only at hSw)
          go_simp
          first | done | with_reducible rfl
        try simp only [Act.put, List.getElem_toArray, List.getElem_cons_succ, List.getElem_cons_zero, List.setIfInBounds_toArray, List.set_cons_zero, List.set_cons_succ]
        refine wpAnyH_take (i := 21) (v := ?_) rfl (by kernel_rfl) (by kernel_rfl) (by kernel_rfl) (fun _ _ _ h => h) (Or.inl ⟨by rfl, ?_⟩) (by assumption) ?_
        rotate_left
        · intro wS hSw
          (try dsimp only at hSw)
          go_simp
          first | done | with_reducible rfl
        try simp only [Act.put, List.getElem_toArray, List.getElem_cons_succ, List.getElem_cons_zero, List.setIfInBounds_toArray, List.set_cons_zero, List.set_cons_succ]
        refine wpAnyH_take (i := 22) (v := ?_) rfl (by kernel_rfl) (by kernel_rfl) (by kernel_rfl) (fun _ _ _ h => h) (Or.inl ⟨by rfl, ?_⟩) (by assumption) ?_
        rotate_left
        · intro wS hSw
          (try dsimp only at hSw)
          go_simp
          first | done | with_reducible rfl
        try simp only [Act.put, List.getElem_toArray, List.getElem_cons_succ, List.getElem_cons_zero, List.setIfInBounds_toArray, List.set_cons_zero, List.set_cons_succ]
        refine wpAnyH_take (i := 23) (v := ?_) rfl (by kernel_rfl) (by kernel_rfl) (by kernel_rfl) (fun _ _ _ h => h) (Or.inl ⟨by rfl, ?_⟩) (by assumption) ?_
        rotate_left
        · intro wS hSw
          (try dsimp only at hSw)
          go_simp
          first | done | with_reducible rfl
        try simp only [Act.put, List.getElem_toArray, List.getElem_cons_succ, List.getElem_cons_zero, List.setIfInBounds_toArray, List.set_cons_zero, List.set_cons_succ]
        refine wpAnyH_take (i := 25) (v := ?_) rfl (by kernel_rfl) (by kernel_rfl) (by kernel_rfl) (fun _ _ _ h => h) (Or.inl ⟨by rfl, ?_⟩) (by assumption) ?_
        rotate_left
        · intro wS hSw
          (try dsimp only at hSw)
          go_simp
          first | done | with_reducible rfl
        try simp only [Act.put, List.getElem_toArray, List.getElem_cons_succ, List.getElem_cons_zero, List.setIfInBounds_toArray, List.set_cons_zero, List.set_cons_succ]
        refine wpAnyH_take (i := 26) (v := ?_) rfl (by kernel_rfl) (by kernel_rfl) (by kernel_rfl) (fun _ _ _ h => h) (Or.inl ⟨by rfl, ?_⟩) (by assumption) ?_
        rotate_left
        · intro wS hSw
          (try dsimp only at hSw)
          have c0 := bcell hSw c0
          have c2 := bcell hSw c2
          have x0 := bcell hSw x0
          have x1 := bcell hSw x1
          go_simp
          first | done | with_reducible rfl
        try simp only [Act.put, List.getElem_toArray, List.getElem_cons_succ, List.getElem_cons_zero, List.setIfInBounds_toArray, List.set_cons_zero, List.set_cons_succ]
        refine wpAnyH_ready (rs := [24]) (by kernel_rfl) (by simp) ?_
        refine AllReadyH.cons rfl (fun K hK => ?_) AllReadyH.nil
        go_simp
        refine ((all_any g P ⟨R0, L0⟩ _ (HKV.out.below r1) HZ.out.2.2.1 HZ.out.2.2.2.1)).mono ?_; rintro x w22 ⟨vq, rfl, hrq, hb22⟩
        refine hK.out _ _ ?_ (fun r2 => ?_)
        · exact bel r1 hb22
        try simp only [Act.put, List.getElem_toArray, List.getElem_cons_succ, List.getElem_cons_zero, List.setIfInBounds_toArray, List.set_cons_zero, List.set_cons_succ]
        refine wpAnyH_ready (rs := [27]) (by kernel_rfl) (by simp) ?_
        refine AllReadyH.cons rfl (fun K hK => ?_) AllReadyH.nil
        go_simp
        refine ((same_yes vq _ L0 w22 (RowE.sees hrq) (HZ.out.2.1.2.2.1.below r2) HZ.out.2.2.2.2)).mono ?_; rintro x w21 ⟨rfl, hb21⟩
        refine hK.out _ _ ?_ (fun r3 => ?_)
        · exact bel r2 hb21
        try simp only [Act.put, List.getElem_toArray, List.getElem_cons_succ, List.getElem_cons_zero, List.setIfInBounds_toArray, List.set_cons_zero, List.set_cons_succ]
        refine wpAnyH_take (i := 28) (v := ?_) rfl (by kernel_rfl) (by kernel_rfl) (by kernel_rfl) (fun _ _ _ h => h) (Or.inl ⟨by rfl, ?_⟩) (by assumption) ?_
        rotate_left
        · intro wS hSw
          (try dsimp only at hSw)
          go_simp
          first | done | with_reducible rfl
        try simp only [Act.put, List.getElem_toArray, List.getElem_cons_succ, List.getElem_cons_zero, List.setIfInBounds_toArray, List.set_cons_zero, List.set_cons_succ]
        refine wpAnyH_take (i := 29) (v := ?_) rfl (by kernel_rfl) (by kernel_rfl) (by kernel_rfl) (fun _ _ _ h => h) (Or.inl ⟨by rfl, ?_⟩) (by assumption) ?_
        rotate_left
        · intro wS hSw
          (try dsimp only at hSw)
          go_simp
          first | done | with_reducible rfl
        try simp only [Act.put, List.getElem_toArray, List.getElem_cons_succ, List.getElem_cons_zero, List.setIfInBounds_toArray, List.set_cons_zero, List.set_cons_succ]
        refine wpAnyH_ready (rs := [30]) (by kernel_rfl) (by simp) ?_
        refine AllReadyH.cons rfl (fun K hK => ?_) AllReadyH.nil
        go_simp
        refine ((awake19_any w21)).mono ?_; rintro x w14 ⟨rfl, hb14⟩
        refine hK.out _ _ ?_ (fun r4 => ?_)
        · exact bel r3 hb14
        try simp only [Act.put, List.getElem_toArray, List.getElem_cons_succ, List.getElem_cons_zero, List.setIfInBounds_toArray, List.set_cons_zero, List.set_cons_succ]
        refine wpAnyH_take (i := 31) (v := ?_) rfl (by kernel_rfl) (by kernel_rfl) (by kernel_rfl) (fun _ _ _ h => h) (Or.inl ⟨by rfl, ?_⟩) (by assumption) ?_
        rotate_left
        · intro wS hSw
          (try dsimp only at hSw)
          go_simp
          first | done | with_reducible rfl
        try simp only [Act.put, List.getElem_toArray, List.getElem_cons_succ, List.getElem_cons_zero, List.setIfInBounds_toArray, List.set_cons_zero, List.set_cons_succ]
        refine wpAnyH_take (i := 32) (v := ?_) rfl (by kernel_rfl) (by kernel_rfl) (by kernel_rfl) (fun _ _ _ h => h) (Or.inl ⟨by rfl, ?_⟩) (by assumption) ?_
        rotate_left
        · intro wS hSw
          (try dsimp only at hSw)
          go_simp
          first | done | with_reducible rfl
        try simp only [Act.put, List.getElem_toArray, List.getElem_cons_succ, List.getElem_cons_zero, List.setIfInBounds_toArray, List.set_cons_zero, List.set_cons_succ]
        refine wpAnyH_done (by kernel_rfl) ?_ _
        go_wp2_with fail
        go_ret
        exact ⟨rfl, HZ.out.1.2.2.2.2.1.trans (r4.mono HZ.out.1.2.2.2.2.1.size)⟩
theorem lawMachRunsF (w : World) (v : Value) (os : List KOp) (m : Int) (h : ArgOps9 w v os) (h1 : -9223372036854775808 ≤ m) (h2 : m ≤ 9223372036854775807) : Calls Try.prog 4 #[v, .int .i64 m] w fun e w' => e = .returned (.bool true) ∧ Below w.heap.size w w' := lawMachRuns w v os m h h1 h2
end Go.Proofs.Ytholgmcfgnifdaa
