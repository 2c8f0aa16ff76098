/- The walk of FrameTorn. -/
import Derived.Test.YtmniihpfnmpcfaaDoorFrTorn
namespace Go.Proofs.YtmniihpfnmpcfaaDoor
open Go.RowKit
theorem rows_ne {w : World} {B B' : Nat} {e e' : TypeId} {size size' n n' : Nat} {v v' : Value} {xs xs' : List Value} (h : w.ownsRow B e size v n xs) (h' : w.ownsRow B' e' size' v' n' xs') (hne : e ≠ e') {d : Nat} (hv : v.ownBlock = some d) : v'.ownBlock ≠ some d := by
  intro hv'
  obtain ⟨_, ⟨rfl, _⟩ | ⟨g, cap, cur, rfl, _, hg, _⟩⟩ := h
  · cases hv
  · obtain ⟨_, ⟨rfl, _⟩ | ⟨g', cap', cur', rfl, _, hg', _⟩⟩ := h'
    · cases hv'
    · have e1 : g = d := by simpa [Value.ownBlock] using hv
      have e2 : g' = d := by simpa [Value.ownBlock] using hv'
      subst e1 e2
      rw [hg] at hg'
      injection hg' with h1
      injection h1 with _ h2
      exact hne h2
theorem row_kept {w w' : World} {B B' : Nat} {e e' : TypeId} {size size' n n' : Nat} {v v' : Value} {xs xs' : List Value} (h : w.ownsRow B e size v n xs) (h' : w.ownsRow B' e' size' v' n' xs') (hne : e ≠ e') (hg : w.grownBy w' v'.ownBlock) : w'.ownsRow B e size v n xs :=
  World.ownsRow.kept h hg (by
    cases hv : v.ownBlock with
    | none => exact Or.inl rfl
    | some d => exact Or.inr (fun e => rows_ne h h' hne hv e.symm))
abbrev ints (es : List Int) : List Value := es.map (Value.int .i64)
/-- A row of numbers of the call's own. -/
abbrev RowI (w : World) (B : Nat) (v : Value) (es : List Int) : Prop := w.ownsRow B 3 1 v es.length (ints es)
theorem infoI : (Tryd.prog.info? 3).map (fun i => (i.zero, i.size, i.bytes)) = some (some (.int .i64 0), 1, 8) := by kernel_rfl
theorem RowE.kept {w w' : World} {B : Nat} {v : Value} {ls : List (List Int)} (h : RowE w B v ls) {B' : Nat} {e' : TypeId} {size' n' : Nat} {v' : Value} {xs' : List Value} (h' : w.ownsRow B' e' size' v' n' xs') (hne : 22 ≠ e') (hg : w.grownBy w' v'.ownBlock) (hb : Below B w w') : RowE w' B v ls := by
  refine h.below hb fun d hd => ?_
  obtain ⟨vs, hl, ho, he⟩ := h
  exact hg.block d (ho.lt d hd).2 (fun e => rows_ne ho h' hne hd e.symm)
/-- append of one number to a row of numbers. -/
theorem wpList_pushI {w0 : World} {ops : Array Oper} {rest : List Oper} {o : Oper} {a : Act} {Q : Exit → Act → World → Prop} (hgd : o.guard = none) (s x : Operand)
    (ho : o.op = .call { callee := .builtin .append, args := #[s, x], argTypes := #[38, 38] }) (B : Nat) (v : Value) (es : List Int) (k : Int)
    (hs : a.eval s = v) (hx : a.eval x = .slice (some ⟨w0.heap.size, 0, none⟩) 1 1) (hrow : RowI w0 B v es) (hlen : es.length ≤ 100000) (hB : B ≤ w0.heap.size)
    (h : ∀ v' w', RowI w' B v' (es ++ [k]) → w0.grownBy w' v.ownBlock → Below B w0 w' → wpList Tryd.prog ops Q rest (a.put o.dst v') w') :
    wpList Tryd.prog ops Q (o :: rest) a (w0.alloc (.cells #[.int .i64 k] 3)) := by
  obtain ⟨i0, hi, hz0, hz1, hz2⟩ := info_parts infoI
  refine wpList_append_own_at _ hgd s x 38 ho B 3 i0 (.int .i64 0) 1 8 Tryd.underlying38 hi hz0 hz1 hz2 rfl (by decide) v _ _ hs (hrow.alloc _) ⟨w0.heap.size, 0, none⟩ 1 1 [.int .i64 k] hx rfl (cell_one_new _ _ _) ?_ (by unfold maxLen; omega) (by omega) (by simp; omega) ?_
  · intro y hy
    obtain rfl := List.mem_singleton.1 hy
    rfl
  · intro v' w' hown' hgrow _ _
    have hg0 : w0.grownBy w' v.ownBlock := World.grownBy.trans (b := w0.alloc (.cells #[.int .i64 k] 3)) ⟨rfl, rfl, rfl, by simp, fun k hk _ => Below.heap_alloc w0 _ k hk⟩ hgrow
    refine h v' w' ?_ hg0 ((Below.refl B w0).grown hg0 hB (fun k hk => (hrow.lt k hk).1))
    unfold RowI ints
    rw [List.length_append, List.map_append]
    exact hown'
theorem SeesRow.head {w : World} {ao : Option Addr} {c : Nat} {ls : List (List Int)} (h : SeesRow w (.slice ao ls.length c) ls) {n : Nat} (hn : n ≤ ls.length) : SeesRow w (.slice ao n c) (ls.take n) := by
  obtain ⟨ao0, c0, he, hlc, hnil, hc⟩ := h
  cases he
  have e : (ls.take n).length = n := by rw [List.length_take]; omega
  refine ⟨ao, c, by rw [e], by omega, fun h => by rw [hnil h]; exact List.take_nil, fun a ha i hi => ?_⟩
  rw [e] at hi
  obtain ⟨u, h1, h2⟩ := hc a ha i (by omega)
  exact ⟨u, h1, by simpa only [List.getD, List.getElem?_take, if_pos hi] using h2⟩
def SeesI (w : World) (v : Value) (es : List Int) : Prop :=
  ∃ (ao : Option Addr) (c : Nat), v = .slice ao es.length c ∧ es.length ≤ c ∧ (ao = none → es = []) ∧ ∀ a, ao = some a → ∀ i, i < es.length → w.cell? (a.add i) = some (.int .i64 (es.getD i 0))
theorem RowI.sees {w : World} {B : Nat} {v : Value} {es : List Int} (h : RowI w B v es) : SeesI w v es := by
  have hc := fun g hg => World.ownsRow.cells h (g := g) hg
  obtain ⟨_, ⟨rfl, hn⟩ | ⟨g, cap, cur, rfl, _, _, hnc, _, _, _⟩⟩ := h
  · obtain rfl := List.eq_nil_of_length_eq_zero hn
    exact ⟨none, 0, rfl, Nat.le_refl _, fun _ => rfl, fun a ha => by cases ha⟩
  · exact ⟨some ⟨g, 0, none⟩, cap, rfl, hnc, (fun e => by cases e), fun a ha i hi => (by cases ha; exact hc g rfl i _ (by simp [List.getD, List.getElem?_eq_getElem hi]))⟩
theorem endsF_nn : ∀ (ps : List (List Int)) (k : Nat), ∀ e ∈ endsF k ps, 0 ≤ e
  | [], _, _, h => by cases h
  | p :: ps, k, e, h => by
    rcases List.mem_cons.1 h with rfl | h
    · omega
    · exact endsF_nn ps _ e h
theorem tally_leA (c : Nat) : ∀ (l : List Int) (s : Nat × Nat), (l.foldl (fun s e => if e ≤ (c : Int) then (s.1 + 1, e.toNat) else s) s).1 ≤ s.1 + l.length
  | [], _ => Nat.le_refl _
  | e :: l, s => by
    rw [List.foldl_cons]
    have := tally_leA c l (if e ≤ (c : Int) then (s.1 + 1, e.toNat) else s)
    rw [List.length_cons]
    by_cases h : e ≤ (c : Int)
    · rw [if_pos h] at this ⊢
      simp only [] at this
      omega
    · rw [if_neg h] at this ⊢
      omega
theorem tally_le (c : Nat) (l : List Int) : (tally c l).1 ≤ l.length := by
  have := tally_leA c l (0, 0)
  simpa [tally] using this
set_option maxRecDepth 100000 in
set_option maxHeartbeats 8000000 in
theorem lawTorn (w : World) (b : Value) (xs : List (List Int)) (k0 : Int) (h : ArgRow w b xs) (k1 : 0 ≤ k0) (k2 : k0 < 65536) (hE : Env w) :
    Calls Tryd.prog 5 #[b, .int .u16 k0] w fun e w' => e = .returned (.bool true) ∧ Below w.heap.size w w' := by
  obtain ⟨A, rfl⟩ := Int.eq_ofNat_of_zero_le k1
  obtain ⟨⟨ao, c, rfl, hlc, hnil, hc⟩, hok, hm⟩ := h
  unfold maxLen at hm
  have HC := Lib.hid (And.intro hnil hc)
  have HO := Lib.hid hok
  have HK := Lib.hid k2
  clear hnil hc hok k1 k2
  go_enter Tryd.func5, Tryd.ntmps5
  go_wp2_with fail
  go_loopw [5, 6, 7, 23] (fun a y x j wr => ∃ i : Nat, j = .int .i64 i ∧ i ≤ xs.length ∧ ∃ ps : List (List Int), goodP ps ∧ ps.length ≤ i ∧ ps.length ≤ 8 ∧ Owns wr w.heap.size a (flatF ps) ∧ RowI wr w.heap.size y (endsF 0 ps) ∧ RowE wr w.heap.size x ps ∧ Below w.heap.size w wr) (fun _ _ _ j _ => xs.length - (intOf j).toNat)
  case atStart => exact ⟨0, rfl, Nat.zero_le _, [], (fun p hp => by cases hp), Nat.le_refl _, Nat.zero_le _, Owns.nil _ _, World.ownsRow_nil _ _ _ _, RowE.nil _ _, Below.refl _ _⟩
  case round =>
    obtain ⟨i, rfl, hi, ps, hgood, hpi, hp10, hown, hends, hrow, hbel⟩ := hrel
    by_cases hlt : i < xs.length
    · obtain ⟨a, rfl⟩ : ∃ a, ao = some a := by
        cases ao with
        | none => rw [HC.out.1 rfl] at hlt; simp at hlt
        | some a => exact ⟨a, rfl⟩
      obtain ⟨u, hcu, hsu⟩ := HC.out.2 a rfl i hlt
      have hcell : wr.cell? (a.add i) = some u := by rw [hbel.cell (cell_lt8 hcu)]; exact hcu
      have hmem : xs.getD i [] ∈ xs := by simp [List.getD, hlt]
      obtain ⟨ho1, hm1⟩ := HO.out _ hmem
      have HF := Lib.hid (few5_any u _ wr (hsu.keep hbel) hm1)
      have HU : Hid (xs.getD i [] ≠ [] → ∀ d, u.ownBlock = some d → d < w.heap.size) := Lib.hid (by
        obtain ⟨bo, cb, rfl, _, _, hcb⟩ := hsu
        intro hne d hd
        cases bo with
        | none => cases hd
        | some b0 =>
          have := cell_lt8 (hcb b0 rfl 0 (List.length_pos_iff.2 hne))
          rw [add_block] at this
          cases hd
          exact this)
      obtain ⟨P, hP⟩ : ∃ P, P = (xs.getD i []).take 200 := ⟨_, rfl⟩
      have hPl : P.length ≤ 200 := by rw [hP, List.length_take]; omega
      have HPo : Hid (okB P) := Lib.hid (by rw [hP]; exact ho1.take _)
      have HPn : Hid (P ≠ [] → xs.getD i [] ≠ []) := Lib.hid (fun h1 h2 => h1 (by rw [hP, h2]; rfl))
      rw [← hP] at HF
      have b0 : (0 : Int) ≤ (i : Int) := by omega
      have b1 : (i : Int) < (xs.length : Int) := by omega
      clear hP hcu hsu hmem ho1 hm1
      have HG := Lib.hid hgood
      have HW := Lib.hid (And.intro hown (And.intro hends hrow))
      have hB0 := hbel.size
      clear hgood hown hends hrow
      by_cases hP0 : P = []
      · subst hP0
        obtain ⟨D, hD⟩ : ∃ D, decide ((i : Int) < 8) = D := ⟨_, rfl⟩
        go_wp2_with fail
        refine HF.out.mono ?_; rintro e w1 ⟨v1, rfl, hs1, hd1, rfl⟩
        go_wp2_with fail
        refine (fput_no v1 _ hs1).mono ?_; rintro e w1 ⟨rfl, rfl⟩
        cases D
        all_goals
          go_wp2_with fail
          go_roundw
          case rel => exact ⟨i + 1, by go_num, by omega, ps, HG.out, by omega, hp10, HW.out.1, HW.out.2.1, HW.out.2.2, hbel⟩
          case measure => simp [intOf]; omega
      · have h1 : 1 ≤ P.length := List.length_pos_iff.2 hP0
        have HU := Lib.hid (HU.out (HPn.out hP0))
        have HQ := Lib.hid hP0
        clear hP0
        go_wp2_with fail
        refine HF.out.mono ?_; rintro e w1 ⟨v1, rfl, hs1, hd1, rfl⟩
        go_wp2_with fail
        refine (fput_any v1 P _ hs1 HPo.out h1 (by omega) (hE.below hbel)).mono ?_; rintro e w2 ⟨v2, rfl, ho2, hb2⟩
        have hbel2 := bel hbel hb2
        have hz2 := hbel2.size
        have hoA := HW.out.1.keep hb2
        have hiA : RowI w2 w.heap.size u6 (endsF 0 ps) := World.ownsRow.kept HW.out.2.1 (row := none) ⟨hb2.os, hb2.tape, hb2.output, hb2.size, fun k hk _ => hb2.block k hk⟩ (by cases hv : u6.ownBlock <;> simp)
        have hrA := HW.out.2.2.keep hb2 hB0
        by_cases h10 : i < 8
        · have d0 : decide ((i : Int) < 8) = true := by simp; omega
          have hfl := flatF_len ps HG.out
          have hFn : frameL P ≠ [] := by intro h; have := frameL_len P; rw [h] at this; simp at this; omega
          have HS1 := Lib.hid (hs1.keep hb2)
          obtain ⟨G, hG⟩ : ∃ G, G = flatF ps ++ frameL P := ⟨_, rfl⟩
          have HEN : Hid (endsF 0 (ps ++ [P]) = endsF 0 ps ++ [(G.length : Int)]) := Lib.hid (by rw [endsF_snoc, hG, Nat.zero_add])
          have HGG : Hid (G = flatF (ps ++ [P])) := Lib.hid (by rw [flatF_snoc, hG])
          have HNX : Hid (∀ v' w', Owns w' w.heap.size v' G → w2.grownBy w' u5.ownBlock → Below w.heap.size w2 w' → RowI w' w.heap.size u6 (endsF 0 ps) ∧ RowE w' w.heap.size u7 ps ∧ Sees w' v1 P) :=
            Lib.hid fun v' w' _ hg hb => ⟨row_kept hiA hoA (by decide) hg, hrA.kept hoA (by decide) hg hb, sees_heap HS1.out (fun d hd _ => hb.block d (HU.out d (hd1 d hd)))⟩
          have HNX2 : Hid (∀ w3 v3 w', Owns w3 w.heap.size v3 G → RowI w3 w.heap.size u6 (endsF 0 ps) → RowE w3 w.heap.size u7 ps → Sees w3 v1 P → w3.grownBy w' u6.ownBlock → Below w.heap.size w3 w' → Owns w' w.heap.size v3 G ∧ RowE w' w.heap.size u7 ps ∧ Sees w' v1 P) :=
            Lib.hid fun w3 v3 w' h1 h2 h3 h4 hg hb => ⟨row_kept h1 h2 (by decide) hg, h3.kept h2 (by decide) hg hb, sees_heap h4 (fun d hd _ => hb.block d (HU.out d (hd1 d hd)))⟩
          have HG2 := Lib.hid hG
          have hel := endsF_len ps 0
          have HEL := Lib.hid hel
          clear hG hel
          obtain ⟨ao1, c1, rfl, -⟩ := id hs1
          go_wp2_with (first
            | (at_builtin; refine wpList_append_bytes rfl (.tmp 41) (.tmp 42) rfl w.heap.size u5 (flatF ps) (frameL P) v2 rfl rfl hoA ho2.sees hFn (by rw [frameL_len]; omega) hz2 ?_; intro v3 w3 ho3 hg3 hb3; rw [← HG2.out] at ho3; obtain ⟨hi3, hr3, hs3⟩ := HNX.out v3 w3 ho3 hg3 hb3; have hz3 := Nat.le_trans hz2 hg3.size; obtain ⟨a3, c3, hv3, -⟩ := id ho3.sees; subst hv3)
            | (at_builtin; refine wpList_pushI rfl (.tmp 44) (.tmp 47) rfl w.heap.size u6 (endsF 0 ps) _ rfl rfl hi3 (by rw [HEL.out]; omega) hz3 ?_; intro v4 w4 hi4 hg4 hb4; obtain ⟨ho4, hr4, hs4⟩ := HNX2.out _ _ _ ho3 hi3 hr3 hs3 hg4 hb4; have hz4 := Nat.le_trans hz3 hg4.size)
            | (at_builtin; refine wpList_pushE rfl (.tmp 49) (.tmp 51) rfl w.heap.size u7 (.slice ao1 P.length c1) ps P rfl rfl hr4 hs4 (fun d hd => HU.out d (hd1 d hd)) (by omega) hz4 ?_; intro v5 w5 hr5 hg5 hb5)
            | fail)
          go_roundw
          case rel =>
            refine ⟨i + 1, by go_num, by omega, ps ++ [P], goodP_snoc HG.out ⟨HPo.out, h1, hPl⟩, by rw [List.length_append, List.length_singleton]; omega, by rw [List.length_append, List.length_singleton]; omega, ?_, ?_, hr5, hbel2.trans (hb3.trans (hb4.trans hb5))⟩
            · rw [← HGG.out]
              obtain ⟨vs, _, hrr, _⟩ := hr4
              exact row_kept ho4 hrr (by decide) hg5
            · rw [HEN.out]
              obtain ⟨vs, _, hrr, _⟩ := hr4
              exact row_kept hi4 hrr (by decide) hg5
          case measure => simp [intOf]; omega
        · have d0 : decide ((i : Int) < 8) = false := by simp; omega
          go_wp2_with fail
          go_roundw
          case rel => exact ⟨i + 1, by go_num, by omega, ps, HG.out, by omega, hp10, hoA, hiA, hrA, hbel2⟩
          case measure => simp [intOf]; omega
    · obtain rfl : i = xs.length := by omega
      have HG := Lib.hid hgood
      have hB0 := hbel.size
      clear hgood
      have hfl := flatF_len ps HG.out
      have HF := Lib.hid (flatF_ok ps HG.out)
      have hel := endsF_len ps 0
      have HEN := Lib.hid (endsF_nn ps 0)
      have hro := (hrow.row hB0).sees
      have hse := RowI.sees hends
      obtain ⟨C, hC⟩ : ∃ C, C = A % ((flatF ps).length + 1) := ⟨_, rfl⟩
      have hCl : C ≤ (flatF ps).length := Nat.lt_succ_iff.1 (by rw [hC]; exact Nat.mod_lt _ (Nat.succ_pos _))
      have hta := Lib.hid (torn_all ps C 0 HG.out (Nat.zero_le _) (by omega))
      have hat := Lib.hid (cntTo_at C ps 0)
      have htl := Lib.hid (tally_ends C ps)
      obtain ⟨F, hF⟩ : ∃ F, F = flatF ps := ⟨_, rfl⟩
      obtain ⟨E, hE2⟩ : ∃ E, E = endsF 0 ps := ⟨_, rfl⟩
      rw [← hF] at hown hfl HF hCl hta hC
      rw [← hE2] at hse hel HEN htl
      have hsee := hown.sees
      obtain ⟨a5, c5, he5, h5, -⟩ := id hsee
      obtain ⟨a6, c6, he6, h6, hn6, hc6⟩ := id hse
      obtain ⟨a7, c7, he7, h7, -⟩ := id hro
      subst he5 he6 he7
      have A6 := Lib.hid (And.intro hn6 hc6)
      have HR := Lib.hid hro
      have HS := Lib.hid hsee
      have HH := Lib.hid (And.intro hF hE2)
      have hel2 : E.length ≤ 8 := by omega
      have HEL := Lib.hid hel
      clear hF hE2 hn6 hc6 hown hends hrow hro hse hsee hel
      have s1 : IntKind.i64.wrap ((F.length : Int) + 1) = F.length + 1 := IntWalk.i64_in _ (by omega)
      have s2 : (A : Int) % ((F.length : Int) + 1) = C := by rw [hC, Int.natCast_emod, Int.natCast_add]; rfl
      have s3 : Int.tmod (A : Int) ((F.length : Int) + 1) = C := by rw [Int.tmod_eq_emod_of_nonneg (by omega)]; exact s2
      have s4 : IntKind.i64.wrap (A : Int) = A := IntWalk.i64_in _ (by have := HK.out; omega)
      have s5 : ¬ ((F.length : Int) + 1 = 0) := by omega
      have s6 : (((F.length : Int) + 1) == 0) = false := by simpa using s5
      clear hC
      go_wp2_with fail
      go_loop [13, 14, 62] (fun x y j => ∃ m : Nat, m ≤ E.length ∧ j = .int .i64 m ∧ x = .int .i64 ((tally C (E.take m)).1 : Nat) ∧ y = .int .i64 ((tally C (E.take m)).2 : Nat)) (fun _ _ j => E.length - (intOf j).toNat)
      case atStart => exact ⟨0, Nat.zero_le _, rfl, rfl, rfl⟩
      case round =>
        obtain ⟨m, hme, rfl, rfl, rfl⟩ := hrel
        by_cases hm2 : m < E.length
        · obtain ⟨a, rfl⟩ : ∃ a, a6 = some a := by
            cases a6 with
            | none => rw [A6.out.1 rfl] at hm2; simp at hm2
            | some a => exact ⟨a, rfl⟩
          have hcell := A6.out.2 a rfl m hm2
          have htk := take_snocI E m hm2
          have hnn := HEN.out (E.getD m 0) (by simp [List.getD, hm2])
          have HT := Lib.hid (tally_snoc C (E.take m) (E.getD m 0))
          rw [← htk] at HT
          have hle : (tally C (E.take m)).1 ≤ 8 := by have := tally_le C (E.take m); rw [List.length_take] at this; omega
          obtain ⟨N, hN⟩ : ∃ N, N = (tally C (E.take m)).1 := ⟨_, rfl⟩
          obtain ⟨L, hL⟩ : ∃ L, L = (tally C (E.take m)).2 := ⟨_, rfl⟩
          have HTm : Hid (tally C (E.take m) = (N, L)) := Lib.hid (by rw [hN, hL])
          rw [← hN] at hle
          rw [HTm.out] at HT
          obtain ⟨V, hV⟩ : ∃ V, V = E.getD m 0 := ⟨_, rfl⟩
          rw [← hV] at HT hcell hnn
          rw [← hN, ← hL]
          have g0 : (0 : Int) ≤ (m : Int) := by omega
          have g1 : (m : Int) < (E.length : Int) := by omega
          have s7 : IntKind.i64.wrap ((N : Int) + 1) = N + 1 := IntWalk.i64_in _ (by omega)
          have hVn : (V.toNat : Int) = V := by omega
          have HVn := Lib.hid hVn
          clear hN hL hV htk hVn
          by_cases hle2 : V ≤ (C : Int)
          · have d1 : decide (V ≤ (C : Int)) = true := by simpa using hle2
            have HT2 := HT.out
            rw [if_pos hle2] at HT2
            have HT2 := Lib.hid HT2
            clear hle2
            go_wp2_with fail
            go_round
            case rel => exact ⟨m + 1, by omega, by go_num, by rw [HT2.out]; go_num, by rw [HT2.out]; exact congrArg (Value.int .i64) HVn.out.symm⟩
            case measure => simp [intOf]; omega
          · have d1 : decide (V ≤ (C : Int)) = false := by simpa using hle2
            have HT2 := HT.out
            rw [if_neg hle2] at HT2
            have HT2 := Lib.hid HT2
            clear hle2
            go_wp2_with fail
            go_round
            case rel => exact ⟨m + 1, by omega, by go_num, by rw [HT2.out], by rw [HT2.out]⟩
            case measure => simp [intOf]; omega
        · obtain rfl : m = E.length := by omega
          rw [List.take_length]
          have hcl := hat.out
          have hta2 := hta.out
          rw [← htl.out] at hcl
          rw [Nat.sub_zero, Nat.sub_zero, ← htl.out] at hta2
          obtain ⟨N, hN⟩ : ∃ N, N = (tally C E).1 := ⟨_, rfl⟩
          obtain ⟨L, hL⟩ : ∃ L, L = (tally C E).2 := ⟨_, rfl⟩
          rw [← hN, ← hL] at hcl hta2
          rw [← hN, ← hL]
          have n1 : N ≤ ps.length := hcl.1
          have n2 : L ≤ C := hcl.2.2 (Nat.zero_le _)
          have HA := Lib.hid hta2
          have n3 : N ≤ c7 := by omega
          clear hcl hta2 hN hL
          by_cases hLC : L = C
          all_goals
            have HA2 := HA.out
            first | rw [if_pos hLC] at HA2 | rw [if_neg hLC] at HA2
            have HA2 := Lib.hid HA2
            first
              | (have d2 : (((L : Nat) : Int) == (C : Int)) = true := by simp [hLC]; done)
              | (have d2 : (((L : Nat) : Int) == (C : Int)) = false := by simp; omega)
            have HLC := Lib.hid hLC
            clear hLC
            go_wp2_with fail
            refine (all_any _ (F.take C) _ (sees_head HS.out hCl) (HF.out.take C) (by rw [List.length_take]; omega) (hE.below hbel)).mono ?_; rintro e w1 ⟨v1, ls, k, x, rfl, hr1, ha1, hb1⟩
            obtain ⟨rfl, rfl, rfl⟩ := AllIs.same _ _ _ _ _ _ _ HA2.out ha1
            have hb2 := bel hbel hb1
            go_wp2_with fail
            refine (same_any v1 _ (ps.take N) _ hr1.sees ((SeesRow.head HR.out n1).keep hb1) (by rw [List.length_take]; omega)).mono ?_; rintro e w3 ⟨rfl, n, rfl⟩
            have hb3 := below_drewN hb2 n
            go_wp2_with fail
            refine (awake5_any _ (hE.below hb3)).mono ?_; rintro e w4 ⟨rfl, hb4⟩
            go_wp2_with fail
            go_ret
            exact ⟨rfl, bel hb3 hb4⟩
end Go.Proofs.YtmniihpfnmpcfaaDoor
