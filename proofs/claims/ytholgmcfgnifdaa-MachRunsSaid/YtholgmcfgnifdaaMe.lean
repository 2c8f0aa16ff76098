/- slices.Clone of items; Feed. -/
import Derived.Test.YtholgmcfgnifdaaMd
import Derived.Lib.SliceRun
namespace Go.Proofs.Ytholgmcfgnifdaa
open Go.RowKit Go.Maps
theorem neqNN (w : World) : (binOp .neq 71 .nilFunc .nilFunc).run Try.prog w = .ok (.bool false) w := by kernel_rfl
theorem neqFN (fn : Fn) (fi ca : Array Value) (w : World) : (binOp .neq 71 (.func fn fi ca) .nilFunc).run Try.prog w = .ok (.bool true) w := by kernel_rfl
theorem eqNN (w : World) : (binOp .eql 59 .nilFunc .nilFunc).run Try.prog w = .ok (.bool true) w := by kernel_rfl
theorem eqFN (fn : Fn) (fi ca : Array Value) (w : World) : (binOp .eql 59 (.func fn fi ca) .nilFunc).run Try.prog w = .ok (.bool false) w := by kernel_rfl
theorem sees_flatI {w : World} {a : Addr} {c : Nat} {L : List KEnt} (h : SeesI w (.slice (some a) L.length c) L) : ∀ j u, (L.flatMap encI)[j]? = some u → w.cell? (a.add j) = some u := by
  obtain ⟨ao, c', e, -, -, hc⟩ := h
  obtain rfl : ao = some a := by cases e; rfl
  intro j u hj
  have hlt : j < (L.flatMap encI).length := (List.getElem?_eq_some_iff.1 hj).1
  have hfl : (L.flatMap encI).length = L.length * 3 := flat_lenG (s := 3) (enc := encI) (fun _ => rfl) L
  rw [hfl] at hlt
  have hi : j / 3 < L.length := by omega
  have hp : L[j / 3]? = some (L[j / 3]'hi) := List.getElem?_eq_getElem hi
  obtain ⟨q0, q1, q2⟩ := hc a rfl (j / 3) _ hp
  have hm : j % 3 < 3 := Nat.mod_lt _ (by decide)
  have e1 : j / 3 * 3 + j % 3 = j := by omega
  have hat := flat_atI L (j / 3) (j % 3) _ hp hm
  rw [e1, hj] at hat
  have ea : a.add j = (a.add (j / 3 * 3)).add (j % 3) := by rw [Addr.add_add, e1]
  rw [ea]
  generalize j % 3 = k at *
  rcases k with _ | _ | _ | k
  · obtain rfl : u = _ := Option.some.inj hat
    exact q0
  · obtain rfl : u = _ := Option.some.inj hat
    exact q1
  · obtain rfl : u = _ := Option.some.inj hat
    exact q2
  · omega
theorem rowI_slice {E : TypeId} {w : World} {B : Nat} {v : Value} {L : List KEnt} (h : RowE E w B v L) : ∃ ao n c, v = .slice ao n c := by
  obtain ⟨ao, c, e, -⟩ := RowE.sees h
  exact ⟨ao, _, c, e⟩
theorem flat_oneI (L : List KEnt) : ∀ u ∈ L.flatMap encI, u.oneCell' = true := by
  intro u hu
  obtain ⟨p, -, hp⟩ := List.mem_flatMap.1 hu
  simp only [List.mem_cons, List.not_mem_nil, or_false] at hp
  rcases hp with rfl | rfl | rfl <;> rfl
set_option maxRecDepth 100000 in
set_option maxHeartbeats 4000000 in
theorem cloneI_any (v : Value) (L : List KEnt) (w : World) (h : SeesI w v L) (hl : L.length ≤ 1000000) :
    Calls Try.prog 25 #[v] w fun e w' => ∃ v', e = .returned v' ∧ RowI w' w.heap.size v' L ∧ Below w.heap.size w w' := by
  obtain ⟨ao, c, rfl, hlc, hnil, hc⟩ := id h
  cases ao with
  | none =>
    obtain rfl : L = [] := hnil rfl
    have hq : ∀ w, (binOp .eql 47 (.slice none 0 c) (.slice none 0 0)).run Try.prog w = .ok (.bool true) w := fun w => Lib.run_eql_slice_nil w 47 76 none 0 c 0 0 Try.underlying47
    clear h hc hnil
    go_enter Try.func25, Try.ntmps25
    go_wp2_with fail
    go_ret
    exact ⟨_, rfl, World.ownsRow_nil _ _ _ _, Below.refl _ _⟩
  | some a =>
    obtain ⟨i0, hi, hz0, hz1, hz2⟩ := info_parts infoK
    have HO : Hid ((w.alloc (.cells #[] 76)).ownsRow w.heap.size 76 3 (.slice (some ⟨w.heap.size, 0, none⟩) 0 0) 0 []) := Lib.hid (World.ownsRow_lit (base := w.heap.size) (e := 76) (size := 3) w #[] 0 (Nat.le_refl _) (by unfold maxLen; omega) rfl)
    have HS := Lib.hid (sees_flatI (h.below (belNew w (.cells #[] 76))))
    have hq : ∀ w, (binOp .eql 47 (.slice (some a) L.length c) (.slice none 0 0)).run Try.prog w = .ok (.bool false) w := fun w => Lib.run_eql_slice_nil w 47 76 (some a) L.length c 0 0 Try.underlying47
    clear h hc hnil
    go_enter Try.func25, Try.ntmps25
    go_wp2_with (at_builtin; refine wpList_append_own _ rfl _ _ 47 rfl w.heap.size 76 i0 zeroF 3 40 Try.underlying47 hi hz0 hz1 hz2 rfl (by decide) (.slice (some ⟨w.heap.size, 0, none⟩) 0 0) 0 [] rfl HO.out a L.length c (L.flatMap encI) rfl (flat_lenG (s := 3) (enc := encI) (fun _ => rfl) L) HS.out (flat_oneI L) (by unfold maxLen; omega) (by omega) (belNew w _).size ?_; intro v' w' ho hg hn)
    go_ret
    refine ⟨_, rfl, ?_, (belNew w _).grown hg (belNew w _).size (fun j hj => by cases hj; exact Nat.le_refl _)⟩
    have ho2 : RowI w' w.heap.size v' L := by
      have := ho
      rw [Nat.zero_add, List.nil_append] at this
      exact this
    exact ho2
set_option maxRecDepth 100000 in
set_option maxHeartbeats 4000000 in
theorem feed_idle (gp : Nat) (o : KOp) (f : Value) (n : Int) (r : KRes) (v : Value) (w : World) (hp : ProcAt w gp o false f n) (hv : ∃ ao N c, v = .slice ao N c) :
    Calls Try.prog 12 #[ptr gp, kres r v] w fun e w' => e = .returned (.bool false) ∧ Below w.heap.size w w' := by
  obtain ⟨ao, N, c, rfl⟩ := hv
  have c6 := bcell (belNew w (resO r.code r.rev r.val (.slice ao N c))) hp.asks.1
  have q := eqNilPr
  clear hp
  go_enter Try.func12, Try.ntmps12
  go_wp2_with fail
  go_ret
  exact ⟨rfl, belNew w _⟩
set_option maxRecDepth 100000 in
set_option maxHeartbeats 4000000 in
theorem feed_nil (r : KRes) (v : Value) (w : World) (hv : ∃ ao N c, v = .slice ao N c) :
    Calls Try.prog 12 #[.pointer none, kres r v] w fun e w' => e = .returned (.bool false) ∧ Below w.heap.size w w' := by
  obtain ⟨ao, N, c, rfl⟩ := hv
  have q := eqNilPr
  go_enter Try.func12, Try.ntmps12
  go_wp2_with fail
  go_ret
  exact ⟨rfl, belNew w _⟩
set_option maxRecDepth 100000 in
set_option maxHeartbeats 4000000 in
theorem feedN_any (gp : Nat) (o : KOp) (n : Int) (r : KRes) (v : Value) (w : World) (hp : ProcAt w gp o true .nilFunc n) (hv : ∃ ao N c, v = .slice ao N c) (hn : 0 ≤ n ∧ n ≤ 1000000000) :
    Calls Try.prog 12 #[ptr gp, kres r v] w fun e w' => e = .returned (.bool true) ∧ ProcAt w' gp opZ false .nilFunc (n + 1) ∧ Touch (· = gp) w w' := by
  obtain ⟨ao, N, c, rfl⟩ := hv
  obtain ⟨W, hW⟩ : ∃ W, W = w.alloc (resO r.code r.rev r.val (.slice ao N c)) := ⟨_, rfl⟩
  have hb0 := belNew w (resO r.code r.rev r.val (.slice ao N c))
  have hB := heap_alloc_new w (resO r.code r.rev r.val (.slice ao N c))
  rw [← hW] at hb0 hB
  have HP := Lib.hid (hp.below hb0)
  have HB := Lib.hid (And.intro hb0 hB)
  have c6 := HP.out.asks.1
  have c7 := HP.out.asks.2.1
  have q := eqNilPr
  have sn := storeNo
  have qN := neqNN
  have qF := neqFN
  have HW := Lib.hid hW
  have c8 := HP.out.asks.2.2
  have e1 : IntKind.i64.wrap (n + 1) = n + 1 := IntWalk.i64_in _ (by omega)
  clear hb0 hB hp hW
  go_enter Try.func12, Try.ntmps12
  go_upto_region 1 with fail
  change Code.wp _ _ _ _ (w.alloc (resO r.code r.rev r.val (.slice ao N c)))
  rw [← HW.out]
  clear HW
  go_upto_region 5 with (refine wpStOp (o1 := opZ) rfl _ _ rfl rfl rfl HP.out ?_; intro w2 hP2 hg2; have HP2 := Lib.hid hP2; have HG2 := Lib.hid hg2; have c6 := hP2.asks.1; have c7 := hP2.asks.2.1; have z6 := hP2.froz 6; have z7 := hP2.froz 7; clear hP2 hg2)
  have hP3 := (HP2.out.setAsk false).setThen .nilFunc
  have ht3 := (((Touch.of_below (· = gp) HB.out.1).trans (Touch.of_grown HG2.out (P := (· = gp)) (fun _ hk => (Option.some.inj hk).symm)) (fun _ _ h => h)).trans (touch_set w2 gp 6 (.bool false)) (fun _ _ h => h)).trans (touch_set _ gp 7 .nilFunc) (fun _ _ h => h)
  generalize (w2.setCell ⟨gp, 6, none⟩ (.bool false)).setCell ⟨gp, 7, none⟩ .nilFunc = w3 at *
  have c8 := hP3.asks.2.2
  have z8 := hP3.froz 8
  have HF := Lib.hid (And.intro hP3 ht3)
  clear hP3 ht3 c6 c7 z6 z7 HP2 HG2
  go_wp2_with fail
  go_ret
  exact ⟨rfl, HF.out.1.setSteps _, HF.out.2.trans (touch_set w3 gp 8 _) (fun _ _ h => h)⟩
set_option maxRecDepth 100000 in
set_option maxHeartbeats 4000000 in
theorem feedH_any (B gc gp : Nat) (lv tv : Value) (os : List KOp) (T : List TEnt) (n : Int) (r : KRes) (v : Value) (w : World) (h : ChR w B gc gp os lv T tv) (hp : ProcAt w gp (nextO os T.length) true (hearF gc) n) (hlm : os.length ≤ 1000000) (hT : T.length ≤ 1000000) (hv : SeesI w v r.its) (hil : r.its.length ≤ 1000000) (hvg : ∀ d, v.ownBlock = some d → d ≠ gp) (hn : 0 ≤ n ∧ n ≤ 1000000000) :
    Calls Try.prog 12 #[ptr gp, kres r v] w fun e w' => e = .returned (.bool true) ∧ ∃ p tv', p.1 = (r.code, r.rev, r.val) ∧ ChR w' B gc gp os lv (T ++ [p]) tv' ∧ ProcAt w' gp (nextO os (T.length + 1)) (decide (T.length + 1 < os.length)) (nextF gc os (T.length + 1)) (n + 1) ∧
      SeesI w' (.slice p.2.1 p.2.2.1 p.2.2.2) r.its ∧ (∀ d, (Value.slice p.2.1 p.2.2.1 p.2.2.2).ownBlock = some d → w.heap.size ≤ d ∧ tv'.ownBlock ≠ some d ∧ d < w'.heap.size) ∧ Touch (Ztn gc gp tv) w w' ∧ ∀ d, tv'.ownBlock = some d → tv.ownBlock = some d ∨ w.heap.size ≤ d := by
  obtain ⟨ao, c, hve⟩ : ∃ ao c, v = .slice ao r.its.length c := by obtain ⟨ao, c, e, -⟩ := hv; exact ⟨ao, c, e⟩
  obtain ⟨code, rev, val, its⟩ := r
  simp only [] at hve hv hil ⊢
  generalize hNe : its.length = N at hve hil
  have HNE := Lib.hid hNe
  clear hNe
  subst hve
  obtain ⟨W, hW⟩ : ∃ W, W = w.alloc (resO code rev val (.slice ao N c)) := ⟨_, rfl⟩
  have hb0 := belNew w (resO code rev val (.slice ao N c))
  have hB := heap_alloc_new w (resO code rev val (.slice ao N c))
  rw [← hW] at hb0 hB
  have HP := Lib.hid (hp.below hb0)
  have HB := Lib.hid (And.intro hb0 hB)
  have c6 := HP.out.asks.1
  have c7 := HP.out.asks.2.1
  have q := eqNilPr
  have sn := storeNo
  have qN := neqNN
  have qF := neqFN
  have HW := Lib.hid hW
  have e1 : IntKind.i64.wrap (n + 1) = n + 1 := IntWalk.i64_in _ (by omega)
  have HH := Lib.hid (And.intro h (And.intro (h.below hb0) (And.intro (hv.below hb0) (And.intro hlm (And.intro hT (And.intro hil (And.intro hn hvg)))))))
  clear hb0 hB hp hW h hlm hT hv hil hn hvg
  go_enter Try.func12, Try.ntmps12
  go_upto_region 1 with fail
  change Code.wp _ _ _ _ (w.alloc (resO code rev val (.slice ao N c)))
  rw [← HW.out]
  clear HW
  go_upto_region 6 with (refine wpStOp (o1 := opZ) rfl _ _ rfl rfl rfl HP.out ?_; intro w2 hP2 hg2; have HP2 := Lib.hid hP2; have HG2 := Lib.hid hg2; have c6 := hP2.asks.1; have c7 := hP2.asks.2.1; have z6 := hP2.froz 6; have z7 := hP2.froz 7; clear hP2 hg2)
  have hP3 := (HP2.out.setAsk false).setThen .nilFunc
  have ht3 := ((Touch.of_grown HG2.out (P := (· = gp)) (fun _ hk => (Option.some.inj hk).symm)).trans (touch_set w2 gp 6 (.bool false)) (fun _ _ h => h)).trans (touch_set _ gp 7 .nilFunc) (fun _ _ h => h)
  generalize (w2.setCell ⟨gp, 6, none⟩ (.bool false)).setCell ⟨gp, 7, none⟩ .nilFunc = w3 at *
  have hcr3 := HH.out.2.1.proc ht3
  have hpB := HH.out.1.2.2.2.2.2.1
  have hBw := HH.out.1.2.2.2.2.2.2.2
  have hr3 := (ht3.2.2.2.2 w.heap.size (heap_lt HB.out.2) (fun e => by omega)).trans HB.out.2
  obtain ⟨m0, m1, m2, m3, y0, y1, y2, y3⟩ := four hr3
  have HC := Lib.hid (And.intro hP3 (And.intro ht3 (And.intro hcr3 hr3)))
  clear hP3 ht3 hcr3 hr3 hpB hBw c6 c7 z6 z7 HP2 HG2 HP
  have HS3 : Hid (SeesI w3 (.slice ao N c) its) := Lib.hid (HH.out.2.2.1.keep (fun d hd hlt => HC.out.2.1.2.2.2.2 d hlt (HH.out.2.2.2.2.2.2.2 d hd)))
  go_upto_region 7 with (go_at_call 25; refine (cloneI_any (.slice ao N c) its w3 HS3.out (by rw [HNE.out]; exact HH.out.2.2.2.2.2.1)).mono ?_; rintro e w4 ⟨v4, rfl, hrow4, hb4⟩; obtain ⟨ao4, n4, c4, rfl⟩ := rowI_slice hrow4; have hr4 := (hb4.block _ (heap_lt HC.out.2.2.2)).trans HC.out.2.2.2; obtain ⟨m0, m1, m2, m3, y0, y1, y2, y3⟩ := four hr4)
  have hr4 := (hb4.block _ (heap_lt HC.out.2.2.2)).trans HC.out.2.2.2
  have hr5 : (w4.setCell ⟨w.heap.size, 3, none⟩ (.slice ao4 n4 c4)).heap[w.heap.size]? = some (resO code rev val (.slice ao4 n4 c4)) := dset hr4 3 _
  have ht5 := touch_set w4 w.heap.size 3 (.slice ao4 n4 c4)
  have hBw := HH.out.1.2.2.2.2.2.2.2
  have hgcB := HH.out.1.2.2.2.2.1
  have hgpB := HH.out.1.2.2.2.2.2.1
  have hw3 : w.heap.size < w3.heap.size := heap_lt HC.out.2.2.2
  have hcr5 : ChR (w4.setCell ⟨w.heap.size, 3, none⟩ (.slice ao4 n4 c4)) B gc gp os lv T tv := (HC.out.2.2.1.below hb4).keep ht5 (by omega) (fun d hd e => by have := (HH.out.1.2.2.2.2.2.2.1 d hd).2.2; omega) (fun d hd e => by have := (HH.out.1.2.2.1.form d hd).2; omega)
  have hp5 := (HC.out.1.below hb4).keep (ht5.2.2.2.2 gp (heap_lt (HC.out.1.below hb4)) (by omega))
  have hs5 : SeesI (w4.setCell ⟨w.heap.size, 3, none⟩ (.slice ao4 n4 c4)) (.slice ao4 n4 c4) its := (RowE.sees hrow4).keep (fun d hd hlt => ht5.2.2.2.2 d hlt (fun e => by have := (World.ownsRow.lt hrow4 d hd).1; omega))
  have ho5 : ∀ d, (Value.slice ao4 n4 c4).ownBlock = some d → w3.heap.size ≤ d ∧ d < (w4.setCell ⟨w.heap.size, 3, none⟩ (.slice ao4 n4 c4)).heap.size := fun d hd => ⟨(World.ownsRow.lt hrow4 d hd).1, Nat.lt_of_lt_of_le (World.ownsRow.lt hrow4 d hd).2 ht5.2.2.2.1⟩
  have htw : Touch (Ztn gc gp tv) w (w4.setCell ⟨w.heap.size, 3, none⟩ (.slice ao4 n4 c4)) := (((Touch.of_below (Ztn gc gp tv) HB.out.1).trans HC.out.2.1 (fun _ _ e => Or.inl e)).trans (Touch.of_below (Ztn gc gp tv) hb4) (fun _ _ h => h)).trans ht5 (fun i hi e => by omega)
  generalize w4.setCell ⟨w.heap.size, 3, none⟩ (.slice ao4 n4 c4) = w5 at *
  have HHe := Lib.hid (hear_any B gc gp lv tv os T n ((code, rev, val), (ao4, n4, c4)) w5 hcr5 hp5 HH.out.2.2.2.1 HH.out.2.2.2.2.1)
  have HF := Lib.hid (And.intro hs5 (And.intro ho5 htw))
  have HG : Hid (w.heap.size < w3.heap.size ∧ w3.heap.size ≤ w5.heap.size) := Lib.hid ⟨hw3, HC.out.2.1.2.2.2.1 |> fun _ => Nat.le_trans hb4.size ht5.2.2.2.1⟩
  obtain ⟨m0, m1, m2, m3, -⟩ := four hr5
  clear hr4 hr5 ht5 hcr5 hp5 hs5 ho5 htw hw3 hrow4 hb4 HS3 y0 y1 y2 y3 hBw hgcB hgpB
  go_upto_region 8 with (refine HHe.out.mono ?_; rintro e w6 ⟨rfl, tv', hcr6, hp6, ht6, ho6⟩)
  have HZ := Lib.hid (And.intro hcr6 (And.intro hp6 (And.intro ht6 ho6)))
  have c8 := hp6.asks.2.2
  have z8 := hp6.froz 8
  clear hcr6 hp6 ht6 ho6 m0 m1 m2 m3 HHe
  go_wp2_with fail
  go_ret
  obtain ⟨hcr6, hp6, ht6, ho6⟩ := HZ.out
  have htn := touch_set w6 gp 8 (.int .i64 (n + 1))
  have hlt0 : ∀ i, Ztn gc gp tv i → i < w.heap.size := fun i hi => by
    have h1 := HH.out.1.2.2.2.2.2.2.2
    have h2 := HH.out.1.2.2.2.2.1
    have h3 := HH.out.1.2.2.2.2.2.1
    rcases hi with e | e | e
    · omega
    · omega
    · exact (HH.out.1.2.2.1.form i e).2
  have hsz := HG.out
  refine ⟨rfl, ((code, rev, val), (ao4, n4, c4)), tv', rfl, hcr6.proc htn, hp6.setSteps _, ?_, fun d hd => ?_, (HF.out.2.2.trans ht6 (fun _ _ h => h)).trans htn (fun _ _ e => Or.inl e), fun d hd => ?_⟩
  · refine (HF.out.1.keep (fun d hd hlt => ht6.2.2.2.2 d hlt (fun hz => ?_))).keep (fun d hd hlt => htn.2.2.2.2 d hlt (fun e => ?_))
    · have := hlt0 d hz; have := (HF.out.2.1 d hd).1; omega
    · have := hlt0 d (Or.inl e); have := (HF.out.2.1 d hd).1; omega
  · obtain ⟨h1, h2⟩ := HF.out.2.1 d hd
    refine ⟨by omega, fun e => ?_, Nat.lt_of_lt_of_le h2 (Nat.le_trans ht6.2.2.2.1 htn.2.2.2.1)⟩
    rcases ho6 d e with h3 | h3
    · have := hlt0 d (Or.inr (Or.inr h3)); omega
    · omega
  · rcases ho6 d hd with h3 | h3
    · exact Or.inl h3
    · exact Or.inr (by omega)
end Go.Proofs.Ytholgmcfgnifdaa
