/- Rows of records, and what All comes to, the project's and the reference's. Conditions: the world facts of Env; bytes are bytes; the bounds said of each. -/
import Derived.Test.YtkjdfelmjanpcaaDoorFrRef
import Derived.Test.YtkjdfelmjanpcaaDoorRows2
import Derived.Maps.AppendAt
namespace Go.Proofs.YtkjdfelmjanpcaaDoor
open Go.RowKit
/-- A row of the call's own that holds slices which read so; none of them lies in the row's block. -/
def RowO (w : World) (B : Nat) (v : Value) (ls : List (List Int)) : Prop :=
  ∃ vs : List Value, vs.length = ls.length ∧ w.ownsRow B 32 1 v ls.length vs ∧ ∀ i, i < ls.length → Sees w (vs.getD i undef) (ls.getD i []) ∧ ∀ d, (vs.getD i undef).ownBlock = some d → d < w.heap.size ∧ v.ownBlock ≠ some d
theorem RowO.nil (w : World) (B : Nat) : RowO w B (.slice none 0 0) [] := ⟨[], rfl, World.ownsRow_nil _ _ _ _, fun i hi => by cases hi⟩
theorem RowO.sees {w : World} {B : Nat} {v : Value} {ls : List (List Int)} (h : RowO w B v ls) : SeesRow w v ls := by
  obtain ⟨vs, hl, ho, he⟩ := h
  have hc := fun g hg => World.ownsRow.cells ho (g := g) hg
  obtain ⟨_, ⟨rfl, hn⟩ | ⟨g, cap, cur, rfl, _, _, hnc, _, _, _⟩⟩ := ho
  · obtain rfl := List.eq_nil_of_length_eq_zero hn
    exact ⟨none, 0, rfl, Nat.le_refl _, fun _ => rfl, fun a ha => by cases ha⟩
  · exact ⟨some ⟨g, 0, none⟩, cap, rfl, hnc, (fun e => by cases e), fun a ha i hi => (by
      cases ha
      exact ⟨vs.getD i undef, hc g rfl i _ (by simp [List.getD, List.getElem?_eq_getElem (show i < vs.length by omega)]), (he i hi).1⟩)⟩
theorem RowO.keep {w w' : World} {B : Nat} {v : Value} {ls : List (List Int)} (h : RowO w B v ls) (hb : Below w.heap.size w w') : RowO w' B v ls := by
  obtain ⟨vs, hl, ho, he⟩ := h
  refine ⟨vs, hl, ⟨ho.1, ho.2.imp id fun ⟨g, cap, cur, e, hB, hg, r⟩ => ⟨g, cap, cur, e, hB, (hb.block g (heap_lt hg)).trans hg, r⟩⟩, fun i hi => ⟨(he i hi).1.keep hb, fun d hd => ⟨?_, ((he i hi).2 d hd).2⟩⟩⟩
  exact Nat.lt_of_lt_of_le ((he i hi).2 d hd).1 hb.size
theorem RowO.le {w : World} {B B' : Nat} {v : Value} {ls : List (List Int)} (h : RowO w B v ls) (hb : B' ≤ B) : RowO w B' v ls := by
  obtain ⟨vs, hl, ho, he⟩ := h
  exact ⟨vs, hl, ⟨ho.1, ho.2.imp id fun ⟨a, b, c, d, e, f⟩ => ⟨a, b, c, d, Nat.le_trans hb e, f⟩⟩, he⟩
theorem RowO.lt {w : World} {B : Nat} {v : Value} {ls : List (List Int)} (h : RowO w B v ls) {d : Nat} (hd : v.ownBlock = some d) : B ≤ d ∧ d < w.heap.size := by
  obtain ⟨vs, hl, ho, he⟩ := h
  exact ho.lt d hd
theorem info22 : (Tryd.prog.info? 32).map (fun i => (i.zero, i.size, i.bytes)) = some (some (.slice none 0 0), 1, 24) := by kernel_rfl
/-- append of one slice to a row of the call's own. -/
theorem wpList_push {w0 : World} {ops : Array Oper} {rest : List Oper} {o : Oper} {a : Act} {Q : Exit → Act → World → Prop} (hgd : o.guard = none) (s x : Operand)
    (ho : o.op = .call { callee := .builtin .append, args := #[s, x], argTypes := #[49, 49] }) (B : Nat) (v u : Value) (ls : List (List Int)) (p : List Int)
    (hs : a.eval s = v) (hx : a.eval x = .slice (some ⟨w0.heap.size, 0, none⟩) 1 1) (hrow : RowO w0 B v ls) (hu : Sees w0 u p) (hud : ∀ d, u.ownBlock = some d → d < w0.heap.size ∧ v.ownBlock ≠ some d) (hlen : ls.length ≤ 100000) (hB : B ≤ w0.heap.size)
    (h : ∀ v' w', RowO w' B v' (ls ++ [p]) → w0.grownBy w' v.ownBlock → Below B w0 w' → (v'.ownBlock = v.ownBlock ∨ v'.ownBlock = some (w0.heap.size + 1)) → wpList Tryd.prog ops Q rest (a.put o.dst v') w') :
    wpList Tryd.prog ops Q (o :: rest) a (w0.alloc (.cells #[u] 32)) := by
  obtain ⟨i0, hi, hz0, hz1, hz2⟩ := info_parts info22
  obtain ⟨vs, hl, hown, he⟩ := hrow
  refine wpList_append_own_at _ hgd s x 49 ho B 32 i0 (.slice none 0 0) 1 24 Tryd.underlying49 hi hz0 hz1 hz2 rfl (by decide) v _ vs hs (hown.alloc _) ⟨w0.heap.size, 0, none⟩ 1 1 [u] hx rfl (cell_one_new _ _ _) ?_ (by unfold maxLen; omega) (by omega) (by simp; omega) ?_
  · intro y hy
    obtain rfl := List.mem_singleton.1 hy
    obtain ⟨ao, c, rfl, _⟩ := hu
    rfl
  · intro v' w' hown' hgrow _ hat
    have hg0 : w0.grownBy w' v.ownBlock := World.grownBy.trans (b := w0.alloc (.cells #[u] 32)) ⟨rfl, rfl, rfl, by simp, fun k hk _ => Below.heap_alloc w0 _ k hk⟩ hgrow
    rw [show (w0.alloc (.cells #[u] 32)).heap.size = w0.heap.size + 1 from by simp] at hat
    have hsz := hg0.size
    have hsz2 : w0.heap.size + 1 ≤ w'.heap.size := by
      have := hgrow.size
      simp at this
      omega
    refine h v' w' ⟨vs ++ [u], by simp [hl], by rw [List.length_append]; exact hown', fun i hi' => ?_⟩ hg0 ((Below.refl B w0).grown hg0 hB (fun k hk => (hown.lt k hk).1)) hat
    have key : ∀ (y : Value) (q : List Int), Sees w0 y q → (∀ d, y.ownBlock = some d → d < w0.heap.size ∧ v.ownBlock ≠ some d) → Sees w' y q ∧ ∀ d, y.ownBlock = some d → d < w'.heap.size ∧ v'.ownBlock ≠ some d := by
      intro y q hy hyd
      refine ⟨sees_heap hy (fun d hd hlt => hg0.block d hlt (fun e => (hyd d hd).2 e.symm)), fun d hd => ⟨by have := (hyd d hd).1; omega, fun e => ?_⟩⟩
      rcases hat with h1 | h1
      · exact (hyd d hd).2 (h1.symm.trans e)
      · rw [e] at h1
        have := (hyd d hd).1
        have := Option.some.inj h1
        omega
    by_cases hlt : i < ls.length
    · have e1 : (vs ++ [u]).getD i undef = vs.getD i undef := by simp only [List.getD]; rw [List.getElem?_append_left (by omega)]
      have e2 : (ls ++ [p]).getD i [] = ls.getD i [] := by simp only [List.getD]; rw [List.getElem?_append_left hlt]
      rw [e1, e2]
      exact key _ _ (he i hlt).1 (he i hlt).2
    · obtain rfl : i = ls.length := by rw [List.length_append, List.length_singleton] at hi'; omega
      have e1 : (vs ++ [u]).getD ls.length undef = u := by simp only [List.getD]; rw [← hl, List.getElem?_concat_length]; rfl
      have e2 : (ls ++ [p]).getD ls.length [] = p := by simp only [List.getD]; rw [List.getElem?_concat_length]; rfl
      rw [e1, e2]
      exact key _ _ hu hud
/-! All records, one behind the other. -/
def Steps : List (List Int) → List Int → Nat → Prop
  | [], _, k => k = 0
  | p :: ls, l, k => nextE l = 0 ∧ nextP l = p ∧ ∃ k', Steps ls (l.drop (nextN l)) k' ∧ k = nextN l + k'
theorem Steps.snoc : ∀ (ls : List (List Int)) (l : List Int) (k : Nat), Steps ls l k → nextE (l.drop k) = 0 → Steps (ls ++ [nextP (l.drop k)]) l (k + nextN (l.drop k))
  | [], l, k, h, he => by
    obtain rfl : k = 0 := h
    rw [List.drop_zero] at he
    rw [List.drop_zero]
    exact ⟨he, rfl, 0, rfl, by omega⟩
  | p :: ls, l, k, h, he => by
    obtain ⟨h1, h2, k', h3, rfl⟩ := h
    rw [← List.drop_drop] at he
    have ih := Steps.snoc ls _ _ h3 he
    rw [List.drop_drop] at ih
    exact ⟨h1, h2, _, ih, by omega⟩
def AllIs (ls : List (List Int)) (l : List Int) (k e : Nat) : Prop := Steps ls l k ∧ nextE (l.drop k) = e ∧ e ≠ 0
theorem AllIs.same : ∀ (ls ls' : List (List Int)) (l : List Int) (k k' e e' : Nat), AllIs ls l k e → AllIs ls' l k' e' → ls = ls' ∧ k = k' ∧ e = e'
  | [], [], l, k, k', e, e', h, h' => by
    obtain ⟨rfl, h2, _⟩ := h
    obtain ⟨rfl, h3, _⟩ := h'
    exact ⟨rfl, rfl, h2.symm.trans h3⟩
  | [], p :: ls', l, k, k', e, e', h, h' => by
    obtain ⟨rfl, h2, h3⟩ := h
    obtain ⟨⟨h4, _⟩, _⟩ := h'
    rw [List.drop_zero] at h2
    exact absurd (h2.symm.trans h4) h3
  | p :: ls, [], l, k, k', e, e', h, h' => by
    obtain ⟨rfl, h2, h3⟩ := h'
    obtain ⟨⟨h4, _⟩, _⟩ := h
    rw [List.drop_zero] at h2
    exact absurd (h2.symm.trans h4) h3
  | p :: ls, p' :: ls', l, k, k', e, e', h, h' => by
    obtain ⟨⟨h1, h2, m, h3, rfl⟩, h4, h5⟩ := h
    obtain ⟨⟨g1, g2, m', g3, rfl⟩, g4, g5⟩ := h'
    rw [← List.drop_drop] at h4 g4
    obtain ⟨r1, r2, r3⟩ := AllIs.same ls ls' _ m m' e e' ⟨h3, h4, h5⟩ ⟨g3, g4, g5⟩
    exact ⟨by rw [← h2, ← g2, r1], by rw [r2], r3⟩
theorem next_room {l : List Int} (h : nextE l = 0) : 9 ≤ nextN l ∧ nextN l ≤ l.length ∧ (nextP l).length + 8 = nextN l := by
  have e1 : nextN l = 8 + (recL l).length ∧ nextP l = recL l := by unfold nextN nextP; rw [if_pos h, if_pos h]; exact ⟨rfl, rfl⟩
  unfold nextE at h
  by_cases h0 : l.length = 0
  · rw [if_pos h0] at h; cases h
  rw [if_neg h0] at h
  by_cases h1 : l.length < 8
  · rw [if_pos h1] at h; cases h
  rw [if_neg h1] at h
  by_cases h2 : cntL l = 0 ∨ 1048576 < cntL l
  · rw [if_pos h2] at h; cases h
  rw [if_neg h2] at h
  by_cases h3 : l.length - 8 < cntL l
  · rw [if_pos h3] at h; cases h
  have e2 : (recL l).length = cntL l := by unfold recL; rw [List.length_take, List.length_drop]; omega
  rw [e1.1, e1.2, e2]
  omega
theorem Steps.room : ∀ (ls : List (List Int)) (l : List Int) (k : Nat), Steps ls l k → 9 * ls.length ≤ k ∧ k ≤ l.length
  | [], l, k, h => by
    obtain rfl : k = 0 := h
    simp
  | p :: ls, l, k, h => by
    obtain ⟨h1, h2, k', h3, rfl⟩ := h
    have a := next_room h1
    have b := Steps.room ls _ _ h3
    rw [List.length_drop] at b
    rw [List.length_cons]
    omega
theorem sees_tail {w : World} {ao : Option Addr} {c : Nat} {l : List Int} (h : Sees w (.slice ao l.length c) l) {k : Nat} (hk : k ≤ l.length) : ∃ ao',
    (∀ w, (Instr.sliceAt 32 (.slice ao l.length c) (some (.int .i64 k)) none none).run Tryd.prog w = .ok (.slice ao' (l.length - k) (c - k)) w) ∧ Sees w (.slice ao' (l.length - k) (c - k)) (l.drop k) := by
  obtain ⟨ao', h', S⟩ := slice_lo (ao := ao) (n := l.length) (c := c) (i := k) k rfl hk
  refine ⟨ao', S, ?_⟩
  have := (sees_piece h (i := k) (n := l.length - k) (by omega) ao' h').1
  rwa [List.take_of_length_le (by rw [List.length_drop]; omega)] at this
def AllPost (w : World) (l : List Int) (e : Ending) (w' : World) : Prop :=
  ∃ v' ls k x, e = .returned (.tuple #[v', .int .i64 ((k : Nat) : Int), .int .i64 ((x : Nat) : Int)]) ∧ RowO w' w.heap.size v' ls ∧ AllIs ls l k x ∧ Below w.heap.size w w'
set_option maxHeartbeats 2000000 in
theorem all_any (v : Value) (l : List Int) (w : World) (h : Sees w v l) (hok : okB l) (hl : l.length ≤ 100000) (hE : Env w) :
    Calls Tryd.prog 47 #[v] w (AllPost w l) := by
  have H := Lib.hid h
  obtain ⟨ao, c, rfl, hlc, hnil, hc⟩ := h
  have HO := Lib.hid hok
  clear hc hok
  go_enter Tryd.func47, Tryd.ntmps47
  go_wp2_with fail
  go_loopw [5, 6] (fun v k wr => ∃ ls : List (List Int), ∃ i : Nat, k = .int .i64 i ∧ RowO wr w.heap.size v ls ∧ Steps ls l i ∧ Below w.heap.size w wr) (fun _ k _ => l.length - (intOf k).toNat)
  case atStart => exact ⟨[], 0, rfl, RowO.nil _ _, rfl, Below.refl _ _⟩
  case round =>
    obtain ⟨ls, i, rfl, hrow, hst, hbel⟩ := hrel
    have hr := Steps.room _ _ _ hst
    obtain ⟨a1, S1, hs1⟩ := sees_tail (H.out.keep hbel) hr.2
    have HN := Lib.hid (next_any _ _ wr hs1 (HO.out.drop i) (by rw [List.length_drop]; omega) (hE.below hbel))
    have HR := Lib.hid hr
    have HS := Lib.hid hst
    have HW := Lib.hid hrow
    have b0 : (i : Int) ≤ (l.length : Int) := by omega
    have hB0 := hbel.size
    clear hs1 hr hst hrow
    by_cases hx : nextE (l.drop i) = 0
    · have N1 := Lib.hid (next_room hx)
      have N2 := Lib.hid (Steps.snoc _ _ _ HS.out hx)
      rw [hx] at HN
      have HX := Lib.hid hx
      clear hx
      obtain ⟨n, hn⟩ : ∃ n, n = nextN (l.drop i) := ⟨_, rfl⟩
      obtain ⟨p, hp⟩ : ∃ p, p = nextP (l.drop i) := ⟨_, rfl⟩
      rw [← hn, ← hp] at HN N2
      rw [← hn] at N1
      clear hn hp
      have hlen : ls.length ≤ 100000 ∧ n ≤ l.length - i ∧ 9 ≤ n ∧ i ≤ l.length := by
        have h1 := HR.out; have h2 := N1.out; rw [List.length_drop] at h2; omega
      have s1 : IntKind.i64.wrap ((i : Int) + n) = i + n := IntWalk.i64_in _ (by omega)
      go_wp2_with fail
      refine HN.out.mono ?_; rintro e w1 ⟨v1, rfl, ho1, hb1⟩
      have hrow1 := HW.out.keep hb1
      have hbel1 := bel hbel hb1
      have hz1 := hbel1.size
      obtain ⟨ao1, c1, hv1, -⟩ := id ho1.sees
      subst hv1
      go_wp2_with (first
        | (at_builtin; refine wpList_push rfl (.tmp 23) (.tmp 25) rfl w.heap.size u5 (.slice ao1 p.length c1) ls p rfl rfl hrow1 ho1.sees (fun d hd => ⟨(ho1.lt d hd).2, fun e => by have h1 := (ho1.lt d hd).1; have h2 := (HW.out.lt e).2; omega⟩) hlen.1 (by omega) ?_; intro v2 w2 hrow2 hg2 hb2 hat)
        | fail)
      go_roundw
      case rel => exact ⟨ls ++ [p], i + n, by go_num, hrow2, N2.out, hbel1.trans hb2⟩
      case measure => simp [intOf]; omega
    · have HA : Hid (AllIs ls l i (nextE (l.drop i))) := Lib.hid ⟨HS.out, rfl, hx⟩
      have HX := Lib.hid hx
      have hpos : 0 < nextE (l.drop i) := by omega
      obtain ⟨x, hxe⟩ : ∃ x, x = nextE (l.drop i) := ⟨_, rfl⟩
      rw [← hxe] at HA HN hpos
      have d0 : (((x : Nat) : Int) != 0) = true := by simp; omega
      clear hx hxe
      go_wp2_with fail
      refine HN.out.mono ?_; rintro e w1 ⟨v1, rfl, ho1, hb1⟩
      have hrow1 := HW.out.keep hb1
      have hbel1 := bel hbel hb1
      go_wp2_with fail
      go_ret3
      exact ⟨_, ls, i, x, rfl, hrow1, HA.out, hbel1⟩
set_option maxHeartbeats 2000000 in
theorem rall_any (v : Value) (l : List Int) (w : World) (h : Sees w v l) (hok : okB l) (hl : l.length ≤ 100000) :
    Calls Tryd.prog 27 #[v] w (AllPost w l) := by
  have H := Lib.hid h
  have HV : Hid (l ≠ [] → ∀ d, v.ownBlock = some d → d < w.heap.size) := Lib.hid (by
    obtain ⟨ao, c, rfl, hlc, hnil, hc⟩ := h
    intro hne d hd
    cases ao with
    | none => cases hd
    | some a =>
      have := cell_lt8 (hc a rfl 0 (List.length_pos_iff.2 hne))
      rw [add_block] at this
      cases hd
      exact this)
  have HO := Lib.hid hok
  clear hok
  go_enter Tryd.func27, Tryd.ntmps27
  go_wp2_with fail
  go_loopw [5, 6] (fun x k wr => ∃ ls : List (List Int), ∃ i : Nat, k = .int .i64 i ∧ RowO wr w.heap.size x ls ∧ Steps ls l i ∧ Below w.heap.size w wr) (fun _ k _ => l.length - (intOf k).toNat)
  case atStart => exact ⟨[], 0, rfl, RowO.nil _ _, rfl, Below.refl _ _⟩
  case round =>
    obtain ⟨ls, i, rfl, hrow, hst, hbel⟩ := hrel
    have hr := Steps.room _ _ _ hst
    have HN := Lib.hid (rnext_any v l i wr (H.out.keep hbel) HO.out (by omega) hr.2)
    have HR := Lib.hid hr
    have HS := Lib.hid hst
    have HW := Lib.hid hrow
    have hB0 := hbel.size
    clear hr hst hrow h
    by_cases hx : nextE (l.drop i) = 0
    · have N1 := Lib.hid (next_room hx)
      have N2 := Lib.hid (Steps.snoc _ _ _ HS.out hx)
      rw [hx] at HN
      have HX := Lib.hid hx
      clear hx
      obtain ⟨n, hn⟩ : ∃ n, n = nextN (l.drop i) := ⟨_, rfl⟩
      obtain ⟨p, hp⟩ : ∃ p, p = nextP (l.drop i) := ⟨_, rfl⟩
      rw [← hn, ← hp] at N1 N2
      rw [← hp] at HN
      clear hn hp
      have hlen : ls.length ≤ 100000 ∧ n ≤ l.length - i ∧ 9 ≤ n ∧ i ≤ l.length ∧ p.length + 8 = n := by
        have h1 := HR.out; have h2 := N1.out; rw [List.length_drop] at h2; omega
      have hne : l ≠ [] := by rintro rfl; simp at hlen; omega
      have HV := Lib.hid (HV.out hne)
      obtain rfl : p.length + 8 = n := hlen.2.2.2.2
      have s0 : IntKind.i64.wrap (8 + (p.length : Int)) = 8 + p.length := IntWalk.i64_in _ (by omega)
      have s1 : IntKind.i64.wrap ((i : Int) + (8 + p.length)) = i + (8 + p.length) := IntWalk.i64_in _ (by omega)
      clear hne
      go_wp2_with fail
      refine HN.out.mono ?_; rintro e w1 ⟨v1, rfl, hs1, hd1, rfl⟩
      obtain ⟨ao1, c1, hv1, -⟩ := id hs1
      subst hv1
      go_wp2_with (first
        | (at_builtin; refine wpList_push rfl (.tmp 20) (.tmp 22) rfl w.heap.size u5 (.slice ao1 p.length c1) ls p rfl rfl HW.out hs1 (fun d hd => ⟨Nat.lt_of_lt_of_le (HV.out d (hd1 d hd)) hB0, fun e => Nat.not_lt.2 (HW.out.lt e).1 (HV.out d (hd1 d hd))⟩) hlen.1 hB0 ?_; intro v2 w2 hrow2 hg2 hb2 hat)
        | fail)
      go_roundw
      case rel => exact ⟨ls ++ [p], i + (p.length + 8), by go_num, hrow2, N2.out, hbel.trans hb2⟩
      case measure => simp [intOf]; omega
    · have HA : Hid (AllIs ls l i (nextE (l.drop i))) := Lib.hid ⟨HS.out, rfl, hx⟩
      have HX := Lib.hid hx
      have hpos : 0 < nextE (l.drop i) := by omega
      obtain ⟨x, hxe⟩ : ∃ x, x = nextE (l.drop i) := ⟨_, rfl⟩
      rw [← hxe] at HA HN hpos
      have d0 : (((x : Nat) : Int) != 0) = true := by simp; omega
      clear hx hxe
      go_wp2_with fail
      refine HN.out.mono ?_; rintro e w1 ⟨v1, rfl, hs1, hd1, rfl⟩
      go_wp2_with fail
      go_ret3
      exact ⟨_, ls, i, x, rfl, HW.out, HA.out, hbel⟩
theorem Sees.drewN {w : World} {v : Value} {xs : List Int} (h : Sees w v xs) (n : Nat) : Sees (w.drewN n) v xs := h
theorem SeesRow.drewN {w : World} {v : Value} {ls : List (List Int)} (h : SeesRow w v ls) (n : Nat) : SeesRow (w.drewN n) v ls := h
end Go.Proofs.YtkjdfelmjanpcaaDoor
