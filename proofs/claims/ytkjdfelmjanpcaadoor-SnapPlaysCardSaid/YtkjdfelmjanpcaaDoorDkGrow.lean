/- Package disk: write and grow. -/
import Derived.Test.YtkjdfelmjanpcaaDoorDk
import Derived.Test.YtkjdfelmjanpcaaDoorDkApp
namespace Go.Proofs.YtkjdfelmjanpcaaDoor
open Go.RowKit Go.Maps
theorem wpList_putE {w : World} {ops : Array Oper} {rest : List Oper} {o : Oper} {a : Act} {Q : Exit → Act → World → Prop} (hgd : o.guard = none) (m x v : Operand)
    (ho : o.op = Op.mapUpdate 76 m x v) (b n : Nat) (fs : List Ent) (hm : a.eval m = .map (some b)) (h : MapIs w b n fs) (hn : n < maxLen) (s : ByteArray) (hs : s.size ≤ maxLen) (val : Value) (hx : a.eval x = .string s) (hv : a.eval v = val)
    (hK : ∀ w', MapIs w' b (n + 1) (putE s.data.toList val fs) → w.grownBy w' (some b) → wpList Tryd.prog ops Q rest (a.put o.dst undef) w') : wpList Tryd.prog ops Q (o :: rest) a w :=
  wpList_mapUpdate_own w hgd m x v 76 ho 9 85 keyedS Tryd.underlying76 Rv b n (datum fs) hm h hn _ val _ hx hv (keyS hs) (.held val) [] rfl
    (fun w' h1 h2 => hK w' (by rw [datum_put] at h1; exact h1) h2)
/-- What may turn. -/
def Touch (P : Nat → Prop) (w w' : World) : Prop := w'.os = w.os ∧ w'.tape = w.tape ∧ w'.output = w.output ∧ w.heap.size ≤ w'.heap.size ∧ ∀ k, k < w.heap.size → ¬ P k → w'.heap[k]? = w.heap[k]?
theorem Touch.refl (P : Nat → Prop) (w : World) : Touch P w w := ⟨rfl, rfl, rfl, Nat.le_refl _, fun _ _ _ => rfl⟩
theorem Touch.of_below {w w' : World} (P : Nat → Prop) (h : Below w.heap.size w w') : Touch P w w' := ⟨h.os, h.tape, h.output, h.size, fun k hk _ => h.block k hk⟩
theorem Touch.of_grown {w w' : World} {r : Option Nat} {P : Nat → Prop} (h : w.grownBy w' r) (hr : ∀ k, r = some k → P k) : Touch P w w' := ⟨h.os, h.tape, h.output, h.size, fun k hk hn => h.block k hk (fun e => hn (hr k e.symm))⟩
theorem Touch.trans {P Q : Nat → Prop} {a b c : World} (h : Touch P a b) (k : Touch Q b c) (hq : ∀ i, i < a.heap.size → Q i → P i) : Touch P a c :=
  ⟨k.1.trans h.1, k.2.1.trans h.2.1, k.2.2.1.trans h.2.2.1, Nat.le_trans h.2.2.2.1 k.2.2.2.1, fun i hi hn => (k.2.2.2.2 i (Nat.lt_of_lt_of_le hi h.2.2.2.1) (fun hqi => hn (hq i hi hqi))).trans (h.2.2.2.2 i hi hn)⟩
theorem Touch.mono {P Q : Nat → Prop} {a b : World} (h : Touch P a b) (hq : ∀ i, i < a.heap.size → P i → Q i) : Touch Q a b := (Touch.refl Q a).trans h hq
theorem Touch.below {P : Nat → Prop} {a b : World} {n : Nat} (h : Touch P a b) (hn : n ≤ a.heap.size) (hp : ∀ i, P i → n ≤ i) : Below n a b :=
  ⟨h.1, h.2.1, h.2.2.1, h.2.2.2.1, fun k hk => h.2.2.2.2 k (Nat.lt_of_lt_of_le hk hn) (fun hP => Nat.not_lt.2 (hp k hP) hk)⟩
theorem dset {w : World} {g : Nat} {cs : Array Value} {t : TypeId} (h : w.heap[g]? = some (.cells cs t (0, 0))) (i : Nat) (x : Value) : (w.setCell ⟨g, i, none⟩ x).heap[g]? = some (.cells (cs.setIfInBounds i x) t (0, 0)) := by
  simp [World.setCell, Array.getElem?_modify, h]
theorem MapIs.ne {w : World} {b n g : Nat} {fs : List Ent} {cs : Array Value} {t : TypeId} {r : Nat × Nat} (h : MapIs w b n fs) (hg : w.heap[g]? = some (.cells cs t r)) : b ≠ g := by
  rintro rfl
  obtain ⟨es, clock, h1, _⟩ := h
  rw [hg] at h1
  cases h1
theorem DiskE.heap {w w' : World} {g : Nat} {mb : Option Nat} {es : List Ent} {lost armed : Bool} {left : Int} (h : DiskE w g mb es lost armed left) (hg : w'.heap[g]? = w.heap[g]?) (hb : ∀ b, mb = some b → w'.heap[b]? = w.heap[b]?) : DiskE w' g mb es lost armed left :=
  ⟨hg.trans h.1, fun b e => (h.2.1 b e).heap (hb b e), h.2.2⟩
theorem own_ne_cells {w : World} {B : Nat} {v : Value} {xs : List Int} {g : Nat} {cs : Array Value} {t : TypeId} {r : Nat × Nat} (h : Owns w B v xs) (hg : w.heap[g]? = some (.cells cs t r)) (ht : t ≠ 5) : v.ownBlock ≠ some g := by
  intro hv
  obtain ⟨_, ⟨rfl, _⟩ | ⟨d, cap, cur, rfl, _, hd, _⟩⟩ := h
  · cases hv
  · have e1 : d = g := by simpa [Value.ownBlock] using hv
    subst e1
    rw [hd] at hg
    injection hg with h1
    injection h1 with _ h2
    exact ht h2.symm
theorem own_ne_map {w : World} {B b n : Nat} {v : Value} {xs : List Int} {fs : List Ent} (h : Owns w B v xs) (hm : MapIs w b n fs) : v.ownBlock ≠ some b := by
  intro hv
  obtain ⟨_, ⟨rfl, _⟩ | ⟨d, cap, cur, rfl, _, hd, _⟩⟩ := h
  · cases hv
  · have e1 : d = b := by simpa [Value.ownBlock] using hv
    exact hm.ne hd e1.symm
theorem DiskE.setLost {w : World} {g : Nat} {mb : Option Nat} {es : List Ent} {lost armed : Bool} {left : Int} (h : DiskE w g mb es lost armed left) (x : Bool) : DiskE (w.setCell ⟨g, 1, none⟩ (.bool x)) g mb es x armed left := by
  refine ⟨dset h.1 1 _, fun b e => (h.2.1 b e).heap ?_, h.2.2⟩
  exact Below.heap_setCell w _ _ _ (fun e2 => (h.2.1 b e).ne h.1 e2)
theorem DiskE.setArmed {w : World} {g : Nat} {mb : Option Nat} {es : List Ent} {lost armed : Bool} {left : Int} (h : DiskE w g mb es lost armed left) (x : Bool) : DiskE (w.setCell ⟨g, 2, none⟩ (.bool x)) g mb es lost x left := by
  refine ⟨dset h.1 2 _, fun b e => (h.2.1 b e).heap ?_, h.2.2⟩
  exact Below.heap_setCell w _ _ _ (fun e2 => (h.2.1 b e).ne h.1 e2)
theorem DiskE.setLeft {w : World} {g : Nat} {mb : Option Nat} {es : List Ent} {lost armed : Bool} {left : Int} (h : DiskE w g mb es lost armed left) (x : Int) : DiskE (w.setCell ⟨g, 3, none⟩ (.int .i64 x)) g mb es lost armed x := by
  refine ⟨dset h.1 3 _, fun b e => (h.2.1 b e).heap ?_, h.2.2⟩
  exact Below.heap_setCell w _ _ _ (fun e2 => (h.2.1 b e).ne h.1 e2)
theorem touch_set (w : World) (g i : Nat) (x : Value) : Touch (· = g) w (w.setCell ⟨g, i, none⟩ x) := Touch.of_grown (grown_set w g i x) (fun _ hk => (Option.some.inj hk).symm)
/-- Whether the disk is lost behind a write, and how many are left. -/
def lost1 (lost armed : Bool) (left : Int) : Bool := lost || (armed && left == 0)
def left1 (lost armed : Bool) (left : Int) : Int := if lost1 lost armed left = false ∧ armed = true then left - 1 else left
def errW (lost armed : Bool) (left : Int) : Int := if lost1 lost armed left then 12 else 0
set_option maxRecDepth 100000 in
set_option maxHeartbeats 2000000 in
theorem write_any (g : Nat) (mb : Option Nat) (es : List Ent) (lost armed : Bool) (left : Int) (w : World) (h : DiskE w g mb es lost armed left) (h0 : 0 ≤ left) (h1 : left ≤ 9223372036854775807) :
    Calls Tryd.prog 53 #[.pointer (some ⟨g, 0, none⟩)] w fun e w' => e = .returned (.int .i64 (errW lost armed left)) ∧ DiskE w' g mb es (lost1 lost armed left) armed (left1 lost armed left) ∧ Touch (· = g) w w' := by
  obtain ⟨c0, c1, c2, c3⟩ := dcells h.1
  have f1 := dfroz h.1 1
  have f3 := dfroz h.1 3
  cases armed with
  | false =>
    have e1 : lost1 lost false left = lost := by simp [lost1]
    have e2 : left1 lost false left = left := by simp [left1]
    rw [e1, e2]
    have HD := Lib.hid h
    clear h
    cases lost with
    | false =>
      go_enter Tryd.func53, Tryd.ntmps53
      go_wp2
      go_ret
      exact ⟨rfl, HD.out, Touch.refl _ _⟩
    | true =>
      go_enter Tryd.func53, Tryd.ntmps53
      go_wp2
      go_ret
      exact ⟨rfl, HD.out, Touch.refl _ _⟩
  | true =>
    by_cases hl : left = 0
    · subst hl
      have e1 : lost1 lost true 0 = true := by simp [lost1]
      have e2 : left1 lost true 0 = 0 := by unfold left1; rw [if_neg (by rw [e1]; simp)]
      have e3 : errW lost true 0 = 12 := if_pos e1
      rw [e1, e2, e3]
      have HD := Lib.hid (h.setLost true)
      have HT := Lib.hid (touch_set w g 1 (.bool true))
      obtain ⟨W, hW⟩ : ∃ W, W = w.setCell ⟨g, 1, none⟩ (.bool true) := ⟨_, rfl⟩
      rw [← hW] at HD HT
      obtain ⟨d0, d1, d2, d3⟩ := dcells HD.out.1
      have HW := Lib.hid hW
      clear h
      go_enter Tryd.func53, Tryd.ntmps53
      go_upto_region 3 with fail
      rw [← HW.out]
      clear hW c0 c1 c2 c3 f1 f3
      go_wp2
      go_ret
      exact ⟨rfl, HD.out, HT.out⟩
    · have b0 : (left == 0) = false := by simpa using hl
      have e1 : lost1 lost true left = lost := by simp [lost1, b0]
      have s1 : IntKind.i64.wrap (left - 1) = left - 1 := IntWalk.i64_in _ (by omega)
      cases lost with
      | true =>
        have e2 : left1 true true left = left := by simp [left1, lost1]
        have e3 : errW true true left = 12 := by simp [errW, lost1]
        rw [e1, e2, e3]
        have HD := Lib.hid h
        clear h
        go_enter Tryd.func53, Tryd.ntmps53
        go_wp2
        go_ret
        exact ⟨rfl, HD.out, Touch.refl _ _⟩
      | false =>
        have e2 : left1 false true left = left - 1 := by simp [left1, lost1, b0]
        have e3 : errW false true left = 0 := by simp [errW, lost1, b0]
        rw [e1, e2, e3]
        have HD := Lib.hid (h.setLeft (left - 1))
        have HT := Lib.hid (touch_set w g 3 (.int .i64 (left - 1)))
        clear h
        go_enter Tryd.func53, Tryd.ntmps53
        go_wp2
        go_ret
        exact ⟨rfl, HD.out, HT.out⟩
theorem eqNilMap (w : World) (mb : Option Nat) : (binOp .eql 76 (.map mb) (.map none)).run Tryd.prog w = .ok (.bool mb.isNone) w := by cases mb <;> kernel_rfl
def GrowPost (w : World) (g : Nat) (mb : Option Nat) (es : List Ent) (lost armed : Bool) (left : Int) (k : List UInt8) (sv : Value) (su : Int) (xs t : List Int) (e : Ending) (w' : World) : Prop :=
  ∃ mb' sv', e = .returned (.tuple #[]) ∧ DiskE w' g mb' (putE k (.agg #[sv', .int .i64 su]) es) lost armed left ∧ Owns w' 0 sv' (xs ++ t) ∧ (mb' = mb ∨ mb = none ∧ ∃ b, mb' = some b ∧ w.heap.size ≤ b) ∧ (sv'.ownBlock = sv.ownBlock ∨ ∃ d, sv'.ownBlock = some d ∧ w.heap.size ≤ d) ∧
    Touch (fun i => i = g ∨ some i = mb ∨ sv.ownBlock = some i) w w'
theorem DiskE.put {w w' : World} {g : Nat} {b : Nat} {es : List Ent} {lost armed : Bool} {left : Int} (h : DiskE w g (some b) es lost armed left) (n : Nat) (k : List UInt8) (ao : Option Addr) (m c : Nat) (su : Int) (hm : MapIs w' b n (putE k (.agg #[.slice ao m c, .int .i64 su]) es)) (hg : w.grownBy w' (some b)) : DiskE w' g (some b) (putE k (.agg #[.slice ao m c, .int .i64 su]) es) lost armed left := by
  have hne := (h.2.1 b rfl).ne h.1
  refine ⟨(hg.block g (heap_lt h.1) (fun e => hne (Option.some.inj e).symm)).trans h.1, fun b' e => (by cases e; exact hm.tight), (fun e => by cases e), fun p hp => ?_⟩
  rcases mem_insE.1 hp with rfl | hp
  · exact ⟨ao, m, c, su, rfl⟩
  · exact h.2.2.2 p (List.mem_filter.1 hp).1
set_option maxRecDepth 100000 in
set_option maxHeartbeats 4000000 in
theorem grow_any (g : Nat) (mb : Option Nat) (es : List Ent) (lost armed : Bool) (left : Int) (s : ByteArray) (src sv : Value) (su : Int) (xs t : List Int) (w : World) (h : DiskE w g mb es lost armed left) (hs : s.size ≤ maxLen) (hn : es.length ≤ 1000000)
    (hv : (getE es s.data.toList).getD zeroF = .agg #[sv, .int .i64 su]) (ho : Owns w 0 sv xs) (hsee : Sees w src t) (hb : xs.length + t.length ≤ 100000000000) :
    Calls Tryd.prog 54 #[.pointer (some ⟨g, 0, none⟩), .string s, src] w (GrowPost w g mb es lost armed left s.data.toList sv su xs t) := by
  have hN := fun w => eqNilMap w mb
  obtain ⟨c0, c1, c2, c3⟩ := dcells h.1
  have f0 := dfroz h.1 0
  have hz : g < w.heap.size := heap_lt h.1
  cases mb with
  | none =>
    have hE := h.2.2.1 rfl
    subst hE
    obtain ⟨ao, c, rfl, -⟩ := id ho.sees
    have hsg : ∀ a, src = .slice (some a) t.length 0 → True := fun _ _ => trivial
    have hmm := @run_makeMap Tryd.prog
    have hM0 := MapIs.made w
    obtain ⟨U, hU⟩ : ∃ U, U = w.setCell ⟨g, 0, none⟩ (.map (some w.heap.size)) := ⟨_, rfl⟩
    have hUs : U.heap.size = w.heap.size := by rw [hU]; simp [World.setCell]
    have hUg : U.heap[g]? = some (.cells #[.map (some w.heap.size), .bool lost, .bool armed, .int .i64 left] 78 (0, 0)) := by rw [hU]; exact dset h.1 0 _
    have hUT : Touch (· = g) w U := by rw [hU]; exact touch_set w g 0 _
    obtain ⟨V, hV⟩ : ∃ V, V = U.alloc (.map #[] 0) := ⟨_, rfl⟩
    obtain ⟨b, hbe⟩ : ∃ b, b = w.heap.size := ⟨_, rfl⟩
    have hM0 : MapIs V b 0 [] := by rw [hV, hbe, ← hUs]; exact MapIs.made U
    have hDV : DiskE V g (some b) [] lost armed left := by
      refine ⟨?_, (fun b' e => (by cases e; exact hM0)), (fun e => by cases e), (fun p hp => by cases hp)⟩
      rw [hV, hbe]
      exact (Below.heap_alloc U _ g (by omega)).trans hUg
    have hTV : Touch (· = g) w V := by
      rw [hV]
      exact hUT.trans (Touch.of_below (fun _ => False) (belNew U _)) (fun _ _ h => h.elim)
    have hkV : ∀ d, d < w.heap.size → d ≠ g → V.heap[d]? = w.heap[d]? := fun d hd hn => hTV.2.2.2.2 d hd hn
    have hoV : Owns V 0 (.slice ao xs.length c) xs := by
      have hneg := own_ne_cells ho h.1 (by decide)
      refine ⟨ho.1, ho.2.imp id fun ⟨g', cap, cur, e1, e2, e3, r⟩ => ⟨g', cap, cur, e1, e2, (hkV g' (heap_lt e3) (fun e => hneg (by rw [e1, ← e]; rfl))).trans e3, r⟩⟩
    have hsV : Sees V src t := by
      obtain ⟨bo, cb, rfl, h1, h2, h3⟩ := hsee
      refine ⟨bo, cb, rfl, h1, h2, fun a ha i hi => ?_⟩
      have h4 := h3 a ha i hi
      rw [World.cell?_of_block (w := w) (hkV _ (cell_lt8 h4) (fun e => by
        simp [World.cell?, e, h.1] at h4
        obtain ⟨_, h5⟩ := h4
        generalize (a.add i).off = oo at h5
        rcases oo with _ | _ | _ | _ | oo <;> simp at h5))]
      exact h4
    have HFin : Hid (∀ e w', GrowPost V g (some b) [] lost armed left s.data.toList (.slice ao xs.length c) su xs t e w' → GrowPost w g none [] lost armed left s.data.toList (.slice ao xs.length c) su xs t e w') := Lib.hid (by
      rintro e w' ⟨mb', sv', h1, h2, h3, h4, h5, h6⟩
      refine ⟨mb', sv', h1, h2, h3, Or.inr ⟨rfl, ?_⟩, h5.imp id (fun ⟨d, e1, e2⟩ => ⟨d, e1, Nat.le_trans hTV.2.2.2.1 e2⟩), (hTV.mono (fun i _ e => Or.inl e)).trans h6 ?_⟩
      · rcases h4 with rfl | ⟨h4, _⟩
        · exact ⟨b, rfl, by omega⟩
        · cases h4
      · rintro i hi (e1 | e1 | e1)
        · exact Or.inl e1
        · have := Option.some.inj e1; omega
        · exact Or.inr (Or.inr e1))
    have HV := Lib.hid (And.intro hV (And.intro hU hbe))
    have hzV : g < V.heap.size := Nat.lt_of_lt_of_le hz hTV.2.2.2.1
    have HEn := Lib.hid (And.intro c0 f0)
    have hzw := hz
    clear c1 c2 c3 hz hkV hM0 hTV h ho hsee hsg hUs hUg hUT hV hU hbe
    have h := hDV
    have ho := hoV
    have hsee := hsV
    have hz := hzV
    clear hDV hoV hsV hzV
    have hL := fun (w' : World) (hb : Below V.heap.size V w') => (h.keep hb).look hs false
    rw [hv] at hL
    have hL0 := hL V (Below.refl _ _)
    simp only [Bool.false_eq_true, if_false] at hL0
    have HD := Lib.hid h
    have HO := Lib.hid ho
    have HS := Lib.hid hsee
    clear h ho hsee hL hv
    have HL0 := Lib.hid hL0
    clear hL0
    have hB1 := belNew V (.cells #[.slice ao xs.length c, .int .i64 su] 85)
    have hoA := Owns.keep HO.out hB1
    have hsA := HS.out.keep hB1
    have hDA := HD.out.keep hB1
    have hcA : (V.alloc (.cells #[.slice ao xs.length c, .int .i64 su] 85)).heap[V.heap.size]? = some (.cells #[.slice ao xs.length c, .int .i64 su] 85 (0, 0)) := heap_alloc_new V _
    obtain ⟨W, hW⟩ : ∃ W, W = V.alloc (.cells #[.slice ao xs.length c, .int .i64 su] 85) := ⟨_, rfl⟩
    have hsz : W.heap.size = V.heap.size + 1 := by rw [hW]; simp
    rw [← hW] at hoA hsA hDA hcA hB1
    have HX := Lib.hid (And.intro hDA (And.intro hcA (And.intro hoA hsA)))
    have HBW := Lib.hid (And.intro hB1 hsz)
    have HWW := Lib.hid hW
    have hcells := dcells HD.out.1
    clear hcA hDA hB1 hsz
    go_enter Tryd.func54, Tryd.ntmps54
    go_upto_region 2 with fail
    rw [← HV.out.2.2, HV.out.2.2, ← HV.out.2.1, ← HV.out.1]
    rw [← HV.out.2.2]
    have hL0 := HL0.out
    obtain ⟨c0', -⟩ := dcells HD.out.1
    clear c0 f0 hmm
    go_upto_region 3 with fail
    rw [← HWW.out]
    clear hW c0' hcells hL0
    have q0 : W.cell? ⟨V.heap.size, 0, none⟩ = some (.slice ao xs.length c) := by simp [World.cell?, HX.out.2.1]
    go_wp2_with (first
      | (at_builtin; refine wpList_app rfl (.tmp 23) (.tmp 24) rfl (.slice ao xs.length c) src xs t rfl rfl hoA hsA hb ?_; intro v2 w2 ho2 hg2 hat2; obtain ⟨a2, c2, hv2, -⟩ := id ho2.sees; subst hv2; have hbk : w2.heap[V.heap.size]? = some (.cells #[.slice ao xs.length c, .int .i64 su] 85 (0, 0)) := (hg2.block _ (heap_lt HX.out.2.1) (fun e => own_ne_cells hoA HX.out.2.1 (by decide) e.symm)).trans HX.out.2.1; have q2 : w2.cell? ⟨V.heap.size, 0, none⟩ = some (.slice ao xs.length c) := (by simp [World.cell?, hbk]); have q3 : w2.frozen? ⟨V.heap.size, 0, none⟩ = false := (by simp [World.frozen?, hbk]); have HBK := Lib.hid hbk; clear hbk q0)
      | fail)
    rw [List.length_append] at ho2 hat2
    obtain ⟨w3, hw3⟩ : ∃ w3, w3 = w2.setCell ⟨V.heap.size, 0, none⟩ (.slice a2 (xs.length + t.length) c2) := ⟨_, rfl⟩
    rw [← hw3]
    obtain ⟨hDW, hcW, hoW, -⟩ := HX.out
    obtain ⟨hB1, hsz⟩ := HBW.out
    have n1 : g ≠ V.heap.size := Nat.ne_of_lt hz
    have n2 : b ≠ V.heap.size := Nat.ne_of_lt (HD.out.2.1 b rfl).lt
    have hD2 : DiskE w2 g (some b) ([] : List Ent) lost armed left := hDW.heap (hg2.block g (by omega) (fun e => own_ne_cells hoW hDW.1 (by decide) e.symm)) (fun b' e => by
      cases e
      exact hg2.block b (hDW.2.1 b rfl).lt (fun e => own_ne_map hoW (hDW.2.1 b rfl) e.symm))
    have hD3 : DiskE w3 g (some b) ([] : List Ent) lost armed left := by
      rw [hw3]
      exact hD2.heap (Below.heap_setCell w2 _ _ _ n1) (fun b' e => by cases e; exact Below.heap_setCell w2 _ _ _ n2)
    have hc3 : w3.heap[V.heap.size]? = some (.cells #[.slice a2 (xs.length + t.length) c2, .int .i64 su] 85 (0, 0)) := by
      rw [hw3]
      exact dset HBK.out 0 _
    have n3 := own_ne_cells ho2 HBK.out (by decide)
    have ho3 : Owns w3 0 (.slice a2 (xs.length + t.length) c2) (xs ++ t) := by
      rw [hw3]
      exact World.ownsRow.kept ho2 (grown_set w2 V.heap.size 0 _) (by
        cases hv : (Value.slice a2 (xs.length + t.length) c2).ownBlock with
        | none => exact Or.inl rfl
        | some d => exact Or.inr (fun e => n3 (hv.trans e)))
    have hT3 : Touch (fun i => i = g ∨ some i = some b ∨ (Value.slice ao xs.length c).ownBlock = some i) V w3 := by
      refine ((Touch.of_below _ hB1).trans (Touch.of_grown (P := fun i => (Value.slice ao xs.length c).ownBlock = some i) hg2 (fun k hk => hk)) (fun i _ hi => Or.inr (Or.inr hi))).trans (Q := fun i => i = V.heap.size) ?_ (fun i hi e => by omega)
      rw [hw3]
      exact touch_set w2 V.heap.size 0 _
    have hat3 : (Value.slice a2 (xs.length + t.length) c2).ownBlock = (Value.slice ao xs.length c).ownBlock ∨ ∃ d, (Value.slice a2 (xs.length + t.length) c2).ownBlock = some d ∧ V.heap.size ≤ d :=
      hat2.imp id (fun e => ⟨_, e, by omega⟩)
    obtain ⟨c0, -⟩ := dcells hD3.1
    have p0 : w3.cell? ⟨V.heap.size, 0, none⟩ = some (.slice a2 (xs.length + t.length) c2) := by simp [World.cell?, hc3]
    have p1 : w3.cell? ⟨V.heap.size, 1, none⟩ = some (.int .i64 su) := by simp [World.cell?, hc3]
    have HD3 := Lib.hid hD3
    have HO3 := Lib.hid ho3
    have HT3 := Lib.hid hT3
    have HA3 := Lib.hid hat3
    have hM := hD3.2.1 b rfl
    clear hw3 hDW hcW hoW hB1 hsz hD2 hD3 hc3 ho3 hT3 hat3 hat2 ho2 hg2 q2 q3 hoA hsA
    go_still_tail 6, (by kernel_rfl)
    change wpList _ _ _ _ _ w3.drew
    have hM2 : MapIs w3.drew b ([] : List Ent).length ([] : List Ent) := hM
    go_wp2_with (first
      | (at_mapUpdate; refine wpList_putE rfl (.tmp 30) (.tmp 31) (.tmp 32) rfl b ([] : List Ent).length ([] : List Ent) rfl hM2 (by unfold maxLen; omega) s hs (.agg #[.slice a2 (xs.length + t.length) c2, .int .i64 su]) rfl rfl ?_; intro w5 hm5 hg5)
      | fail)
    go_end0
    refine HFin.out _ _ ⟨some b, _, rfl, DiskE.put (w := w3.drew) HD3.out _ _ _ _ _ _ hm5 hg5, ?_, Or.inl rfl, HA3.out, ?_⟩
    · exact World.ownsRow.kept (w := w3.drew) HO3.out hg5 (by
        cases hv : (Value.slice a2 (xs.length + t.length) c2).ownBlock with
        | none => exact Or.inl rfl
        | some d => exact Or.inr (fun e => own_ne_map HO3.out hM (hv.trans e)))
    · exact (HT3.out.trans (Q := fun _ => False) (b := w3) (c := w3.drew) ⟨rfl, rfl, rfl, Nat.le_refl _, fun _ _ _ => rfl⟩ (fun _ _ h => h.elim)).trans (Touch.of_grown (P := fun i => i = b) hg5 (fun k hk => (Option.some.inj hk).symm)) (fun i _ e => Or.inr (Or.inl (by rw [e])))
  | some b =>
    obtain ⟨ao, c, rfl, -⟩ := id ho.sees
    have hL := fun (w' : World) (hb : Below w.heap.size w w') => (h.keep hb).look hs false
    rw [hv] at hL
    have hL0 := hL w (Below.refl _ _)
    simp only [Bool.false_eq_true, if_false] at hL0
    have HD := Lib.hid h
    have HO := Lib.hid ho
    have HS := Lib.hid hsee
    clear h ho hsee hL hv
    have hB1 := belNew w (.cells #[.slice ao xs.length c, .int .i64 su] 85)
    have hoA := Owns.keep HO.out hB1
    have hsA := HS.out.keep hB1
    have hDA := HD.out.keep hB1
    have hcA : (w.alloc (.cells #[.slice ao xs.length c, .int .i64 su] 85)).heap[w.heap.size]? = some (.cells #[.slice ao xs.length c, .int .i64 su] 85 (0, 0)) := heap_alloc_new w _
    obtain ⟨W, hW⟩ : ∃ W, W = w.alloc (.cells #[.slice ao xs.length c, .int .i64 su] 85) := ⟨_, rfl⟩
    have hsz : W.heap.size = w.heap.size + 1 := by rw [hW]; simp
    rw [← hW] at hoA hsA hDA hcA hB1
    have HX := Lib.hid (And.intro hDA (And.intro hcA (And.intro hoA hsA)))
    have HBW := Lib.hid (And.intro hB1 hsz)
    have HWW := Lib.hid hW
    have hcells := dcells HD.out.1
    clear hcA hDA hB1 hsz c1 c2 c3
    go_enter Tryd.func54, Tryd.ntmps54
    go_upto_region 3 with fail
    rw [← HWW.out]
    clear hW c0 hcells hL0 f0
    have q0 : W.cell? ⟨w.heap.size, 0, none⟩ = some (.slice ao xs.length c) := by simp [World.cell?, HX.out.2.1]
    go_wp2_with (first
      | (at_builtin; refine wpList_app rfl (.tmp 23) (.tmp 24) rfl (.slice ao xs.length c) src xs t rfl rfl hoA hsA hb ?_; intro v2 w2 ho2 hg2 hat2; obtain ⟨a2, c2, hv2, -⟩ := id ho2.sees; subst hv2; have hbk : w2.heap[w.heap.size]? = some (.cells #[.slice ao xs.length c, .int .i64 su] 85 (0, 0)) := (hg2.block _ (heap_lt HX.out.2.1) (fun e => own_ne_cells hoA HX.out.2.1 (by decide) e.symm)).trans HX.out.2.1; have q2 : w2.cell? ⟨w.heap.size, 0, none⟩ = some (.slice ao xs.length c) := (by simp [World.cell?, hbk]); have q3 : w2.frozen? ⟨w.heap.size, 0, none⟩ = false := (by simp [World.frozen?, hbk]); have HBK := Lib.hid hbk; clear hbk q0)
      | fail)
    rw [List.length_append] at ho2 hat2
    obtain ⟨w3, hw3⟩ : ∃ w3, w3 = w2.setCell ⟨w.heap.size, 0, none⟩ (.slice a2 (xs.length + t.length) c2) := ⟨_, rfl⟩
    rw [← hw3]
    obtain ⟨hDW, hcW, hoW, -⟩ := HX.out
    obtain ⟨hB1, hsz⟩ := HBW.out
    have n1 : g ≠ w.heap.size := Nat.ne_of_lt hz
    have n2 : b ≠ w.heap.size := Nat.ne_of_lt (HD.out.2.1 b rfl).lt
    have hD2 : DiskE w2 g (some b) es lost armed left := hDW.heap (hg2.block g (by omega) (fun e => own_ne_cells hoW hDW.1 (by decide) e.symm)) (fun b' e => by
      cases e
      exact hg2.block b (hDW.2.1 b rfl).lt (fun e => own_ne_map hoW (hDW.2.1 b rfl) e.symm))
    have hD3 : DiskE w3 g (some b) es lost armed left := by
      rw [hw3]
      exact hD2.heap (Below.heap_setCell w2 _ _ _ n1) (fun b' e => by cases e; exact Below.heap_setCell w2 _ _ _ n2)
    have hc3 : w3.heap[w.heap.size]? = some (.cells #[.slice a2 (xs.length + t.length) c2, .int .i64 su] 85 (0, 0)) := by
      rw [hw3]
      exact dset HBK.out 0 _
    have n3 := own_ne_cells ho2 HBK.out (by decide)
    have ho3 : Owns w3 0 (.slice a2 (xs.length + t.length) c2) (xs ++ t) := by
      rw [hw3]
      exact World.ownsRow.kept ho2 (grown_set w2 w.heap.size 0 _) (by
        cases hv : (Value.slice a2 (xs.length + t.length) c2).ownBlock with
        | none => exact Or.inl rfl
        | some d => exact Or.inr (fun e => n3 (hv.trans e)))
    have hT3 : Touch (fun i => i = g ∨ some i = some b ∨ (Value.slice ao xs.length c).ownBlock = some i) w w3 := by
      refine ((Touch.of_below _ hB1).trans (Touch.of_grown (P := fun i => (Value.slice ao xs.length c).ownBlock = some i) hg2 (fun k hk => hk)) (fun i _ hi => Or.inr (Or.inr hi))).trans (Q := fun i => i = w.heap.size) ?_ (fun i hi e => by omega)
      rw [hw3]
      exact touch_set w2 w.heap.size 0 _
    have hat3 : (Value.slice a2 (xs.length + t.length) c2).ownBlock = (Value.slice ao xs.length c).ownBlock ∨ ∃ d, (Value.slice a2 (xs.length + t.length) c2).ownBlock = some d ∧ w.heap.size ≤ d :=
      hat2.imp id (fun e => ⟨_, e, by omega⟩)
    obtain ⟨c0, -⟩ := dcells hD3.1
    have p0 : w3.cell? ⟨w.heap.size, 0, none⟩ = some (.slice a2 (xs.length + t.length) c2) := by simp [World.cell?, hc3]
    have p1 : w3.cell? ⟨w.heap.size, 1, none⟩ = some (.int .i64 su) := by simp [World.cell?, hc3]
    have HD3 := Lib.hid hD3
    have HO3 := Lib.hid ho3
    have HT3 := Lib.hid hT3
    have HA3 := Lib.hid hat3
    have hM := hD3.2.1 b rfl
    clear hw3 hDW hcW hoW hB1 hsz hD2 hD3 hc3 ho3 hT3 hat3 hat2 ho2 hg2 q2 q3 hoA hsA
    go_still_tail 6, (by kernel_rfl)
    change wpList _ _ _ _ _ w3.drew
    have hM2 : MapIs w3.drew b es.length es := hM
    go_wp2_with (first
      | (at_mapUpdate; refine wpList_putE rfl (.tmp 30) (.tmp 31) (.tmp 32) rfl b es.length es rfl hM2 (by unfold maxLen; omega) s hs (.agg #[.slice a2 (xs.length + t.length) c2, .int .i64 su]) rfl rfl ?_; intro w5 hm5 hg5)
      | fail)
    go_end0
    refine ⟨some b, _, rfl, DiskE.put (w := w3.drew) HD3.out _ _ _ _ _ _ hm5 hg5, ?_, Or.inl rfl, HA3.out, ?_⟩
    · exact World.ownsRow.kept (w := w3.drew) HO3.out hg5 (by
        cases hv : (Value.slice a2 (xs.length + t.length) c2).ownBlock with
        | none => exact Or.inl rfl
        | some d => exact Or.inr (fun e => own_ne_map HO3.out hM (hv.trans e)))
    · exact (HT3.out.trans (Q := fun _ => False) (b := w3) (c := w3.drew) ⟨rfl, rfl, rfl, Nat.le_refl _, fun _ _ _ => rfl⟩ (fun _ _ h => h.elim)).trans (Touch.of_grown (P := fun i => i = b) hg5 (fun k hk => (Option.some.inj hk).symm)) (fun i _ e => Or.inr (Or.inl (by rw [e])))
end Go.Proofs.YtkjdfelmjanpcaaDoor
