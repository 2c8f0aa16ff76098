/- Package disk: Remove, Rename. -/
import Derived.Test.YtkjdfelmjanpcaaDoorDkSync
namespace Go.Proofs.YtkjdfelmjanpcaaDoor
open Go.RowKit Go.Maps
theorem wpList_delE {w : World} {ops : Array Oper} {rest : List Oper} {o : Oper} {a : Act} {Q : Exit → Act → World → Prop} (hgd : o.guard = none) (m x : Operand)
    (hop : o.op = Op.call { callee := Callee.builtin Builtin.delete, args := #[m, x], argTypes := #[76, 9] }) (b n : Nat) (fs : List Ent) (hm : a.eval m = .map (some b)) (h : MapIs w b n fs) (s : ByteArray) (hs : s.size ≤ maxLen) (hx : a.eval x = .string s)
    (hK : ∀ w', MapIs w' b n (delE s.data.toList fs) → w.grownBy w' (some b) → wpList Tryd.prog ops Q rest (a.put o.dst (.tuple #[])) w') : wpList Tryd.prog ops Q (o :: rest) a w := by
  refine wpList_plain hgd fun K' hK' => ?_
  obtain ⟨w', hrun, r1, r2⟩ := h.del hs o.type
  unfold Oper.wp
  simp [execOp, hop, resolve, invoke, builtin, hm, hx, hrun, Result.andThen]
  exact hK' _ _ (hK w' r1 r2)
def removeD (D : DSt) (k : List UInt8) : Int × DSt :=
  match getE D.fs k with
  | none => (6, D)
  | some _ => if lost1 D.lost D.armed D.left = true then (12, { D with lost := true, left := left1 D.lost D.armed D.left })
    else (0, { fs := delE k D.fs, lost := false, armed := D.armed, left := left1 D.lost D.armed D.left })
def renameD (D : DSt) (k t : List UInt8) : Int × DSt :=
  match getE D.fs k with
  | none => (6, D)
  | some u => if t = [] ∨ t = k then (1, D) else if lost1 D.lost D.armed D.left = true then (12, { D with lost := true, left := left1 D.lost D.armed D.left })
    else (0, { fs := putE t u (delE k D.fs), lost := false, armed := D.armed, left := left1 D.lost D.armed D.left })
def cutD (D : DSt) (k : List UInt8) (n : Int) : Int × DSt :=
  match getE D.fs k with
  | none => (6, D)
  | some u => if n < 0 ∨ (u.1.length : Int) < n then (1, D) else if lost1 D.lost D.armed D.left = true then (12, { D with lost := true, left := left1 D.lost D.armed D.left })
    else (0, { fs := putE k (u.1.take n.toNat, n.toNat) D.fs, lost := false, armed := D.armed, left := left1 D.lost D.armed D.left })
theorem DiskE.del {w w' : World} {g : Nat} {b : Nat} {es : List Ent} {lost armed : Bool} {left : Int} (h : DiskE w g (some b) es lost armed left) (n : Nat) (k : List UInt8) (hm : MapIs w' b n (delE k es)) (hg : w.grownBy w' (some b)) : DiskE w' g (some b) (delE k es) lost armed left := by
  have hne := (h.2.1 b rfl).ne h.1
  exact ⟨(hg.block g (heap_lt h.1) (fun e => hne (Option.some.inj e).symm)).trans h.1, fun b' e => (by cases e; exact hm.tight), (fun e => by cases e), fun p hp => h.2.2.2 p (List.mem_filter.1 hp).1⟩
/-- The disk behind 'delete(d.files, k)'. -/
theorem del_end {w w2 w5 : World} {g b : Nat} {P : Nat → Prop} {es : List Ent} {fs : List FEnt} {k : List UInt8} {lost armed l2 : Bool} {left n2 : Int} {n : Nat}
    (h : DiskE w g (some b) es lost armed left) (h2 : P g) (h3 : P b) (h4 : All2 (FileOk w P) es fs) (h5 : es.Pairwise Apart) (h6 : Rising es) (h7 : ∀ i, P i → i < w.heap.size)
    (hd : DiskE w2 g (some b) es l2 armed n2) (ht : Touch (· = g) w w2) (h8 : 0 ≤ n2) (h9 : n2 ≤ 9223372036854775807)
    (hm : MapIs w5 b n (delE k es)) (hg : w2.grownBy w5 (some b)) :
    DiskAt w5 g P { fs := delE k fs, lost := l2, armed := armed, left := n2 } ∧ Step P P w w5 := by
  have hQ : Touch (fun i => i = g ∨ i = b) w w5 := (ht.mono (fun i _ e => Or.inl e)).trans (Touch.of_grown (P := fun i => i = b) hg (fun k hk => (Option.some.inj hk).symm)) (fun i _ e => Or.inr e)
  refine ⟨⟨some b, _, hd.del n k hm hg, h2, fun b' e => by cases e; exact h3, ?_, h5.filter _, h6.del k, fun i hi => Nat.lt_of_lt_of_le (h7 i hi) hQ.2.2.2.1, h8, h9⟩, hQ.mono (fun i _ e => by rcases e with e | e <;> (rw [e]; assumption)), fun i hi => Or.inl hi⟩
  refine All2.imp (fun e he f hf => hf.keep hQ (fun d hd2 hq => ?_) (fun _ h => h)) (All2.del fileKey k h4)
  obtain ⟨_, sv, e1, e2, _⟩ := hf
  have e3 : sv.ownBlock = some d := by unfold blkE at hd2; rw [e1] at hd2; exact hd2
  rcases hq with hq | hq
  · exact own_ne_cells e2 h.1 (by decide) (e3.trans (congrArg some hq))
  · exact own_ne_map e2 (h.2.1 b rfl) (e3.trans (congrArg some hq))
set_option maxRecDepth 100000 in
set_option maxHeartbeats 2000000 in
theorem remove_any (g : Nat) (P : Nat → Prop) (D : DSt) (s : ByteArray) (w : World) (h : DiskAt w g P D) (hs : s.size ≤ maxLen) :
    Calls Tryd.prog 85 #[ptr g, .string s] w fun e w' => ∃ P', e = .returned (.int .i64 (removeD D s.data.toList).1) ∧ DiskAt w' g P' (removeD D s.data.toList).2 ∧ Step P P' w w' := by
  have HDA := Lib.hid h
  obtain ⟨mb, es, h, h2, h3, h4, h5, h6, h7, h8, h9⟩ := h
  have HF := Lib.hid (find_any g mb es _ _ _ s w h hs)
  obtain ⟨sv, hv, ho, hko, hsu, hsv, hsome⟩ := file_of h4 s.data.toList
  have hsee := ho.sees
  obtain ⟨ao, c, rfl, -⟩ := id hsee
  rw [hv, hsome] at HF
  have hz : g < w.heap.size := heap_lt h.1
  cases hgf : getE D.fs s.data.toList with
  | none =>
    have e1 : removeD D s.data.toList = (6, D) := by unfold removeD; rw [hgf]
    rw [hgf] at HF
    rw [e1]
    simp only [Option.isSome_none, Bool.false_eq_true, if_false] at HF
    clear h h4 hv ho hko hsu hsv hsome hsee hgf e1
    go_enter Tryd.func85, Tryd.ntmps85
    go_wp2_with fail
    refine HF.out.mono ?_; rintro e w1 ⟨rfl, hb1⟩
    go_wp2_with fail
    go_ret
    refine ⟨P, rfl, HDA.out.below ?_, Touch.of_below P ?_, fun i hi => Or.inl hi⟩
    all_goals
      refine hb1.trans ?_
      repeat (first | exact Below.refl _ _ | refine Below.setCell ?_ (by simp) _ | refine Below.alloc ?_ (by have := hb1.size; simp; omega) _)
  | some u =>
    obtain ⟨b, rfl⟩ : ∃ b, mb = some b := by
      cases hge : getE es s.data.toList with
      | none => rw [hge, hgf] at hsome; cases hsome
      | some v => exact some_map h hge
    rw [hgf] at HF ho hko hsu hv hsee hsv
    simp only [Option.isSome_some, if_true, Option.getD_some] at HF ho hko hsu hv hsee hsv
    have HH := Lib.hid (And.intro h (And.intro h4 (And.intro hsv (And.intro ho (And.intro hko hsu)))))
    clear h h4 hv ho hko hsu hsv hsome hsee
    go_enter Tryd.func85, Tryd.ntmps85
    go_wp2_with fail
    refine HF.out.mono ?_; rintro e w1 ⟨rfl, hb1⟩
    go_wp2_with fail
    obtain ⟨h, h4, hsv, ho, hko, hsu⟩ := HH.out
    have hbA := belAlloc hb1 (.cells #[.slice ao u.1.length c, .int .i64 (u.2 : Nat)] 85)
    have hDA := h.keep hbA
    have hcA : (w1.alloc (.cells #[.slice ao u.1.length c, .int .i64 (u.2 : Nat)] 85)).heap[w1.heap.size]? = some (.cells #[.slice ao u.1.length c, .int .i64 (u.2 : Nat)] 85 (0, 0)) := heap_alloc_new w1 _
    have hz1 := hb1.size
    refine (write_any g (some b) es D.lost D.armed D.left _ hDA h8 h9).mono ?_; rintro e w2 ⟨rfl, hd2, ht2⟩
    have hT : Touch (· = g) w w2 := (Touch.of_below _ hbA).trans ht2 (fun _ _ e => e)
    have hL2 : w2.heap[w1.heap.size]? = some (.cells #[.slice ao u.1.length c, .int .i64 (u.2 : Nat)] 85 (0, 0)) := (ht2.2.2.2.2 _ (by simp) (by omega)).trans hcA
    obtain ⟨l1, hl1⟩ : ∃ l1, l1 = lost1 D.lost D.armed D.left := ⟨_, rfl⟩
    obtain ⟨n1, hn1⟩ : ∃ n1, n1 = left1 D.lost D.armed D.left := ⟨_, rfl⟩
    obtain ⟨q8, q9⟩ := left1_bd (lost := D.lost) (armed := D.armed) h8 h9
    have hE : errW D.lost D.armed D.left = if l1 then 12 else 0 := by unfold errW; rw [hl1]
    rw [← hl1, ← hn1] at hd2
    rw [← hn1] at q8 q9
    have HL := Lib.hid (And.intro hl1 hn1)
    cases l1 with
    | true =>
      have e1 : removeD D s.data.toList = (12, ⟨D.fs, true, D.armed, n1⟩) := by unfold removeD; rw [hgf]; simp only []; rw [← hl1, if_pos rfl, ← hn1]
      have E1 := Lib.hid e1
      rw [hE, if_pos rfl]
      have HR := Lib.hid (DiskAt.wrote (fs := D.fs) h h2 h3 h4 h5 h6 h7 hd2 hT q8 q9)
      clear h h4 hsv ho hko hsu hbA hDA hcA hL2 hd2 hl1 hn1 hE hgf e1
      go_wp2_with fail
      go_ret
      rw [E1.out]
      exact ⟨P, rfl, HR.out, hT.mono (fun i _ e => by rw [e]; exact h2), fun i hi => Or.inl hi⟩
    | false =>
      have e1 : removeD D s.data.toList = (0, { fs := delE s.data.toList D.fs, lost := false, armed := D.armed, left := n1 }) := by
        unfold removeD; rw [hgf]; simp only []; rw [← hl1, if_neg (by simp), ← hn1]
      have E1 := Lib.hid e1
      rw [hE, if_neg (by simp)]
      obtain ⟨c0, -⟩ := dcells hd2.1
      have hM2 : MapIs w2 b es.length es := hd2.2.1 b rfl
      have HR := Lib.hid (fun (w5 : World) (hm : MapIs w5 b es.length (delE s.data.toList es)) (hg : w2.grownBy w5 (some b)) => del_end h h2 (h3 b rfl) h4 h5 h6 h7 hd2 hT q8 q9 hm hg)
      clear h h4 hsv ho hko hsu hbA hDA hcA hL2 hd2 hl1 hn1 hE hgf e1 hT ht2
      go_wp2_with (first
        | (refine wpList_delE rfl (.tmp 25) (.tmp 26) rfl b es.length es rfl hM2 s hs rfl ?_; intro w5 hm5 hg5)
        | fail)
      go_ret
      obtain ⟨r1, r2⟩ := HR.out w5 hm5 hg5
      rw [E1.out]
      exact ⟨P, rfl, r1, r2⟩
/-- The disk behind a file that got another name. -/
theorem mv_end {w w2 w5 w6 : World} {g b : Nat} {P : Nat → Prop} {es : List Ent} {fs : List FEnt} {k t : List UInt8} {ao : Option Addr} {m c : Nat} {su : Int} {u : List Int × Nat} {lost armed l2 : Bool} {left n2 : Int} {n5 n6 : Nat}
    (h : DiskE w g (some b) es lost armed left) (h2 : P g) (h3 : P b) (h4 : All2 (FileOk w P) es fs) (h5 : es.Pairwise Apart) (h6 : Rising es) (h7 : ∀ i, P i → i < w.heap.size)
    (hv : getE es k = some (.agg #[.slice ao m c, .int .i64 su])) (hu : getE fs k = some u)
    (hd : DiskE w2 g (some b) es l2 armed n2) (ht : Touch (· = g) w w2) (h8 : 0 ≤ n2) (h9 : n2 ≤ 9223372036854775807)
    (hm : MapIs w5 b n5 (delE k es)) (hg : w2.grownBy w5 (some b)) (hm6 : MapIs w6 b n6 (putE t (.agg #[.slice ao m c, .int .i64 su]) (delE k es))) (hg6 : w5.grownBy w6 (some b)) :
    DiskAt w6 g P { fs := putE t u (delE k fs), lost := l2, armed := armed, left := n2 } ∧ Step P P w w6 := by
  have hQ : Touch (fun i => i = g ∨ i = b) w w6 := ((ht.mono (fun i _ e => Or.inl e)).trans (Touch.of_grown (P := fun i => i = b) hg (fun k hk => (Option.some.inj hk).symm)) (fun i _ e => Or.inr e)).trans (Touch.of_grown (P := fun i => i = b) hg6 (fun k hk => (Option.some.inj hk).symm)) (fun i _ e => Or.inr e)
  have hkeep : ∀ (e : Ent) (f : FEnt), FileOk w P e f → FileOk w6 P e f := fun e f hf => hf.keep hQ (fun d hd2 hq => by
    obtain ⟨_, sv, e1, e2, _⟩ := hf
    have e3 : sv.ownBlock = some d := by unfold blkE at hd2; rw [e1] at hd2; exact hd2
    rcases hq with hq | hq
    · exact own_ne_cells e2 h.1 (by decide) (e3.trans (congrArg some hq))
    · exact own_ne_map e2 (h.2.1 b rfl) (e3.trans (congrArg some hq))) (fun _ h => h)
  have hf : FileOk w6 P (t, .agg #[.slice ao m c, .int .i64 su]) (t, u) := by
    rcases All2.get fileKey k h4 with ⟨h1, _⟩ | ⟨v', u', q1, q2, q3⟩
    · rw [hv] at h1; cases h1
    · rw [hv] at q1; rw [hu] at q2
      cases q1; cases q2
      obtain ⟨_, r⟩ := hkeep _ _ q3
      exact ⟨rfl, r⟩
  refine ⟨⟨some b, _, (hd.del n5 k hm hg).put n6 t ao m c su hm6 hg6, h2, fun b' e => by cases e; exact h3, ?_, ?_, (h6.del k).put t _, fun i hi => Nat.lt_of_lt_of_le (h7 i hi) hQ.2.2.2.1, h8, h9⟩, hQ.mono (fun i _ e => by rcases e with e | e <;> (rw [e]; assumption)), fun i hi => Or.inl hi⟩
  · exact All2.ins fileKey hf (All2.imp (fun e _ f hf => hkeep e f hf) (All2.del fileKey t (All2.del fileKey k h4)))
  · refine (List.Perm.pairwise_iff (fun {a b} h => Apart.symm h) (insE_perm _ _)).2 (List.pairwise_cons.2 ⟨fun q hqm d hd => ?_, (h5.filter _).filter _⟩)
    have h10 := List.mem_filter.1 (List.mem_filter.1 hqm).1
    have hne : q.1 ≠ k := by simpa using h10.2
    exact apart_of h5 (getE_mem hv) h10.1 (fun e => hne (by rw [← e])) d hd
set_option maxRecDepth 100000 in
set_option maxHeartbeats 2000000 in
theorem rename_any (g : Nat) (P : Nat → Prop) (D : DSt) (s t : ByteArray) (w : World) (h : DiskAt w g P D) (hs : s.size ≤ maxLen) (ht0 : t.size ≤ maxLen) (hn : D.fs.length ≤ 1000000) :
    Calls Tryd.prog 66 #[ptr g, .string s, .string t] w fun e w' => ∃ P', e = .returned (.int .i64 (renameD D s.data.toList t.data.toList).1) ∧ DiskAt w' g P' (renameD D s.data.toList t.data.toList).2 ∧ Step P P' w w' := by
  have HDA := Lib.hid h
  obtain ⟨mb, es, h, h2, h3, h4, h5, h6, h7, h8, h9⟩ := h
  have HF := Lib.hid (find_any g mb es _ _ _ s w h hs)
  obtain ⟨sv, hv, ho, hko, hsu, hsv, hsome⟩ := file_of h4 s.data.toList
  have hsee := ho.sees
  obtain ⟨ao, c, rfl, -⟩ := id hsee
  rw [hv, hsome] at HF
  have hz : g < w.heap.size := heap_lt h.1
  cases hgf : getE D.fs s.data.toList with
  | none =>
    have e1 : renameD D s.data.toList t.data.toList = (6, D) := by unfold renameD; rw [hgf]
    rw [hgf] at HF
    rw [e1]
    simp only [Option.isSome_none, Bool.false_eq_true, if_false] at HF
    clear h h4 hv ho hko hsu hsv hsome hsee hgf e1
    go_enter Tryd.func66, Tryd.ntmps66
    go_wp2_with fail
    refine HF.out.mono ?_; rintro e w1 ⟨rfl, hb1⟩
    go_wp2_with fail
    go_ret
    refine ⟨P, rfl, HDA.out.below ?_, Touch.of_below P ?_, fun i hi => Or.inl hi⟩
    all_goals
      refine hb1.trans ?_
      repeat (first | exact Below.refl _ _ | refine Below.setCell ?_ (by simp) _ | refine Below.alloc ?_ (by have := hb1.size; simp; omega) _)
  | some u =>
    obtain ⟨b, rfl⟩ : ∃ b, mb = some b := by
      cases hge : getE es s.data.toList with
      | none => rw [hge, hgf] at hsome; cases hsome
      | some v => exact some_map h hge
    rw [hgf] at HF ho hko hsu hv hsee hsv
    simp only [Option.isSome_some, if_true, Option.getD_some] at HF ho hko hsu hv hsee hsv
    have HGF := Lib.hid hgf
    have HVS : Hid (getE es s.data.toList = some (.agg #[.slice ao u.1.length c, .int .i64 (u.2 : Nat)])) := Lib.hid (by
      cases hge : getE es s.data.toList with
      | none => rw [hge, hgf] at hsome; cases hsome
      | some v => rw [hge] at hv; exact congrArg some hv)
    have HH := Lib.hid (And.intro h (And.intro h4 (And.intro hsv (And.intro ho (And.intro hko hsu)))))
    clear h h4 hv ho hko hsu hsv hsome hsee
    by_cases ht1 : t.data.toList = []
    · have e1 : renameD D s.data.toList t.data.toList = (1, D) := by unfold renameD; rw [HGF.out]; simp only []; rw [if_pos (Or.inl ht1)]
      rw [e1]
      clear e1
      obtain rfl : t = ⟨#[]⟩ := by
        cases t with | mk ta => cases ta with | mk tl => cases tl with
          | nil => rfl
          | cons x y => cases ht1
      go_enter Tryd.func66, Tryd.ntmps66
      go_wp2_with fail
      refine HF.out.mono ?_; rintro e w1 ⟨rfl, hb1⟩
      go_wp2_with fail
      go_ret
      refine ⟨P, rfl, HDA.out.below ?_, Touch.of_below P ?_, fun i hi => Or.inl hi⟩
      all_goals
        refine hb1.trans ?_
        repeat (first | exact Below.refl _ _ | refine Below.setCell ?_ (by simp) _ | refine Below.alloc ?_ (by have := hb1.size; simp; omega) _)

    have d1 : ¬ t.toList = [] := by rw [ByteArray.toList_eq]; exact ht1
    have d2 : t.toList.isEmpty = false := by cases hh : t.toList with | nil => exact absurd hh d1 | cons a b => rfl
    by_cases hts : t = s
    · have e1 : renameD D s.data.toList t.data.toList = (1, D) := by unfold renameD; rw [HGF.out]; simp only []; rw [if_pos (Or.inr (by rw [hts]))]
      rw [e1]
      clear e1
      subst hts
      go_enter Tryd.func66, Tryd.ntmps66
      go_wp2_with fail
      refine HF.out.mono ?_; rintro e w1 ⟨rfl, hb1⟩
      go_wp2_with fail
      go_ret
      refine ⟨P, rfl, HDA.out.below ?_, Touch.of_below P ?_, fun i hi => Or.inl hi⟩
      all_goals
        refine hb1.trans ?_
        repeat (first | exact Below.refl _ _ | refine Below.setCell ?_ (by simp) _ | refine Below.alloc ?_ (by have := hb1.size; simp; omega) _)

    have d4 : ¬ t.toList = s.toList := fun e => hts (by rw [ByteArray.toList_eq, ByteArray.toList_eq] at e; cases t; cases s; simp only [Array.toList_inj] at e; rw [e])
    have d3 : (t.toList == s.toList) = false := by simpa using d4
    have hne : ¬ (t.data.toList = [] ∨ t.data.toList = s.data.toList) := by
      rintro (e | e)
      · exact ht1 e
      · exact hts (by cases t; cases s; simp only [Array.toList_inj] at e; rw [e])
    have HNE := Lib.hid hne
    clear ht1 hts hne d4
    go_enter Tryd.func66, Tryd.ntmps66
    go_wp2_with fail
    refine HF.out.mono ?_; rintro e w1 ⟨rfl, hb1⟩
    go_wp2_with fail
    obtain ⟨h, h4, hsv, ho, hko, hsu⟩ := HH.out
    have hbA := belAlloc hb1 (.cells #[.slice ao u.1.length c, .int .i64 (u.2 : Nat)] 85)
    have hDA := h.keep hbA
    have hcA : (w1.alloc (.cells #[.slice ao u.1.length c, .int .i64 (u.2 : Nat)] 85)).heap[w1.heap.size]? = some (.cells #[.slice ao u.1.length c, .int .i64 (u.2 : Nat)] 85 (0, 0)) := heap_alloc_new w1 _
    have hz1 := hb1.size
    refine (write_any g (some b) es D.lost D.armed D.left _ hDA h8 h9).mono ?_; rintro e w2 ⟨rfl, hd2, ht2⟩
    have hT : Touch (· = g) w w2 := (Touch.of_below _ hbA).trans ht2 (fun _ _ e => e)
    have hL2 : w2.heap[w1.heap.size]? = some (.cells #[.slice ao u.1.length c, .int .i64 (u.2 : Nat)] 85 (0, 0)) := (ht2.2.2.2.2 _ (by simp) (by omega)).trans hcA
    obtain ⟨l1, hl1⟩ : ∃ l1, l1 = lost1 D.lost D.armed D.left := ⟨_, rfl⟩
    obtain ⟨n1, hn1⟩ : ∃ n1, n1 = left1 D.lost D.armed D.left := ⟨_, rfl⟩
    obtain ⟨q8, q9⟩ := left1_bd (lost := D.lost) (armed := D.armed) h8 h9
    have hE : errW D.lost D.armed D.left = if l1 then 12 else 0 := by unfold errW; rw [hl1]
    rw [← hl1, ← hn1] at hd2
    rw [← hn1] at q8 q9
    have HL := Lib.hid (And.intro hl1 hn1)
    cases l1 with
    | true =>
      have e1 : renameD D s.data.toList t.data.toList = (12, ⟨D.fs, true, D.armed, n1⟩) := by unfold renameD; rw [hgf]; simp only []; rw [if_neg HNE.out, ← hl1, if_pos rfl, ← hn1]
      have E1 := Lib.hid e1
      rw [hE, if_pos rfl]
      have HR := Lib.hid (DiskAt.wrote (fs := D.fs) h h2 h3 h4 h5 h6 h7 hd2 hT q8 q9)
      clear h h4 hsv ho hko hsu hbA hDA hcA hL2 hd2 hl1 hn1 hE hgf e1
      go_wp2_with fail
      go_ret
      rw [E1.out]
      exact ⟨P, rfl, HR.out, hT.mono (fun i _ e => by rw [e]; exact h2), fun i hi => Or.inl hi⟩
    | false =>
      have e1 : renameD D s.data.toList t.data.toList = (0, { fs := putE t.data.toList u (delE s.data.toList D.fs), lost := false, armed := D.armed, left := n1 }) := by
        unfold renameD; rw [hgf]; simp only []; rw [if_neg HNE.out, ← hl1, if_neg (by simp), ← hn1]
      have E1 := Lib.hid e1
      rw [hE, if_neg (by simp)]
      obtain ⟨c0, -⟩ := dcells hd2.1
      have hM2 : MapIs w2 b es.length es := hd2.2.1 b rfl
      have hlenE : es.length ≤ 1000000 := by rw [All2.len h4]; exact hn
      have HR := Lib.hid (fun (n5 n6 : Nat) (w5 w6 : World) (hm : MapIs w5 b n5 (delE s.data.toList es)) (hg : w2.grownBy w5 (some b)) (hm6 : MapIs w6 b n6 (putE t.data.toList (.agg #[.slice ao u.1.length c, .int .i64 (u.2 : Nat)]) (delE s.data.toList es))) (hg6 : w5.grownBy w6 (some b)) => mv_end h h2 (h3 b rfl) h4 h5 h6 h7 HVS.out HGF.out hd2 hT q8 q9 hm hg hm6 hg6)
      have HD2 := Lib.hid hd2
      have HL2 := Lib.hid hL2
      clear h h4 hsv ho hko hsu hbA hDA hcA hL2 hd2 hl1 hn1 hE hgf e1 hT ht2 d1 d2 d3
      go_upto_region 10 with (first
        | (refine wpList_delE rfl (.tmp 34) (.tmp 35) rfl b es.length es rfl hM2 s hs rfl ?_; intro w5 hm5 hg5)
        | fail)
      have hd5 := HD2.out.del _ _ hm5 hg5
      have hL5 : w5.heap[w1.heap.size]? = some (.cells #[.slice ao u.1.length c, .int .i64 (u.2 : Nat)] 85 (0, 0)) := (hg5.block _ (heap_lt HL2.out) (fun e => by
        have := (HD2.out.2.1 b rfl).ne HL2.out
        exact this (Option.some.inj e).symm)).trans HL2.out
      have p0 : w5.cell? ⟨w1.heap.size, 0, none⟩ = some (.slice ao u.1.length c) := by simp [World.cell?, hL5]
      have p1 : w5.cell? ⟨w1.heap.size, 1, none⟩ = some (.int .i64 (u.2 : Nat)) := by simp [World.cell?, hL5]
      clear c0
      obtain ⟨c0, -⟩ := dcells hd5.1
      have HM5 := Lib.hid (And.intro hm5 hg5)
      have hlen2 : (delE s.data.toList es).length ≤ es.length := List.length_filter_le _ _
      clear hd5 hL5 hm5 hg5 hM2
      go_still_tail 6, (by kernel_rfl)
      change wpList _ _ _ _ _ w5.drew
      have hM5 : MapIs w5.drew b es.length (delE s.data.toList es) := HM5.out.1
      go_wp2_with (first
        | (at_mapUpdate; refine wpList_putE rfl (.tmp 39) (.tmp 40) (.tmp 41) rfl b es.length _ rfl hM5 (by unfold maxLen; omega) t ht0 (.agg #[.slice ao u.1.length c, .int .i64 (u.2 : Nat)]) rfl rfl ?_; intro w6 hm6 hg6)
        | fail)
      go_ret
      obtain ⟨hm5, hg5⟩ := HM5.out
      obtain ⟨r1, r2⟩ := HR.out _ _ w5.drew w6 hm5 ⟨hg5.os, hg5.tape, hg5.output, hg5.size, hg5.block⟩ hm6 hg6
      rw [E1.out]
      exact ⟨P, rfl, r1, r2⟩
end Go.Proofs.YtkjdfelmjanpcaaDoor
