/- Package disk: Sync. -/
import Derived.Test.YtkjdfelmjanpcaaDoorDkOps2
namespace Go.Proofs.YtkjdfelmjanpcaaDoor
open Go.RowKit Go.Maps
theorem some_map {w : World} {g : Nat} {mb : Option Nat} {es : List Ent} {lost armed : Bool} {left : Int} (h : DiskE w g mb es lost armed left) {k : List UInt8} {v : Value} (hv : getE es k = some v) : ∃ b, mb = some b := by
  cases mb with
  | none => rw [h.2.2.1 rfl] at hv; cases hv
  | some b => exact ⟨b, rfl⟩
/-- The disk behind 'd.files[name] = f', f having been laid at L. -/
theorem put_end {w w2 w5 : World} {g b : Nat} {P : Nat → Prop} {es : List Ent} {fs : List FEnt} {k : List UInt8} {sv : Value} {xs : List Int} {lost armed l2 : Bool} {left n2 : Int} {ao : Option Addr} {m c n : Nat} {su : Nat}
    (h : DiskE w g (some b) es lost armed left) (h2 : P g) (h3 : P b) (h4 : All2 (FileOk w P) es fs) (h5 : es.Pairwise Apart) (h6 : Rising es) (h7 : ∀ i, P i → i < w.heap.size)
    (hold : ∀ d, sv.ownBlock = some d → P d ∧ ∃ v, getE es k = some v ∧ blkE (k, v) = some d)
    (hd : DiskE w2 g (some b) es l2 armed n2) (ht : Touch (· = g) w w2) (h8 : 0 ≤ n2) (h9 : n2 ≤ 9223372036854775807)
    (hm : MapIs w5 b n (putE k (.agg #[.slice ao m c, .int .i64 (su : Nat)]) es)) (hg : w2.grownBy w5 (some b)) (ho : Owns w2 0 (.slice ao m c) xs) (hok : okB xs) (hsu : su ≤ xs.length)
    (hsv : ∀ d, (Value.slice ao m c).ownBlock = some d → sv.ownBlock = some d ∨ w.heap.size ≤ d) :
    DiskAt w5 g (grow' P w w5) { fs := putE k (xs, su) fs, lost := l2, armed := armed, left := n2 } ∧ Step P (grow' P w w5) w w5 := by
  have hQ : Touch (TurnQ g (some b) sv) w w5 := (ht.mono (fun i _ e => Or.inl e)).trans (Touch.of_grown (P := fun i => i = b) hg (fun k hk => (Option.some.inj hk).symm)) (fun i _ e => Or.inr (Or.inl (by rw [e])))
  refine ⟨DiskAt.put h2 (fun b' e => by cases e; exact h3) h4 h5 h6 h7 (DiskE.put (w := w2) hd n k ao m c _ hm hg) h8 h9 (Or.inl rfl) hQ (others h h4 h5 k sv hold) ?_ hok hsu (fun d hd' => (hsv d hd').imp (fun e => (hold d e).2) id), step_grow hQ (fun i hi => ?_)⟩
  · exact World.ownsRow.kept ho hg (by
      cases hv : (Value.slice ao m c).ownBlock with
      | none => exact Or.inl rfl
      | some d => exact Or.inr (fun e => own_ne_map ho (hd.2.1 b rfl) (hv.trans e)))
  · rcases hi with hi | hi | hi
    · rw [hi]; exact h2
    · obtain rfl := Option.some.inj hi; exact h3
    · exact (hold i hi).1
set_option maxRecDepth 100000 in
set_option maxHeartbeats 2000000 in
theorem sync_any (g : Nat) (P : Nat → Prop) (D : DSt) (s : ByteArray) (w : World) (h : DiskAt w g P D) (hs : s.size ≤ maxLen) (hn : D.fs.length ≤ 1000000) :
    Calls Tryd.prog 64 #[ptr g, .string s] w fun e w' => ∃ P', e = .returned (.int .i64 (syncD D s.data.toList).1) ∧ DiskAt w' g P' (syncD D s.data.toList).2 ∧ Step P P' w w' := by
  have HDA := Lib.hid h
  obtain ⟨mb, es, h, h2, h3, h4, h5, h6, h7, h8, h9⟩ := h
  have HF := Lib.hid (find_any g mb es _ _ _ s w h hs)
  obtain ⟨sv, hv, ho, hko, hsu, hsv, hsome⟩ := file_of h4 s.data.toList
  have hsee := ho.sees
  obtain ⟨ao, c, rfl, -⟩ := id hsee
  rw [hv, hsome] at HF
  have hz : g < w.heap.size := heap_lt h.1
  cases hgf : getE D.fs s.data.toList with
  | none =>
    have e1 : syncD D s.data.toList = (6, D) := by unfold syncD; rw [hgf]
    rw [hgf] at HF
    rw [e1]
    simp only [Option.isSome_none, Bool.false_eq_true, if_false] at HF
    clear h h4 hv ho hko hsu hsv hsome hsee hgf e1
    go_enter Tryd.func64, Tryd.ntmps64
    go_wp2_with fail
    refine HF.out.mono ?_; rintro e w1 ⟨rfl, hb1⟩
    go_wp2_with fail
    go_ret
    refine ⟨P, rfl, HDA.out.below ?_, Touch.of_below P ?_, fun i hi => Or.inl hi⟩
    all_goals
      refine hb1.trans ?_
      repeat (first | exact Below.refl _ _ | refine Below.setCell ?_ (by simp) _ | refine Below.alloc ?_ (by have := hb1.size; simp; omega) _)
  | some u =>
    obtain ⟨b, rfl⟩ : ∃ b, mb = some b := by
      cases hge : getE es s.data.toList with
      | none => rw [hge, hgf] at hsome; cases hsome
      | some v => exact some_map h hge
    rw [hgf] at HF ho hko hsu hv hsee hsv
    simp only [Option.isSome_some, if_true, Option.getD_some] at HF ho hko hsu hv hsee hsv
    have HH := Lib.hid (And.intro h (And.intro h4 (And.intro hsv (And.intro ho (And.intro hko hsu)))))
    clear h h4 hv ho hko hsu hsv hsome hsee
    go_enter Tryd.func64, Tryd.ntmps64
    go_wp2_with fail
    refine HF.out.mono ?_; rintro e w1 ⟨rfl, hb1⟩
    go_wp2_with fail
    obtain ⟨h, h4, hsv, ho, hko, hsu⟩ := HH.out
    have hbA := belAlloc hb1 (.cells #[.slice ao u.1.length c, .int .i64 (u.2 : Nat)] 85)
    have hDA := h.keep hbA
    have hcA : (w1.alloc (.cells #[.slice ao u.1.length c, .int .i64 (u.2 : Nat)] 85)).heap[w1.heap.size]? = some (.cells #[.slice ao u.1.length c, .int .i64 (u.2 : Nat)] 85 (0, 0)) := heap_alloc_new w1 _
    have hz1 := hb1.size
    refine (write_any g (some b) es D.lost D.armed D.left _ hDA h8 h9).mono ?_; rintro e w2 ⟨rfl, hd2, ht2⟩
    have hT : Touch (· = g) w w2 := (Touch.of_below _ hbA).trans ht2 (fun _ _ e => e)
    have hL2 : w2.heap[w1.heap.size]? = some (.cells #[.slice ao u.1.length c, .int .i64 (u.2 : Nat)] 85 (0, 0)) := (ht2.2.2.2.2 _ (by simp) (by omega)).trans hcA
    obtain ⟨l1, hl1⟩ : ∃ l1, l1 = lost1 D.lost D.armed D.left := ⟨_, rfl⟩
    obtain ⟨n1, hn1⟩ : ∃ n1, n1 = left1 D.lost D.armed D.left := ⟨_, rfl⟩
    obtain ⟨q8, q9⟩ := left1_bd (lost := D.lost) (armed := D.armed) h8 h9
    have hE : errW D.lost D.armed D.left = if l1 then 12 else 0 := by unfold errW; rw [hl1]
    rw [← hl1, ← hn1] at hd2
    rw [← hn1] at q8 q9
    have HL := Lib.hid (And.intro hl1 hn1)
    cases l1 with
    | true =>
      have e1 : syncD D s.data.toList = (12, ⟨D.fs, true, D.armed, n1⟩) := by unfold syncD; rw [hgf]; simp only []; rw [← hl1, if_pos rfl, ← hn1]
      have E1 := Lib.hid e1
      rw [hE, if_pos rfl]
      have HR := Lib.hid (DiskAt.wrote (fs := D.fs) h h2 h3 h4 h5 h6 h7 hd2 hT q8 q9)
      clear h h4 hsv ho hko hsu hbA hDA hcA hL2 hd2 hl1 hn1 hE hgf e1
      go_wp2_with fail
      go_ret
      rw [E1.out]
      exact ⟨P, rfl, HR.out, hT.mono (fun i _ e => by rw [e]; exact h2), fun i hi => Or.inl hi⟩
    | false =>
      have e1 : syncD D s.data.toList = (0, { fs := putE s.data.toList (u.1, u.1.length) D.fs, lost := false, armed := D.armed, left := n1 }) := by
        unfold syncD; rw [hgf]; simp only []; rw [← hl1, if_neg (by simp), ← hn1]
      have E1 := Lib.hid e1
      rw [hE, if_neg (by simp)]
      have m1 : w2.cell? ⟨w1.heap.size, 0, none⟩ = some (.slice ao u.1.length c) := by simp [World.cell?, hL2]
      have m2 : w2.cell? ⟨w1.heap.size, 1, none⟩ = some (.int .i64 (u.2 : Nat)) := by simp [World.cell?, hL2]
      have m3 : w2.frozen? ⟨w1.heap.size, 1, none⟩ = false := by simp [World.frozen?, hL2]
      obtain ⟨w3, hw3⟩ : ∃ w3, w3 = w2.setCell ⟨w1.heap.size, 1, none⟩ (.int .i64 u.1.length) := ⟨_, rfl⟩
      have hd3 : DiskE w3 g (some b) es false D.armed n1 := by
        rw [hw3]
        exact hd2.heap (Below.heap_setCell w2 _ _ _ (fun e => by simp only [] at e; omega)) (fun b' e => Below.heap_setCell w2 _ _ _ (fun e2 => by
          have := (hd2.2.1 b' e).ne hL2
          exact this e2))
      have hL3 : w3.heap[w1.heap.size]? = some (.cells #[.slice ao u.1.length c, .int .i64 u.1.length] 85 (0, 0)) := by rw [hw3]; exact dset hL2 1 _
      have hT3 : Touch (· = g) w w3 := hT.trans (Q := fun i => i = w1.heap.size) (by rw [hw3]; exact touch_set w2 w1.heap.size 1 _) (fun i hi e => by omega)
      have ho3 : Owns w3 0 (.slice ao u.1.length c) u.1 := ⟨ho.1, ho.2.imp id fun ⟨g', cap, cur, e1, e2, e3, r⟩ => ⟨g', cap, cur, e1, e2, (hT3.2.2.2.2 g' (heap_lt e3) (fun e => own_ne_cells ho h.1 (by decide) (by rw [e1, ← e]; rfl))).trans e3, r⟩⟩
      have HW3 := Lib.hid hw3
      have HR := Lib.hid (And.intro hd3 (And.intro hT3 ho3))
      obtain ⟨c0, -⟩ := dcells hd3.1
      have p0 : w3.cell? ⟨w1.heap.size, 0, none⟩ = some (.slice ao u.1.length c) := by simp [World.cell?, hL3]
      have p1 : w3.cell? ⟨w1.heap.size, 1, none⟩ = some (.int .i64 u.1.length) := by simp [World.cell?, hL3]
      have hlenE : es.length ≤ 1000000 := by rw [All2.len h4]; exact hn
      have HC := Lib.hid (And.intro c0 (And.intro p0 p1))
      clear h h4 hsv ho hko hsu hbA hDA hcA hL2 hd2 hl1 hn1 hE hgf e1 hw3 hd3 hT3 ho3 hL3 c0 p0 p1 hT ht2
      go_upto_region 8 with fail
      rw [← HW3.out]
      clear m1 m2 m3
      obtain ⟨c0, p0, p1⟩ := HC.out
      go_still_tail 6, (by kernel_rfl)
      change wpList _ _ _ _ _ w3.drew
      have hM2 : MapIs w3.drew b es.length es := HR.out.1.2.1 b rfl
      go_wp2_with (first
        | (at_mapUpdate; refine wpList_putE rfl (.tmp 29) (.tmp 30) (.tmp 31) rfl b es.length es rfl hM2 (by unfold maxLen; omega) s hs (.agg #[.slice ao u.1.length c, .int .i64 u.1.length]) rfl rfl ?_; intro w5 hm5 hg5)
        | fail)
      go_ret
      obtain ⟨h, h4, hsv, ho, hko, hsu⟩ := HH.out
      obtain ⟨hd3, hT3, ho3⟩ := HR.out
      rw [E1.out]
      exact ⟨_, rfl, put_end (w2 := w3.drew) (su := u.1.length) h h2 (h3 b rfl) h4 h5 h6 h7 hsv hd3 (hT3.trans (Q := fun _ => False) (c := w3.drew) ⟨rfl, rfl, rfl, Nat.le_refl _, fun _ _ _ => rfl⟩ (fun _ _ h => h.elim)) q8 q9 hm5 hg5 ho3 hko (Nat.le_refl _) (fun d hd => Or.inl hd)⟩
theorem sync_nil (s : ByteArray) (w : World) : Calls Tryd.prog 64 #[.pointer none, .string s] w fun e w' => e = .returned (.int .i64 2) ∧ Below w.heap.size w w' := by
  have HF := Lib.hid (find_nil s w)
  unfold zeroF at HF
  go_enter Tryd.func64, Tryd.ntmps64
  go_wp2_with fail
  refine HF.out.mono ?_; rintro e w1 ⟨rfl, hb1⟩
  go_wp2_with fail
  go_ret
  refine ⟨rfl, hb1.trans ?_⟩
  repeat (first | exact Below.refl _ _ | refine Below.setCell ?_ (by simp) _ | refine Below.alloc ?_ (by have := hb1.size; simp; omega) _)
end Go.Proofs.YtkjdfelmjanpcaaDoor
