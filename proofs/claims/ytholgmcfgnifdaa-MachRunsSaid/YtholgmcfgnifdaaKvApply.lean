/- Package kv: Apply. -/
import Derived.Test.YtholgmcfgnifdaaKvMay
namespace Go.Proofs.Ytholgmcfgnifdaa
open Go.RowKit Go.Maps
def applyK (S : KSt) (e : KEff) : KSt := ⟨e.rev, if e.gone = true then delE (kl e.key) S.L else putE (kl e.key) (e.val, e.rev) S.L⟩
theorem wpList_delE {w : World} {ops : Array Oper} {rest : List Oper} {o : Oper} {a : Act} {Q : Exit → Act → World → Prop} (hgd : o.guard = none) (m x : Operand)
    (hop : o.op = Op.call { callee := Callee.builtin Builtin.delete, args := #[m, x], argTypes := #[77, 9] }) (b n : Nat) (fs : List Ent) (hm : a.eval m = .map (some b)) (h : MapIs w b n fs) (s : ByteArray) (hs : s.size ≤ maxLen) (hx : a.eval x = .string s)
    (hK : ∀ w', MapIs w' b n (delE s.data.toList fs) → w.grownBy w' (some b) → wpList Try.prog ops Q rest (a.put o.dst (.tuple #[])) w') : wpList Try.prog ops Q (o :: rest) a w := by
  refine wpList_plain hgd fun K' hK' => ?_
  obtain ⟨w', hrun, r1, r2⟩ := h.del hs o.type
  unfold Oper.wp
  simp [execOp, hop, resolve, invoke, builtin, hm, hx, hrun, Result.andThen]
  exact hK' _ _ (hK w' r1 r2)
theorem wpList_putE {w : World} {ops : Array Oper} {rest : List Oper} {o : Oper} {a : Act} {Q : Exit → Act → World → Prop} (hgd : o.guard = none) (m x v : Operand)
    (ho : o.op = Op.mapUpdate 77 m x v) (b n : Nat) (fs : List Ent) (hm : a.eval m = .map (some b)) (h : MapIs w b n fs) (hn : n < maxLen) (s : ByteArray) (hs : s.size ≤ maxLen) (val : Value) (hx : a.eval x = .string s) (hv : a.eval v = val)
    (hK : ∀ w', MapIs w' b (n + 1) (putE s.data.toList val fs) → w.grownBy w' (some b) → wpList Try.prog ops Q rest (a.put o.dst undef) w') : wpList Try.prog ops Q (o :: rest) a w :=
  wpList_mapUpdate_own w hgd m x v 77 ho 9 76 keyedS Try.underlying77 Rv b n (datum fs) hm h hn _ val _ hx hv (keyS hs) (.held val) [] rfl
    (fun w' h1 h2 => hK w' (by rw [datum_put] at h1; exact h1) h2)
theorem ents_del (L : List KEnt) (k : List UInt8) : entsV (delE k L) = delE k (entsV L) := by
  unfold entsV delE
  rw [List.filter_map]
  rfl
theorem ents_ins (x : KEnt) : ∀ L : List KEnt, entsV (insE x L) = insE (x.1, itV x.1 x.2) (entsV L)
  | [] => rfl
  | y :: r => by
    rw [insE]
    unfold entsV
    rw [List.map_cons, insE]
    split
    · rfl
    · rw [List.map_cons]
      have := ents_ins x r
      unfold entsV at this
      rw [this]
theorem ents_put (L : List KEnt) (k : List UInt8) (u : ByteArray × Int) : entsV (putE k u L) = putE k (itV k u) (entsV L) := by
  unfold putE
  rw [ents_ins, ents_del]
theorem insE_length {β : Type} (x : List UInt8 × β) : ∀ fs : List (List UInt8 × β), (insE x fs).length = fs.length + 1
  | [] => rfl
  | y :: r => by
    rw [insE]
    split
    · rfl
    · rw [List.length_cons, insE_length x r, List.length_cons]
theorem delE_le {β : Type} (k : List UInt8) (fs : List (List UInt8 × β)) : (delE k fs).length ≤ fs.length := List.length_filter_le _ _
theorem putE_len {β : Type} (k : List UInt8) (v : β) (fs : List (List UInt8 × β)) : (putE k v fs).length ≤ fs.length + 1 := by
  unfold putE
  rw [insE_length]
  exact Nat.succ_le_succ (delE_le _ _)
theorem itV_key (s : ByteArray) (u : ByteArray × Int) : itV (kl s) u = .agg #[.string s, .string u.1, .int .i64 u.2] := by unfold itV; rw [kl_str]
theorem mayA_there {S : KSt} {e : KEff} (h : mayA S e = true) (hg : e.gone = true) : S.L ≠ [] := by
  unfold mayA at h
  rw [hg] at h
  simp only [Bool.and_eq_true, Bool.not_true, Bool.false_or] at h
  have h1 := h.2.2.2.2.2
  unfold there at h1
  intro e0
  rw [e0] at h1
  cases h1
theorem eqNilM (w : World) (a : Option Nat) : (binOp .eql 77 (.map a) (.map none)).run Try.prog w = .ok (.bool a.isNone) w := by cases a <;> kernel_rfl
theorem apply_nil (e : KEff) (w : World) : Calls Try.prog 27 #[.pointer none, effV e] w fun x w' => x = .returned (.int .i64 2) ∧ Below w.heap.size w w' := by
  have q := eqNilK
  have HB := Lib.hid (belNew w (effO e))
  go_enter Try.func27, Try.ntmps27
  go_wp2
  go_ret
  exact ⟨rfl, HB.out⟩
set_option maxRecDepth 100000 in
set_option maxHeartbeats 4000000 in
theorem apply_any (g : Nat) (P : Nat → Prop) (S : KSt) (e : KEff) (w : World) (h : KvAt w g P S) (hs : e.key.size ≤ maxLen) (hrv : 0 ≤ S.rev ∧ S.rev ≤ 9223372036854775807) (hn : S.L.length ≤ 1000000) :
    Calls Try.prog 27 #[ptr g, effV e] w fun x w' => x = .returned (.int .i64 (if mayA S e = true then 0 else 1)) ∧ ∃ P', KvAt w' g P' (if mayA S e = true then applyK S e else S) ∧ (∀ i, P' i → P i ∨ w.heap.size ≤ i) ∧ Touch P w w' := by
  have q := eqNilK
  obtain ⟨w1, hw1⟩ : ∃ w1, w1 = w.alloc (effO e) := ⟨_, rfl⟩
  have hb1 : Below w.heap.size w w1 := by rw [hw1]; exact belNew _ _
  have hn1 : w1.heap[w.heap.size]? = some (effO e) := by rw [hw1]; exact heap_alloc_new w _
  have hk1 := h.below hb1
  have HM := Lib.hid (mayApply_any g P S e w1 hk1 hs hrv)
  have HG := Lib.hid (fun (hm : mayA S e = true) => mayA_there hm)
  have HW := Lib.hid hw1
  have HB1 := Lib.hid (And.intro hb1 (And.intro hn1 hk1))
  have HH := Lib.hid h
  obtain ⟨e0, e1, e2, e3, -⟩ := four hn1
  clear hw1 hb1 hn1 hk1 h
  cases hm : mayA S e with
  | false =>
    rw [hm] at HM
    rw [if_neg (by simp), if_neg (by simp)]
    clear hm
    go_enter Try.func27, Try.ntmps27
    go_upto_region 1 with fail
    change Code.wp _ _ _ _ (w.alloc (effO e))
    rw [← HW.out]
    clear HW
    go_wp2_with (first
      | (go_at_call 34; refine HM.out.mono ?_; rintro x w2 ⟨rfl, hb2⟩)
      | go_in)
    go_ret
    have hb := HB1.out.1.trans (hb2.mono HB1.out.1.size)
    exact ⟨rfl, P, HH.out.below hb, fun i hi => Or.inl hi, Touch.of_below P hb⟩
  | true =>
    rw [hm] at HM
    have HG2 := HG.out hm
    rw [if_pos rfl, if_pos rfl]
    clear hm HG
    cases hg : e.gone with
    | true =>
      have hne := HG2 hg
      have hA : applyK S e = ⟨e.rev, delE (kl e.key) S.L⟩ := by unfold applyK; rw [if_pos hg]
      rw [hA]
      have HGN := Lib.hid hg
      clear hA HG2 hg
      go_enter Try.func27, Try.ntmps27
      go_upto_region 1 with fail
      change Code.wp _ _ _ _ (w.alloc (effO e))
      rw [← HW.out]
      clear HW
      go_upto_region 5 with (first
        | (go_at_call 34; refine HM.out.mono ?_; rintro x w2 ⟨rfl, hb2⟩)
        | go_in)
      obtain ⟨mb, h1, h2, h3, h4, h5⟩ := HB1.out.2.2.below hb2
      obtain ⟨b, rfl⟩ : ∃ b, mb = some b := by
        cases mb with
        | none => exact absurd (h3 rfl) hne
        | some b => exact ⟨b, rfl⟩
      obtain ⟨hM, hPb⟩ := h2 b rfl
      have hn2 := (hb2.block _ (heap_lt HB1.out.2.1)).trans HB1.out.2.1
      have hgn : w.heap.size ≠ g := fun e => by have := HH.out.lt; omega
      have hbn : b ≠ w.heap.size := fun e => by rw [← e] at hn2; exact hM.ne hn2 rfl
      have hbg : b ≠ g := hM.ne h1
      obtain ⟨e0, e1, e2, e3, -⟩ := four hn2
      have c0 := cell0 h1
      have f0 := froz h1 0
      have hg := HGN.out
      have hbT := HB1.out.1.trans (hb2.mono HB1.out.1.size)
      obtain ⟨w3, hw3⟩ : ∃ w3, w3 = w2.setCell ⟨g, 0, none⟩ (.int .i64 e.rev) := ⟨_, rfl⟩
      have h13 : w3.heap[g]? = some (.cells #[.int .i64 e.rev, .map (some b)] 79 (0, 0)) := by rw [hw3]; exact one_set h1 _
      have hM3 : MapIs w3 b S.L.length (entsV S.L) := hM.heap (by rw [hw3]; exact Below.heap_setCell _ _ _ _ hbg)
      have hn3 : w3.heap[w.heap.size]? = some (effO e) := by rw [hw3]; exact (Below.heap_setCell _ _ _ _ hgn).trans hn2
      have hT3 : Touch P w w3 := by
        rw [hw3]
        exact (Touch.of_below P hbT).trans (touch_set w2 g 0 _) (fun i _ e => by rw [e]; exact h4)
      have HX := Lib.hid (And.intro h13 (And.intro hM3 (And.intro hT3 (And.intro h4 (And.intro hPb (And.intro hbg h5))))))
      have HW3 := Lib.hid hw3
      have HC3 := Lib.hid (And.intro (cell1 h13) (four hn3))
      clear h1 h2 h3 h4 h5 hM hPb hn2 hgn hbn hbg hbT hw3 h13 hM3 hn3 hT3 hb2
      go_upto_region 7 with fail
      rw [← HW3.out]
      clear HW3 c0 f0 e0 e1 e2 e3
      obtain ⟨c1, e0, e1, e2, e3, -⟩ := HC3.out
      go_still_tail 6, (by kernel_rfl)
      change wpList _ _ _ _ _ w3.drew
      have hM4 : MapIs w3.drew b S.L.length (entsV S.L) := HX.out.2.1
      go_wp2_with (first
        | (refine wpList_delE rfl (.tmp 21) (.tmp 23) rfl b S.L.length (entsV S.L) rfl hM4 e.key hs rfl ?_; intro w5 hm5 hg5)
        | go_in)
      go_ret
      obtain ⟨h13, hM3, hT3, h4, hPb, hbg, h5⟩ := HX.out
      have hT5 : Touch P w3 w5 := Touch.of_grown (P := P) (w := w3) ⟨hg5.os, hg5.tape, hg5.output, hg5.size, hg5.block⟩ (fun k hk => by cases hk; exact hPb)
      rw [← ents_del] at hm5
      have hm6 := hm5.tight
      refine ⟨rfl, P, ⟨some b, (hg5.block g (heap_lt h13) (fun e => hbg (Option.some.inj e).symm)).trans h13, fun b' e => ?_, (fun e => by cases e), h4, fun i hi => ?_⟩, fun i hi => Or.inl hi, hT3.trans hT5 (fun _ _ h => h)⟩
      · cases e
        refine ⟨?_, hPb⟩
        unfold entsV at hm6 ⊢
        rw [List.length_map] at hm6
        exact hm6
      · have h6 := HH.out
        obtain ⟨_, _, _, _, _, h7⟩ := h6
        exact Nat.lt_of_lt_of_le (h7 i hi) (hT3.trans hT5 (fun _ _ h => h)).2.2.2.1
    | false =>
      have hA : applyK S e = ⟨e.rev, putE (kl e.key) (e.val, e.rev) S.L⟩ := by unfold applyK; rw [if_neg (by rw [hg]; simp)]
      rw [hA]
      have HGN := Lib.hid hg
      have hmm := @run_makeMap Try.prog
      have qm := eqNilM
      clear hA HG2 hg
      go_enter Try.func27, Try.ntmps27
      go_upto_region 1 with fail
      change Code.wp _ _ _ _ (w.alloc (effO e))
      rw [← HW.out]
      clear HW
      go_upto_region 5 with (first
        | (go_at_call 34; refine HM.out.mono ?_; rintro x w2 ⟨rfl, hb2⟩)
        | go_in)
      obtain ⟨mb, h1, h2, h3, h4, h5⟩ := HB1.out.2.2.below hb2
      have hn2 := (hb2.block _ (heap_lt HB1.out.2.1)).trans HB1.out.2.1
      have hgn : w.heap.size ≠ g := fun e => by have := HH.out.lt; omega
      obtain ⟨e0, e1, e2, e3, -⟩ := four hn2
      have c0 := cell0 h1
      have c1 := cell1 h1
      have f0 := froz h1 0
      have f1 := froz h1 1
      have hg := HGN.out
      have hbT := HB1.out.1.trans (hb2.mono HB1.out.1.size)
      obtain ⟨w3, hw3⟩ : ∃ w3, w3 = w2.setCell ⟨g, 0, none⟩ (.int .i64 e.rev) := ⟨_, rfl⟩
      have h13 : w3.heap[g]? = some (.cells #[.int .i64 e.rev, .map mb] 79 (0, 0)) := by rw [hw3]; exact one_set h1 _
      have hn3 : w3.heap[w.heap.size]? = some (effO e) := by rw [hw3]; exact (Below.heap_setCell _ _ _ _ hgn).trans hn2
      have hT3 : Touch P w w3 := by
        rw [hw3]
        exact (Touch.of_below P hbT).trans (touch_set w2 g 0 _) (fun i _ e => by rw [e]; exact h4)
      have HW3 := Lib.hid hw3
      have hFin : ∀ (b n : Nat) (P' : Nat → Prop) (W V : World), W.heap[g]? = some (.cells #[.int .i64 e.rev, .map (some b)] 79 (0, 0)) → b ≠ g → Touch P w W → P' g → P' b → (∀ i, P' i → P i ∨ w.heap.size ≤ i) → (∀ i, P' i → i < W.heap.size) → (P b ∨ w.heap.size ≤ b) → MapIs V b n (putE e.key.data.toList (.agg #[.string e.key, .string e.val, .int .i64 e.rev]) (entsV S.L)) → W.grownBy V (some b) →
          ∃ P', KvAt V g P' ⟨e.rev, putE (kl e.key) (e.val, e.rev) S.L⟩ ∧ (∀ i, P' i → P i ∨ w.heap.size ≤ i) ∧ Touch P w V := by
        intro b n P' W V q1 q2 q3 q4 q5 q6 q7 q8 q9 q10
        rw [← itV_key e.key (e.val, e.rev), ← ents_put] at q9
        have hm6 := q9.tight
        refine ⟨P', ⟨some b, (q10.block g (heap_lt q1) (fun e => q2 (Option.some.inj e).symm)).trans q1, fun b' e => ?_, (fun e => by cases e), q4, fun i hi => Nat.lt_of_lt_of_le (q7 i hi) q10.size⟩, q6, ?_⟩
        · cases e
          refine ⟨?_, q5⟩
          unfold entsV at hm6 ⊢
          rw [List.length_map] at hm6
          exact hm6
        · refine ⟨q10.os.trans q3.1, q10.tape.trans q3.2.1, q10.output.trans q3.2.2.1, Nat.le_trans q3.2.2.2.1 q10.size, fun k hk hnk => ?_⟩
          have hkb : k ≠ b := fun e => by
            subst e
            rcases q8 with q8 | q8
            · exact hnk q8
            · omega
          exact (q10.block k (Nat.lt_of_lt_of_le hk q3.2.2.2.1) (fun e => hkb (Option.some.inj e))).trans (q3.2.2.2.2 k hk hnk)
      have HF := Lib.hid hFin
      clear hFin
      have h7 : ∀ i, P i → i < w.heap.size := by
        obtain ⟨_, _, _, _, _, h7⟩ := HH.out
        exact h7
      cases mb with
      | some b =>
        obtain ⟨hM, hPb⟩ := h2 b rfl
        have hbg : b ≠ g := hM.ne h1
        have hM3 : MapIs w3 b S.L.length (entsV S.L) := hM.heap (by rw [hw3]; exact Below.heap_setCell _ _ _ _ hbg)
        have HX := Lib.hid (And.intro h13 (And.intro hM3 (And.intro hT3 (And.intro h4 (And.intro hPb (And.intro hbg h7))))))
        have HC3 := Lib.hid (And.intro (cell1 h13) (four hn3))
        clear h1 h2 h3 h4 h5 hM hPb hn2 hgn hbg hbT hw3 h13 hM3 hn3 hT3 hb2 h7
        go_upto_region 11 with fail
        rw [← HW3.out]
        clear HW3 c0 c1 f0 f1 e0 e1 e2 e3
        obtain ⟨c1, e0, e1, e2, e3, -⟩ := HC3.out
        go_still_tail 13, (by kernel_rfl)
        change wpList _ _ _ _ _ w3.drew
        have hM4 : MapIs w3.drew b S.L.length (entsV S.L) := HX.out.2.1
        go_wp2_with (first
          | (at_mapUpdate; refine wpList_putE rfl (.tmp 36) (.tmp 38) (.tmp 45) rfl b S.L.length (entsV S.L) rfl hM4 (by unfold maxLen; omega) e.key hs (.agg #[.string e.key, .string e.val, .int .i64 e.rev]) rfl rfl ?_; intro w5 hm5 hg5)
          | go_in)
        go_ret
        obtain ⟨h13, hM3, hT3, h4, hPb, hbg, h7⟩ := HX.out
        exact ⟨rfl, HF.out b _ P w3.drew w5 h13 hbg hT3 h4 hPb (fun i hi => Or.inl hi) (fun i hi => Nat.lt_of_lt_of_le (h7 i hi) hT3.2.2.2.1) (Or.inl hPb) hm5 hg5⟩
      | none =>
        have hL : S.L = [] := h3 rfl
        have hz3 : w3.heap.size = w2.heap.size := by rw [hw3]; simp [World.setCell]
        obtain ⟨w4, hw4⟩ : ∃ w4, w4 = (w3.alloc (.map #[] 0)).setCell ⟨g, 1, none⟩ (.map (some w2.heap.size)) := ⟨_, rfl⟩
        have hz4 : w4.heap.size = w2.heap.size + 1 := by rw [hw4]; simp [World.setCell, hz3]
        have hzw : w.heap.size < w2.heap.size := heap_lt hn2
        have hgl : g < w2.heap.size := heap_lt h1
        have hgl3 : g < w3.heap.size := heap_lt h13
        have h14 : w4.heap[g]? = some (.cells #[.int .i64 e.rev, .map (some w2.heap.size)] 79 (0, 0)) := by
          rw [hw4]
          have := dset ((Below.heap_alloc w3 (.map #[] 0) g hgl3).trans h13) 1 (.map (some w2.heap.size))
          simpa using this
        have hM3 : MapIs w4 w2.heap.size 0 [] := by
          rw [hw4, ← hz3]
          exact (MapIs.made w3).heap (Below.heap_setCell _ _ _ _ (by simp only []; omega))
        have hn4 : w4.heap[w.heap.size]? = some (effO e) := by
          rw [hw4]
          exact ((Below.heap_setCell _ _ _ _ hgn).trans (Below.heap_alloc w3 _ _ (by omega))).trans hn3
        have hT4 : Touch P w w4 := by
          rw [hw4]
          exact (hT3.trans (Touch.of_below P (belNew w3 _)) (fun _ _ h => h)).trans (touch_set _ g 1 _) (fun i _ e => by rw [e]; exact h4)
        clear hgl3
        have HX := Lib.hid (And.intro h14 (And.intro hM3 (And.intro hT4 (And.intro h4 (And.intro (show w2.heap.size ≠ g by omega) (And.intro h7 (And.intro hz4 hzw)))))))
        have HC3 := Lib.hid (And.intro (cell1 h14) (four hn4))
        have HW4 := Lib.hid hw4
        have HL := Lib.hid hL
        have HZ3 := Lib.hid hz3
        have hA3 : (w3.alloc (.map #[] 0)).heap[g]? = some (.cells #[.int .i64 e.rev, .map none] 79 (0, 0)) := (Below.heap_alloc w3 _ g (heap_lt h13)).trans h13
        have HC1 := Lib.hid (And.intro (cell1 h13) (And.intro (froz h13 1) (And.intro (cell1 hA3) (And.intro (froz hA3 1) (four hn3)))))
        clear hA3
        clear h1 h2 h3 h4 h5 hn2 hgn hbT hw3 h13 hM3 hn3 hT3 hb2 h7 h14 hn4 hT4 hw4 hL hz3 hz4 hzw hgl
        go_upto_region 9 with fail
        rw [← HW3.out]
        clear c0 c1 f0 f1 e0 e1 e2 e3
        obtain ⟨c1, f1, c1a, f1a, e0, e1, e2, e3, -⟩ := HC1.out
        go_upto_region 11 with fail
        rw [HZ3.out, ← HW4.out]
        clear HC1
        clear HW3 HW4 c1 f1 c1a f1a e0 e1 e2 e3
        obtain ⟨c1, e0, e1, e2, e3, -⟩ := HC3.out
        clear hmm
        go_still_tail 13, (by kernel_rfl)
        change wpList _ _ _ _ _ w4.drew
        have hM4 : MapIs w4.drew w2.heap.size 0 (entsV S.L) := by rw [HL.out]; exact HX.out.2.1
        go_wp2_with (first
          | (at_mapUpdate; refine wpList_putE rfl (.tmp 36) (.tmp 38) (.tmp 45) rfl w2.heap.size 0 (entsV S.L) rfl hM4 (by unfold maxLen; omega) e.key hs (.agg #[.string e.key, .string e.val, .int .i64 e.rev]) rfl rfl ?_; intro w5 hm5 hg5)
          | go_in)
        go_ret
        obtain ⟨h14, hM3, hT4, h4, hbg, h7, hz4, hzw⟩ := HX.out
        refine ⟨rfl, HF.out w2.heap.size _ (fun i => P i ∨ i = w2.heap.size) w4.drew w5 h14 hbg hT4 (Or.inl h4) (Or.inr rfl) (fun i hi => ?_) (fun i hi => ?_) (Or.inr (by omega)) hm5 hg5⟩
        · rcases hi with hi | hi
          · exact Or.inl hi
          · exact Or.inr (by omega)
        · show i < w4.heap.size
          rcases hi with hi | hi
          · have := h7 i hi; omega
          · omega
end Go.Proofs.Ytholgmcfgnifdaa
