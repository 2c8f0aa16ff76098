/- Package redo: putNumber, putLong, putItem, right, Put: an effect's bytes. -/
import Derived.Test.YtogcjginifcbpaaKvOf
import Derived.Test.YtogcjginifcbpaaPackPutsW
namespace Go.Proofs.Ytogcjginifcbpaa
open Go.RowKit Go.Maps
theorem Owns.slice {w : World} {B : Nat} {v : Value} {xs : List Int} (h : Owns w B v xs) (hx : xs ≠ []) : ∃ g cap, v = .slice (some ⟨g, 0, none⟩) xs.length cap := by
  rcases h.2 with ⟨_, h0⟩ | ⟨g, cap, _, e, _⟩
  · exact absurd (List.eq_nil_of_length_eq_zero h0) hx
  · exact ⟨g, cap, e⟩
theorem Owns.beyond {w w' : World} {B : Nat} {v : Value} {xs : List Int} (h : Owns w B v xs) (hb : Below w.heap.size w w') : Owns w' B v xs :=
  ⟨h.1, h.2.imp id fun ⟨g, cap, cur, e, b, hg, r⟩ => ⟨g, cap, cur, e, b, (hb.block g (heap_lt hg)).trans hg, r⟩⟩
/-- append of bytes of the call's own, not none, to bytes of the call's own. -/
theorem wpList_append_owns {w : World} {ops : Array Oper} {rest : List Oper} {o : Oper} {a : Act} {Q : Exit → Act → World → Prop} (hgd : o.guard = none) (s x : Operand)
    (ho : o.op = .call { callee := .builtin .append, args := #[s, x], argTypes := #[76, 76] }) (B B2 : Nat) (v u : Value) (xs t : List Int) (ht : t ≠ [])
    (hs : a.eval s = v) (hx : a.eval x = u) (hown : Owns w B v xs) (hsee : Owns w B2 u t) (hb : xs.length + t.length ≤ 140737488355328) (hB : B ≤ w.heap.size)
    (h : ∀ v' w', Owns w' B v' (xs ++ t) → w.grownBy w' v.ownBlock → wpList Try.prog ops Q rest (a.put o.dst v') w') : wpList Try.prog ops Q (o :: rest) a w := by
  obtain ⟨i0, hi, hz0, hz1, hz2⟩ := info_parts info8
  obtain ⟨g, cap, rfl⟩ := hsee.slice ht
  refine wpList_append_own w hgd s x 76 ho B 5 i0 (.int .u8 0) 1 1 Try.underlying76 hi hz0 hz1 hz2 rfl (by decide) _ _ _ hs hown ⟨g, 0, none⟩ t.length cap (cells8 t) hx (by simp) (fun j u hj => World.ownsRow.cells hsee (g := g) rfl j u hj) (fun u hu => by obtain ⟨z, _, rfl⟩ := List.mem_map.1 hu; rfl) (by unfold maxLen; omega) (by omega) hB ?_
  intro v' w' ho' hg' _
  exact h v' w' (by unfold Owns cells8; rw [List.length_append, List.map_append]; exact ho') hg'
/-- All but blocks of bytes from B on is as it was. -/
def Kp (B : Nat) (w w' : World) : Prop := Below B w w' ∧ w.heap.size ≤ w'.heap.size ∧ ∀ k, k < w.heap.size → (∀ cur f, w.heap[k]? ≠ some (.cells cur 5 f)) → w'.heap[k]? = w.heap[k]?
theorem Kp.trans {B : Nat} {a b c : World} (h : Kp B a b) (k : Kp B b c) : Kp B a c :=
  ⟨h.1.trans k.1, Nat.le_trans h.2.1 k.2.1, fun i hi hn => by
    have e := h.2.2 i hi hn
    exact (k.2.2 i (Nat.lt_of_lt_of_le hi h.2.1) (fun cur f => by rw [e]; exact hn cur f)).trans e⟩
theorem Kp.of_below {B : Nat} {w w' : World} (h : Below w.heap.size w w') (hB : B ≤ w.heap.size) : Kp B w w' := ⟨h.mono hB, h.size, fun k hk _ => h.block k hk⟩
theorem Kp.of_grown {B : Nat} {w w' : World} {v : Value} {xs : List Int} (ho : Owns w B v xs) (hg : w.grownBy w' v.ownBlock) (hB : B ≤ w.heap.size) : Kp B w w' :=
  ⟨(Below.refl B w).grown hg hB (fun g hg => (ho.lt g hg).1), hg.size, fun k hk hn => hg.block k hk (fun e => by
    rcases ho.2 with ⟨rfl, _⟩ | ⟨g, cap, cur, rfl, _, hb, _⟩
    · cases e
    · have e2 : k = g := Option.some.inj e
      subst e2
      exact hn _ _ hb)⟩
theorem Kp.cells {B : Nat} {w w' : World} (h : Kp B w w') {k : Nat} {cs : Array Value} {t : TypeId} {f : Nat × Nat} (hk : w.heap[k]? = some (.cells cs t f)) (ht : t ≠ 5) : w'.heap[k]? = some (.cells cs t f) :=
  (h.2.2 k (heap_lt hk) (fun cur f' e => by
    rw [hk] at e
    injection e with e1
    injection e1 with _ e2
    exact ht e2)).trans hk
theorem putL_ne {n k : Int} (hk : wOk k = true) : putL n k ≠ [] := by
  unfold putL
  rw [if_pos hk]
  unfold wOk at hk
  have h := of_decide_eq_true hk
  obtain ⟨m, hm⟩ : ∃ m, k.toNat = m + 1 := ⟨k.toNat - 1, by omega⟩
  rw [hm, numBytes]
  exact List.cons_ne_nil _ _
set_option maxHeartbeats 2000000 in
theorem putNumber_any (B : Nat) (v : Value) (xs : List Int) (n k : Int) (w : World) (h : Owns w B v xs) (hk : wOk k = true) (hl : xs.length ≤ 1000000000) (hB : B ≤ w.heap.size) :
    Calls Try.prog 59 #[v, .int .u64 n, .int .i64 k] w fun e w' => ∃ v', e = .returned v' ∧ Owns w' B v' (xs ++ putL n k) ∧ Kp B w w' := by
  have HP := Lib.hid (put_any (.slice none 0 0) [] n k w (Sees.nil w) (by simp))
  rw [List.nil_append] at HP
  have HO := Lib.hid h
  have HL : Hid ((putL n k).length ≤ 8) := Lib.hid (putL_len n k)
  have HN := Lib.hid (putL_ne (n := n) hk)
  clear h hk
  go_enter Try.func59, Try.ntmps59
  go_wp2_with (first
    | (go_at_call 76; refine HP.out.mono ?_; rintro e w1 ⟨u, rfl, hu, hb1⟩)
    | (at_builtin; refine wpList_append_owns rfl (.tmp 7) (.tmp 10) rfl B w.heap.size v u xs (putL n k) HN.out rfl rfl (HO.out.beyond hb1) hu (by have := HL.out; omega) (Nat.le_trans hB hb1.size) ?_; intro v2 w2 ho2 hg2)
    | go_in)
  go_ret
  refine ⟨_, rfl, ho2, ?_⟩
  exact (Kp.of_below hb1 hB).trans (Kp.of_grown (HO.out.beyond hb1) hg2 (Nat.le_trans hB hb1.size))
/-- A long text's bytes. -/
def longL (s : ByteArray) : List Int := putL (s.size : Int) 4 ++ strI s
set_option maxHeartbeats 2000000 in
theorem putLong_any (B : Nat) (v : Value) (xs : List Int) (s : ByteArray) (w : World) (h : Owns w B v xs) (hl : xs.length ≤ 500000000) (hs : s.size ≤ 100000) (hB : B ≤ w.heap.size) :
    Calls Try.prog 75 #[v, .string s] w fun e w' => ∃ v', e = .returned v' ∧ Owns w' B v' (xs ++ longL s) ∧ Kp B w w' := by
  have HP := Lib.hid (putNumber_any B v xs (s.size : Int) 4 w h rfl (by omega) hB)
  have HN : Hid (xs ++ putL (s.size : Int) 4 ≠ []) := Lib.hid (fun e => putL_ne (n := (s.size : Int)) (k := 4) rfl (List.append_eq_nil_iff.1 e).2)
  have HL : Hid ((xs ++ putL (s.size : Int) 4 ++ strI s).length ≤ 140737488355328) := Lib.hid (by rw [List.length_append, List.length_append, strI_length]; have := putL_len (s.size : Int) 4; omega)
  have hc : IntKind.u64.wrap (s.size : Int) = (s.size : Int) := IntWalk.u64_in _ (by omega)
  obtain ⟨Y, hY⟩ : ∃ Y, Y = xs ++ putL (s.size : Int) 4 := ⟨_, rfl⟩
  rw [← hY] at HP HN HL
  have HY := Lib.hid hY
  clear h hY
  go_enter Try.func75, Try.ntmps75
  go_wp2_with (first
    | (go_at_call 59; refine HP.out.mono ?_; rintro e w1 ⟨u, rfl, hu, hb1⟩; obtain ⟨g, cap, rfl⟩ := hu.slice HN.out)
    | (at_builtin; refine wpList_append_str rfl (.tmp 9) (.tmp 10) rfl B g cap Y s rfl rfl hu HL.out (Nat.le_trans hB hb1.2.1) ?_; intro v2 w2 ho2 hg2)
    | go_in)
  go_ret
  refine ⟨_, rfl, by unfold longL; rw [← List.append_assoc, ← HY.out]; exact ho2, ?_⟩
  exact hb1.trans (Kp.of_grown hu hg2 (Nat.le_trans hB hb1.2.1))
/-- An item's bytes. -/
def itemL (p : KEnt) : List Int := putL p.2.2 8 ++ (longL ⟨p.1.toArray⟩ ++ longL p.2.1)
abbrev itO (p : KEnt) : Obj := .cells #[.string ⟨p.1.toArray⟩, .string p.2.1, .int .i64 p.2.2] 73
set_option maxRecDepth 100000 in
set_option maxHeartbeats 4000000 in
theorem putItem_any (B : Nat) (v : Value) (xs : List Int) (p : KEnt) (w : World) (h : Owns w B v xs) (hl : xs.length ≤ 100000000) (hk : (⟨p.1.toArray⟩ : ByteArray).size ≤ 100000) (hv : p.2.1.size ≤ 100000) (hr : 0 ≤ p.2.2 ∧ p.2.2 ≤ 9223372036854775807) (hB : B ≤ w.heap.size) :
    Calls Try.prog 58 #[v, .agg #[.string ⟨p.1.toArray⟩, .string p.2.1, .int .i64 p.2.2]] w fun e w' => ∃ v', e = .returned v' ∧ Owns w' B v' (xs ++ itemL p) ∧ Kp B w w' := by
  obtain ⟨w1, hw1⟩ : ∃ w1, w1 = w.alloc (itO p) := ⟨_, rfl⟩
  have hb1 : Below w.heap.size w w1 := by rw [hw1]; exact belNew _ _
  have hx1 : w1.heap[w.heap.size]? = some (itO p) := by rw [hw1]; exact heap_alloc_new w _
  obtain ⟨x0, x1, x2⟩ := rcells hx1
  have HW := Lib.hid hw1
  have HP := Lib.hid (putNumber_any B v xs p.2.2 8 w1 (h.beyond hb1) rfl (by omega) (Nat.le_trans hB hb1.size))
  have hc : IntKind.u64.wrap p.2.2 = p.2.2 := IntWalk.u64_in _ (by omega)
  have H1 := Lib.hid (And.intro hb1 hx1)
  have hk8 := putL_len p.2.2 8
  have HK8 := Lib.hid hk8
  clear hw1 hb1 hx1 h hk8
  go_enter Try.func58, Try.ntmps58
  go_upto_region 1 with fail
  change Code.wp _ _ _ _ (w.alloc (itO p))
  rw [← HW.out]
  go_upto_region 2 with (first
    | (go_at_call 59; refine HP.out.mono ?_; rintro e w2 ⟨u, rfl, hu, hb2⟩)
    | go_in)
  have hx2 := hb2.cells H1.out.2 (by decide)
  refine wp_region_held_drew (S := (fun W => W.heap[w.heap.size]? = some (itO p))) (by kernel_rfl) ?_ (fun r0 => ?_)
  · exact hx2
  obtain ⟨wd, hwd⟩ : ∃ wd, wd = w2.drew := ⟨_, rfl⟩
  rw [← hwd] at r0 ⊢
  have hbd : Below w2.heap.size w2 wd := by rw [hwd]; exact bdrew (Below.refl _ _)
  have hud := hu.beyond hbd
  have hBd : B ≤ wd.heap.size := by have := H1.out.1.size; have := hb2.2.1; have := hbd.size; omega
  have HBd := Lib.hid (show Kp B w2 wd from Kp.of_below hbd (by have := H1.out.1.size; have := hb2.2.1; omega))
  clear hwd hbd hu x0 x1 x2
  refine wpAnyH_take (i := 0) (v := ?_) rfl (by kernel_rfl) (by kernel_rfl) (by kernel_rfl) (fun _ _ _ h => h) (Or.inl ⟨by rfl, ?_⟩) (by assumption) ?_
  rotate_left
  · intro wS hSw
    (try dsimp only at hSw)
    go_simp
    first | done | with_reducible rfl
  try simp only [Act.put, List.getElem_toArray, List.getElem_cons_zero, List.setIfInBounds_toArray, List.set_cons_zero, List.set_cons_succ]
  refine wpAnyH_take (i := 1) (v := ?_) rfl (by kernel_rfl) (by kernel_rfl) (by kernel_rfl) (fun _ _ _ h => h) (Or.inl ⟨by rfl, ?_⟩) (by assumption) ?_
  rotate_left
  · intro wS hSw
    (try dsimp only at hSw)
    go_simp
    first | done | with_reducible rfl
  try simp only [Act.put, List.getElem_toArray, List.getElem_cons_succ, List.getElem_cons_zero, List.setIfInBounds_toArray, List.set_cons_zero, List.set_cons_succ]
  refine wpAnyH_take (i := 2) (v := ?_) rfl (by kernel_rfl) (by kernel_rfl) (by kernel_rfl) (fun _ _ _ h => h) (Or.inl ⟨by rfl, ?_⟩) (by assumption) ?_
  rotate_left
  · intro wS hSw
    (try dsimp only at hSw)
    obtain ⟨x0, x1, x2⟩ := rcells hSw
    go_simp
    first | done | with_reducible rfl
  try simp only [Act.put, List.getElem_toArray, List.getElem_cons_succ, List.getElem_cons_zero, List.setIfInBounds_toArray, List.set_cons_zero, List.set_cons_succ]
  refine wpAnyH_take (i := 4) (v := ?_) rfl (by kernel_rfl) (by kernel_rfl) (by kernel_rfl) (fun _ _ _ h => h) (Or.inl ⟨by rfl, ?_⟩) (by assumption) ?_
  rotate_left
  · intro wS hSw
    (try dsimp only at hSw)
    go_simp
    first | done | with_reducible rfl
  try simp only [Act.put, List.getElem_toArray, List.getElem_cons_succ, List.getElem_cons_zero, List.setIfInBounds_toArray, List.set_cons_zero, List.set_cons_succ]
  refine wpAnyH_take (i := 5) (v := ?_) rfl (by kernel_rfl) (by kernel_rfl) (by kernel_rfl) (fun _ _ _ h => h) (Or.inl ⟨by rfl, ?_⟩) (by assumption) ?_
  rotate_left
  · intro wS hSw
    (try dsimp only at hSw)
    obtain ⟨x0, x1, x2⟩ := rcells hSw
    go_simp
    first | done | with_reducible rfl
  try simp only [Act.put, List.getElem_toArray, List.getElem_cons_succ, List.getElem_cons_zero, List.setIfInBounds_toArray, List.set_cons_zero, List.set_cons_succ]
  refine wpAnyH_ready (rs := [3]) (by kernel_rfl) (by simp) ?_
  refine AllReadyH.cons rfl (fun K hK => ?_) AllReadyH.nil
  go_simp
  refine (putLong_any B u (xs ++ putL p.2.2 8) ⟨p.1.toArray⟩ wd hud (by rw [List.length_append]; have := HK8.out; omega) hk hBd).mono ?_; rintro e w3 ⟨u3, rfl, hu3, hb3⟩
  refine hK.out _ _ ?_ (fun r1 => ?_)
  · exact hb3.cells r0 (by decide)
  try simp only [Act.put, List.getElem_toArray, List.getElem_cons_succ, List.getElem_cons_zero, List.setIfInBounds_toArray, List.set_cons_zero, List.set_cons_succ]
  refine wpAnyH_ready (rs := [6]) (by kernel_rfl) (by simp) ?_
  refine AllReadyH.cons rfl (fun K hK => ?_) AllReadyH.nil
  go_simp
  refine (putLong_any B u3 (xs ++ putL p.2.2 8 ++ longL ⟨p.1.toArray⟩) p.2.1 w3 hu3 (by unfold longL; rw [List.length_append, List.length_append, List.length_append, strI_length]; have := HK8.out; have := putL_len ((⟨p.1.toArray⟩ : ByteArray).size : Int) 4; omega) hv (Nat.le_trans hBd hb3.2.1)).mono ?_; rintro e w4 ⟨u4, rfl, hu4, hb4⟩
  refine hK.out _ _ ?_ (fun r2 => ?_)
  · exact hb4.cells r1 (by decide)
  try simp only [Act.put, List.getElem_toArray, List.getElem_cons_succ, List.getElem_cons_zero, List.setIfInBounds_toArray, List.set_cons_zero, List.set_cons_succ]
  refine wpAnyH_take (i := 7) (v := ?_) rfl (by kernel_rfl) (by kernel_rfl) (by kernel_rfl) (fun _ _ _ h => h) (Or.inl ⟨by rfl, ?_⟩) (by assumption) ?_
  rotate_left
  · intro wS hSw
    (try dsimp only at hSw)
    go_simp
    first | done | with_reducible rfl
  try simp only [Act.put, List.getElem_toArray, List.getElem_cons_succ, List.getElem_cons_zero, List.setIfInBounds_toArray, List.set_cons_zero, List.set_cons_succ]
  refine wpAnyH_done (by kernel_rfl) ?_ _
  go_wp2_with fail
  go_ret
  refine ⟨_, rfl, ?_, (((Kp.of_below H1.out.1 hB).trans hb2).trans HBd.out).trans (hb3.trans hb4)⟩
  unfold itemL
  rw [← List.append_assoc, ← List.append_assoc]
  exact hu4
/-- May an effect be written? -/
def rightB (e : KEff) : Bool := ofB e.rev [(kl e.key, (e.val, e.rev))] && !(e.gone && !(e.val.toList == ([] : List UInt8)))
set_option maxRecDepth 100000 in
set_option maxHeartbeats 4000000 in
theorem right_any (e : KEff) (w : World) : Calls Try.prog 57 #[effV e] w fun x w' => x = .returned (.bool (rightB e)) ∧ Below w.heap.size w w' := by
  obtain ⟨w1, hw1⟩ : ∃ w1, w1 = (w.alloc (effO e)).alloc (.cells #[.string e.key, .string e.val, .int .i64 e.rev] 73) := ⟨_, rfl⟩
  have hb1 : Below w.heap.size w w1 := by rw [hw1]; exact belAlloc (belNew _ _) _
  have hn1 : w1.heap[w.heap.size]? = some (effO e) := by rw [hw1, Below.heap_alloc _ _ _ (by simp)]; exact heap_alloc_new w _
  have hx1 : w1.heap[w.heap.size + 1]? = some (.cells #[.string e.key, .string e.val, .int .i64 e.rev] 73 (0, 0)) := by rw [hw1]; simpa using heap_alloc_new (w.alloc (effO e)) (.cells #[.string e.key, .string e.val, .int .i64 e.rev] 73)
  have hsee : SeesI w1 (.slice (some ⟨w.heap.size + 1, 0, none⟩) 1 1) [(kl e.key, (e.val, e.rev))] := by
    refine ⟨some ⟨w.heap.size + 1, 0, none⟩, 1, rfl, Nat.le_refl _, (fun h => by cases h), fun a ha i p hp => ?_⟩
    cases ha
    match i, hp with
    | 0, hp =>
      obtain rfl : (kl e.key, (e.val, e.rev)) = p := by simpa using hp
      obtain ⟨x0, x1, x2⟩ := rcells hx1
      rw [kl_str]
      exact ⟨x0, x1, x2⟩
    | i + 1, hp => simp at hp
  have HOf : Hid (Calls Try.prog 27 #[.int .i64 e.rev, .slice (some ⟨w.heap.size + 1, 0, none⟩) 1 1] w1 fun x w' => ∃ pv, x = .returned (.tuple #[pv, .int .i64 (if ofB e.rev [(kl e.key, (e.val, e.rev))] = true then 0 else 1)]) ∧ Below w1.heap.size w1 w') := Lib.hid (by
    cases ho : ofB e.rev [(kl e.key, (e.val, e.rev))] with
    | true =>
      refine (of_yes e.rev _ _ w1 hsee (by simp) ho).mono ?_
      rintro x w' ⟨g, P, rfl, -, -, hb⟩
      exact ⟨_, rfl, hb⟩
    | false =>
      refine (of_no e.rev _ _ w1 hsee (by simp [maxLen]) ho).mono ?_
      rintro x w' ⟨rfl, hb⟩
      exact ⟨_, rfl, hb⟩)
  unfold rightB
  generalize ofB e.rev [(kl e.key, (e.val, e.rev))] = ob at HOf
  obtain ⟨e0, e1, e2, e3, -⟩ := four hn1
  have HW := Lib.hid hw1
  have H1 := Lib.hid (And.intro hb1 hn1)
  generalize hR : (ob && !(e.gone && !(e.val.toList == ([] : List UInt8)))) = R
  have HR := Lib.hid hR
  clear hw1 hb1 hn1 hx1 hsee hR
  go_enter Try.func57, Try.ntmps57
  go_upto_region 1 with fail
  change Code.wp _ _ _ _ (w.alloc (effO e))
  have hb0 := belNew w (effO e)
  have hn0 := heap_alloc_new w (effO e)
  obtain ⟨w0, hw0⟩ : ∃ w0, w0 = w.alloc (effO e) := ⟨_, rfl⟩
  have hz0 : w0.heap.size = w.heap.size + 1 := by rw [hw0]; simp
  have HW1 : Hid (w1 = w0.alloc (.cells #[.string e.key, .string e.val, .int .i64 e.rev] 73)) := Lib.hid (by rw [hw0]; exact HW.out)
  rw [← hw0] at hb0 hn0 ⊢
  obtain ⟨f0, f1, f2, f3, -⟩ := four hn0
  clear hw0 hb0 hn0 HW e0 e1 e2 e3
  go_upto_region 2 with (first
    | (go_at_call 27; rw [← HW1.out]; refine HOf.out.mono ?_; rintro x w2 ⟨pv, rfl, hb2⟩)
    | go_in)
  have hbW := H1.out.1.trans (hb2.mono H1.out.1.size)
  have hn2 := (hb2.block _ (heap_lt H1.out.2)).trans H1.out.2
  obtain ⟨e0, e1, e2, e3, -⟩ := four hn2
  clear f0 f1 f2 f3 hn2 hb2 HOf HW1 hz0
  cases ob with
  | false =>
    rw [if_neg (by simp)]
    go_wp2_with fail
    go_ret
    exact ⟨congrArg (fun b : Bool => Ending.returned (.bool b)) HR.out, hbW⟩
  | true =>
    rw [if_pos rfl]
    cases hg : e.gone <;> cases hv : (e.val.toList == ([] : List UInt8)) <;> have hv2 := bne_of hv <;> rw [hg] at e3 HR <;> rw [hv] at HR
    all_goals
      go_wp2_with fail
      go_ret
      exact ⟨congrArg (fun b : Bool => Ending.returned (.bool b)) HR.out, hbW⟩
end Go.Proofs.Ytogcjginifcbpaa
