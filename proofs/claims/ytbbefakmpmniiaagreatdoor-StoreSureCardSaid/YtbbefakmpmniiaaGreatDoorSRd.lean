/- Joined: RdPut RdPut2 RdLaw RdMath RdRead RdRead2 RdBack RdAny. -/
import Derived.Test.YtbbefakmpmniiaaGreatDoorSKw
import Derived.Test.YtbbefakmpmniiaaGreatDoorSPk
import Derived.Deep.CutBlock
namespace Go.Proofs.YtbbefakmpmniiaaGreatDoor.KV
section
open Go.RowKit Go.Maps
theorem _root_.Go.Proofs.YtbbefakmpmniiaaGreatDoor.Owns.slice {w : World} {B : Nat} {v : Value} {xs : List Int} (h : Owns w B v xs) (hx : xs ≠ []) : ∃ g cap, v = .slice (some ⟨g, 0, none⟩) xs.length cap := by
  rcases h.2 with ⟨_, h0⟩ | ⟨g, cap, _, e, _⟩
  · exact absurd (List.eq_nil_of_length_eq_zero h0) hx
  · exact ⟨g, cap, e⟩
theorem _root_.Go.Proofs.YtbbefakmpmniiaaGreatDoor.Owns.beyond {w w' : World} {B : Nat} {v : Value} {xs : List Int} (h : Owns w B v xs) (hb : Below w.heap.size w w') : Owns w' B v xs :=
  ⟨h.1, h.2.imp id fun ⟨g, cap, cur, e, b, hg, r⟩ => ⟨g, cap, cur, e, b, (hb.block g (heap_lt hg)).trans hg, r⟩⟩
/-- append of bytes of the call's own, not none, to bytes of the call's own. -/
theorem wpList_append_owns {w : World} {ops : Array Oper} {rest : List Oper} {o : Oper} {a : Act} {Q : Exit → Act → World → Prop} (hgd : o.guard = none) (s x : Operand)
    (ho : o.op = .call { callee := .builtin .append, args := #[s, x], argTypes := #[70, 70] }) (B B2 : Nat) (v u : Value) (xs t : List Int) (ht : t ≠ [])
    (hs : a.eval s = v) (hx : a.eval x = u) (hown : Owns w B v xs) (hsee : Owns w B2 u t) (hb : xs.length + t.length ≤ 140737488355328) (hB : B ≤ w.heap.size)
    (h : ∀ v' w', Owns w' B v' (xs ++ t) → w.grownBy w' v.ownBlock → wpList Tryz.prog ops Q rest (a.put o.dst v') w') : wpList Tryz.prog ops Q (o :: rest) a w := by
  obtain ⟨i0, hi, hz0, hz1, hz2⟩ := info_parts info8
  obtain ⟨g, cap, rfl⟩ := hsee.slice ht
  refine wpList_append_own w hgd s x 70 ho B 5 i0 (.int .u8 0) 1 1 Tryz.underlying70 hi hz0 hz1 hz2 rfl (by decide) _ _ _ hs hown ⟨g, 0, none⟩ t.length cap (cells8 t) hx (by simp) (fun j u hj => World.ownsRow.cells hsee (g := g) rfl j u hj) (fun u hu => by obtain ⟨z, _, rfl⟩ := List.mem_map.1 hu; rfl) (by unfold maxLen; omega) (by omega) hB ?_
  intro v' w' ho' hg' _
  exact h v' w' (by unfold Owns cells8; rw [List.length_append, List.map_append]; exact ho') hg'
/-- All but blocks of bytes from B on is as it was. -/
def Kp (B : Nat) (w w' : World) : Prop := Below B w w' ∧ w.heap.size ≤ w'.heap.size ∧ ∀ k, k < w.heap.size → (∀ cur f, w.heap[k]? ≠ some (.cells cur 5 f)) → w'.heap[k]? = w.heap[k]?
theorem Kp.trans {B : Nat} {a b c : World} (h : Kp B a b) (k : Kp B b c) : Kp B a c :=
  ⟨h.1.trans k.1, Nat.le_trans h.2.1 k.2.1, fun i hi hn => by
    have e := h.2.2 i hi hn
    exact (k.2.2 i (Nat.lt_of_lt_of_le hi h.2.1) (fun cur f => by rw [e]; exact hn cur f)).trans e⟩
theorem Kp.of_below {B : Nat} {w w' : World} (h : Below w.heap.size w w') (hB : B ≤ w.heap.size) : Kp B w w' := ⟨h.mono hB, h.size, fun k hk _ => h.block k hk⟩
theorem Kp.of_grown {B : Nat} {w w' : World} {v : Value} {xs : List Int} (ho : Owns w B v xs) (hg : w.grownBy w' v.ownBlock) (hB : B ≤ w.heap.size) : Kp B w w' :=
  ⟨(Below.refl B w).grown hg hB (fun g hg => (ho.lt g hg).1), hg.size, fun k hk hn => hg.block k hk (fun e => by
    rcases ho.2 with ⟨rfl, _⟩ | ⟨g, cap, cur, rfl, _, hb, _⟩
    · cases e
    · have e2 : k = g := Option.some.inj e
      subst e2
      exact hn _ _ hb)⟩
theorem Kp.cells {B : Nat} {w w' : World} (h : Kp B w w') {k : Nat} {cs : Array Value} {t : TypeId} {f : Nat × Nat} (hk : w.heap[k]? = some (.cells cs t f)) (ht : t ≠ 5) : w'.heap[k]? = some (.cells cs t f) :=
  (h.2.2 k (heap_lt hk) (fun cur f' e => by
    rw [hk] at e
    injection e with e1
    injection e1 with _ e2
    exact ht e2)).trans hk
theorem putL_ne {n k : Int} (hk : wOk k = true) : putL n k ≠ [] := by
  unfold putL
  rw [if_pos hk]
  unfold wOk at hk
  have h := of_decide_eq_true hk
  obtain ⟨m, hm⟩ : ∃ m, k.toNat = m + 1 := ⟨k.toNat - 1, by omega⟩
  rw [hm, numBytes]
  exact List.cons_ne_nil _ _
set_option maxHeartbeats 2000000 in
theorem putNumber_any (B : Nat) (v : Value) (xs : List Int) (n k : Int) (w : World) (h : Owns w B v xs) (hk : wOk k = true) (hl : xs.length ≤ 1000000000) (hB : B ≤ w.heap.size) :
    Calls Tryz.prog 111 #[v, .int .u64 n, .int .i64 k] w fun e w' => ∃ v', e = .returned v' ∧ Owns w' B v' (xs ++ putL n k) ∧ Kp B w w' := by
  have HP := Lib.hid (put_any (.slice none 0 0) [] n k w (Sees.nil w) (by simp))
  rw [List.nil_append] at HP
  have HO := Lib.hid h
  have HL : Hid ((putL n k).length ≤ 8) := Lib.hid (putL_len n k)
  have HN := Lib.hid (putL_ne (n := n) hk)
  clear h hk
  go_enter Tryz.func111, Tryz.ntmps111
  go_wp2_with (first
    | (go_at_call 151; refine HP.out.mono ?_; rintro e w1 ⟨u, rfl, hu, hb1⟩)
    | (at_builtin; refine wpList_append_owns rfl (.tmp 7) (.tmp 10) rfl B w.heap.size v u xs (putL n k) HN.out rfl rfl (HO.out.beyond hb1) hu (by have := HL.out; omega) (Nat.le_trans hB hb1.size) ?_; intro v2 w2 ho2 hg2)
    | go_in)
  go_ret
  refine ⟨_, rfl, ho2, ?_⟩
  exact (Kp.of_below hb1 hB).trans (Kp.of_grown (HO.out.beyond hb1) hg2 (Nat.le_trans hB hb1.size))
/-- A long text's bytes. -/
def longL (s : ByteArray) : List Int := putL (s.size : Int) 4 ++ strI s
set_option maxHeartbeats 2000000 in
theorem putLong_any (B : Nat) (v : Value) (xs : List Int) (s : ByteArray) (w : World) (h : Owns w B v xs) (hl : xs.length ≤ 500000000) (hs : s.size ≤ 100000) (hB : B ≤ w.heap.size) :
    Calls Tryz.prog 152 #[v, .string s] w fun e w' => ∃ v', e = .returned v' ∧ Owns w' B v' (xs ++ longL s) ∧ Kp B w w' := by
  have HP := Lib.hid (putNumber_any B v xs (s.size : Int) 4 w h rfl (by omega) hB)
  have HN : Hid (xs ++ putL (s.size : Int) 4 ≠ []) := Lib.hid (fun e => putL_ne (n := (s.size : Int)) (k := 4) rfl (List.append_eq_nil_iff.1 e).2)
  have HL : Hid ((xs ++ putL (s.size : Int) 4 ++ strI s).length ≤ 140737488355328) := Lib.hid (by rw [List.length_append, List.length_append, strI_length]; have := putL_len (s.size : Int) 4; omega)
  have hc : IntKind.u64.wrap (s.size : Int) = (s.size : Int) := IntWalk.u64_in _ (by omega)
  obtain ⟨Y, hY⟩ : ∃ Y, Y = xs ++ putL (s.size : Int) 4 := ⟨_, rfl⟩
  rw [← hY] at HP HN HL
  have HY := Lib.hid hY
  clear h hY
  go_enter Tryz.func152, Tryz.ntmps152
  go_wp2_with (first
    | (go_at_call 111; refine HP.out.mono ?_; rintro e w1 ⟨u, rfl, hu, hb1⟩; obtain ⟨g, cap, rfl⟩ := hu.slice HN.out)
    | (at_builtin; refine wpList_append_str rfl (.tmp 9) (.tmp 10) rfl B g cap Y s rfl rfl hu HL.out (Nat.le_trans hB hb1.2.1) ?_; intro v2 w2 ho2 hg2)
    | go_in)
  go_ret
  refine ⟨_, rfl, by unfold longL; rw [← List.append_assoc, ← HY.out]; exact ho2, ?_⟩
  exact hb1.trans (Kp.of_grown hu hg2 (Nat.le_trans hB hb1.2.1))
/-- An item's bytes. -/
def itemL (p : KEnt) : List Int := putL p.2.2 8 ++ (longL ⟨p.1.toArray⟩ ++ longL p.2.1)
abbrev itO (p : KEnt) : Obj := .cells #[.string ⟨p.1.toArray⟩, .string p.2.1, .int .i64 p.2.2] 86
set_option maxRecDepth 100000 in
set_option maxHeartbeats 4000000 in
theorem putItem_any (B : Nat) (v : Value) (xs : List Int) (p : KEnt) (w : World) (h : Owns w B v xs) (hl : xs.length ≤ 100000000) (hk : (⟨p.1.toArray⟩ : ByteArray).size ≤ 100000) (hv : p.2.1.size ≤ 100000) (hr : 0 ≤ p.2.2 ∧ p.2.2 ≤ 9223372036854775807) (hB : B ≤ w.heap.size) :
    Calls Tryz.prog 113 #[v, .agg #[.string ⟨p.1.toArray⟩, .string p.2.1, .int .i64 p.2.2]] w fun e w' => ∃ v', e = .returned v' ∧ Owns w' B v' (xs ++ itemL p) ∧ Kp B w w' := by
  obtain ⟨w1, hw1⟩ : ∃ w1, w1 = w.alloc (itO p) := ⟨_, rfl⟩
  have hb1 : Below w.heap.size w w1 := by rw [hw1]; exact belNew _ _
  have hx1 : w1.heap[w.heap.size]? = some (itO p) := by rw [hw1]; exact heap_alloc_new w _
  obtain ⟨x0, x1, x2⟩ := rcells hx1
  have HW := Lib.hid hw1
  have HP := Lib.hid (putNumber_any B v xs p.2.2 8 w1 (h.beyond hb1) rfl (by omega) (Nat.le_trans hB hb1.size))
  have hc : IntKind.u64.wrap p.2.2 = p.2.2 := IntWalk.u64_in _ (by omega)
  have H1 := Lib.hid (And.intro hb1 hx1)
  have hk8 := putL_len p.2.2 8
  have HK8 := Lib.hid hk8
  clear hw1 hb1 hx1 h hk8
  go_enter Tryz.func113, Tryz.ntmps113
  go_upto_region 1 with fail
  change Code.wp _ _ _ _ (w.alloc (itO p))
  rw [← HW.out]
  go_upto_region 2 with (first
    | (go_at_call 111; refine HP.out.mono ?_; rintro e w2 ⟨u, rfl, hu, hb2⟩)
    | go_in)
  have hx2 := hb2.cells H1.out.2 (by decide)
  refine wp_region_held_drew (S := (fun W => W.heap[w.heap.size]? = some (itO p))) (by kernel_rfl) ?_ (fun r0 => ?_)
  · exact hx2
  obtain ⟨wd, hwd⟩ : ∃ wd, wd = w2.drew := ⟨_, rfl⟩
  rw [← hwd] at r0 ⊢
  have hbd : Below w2.heap.size w2 wd := by rw [hwd]; exact bdrew (Below.refl _ _)
  have hud := hu.beyond hbd
  have hBd : B ≤ wd.heap.size := by have := H1.out.1.size; have := hb2.2.1; have := hbd.size; omega
  have HBd := Lib.hid (show Kp B w2 wd from Kp.of_below hbd (by have := H1.out.1.size; have := hb2.2.1; omega))
  clear hwd hbd hu x0 x1 x2
  refine wpAnyH_take (i := 0) (v := ?_) rfl (by kernel_rfl) (by kernel_rfl) (by kernel_rfl) (fun _ _ _ h => h) (Or.inl ⟨by rfl, ?_⟩) (by assumption) ?_
  rotate_left
  · intro wS hSw
    (try dsimp only at hSw)
    go_simp
    first | done | with_reducible rfl
  try simp only [Act.put, List.getElem_toArray, List.getElem_cons_zero, List.setIfInBounds_toArray, List.set_cons_zero, List.set_cons_succ]
  refine wpAnyH_take (i := 1) (v := ?_) rfl (by kernel_rfl) (by kernel_rfl) (by kernel_rfl) (fun _ _ _ h => h) (Or.inl ⟨by rfl, ?_⟩) (by assumption) ?_
  rotate_left
  · intro wS hSw
    (try dsimp only at hSw)
    go_simp
    first | done | with_reducible rfl
  try simp only [Act.put, List.getElem_toArray, List.getElem_cons_succ, List.getElem_cons_zero, List.setIfInBounds_toArray, List.set_cons_zero, List.set_cons_succ]
  refine wpAnyH_take (i := 2) (v := ?_) rfl (by kernel_rfl) (by kernel_rfl) (by kernel_rfl) (fun _ _ _ h => h) (Or.inl ⟨by rfl, ?_⟩) (by assumption) ?_
  rotate_left
  · intro wS hSw
    (try dsimp only at hSw)
    obtain ⟨x0, x1, x2⟩ := rcells hSw
    go_simp
    first | done | with_reducible rfl
  try simp only [Act.put, List.getElem_toArray, List.getElem_cons_succ, List.getElem_cons_zero, List.setIfInBounds_toArray, List.set_cons_zero, List.set_cons_succ]
  refine wpAnyH_take (i := 4) (v := ?_) rfl (by kernel_rfl) (by kernel_rfl) (by kernel_rfl) (fun _ _ _ h => h) (Or.inl ⟨by rfl, ?_⟩) (by assumption) ?_
  rotate_left
  · intro wS hSw
    (try dsimp only at hSw)
    go_simp
    first | done | with_reducible rfl
  try simp only [Act.put, List.getElem_toArray, List.getElem_cons_succ, List.getElem_cons_zero, List.setIfInBounds_toArray, List.set_cons_zero, List.set_cons_succ]
  refine wpAnyH_take (i := 5) (v := ?_) rfl (by kernel_rfl) (by kernel_rfl) (by kernel_rfl) (fun _ _ _ h => h) (Or.inl ⟨by rfl, ?_⟩) (by assumption) ?_
  rotate_left
  · intro wS hSw
    (try dsimp only at hSw)
    obtain ⟨x0, x1, x2⟩ := rcells hSw
    go_simp
    first | done | with_reducible rfl
  try simp only [Act.put, List.getElem_toArray, List.getElem_cons_succ, List.getElem_cons_zero, List.setIfInBounds_toArray, List.set_cons_zero, List.set_cons_succ]
  refine wpAnyH_ready (rs := [3]) (by kernel_rfl) (by simp) ?_
  refine AllReadyH.cons rfl (fun K hK => ?_) AllReadyH.nil
  go_simp
  refine (putLong_any B u (xs ++ putL p.2.2 8) ⟨p.1.toArray⟩ wd hud (by rw [List.length_append]; have := HK8.out; omega) hk hBd).mono ?_; rintro e w3 ⟨u3, rfl, hu3, hb3⟩
  refine hK.out _ _ ?_ (fun r1 => ?_)
  · exact hb3.cells r0 (by decide)
  try simp only [Act.put, List.getElem_toArray, List.getElem_cons_succ, List.getElem_cons_zero, List.setIfInBounds_toArray, List.set_cons_zero, List.set_cons_succ]
  refine wpAnyH_ready (rs := [6]) (by kernel_rfl) (by simp) ?_
  refine AllReadyH.cons rfl (fun K hK => ?_) AllReadyH.nil
  go_simp
  refine (putLong_any B u3 (xs ++ putL p.2.2 8 ++ longL ⟨p.1.toArray⟩) p.2.1 w3 hu3 (by unfold longL; rw [List.length_append, List.length_append, List.length_append, strI_length]; have := HK8.out; have := putL_len ((⟨p.1.toArray⟩ : ByteArray).size : Int) 4; omega) hv (Nat.le_trans hBd hb3.2.1)).mono ?_; rintro e w4 ⟨u4, rfl, hu4, hb4⟩
  refine hK.out _ _ ?_ (fun r2 => ?_)
  · exact hb4.cells r1 (by decide)
  try simp only [Act.put, List.getElem_toArray, List.getElem_cons_succ, List.getElem_cons_zero, List.setIfInBounds_toArray, List.set_cons_zero, List.set_cons_succ]
  refine wpAnyH_take (i := 7) (v := ?_) rfl (by kernel_rfl) (by kernel_rfl) (by kernel_rfl) (fun _ _ _ h => h) (Or.inl ⟨by rfl, ?_⟩) (by assumption) ?_
  rotate_left
  · intro wS hSw
    (try dsimp only at hSw)
    go_simp
    first | done | with_reducible rfl
  try simp only [Act.put, List.getElem_toArray, List.getElem_cons_succ, List.getElem_cons_zero, List.setIfInBounds_toArray, List.set_cons_zero, List.set_cons_succ]
  refine wpAnyH_done (by kernel_rfl) ?_ _
  go_wp2_with fail
  go_ret
  refine ⟨_, rfl, ?_, (((Kp.of_below H1.out.1 hB).trans hb2).trans HBd.out).trans (hb3.trans hb4)⟩
  unfold itemL
  rw [← List.append_assoc, ← List.append_assoc]
  exact hu4
/-- May an effect be written? -/
def rightB (e : KEff) : Bool := ofB e.rev [(kl e.key, (e.val, e.rev))] && !(e.gone && !(e.val.toList == ([] : List UInt8)))
set_option maxRecDepth 100000 in
set_option maxHeartbeats 4000000 in
theorem right_any (e : KEff) (w : World) : Calls Tryz.prog 105 #[effV e] w fun x w' => x = .returned (.bool (rightB e)) ∧ Below w.heap.size w w' := by
  obtain ⟨w1, hw1⟩ : ∃ w1, w1 = (w.alloc (effO e)).alloc (.cells #[.string e.key, .string e.val, .int .i64 e.rev] 86) := ⟨_, rfl⟩
  have hb1 : Below w.heap.size w w1 := by rw [hw1]; exact belAlloc (belNew _ _) _
  have hn1 : w1.heap[w.heap.size]? = some (effO e) := by rw [hw1, Below.heap_alloc _ _ _ (by simp)]; exact heap_alloc_new w _
  have hx1 : w1.heap[w.heap.size + 1]? = some (.cells #[.string e.key, .string e.val, .int .i64 e.rev] 86 (0, 0)) := by rw [hw1]; simpa using heap_alloc_new (w.alloc (effO e)) (.cells #[.string e.key, .string e.val, .int .i64 e.rev] 86)
  have hsee : SeesI w1 (.slice (some ⟨w.heap.size + 1, 0, none⟩) 1 1) [(kl e.key, (e.val, e.rev))] := by
    refine ⟨some ⟨w.heap.size + 1, 0, none⟩, 1, rfl, Nat.le_refl _, (fun h => by cases h), fun a ha i p hp => ?_⟩
    cases ha
    match i, hp with
    | 0, hp =>
      obtain rfl : (kl e.key, (e.val, e.rev)) = p := by simpa using hp
      obtain ⟨x0, x1, x2⟩ := rcells hx1
      rw [kl_str]
      exact ⟨x0, x1, x2⟩
    | i + 1, hp => simp at hp
  have HOf : Hid (Calls Tryz.prog 99 #[.int .i64 e.rev, .slice (some ⟨w.heap.size + 1, 0, none⟩) 1 1] w1 fun x w' => ∃ pv, x = .returned (.tuple #[pv, .int .i64 (if ofB e.rev [(kl e.key, (e.val, e.rev))] = true then 0 else 1)]) ∧ Below w1.heap.size w1 w') := Lib.hid (by
    cases ho : ofB e.rev [(kl e.key, (e.val, e.rev))] with
    | true =>
      refine (of_yes e.rev _ _ w1 hsee (by simp) ho).mono ?_
      rintro x w' ⟨g, P, rfl, -, -, hb⟩
      exact ⟨_, rfl, hb⟩
    | false =>
      refine (of_no e.rev _ _ w1 hsee (by simp [maxLen]) ho).mono ?_
      rintro x w' ⟨rfl, hb⟩
      exact ⟨_, rfl, hb⟩)
  unfold rightB
  generalize ofB e.rev [(kl e.key, (e.val, e.rev))] = ob at HOf
  obtain ⟨e0, e1, e2, e3, -⟩ := four hn1
  have HW := Lib.hid hw1
  have H1 := Lib.hid (And.intro hb1 hn1)
  generalize hR : (ob && !(e.gone && !(e.val.toList == ([] : List UInt8)))) = R
  have HR := Lib.hid hR
  clear hw1 hb1 hn1 hx1 hsee hR
  go_enter Tryz.func105, Tryz.ntmps105
  go_upto_region 1 with fail
  change Code.wp _ _ _ _ (w.alloc (effO e))
  have hb0 := belNew w (effO e)
  have hn0 := heap_alloc_new w (effO e)
  obtain ⟨w0, hw0⟩ : ∃ w0, w0 = w.alloc (effO e) := ⟨_, rfl⟩
  have hz0 : w0.heap.size = w.heap.size + 1 := by rw [hw0]; simp
  have HW1 : Hid (w1 = w0.alloc (.cells #[.string e.key, .string e.val, .int .i64 e.rev] 86)) := Lib.hid (by rw [hw0]; exact HW.out)
  rw [← hw0] at hb0 hn0 ⊢
  obtain ⟨f0, f1, f2, f3, -⟩ := four hn0
  clear hw0 hb0 hn0 HW e0 e1 e2 e3
  go_upto_region 2 with (first
    | (go_at_call 99; rw [← HW1.out]; refine HOf.out.mono ?_; rintro x w2 ⟨pv, rfl, hb2⟩)
    | go_in)
  have hbW := H1.out.1.trans (hb2.mono H1.out.1.size)
  have hn2 := (hb2.block _ (heap_lt H1.out.2)).trans H1.out.2
  obtain ⟨e0, e1, e2, e3, -⟩ := four hn2
  clear f0 f1 f2 f3 hn2 hb2 HOf HW1 hz0
  cases ob with
  | false =>
    rw [if_neg (by simp)]
    go_wp2_with fail
    go_ret
    exact ⟨congrArg (fun b : Bool => Ending.returned (.bool b)) HR.out, hbW⟩
  | true =>
    rw [if_pos rfl]
    cases hg : e.gone <;> cases hv : (e.val.toList == ([] : List UInt8)) <;> have hv2 := bne_of hv <;> rw [hg] at e3 HR <;> rw [hv] at HR
    all_goals
      go_wp2_with fail
      go_ret
      exact ⟨congrArg (fun b : Bool => Ending.returned (.bool b)) HR.out, hbW⟩
end
section
open Go.RowKit Go.Maps
def kindOf (e : KEff) : Int := if e.gone = true then 2 else 1
/-- An effect's bytes. -/
def effL (e : KEff) : List Int := putL (kindOf e) 1 ++ itemL (kl e.key, (e.val, e.rev))
theorem rightB_ok {e : KEff} (h : rightB e = true) : 1 ≤ e.key.size ∧ e.key.size ≤ 128 ∧ e.val.size ≤ 65536 ∧ 1 ≤ e.rev ∧ (e.gone = true → e.val = emp) := by
  unfold rightB ofB at h
  simp only [standB, itOkB, Bool.and_eq_true, decide_eq_true_eq] at h
  obtain ⟨⟨h0, ⟨h1, h2, h3, h4, h5⟩, -⟩, h6⟩ := h
  rw [kl_str] at h1
  unfold mayK at h1
  unfold mayV at h2
  rw [decide_eq_true_eq] at h1 h2
  refine ⟨h1.1, h1.2, h2, h4, fun hg => ?_⟩
  rw [hg, Bool.true_and, Bool.not_not, eq_empty, decide_eq_true_eq] at h6
  apply kl_inj
  have := kl_len e.val
  rw [h6] at this
  rw [List.eq_nil_of_length_eq_zero this]
set_option maxRecDepth 100000 in
set_option maxHeartbeats 4000000 in
theorem put10_no (e : KEff) (w : World) (hr : rightB e = false) : Calls Tryz.prog 85 #[effV e] w fun x w' => x = .returned (.tuple #[.slice none 0 0, .int .i64 1]) ∧ Below w.heap.size w w' := by
  have HR : Hid (∀ w, Calls Tryz.prog 105 #[effV e] w fun x w' => x = .returned (.bool false) ∧ Below w.heap.size w w') := Lib.hid (fun w => by have := right_any e w; rw [hr] at this; exact this)
  have HB := Lib.hid (belNew w (effO e))
  clear hr
  go_enter Tryz.func85, Tryz.ntmps85
  go_wp2_with (first
    | (go_at_call 105; refine (HR.out _).mono ?_; rintro x w2 ⟨rfl, hb2⟩)
    | go_in)
  go_ret2
  exact ⟨rfl, bel HB.out hb2⟩
set_option maxRecDepth 100000 in
set_option maxHeartbeats 4000000 in
theorem put10_yes (e : KEff) (w : World) (hr : rightB e = true) (hm : e.rev ≤ 9223372036854775807) : Calls Tryz.prog 85 #[effV e] w fun x w' => ∃ v, x = .returned (.tuple #[v, .int .i64 0]) ∧ Owns w' w.heap.size v (effL e) ∧ Below w.heap.size w w' := by
  have HR : Hid (∀ w, Calls Tryz.prog 105 #[effV e] w fun x w' => x = .returned (.bool true) ∧ Below w.heap.size w w') := Lib.hid (fun w => by have := right_any e w; rw [hr] at this; exact this)
  have HOK := Lib.hid (rightB_ok hr)
  obtain ⟨w1, hw1⟩ : ∃ w1, w1 = w.alloc (effO e) := ⟨_, rfl⟩
  have hb1 : Below w.heap.size w w1 := by rw [hw1]; exact belNew _ _
  have hn1 : w1.heap[w.heap.size]? = some (effO e) := by rw [hw1]; exact heap_alloc_new w _
  obtain ⟨e0, e1, e2, e3, -⟩ := four hn1
  have HW := Lib.hid hw1
  have H1 := Lib.hid (And.intro hb1 hn1)
  have HM := Lib.hid hm
  clear hr hw1 hb1 hn1 hm
  go_enter Tryz.func85, Tryz.ntmps85
  go_upto_region 1 with fail
  change Code.wp _ _ _ _ (w.alloc (effO e))
  rw [← HW.out]
  clear HW
  go_upto_region 3 with (first
    | (go_at_call 105; refine (HR.out _).mono ?_; rintro x w2 ⟨rfl, hb2⟩)
    | go_in)
  have hn2 := (hb2.block _ (heap_lt H1.out.2)).trans H1.out.2
  have H2 := Lib.hid (And.intro (H1.out.1.trans (hb2.mono H1.out.1.size)) hn2)
  clear e0 e1 e2 e3 hb2
  obtain ⟨e0, e1, e2, e3, -⟩ := four hn2
  clear hn2
  obtain ⟨K0, hK0⟩ : ∃ K0, K0 = kindOf e := ⟨_, rfl⟩
  have hKb : 0 ≤ K0 ∧ K0 ≤ 2 := by rw [hK0]; unfold kindOf; split <;> omega
  have HK0 := Lib.hid (And.intro hK0 hKb)
  cases hg : e.gone <;> rw [hg] at e3
  · have hgN := Lib.hid hg
    clear hg
    have hK2 : kindOf e = 1 := by unfold kindOf; rw [if_neg (by rw [hgN.out]; simp)]
    have HK2 := Lib.hid hK2
    clear hK2 hK0 hKb
    go_upto_region 6 with fail
    refine wp_region_held_drew (S := (fun W => W.heap[w.heap.size]? = some (effO e))) (by kernel_rfl) ?_ (fun r0 => ?_)
    · exact H2.out.2
    obtain ⟨wd, hwd⟩ : ∃ wd, wd = w2.drew := ⟨_, rfl⟩
    rw [← hwd] at r0 ⊢
    have hbd : Below w.heap.size w wd := by rw [hwd]; exact bdrew H2.out.1
    clear hwd e0 e1 e2 e3
    refine wpAnyH_take (i := 0) (v := ?_) rfl (by kernel_rfl) (by kernel_rfl) (by kernel_rfl) (fun _ _ _ h => h) (Or.inl ⟨by rfl, ?_⟩) (by assumption) ?_
    rotate_left
    · intro wS hSw
      (try dsimp only at hSw)
      go_simp
      first | done | with_reducible rfl
    try simp only [Act.put, List.getElem_toArray, List.getElem_cons_zero, List.setIfInBounds_toArray, List.set_cons_zero, List.set_cons_succ]
    refine wpAnyH_take (i := 2) (v := ?_) rfl (by kernel_rfl) (by kernel_rfl) (by kernel_rfl) (fun _ _ _ h => h) (Or.inl ⟨by rfl, ?_⟩) (by assumption) ?_
    rotate_left
    · intro wS hSw
      (try dsimp only at hSw)
      go_simp
      first | done | with_reducible rfl
    try simp only [Act.put, List.getElem_toArray, List.getElem_cons_succ, List.getElem_cons_zero, List.setIfInBounds_toArray, List.set_cons_zero, List.set_cons_succ]
    refine wpAnyH_take (i := 3) (v := ?_) rfl (by kernel_rfl) (by kernel_rfl) (by kernel_rfl) (fun _ _ _ h => h) (Or.inl ⟨by rfl, ?_⟩) (by assumption) ?_
    rotate_left
    · intro wS hSw
      (try dsimp only at hSw)
      obtain ⟨e0, e1, e2, e3, -⟩ := four hSw
      go_simp
      first | done | with_reducible rfl
    try simp only [Act.put, List.getElem_toArray, List.getElem_cons_succ, List.getElem_cons_zero, List.setIfInBounds_toArray, List.set_cons_zero, List.set_cons_succ]
    refine wpAnyH_take (i := 4) (v := ?_) rfl (by kernel_rfl) (by kernel_rfl) (by kernel_rfl) (fun _ _ _ h => h) (Or.inl ⟨by rfl, ?_⟩) (by assumption) ?_
    rotate_left
    · intro wS hSw
      (try dsimp only at hSw)
      go_simp
      first | done | with_reducible rfl
    try simp only [Act.put, List.getElem_toArray, List.getElem_cons_succ, List.getElem_cons_zero, List.setIfInBounds_toArray, List.set_cons_zero, List.set_cons_succ]
    refine wpAnyH_take (i := 5) (v := ?_) rfl (by kernel_rfl) (by kernel_rfl) (by kernel_rfl) (fun _ _ _ h => h) (Or.inl ⟨by rfl, ?_⟩) (by assumption) ?_
    rotate_left
    · intro wS hSw
      (try dsimp only at hSw)
      obtain ⟨e0, e1, e2, e3, -⟩ := four hSw
      go_simp
      first | done | with_reducible rfl
    try simp only [Act.put, List.getElem_toArray, List.getElem_cons_succ, List.getElem_cons_zero, List.setIfInBounds_toArray, List.set_cons_zero, List.set_cons_succ]
    refine wpAnyH_take (i := 6) (v := ?_) rfl (by kernel_rfl) (by kernel_rfl) (by kernel_rfl) (fun _ _ _ h => h) (Or.inl ⟨by rfl, ?_⟩) (by assumption) ?_
    rotate_left
    · intro wS hSw
      (try dsimp only at hSw)
      go_simp
      first | done | with_reducible rfl
    try simp only [Act.put, List.getElem_toArray, List.getElem_cons_succ, List.getElem_cons_zero, List.setIfInBounds_toArray, List.set_cons_zero, List.set_cons_succ]
    refine wpAnyH_take (i := 7) (v := ?_) rfl (by kernel_rfl) (by kernel_rfl) (by kernel_rfl) (fun _ _ _ h => h) (Or.inl ⟨by rfl, ?_⟩) (by assumption) ?_
    rotate_left
    · intro wS hSw
      (try dsimp only at hSw)
      obtain ⟨e0, e1, e2, e3, -⟩ := four hSw
      go_simp
      first | done | with_reducible rfl
    try simp only [Act.put, List.getElem_toArray, List.getElem_cons_succ, List.getElem_cons_zero, List.setIfInBounds_toArray, List.set_cons_zero, List.set_cons_succ]
    refine wpAnyH_take (i := 8) (v := ?_) rfl (by kernel_rfl) (by kernel_rfl) (by kernel_rfl) (fun _ _ _ h => h) (Or.inl ⟨by rfl, ?_⟩) (by assumption) ?_
    rotate_left
    · intro wS hSw
      (try dsimp only at hSw)
      go_simp
      first | done | with_reducible rfl
    try simp only [Act.put, List.getElem_toArray, List.getElem_cons_succ, List.getElem_cons_zero, List.setIfInBounds_toArray, List.set_cons_zero, List.set_cons_succ]
    refine wpAnyH_ready (rs := [1]) (by kernel_rfl) (by simp) ?_
    refine AllReadyH.cons rfl (fun K hK => ?_) AllReadyH.nil
    go_simp
    refine (putNumber_any w.heap.size (.slice none 0 0) [] 1 1 wd (World.ownsRow_nil _ _ _ _) rfl (by simp) hbd.size).mono ?_; rintro x w3 ⟨u3, rfl, hu3, hb3⟩
    rw [List.nil_append] at hu3
    refine hK.out _ _ ?_ (fun r1 => ?_)
    · exact hb3.cells r0 (by decide)
    try simp only [Act.put, List.getElem_toArray, List.getElem_cons_succ, List.getElem_cons_zero, List.setIfInBounds_toArray, List.set_cons_zero, List.set_cons_succ]
    have hit := putItem_any w.heap.size u3 (putL 1 1) (kl e.key, (e.val, e.rev)) w3 hu3 (by have := putL_len 1 1; omega) (by rw [kl_str]; have := HOK.out.2.1; omega) (by have := HOK.out.2.2.1; simp only []; omega) (by have := HOK.out.2.2.2.1; have := HM.out; simp only []; omega) (Nat.le_trans hbd.size hb3.2.1)
    rw [kl_str] at hit
    refine wpAnyH_ready (rs := [9]) (by kernel_rfl) (by simp) ?_
    refine AllReadyH.cons rfl (fun K hK => ?_) AllReadyH.nil
    go_simp
    refine hit.mono ?_; rintro x w4 ⟨u4, rfl, hu4, hb4⟩
    refine hK.out _ _ ?_ (fun r2 => ?_)
    · exact hb4.cells r1 (by decide)
    try simp only [Act.put, List.getElem_toArray, List.getElem_cons_succ, List.getElem_cons_zero, List.setIfInBounds_toArray, List.set_cons_zero, List.set_cons_succ]
    refine wpAnyH_take (i := 10) (v := ?_) rfl (by kernel_rfl) (by kernel_rfl) (by kernel_rfl) (fun _ _ _ h => h) (Or.inl ⟨by rfl, ?_⟩) (by assumption) ?_
    rotate_left
    · intro wS hSw
      (try dsimp only at hSw)
      go_simp
      first | done | with_reducible rfl
    try simp only [Act.put, List.getElem_toArray, List.getElem_cons_succ, List.getElem_cons_zero, List.setIfInBounds_toArray, List.set_cons_zero, List.set_cons_succ]
    refine wpAnyH_take (i := 11) (v := ?_) rfl (by kernel_rfl) (by kernel_rfl) (by kernel_rfl) (fun _ _ _ h => h) (Or.inl ⟨by rfl, ?_⟩) (by assumption) ?_
    rotate_left
    · intro wS hSw
      (try dsimp only at hSw)
      go_simp
      first | done | with_reducible rfl
    try simp only [Act.put, List.getElem_toArray, List.getElem_cons_succ, List.getElem_cons_zero, List.setIfInBounds_toArray, List.set_cons_zero, List.set_cons_succ]
    refine wpAnyH_done (by kernel_rfl) ?_ _
    go_wp2_with fail
    go_ret2
    refine ⟨_, rfl, ?_, (hbd.trans hb3.1).trans hb4.1⟩
    unfold effL
    rw [HK2.out]
    exact hu4
  · have hgN := Lib.hid hg
    clear hg
    have hK2 : kindOf e = 2 := by unfold kindOf; rw [if_pos hgN.out]
    have HK2 := Lib.hid hK2
    clear hK2 hK0 hKb
    go_upto_region 6 with fail
    refine wp_region_held_drew (S := (fun W => W.heap[w.heap.size]? = some (effO e))) (by kernel_rfl) ?_ (fun r0 => ?_)
    · exact H2.out.2
    obtain ⟨wd, hwd⟩ : ∃ wd, wd = w2.drew := ⟨_, rfl⟩
    rw [← hwd] at r0 ⊢
    have hbd : Below w.heap.size w wd := by rw [hwd]; exact bdrew H2.out.1
    clear hwd e0 e1 e2 e3
    refine wpAnyH_take (i := 0) (v := ?_) rfl (by kernel_rfl) (by kernel_rfl) (by kernel_rfl) (fun _ _ _ h => h) (Or.inl ⟨by rfl, ?_⟩) (by assumption) ?_
    rotate_left
    · intro wS hSw
      (try dsimp only at hSw)
      go_simp
      first | done | with_reducible rfl
    try simp only [Act.put, List.getElem_toArray, List.getElem_cons_zero, List.setIfInBounds_toArray, List.set_cons_zero, List.set_cons_succ]
    refine wpAnyH_take (i := 2) (v := ?_) rfl (by kernel_rfl) (by kernel_rfl) (by kernel_rfl) (fun _ _ _ h => h) (Or.inl ⟨by rfl, ?_⟩) (by assumption) ?_
    rotate_left
    · intro wS hSw
      (try dsimp only at hSw)
      go_simp
      first | done | with_reducible rfl
    try simp only [Act.put, List.getElem_toArray, List.getElem_cons_succ, List.getElem_cons_zero, List.setIfInBounds_toArray, List.set_cons_zero, List.set_cons_succ]
    refine wpAnyH_take (i := 3) (v := ?_) rfl (by kernel_rfl) (by kernel_rfl) (by kernel_rfl) (fun _ _ _ h => h) (Or.inl ⟨by rfl, ?_⟩) (by assumption) ?_
    rotate_left
    · intro wS hSw
      (try dsimp only at hSw)
      obtain ⟨e0, e1, e2, e3, -⟩ := four hSw
      go_simp
      first | done | with_reducible rfl
    try simp only [Act.put, List.getElem_toArray, List.getElem_cons_succ, List.getElem_cons_zero, List.setIfInBounds_toArray, List.set_cons_zero, List.set_cons_succ]
    refine wpAnyH_take (i := 4) (v := ?_) rfl (by kernel_rfl) (by kernel_rfl) (by kernel_rfl) (fun _ _ _ h => h) (Or.inl ⟨by rfl, ?_⟩) (by assumption) ?_
    rotate_left
    · intro wS hSw
      (try dsimp only at hSw)
      go_simp
      first | done | with_reducible rfl
    try simp only [Act.put, List.getElem_toArray, List.getElem_cons_succ, List.getElem_cons_zero, List.setIfInBounds_toArray, List.set_cons_zero, List.set_cons_succ]
    refine wpAnyH_take (i := 5) (v := ?_) rfl (by kernel_rfl) (by kernel_rfl) (by kernel_rfl) (fun _ _ _ h => h) (Or.inl ⟨by rfl, ?_⟩) (by assumption) ?_
    rotate_left
    · intro wS hSw
      (try dsimp only at hSw)
      obtain ⟨e0, e1, e2, e3, -⟩ := four hSw
      go_simp
      first | done | with_reducible rfl
    try simp only [Act.put, List.getElem_toArray, List.getElem_cons_succ, List.getElem_cons_zero, List.setIfInBounds_toArray, List.set_cons_zero, List.set_cons_succ]
    refine wpAnyH_take (i := 6) (v := ?_) rfl (by kernel_rfl) (by kernel_rfl) (by kernel_rfl) (fun _ _ _ h => h) (Or.inl ⟨by rfl, ?_⟩) (by assumption) ?_
    rotate_left
    · intro wS hSw
      (try dsimp only at hSw)
      go_simp
      first | done | with_reducible rfl
    try simp only [Act.put, List.getElem_toArray, List.getElem_cons_succ, List.getElem_cons_zero, List.setIfInBounds_toArray, List.set_cons_zero, List.set_cons_succ]
    refine wpAnyH_take (i := 7) (v := ?_) rfl (by kernel_rfl) (by kernel_rfl) (by kernel_rfl) (fun _ _ _ h => h) (Or.inl ⟨by rfl, ?_⟩) (by assumption) ?_
    rotate_left
    · intro wS hSw
      (try dsimp only at hSw)
      obtain ⟨e0, e1, e2, e3, -⟩ := four hSw
      go_simp
      first | done | with_reducible rfl
    try simp only [Act.put, List.getElem_toArray, List.getElem_cons_succ, List.getElem_cons_zero, List.setIfInBounds_toArray, List.set_cons_zero, List.set_cons_succ]
    refine wpAnyH_take (i := 8) (v := ?_) rfl (by kernel_rfl) (by kernel_rfl) (by kernel_rfl) (fun _ _ _ h => h) (Or.inl ⟨by rfl, ?_⟩) (by assumption) ?_
    rotate_left
    · intro wS hSw
      (try dsimp only at hSw)
      go_simp
      first | done | with_reducible rfl
    try simp only [Act.put, List.getElem_toArray, List.getElem_cons_succ, List.getElem_cons_zero, List.setIfInBounds_toArray, List.set_cons_zero, List.set_cons_succ]
    refine wpAnyH_ready (rs := [1]) (by kernel_rfl) (by simp) ?_
    refine AllReadyH.cons rfl (fun K hK => ?_) AllReadyH.nil
    go_simp
    refine (putNumber_any w.heap.size (.slice none 0 0) [] 2 1 wd (World.ownsRow_nil _ _ _ _) rfl (by simp) hbd.size).mono ?_; rintro x w3 ⟨u3, rfl, hu3, hb3⟩
    rw [List.nil_append] at hu3
    refine hK.out _ _ ?_ (fun r1 => ?_)
    · exact hb3.cells r0 (by decide)
    try simp only [Act.put, List.getElem_toArray, List.getElem_cons_succ, List.getElem_cons_zero, List.setIfInBounds_toArray, List.set_cons_zero, List.set_cons_succ]
    have hit := putItem_any w.heap.size u3 (putL 2 1) (kl e.key, (e.val, e.rev)) w3 hu3 (by have := putL_len 2 1; omega) (by rw [kl_str]; have := HOK.out.2.1; omega) (by have := HOK.out.2.2.1; simp only []; omega) (by have := HOK.out.2.2.2.1; have := HM.out; simp only []; omega) (Nat.le_trans hbd.size hb3.2.1)
    rw [kl_str] at hit
    refine wpAnyH_ready (rs := [9]) (by kernel_rfl) (by simp) ?_
    refine AllReadyH.cons rfl (fun K hK => ?_) AllReadyH.nil
    go_simp
    refine hit.mono ?_; rintro x w4 ⟨u4, rfl, hu4, hb4⟩
    refine hK.out _ _ ?_ (fun r2 => ?_)
    · exact hb4.cells r1 (by decide)
    try simp only [Act.put, List.getElem_toArray, List.getElem_cons_succ, List.getElem_cons_zero, List.setIfInBounds_toArray, List.set_cons_zero, List.set_cons_succ]
    refine wpAnyH_take (i := 10) (v := ?_) rfl (by kernel_rfl) (by kernel_rfl) (by kernel_rfl) (fun _ _ _ h => h) (Or.inl ⟨by rfl, ?_⟩) (by assumption) ?_
    rotate_left
    · intro wS hSw
      (try dsimp only at hSw)
      go_simp
      first | done | with_reducible rfl
    try simp only [Act.put, List.getElem_toArray, List.getElem_cons_succ, List.getElem_cons_zero, List.setIfInBounds_toArray, List.set_cons_zero, List.set_cons_succ]
    refine wpAnyH_take (i := 11) (v := ?_) rfl (by kernel_rfl) (by kernel_rfl) (by kernel_rfl) (fun _ _ _ h => h) (Or.inl ⟨by rfl, ?_⟩) (by assumption) ?_
    rotate_left
    · intro wS hSw
      (try dsimp only at hSw)
      go_simp
      first | done | with_reducible rfl
    try simp only [Act.put, List.getElem_toArray, List.getElem_cons_succ, List.getElem_cons_zero, List.setIfInBounds_toArray, List.set_cons_zero, List.set_cons_succ]
    refine wpAnyH_done (by kernel_rfl) ?_ _
    go_wp2_with fail
    go_ret2
    refine ⟨_, rfl, ?_, (hbd.trans hb3.1).trans hb4.1⟩
    unfold effL
    rw [HK2.out]
    exact hu4
end
section
open Go.RowKit Go.Maps
def cutE (e : KEff) : KEff := { e with key := cutB e.key 140, val := cutB e.val 100 }
abbrev effR (e : KEff) : Obj := .cells #[.string e.key, .string e.val, .int .i64 e.rev, .bool e.gone] 106
theorem two_alloc (w : World) (A B : Obj) : ∃ W, W = (w.alloc A).alloc B ∧ Below w.heap.size w W ∧ W.heap.size = w.heap.size + 2 ∧ W.heap[w.heap.size]? = some A ∧ W.heap[w.heap.size + 1]? = some B := by
  refine ⟨_, rfl, belAlloc (belNew w A) B, by simp, ?_, ?_⟩
  · rw [Below.heap_alloc _ _ _ (by simp)]; exact heap_alloc_new w A
  · simpa using heap_alloc_new (w.alloc A) B
theorem rightB_eq (e : KEff) : rightB e = (mayK e.key && (mayV e.val && (decide (1 ≤ e.rev) && (!e.gone || (e.val.toList == ([] : List UInt8)))))) := by
  unfold rightB ofB
  simp only [standB, itOkB, kl_str, Bool.and_true]
  by_cases h1 : mayK e.key = true
  · have hb : bytesBefore [] (kl e.key) = true := by
      unfold mayK at h1
      rw [decide_eq_true_eq, ← kl_len] at h1
      cases hk : kl e.key with
      | nil => rw [hk] at h1; simp at h1
      | cons a l => rfl
    rw [hb, h1]
    by_cases h3 : 1 ≤ e.rev
    · have h0 : 0 ≤ e.rev := by omega
      cases e.gone <;> cases (e.val.toList == ([] : List UInt8)) <;> simp [h0, h3]
    · simp [h3]
  · have h1 : mayK e.key = false := by simpa using h1
    simp [h1]
abbrev eA : KEff := ⟨strA, emp, 1, false⟩
theorem effL_A : effL eA = [1, 0, 0, 0, 0, 0, 0, 0, 1, 0, 0, 0, 1, 97, 0, 0, 0, 0] := by decide +kernel
end
section
open Go.RowKit Go.Maps
theorem inj8 {a b : Int} (ha : 0 ≤ a ∧ a < 18446744073709551616) (hb : 0 ≤ b ∧ b < 18446744073709551616) (h : putL a 8 = putL b 8) : a = b := by
  have h2 : numBytes a 8 = numBytes b 8 := h
  simp only [numBytes, List.cons.injEq, and_true] at h2
  omega
theorem inj4 {a b : Int} (ha : 0 ≤ a ∧ a < 4294967296) (hb : 0 ≤ b ∧ b < 4294967296) (h : putL a 4 = putL b 4) : a = b := by
  have h2 : numBytes a 4 = numBytes b 4 := h
  simp only [numBytes, List.cons.injEq, and_true] at h2
  omega
theorem put_length (n k : Int) (hk : wOk k = true) : (putL n k).length = k.toNat := by unfold putL; rw [if_pos hk, numBytes_length]
theorem long_inj {s t : ByteArray} {x y : List Int} (hs : s.size < 4294967296) (ht : t.size < 4294967296) (h : longL s ++ x = longL t ++ y) : s = t ∧ x = y := by
  unfold longL at h
  rw [List.append_assoc, List.append_assoc] at h
  obtain ⟨h1, h2⟩ := List.append_inj h (by rw [put_length _ _ rfl, put_length _ _ rfl])
  have h3 := inj4 (by omega) (by omega) h1
  obtain ⟨h4, h5⟩ := List.append_inj h2 (by rw [strI_length, strI_length]; omega)
  exact ⟨by rw [← strOf_strI s, ← strOf_strI t, h4], h5⟩
theorem eff_inj {e f : KEff} (he : rightB e = true) (hf : rightB f = true) (hem : e.rev ≤ 9223372036854775807) (hfm : f.rev ≤ 9223372036854775807) (h : effL e = effL f) : e = f := by
  obtain ⟨_, e2, e3, e4, e5⟩ := rightB_ok he
  obtain ⟨_, f2, f3, f4, f5⟩ := rightB_ok hf
  unfold effL itemL at h
  obtain ⟨h1, h2⟩ := List.append_inj h (by rw [put_length _ _ rfl, put_length _ _ rfl])
  obtain ⟨h3, h4⟩ := List.append_inj h2 (by rw [put_length _ _ rfl, put_length _ _ rfl])
  have hr : e.rev = f.rev := inj8 (by omega) (by omega) h3
  simp only [kl_str] at h4
  obtain ⟨hk, h5⟩ := long_inj (by omega) (by omega) h4
  have h6 : longL e.val ++ [] = longL f.val ++ [] := by rw [List.append_nil, List.append_nil]; exact h5
  obtain ⟨hv, _⟩ := long_inj (by omega) (by omega) h6
  have hg : e.gone = f.gone := by
    have h7 : numBytes (kindOf e) 1 = numBytes (kindOf f) 1 := h1
    unfold kindOf at h7
    cases h8 : e.gone <;> cases h9 : f.gone <;> rw [h8, h9] at h7 <;> first | rfl | (simp [numBytes] at h7)
  obtain ⟨a, b, c, d⟩ := e
  obtain ⟨a', b', c', d'⟩ := f
  simp only [] at hr hk hv hg
  rw [hr, hk, hv, hg]
theorem strI_of {xs : List Int} (h : okB xs) : strI (strOfNums xs) = xs := by
  unfold strI strOfNums
  simp only [List.map_map]
  refine (List.map_congr_left (fun x hx => ?_)).trans (List.map_id xs)
  have := h x hx
  simp only [Function.comp_apply, id_eq]
  rw [UInt8.toNat_ofNat_of_lt' (by show x.toNat < 256; omega)]
  omega
theorem okB_eff (e : KEff) : okB (effL e) := by
  unfold effL itemL longL
  exact okB_append (okB_put _ _) (okB_append (okB_put _ _) (okB_append (okB_append (okB_put _ _) (okB_str _)) (okB_append (okB_put _ _) (okB_str _))))
theorem eff_text {e f : KEff} (he : rightB e = true) (hf : rightB f = true) (hem : e.rev ≤ 9223372036854775807) (hfm : f.rev ≤ 9223372036854775807) : ((strOfNums (effL e)).toList == (strOfNums (effL f)).toList) = decide (e.key = f.key ∧ e.val = f.val ∧ e.rev = f.rev ∧ e.gone = f.gone) := by
  rw [eqB]
  by_cases h : e.key = f.key ∧ e.val = f.val ∧ e.rev = f.rev ∧ e.gone = f.gone
  · have : e = f := by
      obtain ⟨a, b, c, d⟩ := e
      obtain ⟨a', b', c', d'⟩ := f
      simp only [] at h
      rw [h.1, h.2.1, h.2.2.1, h.2.2.2]
    subst this
    simp
  · have hn : ¬ strOfNums (effL e) = strOfNums (effL f) := fun hh => h (by
      have h2 : effL e = effL f := by rw [← strI_of (okB_eff e), ← strI_of (okB_eff f), hh]
      have := eff_inj he hf hem hfm h2
      subst this
      exact ⟨rfl, rfl, rfl, rfl⟩)
    rw [decide_eq_false hn, decide_eq_false h]
end
section
open Go.RowKit Go.Maps
/-- What a read of a long text tells, and leaves. -/
def rdL (st : Option (List Int)) : List Int × Option (List Int) := rdB (rdU st 4).2 (rdU st 4).1
theorem grown_below {w w' : World} {r : Option Nat} (h : Below w.heap.size w w') : w.grownBy w' r := ⟨h.os, h.tape, h.output, h.size, fun k hk _ => h.block k hk⟩
theorem grown_put {a b : World} {r : Option Nat} (h : a.grownBy b r) {g : Nat} (hg : a.heap.size ≤ g) (i : Nat) (v : Value) : a.grownBy (b.setCell ⟨g, i, none⟩ v) r :=
  ⟨h.os, h.tape, h.output, by simpa [World.setCell] using h.size, fun k hk hne => (Below.heap_setCell _ _ _ _ (by show k ≠ g; omega)).trans (h.block k hk hne)⟩
theorem _root_.Go.Proofs.YtbbefakmpmniiaaGreatDoor.RdP.put {g B h : Nat} {st : Option (List Int)} {w : World} (hr : RdP g B st w) (h1 : h ≠ g) (h2 : B ≤ h) (i : Nat) (v : Value) : RdP g B st (w.setCell ⟨h, i, none⟩ v) := hr.grown (grown_set w h i v) h1 h2
set_option maxHeartbeats 1000000 in
theorem readLong_any (g B : Nat) (st : Option (List Int)) (w : World) (h : RdP g B st w) :
    Calls Tryz.prog 147 #[.pointer (some ⟨g, 0, none⟩)] w fun e w' => e = .returned (.string (strOfNums (rdL st).1)) ∧ RdP g B (rdL st).2 w' ∧ w.grownBy w' (some g) := by
  have HU := Lib.hid (u_any g B st 4 w h)
  obtain ⟨b0, b1⟩ := rdU_ok h 4
  have b1' : (rdU st 4).1 < 4294967296 := b1
  have s1 : IntKind.i64.wrap (rdU st 4).1 = (rdU st 4).1 := IntWalk.i64_in _ (by omega)
  clear b1 h
  go_enter Tryz.func147, Tryz.ntmps147
  go_wp2_with fail
  refine HU.out.mono ?_; rintro e w1 ⟨rfl, hR, hg⟩
  go_wp2_with fail
  refine (bytes_any g B _ _ _ hR).mono ?_; rintro e w2 ⟨v, rfl, hs, -, hR2, hg2⟩
  have hcv := conv_sees hs
  go_wp2_with fail
  go_ret
  exact ⟨rfl, hR2, grown_trans hg hg2⟩
def put3 (W : World) (g : Nat) (x y z : Value) : World := ((W.setCell ⟨g, 0, none⟩ x).setCell ⟨g, 1, none⟩ y).setCell ⟨g, 2, none⟩ z
theorem put3_at {W : World} {g : Nat} {a b c : Value} {t : TypeId} (h : W.heap[g]? = some (.cells #[a, b, c] t (0, 0))) (x y z : Value) : (put3 W g x y z).heap[g]? = some (.cells #[x, y, z] t (0, 0)) := by
  have h3 := dset (dset (dset h 0 x) 1 y) 2 z
  unfold put3
  simpa using h3
/-- What a read of an item tells, and leaves. -/
def rdRev (st : Option (List Int)) : Int := IntKind.i64.wrap (rdU st 8).1
def rdK (st : Option (List Int)) : List Int × Option (List Int) := rdL (rdU st 8).2
def rdV (st : Option (List Int)) : List Int × Option (List Int) := rdL (rdK st).2
abbrev rdItV (st : Option (List Int)) : Value := .agg #[.string (strOfNums (rdK st).1), .string (strOfNums (rdV st).1), .int .i64 (rdRev st)]
abbrev rdItE : Obj := .cells #[.string emp, .string emp, .int .i64 0] 86
set_option maxRecDepth 100000 in
set_option maxHeartbeats 4000000 in
theorem readItem_any (g B : Nat) (st : Option (List Int)) (w : World) (h : RdP g B st w) :
    Calls Tryz.prog 104 #[.pointer (some ⟨g, 0, none⟩)] w fun e w' => e = .returned (rdItV st) ∧ RdP g B (rdV st).2 w' ∧ w.grownBy w' (some g) := by
  obtain ⟨w0, hw0⟩ : ∃ w0, w0 = w.alloc rdItE := ⟨_, rfl⟩
  have hb0 : Below w.heap.size w w0 := by rw [hw0]; exact belNew _ _
  have hx0 : w0.heap[w.heap.size]? = some rdItE := by rw [hw0]; exact heap_alloc_new w _
  have hgl : g < w.heap.size := by obtain ⟨v, hv, _⟩ := h; exact heap_lt hv
  have hBg : B ≤ g := by obtain ⟨v, _, _, _, _, _, hB⟩ := h; exact hB
  have HW := Lib.hid hw0
  have H0 := Lib.hid (And.intro hb0 (And.intro hx0 (And.intro hgl hBg)))
  have h0 := h.below hb0
  have HU := Lib.hid (u_any g B st 8 w0 h0)
  obtain ⟨rv, hrv⟩ : ∃ rv, rv = rdRev st := ⟨_, rfl⟩
  obtain ⟨k1, hk1⟩ : ∃ k1, k1 = strOfNums (rdK st).1 := ⟨_, rfl⟩
  obtain ⟨k2, hk2⟩ : ∃ k2, k2 = strOfNums (rdV st).1 := ⟨_, rfl⟩
  have s8 : IntKind.i64.wrap (rdU st 8).1 = rv := hrv.symm
  have HK := Lib.hid (And.intro hk1 (And.intro hk2 hrv))
  clear hw0 hb0 hx0 hgl hBg h h0 hk1 hk2 hrv
  go_enter Tryz.func104, Tryz.ntmps104
  go_upto_region 1 with fail
  change Code.wp _ _ _ _ (w.alloc rdItE)
  rw [← HW.out]
  go_wp2_with fail
  refine HU.out.mono ?_; rintro e w1 ⟨rfl, hR1, hg1⟩
  go_wp2_with fail
  refine (readLong_any g B _ _ hR1).mono ?_; rintro e w2 ⟨he, hR2, hg2⟩
  obtain rfl : e = .returned (.string k1) := by rw [he, HK.out.1]; rfl
  clear he
  go_wp2_with fail
  refine (readLong_any g B _ _ hR2).mono ?_; rintro e w3 ⟨he, hR3, hg3⟩
  obtain rfl : e = .returned (.string k2) := by rw [he, HK.out.2.1]; rfl
  clear he
  have hg := grown_trans (grown_trans hg1 hg2) hg3
  have hx3 := (hg.block w.heap.size (heap_lt H0.out.2.1) (fun e => absurd (Option.some.inj e) (by have := H0.out.2.2.1; omega))).trans H0.out.2.1
  obtain ⟨c0, c1, c2⟩ := rcells hx3
  have f0 := rfroz hx3 0
  have f1 := rfroz hx3 1
  have f2 := rfroz hx3 2
  have HG := Lib.hid (And.intro hg hR3)
  have hE := put3_at hx3 (.string k1) (.string k2) (.int .i64 rv)
  unfold put3 at hE
  clear hg1 hg2 hg3 hR1 hR2 hR3 hg hx3
  go_wp2_with fail
  refine bodyPost_ret (v := .agg #[.string k1, .string k2, .int .i64 rv]) (by simp [results, Tryz.results104, go_sem, World.cell?, hE]) rfl ⟨by rw [HK.out.1, HK.out.2.1, HK.out.2.2], ?_, ?_⟩
  · exact ((HG.out.2.put (by have := H0.out.2.2.1; omega) (by have := H0.out.2.2; omega) 0 _).put (by have := H0.out.2.2.1; omega) (by have := H0.out.2.2; omega) 1 _).put (by have := H0.out.2.2.1; omega) (by have := H0.out.2.2; omega) 2 _
  · exact grown_put (grown_put (grown_put (grown_trans (grown_below H0.out.1) HG.out.1) (Nat.le_refl _) 0 _) (Nat.le_refl _) 1 _) (Nat.le_refl _) 2 _
end
section
open Go.RowKit Go.Maps
set_option maxRecDepth 100000 in
set_option maxHeartbeats 4000000 in
theorem read_core (b : Value) (xs : List Int) (w : World) (h : Sees w b xs) (hok : okB xs) (hl : xs.length ≤ 100000000000000) (kd rv : Int) (st1 st2 : Option (List Int)) (k1 k2 : ByteArray) (D rt : Bool)
    (HU : Hid (∀ g w, RdP g g (some xs) w → Calls Tryz.prog 96 #[.pointer (some ⟨g, 0, none⟩), .int .i64 1] w fun e w' => e = .returned (.int .u64 kd) ∧ RdP g g st1 w' ∧ w.grownBy w' (some g)))
    (HI : Hid (∀ g w, RdP g g st1 w → Calls Tryz.prog 104 #[.pointer (some ⟨g, 0, none⟩)] w fun e w' => e = .returned (.agg #[.string k1, .string k2, .int .i64 rv]) ∧ RdP g g st2 w' ∧ w.grownBy w' (some g)))
    (HD : Hid (∀ g w, RdP g g st2 w → Calls Tryz.prog 98 #[.pointer (some ⟨g, 0, none⟩)] w fun e w' => e = .returned (.bool D) ∧ w = w'))
    (HR : Hid (∀ w, Calls Tryz.prog 105 #[.agg #[.string k1, .string k2, .int .i64 rv, .bool (kd == 2)]] w fun x w' => x = .returned (.bool rt) ∧ Below w.heap.size w w')) :
    Calls Tryz.prog 62 #[b] w fun e w' => e = .returned (if (D && (kd == 1 || kd == 2) && rt) = true then .tuple #[.agg #[.string k1, .string k2, .int .i64 rv, .bool (kd == 2)], .int .i64 0] else .tuple #[.agg #[.string emp, .string emp, .int .i64 0, .bool false], .int .i64 3]) ∧ Below w.heap.size w w' := by
  obtain ⟨w0, hw0⟩ : ∃ w0, w0 = w.alloc (effO eff0) := ⟨_, rfl⟩
  have hb0 : Below w.heap.size w w0 := by rw [hw0]; exact belNew _ _
  have hx0 : w0.heap[w.heap.size]? = some (effO eff0) := by rw [hw0]; exact heap_alloc_new w _
  have HW := Lib.hid hw0
  have H0 := Lib.hid (And.intro hb0 hx0)
  have HN := Lib.hid (new_any b xs w0 (h.keep hb0) hok hl)
  clear hw0 hb0 hx0 h
  go_enter Tryz.func62, Tryz.ntmps62
  go_upto_region 1 with fail
  change Code.wp _ _ _ _ (w.alloc (effO eff0))
  rw [← HW.out]
  go_upto_region 5 with (first
    | (go_at_call 95; refine HN.out.mono ?_; rintro e w1 ⟨g, rfl, hR1, hg1, hb1⟩)
    | (go_at_call 96; refine (HU.out g w1 hR1).mono ?_; rintro e w2 ⟨rfl, hR2, hg2⟩)
    | (go_at_call 104; refine (HI.out g w2 hR2).mono ?_; rintro e w3 ⟨rfl, hR3, hg3⟩)
    | go_in)
  obtain ⟨W, hWe, hb5, hz5, hA5, hB5⟩ := two_alloc w3 (.cells #[.string k1, .string k2, .int .i64 rv] 86) (.cells #[.string k1, .string k2, .int .i64 rv, .bool (kd == 2)] 112)
  change Code.wp _ _ _ _ ((w3.alloc (.cells #[.string k1, .string k2, .int .i64 rv] 86)).alloc (.cells #[.string k1, .string k2, .int .i64 rv, .bool (kd == 2)] 112))
  rw [← hWe]
  have hs0 : w.heap.size < w0.heap.size := heap_lt H0.out.2
  have hg := grown_trans hg2 hg3
  have hx1 := (hb1.block w.heap.size hs0).trans H0.out.2
  have hx3 := (hg.block w.heap.size (heap_lt hx1) (fun e => absurd (Option.some.inj e) (by omega))).trans hx1
  have hx5 := (hb5.block w.heap.size (heap_lt hx3)).trans hx3
  have hbw : Below w.heap.size w W := ((H0.out.1.trans (hb1.mono (by omega))).grown hg (by have := hb1.size; omega) (fun k e => by have := Option.some.inj e; omega)).trans (hb5.mono (by have := hb1.size; have := hg.size; omega))
  have hR5 := hR3.below hb5
  have HX := Lib.hid (And.intro hx5 (And.intro hbw hB5))
  have HD5 := Lib.hid (HD.out g W hR5)
  clear hR1 hg1 hb1 hR2 hg2 hR3 hg3 hWe hb5 hz5 hA5 hg hx1 hx3 hbw hR5 HU HI HD HN HW
  have H1 := Lib.hid (put4_at hx5 (.string emp) (.string emp) (.int .i64 0) (.bool false))
  obtain ⟨c0, c1, c2, c3, f0, f1, f2, f3⟩ := four hx5
  obtain ⟨p0, p1, p2, p3, -⟩ := four hB5
  clear hx5 hB5
  cases D with
  | false =>
    go_wp2_with (first
      | (go_at_call 98; refine HD5.out.mono ?_; rintro e w6 ⟨rfl, rfl⟩)
      | go_in)
    have hE := H1.out
    unfold put4 at hE
    have hBl := put4_below HX.out.2.1 (Nat.le_refl _) (.string emp) (.string emp) (.int .i64 0) (.bool false)
    unfold put4 at hBl
    refine bodyPost_ret (v := .tuple #[.agg #[.string emp, .string emp, .int .i64 0, .bool false], .int .i64 3]) (by simp [results, Tryz.results62, go_sem, World.cell?, hE]) rfl ⟨rfl, hBl⟩
  | true =>
    by_cases hk1 : kd = 1
    · have e1 : (kd == 1) = true := by simpa using hk1
      have e2 : (kd == 2) = false := by simp; omega
      have n1 : (kd != 1) = false := by simp; omega
      simp only [e2] at HR p3
      cases rt with
      | false =>
        go_wp2_with (first
          | (go_at_call 98; refine HD5.out.mono ?_; rintro e w6 ⟨rfl, rfl⟩)
          | (go_at_call 105; refine (HR.out _).mono ?_; rintro x w7 ⟨rfl, hb7⟩; have hx7 := (hb7.block _ (heap_lt HX.out.1)).trans HX.out.1; have hB7 := (hb7.block _ (heap_lt HX.out.2.2)).trans HX.out.2.2; obtain ⟨d0, d1, d2, d3, g0, g1, g2, g3⟩ := four hx7; obtain ⟨q0, q1, q2, q3, -⟩ := four hB7; have HE7 := Lib.hid hx7; clear hx7 hB7)
          | go_in)
        all_goals
          have hE := put4_at HE7.out (.string emp) (.string emp) (.int .i64 0) (.bool false)
          unfold put4 at hE
          have hBl := put4_below (HX.out.2.1.trans (hb7.mono HX.out.2.1.size)) (Nat.le_refl _) (.string emp) (.string emp) (.int .i64 0) (.bool false)
          unfold put4 at hBl
          refine bodyPost_ret (v := .tuple #[.agg #[.string emp, .string emp, .int .i64 0, .bool false], .int .i64 3]) (by simp [results, Tryz.results62, go_sem, World.cell?, hE]) rfl ⟨by simp , hBl⟩
      | true =>
        go_wp2_with (first
          | (go_at_call 98; refine HD5.out.mono ?_; rintro e w6 ⟨rfl, rfl⟩)
          | (go_at_call 105; refine (HR.out _).mono ?_; rintro x w7 ⟨rfl, hb7⟩; have hx7 := (hb7.block _ (heap_lt HX.out.1)).trans HX.out.1; have hB7 := (hb7.block _ (heap_lt HX.out.2.2)).trans HX.out.2.2; obtain ⟨d0, d1, d2, d3, g0, g1, g2, g3⟩ := four hx7; obtain ⟨q0, q1, q2, q3, -⟩ := four hB7; have HE7 := Lib.hid hx7; clear hx7 hB7)
          | go_in)
        all_goals
          have hE := put4_at HE7.out (.string k1) (.string k2) (.int .i64 rv) (.bool false)
          unfold put4 at hE
          have hBl := put4_below (HX.out.2.1.trans (hb7.mono HX.out.2.1.size)) (Nat.le_refl _) (.string k1) (.string k2) (.int .i64 rv) (.bool false)
          unfold put4 at hBl
          refine bodyPost_ret (v := .tuple #[.agg #[.string k1, .string k2, .int .i64 rv, .bool false], .int .i64 0]) (by simp [results, Tryz.results62, go_sem, World.cell?, hE]) rfl ⟨by simp , hBl⟩
    · have e1 : (kd == 1) = false := by simpa using hk1
      have n1 : (kd != 1) = true := by simpa using hk1
      by_cases hk2 : kd = 2
      · have e2 : (kd == 2) = true := by simpa using hk2
        have n2 : (kd != 2) = false := by simp; omega
        simp only [e2] at HR p3
        cases rt with
        | false =>
          go_wp2_with (first
            | (go_at_call 98; refine HD5.out.mono ?_; rintro e w6 ⟨rfl, rfl⟩)
            | (go_at_call 105; refine (HR.out _).mono ?_; rintro x w7 ⟨rfl, hb7⟩; have hx7 := (hb7.block _ (heap_lt HX.out.1)).trans HX.out.1; have hB7 := (hb7.block _ (heap_lt HX.out.2.2)).trans HX.out.2.2; obtain ⟨d0, d1, d2, d3, g0, g1, g2, g3⟩ := four hx7; obtain ⟨q0, q1, q2, q3, -⟩ := four hB7; have HE7 := Lib.hid hx7; clear hx7 hB7)
            | go_in)
          all_goals
            have hE := put4_at HE7.out (.string emp) (.string emp) (.int .i64 0) (.bool false)
            unfold put4 at hE
            have hBl := put4_below (HX.out.2.1.trans (hb7.mono HX.out.2.1.size)) (Nat.le_refl _) (.string emp) (.string emp) (.int .i64 0) (.bool false)
            unfold put4 at hBl
            refine bodyPost_ret (v := .tuple #[.agg #[.string emp, .string emp, .int .i64 0, .bool false], .int .i64 3]) (by simp [results, Tryz.results62, go_sem, World.cell?, hE]) rfl ⟨by simp , hBl⟩
        | true =>
          go_wp2_with (first
            | (go_at_call 98; refine HD5.out.mono ?_; rintro e w6 ⟨rfl, rfl⟩)
            | (go_at_call 105; refine (HR.out _).mono ?_; rintro x w7 ⟨rfl, hb7⟩; have hx7 := (hb7.block _ (heap_lt HX.out.1)).trans HX.out.1; have hB7 := (hb7.block _ (heap_lt HX.out.2.2)).trans HX.out.2.2; obtain ⟨d0, d1, d2, d3, g0, g1, g2, g3⟩ := four hx7; obtain ⟨q0, q1, q2, q3, -⟩ := four hB7; have HE7 := Lib.hid hx7; clear hx7 hB7)
            | go_in)
          all_goals
            have hE := put4_at HE7.out (.string k1) (.string k2) (.int .i64 rv) (.bool true)
            unfold put4 at hE
            have hBl := put4_below (HX.out.2.1.trans (hb7.mono HX.out.2.1.size)) (Nat.le_refl _) (.string k1) (.string k2) (.int .i64 rv) (.bool true)
            unfold put4 at hBl
            refine bodyPost_ret (v := .tuple #[.agg #[.string k1, .string k2, .int .i64 rv, .bool true], .int .i64 0]) (by simp [results, Tryz.results62, go_sem, World.cell?, hE]) rfl ⟨by simp , hBl⟩
      · have e2 : (kd == 2) = false := by simpa using hk2
        have n2 : (kd != 2) = true := by simpa using hk2
        go_wp2_with (first
          | (go_at_call 98; refine HD5.out.mono ?_; rintro e w6 ⟨rfl, rfl⟩)
          | go_in)
        all_goals
          have hE := H1.out
          unfold put4 at hE
          have hBl := put4_below HX.out.2.1 (Nat.le_refl _) (.string emp) (.string emp) (.int .i64 0) (.bool false)
          unfold put4 at hBl
          refine bodyPost_ret (v := .tuple #[.agg #[.string emp, .string emp, .int .i64 0, .bool false], .int .i64 3]) (by simp [results, Tryz.results62, go_sem, World.cell?, hE]) rfl ⟨by simp , hBl⟩
end
section
open Go.RowKit Go.Maps
theorem numBE_put8 {n : Int} (h : 0 ≤ n ∧ n < 18446744073709551616) : numBE (putL n 8) = n := by
  show numBE (numBytes n 8) = n
  simp only [numBytes, numBE, List.foldl_cons, List.foldl_nil]
  simp
  omega
theorem numBE_put4' {n : Int} (h : 0 ≤ n ∧ n < 4294967296) : numBE (putL n 4) = n := by
  show numBE (numBytes n 4) = n
  simp only [numBytes, numBE, List.foldl_cons, List.foldl_nil]
  simp
  omega
theorem rdL_long {s : ByteArray} (hs : s.size < 4294967296) (t : List Int) : rdL (some (longL s ++ t)) = (strI s, some t) := by
  unfold rdL longL
  rw [List.append_assoc, rd_put _ rfl, numBE_put4' (by omega)]
  have h := rd_ahead (strI s) t
  rw [strI_length] at h
  exact h
theorem kind_read (e : KEff) (t : List Int) : rdU (some (putL (kindOf e) 1 ++ t)) 1 = (kindOf e, some t) := by
  rw [rd_put _ rfl]
  unfold kindOf
  cases e.gone <;> rfl
theorem kind_gone (e : KEff) : (kindOf e == 2) = e.gone ∧ (kindOf e == 1 || kindOf e == 2) = true := by
  unfold kindOf
  cases e.gone <;> exact ⟨rfl, rfl⟩
theorem item_read {p : KEnt} (hr : 0 ≤ p.2.2 ∧ p.2.2 ≤ 9223372036854775807) (hk : (⟨p.1.toArray⟩ : ByteArray).size < 4294967296) (hv : p.2.1.size < 4294967296) (t : List Int) :
    rdRev (some (itemL p ++ t)) = p.2.2 ∧ strOfNums (rdK (some (itemL p ++ t))).1 = ⟨p.1.toArray⟩ ∧ strOfNums (rdV (some (itemL p ++ t))).1 = p.2.1 ∧ (rdV (some (itemL p ++ t))).2 = some t := by
  have h1 : rdU (some (itemL p ++ t)) 8 = (p.2.2, some (longL ⟨p.1.toArray⟩ ++ (longL p.2.1 ++ t))) := by
    unfold itemL
    rw [List.append_assoc, List.append_assoc, rd_put _ rfl, numBE_put8 (by omega)]
  have h2 : rdK (some (itemL p ++ t)) = (strI ⟨p.1.toArray⟩, some (longL p.2.1 ++ t)) := by
    unfold rdK
    rw [h1]
    exact rdL_long hk _
  have h3 : rdV (some (itemL p ++ t)) = (strI p.2.1, some t) := by
    unfold rdV
    rw [h2]
    exact rdL_long hv _
  refine ⟨?_, by rw [h2, strOf_strI], by rw [h3, strOf_strI], by rw [h3]⟩
  unfold rdRev
  rw [h1]
  exact IntWalk.i64_in _ (by omega)
theorem len_eff {e : KEff} (hk : e.key.size ≤ 128) (hv : e.val.size ≤ 65536) : (effL e).length ≤ 100000 := by
  unfold effL itemL longL
  simp only [List.length_append, strI_length, kl_str]
  have h1 := putL_len (kindOf e) 1
  have h2 := putL_len e.rev 8
  have h3 := putL_len (e.key.size : Int) 4
  have h4 := putL_len (e.val.size : Int) 4
  omega
theorem read10_put (e : KEff) (hr : rightB e = true) (hm : e.rev ≤ 9223372036854775807) (b : Value) (w : World) (h : Sees w b (effL e)) :
    Calls Tryz.prog 62 #[b] w fun x w' => x = .returned (.tuple #[effV e, .int .i64 0]) ∧ Below w.heap.size w w' := by
  obtain ⟨_, r2, r3, r4, _⟩ := rightB_ok hr
  obtain ⟨i1, i2, i3, i4⟩ := item_read (p := (kl e.key, (e.val, e.rev))) ⟨by show 0 ≤ e.rev; omega, hm⟩ (by rw [kl_str]; omega) (by show e.val.size < _; omega) []
  rw [List.append_nil] at i1 i2 i3 i4
  have hk := kind_read e (itemL (kl e.key, (e.val, e.rev)))
  obtain ⟨g1, g2⟩ := kind_gone e
  have hv : effV e = .agg #[.string e.key, .string e.val, .int .i64 e.rev, .bool (kindOf e == 2)] := by rw [g1]
  refine (read_core b (effL e) w h (okB_eff e) (by have := len_eff r2 r3; omega) (kindOf e) e.rev (some (itemL (kl e.key, (e.val, e.rev)))) (some []) e.key e.val true true
    (Lib.hid (fun g w h => ?_)) (Lib.hid (fun g w h => ?_)) (Lib.hid (fun g w h => done_any g g _ w h)) (Lib.hid (fun w => ?_))).mono ?_
  · have := u_any g g _ 1 w h
    unfold effL at this
    rw [hk] at this
    exact this
  · have := readItem_any g g _ w h
    rw [i4] at this
    refine this.mono ?_
    rintro x w' ⟨rfl, h2, h3⟩
    refine ⟨?_, h2, h3⟩
    unfold rdItV
    rw [i1, i2, i3, kl_str]
  · rw [← hv]
    have := right_any e w
    rw [hr] at this
    exact this
  · rintro x w' ⟨rfl, h2⟩
    refine ⟨?_, h2⟩
    rw [g2, hv]
    rfl
end
section
open Go.RowKit Go.Maps
theorem numBytes_add (m c : Int) (n : Nat) : ∀ k, k ≤ n → numBytes (m + c * 256 ^ n) k = numBytes m k
  | 0, _ => rfl
  | k + 1, h => by
    have ih := numBytes_add m c n k (by omega)
    have e : (256 : Int) ^ n = 256 ^ (n - k - 1) * 256 * 256 ^ k := by
      rw [← Int.pow_succ, ← Int.pow_add]; congr 1; omega
    have h2 : (m + c * 256 ^ n) / 256 ^ k % 256 = m / 256 ^ k % 256 := by
      rw [e, ← Int.mul_assoc, Int.add_mul_ediv_right _ _ (Int.ne_of_gt (Int.pow_pos (by omega))), ← Int.mul_assoc, Int.add_mul_emod_self_right]
    show _ :: _ = _ :: _
    rw [h2, ih]
theorem numBE_fold : ∀ (l : List Int) (a : Int), l.foldl (fun n c => n * 256 + c) a = a * 256 ^ l.length + numBE l
  | [], a => by simp [numBE]
  | c :: l, a => by
    have h1 := numBE_fold l (a * 256 + c)
    have h2 := numBE_fold l (0 * 256 + c)
    have h3 : numBE (c :: l) = l.foldl (fun n c => n * 256 + c) (0 * 256 + c) := rfl
    rw [List.foldl_cons, h1, h3, h2, List.length_cons, Int.pow_succ]
    grind
theorem numBytes_back : ∀ l : List Int, okB l → numBytes (numBE l) l.length = l
  | [], _ => rfl
  | c :: l, h => by
    have hc := h c (by simp)
    have hl : okB l := fun x hx => h x (by simp [hx])
    have ih := numBytes_back l hl
    have e : numBE (c :: l) = numBE l + c * 256 ^ l.length := by
      have := numBE_fold l (0 * 256 + c)
      show l.foldl (fun n c => n * 256 + c) (0 * 256 + c) = _
      rw [this]; grind
    obtain ⟨b0, b1⟩ := numBE_bd l hl
    rw [e, List.length_cons]
    show (numBE l + c * 256 ^ l.length) / 256 ^ l.length % 256 :: numBytes (numBE l + c * 256 ^ l.length) l.length = c :: l
    rw [numBytes_add _ _ _ _ (Nat.le_refl _), ih, Int.add_mul_ediv_right _ _ (Int.ne_of_gt (Int.pow_pos (by omega))), Int.ediv_eq_zero_of_lt b0 b1]
    congr 1
    omega
theorem rdB_back {st : Option (List Int)} {n : Int} {l' : List Int} (h : (rdB st n).2 = some l') : ∃ l, st = some l ∧ l = (rdB st n).1 ++ l' ∧ ((rdB st n).1.length : Int) = n := by
  cases st with
  | none => cases h
  | some l =>
    refine ⟨l, rfl, ?_⟩
    by_cases hc : 0 ≤ n ∧ n ≤ l.length
    · have e : rdB (some l) n = (l.take n.toNat, some (l.drop n.toNat)) := by unfold rdB; exact if_pos hc
      rw [e] at h ⊢
      obtain rfl := Option.some.inj h
      refine ⟨(List.take_append_drop _ _).symm, ?_⟩
      rw [List.length_take]
      omega
    · have e : rdB (some l) n = ([], none) := by unfold rdB; exact if_neg hc
      rw [e] at h
      cases h
theorem rdU_back {st : Option (List Int)} {k : Int} {l' : List Int} (hok : okB (st.getD [])) (h : (rdU st k).2 = some l') (hk : wOk k = true) : ∃ l, st = some l ∧ l = putL (rdU st k).1 k ++ l' ∧ okB l' ∧ 0 ≤ (rdU st k).1 ∧ (rdU st k).1 < 256 ^ k.toNat := by
  unfold rdU at h ⊢
  rw [if_pos hk] at h ⊢
  obtain ⟨l, rfl, e, hn⟩ := rdB_back h
  have ho := rdB_ok hok k
  have ho' : okB l' := fun x hx => hok x (by show x ∈ l; rw [e]; exact List.mem_append_right _ hx)
  have hb := numBE_bd _ ho
  have hlen : (rdB (some l) k).1.length = k.toNat := by omega
  refine ⟨l, rfl, ?_, ho', hb.1, by rw [← hlen]; exact hb.2⟩
  unfold putL
  rw [if_pos hk, ← hlen, numBytes_back _ ho]
  exact e
theorem strNums_size (l : List Int) : (strOfNums l).size = l.length := by
  unfold strOfNums ByteArray.size
  simp
theorem rdL_back {st : Option (List Int)} {l' : List Int} (hok : okB (st.getD [])) (h : (rdL st).2 = some l') : ∃ l, st = some l ∧ l = longL (strOfNums (rdL st).1) ++ l' ∧ okB l' ∧ (strOfNums (rdL st).1).size < 4294967296 := by
  unfold rdL at h ⊢
  obtain ⟨l2, e2, f2, hn⟩ := rdB_back h
  obtain ⟨l, rfl, f1, hok2, b0, b1⟩ := rdU_back hok e2 rfl
  have b1' : (rdU (some l) 4).1 < 4294967296 := b1
  have ho := rdB_ok (st := (rdU (some l) 4).2) (by rw [e2]; exact hok2) (rdU (some l) 4).1
  refine ⟨l, rfl, ?_, fun x hx => hok2 x (by rw [f2]; exact List.mem_append_right _ hx), by rw [strNums_size]; omega⟩
  unfold longL
  rw [strI_of ho, strNums_size, hn, List.append_assoc, ← f2]
  exact f1
theorem wrap_back {n : Int} (h0 : 0 ≤ n) (h1 : n < 18446744073709551616) (h : 0 ≤ IntKind.i64.wrap n) : IntKind.i64.wrap n = n := by
  rw [IntKind.wrap_i64] at h ⊢
  omega
/-- An item's bytes, of those that were read as one. -/
theorem item_back {st : Option (List Int)} {l' : List Int} (hok : okB (st.getD [])) (h : (rdV st).2 = some l') (hr : 0 ≤ rdRev st) : ∃ l, st = some l ∧ l = itemL (kl (strOfNums (rdK st).1), (strOfNums (rdV st).1, rdRev st)) ++ l' ∧ okB l' := by
  unfold rdV at h ⊢
  have hok1 : okB ((rdK st).2.getD []) := by
    unfold rdK rdL
    intro x hx
    have e1 : ∀ (s : Option (List Int)) (n : Int), okB (s.getD []) → okB ((rdB s n).2.getD []) := by
      intro s n hs y hy
      cases s with
      | none => simp [rdB] at hy
      | some l =>
        by_cases hc : 0 ≤ n ∧ n ≤ l.length
        · have e : rdB (some l) n = (l.take n.toNat, some (l.drop n.toNat)) := by unfold rdB; exact if_pos hc
          rw [e] at hy
          exact hs y (List.mem_of_mem_drop hy)
        · have e : rdB (some l) n = ([], none) := by unfold rdB; exact if_neg hc
          rw [e] at hy
          cases hy
    have e2 : ∀ (s : Option (List Int)) (k : Int), okB (s.getD []) → okB ((rdU s k).2.getD []) := by
      intro s k hs
      unfold rdU
      split
      · exact e1 _ _ hs
      · intro y hy; cases hy
    exact e1 _ _ (e2 _ _ (e2 _ _ hok)) x hx
  obtain ⟨l2, e2, f2, ok2, z2⟩ := rdL_back hok1 h
  unfold rdK at e2
  have hok0 : okB ((rdU st 8).2.getD []) := by
    cases hs : (rdU st 8).2 with
    | none => intro y hy; cases hy
    | some m => exact (rdU_back hok hs rfl).choose_spec.2.2.1
  obtain ⟨l1, e1, f1, ok1, z1⟩ := rdL_back hok0 e2
  obtain ⟨l, e0, f0, ok0, b0, b1⟩ := rdU_back hok e1 rfl
  refine ⟨l, e0, ?_, ok2⟩
  have b1' : (rdU st 8).1 < 18446744073709551616 := b1
  have hw : rdRev st = (rdU st 8).1 := by
    unfold rdRev at hr ⊢
    exact wrap_back b0 b1' hr
  unfold itemL
  simp only [kl_str]
  rw [hw, List.append_assoc, List.append_assoc, ← f2]
  unfold rdK
  rw [← f1]
  exact f0
theorem done_nilL {st : Option (List Int)} (h : doneB st = true) : st = some [] := by
  unfold doneB at h
  cases st with
  | none => simp at h
  | some l =>
    simp at h
    rw [h]
theorem kindOf_back {kd : Int} (h : (kd == 1 || kd == 2) = true) (e : KEff) (he : e.gone = (kd == 2)) : kindOf e = kd := by
  unfold kindOf
  rw [he]
  by_cases h2 : kd = 2
  · subst h2; rfl
  · have h1 : kd = 1 := by simp at h; omega
    subst h1; rfl
theorem rdRev_le (st : Option (List Int)) : rdRev st ≤ 9223372036854775807 := by
  unfold rdRev
  rw [IntKind.wrap_i64]
  omega
theorem read10_any (b : Value) (xs : List Int) (w : World) (h : Sees w b xs) (hok : okB xs) (hl : xs.length ≤ 100000000000000) :
    Calls Tryz.prog 62 #[b] w fun x w' => ((∃ e : KEff, x = .returned (.tuple #[effV e, .int .i64 0]) ∧ rightB e = true ∧ e.rev ≤ 9223372036854775807 ∧ effL e = xs) ∨ x = .returned (.tuple #[effV eff0, .int .i64 3])) ∧ Below w.heap.size w w' := by
  obtain ⟨kd, hkd⟩ : ∃ kd, kd = (rdU (some xs) 1).1 := ⟨_, rfl⟩
  obtain ⟨s1, hs1⟩ : ∃ s1, s1 = (rdU (some xs) 1).2 := ⟨_, rfl⟩
  obtain ⟨e, he⟩ : ∃ e : KEff, e = ⟨strOfNums (rdK s1).1, strOfNums (rdV s1).1, rdRev s1, kd == 2⟩ := ⟨_, rfl⟩
  refine (read_core b xs w h hok hl kd (rdRev s1) s1 (rdV s1).2 (strOfNums (rdK s1).1) (strOfNums (rdV s1).1) (doneB (rdV s1).2) (rightB e)
    (Lib.hid (fun g w h => ?_)) (Lib.hid (fun g w h => ?_)) (Lib.hid (fun g w h => done_any g g _ w h)) (Lib.hid (fun w => ?_))).mono ?_
  · have := u_any g g _ 1 w h
    rw [← hkd, ← hs1] at this
    exact this
  · exact readItem_any g g _ w h
  · have := right_any e w
    rw [he] at this ⊢
    exact this
  · rintro x w' ⟨rfl, h2⟩
    refine ⟨?_, h2⟩
    by_cases hc : (doneB (rdV s1).2 && (kd == 1 || kd == 2) && rightB e) = true
    · rw [if_pos hc]
      simp only [Bool.and_eq_true] at hc
      obtain ⟨⟨hd, hk⟩, hr⟩ := hc
      left
      refine ⟨e, by rw [he], hr, by rw [he]; exact rdRev_le _, ?_⟩
      obtain ⟨_, _, _, r4, _⟩ := rightB_ok hr
      have hrv : 0 ≤ rdRev s1 := by rw [he] at r4; simp only [] at r4; omega
      have hok1 : okB (s1.getD []) := by
        rw [hs1]
        cases hs : (rdU (some xs) 1).2 with
        | none => intro y hy; cases hy
        | some m => exact (rdU_back (st := some xs) hok hs rfl).choose_spec.2.2.1
      obtain ⟨l1, e1, f1, _⟩ := item_back hok1 (done_nilL hd) hrv
      have e0 : (rdU (some xs) 1).2 = some l1 := by rw [← hs1]; exact e1
      obtain ⟨l, e2, f2, _, _, _⟩ := rdU_back (st := some xs) hok e0 rfl
      obtain rfl := Option.some.inj e2
      unfold effL
      rw [kindOf_back hk e (by rw [he]), he, hkd]
      rw [f1, List.append_nil] at f2
      exact f2.symm
    · rw [if_neg hc]
      right
      rfl
end
end Go.Proofs.YtbbefakmpmniiaaGreatDoor.KV
