/- Package disk: Crash. -/
import Derived.Test.YtkjdfelmjanpcaaDoorDkNames
import Derived.Test.YtkjdfelmjanpcaaDoorRows2
import Derived.Deep.QuietTactic
import Derived.BigQuiet
namespace Go.Proofs.YtkjdfelmjanpcaaDoor
open Go.RowKit Go.Maps
/-- How many bytes of a file stay. -/
def crashN (ks : List Int) (i : Nat) (u : List Int × Nat) : Nat := u.2 + (if i < ks.length then (ks.getD i 0).toNat % (u.1.length - u.2 + 1) else 0)
def crashU (ks : List Int) (i : Nat) (u : List Int × Nat) : List Int × Nat := (u.1.take (crashN ks i u), crashN ks i u)
def crashF (ks : List Int) : Nat → List FEnt → List FEnt
  | _, [] => []
  | i, f :: r => (f.1, crashU ks i f.2) :: crashF ks (i + 1) r
theorem crashF_len (ks : List Int) : ∀ (fs : List FEnt) (i : Nat), (crashF ks i fs).length = fs.length
  | [], _ => rfl
  | f :: r, i => by rw [crashF, List.length_cons, List.length_cons, crashF_len ks r]
theorem crashF_keys (ks : List Int) : ∀ (fs : List FEnt) (i : Nat), (crashF ks i fs).map (·.1) = fs.map (·.1)
  | [], _ => rfl
  | f :: r, i => by rw [crashF, List.map_cons, List.map_cons, crashF_keys ks r]
theorem crashF_snoc (ks : List Int) : ∀ (fs : List FEnt) (i : Nat) (f : FEnt), crashF ks i (fs ++ [f]) = crashF ks i fs ++ [(f.1, crashU ks (i + fs.length) f.2)]
  | [], i, f => rfl
  | g :: r, i, f => by
    rw [List.cons_append, crashF, crashF_snoc ks r, crashF, List.cons_append, List.length_cons, show i + 1 + r.length = i + (r.length + 1) from by omega]
theorem crashN_le (ks : List Int) (i : Nat) {u : List Int × Nat} (h : u.2 ≤ u.1.length) : u.2 ≤ crashN ks i u ∧ crashN ks i u ≤ u.1.length := by
  unfold crashN
  split
  · have := Nat.mod_lt (ks.getD i 0).toNat (Nat.succ_pos (u.1.length - u.2))
    rw [Nat.succ_eq_add_one] at this
    omega
  · omega
theorem put_set {β : Type} : ∀ (fs : List (List UInt8 × β)) (i : Nat) (v : β) (k : List UInt8), Rising fs → (∃ h : i < fs.length, fs[i].1 = k) → putE k v fs = fs.set i (k, v)
  | [], i, v, k, _, ⟨h, _⟩ => by cases h
  | y :: r, 0, v, k, hr, ⟨_, hk⟩ => by
    obtain ⟨h1, h2⟩ := List.pairwise_cons.1 hr
    have hy : y.1 = k := hk
    have e1 : delE k (y :: r) = r := by
      unfold delE
      rw [List.filter_cons_of_neg (by simp [hy])]
      refine List.filter_eq_self.2 fun p hp => ?_
      have hb := h1 p hp
      have : p.1 ≠ k := by rintro rfl; rw [hy] at hb; rw [WideAt.bytes_irrefl] at hb; cases hb
      simp [this]
    unfold putE
    rw [e1]
    cases r with
    | nil => rfl
    | cons z r =>
      have hb := h1 z List.mem_cons_self
      rw [insE, if_pos (by rw [← hy]; exact hb)]
      rfl
  | y :: r, i + 1, v, k, hr, ⟨h, hk⟩ => by
    obtain ⟨h1, h2⟩ := List.pairwise_cons.1 hr
    have hir : i < r.length := by simpa using h
    have hk' : r[i].1 = k := by simpa using hk
    have hb : bytesBefore y.1 k = true := by rw [← hk']; exact h1 _ (List.getElem_mem hir)
    have hne : y.1 ≠ k := by intro e; rw [e, WideAt.bytes_irrefl] at hb; cases hb
    have hnb : ¬ bytesBefore k y.1 = true := fun hb2 => by
      have := WideShapes.bytes_trans _ _ _ hb hb2
      rw [WideAt.bytes_irrefl] at this
      cases this
    have ih := put_set r i v k h2 ⟨hir, hk'⟩
    unfold putE at ih ⊢
    have e1 : delE k (y :: r) = y :: delE k r := by unfold delE; rw [List.filter_cons_of_pos (by simp [hne])]
    rw [e1, insE, if_neg hnb, ih, List.set_cons_succ]
theorem get_at {β : Type} : ∀ (fs : List (List UInt8 × β)) (i : Nat) (k : List UInt8), Rising fs → (h : i < fs.length) → fs[i].1 = k → getE fs k = some fs[i].2
  | [], i, k, _, h, _ => by cases h
  | y :: r, 0, k, _, _, hk => by
    have hy : y.1 = k := hk
    unfold getE
    rw [List.find?_cons, show (y.1 == k) = true from by simp [hy]]
    rfl
  | y :: r, i + 1, k, hr, h, hk => by
    obtain ⟨h1, h2⟩ := List.pairwise_cons.1 hr
    have hir : i < r.length := by simpa using h
    have hk' : r[i].1 = k := by simpa using hk
    have hb : bytesBefore y.1 k = true := by rw [← hk']; exact h1 _ (List.getElem_mem hir)
    have hne : y.1 ≠ k := by intro e; rw [e, WideAt.bytes_irrefl] at hb; cases hb
    have ih := get_at r i k h2 hir hk'
    unfold getE at ih ⊢
    rw [List.find?_cons, show (y.1 == k) = false from by simp [hne]]
    exact ih
theorem Step.trans {P P' P'' : Nat → Prop} {a b c : World} (h : Step P P' a b) (k : Step P' P'' b c) : Step P P'' a c :=
  ⟨h.1.trans k.1 (fun i hi hp => (h.2 i hp).resolve_right (by omega)), fun i hi => (k.2 i hi).elim (fun h' => h.2 i h') (fun h' => Or.inr (Nat.le_trans h.1.2.2.2.1 h'))⟩
theorem Step.refl (P : Nat → Prop) (w : World) : Step P P w w := ⟨Touch.refl _ _, fun _ h => Or.inl h⟩
theorem Step.below {P P' : Nat → Prop} {a b c : World} (h : Below a.heap.size a b) (k : Step P P' b c) : Step P P' a c :=
  ⟨(Touch.of_below _ h).trans k.1 (fun _ _ h => h), fun i hi => (k.2 i hi).imp id (fun h' => Nat.le_trans h.size h')⟩
theorem Step.mk' {P : Nat → Prop} {g : Nat} {a b : World} (hg : P g) (h : Touch (· = g) a b) : Step P P a b := ⟨h.mono (fun i _ e => by rw [e]; exact hg), fun _ h => Or.inl h⟩
def crashD (D : DSt) (ks : List Int) : DSt := ⟨crashF ks 0 D.fs, false, false, 0⟩
/-- The files when i of them have been looked at. -/
def midF (ks : List Int) (fs : List FEnt) (i : Nat) : List FEnt := crashF ks 0 (fs.take i) ++ fs.drop i
theorem midF_len (ks : List Int) (fs : List FEnt) (i : Nat) : (midF ks fs i).length = fs.length := by unfold midF; rw [List.length_append, crashF_len, List.length_take, List.length_drop]; omega
theorem midF_keys (ks : List Int) (fs : List FEnt) (i : Nat) : (midF ks fs i).map (·.1) = fs.map (·.1) := by
  unfold midF
  rw [List.map_append, crashF_keys, ← List.map_append, List.take_append_drop]
theorem midF_at (ks : List Int) (fs : List FEnt) (i : Nat) (hi : i < fs.length) : (midF ks fs i)[i]? = some fs[i] := by
  unfold midF
  have e : (crashF ks 0 (fs.take i)).length = i := by rw [crashF_len, List.length_take]; omega
  rw [List.getElem?_append_right (by omega), e, Nat.sub_self, List.getElem?_drop, Nat.add_zero, List.getElem?_eq_getElem hi]
theorem midF_set (ks : List Int) (fs : List FEnt) (i : Nat) (hi : i < fs.length) : (midF ks fs i).set i (fs[i].1, crashU ks i fs[i].2) = midF ks fs (i + 1) := by
  unfold midF
  have e : (crashF ks 0 (fs.take i)).length = i := by rw [crashF_len, List.length_take]; omega
  have e2 : fs.take (i + 1) = fs.take i ++ [fs[i]] := by rw [List.take_succ_eq_append_getElem hi]
  have e3 : fs.drop i = fs[i] :: fs.drop (i + 1) := List.drop_eq_getElem_cons hi
  rw [List.set_append_right _ _ (by omega), e, Nat.sub_self, e3, List.set_cons_zero, e2, crashF_snoc, List.length_take, show 0 + min i fs.length = i from by omega, List.append_assoc]
  rfl
theorem SeesT.keep {w w' : World} {v : Value} {ks : List (List UInt8)} (h : SeesT w v ks) (hb : ∀ d, v.ownBlock = some d → d < w.heap.size → w'.heap[d]? = w.heap[d]?) : SeesT w' v ks := by
  obtain ⟨ao, c, rfl, hl, hn, hc⟩ := h
  exact ⟨ao, c, rfl, hl, hn, fun a ha i hi => by
    have h1 := hc a ha i hi
    have h2 := cell_lt8 h1
    rw [World.cell?_of_block (w := w) (w' := w') (by subst ha; rw [add_block]; exact hb _ rfl (by rwa [add_block] at h2))]
    exact h1⟩
theorem SeesU.keep {w w' : World} {v : Value} {ks : List Int} (h : SeesU w v ks) (hb : ∀ d, v.ownBlock = some d → d < w.heap.size → w'.heap[d]? = w.heap[d]?) : SeesU w' v ks := by
  obtain ⟨ao, c, rfl, hl, hn, hc⟩ := h
  exact ⟨ao, c, rfl, hl, hn, fun a ha i hi => by
    have h1 := hc a ha i hi
    have h2 := cell_lt8 h1
    rw [World.cell?_of_block (w := w) (w' := w') (by subst ha; rw [add_block]; exact hb _ rfl (by rwa [add_block] at h2))]
    exact h1⟩
theorem SeesU.keep' {w w' : World} {v : Value} {ks : List Int} (h : SeesU w v ks) (hb : ks ≠ [] → ∀ d, v.ownBlock = some d → d < w.heap.size → w'.heap[d]? = w.heap[d]?) : SeesU w' v ks := by
  by_cases h0 : ks = []
  · subst h0
    obtain ⟨ao, c, e, h1, h2, _⟩ := h
    exact ⟨ao, c, e, h1, h2, fun a _ i hi => by cases hi⟩
  · exact h.keep (hb h0)
theorem crash_nil (v : Value) (w : World) : Calls Tryd.prog 24 #[.pointer none, v] w fun e w' => e = .returned (.tuple #[]) ∧ w = w' := by
  have q := eqNilD
  go_enter Tryd.func24, Tryd.ntmps24
  go_wp2
  refine bodyPost_ret (results_none rfl _ _ _) rfl ⟨rfl, rfl⟩
set_option maxRecDepth 100000 in
set_option linter.unusedSimpArgs false in
set_option maxHeartbeats 2000000 in
theorem crash_any (g : Nat) (P : Nat → Prop) (D : DSt) (kv : Value) (ks : List Int) (w : World) (h : DiskAt w g P D) (hn : D.fs.length ≤ 1000000) (hall : ∀ f ∈ D.fs, f.1.length ≤ maxLen ∧ f.2.1.length ≤ 100000000000)
    (hk : SeesU w kv ks) (hkb : ∀ x ∈ ks, 0 ≤ x ∧ x < 65536) (hkP : ks ≠ [] → ∀ d, kv.ownBlock = some d → ¬ P d) :
    Calls Tryd.prog 24 #[ptr g, kv] w fun e w' => ∃ P', e = .returned (.tuple #[]) ∧ DiskAt w' g P' (crashD D ks) ∧ Step P P' w w' := by
  have q := eqNilD
  have HN := Lib.hid (names_any g P D w h hn)
  have HH := Lib.hid h
  obtain ⟨ko, kc, rfl, hkc, hkn, hkcell⟩ := hk
  have HK := Lib.hid (show SeesU w (.slice ko ks.length kc) ks from ⟨ko, kc, rfl, hkc, hkn, hkcell⟩)
  have HKP := Lib.hid hkP
  have HKB := Lib.hid hkb
  have HA := Lib.hid hall
  have HPl : Hid (∀ i, P i → i < w.heap.size) := Lib.hid (by obtain ⟨_, _, _, _, _, _, _, _, h7, _⟩ := h; exact h7)
  clear h hkcell hkP hkb hall hkn
  go_enter Tryd.func24, Tryd.ntmps24
  go_wp2_with fail
  refine HN.out.mono ?_; rintro e w1 ⟨v1, rfl, hT1, hb1, hfr1⟩
  have HT1 := Lib.hid hT1
  have HFR := Lib.hid hfr1
  have HB1 := Lib.hid hb1
  have hz1 := hb1.size
  obtain ⟨no, nc, hv1, hnc, -⟩ := hT1
  subst hv1
  have hml : (D.fs.map (·.1)).length = D.fs.length := List.length_map _
  rw [hml]
  rw [hml] at HT1 HFR hnc
  clear hfr1 hb1 hml
  go_wp2_with fail
  go_loopw [13] (fun j wr => ∃ i : Nat, i ≤ D.fs.length ∧ j = .int .i64 i ∧ ∃ P', DiskAt wr g P' ⟨midF ks D.fs i, D.lost, D.armed, D.left⟩ ∧ Step P P' w1 wr) (fun j _ => D.fs.length - (intOf j).toNat)
  case atStart => exact ⟨0, Nat.zero_le _, rfl, P, HH.out.below HB1.out, Step.refl _ _⟩
  case round =>
    obtain ⟨i, hi, rfl, P', hD, hS⟩ := hrel
    by_cases hlt : i < D.fs.length
    · obtain ⟨mb, es, h, h2, h3, h4, h5, h6, h7, h8, h9⟩ := hD
      simp only [] at h h4 h8 h9
      have hS1 := hS.1
      have hz2 := hS1.2.2.2.1
      have hnP : ∀ d, d < w1.heap.size → ¬ P d → wr.heap[d]? = w1.heap[d]? := hS1.2.2.2.2
      have hTr := HT1.out.keep (w' := wr) (fun d hd hlt => hnP d hlt (fun hp => Nat.not_lt.2 (HFR.out d hd) (HPl.out d hp)))
      have hKr := HK.out.keep' (w' := wr) (fun h0 d hd hlt => (hnP d (by omega) (HKP.out h0 d hd)).trans (HB1.out.block d hlt))
      have hnotP' : ∀ d, d < w1.heap.size → ¬ P d → ¬ P' d := fun d hd hp hp' => (hS.2 d hp').elim hp (fun h' => by omega)
      obtain ⟨k, hk⟩ : ∃ k, k = D.fs[i].1 := ⟨_, rfl⟩
      obtain ⟨u, hu⟩ : ∃ u, u = D.fs[i].2 := ⟨_, rfl⟩
      have hat : (midF ks D.fs i)[i]? = some (k, u) := by rw [midF_at ks D.fs i hlt, hk, hu]
      obtain ⟨hil, hie⟩ := List.getElem?_eq_some_iff.1 hat
      have hri : Rising (midF ks D.fs i) := by
        have h10 : (es.map (·.1)).Pairwise (fun a b => bytesBefore a b = true) := List.pairwise_map.2 h6
        rw [keys_all2 h4] at h10
        exact List.pairwise_map.1 h10
      have hget : getE (midF ks D.fs i) k = some u := by
        have := get_at _ i k hri hil (by rw [hie])
        rw [hie] at this
        exact this
      have hput : putE k (crashU ks i u) (midF ks D.fs i) = midF ks D.fs (i + 1) := by
        rw [put_set _ i _ k hri ⟨hil, by rw [hie]⟩, hk, hu]
        exact midF_set ks D.fs i hlt
      obtain ⟨b, rfl⟩ : ∃ b, mb = some b := by
        cases mb with
        | none =>
          have e := h.2.2.1 rfl
          have e2 := All2.len h4
          rw [e, midF_len] at e2
          simp at e2
          omega
        | some b => exact ⟨b, rfl⟩
      obtain ⟨sv, hv, ho, hko, hsu, hsv, -⟩ := file_of h4 k
      rw [hget] at hv ho hko hsu
      simp only [Option.getD_some] at hv ho hko hsu
      have hA2 := HA.out (k, u) (by rw [hk, hu]; exact List.getElem_mem hlt)
      obtain ⟨s, hs⟩ : ∃ s : ByteArray, s = ⟨k.toArray⟩ := ⟨_, rfl⟩
      have hsk : s.data.toList = k := by rw [hs]
      have hss : s.size ≤ maxLen := by
        rw [hs]
        show k.toArray.size ≤ _
        rw [List.size_toArray]
        exact hA2.1
      have hL := (h.look hss false)
      rw [hsk, hv] at hL
      simp only [Bool.false_eq_true, if_false] at hL
      obtain ⟨a, rfl⟩ : ∃ a, no = some a := by
        obtain ⟨_, _, e1, _, e2, _⟩ := hTr
        injection e1 with e1 _ _
        subst e1
        cases no with
        | none =>
          have e3 := congrArg List.length (e2 rfl)
          rw [List.length_map, List.length_nil] at e3
          omega
        | some a => exact ⟨a, rfl⟩
      have hcell : wr.cell? (a.add i) = some (.string s) := by
        obtain ⟨_, _, e1, _, _, e2⟩ := hTr
        injection e1 with e1 _ _
        subst e1
        rw [e2 a rfl i (by simpa using hlt), hs]
        have e3 : (D.fs.map (·.1)).getD i [] = k := by simp [List.getD, hlt, hk]
        rw [e3]
      obtain ⟨N, hN⟩ : ∃ N, N = crashN ks i u := ⟨_, rfl⟩
      have hNle := crashN_le ks i hsu
      rw [← hN] at hNle
      have hcu : crashU ks i u = (u.1.take N, N) := by unfold crashU; rw [hN]
      obtain ⟨ao, c, rfl, -⟩ := id ho.sees
      have hsee := ho.sees
      obtain ⟨c0, -⟩ := dcells h.1
      have b0 : (0 : Int) ≤ (i : Int) := by omega
      have b1 : (i : Int) < (D.fs.length : Int) := by omega
      have HX := Lib.hid (And.intro h (And.intro h4 (And.intro ho (And.intro hko (And.intro hsu (And.intro hsv hsee))))))
      have HS := Lib.hid hS
      have HPT := Lib.hid (And.intro hput hcu)
      have HSK := Lib.hid hsk
      have HNN := Lib.hid hN
      have ul := hA2.2
      simp only [] at ul
      have hgl : g < wr.heap.size := heap_lt h.1
      have hlenE : es.length ≤ 1000000 := by rw [All2.len h4, midF_len]; exact hn
      clear h h4 ho hko hv hsv hsee hS hS1 hnP hTr hat hil hie hri hget hput hA2 hs hcu hk hu hnotP' hsk hN
      by_cases hki : i < ks.length
      · have d0 : decide ((i : Int) < (ks.length : Int)) = true := by simp; omega
        obtain ⟨X, hX⟩ : ∃ X, X = ks.getD i 0 := ⟨_, rfl⟩
        have hXb := HKB.out X (by rw [hX]; simp [List.getD, hki])
        obtain ⟨M, hM⟩ : ∃ M : Nat, M = X.toNat % (u.1.length - u.2 + 1) := ⟨_, rfl⟩
        have hNM : N = u.2 + M := by rw [HNN.out]; unfold crashN; rw [if_pos hki, ← hX, hM]
        have hsu0 := HX.out.2.2.2.2.1
        have s1 : IntKind.i64.wrap X = X := IntWalk.i64_in _ (by omega)
        have s2 : IntKind.i64.wrap ((u.1.length : Int) - (u.2 : Nat)) = u.1.length - (u.2 : Nat) := IntWalk.i64_in _ (by omega)
        have s3 : IntKind.i64.wrap ((u.1.length : Int) - (u.2 : Nat) + 1) = u.1.length - (u.2 : Nat) + 1 := IntWalk.i64_in _ (by omega)
        have s4 : X % ((u.1.length : Int) - (u.2 : Nat) + 1) = (M : Nat) := by
          have e1 : X = (X.toNat : Int) := by omega
          have e2 : (u.1.length : Int) - (u.2 : Nat) + 1 = ((u.1.length - u.2 + 1 : Nat) : Int) := by omega
          rw [hM, Int.natCast_emod, ← e2, ← e1]
        have s5 : Int.tmod X ((u.1.length : Int) - (u.2 : Nat) + 1) = (M : Nat) := by rw [Int.tmod_eq_emod_of_nonneg hXb.1]; exact s4
        have s6 : ¬ ((u.1.length : Int) - (u.2 : Nat) + 1 = 0) := by omega
        have s7 : IntKind.i64.wrap ((u.2 : Nat) + (M : Nat) : Int) = (N : Nat) := by rw [hNM]; exact IntWalk.i64_in _ (by have := hNle.2; omega)
        obtain ⟨ka, rfl⟩ : ∃ ka, ko = some ka := by
          obtain ⟨_, _, e1, _, e2, _⟩ := hKr
          cases e1
          cases ko with
          | none => rw [e2 rfl] at hki; simp at hki
          | some ka => exact ⟨ka, rfl⟩
        have hkc0 : wr.cell? (ka.add i) = some (.int .u16 X) := by
          obtain ⟨_, _, e1, _, _, e2⟩ := hKr
          cases e1
          rw [e2 ka rfl i hki, hX]
        have b2 : (i : Int) < (ks.length : Int) := by omega
        clear hX hM hNM hKr
        have hbA := belNew wr (.cells #[.slice ao u.1.length c, .int .i64 (u.2 : Nat)] 85)
        obtain ⟨W, hW⟩ : ∃ W, W = wr.alloc (.cells #[.slice ao u.1.length c, .int .i64 (u.2 : Nat)] 85) := ⟨_, rfl⟩
        rw [← hW] at hbA
        have hWL : W.heap[wr.heap.size]? = some (.cells #[.slice ao u.1.length c, .int .i64 (u.2 : Nat)] 85 (0, 0)) := by rw [hW]; exact heap_alloc_new wr _
        have p0 : W.cell? ⟨wr.heap.size, 0, none⟩ = some (.slice ao u.1.length c) := by simp [World.cell?, hWL]
        have p1 : W.cell? ⟨wr.heap.size, 1, none⟩ = some (.int .i64 (u.2 : Nat)) := by simp [World.cell?, hWL]
        have hDW := HX.out.1.keep hbA
        obtain ⟨m0, -⟩ := dcells hDW.1
        have hseeW := HX.out.2.2.2.2.2.2.keep hbA
        have HWW := Lib.hid hW
        have HWL := Lib.hid hWL
        have HW3 := Lib.hid (And.intro hbA (And.intro hDW hseeW))
        have hkW : W.cell? (ka.add i) = some (.int .u16 X) := by rw [hbA.cell (cell_lt8 hkc0)]; exact hkc0
        clear hkc0
        clear hW hWL hbA hDW hseeW
        have HC := Lib.hid (And.intro p0 (And.intro p1 m0))
        clear p0 p1 m0
        go_upto_region 5 with fail
        rw [← HWW.out]
        obtain ⟨p0, p1, m0⟩ := HC.out
        clear c0 hcell hL
        go_wp2_with fail
        go_quiet (fail)
        go_wp2_with fail
        obtain ⟨V, hV⟩ : ∃ V, V = W.drewN nq := ⟨_, rfl⟩
        rw [← hV]
        have p0' : V.cell? ⟨wr.heap.size, 0, none⟩ = some (.slice ao u.1.length c) := by rw [hV]; exact p0
        have p1' : V.cell? ⟨wr.heap.size, 1, none⟩ = some (.int .i64 (u.2 : Nat)) := by rw [hV]; exact p1
        have m0' : V.cell? ⟨g, 0, none⟩ = some (.map (some b)) := by rw [hV]; exact m0
        have HWL : Hid (V.heap[wr.heap.size]? = some (.cells #[.slice ao u.1.length c, .int .i64 (u.2 : Nat)] 85 (0, 0))) := Lib.hid (by rw [hV]; exact HWL.out)
        have HW3 : Hid (Below wr.heap.size wr V ∧ DiskE V g (some b) es D.lost D.armed D.left ∧ Sees V (.slice ao u.1.length c) u.1) := Lib.hid (by rw [hV]; exact ⟨below_drewN HW3.out.1 nq, HW3.out.2.1, HW3.out.2.2⟩)
        clear p0 p1 m0 hV hkW
        refine wp_region_held_drew (S := (fun W => W.cell? ⟨g, 0, none⟩ = some (.map (some b)) ∧ W.cell? ⟨wr.heap.size, 0, none⟩ = some (.slice ao u.1.length c) ∧ W.cell? ⟨wr.heap.size, 1, none⟩ = some (.int .i64 (u.2 : Nat)) ∧ Sees W (.slice ao u.1.length c) u.1)) (by kernel_rfl) ?_ (fun r0 => ?_)
        · exact ⟨m0', p0', p1', HW3.out.2.2⟩
        refine wpAnyH_take (i := 0) (v := ?_) rfl (by kernel_rfl) (by kernel_rfl) (by kernel_rfl) (fun _ _ _ h => h) (Or.inl ⟨by rfl, ?_⟩) (by assumption) ?_
        rotate_left
        · intro w hSw
          (try dsimp only at hSw)
          go_simp
          first | done | with_reducible rfl
        try simp only [Act.put, List.getElem_toArray, List.getElem_cons_succ, List.getElem_cons_zero, List.setIfInBounds_toArray, List.set_cons_zero, List.set_cons_succ]
        refine wpAnyH_take (i := 1) (v := ?_) rfl (by kernel_rfl) (by kernel_rfl) (by kernel_rfl) (fun _ _ _ h => h) (Or.inl ⟨by rfl, ?_⟩) (by assumption) ?_
        rotate_left
        · intro w hSw
          (try dsimp only at hSw)
          go_simp
          first | done | with_reducible rfl
        try simp only [Act.put, List.getElem_toArray, List.getElem_cons_succ, List.getElem_cons_zero, List.setIfInBounds_toArray, List.set_cons_zero, List.set_cons_succ]
        refine wpAnyH_take (i := 2) (v := ?_) rfl (by kernel_rfl) (by kernel_rfl) (by kernel_rfl) (fun _ _ _ h => h) (Or.inl ⟨by rfl, ?_⟩) (by assumption) ?_
        rotate_left
        · intro w hSw
          (try dsimp only at hSw)
          go_simp
          first | done | with_reducible rfl
        try simp only [Act.put, List.getElem_toArray, List.getElem_cons_succ, List.getElem_cons_zero, List.setIfInBounds_toArray, List.set_cons_zero, List.set_cons_succ]
        refine wpAnyH_take (i := 3) (v := ?_) rfl (by kernel_rfl) (by kernel_rfl) (by kernel_rfl) (fun _ _ _ h => h) (Or.inl ⟨by rfl, ?_⟩) (by assumption) ?_
        rotate_left
        · intro w hSw
          (try dsimp only at hSw)
          go_simp
          first | done | with_reducible rfl
        try simp only [Act.put, List.getElem_toArray, List.getElem_cons_succ, List.getElem_cons_zero, List.setIfInBounds_toArray, List.set_cons_zero, List.set_cons_succ]
        refine wpAnyH_take (i := 4) (v := ?_) rfl (by kernel_rfl) (by kernel_rfl) (by kernel_rfl) (fun _ _ _ h => h) (Or.inl ⟨by rfl, ?_⟩) (by assumption) ?_
        rotate_left
        · intro w hSw
          (try dsimp only at hSw)
          go_simp
          first | done | with_reducible rfl
        try simp only [Act.put, List.getElem_toArray, List.getElem_cons_succ, List.getElem_cons_zero, List.setIfInBounds_toArray, List.set_cons_zero, List.set_cons_succ]
        refine wpAnyH_take (i := 5) (v := ?_) rfl (by kernel_rfl) (by kernel_rfl) (by kernel_rfl) (fun _ _ _ h => h) (Or.inl ⟨by rfl, ?_⟩) (by assumption) ?_
        rotate_left
        · intro w hSw
          (try dsimp only at hSw)
          go_simp
          first | done | with_reducible rfl
        try simp only [Act.put, List.getElem_toArray, List.getElem_cons_succ, List.getElem_cons_zero, List.setIfInBounds_toArray, List.set_cons_zero, List.set_cons_succ]
        refine wpAnyH_take (i := 6) (v := ?_) rfl (by kernel_rfl) (by kernel_rfl) (by kernel_rfl) (fun _ _ _ h => h) (Or.inl ⟨by rfl, ?_⟩) (by assumption) ?_
        rotate_left
        · intro w hSw
          (try dsimp only at hSw)
          go_simp
          first | done | with_reducible rfl
        try simp only [Act.put, List.getElem_toArray, List.getElem_cons_succ, List.getElem_cons_zero, List.setIfInBounds_toArray, List.set_cons_zero, List.set_cons_succ]
        refine wpAnyH_take (i := 7) (v := ?_) rfl (by kernel_rfl) (by kernel_rfl) (by kernel_rfl) (fun _ _ _ h => h) (Or.inl ⟨by rfl, ?_⟩) (by assumption) ?_
        rotate_left
        · intro w hSw
          (try dsimp only at hSw)
          go_simp
          first | done | with_reducible rfl
        try simp only [Act.put, List.getElem_toArray, List.getElem_cons_succ, List.getElem_cons_zero, List.setIfInBounds_toArray, List.set_cons_zero, List.set_cons_succ]
        refine wpAnyH_take (i := 8) (v := ?_) rfl (by kernel_rfl) (by kernel_rfl) (by kernel_rfl) (fun _ _ _ h => h) (Or.inl ⟨by rfl, ?_⟩) (by assumption) ?_
        rotate_left
        · intro w hSw
          (try dsimp only at hSw)
          go_simp
          first | done | with_reducible rfl
        try simp only [Act.put, List.getElem_toArray, List.getElem_cons_succ, List.getElem_cons_zero, List.setIfInBounds_toArray, List.set_cons_zero, List.set_cons_succ]
        refine wpAnyH_take (i := 9) (v := ?_) rfl (by kernel_rfl) (by kernel_rfl) (by kernel_rfl) (fun _ _ _ h => h) (Or.inl ⟨by rfl, ?_⟩) (by assumption) ?_
        rotate_left
        · intro w hSw
          (try dsimp only at hSw)
          go_simp
          first | done | with_reducible rfl
        try simp only [Act.put, List.getElem_toArray, List.getElem_cons_succ, List.getElem_cons_zero, List.setIfInBounds_toArray, List.set_cons_zero, List.set_cons_succ]
        refine wpAnyH_ready (rs := [10]) (by kernel_rfl) (by simp) ?_
        refine AllReadyH.cons rfl (fun K hK => ?_) AllReadyH.nil
        go_simp
        refine (first_any (.slice ao u.1.length c) u.2 N u.1 _ r0.2.2.2 hNle.2 ul).mono ?_; rintro e w4 ⟨v4, rfl, ho4, hb4⟩
        obtain ⟨a4, c4, hv4, -⟩ := id ho4.sees
        rw [show (u.1.take N).length = N from by rw [List.length_take]; omega] at hv4
        subst hv4
        have hb4' : Below (V).heap.size (V) w4 := ⟨hb4.os, hb4.tape, hb4.output, hb4.size, hb4.block⟩
        have hM4 : MapIs w4 b es.length es := (HW3.out.2.1.2.1 b rfl).heap (hb4'.block b (HW3.out.2.1.2.1 b rfl).lt)
        have hkp : ∀ (q : Addr) (x : Value), (V).cell? q = some x → w4.cell? q = some x := fun q x hq => (hb4'.cell (World.block_lt_of_cell? _ _ hq)).trans hq
        have hs4 : Sees w4 (.slice ao u.1.length c) u.1 := HW3.out.2.2.keep hb4'
        refine hK.out _ _ ?_ (fun r1 => ?_)
        · exact ⟨hkp _ _ r0.1, hkp _ _ r0.2.1, hkp _ _ r0.2.2.1, hs4⟩
        try simp only [Act.put, List.getElem_toArray, List.getElem_cons_succ, List.getElem_cons_zero, List.setIfInBounds_toArray, List.set_cons_zero, List.set_cons_succ]
        obtain ⟨w5, hrun, hm5, hg5⟩ := hM4.put (by unfold maxLen; omega) hss (.agg #[.slice a4 N c4, .int .i64 (N : Nat)])
        refine wpAnyH_ready (rs := [11]) (by kernel_rfl) (by simp) ?_
        refine AllReadyH.cons rfl (fun K hK => ?_) AllReadyH.nil
        have hD4 := HW3.out.2.1.keep hb4'
        have hkq : ∀ (q : Addr) (x : Value), q.block ≠ b → w4.cell? q = some x → w5.cell? q = some x := fun q x hn hq => (World.cell?_of_block (hg5.block q.block (World.block_lt_of_cell? _ _ hq) (fun e => hn (Option.some.inj e)))).trans hq
        have hL4 : w4.heap[wr.heap.size]? = some (.cells #[.slice ao u.1.length c, .int .i64 (u.2 : Nat)] 85 (0, 0)) := (hb4'.block wr.heap.size (heap_lt HWL.out)).trans HWL.out
        have hs5 : Sees w5 (.slice ao u.1.length c) u.1 := sees_heap hs4 (fun d hd hlt => hg5.block d hlt (fun e => own_ne_map HX.out.2.2.1 (HX.out.1.2.1 b rfl) (hd.trans e)))
        go_simp
        refine hK.out _ _ ?_ (fun r2 => ?_)
        · exact ⟨hkq _ _ ((hD4.2.1 b rfl).ne hD4.1).symm r1.1, hkq _ _ ((hD4.2.1 b rfl).ne hL4).symm r1.2.1, hkq _ _ ((hD4.2.1 b rfl).ne hL4).symm r1.2.2.1, hs5⟩
        try simp only [Act.put, List.getElem_toArray, List.getElem_cons_succ, List.getElem_cons_zero, List.setIfInBounds_toArray, List.set_cons_zero, List.set_cons_succ]
        refine wpAnyH_done (by kernel_rfl) ?_ _
        go_wp2_with fail
        go_roundw
        case rel =>
          rw [HSK.out] at hm5
          obtain ⟨h, h4, ho, hko, hsu, hsv, hsee⟩ := HX.out
          have hbW : Below wr.heap.size wr w4 := HW3.out.1.trans (hb4'.mono HW3.out.1.size)
          have hR := put_end (su := N) (sv := .slice ao u.1.length c) (w2 := w4) h h2 (h3 b rfl) h4 h5 h6 h7 hsv (h.keep hbW) (Touch.of_below _ hbW) h8 h9 hm5 hg5 (Owns.le ho4 (Nat.zero_le _)) (hko.take N) (by rw [List.length_take]; omega) (fun d hd => Or.inr (Nat.le_trans HW3.out.1.size (World.ownsRow.lt ho4 d hd).1))
          rw [← HPT.out.2, HPT.out.1] at hR
          exact ⟨i + 1, by omega, by go_num, _, hR.1, HS.out.trans hR.2⟩
        case measure => simp [intOf]; omega
      · have d0 : decide ((i : Int) < (ks.length : Int)) = false := by simp; omega
        obtain rfl : N = u.2 := by rw [HNN.out]; unfold crashN; rw [if_neg hki, Nat.add_zero]
        have s7 : IntKind.i64.wrap ((u.2 : Nat) : Int) = (u.2 : Nat) := IntWalk.i64_in _ (by have := hNle.2; omega)
        have s8 : IntKind.i64.wrap ((u.2 : Nat) + 0 : Int) = (u.2 : Nat) := by rw [Int.add_zero]; exact s7
        clear hKr
        have hbA := belNew wr (.cells #[.slice ao u.1.length c, .int .i64 (u.2 : Nat)] 85)
        obtain ⟨W, hW⟩ : ∃ W, W = wr.alloc (.cells #[.slice ao u.1.length c, .int .i64 (u.2 : Nat)] 85) := ⟨_, rfl⟩
        rw [← hW] at hbA
        have hWL : W.heap[wr.heap.size]? = some (.cells #[.slice ao u.1.length c, .int .i64 (u.2 : Nat)] 85 (0, 0)) := by rw [hW]; exact heap_alloc_new wr _
        have p0 : W.cell? ⟨wr.heap.size, 0, none⟩ = some (.slice ao u.1.length c) := by simp [World.cell?, hWL]
        have p1 : W.cell? ⟨wr.heap.size, 1, none⟩ = some (.int .i64 (u.2 : Nat)) := by simp [World.cell?, hWL]
        have hDW := HX.out.1.keep hbA
        obtain ⟨m0, -⟩ := dcells hDW.1
        have hseeW := HX.out.2.2.2.2.2.2.keep hbA
        have HWW := Lib.hid hW
        have HWL := Lib.hid hWL
        have HW3 := Lib.hid (And.intro hbA (And.intro hDW hseeW))
        clear hW hWL hbA hDW hseeW
        have HC := Lib.hid (And.intro p0 (And.intro p1 m0))
        clear p0 p1 m0
        go_upto_region 5 with fail
        rw [← HWW.out]
        obtain ⟨p0, p1, m0⟩ := HC.out
        clear c0 hcell hL
        go_wp2_with fail
        refine wp_region_held_drew (S := (fun W => W.cell? ⟨g, 0, none⟩ = some (.map (some b)) ∧ W.cell? ⟨wr.heap.size, 0, none⟩ = some (.slice ao u.1.length c) ∧ W.cell? ⟨wr.heap.size, 1, none⟩ = some (.int .i64 (u.2 : Nat)) ∧ Sees W (.slice ao u.1.length c) u.1)) (by kernel_rfl) ?_ (fun r0 => ?_)
        · exact ⟨m0, p0, p1, HW3.out.2.2⟩
        refine wpAnyH_take (i := 0) (v := ?_) rfl (by kernel_rfl) (by kernel_rfl) (by kernel_rfl) (fun _ _ _ h => h) (Or.inl ⟨by rfl, ?_⟩) (by assumption) ?_
        rotate_left
        · intro w hSw
          (try dsimp only at hSw)
          go_simp
          first | done | with_reducible rfl
        try simp only [Act.put, List.getElem_toArray, List.getElem_cons_succ, List.getElem_cons_zero, List.setIfInBounds_toArray, List.set_cons_zero, List.set_cons_succ]
        refine wpAnyH_take (i := 1) (v := ?_) rfl (by kernel_rfl) (by kernel_rfl) (by kernel_rfl) (fun _ _ _ h => h) (Or.inl ⟨by rfl, ?_⟩) (by assumption) ?_
        rotate_left
        · intro w hSw
          (try dsimp only at hSw)
          go_simp
          first | done | with_reducible rfl
        try simp only [Act.put, List.getElem_toArray, List.getElem_cons_succ, List.getElem_cons_zero, List.setIfInBounds_toArray, List.set_cons_zero, List.set_cons_succ]
        refine wpAnyH_take (i := 2) (v := ?_) rfl (by kernel_rfl) (by kernel_rfl) (by kernel_rfl) (fun _ _ _ h => h) (Or.inl ⟨by rfl, ?_⟩) (by assumption) ?_
        rotate_left
        · intro w hSw
          (try dsimp only at hSw)
          go_simp
          first | done | with_reducible rfl
        try simp only [Act.put, List.getElem_toArray, List.getElem_cons_succ, List.getElem_cons_zero, List.setIfInBounds_toArray, List.set_cons_zero, List.set_cons_succ]
        refine wpAnyH_take (i := 3) (v := ?_) rfl (by kernel_rfl) (by kernel_rfl) (by kernel_rfl) (fun _ _ _ h => h) (Or.inl ⟨by rfl, ?_⟩) (by assumption) ?_
        rotate_left
        · intro w hSw
          (try dsimp only at hSw)
          go_simp
          first | done | with_reducible rfl
        try simp only [Act.put, List.getElem_toArray, List.getElem_cons_succ, List.getElem_cons_zero, List.setIfInBounds_toArray, List.set_cons_zero, List.set_cons_succ]
        refine wpAnyH_take (i := 4) (v := ?_) rfl (by kernel_rfl) (by kernel_rfl) (by kernel_rfl) (fun _ _ _ h => h) (Or.inl ⟨by rfl, ?_⟩) (by assumption) ?_
        rotate_left
        · intro w hSw
          (try dsimp only at hSw)
          go_simp
          first | done | with_reducible rfl
        try simp only [Act.put, List.getElem_toArray, List.getElem_cons_succ, List.getElem_cons_zero, List.setIfInBounds_toArray, List.set_cons_zero, List.set_cons_succ]
        refine wpAnyH_take (i := 5) (v := ?_) rfl (by kernel_rfl) (by kernel_rfl) (by kernel_rfl) (fun _ _ _ h => h) (Or.inl ⟨by rfl, ?_⟩) (by assumption) ?_
        rotate_left
        · intro w hSw
          (try dsimp only at hSw)
          go_simp
          first | done | with_reducible rfl
        try simp only [Act.put, List.getElem_toArray, List.getElem_cons_succ, List.getElem_cons_zero, List.setIfInBounds_toArray, List.set_cons_zero, List.set_cons_succ]
        refine wpAnyH_take (i := 6) (v := ?_) rfl (by kernel_rfl) (by kernel_rfl) (by kernel_rfl) (fun _ _ _ h => h) (Or.inl ⟨by rfl, ?_⟩) (by assumption) ?_
        rotate_left
        · intro w hSw
          (try dsimp only at hSw)
          go_simp
          first | done | with_reducible rfl
        try simp only [Act.put, List.getElem_toArray, List.getElem_cons_succ, List.getElem_cons_zero, List.setIfInBounds_toArray, List.set_cons_zero, List.set_cons_succ]
        refine wpAnyH_take (i := 7) (v := ?_) rfl (by kernel_rfl) (by kernel_rfl) (by kernel_rfl) (fun _ _ _ h => h) (Or.inl ⟨by rfl, ?_⟩) (by assumption) ?_
        rotate_left
        · intro w hSw
          (try dsimp only at hSw)
          go_simp
          first | done | with_reducible rfl
        try simp only [Act.put, List.getElem_toArray, List.getElem_cons_succ, List.getElem_cons_zero, List.setIfInBounds_toArray, List.set_cons_zero, List.set_cons_succ]
        refine wpAnyH_take (i := 8) (v := ?_) rfl (by kernel_rfl) (by kernel_rfl) (by kernel_rfl) (fun _ _ _ h => h) (Or.inl ⟨by rfl, ?_⟩) (by assumption) ?_
        rotate_left
        · intro w hSw
          (try dsimp only at hSw)
          go_simp
          first | done | with_reducible rfl
        try simp only [Act.put, List.getElem_toArray, List.getElem_cons_succ, List.getElem_cons_zero, List.setIfInBounds_toArray, List.set_cons_zero, List.set_cons_succ]
        refine wpAnyH_take (i := 9) (v := ?_) rfl (by kernel_rfl) (by kernel_rfl) (by kernel_rfl) (fun _ _ _ h => h) (Or.inl ⟨by rfl, ?_⟩) (by assumption) ?_
        rotate_left
        · intro w hSw
          (try dsimp only at hSw)
          go_simp
          first | done | with_reducible rfl
        try simp only [Act.put, List.getElem_toArray, List.getElem_cons_succ, List.getElem_cons_zero, List.setIfInBounds_toArray, List.set_cons_zero, List.set_cons_succ]
        refine wpAnyH_ready (rs := [10]) (by kernel_rfl) (by simp) ?_
        refine AllReadyH.cons rfl (fun K hK => ?_) AllReadyH.nil
        go_simp
        refine (first_any (.slice ao u.1.length c) u.2 u.2 u.1 _ r0.2.2.2 hNle.2 ul).mono ?_; rintro e w4 ⟨v4, rfl, ho4, hb4⟩
        obtain ⟨a4, c4, hv4, -⟩ := id ho4.sees
        rw [show (u.1.take u.2).length = u.2 from by rw [List.length_take]; omega] at hv4
        subst hv4
        have hb4' : Below (W).heap.size (W) w4 := ⟨hb4.os, hb4.tape, hb4.output, hb4.size, hb4.block⟩
        have hM4 : MapIs w4 b es.length es := (HW3.out.2.1.2.1 b rfl).heap (hb4'.block b (HW3.out.2.1.2.1 b rfl).lt)
        have hkp : ∀ (q : Addr) (x : Value), (W).cell? q = some x → w4.cell? q = some x := fun q x hq => (hb4'.cell (World.block_lt_of_cell? _ _ hq)).trans hq
        have hs4 : Sees w4 (.slice ao u.1.length c) u.1 := HW3.out.2.2.keep hb4'
        refine hK.out _ _ ?_ (fun r1 => ?_)
        · exact ⟨hkp _ _ r0.1, hkp _ _ r0.2.1, hkp _ _ r0.2.2.1, hs4⟩
        try simp only [Act.put, List.getElem_toArray, List.getElem_cons_succ, List.getElem_cons_zero, List.setIfInBounds_toArray, List.set_cons_zero, List.set_cons_succ]
        obtain ⟨w5, hrun, hm5, hg5⟩ := hM4.put (by unfold maxLen; omega) hss (.agg #[.slice a4 u.2 c4, .int .i64 (u.2 : Nat)])
        refine wpAnyH_ready (rs := [11]) (by kernel_rfl) (by simp) ?_
        refine AllReadyH.cons rfl (fun K hK => ?_) AllReadyH.nil
        have hD4 := HW3.out.2.1.keep hb4'
        have hkq : ∀ (q : Addr) (x : Value), q.block ≠ b → w4.cell? q = some x → w5.cell? q = some x := fun q x hn hq => (World.cell?_of_block (hg5.block q.block (World.block_lt_of_cell? _ _ hq) (fun e => hn (Option.some.inj e)))).trans hq
        have hL4 : w4.heap[wr.heap.size]? = some (.cells #[.slice ao u.1.length c, .int .i64 (u.2 : Nat)] 85 (0, 0)) := (hb4'.block wr.heap.size (heap_lt HWL.out)).trans HWL.out
        have hs5 : Sees w5 (.slice ao u.1.length c) u.1 := sees_heap hs4 (fun d hd hlt => hg5.block d hlt (fun e => own_ne_map HX.out.2.2.1 (HX.out.1.2.1 b rfl) (hd.trans e)))
        go_simp
        refine hK.out _ _ ?_ (fun r2 => ?_)
        · exact ⟨hkq _ _ ((hD4.2.1 b rfl).ne hD4.1).symm r1.1, hkq _ _ ((hD4.2.1 b rfl).ne hL4).symm r1.2.1, hkq _ _ ((hD4.2.1 b rfl).ne hL4).symm r1.2.2.1, hs5⟩
        try simp only [Act.put, List.getElem_toArray, List.getElem_cons_succ, List.getElem_cons_zero, List.setIfInBounds_toArray, List.set_cons_zero, List.set_cons_succ]
        refine wpAnyH_done (by kernel_rfl) ?_ _
        go_wp2_with fail
        go_roundw
        case rel =>
          rw [HSK.out] at hm5
          obtain ⟨h, h4, ho, hko, hsu, hsv, hsee⟩ := HX.out
          have hbW : Below wr.heap.size wr w4 := HW3.out.1.trans (hb4'.mono HW3.out.1.size)
          have hR := put_end (su := u.2) (sv := .slice ao u.1.length c) (w2 := w4) h h2 (h3 b rfl) h4 h5 h6 h7 hsv (h.keep hbW) (Touch.of_below _ hbW) h8 h9 hm5 hg5 (Owns.le ho4 (Nat.zero_le _)) (hko.take u.2) (by rw [List.length_take]; omega) (fun d hd => Or.inr (Nat.le_trans HW3.out.1.size (World.ownsRow.lt ho4 d hd).1))
          rw [← HPT.out.2, HPT.out.1] at hR
          exact ⟨i + 1, by omega, by go_num, _, hR.1, HS.out.trans hR.2⟩
        case measure => simp [intOf]; omega
    · obtain rfl : i = D.fs.length := by omega
      have e1 : midF ks D.fs D.fs.length = crashF ks 0 D.fs := by unfold midF; rw [List.take_length, List.drop_length, List.append_nil]
      rw [e1] at hD
      have HS := Lib.hid hS
      obtain ⟨mb, es, h, h2, h3, h4, h5, h6, h7, h8, h9⟩ := hD
      obtain ⟨c0, c1, c2, c3⟩ := dcells h.1
      have f1 := dfroz h.1 1
      have f2 := dfroz h.1 2
      have f3 := dfroz h.1 3
      have hA := ((h.setLost false).setArmed false).setLeft 0
      have hT : Touch (· = g) wr (((wr.setCell ⟨g, 1, none⟩ (.bool false)).setCell ⟨g, 2, none⟩ (.bool false)).setCell ⟨g, 3, none⟩ (.int .i64 0)) := ((touch_set wr g 1 _).trans (touch_set _ g 2 _) (fun _ _ e => e)).trans (touch_set _ g 3 _) (fun _ _ e => e)
      have HR := Lib.hid (DiskAt.wrote (fs := crashF ks 0 D.fs) h h2 h3 h4 h5 h6 h7 hA hT (Int.le_refl 0) (by decide))
      have HT := Lib.hid (Step.mk' h2 hT)
      clear h h4 hA hT hS e1 hlt
      go_wp2_with fail
      go_end0
      exact ⟨rfl, P', HR.out, Step.below HB1.out (HS.out.trans HT.out)⟩
end Go.Proofs.YtkjdfelmjanpcaaDoor
