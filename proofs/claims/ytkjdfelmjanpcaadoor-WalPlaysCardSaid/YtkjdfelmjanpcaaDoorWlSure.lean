/- virgatelaw07's cut; the walk of WalSure. Conditions: the world facts of Env. -/
import Derived.Test.YtkjdfelmjanpcaaDoorWlOp
namespace Go.Proofs.YtkjdfelmjanpcaaDoor
open Go.RowKit Go.Maps
set_option maxRecDepth 100000 in
theorem cut7_any (v : Value) (xs : List Int) (w : World) (h : Sees w v xs) : Calls Tryd.prog 22 #[v] w fun e w' => ∃ ao c, e = .returned (.slice ao (xs.take 40).length c) ∧ Sees w (.slice ao (xs.take 40).length c) (xs.take 40) ∧ (∀ d, (Value.slice ao (xs.take 40).length c).ownBlock = some d → v.ownBlock = some d) ∧ w = w' := by
  have HH := Lib.hid h
  obtain ⟨ao, c, rfl, hlc, -⟩ := id h
  clear h
  by_cases h40 : xs.length ≤ 40
  · have d1 : decide (40 < (xs.length : Int)) = false := by simp; omega
    go_enter Tryd.func22, Tryd.ntmps22
    go_wp2_with fail
    go_ret
    rw [List.take_of_length_le h40]
    exact ⟨ao, c, rfl, HH.out, fun d hd => hd, rfl⟩
  · have d1 : decide (40 < (xs.length : Int)) = true := by simp; omega
    have hlt : (xs.take 40).length = 40 := by rw [List.length_take]; omega
    have HS := Lib.hid (sees_head HH.out (n := 40) (by omega))
    have e5 : (40 : Int) ≤ (c : Int) := by omega
    have e6 : 40 ≤ c := by omega
    have HL := Lib.hid hlt
    clear hlt
    go_enter Tryd.func22, Tryd.ntmps22
    go_wp2_with fail
    go_ret
    rw [HL.out]
    exact ⟨ao, c, rfl, HS.out, (fun d hd => by
      cases ao with
      | none => cases hd
      | some a => exact hd), rfl⟩
/-- The disk of a log whose records ps are all sure. -/
def SureSt (ps : List (List Int)) (D : DSt) : Prop := D.lost = false ∧ ((ps = [] ∧ D.fs = []) ∨ (ps ≠ [] ∧ D.fs = [([119], (flatF ps, (flatF ps).length))]))
theorem SureSt.app {ps : List (List Int)} {D : DSt} (h : SureSt ps D) (F : List Int) : appD D nW.data.toList F = (errW D.lost D.armed D.left, ⟨[([119], (flatF ps ++ F, (flatF ps).length))], lost1 D.lost D.armed D.left, D.armed, left1 D.lost D.armed D.left⟩) := by
  obtain ⟨hl, ⟨rfl, hf⟩ | ⟨_, hf⟩⟩ := h
  · unfold appD
    rw [if_neg (by rw [hl]; simp), hf]
    rfl
  · unfold appD
    rw [if_neg (by rw [hl]; simp), hf]
    rfl
theorem SureSt.small {ps : List (List Int)} {D : DSt} (h : SureSt ps D) (hg : goodP ps) (_ : ps.length ≤ 16) : D.fs.length ≤ 1000 ∧ ((getE D.fs nW.data.toList).getD ([], 0)).1.length ≤ 1000000 ∧ (flatF ps).length ≤ 4000 := by
  have h1 := flatF_len ps hg
  obtain ⟨_, ⟨rfl, hf⟩ | ⟨_, hf⟩⟩ := h
  · rw [hf]; exact ⟨Nat.zero_le _, Nat.zero_le _, by omega⟩
  · rw [hf]
    refine ⟨by show 1 ≤ 1000; omega, ?_, by omega⟩
    show (flatF ps).length ≤ _
    omega
/-- One record more: it is there and sure, or the disk is lost at it. -/
theorem sure_step {ps : List (List Int)} {D : DSt} (h : SureSt ps D) {p : List Int} (hp : p ≠ []) :
    (∃ D', walA ⟨D, (flatF ps).length, false⟩ nW.data.toList p = (0, ⟨D', (flatF (ps ++ [p])).length, false⟩) ∧ SureSt (ps ++ [p]) D') ∨
    ∃ D', walA ⟨D, (flatF ps).length, false⟩ nW.data.toList p = (12, ⟨D', 0, true⟩) ∧ D'.fs = [([119], (flatF (ps ++ [p]), (flatF ps).length))] := by
  have ha := h.app (frameL p)
  have hF : flatF (ps ++ [p]) = flatF ps ++ frameL p := flatF_snoc ps p
  have hFl : (flatF (ps ++ [p])).length = (flatF ps).length + (8 + p.length) := by rw [hF, List.length_append, frameL_len]
  obtain ⟨l1, hl1⟩ : ∃ l1, l1 = lost1 D.lost D.armed D.left := ⟨_, rfl⟩
  have hE : errW D.lost D.armed D.left = if l1 then 12 else 0 := by unfold errW; rw [hl1]
  rw [← hl1, hE] at ha
  unfold walA
  rw [if_neg (by simp), if_neg hp]
  unfold writeL
  simp only []
  rw [ha]
  cases l1 with
  | true =>
    right
    refine ⟨⟨[([119], (flatF ps ++ frameL p, (flatF ps).length))], true, D.armed, left1 D.lost D.armed D.left⟩, ?_, by rw [hF]⟩
    simp only [if_true, show ((12 : Int) = 0) = False from by simp, if_false]
  | false =>
    simp only [Bool.false_eq_true, if_false, if_true]
    have hg : getE [(([119] : List UInt8), (flatF ps ++ frameL p, (flatF ps).length))] nW.data.toList = some (flatF ps ++ frameL p, (flatF ps).length) := rfl
    unfold syncD
    simp only []
    rw [hg]
    simp only []
    by_cases h2 : lost1 false D.armed (left1 D.lost D.armed D.left) = true
    · right
      refine ⟨⟨[([119], (flatF ps ++ frameL p, (flatF ps).length))], true, D.armed, left1 false D.armed (left1 D.lost D.armed D.left)⟩, ?_, by rw [hF]⟩
      rw [if_pos h2]
      simp only []
      rw [if_neg (by decide)]
    · left
      refine ⟨⟨[([119], (flatF (ps ++ [p]), (flatF (ps ++ [p])).length))], false, D.armed, left1 false D.armed (left1 D.lost D.armed D.left)⟩, ?_, rfl, Or.inr ⟨by simp, rfl⟩⟩
      have hl2 : (flatF ps ++ frameL p).length = (flatF ps).length + (8 + p.length) := by rw [← hF]; exact hFl
      rw [if_neg h2]
      simp only [if_true]
      rw [hF, hl2]
      rfl
/-- A disk whose only file is w, all of it sure, is opened well. -/
theorem settle_ok {T : List Int} {n : Nat} (_ : n ≤ T.length) : ∃ D', settleD (wD T T.length false false) nW.data.toList T.length n = (0, D') := by
  unfold settleD
  have e : getE (wD T T.length false false).fs nW.data.toList = some (T, T.length) := rfl
  by_cases h1 : n < T.length
  · rw [if_pos h1]
    unfold cutD
    rw [e]
    simp only []
    rw [if_neg (by omega), if_neg (wlost T T.length)]
    exact ⟨_, rfl⟩
  · rw [if_neg h1, e]
    simp only [Option.getD_some]
    rw [if_neg (Nat.lt_irrefl _)]
    exact ⟨_, rfl⟩
/-- Behind a crash the file is some of its bytes, all of them sure. -/
theorem crash_one (xs : List Int) (su : Nat) (lost armed : Bool) (left : Int) (ks : List Int) (h : su ≤ xs.length) : ∃ c, su ≤ c ∧ c ≤ xs.length ∧ crashD ⟨[([119], (xs, su))], lost, armed, left⟩ ks = wD (xs.take c) (xs.take c).length false false := by
  have hc := crashN_le ks 0 (u := (xs, su)) h
  refine ⟨crashN ks 0 (xs, su), hc.1, hc.2, ?_⟩
  have hl : (xs.take (crashN ks 0 (xs, su))).length = crashN ks 0 (xs, su) := by rw [List.length_take]; exact Nat.min_eq_left hc.2
  rw [hl]
  rfl
/-- The records of frames, of which the last one may be cut off. -/
theorem torn_last {ps : List (List Int)} {p : List Int} (hg : goodP (ps ++ [p])) {c : Nat} (h1 : (flatF ps).length ≤ c) (h2 : c ≤ (flatF (ps ++ [p])).length) : ∃ ls n x, (ls = ps ∨ ls = ps ++ [p]) ∧ AllIs ls ((flatF (ps ++ [p])).take c) n x := by
  have hF : flatF (ps ++ [p]) = flatF ps ++ frameL p := flatF_snoc ps p
  have hgp := hg p (by simp)
  have hg0 : goodP ps := fun q hq => hg q (by simp [hq])
  by_cases hc : c = (flatF (ps ++ [p])).length
  · refine ⟨ps ++ [p], (flatF (ps ++ [p])).length, 6, Or.inr rfl, ?_⟩
    rw [hc, List.take_length]
    exact flatF_all _ hg
  · have hlen : (flatF (ps ++ [p])).length = (flatF ps).length + (frameL p).length := by rw [hF, List.length_append]
    have et : (flatF (ps ++ [p])).take c = flatF ps ++ (frameL p ++ []).take (c - (flatF ps).length) := by
      rw [hF, List.append_nil, List.take_append, List.take_of_length_le h1]
    rw [et]
    refine ⟨ps, (flatF ps).length, if c - (flatF ps).length = 0 then 6 else 4, Or.inl rfl, flatF_steps ps _ hg0, ?_, by split <;> decide⟩
    rw [List.drop_left]
    exact next_torn hgp.2.1 (by omega) (by omega)
theorem crashD_of (D : DSt) (ks : List Int) {xs : List Int} {su : Nat} (h : D.fs = [([119], (xs, su))]) : crashD D ks = crashD ⟨[([119], (xs, su))], D.lost, D.armed, D.left⟩ ks := by unfold crashD; rw [h]
/-- What Open asks of a disk behind a crash. -/
def OpensAs (C : DSt) (LS : List (List Int)) : Prop := ∃ xs er n x D', readD C nW.data.toList = (xs, er) ∧ er ≠ 12 ∧ AllIs LS xs n x ∧ settleD C nW.data.toList xs.length n = (0, D') ∧ C.fs.length ≤ 1000 ∧ ∀ f ∈ C.fs, f.2.1.length ≤ 100000
theorem opens_cut {T : List Int} {LS : List (List Int)} {n x : Nat} (ha : AllIs LS T n x) (hT : T.length ≤ 100000) : OpensAs (wD T T.length false false) LS := by
  obtain ⟨D', hs⟩ := settle_ok (T := T) (n := n) (Steps.room _ _ _ ha.1).2
  exact ⟨T, 0, n, x, D', wo2, by decide, ha, hs, by show 1 ≤ 1000; omega, wsmall _ _ _ _ hT⟩
theorem neqNilS (ao : Option Addr) (n c : Nat) (W : World) : (binOp .neq 32 (.slice ao n c) (.slice none 0 0)).run Tryd.prog W = .ok (.bool ao.isSome) W := by cases ao <;> kernel_rfl
theorem sure_crashA {ps : List (List Int)} {D : DSt} (h : SureSt ps D) (hg : goodP ps) (hn : ps.length ≤ 16) (ks : List Int) : OpensAs (crashD D ks) ps := by
  have hl := (h.small hg hn).2.2
  obtain ⟨_, ⟨rfl, hf⟩ | ⟨_, hf⟩⟩ := h
  · have e : crashD D ks = ⟨[], false, false, 0⟩ := by unfold crashD; rw [hf]; rfl
    rw [e]
    exact ⟨[], 6, 0, 6, _, wr0, by decide, wa0, ws0, by decide, fun f hf => by cases hf⟩
  · rw [crashD_of D ks hf]
    obtain ⟨c, h1, h2, e⟩ := crash_one (flatF ps) (flatF ps).length D.lost D.armed D.left ks (Nat.le_refl _)
    rw [e]
    obtain rfl : c = (flatF ps).length := by omega
    rw [List.take_length]
    exact opens_cut (flatF_all ps hg) (by omega)
theorem sure_crashB {ps : List (List Int)} {p : List Int} {D : DSt} (hf : D.fs = [([119], (flatF (ps ++ [p]), (flatF ps).length))]) (hg : goodP (ps ++ [p])) (_ : ps.length ≤ 16) (ks : List Int) : OpensAs (crashD D ks) ps ∨ OpensAs (crashD D ks) (ps ++ [p]) := by
  have hl := flatF_len _ hg
  rw [List.length_append, List.length_singleton] at hl
  have hle : (flatF ps).length ≤ (flatF (ps ++ [p])).length := by rw [flatF_snoc, List.length_append]; omega
  rw [crashD_of D ks hf]
  obtain ⟨c, h1, h2, e⟩ := crash_one (flatF (ps ++ [p])) (flatF ps).length D.lost D.armed D.left ks hle
  rw [e]
  obtain ⟨ls, n, x, hls, ha⟩ := torn_last hg h1 h2
  have hT : ((flatF (ps ++ [p])).take c).length ≤ 100000 := by rw [List.length_take]; omega
  rcases hls with rfl | rfl
  · exact Or.inl (opens_cut ha hT)
  · exact Or.inr (opens_cut ha hT)
set_option linter.unusedVariables false in
set_option linter.unusedSimpArgs false in
set_option maxRecDepth 100000 in
set_option maxHeartbeats 16000000 in
theorem lawSure (w : World) (b : Value) (ls : List (List Int)) (n0 : Int) (kv : Value) (ks : List Int) (h : ArgRow w b ls) (n1 : 0 ≤ n0) (n2 : n0 ≤ 255) (hk : SeesU w kv ks) (hkb : ∀ x ∈ ks, 0 ≤ x ∧ x < 65536) (_ : ks.length ≤ maxLen) (hE : Env w) :
    Calls Tryd.prog 4 #[b, .int .u8 n0, kv] w fun e w' => e = .returned (.bool true) ∧ Below w.heap.size w w' := by
  obtain ⟨⟨ao, c, rfl, hlc, hnil, hc⟩, hok, hm⟩ := h
  unfold maxLen at hm
  have HC0 := Lib.hid (And.intro hnil hc)
  have HO := Lib.hid hok
  have hkB : ks ≠ [] → ∀ d, kv.ownBlock = some d → d < w.heap.size := fun h0 d hd => by
    obtain ⟨ko', kc', e1, _, _, e2⟩ := hk
    subst e1
    cases ko' with
    | none => cases hd
    | some ka =>
      have h2 := cell_lt8 (e2 ka rfl 0 (List.length_pos_iff.2 h0))
      rw [add_block] at h2
      cases hd
      omega
  have HK := Lib.hid (And.intro hk (And.intro hkb hkB))
  clear hnil hc hok hk hkb hkB
  have s1 : IntKind.i64.wrap n0 = n0 := IntWalk.i64_in _ (by omega)
  have s2 : Int.tmod n0 40 = n0 % 40 := Int.tmod_eq_emod_of_nonneg n1
  obtain ⟨A, hA⟩ : ∃ A, A = n0 % 40 := ⟨_, rfl⟩
  have hA0 : 0 ≤ A ∧ A < 40 := by omega
  rw [← hA] at s2
  have s3 : n0 % 40 = A := hA.symm
  clear hA
  go_enter Tryd.func4, Tryd.ntmps4
  go_wp2_with fail
  refine (new_disk w).mono ?_; rintro e w1 ⟨g, rfl, hD1, hg, hb1⟩
  have hz1 := hb1.size
  have HO1 := Lib.hid (open_ok g _ _ _ nW [] 6 [] 0 6 w1 hD1 (by decide) (by decide) (by decide) (fun f hf => by cases hf) (hE.below hb1) wr0 (by decide) wa0 ws0)
  clear hD1
  go_wp2_with fail
  refine HO1.out.mono ?_; rintro e w2 ⟨P2, l, rv, rfl, hD2, hl2, -, hPl2, hgl2, hS2⟩
  obtain ⟨hP2, hb2⟩ := hS2.ge (n := w.heap.size) (fun i e => by rw [e]; exact hg) hz1
  have hlB : w.heap.size ≤ l := by omega
  have hB2 := hb1.trans hb2
  have HDE := Lib.hid (ldead_any l g nW 0 false w2 hl2)
  have HL2 := Lib.hid hl2
  clear hl2 hS2 hb2
  go_wp2_with fail
  refine HDE.out.mono ?_; rintro e w' ⟨rfl, rfl⟩
  go_wp2_with fail
  refine (arm_any g _ _ A _ hD2 (by omega) (by omega)).mono ?_; rintro e w3 ⟨rfl, hD3, hT3⟩
  have hl3 := HL2.out.keep hT3 hPl2
  have hB3 : Below w.heap.size w w3 := hB2.trans (hT3.below hB2.size hP2)
  clear hD2 hT3 hb1 s1 s2 s3 hB2
  go_wp2_with fail
  go_loopw [11, 12, 39] (fun dv lv j wr => ∃ i : Nat, j = .int .i64 i ∧ i ≤ ls.length ∧ lv = .slice none 0 0 ∧ ∃ ps P D, goodP ps ∧ (∀ p ∈ ps, p.length ≤ 40) ∧ ps.length ≤ 15 ∧ ps.length ≤ i ∧ DiskAt wr g P D ∧ LogIs 83 wr l g nW (flatF ps).length false ∧ ¬ P l ∧ (∀ x, P x → w.heap.size ≤ x) ∧ Below w.heap.size w wr ∧
    RowZ (fun d => d < w.heap.size) wr w.heap.size dv ps ∧ (∀ d, dv.ownBlock = some d → ¬ P d ∧ d ≠ l) ∧ SureSt ps D) (fun _ _ j _ => ls.length - (intOf j).toNat)
  case atStart => exact ⟨0, rfl, Nat.zero_le _, rfl, [], P2, _, (fun p hp => by cases hp), (fun p hp => by cases hp), Nat.zero_le _, Nat.zero_le _, hD3, hl3, hPl2, hP2, hB3, RowZ.nil _ _ _, (fun d hd => by cases hd), rfl, Or.inl ⟨rfl, rfl⟩⟩
  case round =>
    obtain ⟨i, rfl, hi, rfl, ps, P, D, hgp, hp40, hp15, hpi, hD, hl, hPl, hP, hB, hrow, hrb, hst⟩ := hrel
    have hlltA := heap_lt hl
    by_cases hlt : i < ls.length
    · obtain ⟨a, rfl⟩ : ∃ a, ao = some a := by
        cases ao with
        | none => rw [HC0.out.1 rfl] at hlt; simp at hlt
        | some a => exact ⟨a, rfl⟩
      obtain ⟨u, hcu, hsu⟩ := HC0.out.2 a rfl i hlt
      have hcell : wr.cell? (a.add i) = some u := by rw [hB.cell (cell_lt8 hcu)]; exact hcu
      have hmem : ls.getD i [] ∈ ls := by simp [List.getD, hlt]
      have ho1 := (HO.out _ hmem).1
      obtain ⟨X, hX⟩ : ∃ X, X = ls.getD i [] := ⟨_, rfl⟩
      rw [← hX] at hsu ho1
      have HU : Hid (X ≠ [] → ∀ d, u.ownBlock = some d → d < w.heap.size) := Lib.hid (by
        obtain ⟨bo, cb, rfl, _, _, hcb⟩ := hsu
        intro hne d hd
        cases bo with
        | none => cases hd
        | some b0 =>
          have := cell_lt8 (hcb b0 rfl 0 (List.length_pos_iff.2 hne))
          rw [add_block] at this
          cases hd
          exact this)
      have b0 : (0 : Int) ≤ (i : Int) := by omega
      have b1 : (i : Int) < (ls.length : Int) := by omega
      obtain ⟨uo, uc, rfl, -⟩ := id hsu
      have HCU := Lib.hid (cut7_any _ X wr (hsu.keep hB))
      have HT0 := Lib.hid (ho1.take 40)
      have HTl : Hid ((X.take 40).length ≤ 40) := Lib.hid (by rw [List.length_take]; omega)
      have HXT : Hid (X.take 40 ≠ [] → X ≠ []) := Lib.hid (by rintro h rfl; exact h List.take_nil)
      obtain ⟨T, hT⟩ : ∃ T, T = X.take 40 := ⟨_, rfl⟩
      rw [← hT] at HCU HT0 HTl HXT
      have HREL := Lib.hid (And.intro hgp (And.intro hp40 (And.intro hD (And.intro hl (And.intro hPl (And.intro hP (And.intro hB (And.intro hrow (And.intro hrb hst)))))))))
      clear hX hT hcu hsu hmem ho1 hgp hp40 hD hl hPl hP hB hrow hrb hst
      go_wp2_with fail
      refine HCU.out.mono ?_; rintro e w' ⟨to, tc, rfl, hsT, htd, rfl⟩
      by_cases h15 : i < 15
      · have d0 : decide (15 ≤ (i : Int)) = false := by simp; omega
        by_cases hT0 : T = []
        · subst hT0
          have d1 : ((([] : List Int).length : Int) == 0) = true := rfl
          obtain ⟨hgp, hp40, hD, hl, hPl, hP, hB, hrow, hrb, hst⟩ := HREL.out
          clear hsT
          go_wp2_with fail
          go_roundw
          case rel => exact ⟨i + 1, by go_num, by omega, rfl, ps, P, D, hgp, hp40, hp15, by omega, hD, hl, hPl, hP, hB, hrow, hrb, hst⟩
          case measure => simp [intOf]; omega
        · have hTp : 1 ≤ T.length := List.length_pos_iff.2 hT0
          have d1 : ((T.length : Int) == 0) = false := by simp; omega
          have d2 : (T.length == 0) = false := by simp; omega
          obtain ⟨hgp, hp40, hD, hl, hPl, hP, hB, hrow, hrb, hst⟩ := HREL.out
          obtain ⟨k1, k2, k3⟩ := hst.small hgp (by omega)
          have hT40 := HTl.out
          have HAP := Lib.hid (lappend_any l g P ⟨D, (flatF ps).length, false⟩ nW _ T wr hD hl hPl (by decide) (by decide) k1 (by show (flatF ps).length ≤ _; omega) k2 hsT HT0.out (by omega) (hE.below hB))
          obtain ⟨ta, rfl⟩ : ∃ ta, to = some ta := by
            obtain ⟨to', tc', e, _, hn, _⟩ := hsT
            obtain rfl : to = to' := by injection e
            cases to with
            | none => exact absurd (hn rfl) hT0
            | some ta => exact ⟨ta, rfl⟩
          have hgpn : goodP (ps ++ [T]) := goodP_snoc hgp ⟨HT0.out, hTp, by omega⟩
          have htB : ∀ d, (Value.slice (some ta) T.length tc).ownBlock = some d → d < w.heap.size := fun d hd => HU.out (HXT.out hT0) d (htd d hd)
          have HSTP := Lib.hid (sure_step hst hT0)
          have HSI := Lib.hid (And.intro hsT (And.intro htB hgpn))
          clear hgp hp40 hD hl hPl hP hB hrow hrb hst k1 k2 hsT htB hgpn htd
          rcases HSTP.out with ⟨D', hw, hst'⟩ | ⟨D', hw, hfs'⟩
          · rw [hw] at HAP
            dsimp only at HAP
            have HST' := Lib.hid hst'
            clear hw hst'
            go_wp2_with fail
            refine HAP.out.mono ?_; rintro e w4 ⟨P4, rfl, hD4, hl4, hS4⟩
            obtain ⟨hgp, hp40, hD, hl, hPl, hP, hB, hrow, hrb, hst⟩ := HREL.out
            obtain ⟨hP4, hb4⟩ := hS4.ge (n := w.heap.size) hP hlB hB.size
            have hPl4 := hS4.not hlltA hPl
            have hB4 := hB.trans hb4
            have hrow4 : RowZ (fun d => d < w.heap.size) w4 w.heap.size u11 ps := hrow.stay1 hS4.1.2.2.2.1 (fun d hd hlt => hS4.1.2.2.2.2 d hlt (fun hp => by
              rcases hd with hd | hd
              · have := hrb d hd
                exact hp.elim this.1 this.2
              · rcases hp with hp | hp
                · have := hP d hp; omega
                · omega))
            have hrb4 : ∀ d, u11.ownBlock = some d → ¬ P4 d ∧ d ≠ l := fun d hd => ⟨fun hp => (hS4.2 d hp).elim (hrb d hd).1 (fun e => by have := (hrow.lt hd).2; omega), (hrb d hd).2⟩
            have hsT4 := (HSI.out.1).keep' hb4 HSI.out.2.1
            have hl4l := heap_lt hl4
            clear hS4 hD hl hPl hP hrow hrb hst hB
            go_wp2_with (first
              | (at_builtin; refine wpList_pushZ (fun d => d < w.heap.size) rfl (.tmp 72) (.tmp 74) rfl w.heap.size u11 (.slice (some ta) T.length tc) ps T rfl rfl hrow4 hsT4 (fun d hd => ⟨HSI.out.2.1 d hd, Nat.lt_of_lt_of_le (HSI.out.2.1 d hd) hB4.size, fun e => Nat.not_lt.2 (hrow4.lt e).1 (HSI.out.2.1 d hd)⟩) (by omega) hB4.size ?_; intro v2 w5 hrow5 hg5 hb5 hat)
              | fail)
            have hT5 : Touch (fun k => u11.ownBlock = some k) w4 w5 := Touch.of_grown hg5 (fun k hk => hk)
            go_roundw
            case rel =>
              refine ⟨i + 1, by go_num, by omega, rfl, ps ++ [T], P4, D', HSI.out.2.2, ?_, by rw [List.length_append, List.length_singleton]; omega, by rw [List.length_append, List.length_singleton]; omega, hD4.keep hT5 (fun d hd e => (hrb4 d e).1 hd), hl4.keep hT5 (fun e => (hrb4 l e).2 rfl), hPl4, hP4, hB4.trans hb5, hrow5, ?_, HST'.out⟩
              · intro q hq
                rcases List.mem_append.1 hq with hq | hq
                · exact hp40 q hq
                · obtain rfl := List.mem_singleton.1 hq
                  exact hT40
              · intro d hd
                rcases hat with e | e
                · exact hrb4 d (e.symm.trans hd)
                · rw [hd] at e
                  obtain rfl := Option.some.inj e
                  exact ⟨fun hp => by have := hD4.lt hp; omega, by omega⟩
            case measure => simp [intOf]; omega
          · rw [hw] at HAP
            dsimp only at HAP
            have HFS := Lib.hid hfs'
            clear hw hfs'
            go_wp2_with fail
            refine HAP.out.mono ?_; rintro e w4 ⟨P4, rfl, hD4, hl4, hS4⟩
            obtain ⟨hgp, hp40, hD, hl, hPl, hP, hB, hrow, hrb, hst⟩ := HREL.out
            obtain ⟨hP4, hb4⟩ := hS4.ge (n := w.heap.size) hP hlB hB.size
            have hPl4 := hS4.not hlltA hPl
            have hB4 := hB.trans hb4
            have hrow4 : RowZ (fun d => d < w.heap.size) w4 w.heap.size u11 ps := hrow.stay1 hS4.1.2.2.2.1 (fun d hd hlt => hS4.1.2.2.2.2 d hlt (fun hp => by
              rcases hd with hd | hd
              · have := hrb d hd
                exact hp.elim this.1 this.2
              · rcases hp with hp | hp
                · have := hP d hp; omega
                · omega))
            have hrb4 : ∀ d, u11.ownBlock = some d → ¬ P4 d ∧ d ≠ l := fun d hd => ⟨fun hp => (hS4.2 d hp).elim (hrb d hd).1 (fun e => by have := (hrow.lt hd).2; omega), (hrb d hd).2⟩
            have hsT4 := (HSI.out.1).keep' hb4 HSI.out.2.1
            have HDE4 := Lib.hid (ldead_any l g nW 0 true w4 hl4)
            have hfl : D'.fs.length ≤ 1000 := by rw [HFS.out]; show 1 ≤ 1000; omega
            have hfb : (flatF (ps ++ [T])).length ≤ 4000 := by
              have := flatF_len _ HSI.out.2.2
              rw [List.length_append, List.length_singleton] at this
              omega
            have HA4 := Lib.hid (lappend_any l g P4 ⟨D', 0, true⟩ nW _ T w4 hD4 hl4 hPl4 (by decide) (by decide) hfl (Nat.zero_le _) (by rw [HFS.out]; show (flatF (ps ++ [T])).length ≤ _; omega) hsT4 HT0.out (by omega) (hE.below hB4))
            rw [show walA ⟨D', 0, true⟩ nW.data.toList T = (12, ⟨D', 0, true⟩) from if_pos rfl] at HA4
            dsimp only at HA4
            have HR4 := Lib.hid (And.intro hrow4 hrb4)
            have HPP := Lib.hid (And.intro hP4 (And.intro hB4 (And.intro hPl4 (heap_lt hl4))))
            clear hS4 hD hl hPl hP hrow hrb hst hB hrow4 hrb4 hD4 hl4 hP4 hB4 hPl4 hsT4 hb4
            go_wp2_with fail
            refine HDE4.out.mono ?_; rintro e w' ⟨rfl, rfl⟩
            go_wp2_with fail
            refine HA4.out.mono ?_; rintro e w5 ⟨P5, rfl, hD5, -, hS5⟩
            obtain ⟨hP4, hB4, hPl4, hl4l⟩ := HPP.out
            obtain ⟨hrow4, hrb4⟩ := HR4.out
            obtain ⟨hP5, hb5⟩ := hS5.ge (n := w.heap.size) hP4 hlB hB4.size
            have hB5 := hB4.trans hb5
            have hrow5 : RowZ (fun d => d < w.heap.size) w5 w.heap.size u11 ps := hrow4.stay1 hS5.1.2.2.2.1 (fun d hd hlt => hS5.1.2.2.2.2 d hlt (fun hp => by
              rcases hd with hd | hd
              · have := hrb4 d hd
                exact hp.elim this.1 this.2
              · rcases hp with hp | hp
                · have := hP4 d hp; omega
                · omega))
            have hrb5 : ∀ d, u11.ownBlock = some d → ¬ P5 d := fun d hd hp => (hS5.2 d hp).elim (hrb4 d hd).1 (fun e => by have := (hrow4.lt hd).2; omega)
            have HXX := Lib.hid (sure_crashB HFS.out HSI.out.2.2 (by omega) ks)
            have hsmall : D'.fs.length ≤ 1000 ∧ ∀ f ∈ D'.fs, f.1.length ≤ maxLen ∧ f.2.1.length ≤ 100000000000 := ⟨hfl, fun f hf => by
              rw [HFS.out] at hf
              obtain rfl := List.mem_singleton.1 hf
              exact ⟨by show 1 ≤ maxLen; unfold maxLen; omega, by show (flatF (ps ++ [T])).length ≤ _; omega⟩⟩
            clear hS5
            have hkX := HK.out.1.keep' (w' := w5) (fun h0 d hd hlt => hB5.block d hlt)
            have HC := Lib.hid (crash_any g P5 D' kv ks w5 hD5 (by omega) hsmall.2 hkX HK.out.2.1 (fun h0 d hd hp => by have h1 := HK.out.2.2 h0 d hd; have h2 := hP5 d hp; omega))
            obtain ⟨CD, hCD⟩ : ∃ CD, CD = crashD D' ks := ⟨_, rfl⟩
            rw [← hCD] at HC HXX
            have HR0 := Lib.hid (And.intro hrow5 (And.intro hrb5 (And.intro hB5 hP5)))
            clear hCD hkX hD5 hrow5 hrb5 hB5 hP5 hsmall
            go_wp2_with fail
            refine HC.out.mono ?_; rintro e w6 ⟨P6, rfl, hD6, hS6⟩
            obtain ⟨hrow0, hrb0, hB0, hP0⟩ := HR0.out
            obtain ⟨hP6, hb6⟩ := hS6.ge (n := w.heap.size) hP0 hB0.size
            have hB6 := hB0.trans hb6
            have hrow6 : RowZ (fun d => d < w.heap.size) w6 w.heap.size u11 ps := hrow0.stay1 hS6.1.2.2.2.1 (fun d hd hlt => hS6.1.2.2.2.2 d hlt (fun hp => by
              rcases hd with hd | hd
              · exact hrb0 d hd hp
              · have := hP0 d hp; omega))
            have hrb6 : ∀ d, u11.ownBlock = some d → ¬ P6 d := fun d hd hp => (hS6.2 d hp).elim (hrb0 d hd) (fun e => by have := (hrow0.lt hd).2; omega)
            have HR6 := Lib.hid (And.intro hrow6 (And.intro hrb6 (And.intro hB6 hP6)))
            have HD6 := Lib.hid hD6
            clear hrow0 hrb0 hB0 hP0 hS6 hb6 hrow6 hrb6 hB6 hP6 hD6
            rcases HXX.out with HX1 | HX1
            · have qn := neqNilS (some ta) T.length tc
              obtain ⟨xs, er, n, x, D'', hr, he, ha, hset, hn1, hall1⟩ := HX1
              have HO6 := Lib.hid (open_ok g P6 CD D'' nW xs er (ps) n x w6 HD6.out (by decide) (by decide) hn1 hall1 (hE.below HR6.out.2.2.1) hr he ha hset)
              clear hr he ha hset hn1 hall1
              go_wp2_with fail
              refine HO6.out.mono ?_; rintro e w7 ⟨P7, l7, v7, rfl, -, -, hrow7, -, -, hS7⟩
              obtain ⟨hrow6, hrb6, hB6, hP6⟩ := HR6.out
              have hgot := hrow7 w7 (Touch.refl _ _)
              have hb7 := (hS7.ge (n := w.heap.size) hP6 hB6.size).2
              have hB7 := hB6.trans hb7
              have hrow77 : RowZ (fun d => d < w.heap.size) w7 w.heap.size u11 ps := hrow6.stay1 hS7.1.2.2.2.1 (fun d hd hlt => hS7.1.2.2.2.2 d hlt (fun hp => by
                rcases hd with hd | hd
                · exact hrb6 d hd hp
                · have := hP6 d hp; omega))
              have hlt6 : ∀ d, u11.ownBlock = some d → d < w6.heap.size := fun d hd => (hrow6.lt hd).2
              obtain ⟨go, gc, hv7, -⟩ := id hgot.sees
              obtain ⟨dO, dc, hdv, -⟩ := id hrow77.sees
              subst hv7
              subst hdv
              have s9 : IntKind.i64.wrap ((ps.length : Int) + 1) = (ps.length : Int) + 1 := IntWalk.i64_in _ (by omega)
              have s8 : ((ps.length : Int) == (ps.length : Int) + 1) = false := by simp; omega
              have HSA := Lib.hid (same7_any _ _ (ps) w7 hgot.sees hrow77.sees (by omega))
              have HEA := Lib.hid (hE.below hB7)
              have HBA := Lib.hid hB7
              clear hrow7 hS7 hgot hrow77 hB7 hb7 hB6 hP6 hrow6 hrb6 hlt6
              go_wp2_with fail
              refine HSA.out.mono ?_; rintro e wy ⟨rfl, my, rfl⟩
              go_wp2_with fail
              refine (awake7_any ((w7).drewN my) (HEA.out.below (show Below (w7).heap.size (w7) ((w7).drewN my) from ⟨rfl, rfl, rfl, Nat.le_refl _, fun _ _ => rfl⟩))).mono ?_; rintro e wz ⟨rfl, hbz⟩
              go_wp2_with fail
              go_ret
              exact ⟨rfl, bel (bel HBA.out (show Below (w7).heap.size (w7) ((w7).drewN my) from ⟨rfl, rfl, rfl, Nat.le_refl _, fun _ _ => rfl⟩)) hbz⟩
            · have qn := neqNilS (some ta) T.length tc
              obtain ⟨xs, er, n, x, D'', hr, he, ha, hset, hn1, hall1⟩ := HX1
              have HO6 := Lib.hid (open_ok g P6 CD D'' nW xs er (ps ++ [T]) n x w6 HD6.out (by decide) (by decide) hn1 hall1 (hE.below HR6.out.2.2.1) hr he ha hset)
              clear hr he ha hset hn1 hall1
              go_wp2_with fail
              refine HO6.out.mono ?_; rintro e w7 ⟨P7, l7, v7, rfl, -, -, hrow7, -, -, hS7⟩
              obtain ⟨hrow6, hrb6, hB6, hP6⟩ := HR6.out
              have hgot := hrow7 w7 (Touch.refl _ _)
              have hb7 := (hS7.ge (n := w.heap.size) hP6 hB6.size).2
              have hB7 := hB6.trans hb7
              have hrow77 : RowZ (fun d => d < w.heap.size) w7 w.heap.size u11 ps := hrow6.stay1 hS7.1.2.2.2.1 (fun d hd hlt => hS7.1.2.2.2.2 d hlt (fun hp => by
                rcases hd with hd | hd
                · exact hrb6 d hd hp
                · have := hP6 d hp; omega))
              have hlt6 : ∀ d, u11.ownBlock = some d → d < w6.heap.size := fun d hd => (hrow6.lt hd).2
              obtain ⟨go, gc, hv7, -⟩ := id hgot.sees
              obtain ⟨dO, dc, hdv, -⟩ := id hrow77.sees
              subst hv7
              subst hdv
              have s9 : IntKind.i64.wrap ((ps.length : Int) + 1) = (ps.length : Int) + 1 := IntWalk.i64_in _ (by omega)
              have hlen9 : (ps ++ [T]).length = ps.length + 1 := by simp
              rw [hlen9]
              have hsT7 := (HSI.out.1).over HREL.out.2.2.2.2.2.2.1 hB7 HSI.out.2.1
              have HG7 := Lib.hid (And.intro hgot (And.intro hrow77 (And.intro hB7 hlt6)))
              clear hrow7 hS7 hgot hrow77 hB7 hb7 hB6 hP6 hrow6 hrb6 hlt6 hlen9
              go_wp2_with (first
                | (at_builtin; refine wpList_pushZ (fun d => d < w.heap.size) rfl (.tmp 98) (.tmp 100) rfl w.heap.size (.slice dO ps.length dc) (.slice (some ta) T.length tc) ps T rfl rfl HG7.out.2.1 hsT7 (fun d hd => ⟨HSI.out.2.1 d hd, Nat.lt_of_lt_of_le (HSI.out.2.1 d hd) HG7.out.2.2.1.size, fun e => Nat.not_lt.2 (HG7.out.2.1.lt e).1 (HSI.out.2.1 d hd)⟩) (by omega) HG7.out.2.2.1.size ?_; intro v8 w8 hrow8 hg8 hb8 hat8)
                | fail)
              have hgot8 : SeesRow w8 (.slice go (ps.length + 1) gc) (ps ++ [T]) := by
                have h1 := HG7.out.1
                rw [show (ps ++ [T]).length = ps.length + 1 from by simp] at h1
                exact RowZ.sees (RowN.stay h1 hg8.size (fun d h2 h3 => hg8.block d h3 (fun e => by have := HG7.out.2.2.2 d e.symm; omega)))
              have hB8 := HG7.out.2.2.1.trans hb8
              have HSA := Lib.hid (same7_any _ _ (ps ++ [T]) w8 hgot8 hrow8.sees (by rw [List.length_append, List.length_singleton]; omega))
              have HEA := Lib.hid (hE.below hB8)
              have HBA := Lib.hid hB8
              clear hgot8 hrow8 hB8 hg8 hb8
              go_wp2_with fail
              refine HSA.out.mono ?_; rintro e wy ⟨rfl, my, rfl⟩
              go_wp2_with fail
              refine (awake7_any ((w8).drewN my) (HEA.out.below (show Below (w8).heap.size (w8) ((w8).drewN my) from ⟨rfl, rfl, rfl, Nat.le_refl _, fun _ _ => rfl⟩))).mono ?_; rintro e wz ⟨rfl, hbz⟩
              go_wp2_with fail
              go_ret
              exact ⟨rfl, bel (bel HBA.out (show Below (w8).heap.size (w8) ((w8).drewN my) from ⟨rfl, rfl, rfl, Nat.le_refl _, fun _ _ => rfl⟩)) hbz⟩
      · have d0 : decide (15 ≤ (i : Int)) = true := by simp; omega
        obtain ⟨hgp, hp40, hD, hl, hPl, hP, hB, hrow, hrb, hst⟩ := HREL.out
        clear hsT
        go_wp2_with fail
        go_roundw
        case rel => exact ⟨i + 1, by go_num, by omega, rfl, ps, P, D, hgp, hp40, hp15, by omega, hD, hl, hPl, hP, hB, hrow, hrb, hst⟩
        case measure => simp [intOf]; omega
    · obtain rfl : i = ls.length := by omega
      have hrb' : ∀ d, u11.ownBlock = some d → ¬ P d := fun d hd => (hrb d hd).1
      have HXX := Lib.hid (sure_crashA hst hgp (by omega) ks)
      have hsmall : D.fs.length ≤ 1000 ∧ ∀ f ∈ D.fs, f.1.length ≤ maxLen ∧ f.2.1.length ≤ 100000000000 := ⟨(hst.small hgp (by omega)).1, fun f hf => by
        have h3 := (hst.small hgp (by omega)).2.2
        obtain ⟨_, ⟨rfl, hf0⟩ | ⟨_, hf0⟩⟩ := hst
        · rw [hf0] at hf; cases hf
        · rw [hf0] at hf
          obtain rfl := List.mem_singleton.1 hf
          exact ⟨by show 1 ≤ maxLen; unfold maxLen; omega, by show (flatF ps).length ≤ _; omega⟩⟩
      clear hl hPl hst hgp hp40 hrb
      have hkX := HK.out.1.keep' (w' := wr) (fun h0 d hd hlt => hB.block d hlt)
      have HC := Lib.hid (crash_any g P D kv ks wr hD (by omega) hsmall.2 hkX HK.out.2.1 (fun h0 d hd hp => by have h1 := HK.out.2.2 h0 d hd; have h2 := hP d hp; omega))
      obtain ⟨CD, hCD⟩ : ∃ CD, CD = crashD D ks := ⟨_, rfl⟩
      rw [← hCD] at HC HXX
      have HR0 := Lib.hid (And.intro hrow (And.intro hrb' (And.intro hB hP)))
      clear hCD hkX hD hrow hrb' hB hP hsmall
      go_wp2_with fail
      refine HC.out.mono ?_; rintro e w6 ⟨P6, rfl, hD6, hS6⟩
      obtain ⟨hrow0, hrb0, hB0, hP0⟩ := HR0.out
      obtain ⟨hP6, hb6⟩ := hS6.ge (n := w.heap.size) hP0 hB0.size
      have hB6 := hB0.trans hb6
      have hrow6 : RowZ (fun d => d < w.heap.size) w6 w.heap.size u11 ps := hrow0.stay1 hS6.1.2.2.2.1 (fun d hd hlt => hS6.1.2.2.2.2 d hlt (fun hp => by
        rcases hd with hd | hd
        · exact hrb0 d hd hp
        · have := hP0 d hp; omega))
      have hrb6 : ∀ d, u11.ownBlock = some d → ¬ P6 d := fun d hd hp => (hS6.2 d hp).elim (hrb0 d hd) (fun e => by have := (hrow0.lt hd).2; omega)
      have HR6 := Lib.hid (And.intro hrow6 (And.intro hrb6 (And.intro hB6 hP6)))
      have HD6 := Lib.hid hD6
      clear hrow0 hrb0 hB0 hP0 hS6 hb6 hrow6 hrb6 hB6 hP6 hD6
      have HX1 := HXX.out
      have qn := neqNilS none 0 0
      obtain ⟨xs, er, n, x, D'', hr, he, ha, hset, hn1, hall1⟩ := HX1
      have HO6 := Lib.hid (open_ok g P6 CD D'' nW xs er (ps) n x w6 HD6.out (by decide) (by decide) hn1 hall1 (hE.below HR6.out.2.2.1) hr he ha hset)
      clear hr he ha hset hn1 hall1
      go_wp2_with fail
      refine HO6.out.mono ?_; rintro e w7 ⟨P7, l7, v7, rfl, -, -, hrow7, -, -, hS7⟩
      obtain ⟨hrow6, hrb6, hB6, hP6⟩ := HR6.out
      have hgot := hrow7 w7 (Touch.refl _ _)
      have hb7 := (hS7.ge (n := w.heap.size) hP6 hB6.size).2
      have hB7 := hB6.trans hb7
      have hrow77 : RowZ (fun d => d < w.heap.size) w7 w.heap.size u11 ps := hrow6.stay1 hS7.1.2.2.2.1 (fun d hd hlt => hS7.1.2.2.2.2 d hlt (fun hp => by
        rcases hd with hd | hd
        · exact hrb6 d hd hp
        · have := hP6 d hp; omega))
      have hlt6 : ∀ d, u11.ownBlock = some d → d < w6.heap.size := fun d hd => (hrow6.lt hd).2
      obtain ⟨go, gc, hv7, -⟩ := id hgot.sees
      obtain ⟨dO, dc, hdv, -⟩ := id hrow77.sees
      subst hv7
      subst hdv
      have HSA := Lib.hid (same7_any _ _ (ps) w7 hgot.sees hrow77.sees (by omega))
      have HEA := Lib.hid (hE.below hB7)
      have HBA := Lib.hid hB7
      clear hrow7 hS7 hgot hrow77 hB7 hb7 hB6 hP6 hrow6 hrb6 hlt6
      go_wp2_with fail
      refine HSA.out.mono ?_; rintro e wy ⟨rfl, my, rfl⟩
      go_wp2_with fail
      refine (awake7_any ((w7).drewN my) (HEA.out.below (show Below (w7).heap.size (w7) ((w7).drewN my) from ⟨rfl, rfl, rfl, Nat.le_refl _, fun _ _ => rfl⟩))).mono ?_; rintro e wz ⟨rfl, hbz⟩
      go_wp2_with fail
      go_ret
      exact ⟨rfl, bel (bel HBA.out (show Below (w7).heap.size (w7) ((w7).drewN my) from ⟨rfl, rfl, rfl, Nat.le_refl _, fun _ _ => rfl⟩)) hbz⟩
end Go.Proofs.YtkjdfelmjanpcaaDoor
