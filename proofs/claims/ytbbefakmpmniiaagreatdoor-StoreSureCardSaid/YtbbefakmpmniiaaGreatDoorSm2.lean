/- Package store: what its disk has while it stands, and when it is lost: what Open then tells. -/
import Derived.Test.YtbbefakmpmniiaaGreatDoorSm1
import Derived.Test.YtbbefakmpmniiaaGreatDoorKvGood
import Derived.Test.YtbbefakmpmniiaaGreatDoorSRs
namespace Go.Proofs.YtbbefakmpmniiaaGreatDoor
open Go.RowKit Go.Maps
/-- A state that some n writes with short values have made. -/
def KvG (n : Nat) (S : KV.KSt) : Prop := KV.KInv S n ∧ KV.KGood S
theorem KvG.zero : KvG 0 ⟨0, []⟩ := ⟨KV.KInv.zero, KV.KGood.zero⟩
theorem KvG.mono {n m : Nat} {S : KV.KSt} (h : KvG n S) (hm : n ≤ m) : KvG m S := by
  obtain ⟨⟨h1, h2, h3, h4, h5⟩, h6⟩ := h
  exact ⟨⟨h1, h2, by omega, by omega, h5⟩, h6⟩
theorem KvG.ofB {n : Nat} {S : KV.KSt} (h : KvG n S) : KV.ofB S.rev S.L = true := h.2.of h.1
theorem KvG.ok {n : Nat} {S : KV.KSt} (h : KvG n S) (hn : n ≤ 100) : KV.StOk S := by
  obtain ⟨⟨h1, h2, h3, h4, h5⟩, h6⟩ := h
  refine ⟨⟨h2, by omega⟩, by omega, fun p hp => ?_⟩
  obtain ⟨q1, q2, q3⟩ := h6 p hp
  have q5 := h5 p hp
  unfold KV.mayK at q1
  rw [decide_eq_true_eq] at q1
  exact ⟨by omega, by omega, by omega, by omega⟩
theorem KvG.len {n : Nat} {S : KV.KSt} (h : KvG n S) (hn : n ≤ 100) : (KV.stL S).length ≤ 79000 := by
  have h1 := KV.items_len (L := S.L) (fun p hp => (h.ok hn).2.2 p hp)
  have h4 := h.1.2.2.2.1
  unfold KV.stL
  rw [List.length_append, List.length_append, KV.put_length _ 8 rfl, KV.put_length _ 4 rfl]
  have e8 : ((8 : Int)).toNat = 8 := rfl
  have e4 : ((4 : Int)).toNat = 4 := rfl
  omega
/-- A state's own bytes are read as it. -/
theorem lst_put {S : KV.KSt} (hs : KV.StOk S) (ho : KV.ofB S.rev S.L = true) : lst (KV.stL S) = some S := by
  have e1 : rdU (some (KV.stL S)) 8 = (S.rev, some (putL (S.L.length : Int) 4 ++ S.L.flatMap KV.itemL)) := by
    unfold KV.stL
    rw [rd_put _ rfl, KV.numBE_put8 (by have := hs.1; omega)]
  have e2 : rdU (some (putL (S.L.length : Int) 4 ++ S.L.flatMap KV.itemL)) 4 = ((S.L.length : Int), some (S.L.flatMap KV.itemL)) := by
    rw [rd_put _ rfl, KV.numBE_put4' (by have := hs.2.1; omega)]
  have e3 : KV.rdRev (some (KV.stL S)) = S.rev := by
    unfold KV.rdRev
    rw [e1]
    exact IntWalk.i64_in _ (by have := hs.1; omega)
  have e4 : lstN (KV.stL S) = S.L.length := by
    unfold lstN
    rw [e1, e2]
    rfl
  have hf := KV.rdN_fwd S.L (fun p hp => ⟨⟨(hs.2.2 p hp).2.2.1, (hs.2.2 p hp).2.2.2⟩, by have := (hs.2.2 p hp).1; omega, by have := (hs.2.2 p hp).2.1; omega⟩) S.L.length (Nat.le_refl _)
  unfold lst
  rw [e4, e1]
  simp only []
  rw [e2]
  simp only []
  rw [hf, e3]
  simp only [List.take_length, List.drop_length, List.flatMap_nil]
  rw [ho]
  rfl
/-- What was saved. -/
def SnapSt (b : FO) (S0 : KV.KSt) : Prop := (b = none ∧ S0 = ⟨0, []⟩) ∨ (b = some (sealL (KV.stL S0), (sealL (KV.stL S0)).length) ∧ KvG 100 S0)
/-- Records that lead from one state to another one. -/
def ChainS (n : Nat) (S0 : KV.KSt) (ps : List (List Int)) (S : KV.KSt) : Prop := replayS S0 ps = (0, S) ∧ goodF ps ∧ ps.length ≤ n ∧ ∀ p ∈ ps, ∃ e, decE p = some e ∧ e.rev ≤ S.rev
def LogSt (a : FO) (ps : List (List Int)) : Prop := (a = none ∧ ps = []) ∨ a = some (flatF ps, (flatF ps).length)
/-- What files are those of a store that has the state S. -/
def ShapeS (n : Nat) (fs : List FEnt) (ps : List (List Int)) (S : KV.KSt) : Prop :=
  ∃ (S0 : KV.KSt) (a b c : FO), fs = fs3 a b c ∧ LogSt a ps ∧ SnapSt b S0 ∧ SpareOk c ∧ ChainS n S0 ps S
theorem LogSt.small {a : FO} {ps : List (List Int)} {n : Nat} (h : LogSt a ps) (hg : goodF ps) (hl : ps.length ≤ n) (hn : n ≤ 100) : ∀ u, a = some u → u.1.length ≤ 80000 := fun u hu => by
  have h1 := goodF_len ps hg
  rcases h with ⟨h, -⟩ | h
  · rw [h] at hu; cases hu
  · rw [h] at hu
    obtain rfl := Option.some.inj hu
    show (flatF ps).length ≤ _
    omega
theorem SnapSt.small {b : FO} {S0 : KV.KSt} (h : SnapSt b S0) : ∀ u, b = some u → u.1.length ≤ 80000 := fun u hu => by
  rcases h with ⟨h, -⟩ | ⟨h, hg⟩
  · rw [h] at hu; cases hu
  · rw [h] at hu
    obtain rfl := Option.some.inj hu
    show (sealL _).length ≤ _
    have := hg.len (by omega)
    rw [seal_len3]
    omega
theorem fs3_small {a b c : FO} (ha : ∀ u, a = some u → u.1.length ≤ 80000) (hb : ∀ u, b = some u → u.1.length ≤ 80000) (hc : ∀ u, c = some u → u.1.length ≤ 80000) : FsSmall 80000 (fs3 a b c) := fun f hf => by
  rcases (f3_mem hf).2 with h | h | h
  · exact ha _ h
  · exact hb _ h
  · exact hc _ h
theorem ShapeS.small {n : Nat} {fs : List FEnt} {ps : List (List Int)} {S : KV.KSt} (h : ShapeS n fs ps S) (hn : n ≤ 100) : fs.length ≤ 3 ∧ FsSmall 80000 fs ∧ ∀ f ∈ fs, f.1.length ≤ 5 := by
  obtain ⟨S0, a, b, c, rfl, h1, h2, h3, h4⟩ := h
  exact ⟨f3_len a b c, fs3_small (h1.small h4.2.1 h4.2.2.1 hn) h2.small (fun u hu => (h3 u hu).2), fun f hf => (f3_mem hf).1⟩
theorem chain_skip {S : KV.KSt} : ∀ {ps : List (List Int)}, (∀ p ∈ ps, ∃ e, decE p = some e ∧ e.rev ≤ S.rev) → replayS S ps = (0, S)
  | [], _ => by rw [replayS]
  | p :: ps, h => by
    obtain ⟨e, h1, h2⟩ := h p List.mem_cons_self
    rw [replayS, h1]
    simp only [if_pos h2]
    exact chain_skip (fun q hq => h q (List.mem_cons_of_mem _ hq))
theorem replay_snoc {S' : KV.KSt} {p : List Int} {e : KV.KEff} (hd : decE p = some e) (hr : ¬ e.rev ≤ S'.rev) (hm : KV.mayA S' e = true) : ∀ {ps : List (List Int)} {S0 : KV.KSt}, replayS S0 ps = (0, S') → replayS S0 (ps ++ [p]) = (0, KV.applyK S' e)
  | [], S0, h => by
    rw [replayS] at h
    have h2 : S0 = S' := (Prod.mk.inj h).2
    subst h2
    rw [List.nil_append, replayS, hd]
    simp only [if_neg hr, hm, if_true]
    rw [replayS]
  | q :: ps, S0, h => by
    rw [replayS] at h
    rw [List.cons_append, replayS]
    cases hq : decE q with
    | none => rw [hq] at h; exact absurd (Prod.mk.inj h).1 (by decide)
    | some f =>
      rw [hq] at h
      simp only [] at h ⊢
      by_cases h1 : f.rev ≤ S0.rev
      · rw [if_pos h1] at h ⊢
        exact replay_snoc hd hr hm h
      · rw [if_neg h1] at h ⊢
        by_cases h2 : KV.mayA S0 f = true
        · rw [if_pos h2] at h ⊢
          exact replay_snoc hd hr hm h
        · rw [if_neg h2] at h
          exact absurd (Prod.mk.inj h).1 (by decide)
/-- A disk that is there, with such files, is opened as that state; its log stays as it is. -/
theorem open_shape {n : Nat} {D : DSt} {ps : List (List Int)} {S : KV.KSt} (h : ShapeS n D.fs ps S) (hl : D.lost = false) :
    opS D = (0, S) ∧ recsOf (readD D nLog.data.toList).1 = ps ∧ AllIs ps (readD D nLog.data.toList).1 (flatF ps).length 6 ∧ settleD D nLog.data.toList (readD D nLog.data.toList).1.length (flatF ps).length = (0, D) := by
  obtain ⟨S0, a, b, c, hf, h1, h2, h3, h4, h5, h6, h7⟩ := h
  have hall := goodF_all ps h5
  have hrd : (readD D nLog.data.toList).1 = flatF ps := by
    unfold readD
    rw [kL_eq, hf, f3_L]
    rcases h1 with ⟨rfl, rfl⟩ | rfl
    · rfl
    · simp [hl]
  have hld : ldS D = (0, S0) := by
    rcases h2 with ⟨rfl, rfl⟩ | ⟨rfl, hg⟩
    · have hL : loadD D kN = ([], 6) := by
        have hr : readD D kN = ([], 6) := by unfold readD; rw [hf, f3_N]
        unfold loadD
        rw [hr]
        rfl
      unfold ldS
      rw [kN_eq, hL]
      rfl
    · have hL : loadD D kN = (KV.stL S0, 0) := by
        have hr : readD D kN = (sealL (KV.stL S0), 0) := by unfold readD; rw [hf, f3_N]; simp only []; rw [hl]; rfl
        unfold loadD
        rw [hr]
        simp only [if_true]
        rw [if_pos (whole_seal (KV.okB_state S0)), seal_len3]
        congr 1
        unfold sealL
        rw [show (KV.stL S0).length + 4 - 4 = (KV.stL S0).length from by omega, List.take_left]
      unfold ldS
      rw [kN_eq, hL]
      simp only []
      rw [if_neg (by decide), if_pos trivial, lst_put (hg.ok (by omega)) hg.ofB]
  have hrc : recsOf (readD D nLog.data.toList).1 = ps := by rw [hrd]; exact recsOf_eq hall
  refine ⟨?_, hrc, by rw [hrd]; exact hall, ?_⟩
  · unfold opS
    rw [hld, hrc]
    simp only [if_true]
    exact h4
  · rw [hrd]
    unfold settleD
    rw [if_neg (Nat.lt_irrefl _), kL_eq, hf, f3_L]
    rw [if_neg]
    rcases h1 with ⟨rfl, rfl⟩ | rfl
    · simp [flatF]
    · simp
/-- A store that stands. -/
def GoodS (n : Nat) (ar : Bool) (T : WSt) (S : KV.KSt) : Prop := T.dead = false ∧ T.D.lost = false ∧ T.D.armed = ar ∧ KvG n S ∧ ∃ ps, ShapeS n T.D.fs ps S ∧ T.size = (flatF ps).length
/-- Files of which a crash leaves those of one state, or of another one. -/
def MaybeS (n : Nat) (fs : List FEnt) (S S' : KV.KSt) : Prop :=
  (KvG n S ∧ ∃ ps, ShapeS n fs ps S) ∨ (KvG n S ∧ KvG n S' ∧ ∃ (S0 : KV.KSt) (ps : List (List Int)) (p : List Int) (b c : FO), fs = fs3 (some (flatF (ps ++ [p]), (flatF ps).length)) b c ∧ SnapSt b S0 ∧ SpareOk c ∧ ChainS n S0 ps S ∧ ChainS n S0 (ps ++ [p]) S')
theorem MaybeS.small {n : Nat} {fs : List FEnt} {S S' : KV.KSt} (h : MaybeS n fs S S') (hn : n ≤ 100) : fs.length ≤ 3 ∧ FsSmall 80000 fs ∧ ∀ f ∈ fs, f.1.length ≤ 5 := by
  rcases h with ⟨-, ps, h⟩ | ⟨-, -, S0, ps, p, b, c, rfl, h2, h3, -, h5⟩
  · exact h.small hn
  · refine ⟨f3_len _ b c, fs3_small (fun u hu => ?_) h2.small (fun u hu => (h3 u hu).2), fun f hf => (f3_mem hf).1⟩
    obtain rfl := Option.some.inj hu
    have h1 := goodF_len _ h5.2.1
    have h6 := h5.2.2.1
    show (flatF _).length ≤ _
    omega
theorem SnapSt.crash {b : FO} {S0 : KV.KSt} (h : SnapSt b S0) (ks : List Int) (j : Nat) : b.map (crashU ks j) = b := by
  rcases h with ⟨rfl, -⟩ | ⟨rfl, -⟩
  · rfl
  · show some _ = some _
    rw [crashU_full]
theorem LogSt.crash {a : FO} {ps : List (List Int)} (h : LogSt a ps) (ks : List Int) (j : Nat) : a.map (crashU ks j) = a := by
  rcases h with ⟨rfl, -⟩ | rfl
  · rfl
  · show some _ = some _
    rw [crashU_full]
/-- What a crash leaves of such files is opened as the one state, or the other one; and what then stands is whole. -/
theorem open_crash {n : Nat} {D : DSt} {S S' : KV.KSt} (h : MaybeS n D.fs S S') (hn : n ≤ 100) (ks : List Int) :
    ∃ S1, (S1 = S ∨ S1 = S') ∧ opS (crashD D ks) = (0, S1) ∧ DFree 3 (crashD D ks) ∧
      ∀ m x D', AllIs (recsOf (readD (crashD D ks) nLog.data.toList).1) (readD (crashD D ks) nLog.data.toList).1 m x → settleD (crashD D ks) nLog.data.toList (readD (crashD D ks) nLog.data.toList).1.length m = (0, D') → GoodS n false ⟨D', m, false⟩ S1 := by
  rcases h with ⟨hg, ps, h⟩ | ⟨hg, hg', S0, ps, p, b, c, hf, h2, h3, h4, h5⟩
  · have hsm := h.small hn
    obtain ⟨S0, a, b, c, hf, h1, h2, h3, h4⟩ := h
    obtain ⟨i, j, m0, hc⟩ := f3_crash a b c ks
    have hfs : (crashD D ks).fs = fs3 a b (c.map (crashU ks m0)) := by
      show crashF ks 0 D.fs = _
      rw [hf, hc, h1.crash, h2.crash]
    have hsh : ShapeS n (crashD D ks).fs ps S := ⟨S0, a, b, _, hfs, h1, h2, h3.crash ks m0, h4⟩
    obtain ⟨o1, o2, o3, o4⟩ := open_shape hsh rfl
    have hs2 := hsh.small hn
    refine ⟨S, Or.inl rfl, o1, ⟨rfl, rfl, hs2.1, fun f hf => by have := hs2.2.1 f hf; omega⟩, fun m x D' ha hd => ?_⟩
    rw [o2] at ha
    obtain ⟨-, rfl, -⟩ := AllIs.same _ _ _ _ _ _ _ ha o3
    rw [o4] at hd
    obtain rfl := (Prod.mk.inj hd).2
    exact ⟨rfl, rfl, rfl, hg, ps, hsh, rfl⟩
  · obtain ⟨i, j, m0, hc⟩ := f3_crash (some (flatF (ps ++ [p]), (flatF ps).length)) b c ks
    have hF : flatF (ps ++ [p]) = flatF ps ++ frameL p := flatF_snoc ps p
    have hle : (flatF ps).length ≤ (flatF (ps ++ [p])).length := by rw [hF, List.length_append]; omega
    obtain ⟨k, hk⟩ : ∃ k, k = crashN ks i (flatF (ps ++ [p]), (flatF ps).length) := ⟨_, rfl⟩
    have hcn := crashN_le ks i (u := (flatF (ps ++ [p]), (flatF ps).length)) hle
    rw [← hk] at hcn
    have hfs : (crashD D ks).fs = fs3 (some ((flatF (ps ++ [p])).take k, k)) b (c.map (crashU ks m0)) := by
      show crashF ks 0 D.fs = _
      rw [hf, hc, h2.crash, hk]
      rfl
    have hfl := goodF_len _ h5.2.1
    have h56 := h5.2.2.1
    have hDF : DFree 3 (crashD D ks) := by
      refine ⟨rfl, rfl, by rw [hfs]; exact f3_len _ _ _, ?_⟩
      rw [hfs]
      have := fs3_small (a := some ((flatF (ps ++ [p])).take k, k)) (fun u hu => by
        obtain rfl := Option.some.inj hu
        simp only [List.length_take]
        omega) h2.small (fun u hu => ((h3.crash ks m0) u hu).2)
      exact fun f hf => by have := this f hf; omega
    rcases goodF_torn h5.2.1 hcn.1 hcn.2 with hkk | ⟨hlt, x0, hall⟩
    · have hsh : ShapeS n (crashD D ks).fs (ps ++ [p]) S' := ⟨S0, _, b, _, hfs, Or.inr (by rw [hkk, List.take_length]), h2, h3.crash ks m0, h5⟩
      obtain ⟨o1, o2, o3, o4⟩ := open_shape hsh rfl
      refine ⟨S', Or.inr rfl, o1, hDF, fun m x D' ha hd => ?_⟩
      rw [o2] at ha
      obtain ⟨-, rfl, -⟩ := AllIs.same _ _ _ _ _ _ _ ha o3
      rw [o4] at hd
      obtain rfl := (Prod.mk.inj hd).2
      exact ⟨rfl, rfl, rfl, hg', ps ++ [p], hsh, rfl⟩
    · have hrd : (readD (crashD D ks) nLog.data.toList).1 = (flatF (ps ++ [p])).take k := by
        unfold readD
        rw [kL_eq, hfs, f3_L]
        rfl
      have hrc : recsOf (readD (crashD D ks) nLog.data.toList).1 = ps := by rw [hrd]; exact recsOf_eq hall
      have hrn : readD (crashD D ks) kN = readD ⟨fs3 none b none, false, false, 0⟩ kN := by
        unfold readD
        rw [hfs, f3_N, f3_N]
        rfl
      have hop : opS (crashD D ks) = (0, S) := by
        have hsh0 : ShapeS n (⟨fs3 (some (flatF ps, (flatF ps).length)) b none, false, false, 0⟩ : DSt).fs ps S := ⟨S0, _, b, _, rfl, Or.inr rfl, h2, SpareOk.none, h4⟩
        obtain ⟨o1, o2, -, -⟩ := open_shape (D := ⟨fs3 (some (flatF ps, (flatF ps).length)) b none, false, false, 0⟩) hsh0 rfl
        unfold opS at o1 ⊢
        rw [hrc]
        rw [o2] at o1
        have hl : ldS (crashD D ks) = ldS ⟨fs3 (some (flatF ps, (flatF ps).length)) b none, false, false, 0⟩ := by
          refine ldS_same ?_
          rw [kN_eq, hrn]
          unfold readD
          rw [f3_N, f3_N]
        rw [hl]
        exact o1
      refine ⟨S, Or.inl rfl, hop, hDF, fun m x D' ha hd => ?_⟩
      rw [hrc, hrd] at ha
      obtain ⟨-, rfl, -⟩ := AllIs.same _ _ _ _ _ _ _ ha hall
      have htl : ((flatF (ps ++ [p])).take k).length = k := by rw [List.length_take]; omega
      have htk : ((flatF (ps ++ [p])).take k).take (flatF ps).length = flatF ps := by
        rw [List.take_take, hF, Nat.min_eq_left hcn.1, List.take_left]
      refine ⟨rfl, ?_⟩
      rw [hrd, htl] at hd
      unfold settleD cutD at hd
      rw [kL_eq, hfs, f3_L] at hd
      simp only [Option.getD_some] at hd
      by_cases hlt2 : (flatF ps).length < k
      · rw [if_pos hlt2, if_neg (by rw [htl]; omega)] at hd
        have hl0 : lost1 (crashD D ks).lost (crashD D ks).armed (crashD D ks).left = false := rfl
        rw [hl0] at hd
        simp only [Bool.false_eq_true, if_false, f3_putL, Int.toNat_natCast, htk] at hd
        obtain rfl := (Prod.mk.inj hd).2
        exact ⟨rfl, rfl, hg, ps, ⟨S0, _, b, _, rfl, Or.inr rfl, h2, h3.crash ks m0, h4⟩, rfl⟩
      · rw [if_neg hlt2] at hd
        obtain rfl : k = (flatF ps).length := by omega
        rw [if_neg (Nat.lt_irrefl _)] at hd
        obtain rfl := (Prod.mk.inj hd).2
        refine ⟨rfl, rfl, hg, ps, ⟨S0, _, b, _, hfs, Or.inr ?_, h2, h3.crash ks m0, h4⟩, rfl⟩
        rw [hF, List.take_left]
/-- What a write that is planned writes. -/
theorem plan_eff {n : Nat} {S : KV.KSt} {o : KV.KOp} (hg : KvG n S) (hn : n ≤ 100) (hv : o.val.size ≤ 100) (hw : (KV.planK S o).2.2 = true) :
    KV.rightB (KV.planK S o).2.1 = true ∧ (KV.planK S o).2.1.rev = S.rev + 1 ∧ KV.mayA S (KV.planK S o).2.1 = true ∧ okB (KV.effL (KV.planK S o).2.1) ∧ 1 ≤ (KV.effL (KV.planK S o).2.1).length ∧ (KV.effL (KV.planK S o).2.1).length ≤ 400 ∧
      decE (KV.effL (KV.planK S o).2.1) = some (KV.planK S o).2.1 ∧ KvG (n + 1) (KV.applyK S (KV.planK S o).2.1) := by
  obtain ⟨hk, hm⟩ := KV.plan_may hw
  obtain ⟨he, -⟩ := KV.plan_write hw
  have hdo : (KV.doK S o).2 = KV.applyK S (KV.planK S o).2.1 := by unfold KV.doK; rw [if_pos hw]
  have hg2 : KvG (n + 1) (KV.applyK S (KV.planK S o).2.1) := by
    rw [← hdo]
    exact ⟨KV.doK_inv hg.1 o, KV.doK_good hg.2 hg.1.2.1 o hv⟩
  have hrev : (KV.planK S o).2.1.rev = S.rev + 1 := by rw [he, KV.effOf_rev]
  have hval : (KV.planK S o).2.1.val.size ≤ 100 := by
    rw [he]
    unfold KV.effOf
    split
    · show (KV.emp : ByteArray).size ≤ 100; decide
    · exact hv
  have h0 := hg.1.2.1
  have h3 := hg.1.2.2.1
  have hr : KV.rightB (KV.planK S o).2.1 = true := by
    rw [KV.rightB_eq]
    unfold KV.mayA at hm
    simp only [Bool.and_eq_true] at hm
    obtain ⟨m1, m2, -, -, m5⟩ := hm
    rw [m1, m2, decide_eq_true (show (1 : Int) ≤ (KV.planK S o).2.1.rev by omega)]
    cases hgone : (KV.planK S o).2.1.gone with
    | false => rfl
    | true =>
      rw [hgone] at m5
      simp only [Bool.not_true, Bool.false_or, Bool.and_eq_true] at m5 ⊢
      simpa using m5.1
  have hle : (KV.planK S o).2.1.rev ≤ 9223372036854775807 := by omega
  obtain ⟨q1, q2, -, -, -⟩ := KV.rightB_ok hr
  have hlen : 1 ≤ (KV.effL (KV.planK S o).2.1).length ∧ (KV.effL (KV.planK S o).2.1).length ≤ 400 := by
    unfold KV.effL KV.itemL KV.longL
    simp only [KV.kl_str]
    simp only [List.length_append, strI_length, KV.put_length _ 8 rfl, KV.put_length _ 4 rfl, KV.put_length _ 1 rfl]
    have e1 : ((1 : Int)).toNat = 1 := rfl
    have e8 : ((8 : Int)).toNat = 8 := rfl
    have e4 : ((4 : Int)).toNat = 4 := rfl
    omega
  refine ⟨hr, hrev, hm, KV.okB_eff _, hlen.1, hlen.2, ?_, hg2⟩
  cases hd : decE (KV.effL (KV.planK S o).2.1) with
  | none => exact absurd ⟨hr, hle, rfl⟩ (decE_none hd _)
  | some e =>
    obtain ⟨d1, d2, d3⟩ := decE_some hd
    rw [KV.eff_inj d1 hr d2 hle d3]
theorem ChainS.snoc {n : Nat} {S0 S : KV.KSt} {ps : List (List Int)} {e : KV.KEff} (h : ChainS n S0 ps S) (hd : decE (KV.effL e) = some e) (hr : e.rev = S.rev + 1) (hm : KV.mayA S e = true) (hok : okB (KV.effL e)) (h1 : 1 ≤ (KV.effL e).length) (h2 : (KV.effL e).length ≤ 400) :
    ChainS (n + 1) S0 (ps ++ [KV.effL e]) (KV.applyK S e) := by
  obtain ⟨c1, c2, c3, c4⟩ := h
  have hrev : (KV.applyK S e).rev = e.rev := rfl
  refine ⟨replay_snoc hd (by omega) hm c1, goodF_snoc c2 ⟨hok, h1, h2⟩, by rw [List.length_append, List.length_singleton]; omega, fun p hp => ?_⟩
  rcases List.mem_append.1 hp with hp | hp
  · obtain ⟨f, f1, f2⟩ := c4 p hp
    exact ⟨f, f1, by omega⟩
  · obtain rfl := List.mem_singleton.1 hp
    exact ⟨e, hd, by omega⟩
theorem ChainS.mono {n m : Nat} {S0 S : KV.KSt} {ps : List (List Int)} (h : ChainS n S0 ps S) (hm : n ≤ m) : ChainS m S0 ps S := ⟨h.1, h.2.1, Nat.le_trans h.2.2.1 hm, h.2.2.2⟩
/-- A write: it stands, or the disk is lost at it. -/
theorem keep_out {n : Nat} {ar : Bool} {T : WSt} {S : KV.KSt} {o : KV.KOp} (h : GoodS n ar T S) (hn : n + 1 ≤ 100) (hv : o.val.size ≤ 100) (hw : (KV.planK S o).2.2 = true) :
    (∃ T', walA T nLog.data.toList (KV.effL (KV.planK S o).2.1) = (0, T') ∧ GoodS (n + 1) ar T' (KV.applyK S (KV.planK S o).2.1)) ∨
    ∃ T', walA T nLog.data.toList (KV.effL (KV.planK S o).2.1) = (12, T') ∧ ar = true ∧ MaybeS (n + 1) T'.D.fs S (KV.applyK S (KV.planK S o).2.1) := by
  obtain ⟨h1, h2, h3, hg, ps, ⟨S0, a, b, c, hf, q1, q2, q3, q4⟩, hsz⟩ := h
  obtain ⟨e1, e2, e3, e4, e5, e6, e7, e8⟩ := plan_eff hg (by omega) hv hw
  obtain ⟨D, sz, dd⟩ := T
  simp only [] at h1 h2 h3 hf hsz
  subst h1 hsz
  have hch := q4.snoc e7 e2 e3 e4 e5 e6
  rcases three_append (p := KV.effL (KV.planK S o).2.1) hf h2 q1 (fun h => by rw [h] at e5; exact absurd e5 (by decide)) with ⟨D', r1, r2, r3, r4⟩ | ⟨D', r1, r2, r3⟩
  · exact Or.inl ⟨_, r1, rfl, r3, r4.trans h3, e8, ps ++ [KV.effL (KV.planK S o).2.1], ⟨S0, _, b, c, r2, Or.inr rfl, q2, q3, hch⟩, rfl⟩
  · exact Or.inr ⟨_, r1, h3.symm.trans r3, Or.inr ⟨hg.mono (by omega), e8, S0, ps, _, b, c, r2, q2, q3, q4.mono (by omega), hch⟩⟩
/-- Compacting: it is done, or the disk is lost at it. -/
theorem comp_out {n : Nat} {ar : Bool} {T : WSt} {S : KV.KSt} (h : GoodS n ar T S) (hn : n ≤ 100) :
    (∃ D1 T', saveD T.D nSnap (KV.stL S) = (0, D1) ∧ D1.fs.length ≤ 3 ∧ FsSmall 80000 D1.fs ∧ walC ⟨D1, T.size, T.dead⟩ nLog.data.toList = (0, T') ∧ GoodS n ar T' S ∧ ∃ a b c, T'.D.fs = fs3 a b c ∧ (a = none ∨ a = some ([], 0))) ∨
    (∃ D1, saveD T.D nSnap (KV.stL S) = (12, D1) ∧ ar = true ∧ MaybeS n D1.fs S S) ∨
    ∃ D1 T', saveD T.D nSnap (KV.stL S) = (0, D1) ∧ D1.fs.length ≤ 3 ∧ FsSmall 80000 D1.fs ∧ walC ⟨D1, T.size, T.dead⟩ nLog.data.toList = (12, T') ∧ ar = true ∧ MaybeS n T'.D.fs S S := by
  obtain ⟨h1, h2, h3, hg, ps, ⟨S0, a, b, c, hf, q1, q2, q3, q4⟩, hsz⟩ := h
  obtain ⟨D, sz, dd⟩ := T
  simp only [] at h1 h2 h3 hf hsz ⊢
  subst h1 hsz
  have hsn : SnapSt (some (sealL (KV.stL S), (sealL (KV.stL S)).length)) S := Or.inr ⟨rfl, hg.mono hn⟩
  rcases three_save hf h2 q3 (hg.len hn) with ⟨D1, r1, r2, r3, r4⟩ | ⟨D1, c', r1, r2, r3, r4⟩
  · have hsm : D1.fs.length ≤ 3 ∧ FsSmall 80000 D1.fs := by
      rw [r2]
      exact ⟨f3_len _ _ _, fs3_small (q1.small q4.2.1 q4.2.2.1 hn) hsn.small (fun u hu => by cases hu)⟩
    rcases three_clear (n := (flatF ps).length) r2 r3 with ⟨D2, t1, ⟨a', t2, t3⟩, t4, t5⟩ | ⟨D2, t1, t2, t3⟩
    · left
      refine ⟨D1, _, r1, hsm.1, hsm.2, t1, ⟨rfl, t4, t5.trans (r4.trans h3), hg, [], ⟨S, a', _, none, t2, ?_, hsn, SpareOk.none, ?_⟩, rfl⟩, a', _, none, t2, t3⟩
      · rcases t3 with rfl | rfl
        · exact Or.inl ⟨rfl, rfl⟩
        · exact Or.inr rfl
      · exact ⟨by rw [replayS], (fun p hp => by cases hp), Nat.zero_le _, (fun p hp => by cases hp)⟩
    · right; right
      exact ⟨D1, _, r1, hsm.1, hsm.2, t1, h3.symm.trans (r4.symm.trans t3), Or.inl ⟨hg, ps, S, a, _, none, t2, q1, hsn, SpareOk.none, chain_skip q4.2.2.2, q4.2⟩⟩
  · right; left
    exact ⟨D1, r1, h3.symm.trans r4, Or.inl ⟨hg, ps, S0, a, b, c', r2, q1, q2, r3, q4⟩⟩
theorem GoodS.small {n : Nat} {ar : Bool} {T : WSt} {S : KV.KSt} (h : GoodS n ar T S) (hn : n ≤ 100) : T.D.fs.length ≤ 3 ∧ FsSmall 80000 T.D.fs ∧ (∀ f ∈ T.D.fs, f.1.length ≤ 5) ∧ T.size ≤ 100000 := by
  obtain ⟨h1, h2, h3, hg, ps, hs, hsz⟩ := h
  have h4 := hs.small hn
  obtain ⟨S0, a, b, c, hf, q1, q2, q3, q4⟩ := hs
  have h5 := goodF_len ps q4.2.1
  have h6 := q4.2.2.1
  exact ⟨h4.1, h4.2.1, h4.2.2, by omega⟩
theorem GoodS.maybe {n : Nat} {ar : Bool} {T : WSt} {S : KV.KSt} (h : GoodS n ar T S) : MaybeS n T.D.fs S S := Or.inl ⟨h.2.2.2.1, h.2.2.2.2.choose, h.2.2.2.2.choose_spec.1⟩
end Go.Proofs.YtbbefakmpmniiaaGreatDoor
