/- virgatelaw08's cut; what Save does to a file and its spare; the walk of SnapOnce. Conditions: the world facts of Env. -/
import Derived.Test.YtkjdfelmjanpcaaDoorSnNil
namespace Go.Proofs.YtkjdfelmjanpcaaDoor
open Go.RowKit Go.Maps
set_option maxRecDepth 100000 in
theorem cut8_any (v : Value) (xs : List Int) (w : World) (h : Sees w v xs) : Calls Tryd.prog 30 #[v] w fun e w' => ∃ ao c, e = .returned (.slice ao (xs.take 60).length c) ∧ Sees w (.slice ao (xs.take 60).length c) (xs.take 60) ∧ (∀ d, (Value.slice ao (xs.take 60).length c).ownBlock = some d → v.ownBlock = some d) ∧ w = w' := by
  have HH := Lib.hid h
  obtain ⟨ao, c, rfl, hlc, -⟩ := id h
  clear h
  by_cases h60 : xs.length ≤ 60
  · have d1 : decide (60 < (xs.length : Int)) = false := by simp; omega
    go_enter Tryd.func30, Tryd.ntmps30
    go_wp2_with fail
    go_ret
    rw [List.take_of_length_le h60]
    exact ⟨ao, c, rfl, HH.out, fun d hd => hd, rfl⟩
  · have d1 : decide (60 < (xs.length : Int)) = true := by simp; omega
    have hlt : (xs.take 60).length = 60 := by rw [List.length_take]; omega
    have HS := Lib.hid (sees_head HH.out (n := 60) (by omega))
    have e5 : (60 : Int) ≤ (c : Int) := by omega
    have e6 : 60 ≤ c := by omega
    have HL := Lib.hid hlt
    clear hlt
    go_enter Tryd.func30, Tryd.ntmps30
    go_wp2_with fail
    go_ret
    rw [HL.out]
    exact ⟨ao, c, rfl, HS.out, (fun d hd => by
      cases ao with
      | none => cases hd
      | some a => exact hd), rfl⟩
/-- The file s with X, sealed and sure; and what the spare has, if it is there. -/
def fsX (X : List Int) (sp : Option (List Int × Nat)) : List FEnt := match sp with
  | none => [([115], (sealL X, (sealL X).length))]
  | some u => [([115], (sealL X, (sealL X).length)), ([115, 126], u)]
def kS : List UInt8 := [115]
def kT : List UInt8 := [115, 126]
theorem kS_eq : nS.data.toList = kS := by kernel_rfl
theorem kT_eq : (tilde nS).data.toList = kT := by kernel_rfl
theorem fx_getS (X : List Int) (sp : Option (List Int × Nat)) : getE (fsX X sp) kS = some (sealL X, (sealL X).length) := by cases sp <;> rfl
theorem fx_getT (X : List Int) (sp : Option (List Int × Nat)) : getE (fsX X sp) kT = sp := by cases sp <;> rfl
theorem fx_del (X : List Int) (sp : Option (List Int × Nat)) : delE kT (fsX X sp) = fsX X none := by cases sp <;> rfl
theorem fx_put (X : List Int) (sp : Option (List Int × Nat)) (v : List Int × Nat) : putE kT v (fsX X sp) = fsX X (some v) := by cases sp <;> rfl
theorem fx_mv (X : List Int) (v : List Int × Nat) : putE kS v (delE kT (fsX X (some v))) = [(kS, v)] := rfl
theorem seal_len (X : List Int) : (sealL X).length = X.length + 4 := by unfold sealL; rw [List.length_append]; rfl
theorem rm_step {X : List Int} {D : DSt} {sp : Option (List Int × Nat)} (hf : D.fs = fsX X sp) (hl : D.lost = false) :
    (∃ D1, rmD D kT = (0, D1) ∧ D1.fs = fsX X none ∧ D1.lost = false) ∨ ∃ D1, rmD D kT = (12, D1) ∧ D1.fs = fsX X sp := by
  unfold rmD removeD
  rw [hf, fx_getT]
  cases sp with
  | none => exact Or.inl ⟨D, rfl, hf, hl⟩
  | some u =>
    simp only []
    by_cases h1 : lost1 D.lost D.armed D.left = true
    · rw [if_pos h1]
      exact Or.inr ⟨_, rfl, rfl⟩
    · rw [if_neg h1]
      exact Or.inl ⟨_, rfl, fx_del X (some u), rfl⟩
theorem app_step {X : List Int} {D : DSt} (hf : D.fs = fsX X none) (hl : D.lost = false) (t : List Int) :
    (∃ D1, appD D kT t = (0, D1) ∧ D1.fs = fsX X (some (t, 0)) ∧ D1.lost = false) ∨ ∃ D1, appD D kT t = (12, D1) ∧ D1.fs = fsX X (some (t, 0)) := by
  unfold appD
  rw [if_neg (by rw [hl]; simp), hf, fx_getT]
  simp only [Option.getD_none, List.nil_append]
  rw [fx_put]
  by_cases h1 : lost1 D.lost D.armed D.left = true
  · right
    exact ⟨_, by unfold errW; rw [if_pos h1], rfl⟩
  · left
    refine ⟨_, by unfold errW; rw [if_neg h1], rfl, ?_⟩
    simpa using h1
theorem sync_step {X t : List Int} {D : DSt} {u : Nat} (hf : D.fs = fsX X (some (t, u))) :
    (∃ D1, syncD D kT = (0, D1) ∧ D1.fs = fsX X (some (t, t.length)) ∧ D1.lost = false) ∨ ∃ D1, syncD D kT = (12, D1) ∧ D1.fs = fsX X (some (t, u)) := by
  unfold syncD
  rw [hf, fx_getT]
  simp only []
  by_cases h1 : lost1 D.lost D.armed D.left = true
  · rw [if_pos h1]
    exact Or.inr ⟨_, rfl, rfl⟩
  · rw [if_neg h1]
    exact Or.inl ⟨_, rfl, fx_put X _ _, rfl⟩
theorem mv_step {X t : List Int} {D : DSt} {u : Nat} (hf : D.fs = fsX X (some (t, u))) :
    (∃ D1, renameD D kT kS = (0, D1) ∧ D1.fs = [(kS, (t, u))] ∧ D1.lost = false) ∨ ∃ D1, renameD D kT kS = (12, D1) ∧ D1.fs = fsX X (some (t, u)) := by
  unfold renameD
  rw [hf, fx_getT]
  simp only []
  rw [if_neg (by decide)]
  by_cases h1 : lost1 D.lost D.armed D.left = true
  · rw [if_pos h1]
    exact Or.inr ⟨_, rfl, rfl⟩
  · rw [if_neg h1]
    exact Or.inl ⟨_, rfl, fx_mv X (t, u), rfl⟩
def SmallSp (sp : Option (List Int × Nat)) : Prop := ∀ u, sp = some u → u.2 ≤ u.1.length ∧ u.1.length ≤ 100
/-- Save: it is done, or the disk is lost at it, and the file has what it had. -/
theorem save_step {X b : List Int} {D : DSt} {sp : Option (List Int × Nat)} (hf : D.fs = fsX X sp) (hl : D.lost = false) (hs : SmallSp sp) (hb : b.length ≤ 60) :
    (∃ D', saveD D nS b = (0, D') ∧ D'.fs = fsX b none) ∨ ∃ D' sp', saveD D nS b = (12, D') ∧ D'.fs = fsX X sp' ∧ SmallSp sp' := by
  have hsl := seal_len b
  have small : ∀ k, k ≤ (sealL b).length → SmallSp (some (sealL b, k)) := fun k hk u hu => by
    obtain rfl := Option.some.inj hu
    exact ⟨hk, by simp only []; omega⟩
  unfold saveD stepsD
  rw [kS_eq, kT_eq]
  rcases rm_step hf hl with ⟨D1, e1, f1, l1⟩ | ⟨D1, e1, f1⟩
  · rw [e1]
    simp only [if_true]
    rcases app_step f1 l1 (sealL b) with ⟨D2, e2, f2, l2⟩ | ⟨D2, e2, f2⟩
    · rw [e2]
      simp only [if_true]
      rcases sync_step f2 with ⟨D3, e3, f3, l3⟩ | ⟨D3, e3, f3⟩
      · rw [e3]
        simp only [if_true]
        rcases mv_step f3 with ⟨D4, e4, f4, l4⟩ | ⟨D4, e4, f4⟩
        · exact Or.inl ⟨D4, e4, f4⟩
        · exact Or.inr ⟨D4, _, e4, f4, small _ (Nat.le_refl _)⟩
      · rw [e3]
        exact Or.inr ⟨D3, _, rfl, f3, small _ (Nat.zero_le _)⟩
    · rw [e2]
      exact Or.inr ⟨D2, _, rfl, f2, small _ (Nat.zero_le _)⟩
  · rw [e1]
    exact Or.inr ⟨D1, sp, rfl, f1, hs⟩
theorem crash_step {X : List Int} {D : DSt} {sp : Option (List Int × Nat)} (hf : D.fs = fsX X sp) (hs : SmallSp sp) (ks : List Int) : ∃ sp', (crashD D ks).fs = fsX X sp' ∧ (crashD D ks).lost = false ∧ SmallSp sp' := by
  have hc : crashU ks 0 (sealL X, (sealL X).length) = (sealL X, (sealL X).length) := by
    have := crashN_le ks 0 (u := (sealL X, (sealL X).length)) (Nat.le_refl _)
    have e : crashN ks 0 (sealL X, (sealL X).length) = (sealL X).length := by simp only [] at this; omega
    unfold crashU
    rw [e]
    simp only [List.take_length]
  unfold crashD
  rw [hf]
  cases sp with
  | none =>
    refine ⟨none, ?_, rfl, fun u h => by cases h⟩
    show [(kS, crashU ks 0 (sealL X, (sealL X).length))] = _
    rw [hc]
    rfl
  | some u =>
    obtain ⟨h1, h2⟩ := hs u rfl
    have hn := crashN_le ks 1 (u := u) h1
    refine ⟨some (crashU ks 1 u), ?_, rfl, fun v hv => ?_⟩
    · show [(kS, crashU ks 0 (sealL X, (sealL X).length)), (kT, crashU ks 1 u)] = _
      rw [hc]
      rfl
    · obtain rfl := Option.some.inj hv
      unfold crashU
      simp only [List.length_take]
      omega
theorem load_step {X : List Int} {D : DSt} {sp : Option (List Int × Nat)} (hf : D.fs = fsX X sp) (hl : D.lost = false) (hX : okB X) : loadD D nS.data.toList = (X, 0) := by
  have hr : readD D kS = (sealL X, 0) := by unfold readD; rw [hf, fx_getS]; simp only []; rw [hl]; rfl
  unfold loadD
  rw [kS_eq, hr]
  simp only [if_true]
  rw [if_pos (whole_seal hX), seal_len]
  congr 1
  unfold sealL
  rw [show X.length + 4 - 4 = X.length from by omega, List.take_left]
theorem fx_small {X : List Int} {sp : Option (List Int × Nat)} (hs : SmallSp sp) (hX : X.length ≤ 60) : (fsX X sp).length ≤ 1000 ∧ (∀ f ∈ fsX X sp, f.1.length ≤ maxLen ∧ f.2.1.length ≤ 100000000000) ∧ ((getE (fsX X sp) kT).getD ([], 0)).1.length ≤ 1000000 ∧ ((getE (fsX X sp) kS).getD ([], 0)).1.length ≤ 1000000 := by
  have hl := seal_len X
  refine ⟨by cases sp <;> (unfold fsX; simp), fun f hf => ?_, ?_, ?_⟩
  · cases sp with
    | none =>
      obtain rfl := List.mem_singleton.1 hf
      exact ⟨by show 1 ≤ maxLen; unfold maxLen; omega, by show (sealL X).length ≤ _; omega⟩
    | some u =>
      rcases List.mem_cons.1 hf with rfl | hf
      · exact ⟨by show 1 ≤ maxLen; unfold maxLen; omega, by show (sealL X).length ≤ _; omega⟩
      · obtain rfl := List.mem_singleton.1 hf
        exact ⟨by show 2 ≤ maxLen; unfold maxLen; omega, by have := (hs u rfl).2; show u.1.length ≤ _; omega⟩
  · rw [fx_getT]
    cases sp with
    | none => exact Nat.zero_le _
    | some u => have := (hs u rfl).2; show u.1.length ≤ _; omega
  · rw [fx_getS]
    show (sealL X).length ≤ _
    omega
theorem first_save (A : List Int) : saveD ⟨[], false, false, 0⟩ nS A = (0, ⟨fsX A none, false, false, 0⟩) := by
  unfold saveD stepsD
  rw [kS_eq, kT_eq]
  rfl
set_option linter.unusedVariables false in
set_option maxRecDepth 100000 in
set_option maxHeartbeats 16000000 in
theorem lawOnce (w : World) (va : Value) (ya : List Int) (vb : Value) (yb : List Int) (n0 : Int) (kv : Value) (ks : List Int) (tw : Bool) (h1 : Sees w va ya) (o1 : okB ya) (m1 : ya.length ≤ maxLen) (h2 : Sees w vb yb) (o2 : okB yb) (m2 : yb.length ≤ maxLen) (n1 : 0 ≤ n0) (n2 : n0 ≤ 255) (hk : SeesU w kv ks) (hkb : ∀ x ∈ ks, 0 ≤ x ∧ x < 65536) (_ : ks.length ≤ maxLen) (hE : Env w) :
    Calls Tryd.prog 8 #[va, vb, .int .u8 n0, kv, .bool tw] w fun e w' => e = .returned (.bool true) ∧ Below w.heap.size w w' := by
  have hkB : ks ≠ [] → ∀ d, kv.ownBlock = some d → d < w.heap.size := fun h0 d hd => by
    obtain ⟨ko', kc', e1, _, _, e2⟩ := hk
    subst e1
    cases ko' with
    | none => cases hd
    | some ka =>
      have h2 := cell_lt8 (e2 ka rfl 0 (List.length_pos_iff.2 h0))
      rw [add_block] at h2
      cases hd
      omega
  have HK := Lib.hid (And.intro hk (And.intro hkb hkB))
  have HCA := Lib.hid (cut8_any va ya w h1)
  have HCB := Lib.hid (cut8_any vb yb w h2)
  have HOA := Lib.hid (o1.take 60)
  have HOB := Lib.hid (o2.take 60)
  have hAl : (ya.take 60).length ≤ 60 := by rw [List.length_take]; omega
  have hBl : (yb.take 60).length ≤ 60 := by rw [List.length_take]; omega
  obtain ⟨A, hA⟩ : ∃ A, A = ya.take 60 := ⟨_, rfl⟩
  obtain ⟨B, hB⟩ : ∃ B, B = yb.take 60 := ⟨_, rfl⟩
  rw [← hA] at HCA HOA hAl
  rw [← hB] at HCB HOB hBl
  have s1 : IntKind.i64.wrap n0 = n0 := IntWalk.i64_in _ (by omega)
  have s2 : Int.tmod n0 6 = n0 % 6 := Int.tmod_eq_emod_of_nonneg n1
  obtain ⟨N6, hN6⟩ : ∃ N, N = n0 % 6 := ⟨_, rfl⟩
  have hN0 : 0 ≤ N6 ∧ N6 < 6 := by omega
  rw [← hN6] at s2
  have s3 : n0 % 6 = N6 := hN6.symm
  clear hA hB hk hkb hkB h1 h2 o1 o2 m1 m2 hN6
  go_enter Tryd.func8, Tryd.ntmps8
  go_wp2_with fail
  refine HCA.out.mono ?_; rintro e w' ⟨ao, ac, rfl, hsA, -, rfl⟩
  go_wp2_with fail
  refine HCB.out.mono ?_; rintro e w' ⟨bo, bc, rfl, hsB, -, rfl⟩
  have HAS := Lib.hid (And.intro hsA HOA.out)
  have HBS := Lib.hid (And.intro hsB HOB.out)
  clear hsA hsB
  go_wp2_with fail
  refine (new_disk _).mono ?_; rintro e w1 ⟨g, rfl, hD1, hg, hb1⟩
  have hz1 := hb1.size
  have HA1 := Lib.hid (save_any g _ _ nS (.slice ao A.length ac) A _ w1 hD1 (by decide) (by decide) (by decide) (by decide) (HAS.out.1.keep hb1) (fun h0 d hd e => by have h1 := HAS.out.1.lt h0 hd; have h2 : d = g := e; omega) HAS.out.2 (by omega) hE hb1 (fun i e => by rw [e]; exact hg))
  rw [first_save] at HA1
  have HB1 := Lib.hid hb1
  clear hD1 hb1
  go_wp2_with fail
  refine HA1.out.mono ?_; rintro e w2 ⟨P2, rfl, hD2, hS2⟩
  obtain ⟨hP2, hb2⟩ := hS2.ge (fun i e => by rw [e]; exact hg) HB1.out.size
  have hB2 := HB1.out.trans hb2
  clear hS2 hb2
  cases tw with
  | false =>
    obtain ⟨X, sp, DX, hDX, hf, hl, hsp, hXl, hXY⟩ : ∃ X sp DX, DiskAt w2 g P2 DX ∧ DX.fs = fsX X sp ∧ DX.lost = false ∧ SmallSp sp ∧ X.length ≤ 60 ∧ (X = A ∨ X = B) := ⟨A, none, _, hD2, rfl, rfl, (fun u h => by cases h), hAl, Or.inl rfl⟩
    clear hD2
    have HA1 := Lib.hid (arm_any g P2 DX N6 w2 hDX (by omega) (by omega))
    obtain ⟨DA, hDA⟩ : ∃ DA : DSt, DA = { DX with armed := true, left := max N6 0 } := ⟨_, rfl⟩
    have hfA : DA.fs = fsX X sp := by rw [hDA]; exact hf
    have hlA : DA.lost = false := by rw [hDA]; exact hl
    rw [← hDA] at HA1
    have HPB := Lib.hid (And.intro hP2 hB2)
    clear hDA hDX hf hl hP2 hB2
    go_wp2_with fail
    refine HA1.out.mono ?_; rintro e wa ⟨rfl, hDa, hTa⟩
    obtain ⟨hPa, hBa0⟩ := HPB.out
    have hBa : Below w.heap.size w wa := hBa0.trans (hTa.below hBa0.size hPa)
    have hsm := fx_small hsp hXl
    have HSV := Lib.hid (save_any g P2 DA nS (.slice bo B.length bc) B w wa hDa (by decide) (by decide) (by rw [hfA]; exact hsm.1) (by rw [kT_eq, hfA]; exact hsm.2.2.1) (HBS.out.1.keep hBa) (fun h0 d hd hp => by have h1 := HBS.out.1.lt h0 hd; have h2 := hPa d hp; omega) HBS.out.2 (by omega) hE hBa hPa)
    have HSP := Lib.hid (save_step hfA hlA hsp hBl)
    have HPB := Lib.hid (And.intro hPa hBa)
    clear hDa hTa hfA hlA hsm hPa hBa hBa0
    obtain ⟨es, De, Y, spe, he, hfe, hspe, hYl, hYX, hes⟩ : ∃ es De Y spe, saveD DA nS B = (es, De) ∧ De.fs = fsX Y spe ∧ SmallSp spe ∧ Y.length ≤ 60 ∧ (Y = A ∨ Y = B) ∧ (es = 0 ∧ Y = B ∨ es = 12) := by
      rcases HSP.out with ⟨D', h1, h2⟩ | ⟨D', sp', h1, h2, h3⟩
      · exact ⟨0, D', B, none, h1, h2, (fun u h => by cases h), hBl, Or.inr rfl, Or.inl ⟨rfl, rfl⟩⟩
      · exact ⟨12, D', X, sp', h1, h2, h3, hXl, hXY, Or.inr rfl⟩
    rw [he] at HSV
    clear he
    go_wp2_with fail
    refine HSV.out.mono ?_; rintro e wb ⟨Pb, rfl, hDb, hSb⟩
    obtain ⟨hPa, hBa⟩ := HPB.out
    obtain ⟨hPb, hbb⟩ := hSb.ge (n := w.heap.size) hPa hBa.size
    have hBb := hBa.trans hbb
    have hsm := fx_small hspe hYl
    (try dsimp only at hDb)
    have HCR := Lib.hid (crash_any g Pb De kv ks wb hDb (by rw [hfe]; have := hsm.1; omega) (by rw [hfe]; exact hsm.2.1) (HK.out.1.keep' (w' := wb) (fun _ d _ hd => hBb.block d hd)) HK.out.2.1 (fun h0 d hd hp => by have h1 := HK.out.2.2 h0 d hd; have h2 := hPb d hp; omega))
    have HCS := Lib.hid (crash_step hfe hspe ks)
    have HPB := Lib.hid (And.intro hPb hBb)
    clear hDb hSb hPa hBa hPb hbb hBb hsm hfe
    go_wp2_with fail
    refine HCR.out.mono ?_; rintro e wc ⟨Pc, rfl, hDc, hSc⟩
    obtain ⟨hPb, hBb⟩ := HPB.out
    obtain ⟨hPc, hbc⟩ := hSc.ge (n := w.heap.size) hPb hBb.size
    have hBc := hBb.trans hbc
    obtain ⟨sc, hfc, hlc, hsc⟩ := HCS.out
    have hYo : okB Y := hYX.elim (fun e => by rw [e]; exact HAS.out.2) (fun e => by rw [e]; exact HBS.out.2)
    have HLD := Lib.hid (load_any g Pc (crashD De ks) nS wc hDc (by decide) (by rw [kS_eq, hfc]; exact (fx_small hsc hYl).2.2.2) (hE.below hBc))
    rw [load_step hfc hlc hYo] at HLD
    have HBc := Lib.hid hBc
    clear hDc hSc hPc hbc hBc hPb hBb hfc hlc
    go_wp2_with fail
    refine HLD.out.mono ?_; rintro e wd ⟨vd, rfl, hsd, -, hbd⟩
    have hBd := bel HBc.out hbd
    have qx := conv_sees hsd
    have qa := conv_sees (HAS.out.1.keep hBd)
    have qb := conv_sees (HBS.out.1.keep hBd)
    have HAW := Lib.hid (awake8_any wd (hE.below hBd))
    have HBd := Lib.hid hBd
    clear hsd hBd hbd
    rcases hYX with rfl | rfl
    · -- what was there ahead
      rcases hes with ⟨rfl, hyb⟩ | rfl
      · subst hyb
        go_wp2_with fail
        refine HAW.out.mono ?_; rintro e wz ⟨rfl, hbz⟩
        go_wp2_with fail
        go_ret
        exact ⟨rfl, bel HBd.out hbz⟩
      · go_wp2_with fail
        refine HAW.out.mono ?_; rintro e wz ⟨rfl, hbz⟩
        go_wp2_with fail
        go_ret
        exact ⟨rfl, bel HBd.out hbz⟩
    · -- what is saved now
      by_cases hab : ((strOfNums Y).toList == (strOfNums A).toList) = true
      · rcases hes with ⟨rfl, -⟩ | rfl
        all_goals
          go_wp2_with fail
          refine HAW.out.mono ?_; rintro e wz ⟨rfl, hbz⟩
          go_wp2_with fail
          go_ret
          exact ⟨rfl, bel HBd.out hbz⟩
      · have hab : ((strOfNums Y).toList == (strOfNums A).toList) = false := by simpa using hab
        rcases hes with ⟨rfl, -⟩ | rfl
        all_goals
          go_wp2_with fail
          refine HAW.out.mono ?_; rintro e wz ⟨rfl, hbz⟩
          go_wp2_with fail
          go_ret
          exact ⟨rfl, bel HBd.out hbz⟩
  | true =>
    have HA2 := Lib.hid (arm_any g P2 _ 1 w2 hD2 (by decide) (by decide))
    have HPB := Lib.hid (And.intro hP2 hB2)
    clear hD2 hP2 hB2
    go_wp2_with fail
    refine HA2.out.mono ?_; rintro e w3 ⟨rfl, hD3, hT3⟩
    obtain ⟨hP2, hB2⟩ := HPB.out
    have hB3 : Below _ _ w3 := hB2.trans (hT3.below hB2.size hP2)
    obtain ⟨D3, hD3e⟩ : ∃ D3 : DSt, D3 = { (⟨fsX A none, false, false, 0⟩ : DSt) with armed := true, left := max 1 0 } := ⟨_, rfl⟩
    have hf3 : D3.fs = fsX A none := by rw [hD3e]
    have hl3 : D3.lost = false := by rw [hD3e]
    have hD3 : DiskAt w3 g P2 D3 := by rw [hD3e]; exact hD3
    have hsm := fx_small (X := A) (sp := none) (fun u h => by cases h) hAl
    have HSV := Lib.hid (save_any g P2 D3 nS (.slice bo B.length bc) B _ w3 hD3 (by decide) (by decide) (by rw [hf3]; exact hsm.1) (by rw [kT_eq, hf3]; exact hsm.2.2.1) (HBS.out.1.keep hB3) (fun h0 d hd hp => by have h1 := HBS.out.1.lt h0 hd; have h2 := hP2 d hp; omega) HBS.out.2 (by omega) hE hB3 hP2)
    have HSP := Lib.hid (save_step (b := B) hf3 hl3 (fun u h => by cases h) hBl)
    have HPB := Lib.hid (And.intro hP2 hB3)
    clear hD3e hf3 hl3 hD3 hsm hT3 hP2 hB2 hB3
    go_wp2_with fail
    refine HSV.out.mono ?_; rintro e w4 ⟨P4, rfl, hD4, hS4⟩
    obtain ⟨hP2, hB3⟩ := HPB.out
    obtain ⟨hP4, hb4⟩ := hS4.ge hP2 hB3.size
    have hB4 := hB3.trans hb4
    obtain ⟨Y, spe, hfe, hspe, hYl, hYX⟩ : ∃ Y spe, (saveD D3 nS B).2.fs = fsX Y spe ∧ SmallSp spe ∧ Y.length ≤ 60 ∧ (Y = A ∨ Y = B) := by
      rcases HSP.out with ⟨D', h1, h2⟩ | ⟨D', sp', h1, h2, h3⟩
      · exact ⟨B, none, by rw [h1]; exact h2, (fun u h => by cases h), hBl, Or.inr rfl⟩
      · exact ⟨A, sp', by rw [h1]; exact h2, h3, hAl, Or.inl rfl⟩
    have hsm := fx_small hspe hYl
    have HCR := Lib.hid (crash_any g P4 _ kv ks w4 hD4 (by rw [hfe]; have := hsm.1; omega) (by rw [hfe]; exact hsm.2.1) (HK.out.1.keep' (w' := w4) (fun _ d _ hd => hB4.block d hd)) HK.out.2.1 (fun h0 d hd hp => by have h1 := HK.out.2.2 h0 d hd; have h2 := hP4 d hp; omega))
    have HCS := Lib.hid (crash_step hfe hspe ks)
    have HPB := Lib.hid (And.intro hP4 hB4)
    clear hD4 hS4 hP2 hB3 hP4 hb4 hB4 hsm hfe
    go_wp2_with fail
    refine HCR.out.mono ?_; rintro e w5 ⟨P5, rfl, hD5, hS5⟩
    obtain ⟨hP4, hB4⟩ := HPB.out
    obtain ⟨hP5, hb5⟩ := hS5.ge hP4 hB4.size
    have hB5 := hB4.trans hb5
    obtain ⟨X, sp, DX, hDX, hf, hl, hsp, hXl, hXY⟩ : ∃ X sp DX, DiskAt w5 g P5 DX ∧ DX.fs = fsX X sp ∧ DX.lost = false ∧ SmallSp sp ∧ X.length ≤ 60 ∧ (X = A ∨ X = B) := by
      obtain ⟨sc, hfc, hlc, hsc⟩ := HCS.out
      exact ⟨Y, sc, _, hD5, hfc, hlc, hsc, hYl, hYX⟩
    clear hD5 hS5 hP4 hB4 hb5
    have HA1 := Lib.hid (arm_any g P5 DX N6 w5 hDX (by omega) (by omega))
    obtain ⟨DA, hDA⟩ : ∃ DA : DSt, DA = { DX with armed := true, left := max N6 0 } := ⟨_, rfl⟩
    have hfA : DA.fs = fsX X sp := by rw [hDA]; exact hf
    have hlA : DA.lost = false := by rw [hDA]; exact hl
    rw [← hDA] at HA1
    have HPB := Lib.hid (And.intro hP5 hB5)
    clear hDA hDX hf hl hP5 hB5
    go_wp2_with fail
    refine HA1.out.mono ?_; rintro e wa ⟨rfl, hDa, hTa⟩
    obtain ⟨hPa, hBa0⟩ := HPB.out
    have hBa : Below w.heap.size w wa := hBa0.trans (hTa.below hBa0.size hPa)
    have hsm := fx_small hsp hXl
    have HSV := Lib.hid (save_any g P5 DA nS (.slice bo B.length bc) B w wa hDa (by decide) (by decide) (by rw [hfA]; exact hsm.1) (by rw [kT_eq, hfA]; exact hsm.2.2.1) (HBS.out.1.keep hBa) (fun h0 d hd hp => by have h1 := HBS.out.1.lt h0 hd; have h2 := hPa d hp; omega) HBS.out.2 (by omega) hE hBa hPa)
    have HSP := Lib.hid (save_step hfA hlA hsp hBl)
    have HPB := Lib.hid (And.intro hPa hBa)
    clear hDa hTa hfA hlA hsm hPa hBa hBa0
    obtain ⟨es, De, Y, spe, he, hfe, hspe, hYl, hYX, hes⟩ : ∃ es De Y spe, saveD DA nS B = (es, De) ∧ De.fs = fsX Y spe ∧ SmallSp spe ∧ Y.length ≤ 60 ∧ (Y = A ∨ Y = B) ∧ (es = 0 ∧ Y = B ∨ es = 12) := by
      rcases HSP.out with ⟨D', h1, h2⟩ | ⟨D', sp', h1, h2, h3⟩
      · exact ⟨0, D', B, none, h1, h2, (fun u h => by cases h), hBl, Or.inr rfl, Or.inl ⟨rfl, rfl⟩⟩
      · exact ⟨12, D', X, sp', h1, h2, h3, hXl, hXY, Or.inr rfl⟩
    rw [he] at HSV
    clear he
    go_wp2_with fail
    refine HSV.out.mono ?_; rintro e wb ⟨Pb, rfl, hDb, hSb⟩
    obtain ⟨hPa, hBa⟩ := HPB.out
    obtain ⟨hPb, hbb⟩ := hSb.ge (n := w.heap.size) hPa hBa.size
    have hBb := hBa.trans hbb
    have hsm := fx_small hspe hYl
    (try dsimp only at hDb)
    have HCR := Lib.hid (crash_any g Pb De kv ks wb hDb (by rw [hfe]; have := hsm.1; omega) (by rw [hfe]; exact hsm.2.1) (HK.out.1.keep' (w' := wb) (fun _ d _ hd => hBb.block d hd)) HK.out.2.1 (fun h0 d hd hp => by have h1 := HK.out.2.2 h0 d hd; have h2 := hPb d hp; omega))
    have HCS := Lib.hid (crash_step hfe hspe ks)
    have HPB := Lib.hid (And.intro hPb hBb)
    clear hDb hSb hPa hBa hPb hbb hBb hsm hfe
    go_wp2_with fail
    refine HCR.out.mono ?_; rintro e wc ⟨Pc, rfl, hDc, hSc⟩
    obtain ⟨hPb, hBb⟩ := HPB.out
    obtain ⟨hPc, hbc⟩ := hSc.ge (n := w.heap.size) hPb hBb.size
    have hBc := hBb.trans hbc
    obtain ⟨sc, hfc, hlc, hsc⟩ := HCS.out
    have hYo : okB Y := hYX.elim (fun e => by rw [e]; exact HAS.out.2) (fun e => by rw [e]; exact HBS.out.2)
    have HLD := Lib.hid (load_any g Pc (crashD De ks) nS wc hDc (by decide) (by rw [kS_eq, hfc]; exact (fx_small hsc hYl).2.2.2) (hE.below hBc))
    rw [load_step hfc hlc hYo] at HLD
    have HBc := Lib.hid hBc
    clear hDc hSc hPc hbc hBc hPb hBb hfc hlc
    go_wp2_with fail
    refine HLD.out.mono ?_; rintro e wd ⟨vd, rfl, hsd, -, hbd⟩
    have hBd := bel HBc.out hbd
    have qx := conv_sees hsd
    have qa := conv_sees (HAS.out.1.keep hBd)
    have qb := conv_sees (HBS.out.1.keep hBd)
    have HAW := Lib.hid (awake8_any wd (hE.below hBd))
    have HBd := Lib.hid hBd
    clear hsd hBd hbd
    rcases hYX with rfl | rfl
    · -- what was there ahead
      rcases hes with ⟨rfl, hyb⟩ | rfl
      · subst hyb
        go_wp2_with fail
        refine HAW.out.mono ?_; rintro e wz ⟨rfl, hbz⟩
        go_wp2_with fail
        go_ret
        exact ⟨rfl, bel HBd.out hbz⟩
      · go_wp2_with fail
        refine HAW.out.mono ?_; rintro e wz ⟨rfl, hbz⟩
        go_wp2_with fail
        go_ret
        exact ⟨rfl, bel HBd.out hbz⟩
    · -- what is saved now
      by_cases hab : ((strOfNums Y).toList == (strOfNums A).toList) = true
      · rcases hes with ⟨rfl, -⟩ | rfl
        all_goals
          go_wp2_with fail
          refine HAW.out.mono ?_; rintro e wz ⟨rfl, hbz⟩
          go_wp2_with fail
          go_ret
          exact ⟨rfl, bel HBd.out hbz⟩
      · have hab : ((strOfNums Y).toList == (strOfNums A).toList) = false := by simpa using hab
        rcases hes with ⟨rfl, -⟩ | rfl
        all_goals
          go_wp2_with fail
          refine HAW.out.mono ?_; rintro e wz ⟨rfl, hbz⟩
          go_wp2_with fail
          go_ret
          exact ⟨rfl, bel HBd.out hbz⟩
end Go.Proofs.YtkjdfelmjanpcaaDoor
