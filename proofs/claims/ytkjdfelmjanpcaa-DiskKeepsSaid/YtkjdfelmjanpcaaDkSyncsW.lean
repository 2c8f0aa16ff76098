/- The walk of DiskSyncs. -/
import Derived.Test.YtkjdfelmjanpcaaDkLaw
namespace Go.Proofs.Ytkjdfelmjanpcaa
open Go.RowKit Go.Maps
/-- What is there of the file f: nothing yet, or bytes of which so many are sure; and the text that was sure last. -/
def SyncInv (D : DSt) (S : List Int) (m : Nat) : Prop := (D.fs = [] ∧ S = []) ∨ ∃ xs su, D.fs = [([102], (xs, su))] ∧ su ≤ xs.length ∧ xs.take S.length = S ∧ S.length ≤ su ∧ xs.length ≤ m
theorem SyncInv.nil : SyncInv ⟨[], false, false, 0⟩ [] 0 := Or.inl ⟨rfl, rfl⟩
theorem get1 (u : List Int × Nat) : getE [(([102] : List UInt8), u)] [102] = some u := rfl
theorem put1 (u v : List Int × Nat) : putE [102] v [(([102] : List UInt8), u)] = [([102], v)] := rfl
theorem put0 (v : List Int × Nat) : putE [102] v ([] : List FEnt) = [([102], v)] := rfl
theorem SyncInv.app {D : DSt} {S t : List Int} {m : Nat} (h : SyncInv D S m) (ht : t.length ≤ 40) : SyncInv (appD D [102] t).2 S (m + 40) := by
  unfold appD
  by_cases hl : D.lost = true
  · rw [if_pos hl]
    rcases h with h | ⟨xs, su, h1, h2, h3, h4, h5⟩
    · exact Or.inl h
    · exact Or.inr ⟨xs, su, h1, h2, h3, h4, by omega⟩
  · rw [if_neg hl]
    rcases h with ⟨h1, h2⟩ | ⟨xs, su, h1, h2, h3, h4, h5⟩
    · refine Or.inr ⟨t, 0, ?_, Nat.zero_le _, by rw [h2]; rfl, by rw [h2]; exact Nat.le_refl _, by omega⟩
      show putE [102] (((getE D.fs [102]).getD ([], 0)).1 ++ t, ((getE D.fs [102]).getD ([], 0)).2) D.fs = _
      rw [h1]
      exact put0 _
    · refine Or.inr ⟨xs ++ t, su, ?_, by rw [List.length_append]; omega, ?_, h4, by rw [List.length_append]; omega⟩
      · show putE [102] (((getE D.fs [102]).getD ([], 0)).1 ++ t, ((getE D.fs [102]).getD ([], 0)).2) D.fs = _
        rw [h1, get1]
        exact put1 _ _
      · rw [List.take_append_of_le_length (by omega)]
        exact h3
/-- Behind an Append that is told as done the file is there, and the disk is not lost. -/
theorem app_done {D : DSt} {S t : List Int} {m : Nat} (h : SyncInv D S m) (he : (appD D [102] t).1 = 0) : (appD D [102] t).2.lost = false ∧ ∃ xs su, (appD D [102] t).2.fs = [([102], (xs, su))] := by
  unfold appD at he ⊢
  by_cases hl : D.lost = true
  · rw [if_pos hl] at he; cases he
  · rw [if_neg hl] at he ⊢
    have hlost : lost1 D.lost D.armed D.left = false := by
      cases hh : lost1 D.lost D.armed D.left with
      | false => rfl
      | true => unfold errW at he; rw [hh] at he; cases he
    refine ⟨hlost, ?_⟩
    rcases h with ⟨h1, h2⟩ | ⟨xs, su, h1, _⟩
    · exact ⟨_, _, by simp only []; rw [h1]; exact put0 _⟩
    · exact ⟨_, _, by simp only []; rw [h1]; exact put1 _ _⟩
theorem SyncInv.sync {D : DSt} {S xs : List Int} {su m : Nat} (h : SyncInv D S m) (hf : D.fs = [([102], (xs, su))]) (_ : D.lost = false) :
    (SyncInv (syncD D [102]).2 S m) ∧ ((syncD D [102]).1 = 0 → SyncInv (syncD D [102]).2 xs m) := by
  rcases h with ⟨h1, h2⟩ | ⟨xs', su', h1, h2, h3, h4, h5⟩
  · rw [h1] at hf; cases hf
  · rw [h1] at hf
    obtain ⟨rfl, rfl⟩ : xs' = xs ∧ su' = su := by
      have := List.cons.inj hf
      have h6 := (Prod.mk.inj this.1).2
      exact ⟨(Prod.mk.inj h6).1, (Prod.mk.inj h6).2⟩
    unfold syncD
    rw [h1, get1]
    simp only []
    by_cases hh : lost1 D.lost D.armed D.left = true
    · rw [if_pos hh]
      exact ⟨Or.inr ⟨xs', su', rfl, h2, h3, h4, h5⟩, fun h => by cases h⟩
    · rw [if_neg hh]
      exact ⟨Or.inr ⟨xs', xs'.length, put1 (xs', su') _, Nat.le_refl _, h3, by omega, h5⟩, fun _ => Or.inr ⟨xs', xs'.length, put1 (xs', su') _, Nat.le_refl _, List.take_length, Nat.le_refl _, h5⟩⟩
theorem SyncInv.crash {D : DSt} {S : List Int} {m : Nat} (h : SyncInv D S m) (ks : List Int) : S.length ≤ (readD (crashD D ks) [102]).1.length ∧ (readD (crashD D ks) [102]).1.take S.length = S ∧ (readD (crashD D ks) [102]).1.length ≤ m := by
  rcases h with ⟨h1, h2⟩ | ⟨xs, su, h1, h2, h3, h4, h5⟩
  · have e : readD (crashD D ks) [102] = ([], 6) := by unfold readD crashD; rw [h1]; rfl
    rw [e, h2]
    exact ⟨Nat.le_refl _, rfl, Nat.zero_le _⟩
  · have hc := crashN_le ks 0 (u := (xs, su)) h2
    simp only [] at hc
    have e : readD (crashD D ks) [102] = (xs.take (crashN ks 0 (xs, su)), 0) := by unfold readD crashD; rw [h1]; rfl
    rw [e]
    simp only []
    have hl : (xs.take (crashN ks 0 (xs, su))).length = crashN ks 0 (xs, su) := by rw [List.length_take]; omega
    refine ⟨by omega, ?_, by omega⟩
    rw [List.take_take, Nat.min_eq_left (by omega)]
    exact h3
theorem SyncInv.small {D : DSt} {S : List Int} {m : Nat} (h : SyncInv D S m) (hm : m ≤ 1000) : D.fs.length ≤ 1000000 ∧ (∀ f ∈ D.fs, f.1.length ≤ maxLen ∧ f.2.1.length ≤ 100000000000) ∧ ((getE D.fs [102]).getD ([], 0)).1.length ≤ m ∧ S.length ≤ m := by
  rcases h with ⟨h1, h2⟩ | ⟨xs, su, h1, h2, h3, h4, h5⟩
  · rw [h1, h2]
    exact ⟨Nat.zero_le _, (fun f hf => by cases hf), Nat.zero_le _, Nat.zero_le _⟩
  · rw [h1, get1]
    refine ⟨by show 1 ≤ 1000000; omega, fun f hf => ?_, h5, by omega⟩
    obtain rfl := List.mem_singleton.1 hf
    exact ⟨by show 1 ≤ maxLen; unfold maxLen; omega, by show xs.length ≤ _; omega⟩
theorem sees_hd {w : World} {ao : Option Addr} {c : Nat} {xs : List Int} (h : Sees w (.slice ao xs.length c) xs) {n : Nat} (hn : n ≤ xs.length) : Sees w (.slice ao n c) (xs.take n) := by
  obtain ⟨ao0, c0, he, hlc, hnil, hc⟩ := h
  cases he
  have e : (xs.take n).length = n := by rw [List.length_take]; omega
  refine ⟨ao, c, by rw [e], by omega, fun h => by rw [hnil h]; exact List.take_nil, fun a ha i hi => ?_⟩
  rw [e] at hi
  rw [hc a ha i (by omega)]
  simp only [List.getD, List.getElem?_take, if_pos hi]
set_option maxRecDepth 100000 in
set_option maxHeartbeats 4000000 in
theorem lawSyncs (w : World) (b : Value) (ls : List (List Int)) (n0 : Int) (kv : Value) (ks : List Int) (h : ArgRow w b ls) (n1 : 0 ≤ n0) (n2 : n0 ≤ 255) (hk : SeesU w kv ks) (hkb : ∀ x ∈ ks, 0 ≤ x ∧ x < 65536) (_ : ks.length ≤ maxLen) :
    Calls Try.prog 7 #[b, .int .u8 n0, kv] w fun e w' => e = .returned (.bool true) ∧ Below w.heap.size w w' := by
  obtain ⟨⟨ao, c, rfl, hlc, hnil, hc⟩, hok, hm⟩ := h
  unfold maxLen at hm
  have HC0 := Lib.hid (And.intro hnil hc)
  have HO := Lib.hid hok
  have HK := Lib.hid (And.intro hk hkb)
  clear hnil hc hok hk hkb
  have s1 : IntKind.i64.wrap n0 = n0 := IntWalk.i64_in _ (by omega)
  have s2 : Int.tmod n0 30 = n0 % 30 := Int.tmod_eq_emod_of_nonneg n1
  obtain ⟨A, hA⟩ : ∃ A, A = n0 % 30 := ⟨_, rfl⟩
  have hA0 : 0 ≤ A ∧ A < 30 := by omega
  rw [← hA] at s2
  have s3 : n0 % 30 = A := hA.symm
  clear hA
  go_enter Try.func7, Try.ntmps7
  go_wp2_with fail
  refine (new_disk w).mono ?_; rintro e w1 ⟨g, rfl, hD1, hg, hb1⟩
  go_wp2_with fail
  refine (arm_any g _ _ A _ hD1 (by omega) (by omega)).mono ?_; rintro e w2 ⟨rfl, hD2, hT2⟩
  have hB2 : Below w.heap.size w w2 := hb1.trans (hT2.below hb1.size (fun i e => by rw [e]; exact hg))
  clear hD1 hT2 hb1 s1 s2 s3
  go_wp2_with fail
  go_loopw [8, 23] (fun sv j wr => ∃ i : Nat, j = .int .i64 i ∧ i ≤ ls.length ∧ i ≤ 12 ∧ ∃ D P S, DiskAt wr g P D ∧ (∀ x, P x → w.heap.size ≤ x) ∧ Below w.heap.size w wr ∧ sv = .string (strOfNums S) ∧ SyncInv D S (40 * i)) (fun _ j _ => ls.length - (intOf j).toNat)
  case atStart => exact ⟨0, rfl, Nat.zero_le _, Nat.zero_le _, _, _, [], hD2, (fun x e => by rw [e]; exact hg), hB2, rfl, Or.inl ⟨rfl, rfl⟩⟩
  case round =>
    obtain ⟨i, rfl, hi, hi12, D, P, S, hD, hP, hB, rfl, hI⟩ := hrel
    have hmX : 40 * i ≤ 1000 := by omega
    by_cases hlt : i < ls.length
    · obtain ⟨a, rfl⟩ : ∃ a, ao = some a := by
        cases ao with
        | none => rw [HC0.out.1 rfl] at hlt; simp at hlt
        | some a => exact ⟨a, rfl⟩
      obtain ⟨u, hcu, hsu⟩ := HC0.out.2 a rfl i hlt
      have hcell : wr.cell? (a.add i) = some u := by rw [hB.cell (cell_lt8 hcu)]; exact hcu
      have hmem : ls.getD i [] ∈ ls := by simp [List.getD, hlt]
      have ho1 := (HO.out _ hmem).1
      obtain ⟨T, hT⟩ : ∃ T, T = ls.getD i [] := ⟨_, rfl⟩
      rw [← hT] at hsu ho1
      have HU : Hid (T ≠ [] → ∀ d, u.ownBlock = some d → d < w.heap.size) := Lib.hid (by
        obtain ⟨bo, cb, rfl, _, _, hcb⟩ := hsu
        intro hne d hd
        cases bo with
        | none => cases hd
        | some b0 =>
          have := cell_lt8 (hcb b0 rfl 0 (List.length_pos_iff.2 hne))
          rw [add_block] at this
          cases hd
          exact this)
      have b0 : (0 : Int) ≤ (i : Int) := by omega
      have b1 : (i : Int) < (ls.length : Int) := by omega
      have hsr := hsu.keep hB
      obtain ⟨uo, uc, rfl, -⟩ := id hsu
      have HSR := Lib.hid hsr
      have HOK := Lib.hid ho1
      clear hT hcu hsu hmem ho1 hsr
      by_cases h12 : i < 12
      · have d0 : decide (12 ≤ (i : Int)) = false := by simp; omega
        by_cases h40 : T.length ≤ 40
        · have d1 : decide (40 < (T.length : Int)) = false := by simp; omega
          have hsm := hI.small hmX
          have hI1 := hI.app (t := T) h40
          have HA := Lib.hid (append_any g P D nF (.slice uo T.length uc) T wr hD (by decide) (by decide) hsm.1 (by have := hsm.2.2.1; show ((getE D.fs [102]).getD ([], 0)).1.length + _ ≤ _; omega) HSR.out HOK.out (fun h0 d hd e => by
            have h1 := HU.out h0 d hd
            have h2 := hP g hD.self
            omega))
          obtain ⟨e1, he1⟩ : ∃ e1, e1 = (appD D [102] T).1 := ⟨_, rfl⟩
          obtain ⟨DA, hDA⟩ : ∃ DA, DA = (appD D [102] T).2 := ⟨_, rfl⟩
          have HAD : Hid (e1 = 0 → DA.lost = false ∧ ∃ xs su, DA.fs = [([102], (xs, su))]) := Lib.hid (fun h0 => by rw [hDA]; exact app_done hI (he1 ▸ h0))
          have HA2 : Hid (Calls Try.prog 33 #[ptr g, .string nF, .slice uo T.length uc] wr fun e w' => ∃ P', e = .returned (.int .i64 e1) ∧ DiskAt w' g P' DA ∧ Step P P' wr w') := Lib.hid (by rw [he1, hDA]; exact HA.out)
          rw [← hDA] at hI1
          clear he1 hDA HA hsm hI
          by_cases h0 : e1 = 0
          · subst h0
            obtain ⟨hlo, xs, su, hfs⟩ := HAD.out rfl
            have hrd : readD DA [102] = (xs, 0) := by unfold readD; rw [hfs, get1]; simp only []; rw [hlo]; rfl
            have HRD := Lib.hid hrd
            have HSY := Lib.hid (hI1.sync hfs hlo)
            have hsm := hI1.small (by omega)
            have HSM := Lib.hid hsm
            have hxl : xs.length ≤ 1000 := by have := hsm.2.2.1; rw [hfs, get1] at this; simp only [Option.getD_some] at this; omega
            have HF := Lib.hid (And.intro hfs hlo)
            have HI1 := Lib.hid hI1
            clear hfs hlo hrd hsm hI1
            go_wp2_with fail
            refine HA2.out.mono ?_; rintro e w3 ⟨P3, rfl, hD3, hS3⟩
            obtain ⟨hP3, hb3⟩ := hS3.ge (n := w.heap.size) hP hB.size
            have hB3 := hB.trans hb3
            go_wp2_with fail
            have HR := Lib.hid (read_any g P3 DA nF w3 hD3 (by decide) (by have := HSM.out.2.2.1; show ((getE DA.fs [102]).getD ([], 0)).1.length ≤ _; omega))
            rw [show readD DA nF.data.toList = (xs, 0) from HRD.out] at HR
            refine HR.out.mono ?_; rintro e w4 ⟨v4, rfl, ho4, hb4⟩
            have hB4 := bel hB3 hb4
            have hD4 := hD3.below hb4
            by_cases hev : i % 2 = 0
            · have d2 : ((i : Int) % 2 == 0) = true := by simp; omega
              have d3 : (Int.tmod (i : Int) 2 == 0) = true := by rw [Int.tmod_eq_emod_of_nonneg (by omega)]; exact d2
              have HY := Lib.hid (sync_any g P3 DA nF w4 hD4 (by decide) HSM.out.1)
              obtain ⟨e2, he2⟩ : ∃ e2, e2 = (syncD DA [102]).1 := ⟨_, rfl⟩
              obtain ⟨DB, hDB⟩ : ∃ DB, DB = (syncD DA [102]).2 := ⟨_, rfl⟩
              have HY2 : Hid (Calls Try.prog 34 #[ptr g, .string nF] w4 fun e w' => ∃ P', e = .returned (.int .i64 e2) ∧ DiskAt w' g P' DB ∧ Step P3 P' w4 w') := Lib.hid (by rw [he2, hDB]; exact HY.out)
              have hs1 := HSY.out.1
              have hs2 := HSY.out.2
              rw [← he2, ← hDB] at hs2
              rw [← hDB] at hs1
              have HSS := Lib.hid (And.intro hs1 hs2)
              clear he2 hDB HY hs1 hs2
              go_wp2_with fail
              refine HY2.out.mono ?_; rintro e w5 ⟨P5, rfl, hD5, hS5⟩
              obtain ⟨hP5, hb5⟩ := hS5.ge (n := w.heap.size) hP3 hB4.size
              have hB5 := hB4.trans hb5
              have ho5 : Sees w5 v4 xs := sees_heap ho4.sees (fun d hd hlt => hS5.1.2.2.2.2 d hlt (fun hp => by
                have h1 := hD3.lt hp
                have h2 := (World.ownsRow.lt ho4 d hd).1
                omega))
              have q1 := conv_sees ho5
              by_cases h2 : e2 = 0
              · subst h2
                have hI5 := HSS.out.2 rfl
                clear ho5
                go_wp2_with fail
                go_roundw
                case rel => exact ⟨i + 1, by go_num, by omega, by omega, DB, P5, xs, hD5, hP5, hB5, rfl, by rw [show 40 * (i + 1) = 40 * i + 40 from by omega]; exact hI5⟩
                case measure => simp [intOf]; omega
              · have d4 : (e2 == 0) = false := by simpa using h2
                have hI5 := HSS.out.1
                clear ho5
                go_wp2_with fail
                go_roundw
                case rel => exact ⟨i + 1, by go_num, by omega, by omega, DB, P5, S, hD5, hP5, hB5, rfl, by rw [show 40 * (i + 1) = 40 * i + 40 from by omega]; exact hI5⟩
                case measure => simp [intOf]; omega
            · have d2 : ((i : Int) % 2 == 0) = false := by simp; omega
              have d3 : (Int.tmod (i : Int) 2 == 0) = false := by rw [Int.tmod_eq_emod_of_nonneg (by omega)]; exact d2
              go_wp2_with fail
              go_roundw
              case rel => exact ⟨i + 1, by go_num, by omega, by omega, DA, P3, S, hD4, hP3, hB4, rfl, by rw [show 40 * (i + 1) = 40 * i + 40 from by omega]; exact HI1.out⟩
              case measure => simp [intOf]; omega
          · have d2 : (e1 != 0) = true := by simpa using h0
            go_wp2_with fail
            refine HA2.out.mono ?_; rintro e w3 ⟨P3, rfl, hDX, hS3⟩
            obtain ⟨hPX, hb3⟩ := hS3.ge (n := w.heap.size) hP hB.size
            have hBX := hB.trans hb3
            have hIX := hI1
            have hmX : 40 * i + 40 ≤ 1000 := by omega
            clear hD hI1
            have hsm := hIX.small hmX
            have hkX := HK.out.1.keep' (w' := w3) (fun h0 d hd hlt => hBX.block d hlt)
            have HC := Lib.hid (crash_any g P3 DA kv ks w3 hDX hsm.1 hsm.2.1 hkX HK.out.2 (fun h0 d hd hp => by
              have h1 := hPX d hp
              obtain ⟨ko, kc, e1, _, _, e2⟩ := HK.out.1
              subst e1
              cases ko with
              | none => cases hd
              | some ka =>
                have h2 := cell_lt8 (e2 ka rfl 0 (List.length_pos_iff.2 h0))
                rw [add_block] at h2
                cases hd
                omega))
            obtain ⟨k1, k2, k3⟩ := hIX.crash ks
            have HRx := Lib.hid (And.intro k1 (And.intro k2 k3))
            have HIX := Lib.hid hIX
            clear hIX k1 k2 k3 hkX hsm
            go_wp2_with fail
            refine HC.out.mono ?_; rintro e wc ⟨Pc, rfl, hDc, hSc⟩
            obtain ⟨hPc, hbc⟩ := hSc.ge (n := w.heap.size) hPX hBX.size
            have hBc := hBX.trans hbc
            go_wp2_with fail
            refine (read_any g Pc (crashD DA ks) nF _ hDc (by decide) (by
              have h1 := HIX.out
              rcases h1 with ⟨e1, _⟩ | ⟨xs, su, e1, e2, e3, e4, e5⟩
              · unfold crashD; rw [e1]; exact Nat.zero_le _
              · unfold crashD; rw [e1]
                show (xs.take (crashN ks 0 (xs, su))).length ≤ _
                rw [List.length_take]; omega)).mono ?_
            rintro e wd ⟨vd, rfl, hod, hbd⟩
            have hBd := bel hBc hbd
            obtain ⟨k1, k2, k3⟩ := HRx.out
            obtain ⟨R, hR⟩ : ∃ R, R = (readD (crashD DA ks) nF.data.toList).1 := ⟨_, rfl⟩
            have hR' : R = (readD (crashD DA ks) [102]).1 := hR
            rw [← hR] at hod
            rw [← hR'] at k1 k2 k3
            obtain ⟨ER, hER⟩ : ∃ ER, ER = (readD (crashD DA ks) nF.data.toList).2 := ⟨_, rfl⟩
            rw [← hER]
            have hsd := hod.sees
            obtain ⟨ad, cd, hvd, hlcd, -⟩ := id hsd
            subst hvd
            have q1 := conv_sees (sees_hd hsd k1)
            rw [k2] at q1
            have e1 : decide (((strOfNums S).size : Int) ≤ (R.length : Int)) = true := by rw [strOfNums_size]; simp; omega
            have e2 : ((strOfNums S).size : Int) = (S.length : Int) := by rw [strOfNums_size]
            have e3 : S.length ≤ cd := by omega
            have e4 : decide ((S.length : Int) ≤ (R.length : Int)) = true := by simp; omega
            have e5 : (S.length : Int) ≤ (cd : Int) := by omega
            have e6 : S.length ≤ R.length := k1
            have HK2 := Lib.hid (And.intro k1 (And.intro k2 k3))
            clear hR hR' hER k1 k2 k3 hsd hod
            go_wp2_with fail
            refine (awake6_any _).mono ?_; rintro e we ⟨rfl, hbe⟩
            go_wp2_with fail
            go_ret
            exact ⟨rfl, bel hBd hbe⟩
        · have d1 : decide (40 < (T.length : Int)) = true := by simp; omega
          have hDX := hD
          have hPX := hP
          have hBX := hB
          have hIX := hI
          clear hD hI
          have hsm := hIX.small hmX
          have hkX := HK.out.1.keep' (w' := wr) (fun h0 d hd hlt => hBX.block d hlt)
          have HC := Lib.hid (crash_any g P D kv ks wr hDX hsm.1 hsm.2.1 hkX HK.out.2 (fun h0 d hd hp => by
            have h1 := hPX d hp
            obtain ⟨ko, kc, e1, _, _, e2⟩ := HK.out.1
            subst e1
            cases ko with
            | none => cases hd
            | some ka =>
              have h2 := cell_lt8 (e2 ka rfl 0 (List.length_pos_iff.2 h0))
              rw [add_block] at h2
              cases hd
              omega))
          obtain ⟨k1, k2, k3⟩ := hIX.crash ks
          have HRx := Lib.hid (And.intro k1 (And.intro k2 k3))
          have HIX := Lib.hid hIX
          clear hIX k1 k2 k3 hkX hsm
          go_wp2_with fail
          refine HC.out.mono ?_; rintro e wc ⟨Pc, rfl, hDc, hSc⟩
          obtain ⟨hPc, hbc⟩ := hSc.ge (n := w.heap.size) hPX hBX.size
          have hBc := hBX.trans hbc
          go_wp2_with fail
          refine (read_any g Pc (crashD D ks) nF _ hDc (by decide) (by
            have h1 := HIX.out
            rcases h1 with ⟨e1, _⟩ | ⟨xs, su, e1, e2, e3, e4, e5⟩
            · unfold crashD; rw [e1]; exact Nat.zero_le _
            · unfold crashD; rw [e1]
              show (xs.take (crashN ks 0 (xs, su))).length ≤ _
              rw [List.length_take]; omega)).mono ?_
          rintro e wd ⟨vd, rfl, hod, hbd⟩
          have hBd := bel hBc hbd
          obtain ⟨k1, k2, k3⟩ := HRx.out
          obtain ⟨R, hR⟩ : ∃ R, R = (readD (crashD D ks) nF.data.toList).1 := ⟨_, rfl⟩
          have hR' : R = (readD (crashD D ks) [102]).1 := hR
          rw [← hR] at hod
          rw [← hR'] at k1 k2 k3
          obtain ⟨ER, hER⟩ : ∃ ER, ER = (readD (crashD D ks) nF.data.toList).2 := ⟨_, rfl⟩
          rw [← hER]
          have hsd := hod.sees
          obtain ⟨ad, cd, hvd, hlcd, -⟩ := id hsd
          subst hvd
          have q1 := conv_sees (sees_hd hsd k1)
          rw [k2] at q1
          have e1 : decide (((strOfNums S).size : Int) ≤ (R.length : Int)) = true := by rw [strOfNums_size]; simp; omega
          have e2 : ((strOfNums S).size : Int) = (S.length : Int) := by rw [strOfNums_size]
          have e3 : S.length ≤ cd := by omega
          have e4 : decide ((S.length : Int) ≤ (R.length : Int)) = true := by simp; omega
          have e5 : (S.length : Int) ≤ (cd : Int) := by omega
          have e6 : S.length ≤ R.length := k1
          have HK2 := Lib.hid (And.intro k1 (And.intro k2 k3))
          clear hR hR' hER k1 k2 k3 hsd hod
          go_wp2_with fail
          refine (awake6_any _).mono ?_; rintro e we ⟨rfl, hbe⟩
          go_wp2_with fail
          go_ret
          exact ⟨rfl, bel hBd hbe⟩
      · have d0 : decide (12 ≤ (i : Int)) = true := by simp; omega
        have hDX := hD
        have hPX := hP
        have hBX := hB
        have hIX := hI
        clear hD hI
        have hsm := hIX.small hmX
        have hkX := HK.out.1.keep' (w' := wr) (fun h0 d hd hlt => hBX.block d hlt)
        have HC := Lib.hid (crash_any g P D kv ks wr hDX hsm.1 hsm.2.1 hkX HK.out.2 (fun h0 d hd hp => by
          have h1 := hPX d hp
          obtain ⟨ko, kc, e1, _, _, e2⟩ := HK.out.1
          subst e1
          cases ko with
          | none => cases hd
          | some ka =>
            have h2 := cell_lt8 (e2 ka rfl 0 (List.length_pos_iff.2 h0))
            rw [add_block] at h2
            cases hd
            omega))
        obtain ⟨k1, k2, k3⟩ := hIX.crash ks
        have HRx := Lib.hid (And.intro k1 (And.intro k2 k3))
        have HIX := Lib.hid hIX
        clear hIX k1 k2 k3 hkX hsm
        go_wp2_with fail
        refine HC.out.mono ?_; rintro e wc ⟨Pc, rfl, hDc, hSc⟩
        obtain ⟨hPc, hbc⟩ := hSc.ge (n := w.heap.size) hPX hBX.size
        have hBc := hBX.trans hbc
        go_wp2_with fail
        refine (read_any g Pc (crashD D ks) nF _ hDc (by decide) (by
          have h1 := HIX.out
          rcases h1 with ⟨e1, _⟩ | ⟨xs, su, e1, e2, e3, e4, e5⟩
          · unfold crashD; rw [e1]; exact Nat.zero_le _
          · unfold crashD; rw [e1]
            show (xs.take (crashN ks 0 (xs, su))).length ≤ _
            rw [List.length_take]; omega)).mono ?_
        rintro e wd ⟨vd, rfl, hod, hbd⟩
        have hBd := bel hBc hbd
        obtain ⟨k1, k2, k3⟩ := HRx.out
        obtain ⟨R, hR⟩ : ∃ R, R = (readD (crashD D ks) nF.data.toList).1 := ⟨_, rfl⟩
        have hR' : R = (readD (crashD D ks) [102]).1 := hR
        rw [← hR] at hod
        rw [← hR'] at k1 k2 k3
        obtain ⟨ER, hER⟩ : ∃ ER, ER = (readD (crashD D ks) nF.data.toList).2 := ⟨_, rfl⟩
        rw [← hER]
        have hsd := hod.sees
        obtain ⟨ad, cd, hvd, hlcd, -⟩ := id hsd
        subst hvd
        have q1 := conv_sees (sees_hd hsd k1)
        rw [k2] at q1
        have e1 : decide (((strOfNums S).size : Int) ≤ (R.length : Int)) = true := by rw [strOfNums_size]; simp; omega
        have e2 : ((strOfNums S).size : Int) = (S.length : Int) := by rw [strOfNums_size]
        have e3 : S.length ≤ cd := by omega
        have e4 : decide ((S.length : Int) ≤ (R.length : Int)) = true := by simp; omega
        have e5 : (S.length : Int) ≤ (cd : Int) := by omega
        have e6 : S.length ≤ R.length := k1
        have HK2 := Lib.hid (And.intro k1 (And.intro k2 k3))
        clear hR hR' hER k1 k2 k3 hsd hod
        go_wp2_with fail
        refine (awake6_any _).mono ?_; rintro e we ⟨rfl, hbe⟩
        go_wp2_with fail
        go_ret
        exact ⟨rfl, bel hBd hbe⟩
    · have hDX := hD
      have hPX := hP
      have hBX := hB
      have hIX := hI
      clear hD hI
      have hsm := hIX.small hmX
      have hkX := HK.out.1.keep' (w' := wr) (fun h0 d hd hlt => hBX.block d hlt)
      have HC := Lib.hid (crash_any g P D kv ks wr hDX hsm.1 hsm.2.1 hkX HK.out.2 (fun h0 d hd hp => by
        have h1 := hPX d hp
        obtain ⟨ko, kc, e1, _, _, e2⟩ := HK.out.1
        subst e1
        cases ko with
        | none => cases hd
        | some ka =>
          have h2 := cell_lt8 (e2 ka rfl 0 (List.length_pos_iff.2 h0))
          rw [add_block] at h2
          cases hd
          omega))
      obtain ⟨k1, k2, k3⟩ := hIX.crash ks
      have HRx := Lib.hid (And.intro k1 (And.intro k2 k3))
      have HIX := Lib.hid hIX
      clear hIX k1 k2 k3 hkX hsm
      go_wp2_with fail
      refine HC.out.mono ?_; rintro e wc ⟨Pc, rfl, hDc, hSc⟩
      obtain ⟨hPc, hbc⟩ := hSc.ge (n := w.heap.size) hPX hBX.size
      have hBc := hBX.trans hbc
      go_wp2_with fail
      refine (read_any g Pc (crashD D ks) nF _ hDc (by decide) (by
        have h1 := HIX.out
        rcases h1 with ⟨e1, _⟩ | ⟨xs, su, e1, e2, e3, e4, e5⟩
        · unfold crashD; rw [e1]; exact Nat.zero_le _
        · unfold crashD; rw [e1]
          show (xs.take (crashN ks 0 (xs, su))).length ≤ _
          rw [List.length_take]; omega)).mono ?_
      rintro e wd ⟨vd, rfl, hod, hbd⟩
      have hBd := bel hBc hbd
      obtain ⟨k1, k2, k3⟩ := HRx.out
      obtain ⟨R, hR⟩ : ∃ R, R = (readD (crashD D ks) nF.data.toList).1 := ⟨_, rfl⟩
      have hR' : R = (readD (crashD D ks) [102]).1 := hR
      rw [← hR] at hod
      rw [← hR'] at k1 k2 k3
      obtain ⟨ER, hER⟩ : ∃ ER, ER = (readD (crashD D ks) nF.data.toList).2 := ⟨_, rfl⟩
      rw [← hER]
      have hsd := hod.sees
      obtain ⟨ad, cd, hvd, hlcd, -⟩ := id hsd
      subst hvd
      have q1 := conv_sees (sees_hd hsd k1)
      rw [k2] at q1
      have e1 : decide (((strOfNums S).size : Int) ≤ (R.length : Int)) = true := by rw [strOfNums_size]; simp; omega
      have e2 : ((strOfNums S).size : Int) = (S.length : Int) := by rw [strOfNums_size]
      have e3 : S.length ≤ cd := by omega
      have e4 : decide ((S.length : Int) ≤ (R.length : Int)) = true := by simp; omega
      have e5 : (S.length : Int) ≤ (cd : Int) := by omega
      have e6 : S.length ≤ R.length := k1
      have HK2 := Lib.hid (And.intro k1 (And.intro k2 k3))
      clear hR hR' hER k1 k2 k3 hsd hod
      go_wp2_with fail
      refine (awake6_any _).mono ?_; rintro e we ⟨rfl, hbe⟩
      go_wp2_with fail
      go_ret
      exact ⟨rfl, bel hBd hbe⟩
end Go.Proofs.Ytkjdfelmjanpcaa
