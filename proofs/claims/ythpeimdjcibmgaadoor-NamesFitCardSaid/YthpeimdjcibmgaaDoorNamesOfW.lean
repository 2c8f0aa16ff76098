/- The law NamesOf: of what one thing at most a key is; the walk. -/
import Derived.Test.YthpeimdjcibmgaaDoorNamesNamedW
namespace Go.Proofs.YthpeimdjcibmgaaDoor
open Go.RowKit Go.Maps
theorem sliceTo120 (s : ByteArray) (hs : 120 ≤ s.size) (W : World) : (Instr.slice 9 (.string s) none (some (.int .i64 120)) none).run Tryd.prog W = .ok (.string (s.extract 0 120)) W := by
  rw [run_slice_string_h W 9 s Tryd.underlying9 .i64 120 (by omega) (by omega)]; rfl
def P0 : Value := .tuple #[.agg #[.int .u32 0, .int .i64 0], .bool false]
def B0 : Value := .tuple #[.int .u32 0, .bool false]
def A0 : Value := .tuple #[.string em, .int .u32 0, .bool false]
def H0 : Value := .tuple #[.string em, .bool false]
def pV (s : ByteArray) : Value := poolV (starts s pPool) (rnet (rest s pPool).data.toList)
def bV (s : ByteArray) : Value := if starts s pBlk = true then rblkV (rblk (rest s pBlk).data.toList) else .tuple #[.int .u32 0, .bool false]
def aV (s : ByteArray) : Value := affV (starts s pAff) (rblk (cutB (rest s pAff)).data.toList) (okName (cutN (rest s pAff)).data.toList) (cutN (rest s pAff))
def hV (s : ByteArray) : Value := if (starts s pHan && okName (rest s pHan).data.toList) = true then .tuple #[.string (rest s pHan), .bool true] else .tuple #[.string em, .bool false]
def nV (s : ByteArray) : Value := if (starts s pNod && okName (rest s pNod).data.toList) = true then .tuple #[.string (rest s pNod), .bool true] else .tuple #[.string em, .bool false]
theorem pV_no {s : ByteArray} (h : starts s pPool = false) : pV s = P0 := by
  unfold pV poolV
  rw [h]
  split
  · simp [P0]
  · rfl
theorem bV_no {s : ByteArray} (h : starts s pBlk = false) : bV s = B0 := by
  unfold bV
  rw [h]
  simp [B0]
theorem aV_no {s : ByteArray} (h : starts s pAff = false) : aV s = A0 := by
  unfold aV affV
  rw [h]
  split
  · simp [A0]
  · rfl
theorem hV_no {s : ByteArray} (h : starts s pHan = false) : hV s = H0 := by
  unfold hV
  rw [h]
  simp [H0]
theorem nV_no {s : ByteArray} (h : starts s pNod = false) : nV s = H0 := by
  unfold nV
  rw [h]
  simp [H0]
def Kinds (s : ByteArray) (P B A H N : Value) : Prop :=
  (P = P0 ∧ B = B0 ∧ A = A0 ∧ H = H0 ∧ N = H0)
  ∨ (∃ a b : Int, mayB a b = true ∧ poolOk a b = true ∧ 0 ≤ a ∧ a < 4294967296 ∧ pPool ++ ⟨(keyTxt a b).toArray⟩ = s ∧ P = .tuple #[.agg #[.int .u32 a, .int .i64 b], .bool true] ∧ B = B0 ∧ A = A0 ∧ H = H0 ∧ N = H0)
  ∨ (∃ a : Int, a - a % 64 = a ∧ 0 ≤ a ∧ a < 4294967296 ∧ pBlk ++ ⟨(blkTxt a).toArray⟩ = s ∧ P = P0 ∧ B = .tuple #[.int .u32 a, .bool true] ∧ A = A0 ∧ H = H0 ∧ N = H0)
  ∨ (∃ (n : ByteArray) (a : Int), okName n.data.toList = true ∧ a - a % 64 = a ∧ 0 ≤ a ∧ a < 4294967296 ∧ pAff ++ n ++ slash ++ ⟨(blkTxt a).toArray⟩ = s ∧ P = P0 ∧ B = B0 ∧ A = .tuple #[.string n, .int .u32 a, .bool true] ∧ H = H0 ∧ N = H0)
  ∨ (∃ n : ByteArray, okName n.data.toList = true ∧ pHan ++ n = s ∧ P = P0 ∧ B = B0 ∧ A = A0 ∧ H = .tuple #[.string n, .bool true] ∧ N = H0)
  ∨ (∃ n : ByteArray, okName n.data.toList = true ∧ pNod ++ n = s ∧ P = P0 ∧ B = B0 ∧ A = A0 ∧ H = H0 ∧ N = .tuple #[.string n, .bool true])
theorem pDat : pPool.data.toList = 112 :: [111, 111, 108, 47] := rfl
theorem bDat : pBlk.data.toList = 98 :: [108, 111, 99, 107, 47] := rfl
theorem aDat : pAff.data.toList = 97 :: [102, 102, 47] := rfl
theorem hDat : pHan.data.toList = 104 :: [97, 110, 100, 108, 101, 47] := rfl
theorem nDat : pNod.data.toList = 110 :: [111, 100, 101, 47] := rfl
theorem kinds (s : ByteArray) : Kinds s (pV s) (bV s) (aV s) (hV s) (nV s) := by
  cases hp : starts s pPool with
  | true =>
    have hb := bV_no (not_starts hp pDat bDat (by decide))
    have ha := aV_no (not_starts hp pDat aDat (by decide))
    have hh := hV_no (not_starts hp pDat hDat (by decide))
    have hn := nV_no (not_starts hp pDat nDat (by decide))
    have he := rest_eq hp
    cases hr : rnet (rest s pPool).data.toList with
    | none => exact Or.inl ⟨by unfold pV poolV; rw [hr]; rfl, hb, ha, hh, hn⟩
    | some p =>
      obtain ⟨a, b⟩ := p
      obtain ⟨hm, hk, h0, h1⟩ := rnet_some hr
      simp only [] at hm hk h0 h1
      by_cases h26 : b ≤ 26
      · refine Or.inr (Or.inl ⟨a, b, hm, by unfold poolOk; rw [hm, decide_eq_true h26]; rfl, h0, h1, ?_, ?_, hb, ha, hh, hn⟩)
        · rw [hk]; exact he.symm
        · unfold pV poolV; rw [hr, hp]; simp [h26]
      · exact Or.inl ⟨by unfold pV poolV; rw [hr, hp]; simp [h26, P0], hb, ha, hh, hn⟩
  | false =>
    have hpv := pV_no hp
    cases hb : starts s pBlk with
    | true =>
      have ha := aV_no (not_starts hb bDat aDat (by decide))
      have hh := hV_no (not_starts hb bDat hDat (by decide))
      have hn := nV_no (not_starts hb bDat nDat (by decide))
      have he := rest_eq hb
      cases hr : rblk (rest s pBlk).data.toList with
      | none => exact Or.inl ⟨hpv, by unfold bV; rw [hb, if_pos rfl, hr]; rfl, ha, hh, hn⟩
      | some a =>
        obtain ⟨hk, hz, h0, h1⟩ := rblk_some hr
        refine Or.inr (Or.inr (Or.inl ⟨a, hz, h0, h1, ?_, hpv, by unfold bV; rw [hb, if_pos rfl, hr]; rfl, ha, hh, hn⟩))
        rw [← hk, Lib.mk_data]; exact he.symm
    | false =>
      have hbv := bV_no hb
      cases ha : starts s pAff with
      | true =>
        have hh := hV_no (not_starts ha aDat hDat (by decide))
        have hn := nV_no (not_starts ha aDat nDat (by decide))
        have he := rest_eq ha
        cases hr : rblk (cutB (rest s pAff)).data.toList with
        | none => exact Or.inl ⟨hpv, hbv, by unfold aV affV; rw [hr]; rfl, hh, hn⟩
        | some a =>
          cases hk : okName (cutN (rest s pAff)).data.toList with
          | false => exact Or.inl ⟨hpv, hbv, by unfold aV affV; rw [hr, hk, ha]; rfl, hh, hn⟩
          | true =>
            obtain ⟨_, hz, h0, h1⟩ := rblk_some hr
            have hc := cut_back hr
            refine Or.inr (Or.inr (Or.inr (Or.inl ⟨cutN (rest s pAff), a, hk, hz, h0, h1, ?_, hpv, hbv, by unfold aV affV; rw [hr, hk, ha]; rfl, hh, hn⟩)))
            rw [app_assoc, app_assoc, ← app_assoc (cutN (rest s pAff)), ← hc]
            exact he.symm
      | false =>
        have hav := aV_no ha
        cases hh : starts s pHan with
        | true =>
          have hn := nV_no (not_starts hh hDat nDat (by decide))
          have he := rest_eq hh
          cases hk : okName (rest s pHan).data.toList with
          | false => exact Or.inl ⟨hpv, hbv, hav, by unfold hV; rw [hh, hk]; rfl, hn⟩
          | true => exact Or.inr (Or.inr (Or.inr (Or.inr (Or.inl ⟨rest s pHan, hk, he.symm, hpv, hbv, hav, by unfold hV; rw [hh, hk]; rfl, hn⟩))))
        | false =>
          have hhv := hV_no hh
          cases hn : starts s pNod with
          | false => exact Or.inl ⟨hpv, hbv, hav, hhv, nV_no hn⟩
          | true =>
            have he := rest_eq hn
            cases hk : okName (rest s pNod).data.toList with
            | false => exact Or.inl ⟨hpv, hbv, hav, hhv, by unfold nV; rw [hn, hk]; rfl⟩
            | true => exact Or.inr (Or.inr (Or.inr (Or.inr (Or.inr ⟨rest s pNod, hk, he.symm, hpv, hbv, hav, hhv, by unfold nV; rw [hn, hk]; rfl⟩))))
theorem size_of_han {n s : ByteArray} (h : pHan ++ n = s) : n.size ≤ s.size := by rw [← h, app_size]; omega
theorem size_of_nod {n s : ByteArray} (h : pNod ++ n = s) : n.size ≤ s.size := by rw [← h, app_size]; omega
theorem size_of_aff {n s x : ByteArray} (h : pAff ++ n ++ slash ++ x = s) : n.size ≤ s.size := by rw [← h, app_size, app_size, app_size]; omega
set_option maxRecDepth 100000 in
set_option maxHeartbeats 8000000 in
theorem lawOf (w : World) (s : ByteArray) (hE : Env w) :
    Calls Tryd.prog 5 #[.string s] w fun e w' => e = .returned (.bool true) ∧ Below w.heap.size w w' := by
  have HA := Lib.hid (fun w hE => awake12_any w hE)
  by_cases h120 : 120 < s.size
  · have d0 : decide (120 < (s.size : Int)) = true := by simp; omega
    have hsl := sliceTo120 s (by omega)
    have ht : (s.extract 0 120).size ≤ 120 := by rw [ByteArray.size_extract]; omega
    generalize s.extract 0 120 = t at hsl ht
    clear h120
    have HP : Hid (∀ w, Env w → Calls Tryd.prog 9 #[.string t] w fun e w' => e = .returned (pV t) ∧ Below w.heap.size w w') := Lib.hid (fun w hE => ofPool_any t w hE (by omega))
    have HB : Hid (∀ w, Env w → Calls Tryd.prog 10 #[.string t] w fun e w' => e = .returned (bV t) ∧ Below w.heap.size w w') := Lib.hid (fun w hE => ofBlock_any t w hE (by omega))
    have HAf : Hid (∀ w, Env w → Calls Tryd.prog 21 #[.string t] w fun e w' => e = .returned (aV t) ∧ Below w.heap.size w w') := Lib.hid (fun w hE => ofAff_any t w hE (by omega))
    have HH : Hid (∀ w, Calls Tryd.prog 22 #[.string t] w fun e w' => e = .returned (hV t) ∧ Below w.heap.size w w') := Lib.hid (fun w => ofHandle_any t (by unfold maxLen; omega) w)
    have HN : Hid (∀ w, Calls Tryd.prog 23 #[.string t] w fun e w' => e = .returned (nV t) ∧ Below w.heap.size w w') := Lib.hid (fun w => ofNode_any t (by unfold maxLen; omega) w)
    have HK := Lib.hid (kinds t)
    generalize pV t = P at HP HK
    generalize bV t = B at HB HK
    generalize aV t = A at HAf HK
    generalize hV t = H at HH HK
    generalize nV t = N at HN HK
    go_enter Tryd.func5, Tryd.ntmps5
    go_upto_region 3 with fail
    clear d0 hsl
    rcases HK.out with ⟨rfl, rfl, rfl, rfl, rfl⟩ | ⟨a, b, hm, hpo, h0, h1, hk, rfl, rfl, rfl, rfl, rfl⟩ | ⟨a, hz, h0, h1, hk, rfl, rfl, rfl, rfl, rfl⟩ | ⟨n, a, hok, hz, h0, h1, hk, rfl, rfl, rfl, rfl, rfl⟩ | ⟨n, hok, hk, rfl, rfl, rfl, rfl, rfl⟩ | ⟨n, hok, hk, rfl, rfl, rfl, rfl, rfl⟩
    · unfold P0 at HP
      unfold B0 at HB
      unfold A0 at HAf
      unfold H0 at HH
      unfold H0 at HN
      go_wp2_with fail
      refine (HP.out _ hE).mono ?_; rintro e w1 ⟨rfl, hb1⟩
      have hB1 := hb1
      have hB1 := belAlloc hB1 (.cells #[.int .u32 0, .int .i64 0] 28)
      go_wp2_with fail
      refine (HB.out _ (hE.below hB1)).mono ?_; rintro e w2 ⟨rfl, hb2⟩
      have hB2 := bel hB1 hb2
      go_wp2_with fail
      refine (HAf.out _ (hE.below hB2)).mono ?_; rintro e w3 ⟨rfl, hb3⟩
      have hB3 := bel hB2 hb3
      go_wp2_with fail
      refine (HH.out _).mono ?_; rintro e w4 ⟨rfl, hb4⟩
      have hB4 := bel hB3 hb4
      go_wp2_with fail
      refine (HN.out _).mono ?_; rintro e w5 ⟨rfl, hb5⟩
      have hB5 := bel hB4 hb5
      go_wp2_with fail
      refine (HA.out _ (hE.below hB5)).mono ?_; rintro e w6 ⟨rfl, hb6⟩
      have hB6 := bel hB5 hb6
      go_wp2_with fail
      go_ret
      exact ⟨rfl, hB6⟩
    · obtain ⟨b0, b1⟩ := may_bits hm
      have HR : Hid (∀ w, Calls Tryd.prog 8 #[.agg #[.int .u32 a, .int .i64 b]] w fun e w' => e = .returned (.tuple #[.string t, .bool true]) ∧ Below w.heap.size w w') := Lib.hid (fun w => by have h := refPool_any a b h0 h1 (by omega) (by omega) w; rw [if_pos hpo, hk] at h; exact h)
      clear hk hpo hm b0 b1
      unfold B0 at HB
      unfold A0 at HAf
      unfold H0 at HH
      unfold H0 at HN
      go_wp2_with fail
      refine (HP.out _ hE).mono ?_; rintro e w1 ⟨rfl, hb1⟩
      have hB1 := hb1
      have hB1 := belAlloc hB1 (.cells #[.int .u32 a, .int .i64 b] 28)
      go_wp2_with fail
      refine (HR.out _).mono ?_; rintro e w2 ⟨rfl, hb2⟩
      have hB2 := bel hB1 hb2
      go_wp2_with fail
      refine (HB.out _ (hE.below hB2)).mono ?_; rintro e w3 ⟨rfl, hb3⟩
      have hB3 := bel hB2 hb3
      go_wp2_with fail
      refine (HAf.out _ (hE.below hB3)).mono ?_; rintro e w4 ⟨rfl, hb4⟩
      have hB4 := bel hB3 hb4
      go_wp2_with fail
      refine (HH.out _).mono ?_; rintro e w5 ⟨rfl, hb5⟩
      have hB5 := bel hB4 hb5
      go_wp2_with fail
      refine (HN.out _).mono ?_; rintro e w6 ⟨rfl, hb6⟩
      have hB6 := bel hB5 hb6
      go_wp2_with fail
      refine (HA.out _ (hE.below hB6)).mono ?_; rintro e w7 ⟨rfl, hb7⟩
      have hB7 := bel hB6 hb7
      go_wp2_with fail
      go_ret
      exact ⟨rfl, hB7⟩
    · have HR : Hid (∀ w, Calls Tryd.prog 12 #[.int .u32 a] w fun e w' => e = .returned (.string t) ∧ Below w.heap.size w w') := Lib.hid (fun w => by have h := refBlock_any a h0 h1 w; rw [hk] at h; exact h)
      have HF : Hid (∀ w, Calls Tryd.prog 13 #[.int .u32 a] w fun e w' => e = .returned (.int .u32 a) ∧ Below w.heap.size w w') := Lib.hid (fun w => by have h := refFirst_any a h0 h1 w; rw [hz] at h; exact h)
      clear hk hz
      unfold P0 at HP
      unfold A0 at HAf
      unfold H0 at HH
      unfold H0 at HN
      go_wp2_with fail
      refine (HP.out _ hE).mono ?_; rintro e w1 ⟨rfl, hb1⟩
      have hB1 := hb1
      have hB1 := belAlloc hB1 (.cells #[.int .u32 0, .int .i64 0] 28)
      go_wp2_with fail
      refine (HB.out _ (hE.below hB1)).mono ?_; rintro e w2 ⟨rfl, hb2⟩
      have hB2 := bel hB1 hb2
      go_wp2_with fail
      refine (HR.out _).mono ?_; rintro e w3 ⟨rfl, hb3⟩
      have hB3 := bel hB2 hb3
      go_wp2_with fail
      refine (HF.out _).mono ?_; rintro e w4 ⟨rfl, hb4⟩
      have hB4 := bel hB3 hb4
      go_wp2_with fail
      refine (HAf.out _ (hE.below hB4)).mono ?_; rintro e w5 ⟨rfl, hb5⟩
      have hB5 := bel hB4 hb5
      go_wp2_with fail
      refine (HH.out _).mono ?_; rintro e w6 ⟨rfl, hb6⟩
      have hB6 := bel hB5 hb6
      go_wp2_with fail
      refine (HN.out _).mono ?_; rintro e w7 ⟨rfl, hb7⟩
      have hB7 := bel hB6 hb7
      go_wp2_with fail
      refine (HA.out _ (hE.below hB7)).mono ?_; rintro e w8 ⟨rfl, hb8⟩
      have hB8 := bel hB7 hb8
      go_wp2_with fail
      go_ret
      exact ⟨rfl, hB8⟩
    · have hnz := size_of_aff hk
      have HR : Hid (∀ w, Calls Tryd.prog 24 #[.string n, .int .u32 a] w fun e w' => e = .returned (.string t) ∧ Below w.heap.size w w') := Lib.hid (fun w => by have h := refAff_any n a (by have := okName_size hok; omega) h0 h1 w; rw [hk] at h; exact h)
      have HF : Hid (∀ w, Calls Tryd.prog 13 #[.int .u32 a] w fun e w' => e = .returned (.int .u32 a) ∧ Below w.heap.size w w') := Lib.hid (fun w => by have h := refFirst_any a h0 h1 w; rw [hz] at h; exact h)
      have hn64 := okName_size hok
      have HQ : Hid (∀ w, Calls Tryd.prog 20 #[.string n] w fun e w' => e = .returned (.bool true) ∧ w = w') := Lib.hid (fun w => by have h := refRight12_any n w (by unfold maxLen; omega); rw [hok] at h; exact h)
      clear hk hz
      clear hok hn64 hnz
      unfold P0 at HP
      unfold B0 at HB
      unfold H0 at HH
      unfold H0 at HN
      go_wp2_with fail
      refine (HP.out _ hE).mono ?_; rintro e w1 ⟨rfl, hb1⟩
      have hB1 := hb1
      have hB1 := belAlloc hB1 (.cells #[.int .u32 0, .int .i64 0] 28)
      go_wp2_with fail
      refine (HB.out _ (hE.below hB1)).mono ?_; rintro e w2 ⟨rfl, hb2⟩
      have hB2 := bel hB1 hb2
      go_wp2_with fail
      refine (HAf.out _ (hE.below hB2)).mono ?_; rintro e w3 ⟨rfl, hb3⟩
      have hB3 := bel hB2 hb3
      go_wp2_with fail
      refine (HR.out _).mono ?_; rintro e w4 ⟨rfl, hb4⟩
      have hB4 := bel hB3 hb4
      go_wp2_with fail
      refine (HQ.out _).mono ?_; rintro e wq ⟨rfl, rfl⟩
      go_wp2_with fail
      refine (HF.out _).mono ?_; rintro e w5 ⟨rfl, hb5⟩
      have hB5 := bel hB4 hb5
      go_wp2_with fail
      refine (HH.out _).mono ?_; rintro e w6 ⟨rfl, hb6⟩
      have hB6 := bel hB5 hb6
      go_wp2_with fail
      refine (HN.out _).mono ?_; rintro e w7 ⟨rfl, hb7⟩
      have hB7 := bel hB6 hb7
      go_wp2_with fail
      refine (HA.out _ (hE.below hB7)).mono ?_; rintro e w8 ⟨rfl, hb8⟩
      have hB8 := bel hB7 hb8
      go_wp2_with fail
      go_ret
      exact ⟨rfl, hB8⟩
    · have hn64 := okName_size hok
      have HQ : Hid (∀ w, Calls Tryd.prog 20 #[.string n] w fun e w' => e = .returned (.bool true) ∧ w = w') := Lib.hid (fun w => by have h := refRight12_any n w (by unfold maxLen; omega); rw [hok] at h; exact h)
      have q : ¬ 9223372036854775807 < 7 + n.size := by omega
      subst hk
      clear hok hn64 ht
      unfold P0 at HP
      unfold B0 at HB
      unfold A0 at HAf
      unfold H0 at HN
      go_wp2_with fail
      refine (HP.out _ hE).mono ?_; rintro e w1 ⟨rfl, hb1⟩
      have hB1 := hb1
      have hB1 := belAlloc hB1 (.cells #[.int .u32 0, .int .i64 0] 28)
      go_wp2_with fail
      refine (HB.out _ (hE.below hB1)).mono ?_; rintro e w2 ⟨rfl, hb2⟩
      have hB2 := bel hB1 hb2
      go_wp2_with fail
      refine (HAf.out _ (hE.below hB2)).mono ?_; rintro e w3 ⟨rfl, hb3⟩
      have hB3 := bel hB2 hb3
      go_wp2_with fail
      refine (HH.out _).mono ?_; rintro e w4 ⟨rfl, hb4⟩
      have hB4 := bel hB3 hb4
      go_wp2_with fail
      refine (HQ.out _).mono ?_; rintro e wq ⟨rfl, rfl⟩
      go_wp2_with fail
      refine (HN.out _).mono ?_; rintro e w5 ⟨rfl, hb5⟩
      have hB5 := bel hB4 hb5
      go_wp2_with fail
      refine (HA.out _ (hE.below hB5)).mono ?_; rintro e w6 ⟨rfl, hb6⟩
      have hB6 := bel hB5 hb6
      go_wp2_with fail
      go_ret
      exact ⟨rfl, hB6⟩
    · have hn64 := okName_size hok
      have HQ : Hid (∀ w, Calls Tryd.prog 20 #[.string n] w fun e w' => e = .returned (.bool true) ∧ w = w') := Lib.hid (fun w => by have h := refRight12_any n w (by unfold maxLen; omega); rw [hok] at h; exact h)
      have q : ¬ 9223372036854775807 < 5 + n.size := by omega
      subst hk
      clear hok hn64 ht
      unfold P0 at HP
      unfold B0 at HB
      unfold A0 at HAf
      unfold H0 at HH
      go_wp2_with fail
      refine (HP.out _ hE).mono ?_; rintro e w1 ⟨rfl, hb1⟩
      have hB1 := hb1
      have hB1 := belAlloc hB1 (.cells #[.int .u32 0, .int .i64 0] 28)
      go_wp2_with fail
      refine (HB.out _ (hE.below hB1)).mono ?_; rintro e w2 ⟨rfl, hb2⟩
      have hB2 := bel hB1 hb2
      go_wp2_with fail
      refine (HAf.out _ (hE.below hB2)).mono ?_; rintro e w3 ⟨rfl, hb3⟩
      have hB3 := bel hB2 hb3
      go_wp2_with fail
      refine (HH.out _).mono ?_; rintro e w4 ⟨rfl, hb4⟩
      have hB4 := bel hB3 hb4
      go_wp2_with fail
      refine (HN.out _).mono ?_; rintro e w5 ⟨rfl, hb5⟩
      have hB5 := bel hB4 hb5
      go_wp2_with fail
      refine (HQ.out _).mono ?_; rintro e wq ⟨rfl, rfl⟩
      go_wp2_with fail
      refine (HA.out _ (hE.below hB5)).mono ?_; rintro e w6 ⟨rfl, hb6⟩
      have hB6 := bel hB5 hb6
      go_wp2_with fail
      go_ret
      exact ⟨rfl, hB6⟩
  · have d0 : decide (120 < (s.size : Int)) = false := by simp; omega
    have ht : s.size ≤ 120 := by omega
    clear h120
    have HP : Hid (∀ w, Env w → Calls Tryd.prog 9 #[.string s] w fun e w' => e = .returned (pV s) ∧ Below w.heap.size w w') := Lib.hid (fun w hE => ofPool_any s w hE (by omega))
    have HB : Hid (∀ w, Env w → Calls Tryd.prog 10 #[.string s] w fun e w' => e = .returned (bV s) ∧ Below w.heap.size w w') := Lib.hid (fun w hE => ofBlock_any s w hE (by omega))
    have HAf : Hid (∀ w, Env w → Calls Tryd.prog 21 #[.string s] w fun e w' => e = .returned (aV s) ∧ Below w.heap.size w w') := Lib.hid (fun w hE => ofAff_any s w hE (by omega))
    have HH : Hid (∀ w, Calls Tryd.prog 22 #[.string s] w fun e w' => e = .returned (hV s) ∧ Below w.heap.size w w') := Lib.hid (fun w => ofHandle_any s (by unfold maxLen; omega) w)
    have HN : Hid (∀ w, Calls Tryd.prog 23 #[.string s] w fun e w' => e = .returned (nV s) ∧ Below w.heap.size w w') := Lib.hid (fun w => ofNode_any s (by unfold maxLen; omega) w)
    have HK := Lib.hid (kinds s)
    generalize pV s = P at HP HK
    generalize bV s = B at HB HK
    generalize aV s = A at HAf HK
    generalize hV s = H at HH HK
    generalize nV s = N at HN HK
    go_enter Tryd.func5, Tryd.ntmps5
    go_upto_region 3 with fail
    clear d0
    rcases HK.out with ⟨rfl, rfl, rfl, rfl, rfl⟩ | ⟨a, b, hm, hpo, h0, h1, hk, rfl, rfl, rfl, rfl, rfl⟩ | ⟨a, hz, h0, h1, hk, rfl, rfl, rfl, rfl, rfl⟩ | ⟨n, a, hok, hz, h0, h1, hk, rfl, rfl, rfl, rfl, rfl⟩ | ⟨n, hok, hk, rfl, rfl, rfl, rfl, rfl⟩ | ⟨n, hok, hk, rfl, rfl, rfl, rfl, rfl⟩
    · unfold P0 at HP
      unfold B0 at HB
      unfold A0 at HAf
      unfold H0 at HH
      unfold H0 at HN
      go_wp2_with fail
      refine (HP.out _ hE).mono ?_; rintro e w1 ⟨rfl, hb1⟩
      have hB1 := hb1
      have hB1 := belAlloc hB1 (.cells #[.int .u32 0, .int .i64 0] 28)
      go_wp2_with fail
      refine (HB.out _ (hE.below hB1)).mono ?_; rintro e w2 ⟨rfl, hb2⟩
      have hB2 := bel hB1 hb2
      go_wp2_with fail
      refine (HAf.out _ (hE.below hB2)).mono ?_; rintro e w3 ⟨rfl, hb3⟩
      have hB3 := bel hB2 hb3
      go_wp2_with fail
      refine (HH.out _).mono ?_; rintro e w4 ⟨rfl, hb4⟩
      have hB4 := bel hB3 hb4
      go_wp2_with fail
      refine (HN.out _).mono ?_; rintro e w5 ⟨rfl, hb5⟩
      have hB5 := bel hB4 hb5
      go_wp2_with fail
      refine (HA.out _ (hE.below hB5)).mono ?_; rintro e w6 ⟨rfl, hb6⟩
      have hB6 := bel hB5 hb6
      go_wp2_with fail
      go_ret
      exact ⟨rfl, hB6⟩
    · obtain ⟨b0, b1⟩ := may_bits hm
      have HR : Hid (∀ w, Calls Tryd.prog 8 #[.agg #[.int .u32 a, .int .i64 b]] w fun e w' => e = .returned (.tuple #[.string s, .bool true]) ∧ Below w.heap.size w w') := Lib.hid (fun w => by have h := refPool_any a b h0 h1 (by omega) (by omega) w; rw [if_pos hpo, hk] at h; exact h)
      clear hk hpo hm b0 b1
      unfold B0 at HB
      unfold A0 at HAf
      unfold H0 at HH
      unfold H0 at HN
      go_wp2_with fail
      refine (HP.out _ hE).mono ?_; rintro e w1 ⟨rfl, hb1⟩
      have hB1 := hb1
      have hB1 := belAlloc hB1 (.cells #[.int .u32 a, .int .i64 b] 28)
      go_wp2_with fail
      refine (HR.out _).mono ?_; rintro e w2 ⟨rfl, hb2⟩
      have hB2 := bel hB1 hb2
      go_wp2_with fail
      refine (HB.out _ (hE.below hB2)).mono ?_; rintro e w3 ⟨rfl, hb3⟩
      have hB3 := bel hB2 hb3
      go_wp2_with fail
      refine (HAf.out _ (hE.below hB3)).mono ?_; rintro e w4 ⟨rfl, hb4⟩
      have hB4 := bel hB3 hb4
      go_wp2_with fail
      refine (HH.out _).mono ?_; rintro e w5 ⟨rfl, hb5⟩
      have hB5 := bel hB4 hb5
      go_wp2_with fail
      refine (HN.out _).mono ?_; rintro e w6 ⟨rfl, hb6⟩
      have hB6 := bel hB5 hb6
      go_wp2_with fail
      refine (HA.out _ (hE.below hB6)).mono ?_; rintro e w7 ⟨rfl, hb7⟩
      have hB7 := bel hB6 hb7
      go_wp2_with fail
      go_ret
      exact ⟨rfl, hB7⟩
    · have HR : Hid (∀ w, Calls Tryd.prog 12 #[.int .u32 a] w fun e w' => e = .returned (.string s) ∧ Below w.heap.size w w') := Lib.hid (fun w => by have h := refBlock_any a h0 h1 w; rw [hk] at h; exact h)
      have HF : Hid (∀ w, Calls Tryd.prog 13 #[.int .u32 a] w fun e w' => e = .returned (.int .u32 a) ∧ Below w.heap.size w w') := Lib.hid (fun w => by have h := refFirst_any a h0 h1 w; rw [hz] at h; exact h)
      clear hk hz
      unfold P0 at HP
      unfold A0 at HAf
      unfold H0 at HH
      unfold H0 at HN
      go_wp2_with fail
      refine (HP.out _ hE).mono ?_; rintro e w1 ⟨rfl, hb1⟩
      have hB1 := hb1
      have hB1 := belAlloc hB1 (.cells #[.int .u32 0, .int .i64 0] 28)
      go_wp2_with fail
      refine (HB.out _ (hE.below hB1)).mono ?_; rintro e w2 ⟨rfl, hb2⟩
      have hB2 := bel hB1 hb2
      go_wp2_with fail
      refine (HR.out _).mono ?_; rintro e w3 ⟨rfl, hb3⟩
      have hB3 := bel hB2 hb3
      go_wp2_with fail
      refine (HF.out _).mono ?_; rintro e w4 ⟨rfl, hb4⟩
      have hB4 := bel hB3 hb4
      go_wp2_with fail
      refine (HAf.out _ (hE.below hB4)).mono ?_; rintro e w5 ⟨rfl, hb5⟩
      have hB5 := bel hB4 hb5
      go_wp2_with fail
      refine (HH.out _).mono ?_; rintro e w6 ⟨rfl, hb6⟩
      have hB6 := bel hB5 hb6
      go_wp2_with fail
      refine (HN.out _).mono ?_; rintro e w7 ⟨rfl, hb7⟩
      have hB7 := bel hB6 hb7
      go_wp2_with fail
      refine (HA.out _ (hE.below hB7)).mono ?_; rintro e w8 ⟨rfl, hb8⟩
      have hB8 := bel hB7 hb8
      go_wp2_with fail
      go_ret
      exact ⟨rfl, hB8⟩
    · have hnz := size_of_aff hk
      have HR : Hid (∀ w, Calls Tryd.prog 24 #[.string n, .int .u32 a] w fun e w' => e = .returned (.string s) ∧ Below w.heap.size w w') := Lib.hid (fun w => by have h := refAff_any n a (by have := okName_size hok; omega) h0 h1 w; rw [hk] at h; exact h)
      have HF : Hid (∀ w, Calls Tryd.prog 13 #[.int .u32 a] w fun e w' => e = .returned (.int .u32 a) ∧ Below w.heap.size w w') := Lib.hid (fun w => by have h := refFirst_any a h0 h1 w; rw [hz] at h; exact h)
      have hn64 := okName_size hok
      have HQ : Hid (∀ w, Calls Tryd.prog 20 #[.string n] w fun e w' => e = .returned (.bool true) ∧ w = w') := Lib.hid (fun w => by have h := refRight12_any n w (by unfold maxLen; omega); rw [hok] at h; exact h)
      clear hk hz
      clear hok hn64 hnz
      unfold P0 at HP
      unfold B0 at HB
      unfold H0 at HH
      unfold H0 at HN
      go_wp2_with fail
      refine (HP.out _ hE).mono ?_; rintro e w1 ⟨rfl, hb1⟩
      have hB1 := hb1
      have hB1 := belAlloc hB1 (.cells #[.int .u32 0, .int .i64 0] 28)
      go_wp2_with fail
      refine (HB.out _ (hE.below hB1)).mono ?_; rintro e w2 ⟨rfl, hb2⟩
      have hB2 := bel hB1 hb2
      go_wp2_with fail
      refine (HAf.out _ (hE.below hB2)).mono ?_; rintro e w3 ⟨rfl, hb3⟩
      have hB3 := bel hB2 hb3
      go_wp2_with fail
      refine (HR.out _).mono ?_; rintro e w4 ⟨rfl, hb4⟩
      have hB4 := bel hB3 hb4
      go_wp2_with fail
      refine (HQ.out _).mono ?_; rintro e wq ⟨rfl, rfl⟩
      go_wp2_with fail
      refine (HF.out _).mono ?_; rintro e w5 ⟨rfl, hb5⟩
      have hB5 := bel hB4 hb5
      go_wp2_with fail
      refine (HH.out _).mono ?_; rintro e w6 ⟨rfl, hb6⟩
      have hB6 := bel hB5 hb6
      go_wp2_with fail
      refine (HN.out _).mono ?_; rintro e w7 ⟨rfl, hb7⟩
      have hB7 := bel hB6 hb7
      go_wp2_with fail
      refine (HA.out _ (hE.below hB7)).mono ?_; rintro e w8 ⟨rfl, hb8⟩
      have hB8 := bel hB7 hb8
      go_wp2_with fail
      go_ret
      exact ⟨rfl, hB8⟩
    · have hn64 := okName_size hok
      have HQ : Hid (∀ w, Calls Tryd.prog 20 #[.string n] w fun e w' => e = .returned (.bool true) ∧ w = w') := Lib.hid (fun w => by have h := refRight12_any n w (by unfold maxLen; omega); rw [hok] at h; exact h)
      have q : ¬ 9223372036854775807 < 7 + n.size := by omega
      subst hk
      clear hok hn64 ht
      unfold P0 at HP
      unfold B0 at HB
      unfold A0 at HAf
      unfold H0 at HN
      go_wp2_with fail
      refine (HP.out _ hE).mono ?_; rintro e w1 ⟨rfl, hb1⟩
      have hB1 := hb1
      have hB1 := belAlloc hB1 (.cells #[.int .u32 0, .int .i64 0] 28)
      go_wp2_with fail
      refine (HB.out _ (hE.below hB1)).mono ?_; rintro e w2 ⟨rfl, hb2⟩
      have hB2 := bel hB1 hb2
      go_wp2_with fail
      refine (HAf.out _ (hE.below hB2)).mono ?_; rintro e w3 ⟨rfl, hb3⟩
      have hB3 := bel hB2 hb3
      go_wp2_with fail
      refine (HH.out _).mono ?_; rintro e w4 ⟨rfl, hb4⟩
      have hB4 := bel hB3 hb4
      go_wp2_with fail
      refine (HQ.out _).mono ?_; rintro e wq ⟨rfl, rfl⟩
      go_wp2_with fail
      refine (HN.out _).mono ?_; rintro e w5 ⟨rfl, hb5⟩
      have hB5 := bel hB4 hb5
      go_wp2_with fail
      refine (HA.out _ (hE.below hB5)).mono ?_; rintro e w6 ⟨rfl, hb6⟩
      have hB6 := bel hB5 hb6
      go_wp2_with fail
      go_ret
      exact ⟨rfl, hB6⟩
    · have hn64 := okName_size hok
      have HQ : Hid (∀ w, Calls Tryd.prog 20 #[.string n] w fun e w' => e = .returned (.bool true) ∧ w = w') := Lib.hid (fun w => by have h := refRight12_any n w (by unfold maxLen; omega); rw [hok] at h; exact h)
      have q : ¬ 9223372036854775807 < 5 + n.size := by omega
      subst hk
      clear hok hn64 ht
      unfold P0 at HP
      unfold B0 at HB
      unfold A0 at HAf
      unfold H0 at HH
      go_wp2_with fail
      refine (HP.out _ hE).mono ?_; rintro e w1 ⟨rfl, hb1⟩
      have hB1 := hb1
      have hB1 := belAlloc hB1 (.cells #[.int .u32 0, .int .i64 0] 28)
      go_wp2_with fail
      refine (HB.out _ (hE.below hB1)).mono ?_; rintro e w2 ⟨rfl, hb2⟩
      have hB2 := bel hB1 hb2
      go_wp2_with fail
      refine (HAf.out _ (hE.below hB2)).mono ?_; rintro e w3 ⟨rfl, hb3⟩
      have hB3 := bel hB2 hb3
      go_wp2_with fail
      refine (HH.out _).mono ?_; rintro e w4 ⟨rfl, hb4⟩
      have hB4 := bel hB3 hb4
      go_wp2_with fail
      refine (HN.out _).mono ?_; rintro e w5 ⟨rfl, hb5⟩
      have hB5 := bel hB4 hb5
      go_wp2_with fail
      refine (HQ.out _).mono ?_; rintro e wq ⟨rfl, rfl⟩
      go_wp2_with fail
      refine (HA.out _ (hE.below hB5)).mono ?_; rintro e w6 ⟨rfl, hb6⟩
      have hB6 := bel hB5 hb6
      go_wp2_with fail
      go_ret
      exact ⟨rfl, hB6⟩
end Go.Proofs.YthpeimdjcibmgaaDoor
