/- The reference's reading of a net's text. -/
import Derived.Test.YtdhkacejefkejaaDoorCidrPrintW
namespace Go.Proofs.YtdhkacejefkejaaDoor
open Go.RowKit
def refNetVal (o : Option (Int × Int)) : Value := match o with
  | some p => .tuple #[.agg #[.int .u32 p.1, .int .i64 p.2], .bool true]
  | none => .tuple #[.agg #[.int .u32 0, .int .i64 0], .bool false]
theorem cutS_none (w : List UInt8) (hw : (47 : UInt8) ∉ w) : cutS w = (w, [], false) := by
  induction w with
  | nil => rfl
  | cons c w ih =>
    simp only [List.mem_cons, not_or] at hw
    rw [cutS_cons, if_neg (fun e => hw.1 e.symm), ih hw.2]
/-- A number of bits, as the program reads it and as the document does: one, where a net may be. -/
theorem bits_eq (l : List UInt8) (a : Int) : (numOk 2 l && mayB a (num10 l)) = (valOk 32 l && mayB a (num10 l)) := by
  cases hm : mayB a (num10 l) with
  | false => simp
  | true =>
    obtain ⟨b0, b1⟩ := may_bits hm
    rw [Bool.and_true, Bool.and_true, Bool.eq_iff_iff, numOk_iff, valOk_iff, canon_iff]
    constructor
    · rintro ⟨⟨h1, h2, h3⟩, h4⟩
      exact ⟨⟨fun e => by rw [e] at h1; simp at h1, h4, h3⟩, b1⟩
    · rintro ⟨⟨h1, h2, h3⟩, h4⟩
      have hp := List.length_pos_iff.2 h1
      refine ⟨⟨by omega, ?_, h3⟩, h2⟩
      rcases Nat.lt_or_ge 2 l.length with hh | hh
      · exfalso
        have := num10_ge_pow l ((canon_iff _).2 ⟨h1, h2, h3⟩) 2 hh (by omega)
        omega
      · exact hh
/-- The reading, where the first '/' stands behind i signs. -/
theorem netOf_at (l : List UInt8) (i : Nat) (hi : i < l.length) (h47 : l.getD i 0 = 47) (hno : (47 : UInt8) ∉ l.take i) :
    netOf l = match ipOf (l.take i) with
      | some a => if (valOk 32 (l.drop (i + 1)) && mayB a (num10 (l.drop (i + 1)))) = true then some (a, num10 (l.drop (i + 1))) else none
      | none => none := by
  have e : l = l.take i ++ 47 :: l.drop (i + 1) := by
    have h1 : l.drop i = 47 :: l.drop (i + 1) := by
      rw [List.drop_eq_getElem_cons hi]
      congr 1
      rw [← h47]; simp [List.getD, List.getElem?_eq_getElem hi]
    rw [← h1, List.take_append_drop]
  have hc : cutS l = (l.take i, l.drop (i + 1), true) := by
    conv => lhs; rw [e]
    exact cutS_app _ _ hno
  unfold netOf
  rw [hc]
  simp only [Bool.true_and]
  cases ipOf (l.take i) with
  | none => rfl
  | some a => simp only []; rw [bits_eq]
theorem netOf_no (l : List UInt8) (hno : (47 : UInt8) ∉ l) : netOf l = none := by
  unfold netOf
  rw [cutS_none l hno]
  cases ipOf l with
  | none => rfl
  | some a => simp
theorem ext_take (s : ByteArray) (i : Nat) : (s.extract 0 i).data.toList = s.data.toList.take i := by
  rw [Lib.extract_data, List.drop_zero, Nat.sub_zero]
theorem ext_drop (s : ByteArray) (i : Nat) : (s.extract i s.size).data.toList = s.data.toList.drop i := by
  rw [Lib.extract_data, List.take_of_length_le (by rw [List.length_drop, len_of]; omega)]
theorem byte0x (s : ByteArray) (i : Nat) (h : i < s.size) : s.data.toList.getD i 0 = s[i] := by
  have h2 : i < s.data.toList.length := by rw [len_of]; exact h
  rw [List.getD_eq_getElem?_getD, List.getElem?_eq_getElem h2, Option.getD_some]
  rfl
theorem ext_size (s : ByteArray) (i j : Nat) : (s.extract i j).size ≤ s.size := by
  rw [ByteArray.size_extract]; omega
set_option maxHeartbeats 8000000 in
theorem refNetParse_any (s : ByteArray) (w : World) (hs : s.size ≤ 40) :
    Calls Tryd.prog 35 #[.string s] w fun e w' => e = .returned (refNetVal (netOf s.data.toList)) ∧ Below w.heap.size w w' := by
  have hO := Own2.new w 0 0 44
  go_enter Tryd.func35, Tryd.ntmps35
  go_wp2_with fail
  go_loop [4] (fun j => ∃ i : Nat, i ≤ s.size ∧ j = .int .i64 i ∧ (47 : UInt8) ∉ s.data.toList.take i) (fun j => s.size - (intOf j).toNat)
  case atStart => exact ⟨0, Nat.zero_le _, rfl, by simp⟩
  case round =>
    obtain ⟨i, hi, rfl, hno⟩ := hrel
    by_cases hlt : i < s.size
    · by_cases h47 : (s[i].toNat : Int) = 47
      · have d47 : ((s[i].toNat : Int) == 47) = true := by simpa using h47
        have h48 : s.data.toList.getD i 0 = 47 := by
          have := h47
          rw [byte0x s i hlt]
          exact UInt8.toNat_inj.1 (by simpa using (by omega : s[i].toNat = 47))
        have hAt := netOf_at s.data.toList i (by rw [len_of]; exact hlt) h48 hno
        obtain ⟨D, hD⟩ : ∃ D, D = s.data.toList.drop (i + 1) := ⟨_, rfl⟩
        rw [← hD] at hAt
        have HV2a : ∀ w, Calls Tryd.prog 56 #[.string (s.extract (i + 1) s.size), .int .i64 32] w fun e w' => e = .returned (valVal 32 D) ∧ Below w.heap.size w w' := fun w => by
          have h := value_any (s.extract (i + 1) s.size) 32 (by decide) (by decide) w (Nat.le_trans (ext_size _ _ _) (by omega))
          rwa [ext_drop, ← hD] at h
        have HIa : ∀ w, Calls Tryd.prog 18 #[.string (s.extract 0 i)] w fun e w' => e = .returned (refVal (ipOf (s.data.toList.take i))) ∧ Below w.heap.size w w' := fun w => by
          have h := refParse_any (s.extract 0 i) (Nat.le_trans (ext_size _ _ _) hs) w
          rwa [ext_take s i] at h
        have b1 : (i : Int) + 1 ≤ s.size := by omega
        clear hno h47 h48 hD
        cases hip : ipOf (s.data.toList.take i) with
        | none =>
          rw [hip] at hAt HIa
          have HV : Hid (refNetVal (netOf s.data.toList) = .tuple #[.agg #[.int .u32 0, .int .i64 0], .bool false]) := Lib.hid (by rw [hAt]; rfl)
          have HI : Hid (∀ w, Calls Tryd.prog 18 #[.string (s.extract 0 i)] w fun e w' => e = .returned (.tuple #[.int .u32 0, .bool false]) ∧ Below w.heap.size w w') := Lib.hid HIa
          clear hAt hip HIa
          by_cases hv : valOk 32 D = true
          · have HV2 := Lib.hid HV2a
            rw [val_yes hv] at HV2
            clear HV2a hv
            go_wp2_with fail
            refine (HI.out _).mono ?_; rintro e w1 ⟨rfl, hb1⟩
            have hB1 := bel (belNew w _) hb1
            have hO1 := hO.keep hb1
            go_wp2_with fail
            refine (HV2.out _).mono ?_; rintro e w2 ⟨rfl, hb2⟩
            have hB2 := bel hB1 hb2
            have hO2 := hO1.keep hb2
            obtain ⟨⟨k0, k1, k2⟩, k3, k4⟩ := id hO2
            go_wp2_with fail
            refine bodyPost_ret (v := .tuple #[.agg #[.int .u32 0, .int .i64 0], .bool false]) ?_ rfl ⟨congrArg Ending.returned HV.out.symm, ?_⟩
            · simp [results, Tryd.results35, go_sem, k0, k1, (res2 hO2.1 0 0 _).1, (res2 hO2.1 0 0 _).2]
            · first | exact belAlloc ((hB2.setCell (p := ⟨w.heap.size, 0, none⟩) (Nat.le_refl _) _).setCell (p := ⟨w.heap.size, 1, none⟩) (Nat.le_refl _) _) _ | exact ((belAlloc hB2 _).setCell (p := ⟨w.heap.size, 0, none⟩) (Nat.le_refl _) _).setCell (p := ⟨w.heap.size, 1, none⟩) (Nat.le_refl _) _
          · have HV2 := Lib.hid HV2a
            rw [val_no hv] at HV2
            clear HV2a hv
            go_wp2_with fail
            refine (HI.out _).mono ?_; rintro e w1 ⟨rfl, hb1⟩
            have hB1 := bel (belNew w _) hb1
            have hO1 := hO.keep hb1
            go_wp2_with fail
            refine (HV2.out _).mono ?_; rintro e w2 ⟨rfl, hb2⟩
            have hB2 := bel hB1 hb2
            have hO2 := hO1.keep hb2
            obtain ⟨⟨k0, k1, k2⟩, k3, k4⟩ := id hO2
            go_wp2_with fail
            refine bodyPost_ret (v := .tuple #[.agg #[.int .u32 0, .int .i64 0], .bool false]) ?_ rfl ⟨congrArg Ending.returned HV.out.symm, ?_⟩
            · simp [results, Tryd.results35, go_sem, k0, k1, (res2 hO2.1 0 0 _).1, (res2 hO2.1 0 0 _).2]
            · first | exact belAlloc ((hB2.setCell (p := ⟨w.heap.size, 0, none⟩) (Nat.le_refl _) _).setCell (p := ⟨w.heap.size, 1, none⟩) (Nat.le_refl _) _) _ | exact ((belAlloc hB2 _).setCell (p := ⟨w.heap.size, 0, none⟩) (Nat.le_refl _) _).setCell (p := ⟨w.heap.size, 1, none⟩) (Nat.le_refl _) _
        | some a =>
          rw [hip] at hAt HIa
          obtain ⟨a0, a1⟩ := ipOf_bd hip
          have HI : Hid (∀ w, Calls Tryd.prog 18 #[.string (s.extract 0 i)] w fun e w' => e = .returned (.tuple #[.int .u32 a, .bool true]) ∧ Below w.heap.size w w') := Lib.hid HIa
          clear hip HIa
          by_cases hv : valOk 32 D = true
          · obtain ⟨hcn, hle⟩ := (valOk_iff 32 D).1 hv
            have hn0 : 0 ≤ num10 D := (num10_bounds D ((canon_iff D).1 hcn).2.1).1
            have HV2 := Lib.hid HV2a
            rw [val_yes hv] at HV2
            clear HV2a hcn
            obtain ⟨n, hn⟩ : ∃ n, n = num10 D := ⟨_, rfl⟩
            rw [← hn] at HV2 hAt hle hn0
            by_cases hmy : mayB a n = true
            · have HV : Hid (refNetVal (netOf s.data.toList) = .tuple #[.agg #[.int .u32 a, .int .i64 n], .bool true]) := Lib.hid (by
                rw [hAt]; simp only []; rw [if_pos (by rw [hv, hmy]; rfl)]; rfl)
              have HY : Hid (∀ w, Calls Tryd.prog 31 #[.agg #[.int .u32 a, .int .i64 n]] w fun e w' => e = .returned (.bool true) ∧ Below w.heap.size w w') := Lib.hid (fun w => by rw [← hmy]; exact refMay_any a n a0 a1 (by omega) (by omega) w)
              clear hAt hv hmy hn
              go_wp2_with fail
              refine (HI.out _).mono ?_; rintro e w1 ⟨rfl, hb1⟩
              have hB1 := bel (belNew w _) hb1
              have hO1 := hO.keep hb1
              go_wp2_with fail
              refine (HV2.out _).mono ?_; rintro e w2 ⟨rfl, hb2⟩
              have hB2 := bel hB1 hb2
              have hO2 := hO1.keep hb2
              obtain ⟨⟨k0, k1, k2⟩, k3, k4⟩ := id hO2
              go_wp2_with fail
              have hP := Cell2.new w2 a n 44
              have hO3 := hO2.keep (belNew w2 (.cells #[.int .u32 a, .int .i64 n] 44))
              clear k0 k1 k2 k3 k4
              refine (HY.out _).mono ?_; rintro e w3 ⟨rfl, hb3⟩
              obtain ⟨⟨k0, k1, k2⟩, k3, k4⟩ := hO3.keep hb3
              obtain ⟨j0, j1, j2⟩ := hP.keep hb3
              have hB3 := bel (belAlloc hB2 _) hb3
              go_wp2_with fail
              refine bodyPost_ret (v := .tuple #[.agg #[.int .u32 a, .int .i64 n], .bool true]) ?_ rfl ⟨congrArg Ending.returned HV.out.symm, (hB3.setCell (Nat.le_refl _) _).setCell (Nat.le_refl _) _⟩
              simp [results, Tryd.results35, go_sem, k0, k1]
            · have hmf : mayB a n = false := by simpa using hmy
              have HV : Hid (refNetVal (netOf s.data.toList) = .tuple #[.agg #[.int .u32 0, .int .i64 0], .bool false]) := Lib.hid (by
                rw [hAt]; simp only []; rw [if_neg (by rw [hmf]; simp)]; rfl)
              have HY : Hid (∀ w, Calls Tryd.prog 31 #[.agg #[.int .u32 a, .int .i64 n]] w fun e w' => e = .returned (.bool false) ∧ Below w.heap.size w w') := Lib.hid (fun w => by rw [← hmf]; exact refMay_any a n a0 a1 (by omega) (by omega) w)
              clear hAt hv hmy hmf hn
              go_wp2_with fail
              refine (HI.out _).mono ?_; rintro e w1 ⟨rfl, hb1⟩
              have hB1 := bel (belNew w _) hb1
              have hO1 := hO.keep hb1
              go_wp2_with fail
              refine (HV2.out _).mono ?_; rintro e w2 ⟨rfl, hb2⟩
              have hB2 := bel hB1 hb2
              have hO2 := hO1.keep hb2
              obtain ⟨⟨k0, k1, k2⟩, k3, k4⟩ := id hO2
              go_wp2_with fail
              have hP := Cell2.new w2 a n 44
              have hO3 := hO2.keep (belNew w2 (.cells #[.int .u32 a, .int .i64 n] 44))
              clear k0 k1 k2 k3 k4
              refine (HY.out _).mono ?_; rintro e w3 ⟨rfl, hb3⟩
              obtain ⟨⟨k0, k1, k2⟩, k3, k4⟩ := hO3.keep hb3
              obtain ⟨j0, j1, j2⟩ := hP.keep hb3
              have hB3 := bel (belAlloc hB2 _) hb3
              go_wp2_with fail
              refine bodyPost_ret (v := .tuple #[.agg #[.int .u32 0, .int .i64 0], .bool false]) ?_ rfl ⟨congrArg Ending.returned HV.out.symm, (hB3.setCell (Nat.le_refl _) _).setCell (Nat.le_refl _) _⟩
              simp [results, Tryd.results35, go_sem, k0, k1]
          · have HV : Hid (refNetVal (netOf s.data.toList) = .tuple #[.agg #[.int .u32 0, .int .i64 0], .bool false]) := Lib.hid (by
              rw [hAt]; simp only []; rw [if_neg (by rw [Bool.and_eq_true]; exact fun h => hv h.1)]; rfl)
            have HV2 := Lib.hid HV2a
            rw [val_no hv] at HV2
            clear HV2a hv hAt
            go_wp2_with fail
            refine (HI.out _).mono ?_; rintro e w1 ⟨rfl, hb1⟩
            have hB1 := bel (belNew w _) hb1
            have hO1 := hO.keep hb1
            go_wp2_with fail
            refine (HV2.out _).mono ?_; rintro e w2 ⟨rfl, hb2⟩
            have hB2 := bel hB1 hb2
            have hO2 := hO1.keep hb2
            obtain ⟨⟨k0, k1, k2⟩, k3, k4⟩ := id hO2
            go_wp2_with fail
            refine bodyPost_ret (v := .tuple #[.agg #[.int .u32 0, .int .i64 0], .bool false]) ?_ rfl ⟨congrArg Ending.returned HV.out.symm, ?_⟩
            · simp [results, Tryd.results35, go_sem, k0, k1, (res2 hO2.1 0 0 _).1, (res2 hO2.1 0 0 _).2]
            · first | exact belAlloc ((hB2.setCell (p := ⟨w.heap.size, 0, none⟩) (Nat.le_refl _) _).setCell (p := ⟨w.heap.size, 1, none⟩) (Nat.le_refl _) _) _ | exact ((belAlloc hB2 _).setCell (p := ⟨w.heap.size, 0, none⟩) (Nat.le_refl _) _).setCell (p := ⟨w.heap.size, 1, none⟩) (Nat.le_refl _) _
      · have d47 : ((s[i].toNat : Int) == 47) = false := by simpa using h47
        go_wp2_with fail
        go_round
        case rel =>
          refine ⟨i + 1, by omega, by go_num, ?_⟩
          rw [take_snoc s i hlt, List.mem_append, List.mem_singleton, not_or]
          exact ⟨hno, fun e => h47 (by rw [← e]; rfl)⟩
        case measure => simp [intOf]; omega
    · have HV : Hid (refNetVal (netOf s.data.toList) = .tuple #[.agg #[.int .u32 0, .int .i64 0], .bool false]) := Lib.hid (by
        rw [netOf_no _ (by rwa [List.take_of_length_le (by rw [len_of]; omega)] at hno)]; rfl)
      clear hno
      obtain ⟨⟨k0, k1, k2⟩, k3, k4⟩ := id hO
      go_wp2_with fail
      refine bodyPost_ret (v := .tuple #[.agg #[.int .u32 0, .int .i64 0], .bool false]) ?_ rfl ⟨congrArg Ending.returned HV.out.symm, ?_⟩
      · simp [results, Tryd.results35, go_sem]
      · first | exact belNew w _ | exact ((belNew w _).setCell (p := ⟨w.heap.size, 0, none⟩) (Nat.le_refl _) _).setCell (p := ⟨w.heap.size, 1, none⟩) (Nat.le_refl _) _
theorem sliceTo40n (s : ByteArray) (hs : 40 ≤ s.size) (W : World) : (Instr.slice 9 (.string s) none (some (.int .i64 40)) none).run Tryd.prog W = .ok (.string (s.extract 0 40)) W := sliceTo40 s hs W
set_option linter.unusedSimpArgs false in
set_option maxRecDepth 4000 in
set_option maxHeartbeats 8000000 in
theorem lawNetParse (s : ByteArray) (w : World) (hE : Env w) :
    Calls Tryd.prog 9 #[.string s] w fun e w' => e = .returned (.bool true) ∧ Below w.heap.size w w' := by
  by_cases h40 : 40 < s.size
  case' pos =>
    have d0 : decide (40 < (s.size : Int)) = true := by simp; omega
    have hsl := sliceTo40n s (by omega)
    have ht : (s.extract 0 40).size ≤ 40 := by rw [ByteArray.size_extract]; omega
    have H1 := Lib.hid (fun w hE => netParse_any (s.extract 0 40) w hE (by omega))
    have H2 := Lib.hid (fun w => refNetParse_any (s.extract 0 40) w ht)
    generalize hO : netOf (s.extract 0 40).data.toList = o at H1 H2
  case' neg =>
    have d0 : decide (40 < (s.size : Int)) = false := by simp; omega
    have H1 := Lib.hid (fun w hE => netParse_any s w hE (by omega))
    have H2 := Lib.hid (fun w => refNetParse_any s w (by omega))
    generalize hO : netOf s.data.toList = o at H1 H2
  all_goals
    clear hO
    cases o with
    | some p =>
      obtain ⟨a, n⟩ := p
      have H1 : Hid (∀ (w : World), Env w → Calls _ _ _ w fun e w' => e = .returned (.tuple #[.agg #[.int .u32 a, .int .i64 n], .int .i64 0]) ∧ Below w.heap.size w w') := H1
      have H2 : Hid (∀ (w : World), Calls _ _ _ w fun e w' => e = .returned (.tuple #[.agg #[.int .u32 a, .int .i64 n], .bool true]) ∧ Below w.heap.size w w') := H2
      have HO := Lib.hid (ours_any a n)
      go_enter Tryd.func9, Tryd.ntmps9
      go_wp2_with fail
      refine (H1.out _ hE).mono ?_; rintro e w3 ⟨rfl, hb3⟩
      have hX := Cell2.new w3 a n 46
      have hB3 := belAlloc hb3 (.cells #[.int .u32 a, .int .i64 n] 46)
      go_wp2_with fail
      refine (H2.out _).mono ?_; rintro e w4 ⟨rfl, hb4⟩
      have hX4 := (hX.keep hb4).alloc (.cells #[.int .u32 a, .int .i64 n] 44)
      have hY4 := Cell2.new w4 a n 44
      have hB4 := belAlloc (bel hB3 hb4) (.cells #[.int .u32 a, .int .i64 n] 44)
      have hT := And.intro hX4.1 (And.intro hX4.2.1 (And.intro hY4.1 (And.intro hY4.2.1 (And.intro hX4.2.2 (And.intro hY4.2.2 hB4)))))
      clear hX hX4 hY4
      go_wp2_with fail
      refine wp_region_held_drew (S := (fun W => W.cell? ⟨w3.heap.size, 0, none⟩ = some (.int .u32 a) ∧ W.cell? ⟨w3.heap.size, 1, none⟩ = some (.int .i64 n) ∧ W.cell? ⟨w4.heap.size, 0, none⟩ = some (.int .u32 a) ∧ W.cell? ⟨w4.heap.size, 1, none⟩ = some (.int .i64 n) ∧ w3.heap.size < W.heap.size ∧ w4.heap.size < W.heap.size ∧ Below w.heap.size w W)) (by kernel_rfl) ?_ (fun hHeld0 => ?_)
      · exact pD hT
      refine wpAnyH_take (i := 0) (v := ?_) rfl (by kernel_rfl) (by kernel_rfl) (by kernel_rfl) (fun _ _ _ h => h) (Or.inl ⟨by rfl, ?_⟩) (by assumption) ?_
      rotate_left
      · intro w hSw
        (try dsimp only at hSw)
        go_simp
        first | done | with_reducible rfl
      try simp only [Act.put, List.getElem_toArray, List.getElem_cons_succ, List.getElem_cons_zero, List.setIfInBounds_toArray, List.set_cons_zero, List.set_cons_succ]
      refine wpAnyH_take (i := 1) (v := ?_) rfl (by kernel_rfl) (by kernel_rfl) (by kernel_rfl) (fun _ _ _ h => h) (Or.inl ⟨by rfl, ?_⟩) (by assumption) ?_
      rotate_left
      · intro w hSw
        (try dsimp only at hSw)
        go_simp
        first | done | with_reducible rfl
      try simp only [Act.put, List.getElem_toArray, List.getElem_cons_succ, List.getElem_cons_zero, List.setIfInBounds_toArray, List.set_cons_zero, List.set_cons_succ]
      refine wpAnyH_take (i := 2) (v := ?_) rfl (by kernel_rfl) (by kernel_rfl) (by kernel_rfl) (fun _ _ _ h => h) (Or.inl ⟨by rfl, ?_⟩) (by assumption) ?_
      rotate_left
      · intro w hSw
        (try dsimp only at hSw)
        go_simp
        first | done | with_reducible rfl
      try simp only [Act.put, List.getElem_toArray, List.getElem_cons_succ, List.getElem_cons_zero, List.setIfInBounds_toArray, List.set_cons_zero, List.set_cons_succ]
      refine wpAnyH_take (i := 3) (v := ?_) rfl (by kernel_rfl) (by kernel_rfl) (by kernel_rfl) (fun _ _ _ h => h) (Or.inl ⟨by rfl, ?_⟩) (by assumption) ?_
      rotate_left
      · intro w hSw
        (try dsimp only at hSw)
        go_simp
        first | done | with_reducible rfl
      try simp only [Act.put, List.getElem_toArray, List.getElem_cons_succ, List.getElem_cons_zero, List.setIfInBounds_toArray, List.set_cons_zero, List.set_cons_succ]
      refine wpAnyH_take (i := 4) (v := ?_) rfl (by kernel_rfl) (by kernel_rfl) (by kernel_rfl) (fun _ _ _ h => h) (Or.inl ⟨by rfl, ?_⟩) (by assumption) ?_
      rotate_left
      · intro w hSw
        (try dsimp only at hSw)
        go_simp
        first | done | with_reducible rfl
      try simp only [Act.put, List.getElem_toArray, List.getElem_cons_succ, List.getElem_cons_zero, List.setIfInBounds_toArray, List.set_cons_zero, List.set_cons_succ]
      refine wpAnyH_take (i := 5) (v := ?_) rfl (by kernel_rfl) (by kernel_rfl) (by kernel_rfl) (fun _ _ _ h => h) (Or.inl ⟨by rfl, ?_⟩) (by assumption) ?_
      rotate_left
      · intro w hSw
        (try dsimp only at hSw)
        go_simp
        first | done | with_reducible rfl
      try simp only [Act.put, List.getElem_toArray, List.getElem_cons_succ, List.getElem_cons_zero, List.setIfInBounds_toArray, List.set_cons_zero, List.set_cons_succ]
      refine wpAnyH_take (i := 6) (v := ?_) rfl (by kernel_rfl) (by kernel_rfl) (by kernel_rfl) (fun _ _ _ h => h) (Or.inl ⟨by rfl, ?_⟩) (by assumption) ?_
      rotate_left
      · intro w hSw
        (try dsimp only at hSw)
        go_simp
        first | done | with_reducible rfl
      try simp only [Act.put, List.getElem_toArray, List.getElem_cons_succ, List.getElem_cons_zero, List.setIfInBounds_toArray, List.set_cons_zero, List.set_cons_succ]
      refine wpAnyH_take (i := 7) (v := undef) rfl (by kernel_rfl) (by kernel_rfl) (by kernel_rfl) (fun _ _ _ h => h) (Or.inr ⟨by rfl, rfl⟩) (by assumption) ?_
      try simp only [Act.put, List.getElem_toArray, List.getElem_cons_succ, List.getElem_cons_zero, List.setIfInBounds_toArray, List.set_cons_zero, List.set_cons_succ]
      refine wpAnyH_take (i := 8) (v := undef) rfl (by kernel_rfl) (by kernel_rfl) (by kernel_rfl) (fun _ _ _ h => h) (Or.inr ⟨by rfl, rfl⟩) (by assumption) ?_
      try simp only [Act.put, List.getElem_toArray, List.getElem_cons_succ, List.getElem_cons_zero, List.setIfInBounds_toArray, List.set_cons_zero, List.set_cons_succ]
      refine wpAnyH_take (i := 9) (v := ?_) rfl (by kernel_rfl) (by kernel_rfl) (by kernel_rfl) (fun _ _ _ h => h) (Or.inl ⟨by rfl, ?_⟩) (by assumption) ?_
      rotate_left
      · intro w hSw
        (try dsimp only at hSw)
        go_simp
        first | done | with_reducible rfl
      try simp only [Act.put, List.getElem_toArray, List.getElem_cons_succ, List.getElem_cons_zero, List.setIfInBounds_toArray, List.set_cons_zero, List.set_cons_succ]
      refine wpAnyH_take (i := 10) (v := ?_) rfl (by kernel_rfl) (by kernel_rfl) (by kernel_rfl) (fun _ _ _ h => h) (Or.inl ⟨by rfl, ?_⟩) (by assumption) ?_
      rotate_left
      · intro w hSw
        (try dsimp only at hSw)
        go_simp
        first | done | with_reducible rfl
      try simp only [Act.put, List.getElem_toArray, List.getElem_cons_succ, List.getElem_cons_zero, List.setIfInBounds_toArray, List.set_cons_zero, List.set_cons_succ]
      refine wpAnyH_take (i := 11) (v := ?_) rfl (by kernel_rfl) (by kernel_rfl) (by kernel_rfl) (fun _ _ _ h => h) (Or.inl ⟨by rfl, ?_⟩) (by assumption) ?_
      rotate_left
      · intro w hSw
        (try dsimp only at hSw)
        go_simp
        first | done | with_reducible rfl
      try simp only [Act.put, List.getElem_toArray, List.getElem_cons_succ, List.getElem_cons_zero, List.setIfInBounds_toArray, List.set_cons_zero, List.set_cons_succ]
      refine wpAnyH_take (i := 12) (v := ?_) rfl (by kernel_rfl) (by kernel_rfl) (by kernel_rfl) (fun _ _ _ h => h) (Or.inl ⟨by rfl, ?_⟩) (by assumption) ?_
      rotate_left
      · intro w hSw
        (try dsimp only at hSw)
        go_simp
        first | done | with_reducible rfl
      try simp only [Act.put, List.getElem_toArray, List.getElem_cons_succ, List.getElem_cons_zero, List.setIfInBounds_toArray, List.set_cons_zero, List.set_cons_succ]
      refine wpAnyH_take (i := 13) (v := ?_) rfl (by kernel_rfl) (by kernel_rfl) (by kernel_rfl) (fun _ _ _ h => h) (Or.inl ⟨by rfl, ?_⟩) (by assumption) ?_
      rotate_left
      · intro w hSw
        (try dsimp only at hSw)
        go_simp
        first | done | with_reducible rfl
      try simp only [Act.put, List.getElem_toArray, List.getElem_cons_succ, List.getElem_cons_zero, List.setIfInBounds_toArray, List.set_cons_zero, List.set_cons_succ]
      refine wpAnyH_ready (rs := [14]) (by kernel_rfl) (by simp) ?_
      refine AllReadyH.cons rfl (fun K hK => ?_) AllReadyH.nil
      go_simp
      refine (HO.out _).mono ?_; rintro e v15 ⟨rfl, vb15⟩
      refine hK.out _ _ ?_ (fun hI1 => ?_)
      · (first | assumption | (refine pD ?_; assumption) | (apply pK; rotate_left; assumption; first | assumption | (refine pD ?_; assumption)))
      try simp only [Act.put, List.getElem_toArray, List.getElem_cons_succ, List.getElem_cons_zero, List.setIfInBounds_toArray, List.set_cons_zero, List.set_cons_succ]
      refine wpAnyH_take (i := 15) (v := ?_) rfl (by kernel_rfl) (by kernel_rfl) (by kernel_rfl) (fun _ _ _ h => h) (Or.inl ⟨by rfl, ?_⟩) (by assumption) ?_
      rotate_left
      · intro w hSw
        (try dsimp only at hSw)
        go_simp
        first | done | with_reducible rfl
      try simp only [Act.put, List.getElem_toArray, List.getElem_cons_succ, List.getElem_cons_zero, List.setIfInBounds_toArray, List.set_cons_zero, List.set_cons_succ]
      refine wpAnyH_take (i := 16) (v := ?_) rfl (by kernel_rfl) (by kernel_rfl) (by kernel_rfl) (fun _ _ _ h => h) (Or.inl ⟨by rfl, ?_⟩) (by assumption) ?_
      rotate_left
      · intro w hSw
        (try dsimp only at hSw)
        go_simp
        first | done | with_reducible rfl
      try simp only [Act.put, List.getElem_toArray, List.getElem_cons_succ, List.getElem_cons_zero, List.setIfInBounds_toArray, List.set_cons_zero, List.set_cons_succ]
      refine wpAnyH_take (i := 17) (v := ?_) rfl (by kernel_rfl) (by kernel_rfl) (by kernel_rfl) (fun _ _ _ h => h) (Or.inl ⟨by rfl, ?_⟩) (by assumption) ?_
      rotate_left
      · intro w hSw
        (try dsimp only at hSw)
        go_simp
        first | done | with_reducible rfl
      try simp only [Act.put, List.getElem_toArray, List.getElem_cons_succ, List.getElem_cons_zero, List.setIfInBounds_toArray, List.set_cons_zero, List.set_cons_succ]
      refine wpAnyH_ready (rs := [18]) (by kernel_rfl) (by simp) ?_
      refine AllReadyH.cons rfl (fun K hK => ?_) AllReadyH.nil
      go_simp
      refine (awake2_any _ (hE.below (pB hI1))).mono ?_; rintro e v16 ⟨rfl, vb16⟩
      refine hK.out _ _ ?_ (fun hI2 => ?_)
      · (first | assumption | (refine pD ?_; assumption) | (apply pK; rotate_left; assumption; first | assumption | (refine pD ?_; assumption)))
      try simp only [Act.put, List.getElem_toArray, List.getElem_cons_succ, List.getElem_cons_zero, List.setIfInBounds_toArray, List.set_cons_zero, List.set_cons_succ]
      refine wpAnyH_take (i := 19) (v := ?_) rfl (by kernel_rfl) (by kernel_rfl) (by kernel_rfl) (fun _ _ _ h => h) (Or.inl ⟨by rfl, ?_⟩) (by assumption) ?_
      rotate_left
      · intro w hSw
        (try dsimp only at hSw)
        go_simp
        first | done | with_reducible rfl
      try simp only [Act.put, List.getElem_toArray, List.getElem_cons_succ, List.getElem_cons_zero, List.setIfInBounds_toArray, List.set_cons_zero, List.set_cons_succ]
      refine wpAnyH_take (i := 20) (v := ?_) rfl (by kernel_rfl) (by kernel_rfl) (by kernel_rfl) (fun _ _ _ h => h) (Or.inl ⟨by rfl, ?_⟩) (by assumption) ?_
      rotate_left
      · intro w hSw
        (try dsimp only at hSw)
        go_simp
        first | done | with_reducible rfl
      try simp only [Act.put, List.getElem_toArray, List.getElem_cons_succ, List.getElem_cons_zero, List.setIfInBounds_toArray, List.set_cons_zero, List.set_cons_succ]
      refine wpAnyH_done (by kernel_rfl) ?_ _
      go_wp2
      go_ret
      exact ⟨rfl, pB hI2⟩
    | none =>
      have H1 : Hid (∀ (w : World), Env w → Calls _ _ _ w fun e w' => e = .returned (.tuple #[.agg #[.int .u32 0, .int .i64 0], .int .i64 3]) ∧ Below w.heap.size w w') := H1
      have H2 : Hid (∀ (w : World), Calls _ _ _ w fun e w' => e = .returned (.tuple #[.agg #[.int .u32 0, .int .i64 0], .bool false]) ∧ Below w.heap.size w w') := H2
      have HO := Lib.hid (ours_any 0 0)
      go_enter Tryd.func9, Tryd.ntmps9
      go_wp2_with fail
      refine (H1.out _ hE).mono ?_; rintro e w3 ⟨rfl, hb3⟩
      have hX := Cell2.new w3 0 0 46
      have hB3 := belAlloc hb3 (.cells #[.int .u32 0, .int .i64 0] 46)
      go_wp2_with fail
      refine (H2.out _).mono ?_; rintro e w4 ⟨rfl, hb4⟩
      have hX4 := (hX.keep hb4).alloc (.cells #[.int .u32 0, .int .i64 0] 44)
      have hY4 := Cell2.new w4 0 0 44
      have hB4 := belAlloc (bel hB3 hb4) (.cells #[.int .u32 0, .int .i64 0] 44)
      have hT := And.intro hX4.1 (And.intro hX4.2.1 (And.intro hY4.1 (And.intro hY4.2.1 (And.intro hX4.2.2 (And.intro hY4.2.2 hB4)))))
      clear hX hX4 hY4
      go_wp2_with fail
      refine wp_region_held_drew (S := (fun W => W.cell? ⟨w3.heap.size, 0, none⟩ = some (.int .u32 0) ∧ W.cell? ⟨w3.heap.size, 1, none⟩ = some (.int .i64 0) ∧ W.cell? ⟨w4.heap.size, 0, none⟩ = some (.int .u32 0) ∧ W.cell? ⟨w4.heap.size, 1, none⟩ = some (.int .i64 0) ∧ w3.heap.size < W.heap.size ∧ w4.heap.size < W.heap.size ∧ Below w.heap.size w W)) (by kernel_rfl) ?_ (fun hHeld0 => ?_)
      · exact pD hT
      refine wpAnyH_take (i := 0) (v := ?_) rfl (by kernel_rfl) (by kernel_rfl) (by kernel_rfl) (fun _ _ _ h => h) (Or.inl ⟨by rfl, ?_⟩) (by assumption) ?_
      rotate_left
      · intro w hSw
        (try dsimp only at hSw)
        go_simp
        first | done | with_reducible rfl
      try simp only [Act.put, List.getElem_toArray, List.getElem_cons_succ, List.getElem_cons_zero, List.setIfInBounds_toArray, List.set_cons_zero, List.set_cons_succ]
      refine wpAnyH_take (i := 1) (v := ?_) rfl (by kernel_rfl) (by kernel_rfl) (by kernel_rfl) (fun _ _ _ h => h) (Or.inl ⟨by rfl, ?_⟩) (by assumption) ?_
      rotate_left
      · intro w hSw
        (try dsimp only at hSw)
        go_simp
        first | done | with_reducible rfl
      try simp only [Act.put, List.getElem_toArray, List.getElem_cons_succ, List.getElem_cons_zero, List.setIfInBounds_toArray, List.set_cons_zero, List.set_cons_succ]
      refine wpAnyH_take (i := 2) (v := ?_) rfl (by kernel_rfl) (by kernel_rfl) (by kernel_rfl) (fun _ _ _ h => h) (Or.inl ⟨by rfl, ?_⟩) (by assumption) ?_
      rotate_left
      · intro w hSw
        (try dsimp only at hSw)
        go_simp
        first | done | with_reducible rfl
      try simp only [Act.put, List.getElem_toArray, List.getElem_cons_succ, List.getElem_cons_zero, List.setIfInBounds_toArray, List.set_cons_zero, List.set_cons_succ]
      refine wpAnyH_take (i := 3) (v := ?_) rfl (by kernel_rfl) (by kernel_rfl) (by kernel_rfl) (fun _ _ _ h => h) (Or.inl ⟨by rfl, ?_⟩) (by assumption) ?_
      rotate_left
      · intro w hSw
        (try dsimp only at hSw)
        go_simp
        first | done | with_reducible rfl
      try simp only [Act.put, List.getElem_toArray, List.getElem_cons_succ, List.getElem_cons_zero, List.setIfInBounds_toArray, List.set_cons_zero, List.set_cons_succ]
      refine wpAnyH_take (i := 4) (v := ?_) rfl (by kernel_rfl) (by kernel_rfl) (by kernel_rfl) (fun _ _ _ h => h) (Or.inl ⟨by rfl, ?_⟩) (by assumption) ?_
      rotate_left
      · intro w hSw
        (try dsimp only at hSw)
        go_simp
        first | done | with_reducible rfl
      try simp only [Act.put, List.getElem_toArray, List.getElem_cons_succ, List.getElem_cons_zero, List.setIfInBounds_toArray, List.set_cons_zero, List.set_cons_succ]
      refine wpAnyH_take (i := 5) (v := ?_) rfl (by kernel_rfl) (by kernel_rfl) (by kernel_rfl) (fun _ _ _ h => h) (Or.inl ⟨by rfl, ?_⟩) (by assumption) ?_
      rotate_left
      · intro w hSw
        (try dsimp only at hSw)
        go_simp
        first | done | with_reducible rfl
      try simp only [Act.put, List.getElem_toArray, List.getElem_cons_succ, List.getElem_cons_zero, List.setIfInBounds_toArray, List.set_cons_zero, List.set_cons_succ]
      refine wpAnyH_take (i := 6) (v := ?_) rfl (by kernel_rfl) (by kernel_rfl) (by kernel_rfl) (fun _ _ _ h => h) (Or.inl ⟨by rfl, ?_⟩) (by assumption) ?_
      rotate_left
      · intro w hSw
        (try dsimp only at hSw)
        go_simp
        first | done | with_reducible rfl
      try simp only [Act.put, List.getElem_toArray, List.getElem_cons_succ, List.getElem_cons_zero, List.setIfInBounds_toArray, List.set_cons_zero, List.set_cons_succ]
      refine wpAnyH_take (i := 7) (v := ?_) rfl (by kernel_rfl) (by kernel_rfl) (by kernel_rfl) (fun _ _ _ h => h) (Or.inl ⟨by rfl, ?_⟩) (by assumption) ?_
      rotate_left
      · intro w hSw
        (try dsimp only at hSw)
        go_simp
        first | done | with_reducible rfl
      try simp only [Act.put, List.getElem_toArray, List.getElem_cons_succ, List.getElem_cons_zero, List.setIfInBounds_toArray, List.set_cons_zero, List.set_cons_succ]
      refine wpAnyH_take (i := 8) (v := ?_) rfl (by kernel_rfl) (by kernel_rfl) (by kernel_rfl) (fun _ _ _ h => h) (Or.inl ⟨by rfl, ?_⟩) (by assumption) ?_
      rotate_left
      · intro w hSw
        (try dsimp only at hSw)
        go_simp
        first | done | with_reducible rfl
      try simp only [Act.put, List.getElem_toArray, List.getElem_cons_succ, List.getElem_cons_zero, List.setIfInBounds_toArray, List.set_cons_zero, List.set_cons_succ]
      refine wpAnyH_take (i := 9) (v := ?_) rfl (by kernel_rfl) (by kernel_rfl) (by kernel_rfl) (fun _ _ _ h => h) (Or.inl ⟨by rfl, ?_⟩) (by assumption) ?_
      rotate_left
      · intro w hSw
        (try dsimp only at hSw)
        go_simp
        first | done | with_reducible rfl
      try simp only [Act.put, List.getElem_toArray, List.getElem_cons_succ, List.getElem_cons_zero, List.setIfInBounds_toArray, List.set_cons_zero, List.set_cons_succ]
      refine wpAnyH_take (i := 10) (v := ?_) rfl (by kernel_rfl) (by kernel_rfl) (by kernel_rfl) (fun _ _ _ h => h) (Or.inl ⟨by rfl, ?_⟩) (by assumption) ?_
      rotate_left
      · intro w hSw
        (try dsimp only at hSw)
        go_simp
        first | done | with_reducible rfl
      try simp only [Act.put, List.getElem_toArray, List.getElem_cons_succ, List.getElem_cons_zero, List.setIfInBounds_toArray, List.set_cons_zero, List.set_cons_succ]
      refine wpAnyH_take (i := 11) (v := ?_) rfl (by kernel_rfl) (by kernel_rfl) (by kernel_rfl) (fun _ _ _ h => h) (Or.inl ⟨by rfl, ?_⟩) (by assumption) ?_
      rotate_left
      · intro w hSw
        (try dsimp only at hSw)
        go_simp
        first | done | with_reducible rfl
      try simp only [Act.put, List.getElem_toArray, List.getElem_cons_succ, List.getElem_cons_zero, List.setIfInBounds_toArray, List.set_cons_zero, List.set_cons_succ]
      refine wpAnyH_take (i := 12) (v := ?_) rfl (by kernel_rfl) (by kernel_rfl) (by kernel_rfl) (fun _ _ _ h => h) (Or.inl ⟨by rfl, ?_⟩) (by assumption) ?_
      rotate_left
      · intro w hSw
        (try dsimp only at hSw)
        go_simp
        first | done | with_reducible rfl
      try simp only [Act.put, List.getElem_toArray, List.getElem_cons_succ, List.getElem_cons_zero, List.setIfInBounds_toArray, List.set_cons_zero, List.set_cons_succ]
      refine wpAnyH_take (i := 13) (v := ?_) rfl (by kernel_rfl) (by kernel_rfl) (by kernel_rfl) (fun _ _ _ h => h) (Or.inl ⟨by rfl, ?_⟩) (by assumption) ?_
      rotate_left
      · intro w hSw
        (try dsimp only at hSw)
        go_simp
        first | done | with_reducible rfl
      try simp only [Act.put, List.getElem_toArray, List.getElem_cons_succ, List.getElem_cons_zero, List.setIfInBounds_toArray, List.set_cons_zero, List.set_cons_succ]
      refine wpAnyH_ready (rs := [14]) (by kernel_rfl) (by simp) ?_
      refine AllReadyH.cons rfl (fun K hK => ?_) AllReadyH.nil
      go_simp
      refine (HO.out _).mono ?_; rintro e v15 ⟨rfl, vb15⟩
      refine hK.out _ _ ?_ (fun hI1 => ?_)
      · (first | assumption | (refine pD ?_; assumption) | (apply pK; rotate_left; assumption; first | assumption | (refine pD ?_; assumption)))
      try simp only [Act.put, List.getElem_toArray, List.getElem_cons_succ, List.getElem_cons_zero, List.setIfInBounds_toArray, List.set_cons_zero, List.set_cons_succ]
      refine wpAnyH_take (i := 15) (v := ?_) rfl (by kernel_rfl) (by kernel_rfl) (by kernel_rfl) (fun _ _ _ h => h) (Or.inl ⟨by rfl, ?_⟩) (by assumption) ?_
      rotate_left
      · intro w hSw
        (try dsimp only at hSw)
        go_simp
        first | done | with_reducible rfl
      try simp only [Act.put, List.getElem_toArray, List.getElem_cons_succ, List.getElem_cons_zero, List.setIfInBounds_toArray, List.set_cons_zero, List.set_cons_succ]
      refine wpAnyH_take (i := 16) (v := ?_) rfl (by kernel_rfl) (by kernel_rfl) (by kernel_rfl) (fun _ _ _ h => h) (Or.inl ⟨by rfl, ?_⟩) (by assumption) ?_
      rotate_left
      · intro w hSw
        (try dsimp only at hSw)
        go_simp
        first | done | with_reducible rfl
      try simp only [Act.put, List.getElem_toArray, List.getElem_cons_succ, List.getElem_cons_zero, List.setIfInBounds_toArray, List.set_cons_zero, List.set_cons_succ]
      refine wpAnyH_take (i := 17) (v := ?_) rfl (by kernel_rfl) (by kernel_rfl) (by kernel_rfl) (fun _ _ _ h => h) (Or.inl ⟨by rfl, ?_⟩) (by assumption) ?_
      rotate_left
      · intro w hSw
        (try dsimp only at hSw)
        go_simp
        first | done | with_reducible rfl
      try simp only [Act.put, List.getElem_toArray, List.getElem_cons_succ, List.getElem_cons_zero, List.setIfInBounds_toArray, List.set_cons_zero, List.set_cons_succ]
      refine wpAnyH_ready (rs := [18]) (by kernel_rfl) (by simp) ?_
      refine AllReadyH.cons rfl (fun K hK => ?_) AllReadyH.nil
      go_simp
      refine (awake2_any _ (hE.below (pB hI1))).mono ?_; rintro e v16 ⟨rfl, vb16⟩
      refine hK.out _ _ ?_ (fun hI2 => ?_)
      · (first | assumption | (refine pD ?_; assumption) | (apply pK; rotate_left; assumption; first | assumption | (refine pD ?_; assumption)))
      try simp only [Act.put, List.getElem_toArray, List.getElem_cons_succ, List.getElem_cons_zero, List.setIfInBounds_toArray, List.set_cons_zero, List.set_cons_succ]
      refine wpAnyH_take (i := 19) (v := ?_) rfl (by kernel_rfl) (by kernel_rfl) (by kernel_rfl) (fun _ _ _ h => h) (Or.inl ⟨by rfl, ?_⟩) (by assumption) ?_
      rotate_left
      · intro w hSw
        (try dsimp only at hSw)
        go_simp
        first | done | with_reducible rfl
      try simp only [Act.put, List.getElem_toArray, List.getElem_cons_succ, List.getElem_cons_zero, List.setIfInBounds_toArray, List.set_cons_zero, List.set_cons_succ]
      refine wpAnyH_take (i := 20) (v := ?_) rfl (by kernel_rfl) (by kernel_rfl) (by kernel_rfl) (fun _ _ _ h => h) (Or.inl ⟨by rfl, ?_⟩) (by assumption) ?_
      rotate_left
      · intro w hSw
        (try dsimp only at hSw)
        go_simp
        first | done | with_reducible rfl
      try simp only [Act.put, List.getElem_toArray, List.getElem_cons_succ, List.getElem_cons_zero, List.setIfInBounds_toArray, List.set_cons_zero, List.set_cons_succ]
      refine wpAnyH_done (by kernel_rfl) ?_ _
      go_wp2
      go_ret
      exact ⟨rfl, pB hI2⟩
end Go.Proofs.YtdhkacejefkejaaDoor
