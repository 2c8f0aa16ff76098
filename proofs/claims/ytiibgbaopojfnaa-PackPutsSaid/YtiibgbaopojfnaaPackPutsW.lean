/- The walk of PackPuts. -/
import Derived.Test.YtiibgbaopojfnaaPkP
import Derived.Test.YtiibgbaopojfnaaPackNilW
import Derived.Deep.RegionHeld3
namespace Go.Proofs.Ytiibgbaopojfnaa
open Go.RowKit
/-- The condition that a region holds may be made stronger on the way. -/
theorem wpAnyH_mono {P : Program} {ops : Array Oper} {Q : Exit → Act → World → Prop} {md : Region.Mode} {S S' : World → Prop} (hS : ∀ w, S' w → S w) :
    ∀ (fuel : Nat) (listed : Array Bool) (a : Act) (w : World), wpAnyH P md ops Q S' fuel listed a w → wpAnyH P md ops Q S fuel listed a w
  | 0, _, _, _, h => h
  | fuel + 1, _, _, _, h => ⟨h.1, fun i hi => wpOp_mono (fun a' w' h' => ⟨hS _ h'.1, wpAnyH_mono hS fuel _ a' w' h'.2⟩) (h.2 i hi)⟩
theorem strOfNums_append (a b : List Int) : strOfNums (a ++ b) = strOfNums a ++ strOfNums b := by
  apply ByteArray.ext
  simp [strOfNums]
set_option maxHeartbeats 400000 in
theorem refNumB_any (v : Value) (t : List Int) (w : World) (h : Sees w v t) (hok : okB t) (hl : t.length ≤ 8) :
    Calls Try.prog 15 #[v] w fun e w' => e = .returned (.int .u64 (numBE t)) ∧ w = w' := by
  obtain ⟨ao, c, rfl, hlc, hnil, hc⟩ := h
  have HO := Lib.hid hok
  have A1 : Aside (∀ a, ao = some a → ∀ i, i < t.length → w.cell? (a.add i) = some (.int .u8 (t.getD i 0))) := hc
  clear hc hok
  go_enter Try.func15, Try.ntmps15
  go_wp2_with fail
  go_loop [3, 5, 8] (fun n _ j => ∃ i : Nat, i ≤ t.length ∧ j = .int .i64 i ∧ n = .int .u64 (numBE (t.take i))) (fun _ _ j => t.length - (intOf j).toNat)
  case atStart => exact ⟨0, by omega, rfl, rfl⟩
  case round =>
    obtain ⟨i, hi, rfl, rfl⟩ := hrel
    by_cases hlt : i < t.length
    · obtain ⟨a, rfl⟩ : ∃ a, ao = some a := by
        cases ao with
        | none => rw [hnil rfl] at hlt; simp at hlt
        | some a => exact ⟨a, rfl⟩
      have hcell := A1 a rfl i hlt
      obtain ⟨b0, b1⟩ := getD_ok HO.out hlt
      rw [getD_get hlt] at b0 b1
      obtain ⟨n0, n1⟩ := numBE_bd (t.take i) (HO.out.take i)
      have n2 := pow256 (t.take i).length (by rw [List.length_take]; omega)
      have n3 : numBE (t.take i) < 72057594037927936 := Int.lt_of_lt_of_le n1 n2
      clear n1 n2
      have s1 : IntKind.u64.wrap (numBE (t.take i) * 256) = numBE (t.take i) * 256 := IntWalk.u64_in _ (by omega)
      have s2 : IntKind.u64.wrap t[i] = t[i] := IntWalk.u64_in _ (by omega)
      have s3 : IntKind.u64.wrap (numBE (t.take i) * 256 + t[i]) = numBE (t.take i) * 256 + t[i] := IntWalk.u64_in _ (by omega)
      go_wp2
      go_round
      case rel => exact ⟨i + 1, by omega, by go_num, by rw [take_snocI t i hlt, numBE_snoc, getD_get hlt]⟩
      case measure => simp [intOf]; omega
    · have HV : Hid (numBE (t.take i) = numBE t) := Lib.hid (by rw [List.take_of_length_le (by omega)])
      go_wp2
      go_ret
      exact ⟨congrArg (fun n => Ending.returned (.int .u64 n)) HV.out, rfl⟩
set_option maxHeartbeats 400000 in
theorem few_any (v : Value) (xs : List Int) (w : World) (h : Sees w v xs) (hm : xs.length ≤ maxLen) :
    Calls Try.prog 6 #[v] w fun e w' => ∃ v', e = .returned v' ∧ Sees w v' (xs.take 200) ∧ w = w' := by
  have H := Lib.hid h
  obtain ⟨ao, c, rfl, hlc, hnil, hc⟩ := h
  unfold maxLen at hm
  by_cases hgt : 200 < xs.length
  · have d0 : decide (200 < (xs.length : Int)) = true := by simp; omega
    have K : Hid (Sees w (.slice ao 200 c) (xs.take 200)) := Lib.hid (by
      have e : (xs.take 200).length = 200 := by rw [List.length_take]; omega
      refine ⟨ao, c, by rw [e], by omega, fun h => by rw [hnil h]; rfl, fun a ha i hi => ?_⟩
      rw [e] at hi
      rw [hc a ha i (by omega)]
      simp only [List.getD, List.getElem?_take, if_pos hi])
    clear hc
    go_enter Try.func6, Try.ntmps6
    go_wp2
    go_ret
    exact ⟨_, rfl, K.out, rfl⟩
  · have d0 : decide (200 < (xs.length : Int)) = false := by simp; omega
    have K : Hid (xs.take 200 = xs) := Lib.hid (List.take_of_length_le (by omega))
    clear hc
    go_enter Try.func6, Try.ntmps6
    go_wp2
    go_ret
    exact ⟨_, rfl, by rw [K.out]; exact H.out, rfl⟩
theorem strOf_strI (s : ByteArray) : strOfNums (strI s) = s := by
  apply ByteArray.ext
  unfold strOfNums strI
  simp only [List.map_map]
  rw [show ((fun n : Int => UInt8.ofNat n.toNat) ∘ fun b : UInt8 => (b.toNat : Int)) = id from funext fun b => by simp]
  simp
theorem okB_append {a b : List Int} (ha : okB a) (hb : okB b) : okB (a ++ b) := fun x hx => (List.mem_append.1 hx).elim (ha x) (hb x)
theorem okB_num (n : Int) : ∀ k, okB (numBytes n k)
  | 0 => fun x hx => by cases hx
  | k + 1 => fun x hx => by
    rcases List.mem_cons.1 hx with rfl | hx
    · have := Int.emod_nonneg (n / 256 ^ k) (show (256 : Int) ≠ 0 by omega)
      have := Int.emod_lt_of_pos (n / 256 ^ k) (show (0 : Int) < 256 by omega)
      omega
    · exact okB_num n k x hx
theorem okB_put (n k : Int) : okB (putL n k) := by
  unfold putL
  split
  · exact okB_num _ _
  · intro x hx; cases hx
theorem putL_len (n k : Int) : (putL n k).length ≤ 8 := by
  unfold putL wOk
  split
  · rename_i h
    rw [numBytes_length]
    have := of_decide_eq_true h
    omega
  · simp
theorem okB_str (s : ByteArray) : okB (strI s) := fun x hx => by
  obtain ⟨b, _, rfl⟩ := List.mem_map.1 hx
  have := b.toNat_lt
  omega
theorem okB_text {s : ByteArray} (hs : s.size ≤ 64) : okB (textL s) := fun x hx => by
  rcases List.mem_cons.1 hx with rfl | hx
  · omega
  · exact okB_str s x hx
theorem rd_ahead (a b : List Int) : rdB (some (a ++ b)) a.length = (a, some b) := by
  rw [rdB_yes (by simp)]
  simp
theorem rd_put {n k : Int} (b : List Int) (hk : wOk k = true) : rdU (some (putL n k ++ b)) k = (numBE (putL n k), some b) := by
  have e : (putL n k).length = k.toNat := by unfold putL; rw [if_pos hk, numBytes_length]
  have h1 := of_decide_eq_true hk
  unfold rdU
  have h2 := rd_ahead (putL n k) b
  rw [e, show ((k.toNat : Nat) : Int) = k from by omega] at h2
  rw [if_pos hk, h2]
theorem rd_text {s : ByteArray} (hs : s.size ≤ 64) : rdT (some (textL s)) = (strI s, some []) := by
  have e : rdU (some (textL s)) 1 = ((s.size : Int), some (strI s)) := by
    unfold rdU
    rw [if_pos (by decide), show textL s = [(s.size : Int)] ++ strI s from rfl, show (1 : Int) = [(s.size : Int)].length from rfl, rd_ahead]
    simp [numBE]
  unfold rdT
  rw [e, if_pos (by simp; omega)]
  simp only []
  have := rd_ahead (strI s) []
  rwa [List.append_nil, strI_length] at this
set_option linter.unusedSimpArgs false in
set_option maxRecDepth 4000 in
set_option maxHeartbeats 8000000 in
theorem lawPuts (w : World) (b : Value) (xs : List Int) (n k : Int) (s : ByteArray) (h : Sees w b xs) (hok : okB xs) (hm : xs.length ≤ maxLen) (hn : 0 ≤ n) (hn' : n < 18446744073709551616) (_ : -9223372036854775808 ≤ k) (_ : k ≤ 9223372036854775807) :
    Calls Try.prog 3 #[b, .int .u64 n, .int .i64 k, .string s] w fun e w' => e = .returned (.bool true) ∧ Below w.heap.size w w' := by
  have HF := Lib.hid (few_any b xs w h hm)
  obtain ⟨L, hL⟩ : ∃ L, L = xs.take 200 := ⟨_, rfl⟩
  have hLl : L.length ≤ 200 := by rw [hL, List.length_take]; omega
  have hLo : okB L := by rw [hL]; exact hok.take _
  rw [← hL] at HF
  clear hL h hok hm
  obtain ⟨X, hX⟩ : ∃ X, X = L ++ putL n k := ⟨_, rfl⟩
  have HX : Hid (L ++ putL n k = X) := Lib.hid hX.symm
  have hPl := putL_len n k
  have hXl : X.length ≤ 208 := by rw [hX, List.length_append]; omega
  have e3 : ((strOfNums X).toList == (strOfNums L ++ strOfNums (putL n k)).toList) = true := by rw [← strOfNums_append, ← hX]; simp
  have q3 : ¬ 9223372036854775807 < (strOfNums L).size + (strOfNums (putL n k)).size := by rw [strOfNums_size, strOfNums_size]; omega
  have hXo : okB X := by rw [hX]; exact okB_append hLo (okB_put n k)
  by_cases hs64 : s.size ≤ 64
  · have dS : decide (64 < (s.size : Int)) = false := by simp; omega
    obtain ⟨Y, hY⟩ : ∃ Y, Y = X ++ textL s := ⟨_, rfl⟩
    have HY : Hid (X ++ textL s = Y) := Lib.hid hY.symm
    have hTl : (textL s).length = s.size + 1 := by unfold textL; rw [List.length_cons, strI_length]
    have hYl : Y.length ≤ 300 := by rw [hY, List.length_append]; omega
    have HO : Hid (okB Y) := Lib.hid (by rw [hY]; exact okB_append hXo (okB_text hs64))
    have HO2 := Lib.hid (okB_put n k)
    have e8 : ((strOfNums Y).toList == (strOfNums X ++ strOfNums (textL s)).toList) = true := by rw [← strOfNums_append, ← hY]; simp
    have q8 : ¬ 9223372036854775807 < (strOfNums X).size + (strOfNums (textL s)).size := by rw [strOfNums_size, strOfNums_size]; omega
    have HB : Hid ((rdB (some Y) L.length).2 = some (putL n k ++ textL s)) := Lib.hid (by rw [hY, hX, List.append_assoc, rd_ahead])
    have eS : ((strOfNums (strI s)).toList == s.toList) = true := by rw [strOf_strI]; simp
    have HT0 := rd_text hs64
    clear hY hX hXo hLo
    by_cases h1 : 1 ≤ k
    · have d1 : decide (1 ≤ k) = true := by simpa using h1
      by_cases h8 : k ≤ 8
      · have d8 : decide (k ≤ 8) = true := by simpa using h8
        have HU : Hid (rdU (some (putL n k ++ textL s)) k = (numBE (putL n k), some (textL s))) := Lib.hid (rd_put _ (by unfold wOk; exact decide_eq_true ⟨h1, h8⟩))
        have HT : Hid (rdT (some (textL s)) = (strI s, some [])) := Lib.hid HT0
        have eN : (numBE (putL n k) != numBE (putL n k)) = false := by simp
        clear HT0
        go_enter Try.func3, Try.ntmps3
        go_wp2_with fail
        refine HF.out.mono ?_; rintro e w0 ⟨v0, rfl, hs0, rfl⟩
        go_wp2_with fail
        refine (put_any v0 L n k _ hs0 (by omega)).mono ?_; rintro e w1 ⟨vx, rfl, ho1, hb1⟩
        rw [HX.out] at ho1
        go_wp2_with fail
        refine wp_region_held_drew (S := (fun W => Sees W vx X ∧ Sees W v0 L ∧ Below w.heap.size w W)) (by kernel_rfl) ?_ (fun hHeld0 => ?_)
        · exact ⟨ho1.sees, hs0.keep hb1.drew, hb1.drew⟩
        refine wpAnyH_take (i := 0) (v := ?_) rfl (by kernel_rfl) (by kernel_rfl) (by kernel_rfl) (fun _ _ _ h => h) (Or.inl ⟨by rfl, ?_⟩) (by assumption) ?_
        rotate_left
        · intro w hSw
          (try dsimp only at hSw)
          go_simp
          first | done | with_reducible rfl
        try simp only [Act.put, List.getElem_toArray, List.getElem_cons_succ, List.getElem_cons_zero, List.setIfInBounds_toArray, List.set_cons_zero, List.set_cons_succ]
        refine wpAnyH_take (i := 1) (v := ?_) rfl (by kernel_rfl) (by kernel_rfl) (by kernel_rfl) (fun _ _ _ h => h) (Or.inl ⟨by rfl, ?_⟩) (by assumption) ?_
        rotate_left
        · intro w hSw
          (try dsimp only at hSw)
          have q1 := conv_sees hSw.1
          go_simp
          first | done | with_reducible rfl
        try simp only [Act.put, List.getElem_toArray, List.getElem_cons_succ, List.getElem_cons_zero, List.setIfInBounds_toArray, List.set_cons_zero, List.set_cons_succ]
        refine wpAnyH_take (i := 2) (v := ?_) rfl (by kernel_rfl) (by kernel_rfl) (by kernel_rfl) (fun _ _ _ h => h) (Or.inl ⟨by rfl, ?_⟩) (by assumption) ?_
        rotate_left
        · intro w hSw
          (try dsimp only at hSw)
          go_simp
          first | done | with_reducible rfl
        try simp only [Act.put, List.getElem_toArray, List.getElem_cons_succ, List.getElem_cons_zero, List.setIfInBounds_toArray, List.set_cons_zero, List.set_cons_succ]
        refine wpAnyH_take (i := 3) (v := ?_) rfl (by kernel_rfl) (by kernel_rfl) (by kernel_rfl) (fun _ _ _ h => h) (Or.inl ⟨by rfl, ?_⟩) (by assumption) ?_
        rotate_left
        · intro w hSw
          (try dsimp only at hSw)
          have q1 := conv_sees hSw.2.1
          go_simp
          first | done | with_reducible rfl
        try simp only [Act.put, List.getElem_toArray, List.getElem_cons_succ, List.getElem_cons_zero, List.setIfInBounds_toArray, List.set_cons_zero, List.set_cons_succ]
        refine wpAnyH_take (i := 4) (v := ?_) rfl (by kernel_rfl) (by kernel_rfl) (by kernel_rfl) (fun _ _ _ h => h) (Or.inl ⟨by rfl, ?_⟩) (by assumption) ?_
        rotate_left
        · intro w hSw
          (try dsimp only at hSw)
          go_simp
          first | done | with_reducible rfl
        try simp only [Act.put, List.getElem_toArray, List.getElem_cons_succ, List.getElem_cons_zero, List.setIfInBounds_toArray, List.set_cons_zero, List.set_cons_succ]
        refine wpAnyH_take (i := 5) (v := ?_) rfl (by kernel_rfl) (by kernel_rfl) (by kernel_rfl) (fun _ _ _ h => h) (Or.inl ⟨by rfl, ?_⟩) (by assumption) ?_
        rotate_left
        · intro w hSw
          (try dsimp only at hSw)
          go_simp
          first | done | with_reducible rfl
        try simp only [Act.put, List.getElem_toArray, List.getElem_cons_succ, List.getElem_cons_zero, List.setIfInBounds_toArray, List.set_cons_zero, List.set_cons_succ]
        refine wpAnyH_ready (rs := [6]) (by kernel_rfl) (by simp) ?_
        refine AllReadyH.cons rfl (fun K hK => ?_) AllReadyH.nil
        go_simp
        refine (refPut_any n k _ hn hn').mono ?_; rintro e w3 ⟨v3, rfl, ho3, hb3⟩
        refine hK.out _ _ ?_ (fun hH1 => ?_)
        · exact ⟨hHeld0.1.keep hb3, hHeld0.2.1.keep hb3, bel hHeld0.2.2 hb3⟩
        refine wpAnyH_mono (S' := (fun W => (Sees W vx X ∧ Sees W v0 L ∧ Below w.heap.size w W) ∧ Sees W v3 (putL n k))) (fun _ h => h.1) _ _ _ _ ?_
        have hH1x := And.intro hH1 ho3.sees
        try simp only [Act.put, List.getElem_toArray, List.getElem_cons_succ, List.getElem_cons_zero, List.setIfInBounds_toArray, List.set_cons_zero, List.set_cons_succ]
        refine wpAnyH_take (i := 7) (v := ?_) rfl (by kernel_rfl) (by kernel_rfl) (by kernel_rfl) (fun _ _ _ h => h) (Or.inl ⟨by rfl, ?_⟩) (by assumption) ?_
        rotate_left
        · intro w hSw
          (try dsimp only at hSw)
          have q1 := conv_sees hSw.2
          go_simp
          first | done | with_reducible rfl
        try simp only [Act.put, List.getElem_toArray, List.getElem_cons_succ, List.getElem_cons_zero, List.setIfInBounds_toArray, List.set_cons_zero, List.set_cons_succ]
        refine wpAnyH_take (i := 8) (v := ?_) rfl (by kernel_rfl) (by kernel_rfl) (by kernel_rfl) (fun _ _ _ h => h) (Or.inl ⟨by rfl, ?_⟩) (by assumption) ?_
        rotate_left
        · intro w hSw
          (try dsimp only at hSw)
          go_simp
          first | done | with_reducible rfl
        try simp only [Act.put, List.getElem_toArray, List.getElem_cons_succ, List.getElem_cons_zero, List.setIfInBounds_toArray, List.set_cons_zero, List.set_cons_succ]
        refine wpAnyH_take (i := 9) (v := ?_) rfl (by kernel_rfl) (by kernel_rfl) (by kernel_rfl) (fun _ _ _ h => h) (Or.inl ⟨by rfl, ?_⟩) (by assumption) ?_
        rotate_left
        · intro w hSw
          (try dsimp only at hSw)
          go_simp
          first | done | with_reducible rfl
        try simp only [Act.put, List.getElem_toArray, List.getElem_cons_succ, List.getElem_cons_zero, List.setIfInBounds_toArray, List.set_cons_zero, List.set_cons_succ]
        refine wpAnyH_done (by kernel_rfl) ?_ _
        obtain ⟨⟨hx2, hl2, hb2⟩, -⟩ := hH1x
        go_wp2_with fail
        refine (textPut_any vx X s _ hx2 (by omega) hs64).mono ?_; rintro e w4 ⟨vy, rfl, hoy, hb4⟩
        rw [HY.out] at hoy
        have hS8 : (fun W => Sees W vy Y ∧ Sees W vx X ∧ Sees W v0 L ∧ Below w.heap.size w W) w4 := ⟨hoy.sees, hx2.keep hb4, hl2.keep hb4, bel hb2 hb4⟩
        clear hx2 hl2 hb2
        go_wp2_with fail
        refine wp_region_held_drew (S := (fun W => Sees W vy Y ∧ Sees W vx X ∧ Sees W v0 L ∧ Below w.heap.size w W)) (by kernel_rfl) ?_ (fun hHeld0 => ?_)
        · exact ⟨hS8.1, hS8.2.1, hS8.2.2.1, hS8.2.2.2.drew⟩
        refine wpAnyH_take (i := 0) (v := ?_) rfl (by kernel_rfl) (by kernel_rfl) (by kernel_rfl) (fun _ _ _ h => h) (Or.inl ⟨by rfl, ?_⟩) (by assumption) ?_
        rotate_left
        · intro w hSw
          (try dsimp only at hSw)
          go_simp
          first | done | with_reducible rfl
        try simp only [Act.put, List.getElem_toArray, List.getElem_cons_succ, List.getElem_cons_zero, List.setIfInBounds_toArray, List.set_cons_zero, List.set_cons_succ]
        refine wpAnyH_take (i := 1) (v := ?_) rfl (by kernel_rfl) (by kernel_rfl) (by kernel_rfl) (fun _ _ _ h => h) (Or.inl ⟨by rfl, ?_⟩) (by assumption) ?_
        rotate_left
        · intro w hSw
          (try dsimp only at hSw)
          go_simp
          first | done | with_reducible rfl
        try simp only [Act.put, List.getElem_toArray, List.getElem_cons_succ, List.getElem_cons_zero, List.setIfInBounds_toArray, List.set_cons_zero, List.set_cons_succ]
        refine wpAnyH_take (i := 2) (v := ?_) rfl (by kernel_rfl) (by kernel_rfl) (by kernel_rfl) (fun _ _ _ h => h) (Or.inl ⟨by rfl, ?_⟩) (by assumption) ?_
        rotate_left
        · intro w hSw
          (try dsimp only at hSw)
          go_simp
          first | done | with_reducible rfl
        try simp only [Act.put, List.getElem_toArray, List.getElem_cons_succ, List.getElem_cons_zero, List.setIfInBounds_toArray, List.set_cons_zero, List.set_cons_succ]
        refine wpAnyH_take (i := 3) (v := ?_) rfl (by kernel_rfl) (by kernel_rfl) (by kernel_rfl) (fun _ _ _ h => h) (Or.inl ⟨by rfl, ?_⟩) (by assumption) ?_
        rotate_left
        · intro w hSw
          (try dsimp only at hSw)
          go_simp
          first | done | with_reducible rfl
        try simp only [Act.put, List.getElem_toArray, List.getElem_cons_succ, List.getElem_cons_zero, List.setIfInBounds_toArray, List.set_cons_zero, List.set_cons_succ]
        refine wpAnyH_take (i := 4) (v := ?_) rfl (by kernel_rfl) (by kernel_rfl) (by kernel_rfl) (fun _ _ _ h => h) (Or.inl ⟨by rfl, ?_⟩) (by assumption) ?_
        rotate_left
        · intro w hSw
          (try dsimp only at hSw)
          have q1 := conv_sees hSw.1
          go_simp
          first | done | with_reducible rfl
        try simp only [Act.put, List.getElem_toArray, List.getElem_cons_succ, List.getElem_cons_zero, List.setIfInBounds_toArray, List.set_cons_zero, List.set_cons_succ]
        refine wpAnyH_take (i := 5) (v := ?_) rfl (by kernel_rfl) (by kernel_rfl) (by kernel_rfl) (fun _ _ _ h => h) (Or.inl ⟨by rfl, ?_⟩) (by assumption) ?_
        rotate_left
        · intro w hSw
          (try dsimp only at hSw)
          go_simp
          first | done | with_reducible rfl
        try simp only [Act.put, List.getElem_toArray, List.getElem_cons_succ, List.getElem_cons_zero, List.setIfInBounds_toArray, List.set_cons_zero, List.set_cons_succ]
        refine wpAnyH_take (i := 6) (v := ?_) rfl (by kernel_rfl) (by kernel_rfl) (by kernel_rfl) (fun _ _ _ h => h) (Or.inl ⟨by rfl, ?_⟩) (by assumption) ?_
        rotate_left
        · intro w hSw
          (try dsimp only at hSw)
          have q1 := conv_sees hSw.2.1
          go_simp
          first | done | with_reducible rfl
        try simp only [Act.put, List.getElem_toArray, List.getElem_cons_succ, List.getElem_cons_zero, List.setIfInBounds_toArray, List.set_cons_zero, List.set_cons_succ]
        refine wpAnyH_take (i := 7) (v := ?_) rfl (by kernel_rfl) (by kernel_rfl) (by kernel_rfl) (fun _ _ _ h => h) (Or.inl ⟨by rfl, ?_⟩) (by assumption) ?_
        rotate_left
        · intro w hSw
          (try dsimp only at hSw)
          go_simp
          first | done | with_reducible rfl
        try simp only [Act.put, List.getElem_toArray, List.getElem_cons_succ, List.getElem_cons_zero, List.setIfInBounds_toArray, List.set_cons_zero, List.set_cons_succ]
        refine wpAnyH_ready (rs := [8]) (by kernel_rfl) (by simp) ?_
        refine AllReadyH.cons rfl (fun K hK => ?_) AllReadyH.nil
        go_simp
        refine (refText_any s _ hs64).mono ?_; rintro e w5 ⟨v5, rfl, ho5, hb5⟩
        refine hK.out _ _ ?_ (fun hH2 => ?_)
        · exact ⟨hHeld0.1.keep hb5, hHeld0.2.1.keep hb5, hHeld0.2.2.1.keep hb5, bel hHeld0.2.2.2 hb5⟩
        refine wpAnyH_mono (S' := (fun W => (Sees W vy Y ∧ Sees W vx X ∧ Sees W v0 L ∧ Below w.heap.size w W) ∧ Sees W v5 (textL s))) (fun _ h => h.1) _ _ _ _ ?_
        have hH2x := And.intro hH2 ho5.sees
        try simp only [Act.put, List.getElem_toArray, List.getElem_cons_succ, List.getElem_cons_zero, List.setIfInBounds_toArray, List.set_cons_zero, List.set_cons_succ]
        refine wpAnyH_take (i := 9) (v := ?_) rfl (by kernel_rfl) (by kernel_rfl) (by kernel_rfl) (fun _ _ _ h => h) (Or.inl ⟨by rfl, ?_⟩) (by assumption) ?_
        rotate_left
        · intro w hSw
          (try dsimp only at hSw)
          have q1 := conv_sees hSw.2
          go_simp
          first | done | with_reducible rfl
        try simp only [Act.put, List.getElem_toArray, List.getElem_cons_succ, List.getElem_cons_zero, List.setIfInBounds_toArray, List.set_cons_zero, List.set_cons_succ]
        refine wpAnyH_take (i := 10) (v := ?_) rfl (by kernel_rfl) (by kernel_rfl) (by kernel_rfl) (fun _ _ _ h => h) (Or.inl ⟨by rfl, ?_⟩) (by assumption) ?_
        rotate_left
        · intro w hSw
          (try dsimp only at hSw)
          go_simp
          first | done | with_reducible rfl
        try simp only [Act.put, List.getElem_toArray, List.getElem_cons_succ, List.getElem_cons_zero, List.setIfInBounds_toArray, List.set_cons_zero, List.set_cons_succ]
        refine wpAnyH_take (i := 11) (v := ?_) rfl (by kernel_rfl) (by kernel_rfl) (by kernel_rfl) (fun _ _ _ h => h) (Or.inl ⟨by rfl, ?_⟩) (by assumption) ?_
        rotate_left
        · intro w hSw
          (try dsimp only at hSw)
          go_simp
          first | done | with_reducible rfl
        try simp only [Act.put, List.getElem_toArray, List.getElem_cons_succ, List.getElem_cons_zero, List.setIfInBounds_toArray, List.set_cons_zero, List.set_cons_succ]
        refine wpAnyH_take (i := 12) (v := ?_) rfl (by kernel_rfl) (by kernel_rfl) (by kernel_rfl) (fun _ _ _ h => h) (Or.inl ⟨by rfl, ?_⟩) (by assumption) ?_
        rotate_left
        · intro w hSw
          (try dsimp only at hSw)
          go_simp
          first | done | with_reducible rfl
        try simp only [Act.put, List.getElem_toArray, List.getElem_cons_succ, List.getElem_cons_zero, List.setIfInBounds_toArray, List.set_cons_zero, List.set_cons_succ]
        refine wpAnyH_done (by kernel_rfl) ?_ _
        obtain ⟨⟨hy6, -, hl6, hb6⟩, -⟩ := hH2x
        go_wp2_with fail
        refine (new_any vy Y _ hy6 HO.out (by omega)).mono ?_; rintro e w7 ⟨g, rfl, hr7, hg7, hb7⟩
        have hl7 := hl6.keep hb7
        have hb7' := bel hb6 hb7
        obtain ⟨aL, cL, rfl, hlc, hnL, hcL⟩ := hl7
        clear hcL
        go_wp2_with fail
        refine (bytes_any g g _ _ _ hr7).mono ?_; rintro e w8 ⟨v8, rfl, -, -, hr8, hg8⟩
        rw [HB.out] at hr8
        have hb8 := hb7'.grown hg8 hb7'.size (fun j hj => by cases hj; exact Nat.le_trans hb6.size hg7)
        go_wp2_with fail
        refine (u_any g g _ k _ hr8).mono ?_; rintro e w9 ⟨rfl, hr9, hg9⟩
        rw [HU.out] at hr9 ⊢
        have hb9 := hb8.grown hg9 hb8.size (fun j hj => by cases hj; exact Nat.le_trans hb6.size hg7)
        go_wp2_with fail
        refine (refPut_any n k _ hn hn').mono ?_; rintro e w10 ⟨v10, rfl, ho10, hb10⟩
        have hr10 := hr9.below hb10
        have hb10' := bel hb9 hb10
        go_wp2_with fail
        refine (refNumB_any v10 (putL n k) _ ho10.sees HO2.out (by omega)).mono ?_; rintro e w11 ⟨rfl, rfl⟩
        go_wp2_with fail
        refine (text_any g g _ _ hr10).mono ?_; rintro e w12 ⟨rfl, hr12, hg12⟩
        rw [HT.out] at hr12 ⊢
        have hb12 := hb10'.grown hg12 hb10'.size (fun j hj => by cases hj; exact Nat.le_trans hb6.size hg7)
        go_wp2_with fail
        refine (done_any g g _ _ hr12).mono ?_; rintro e w13 ⟨rfl, rfl⟩
        rw [show doneB (some []) = true from rfl]
        go_wp2_with fail
        refine (awake_any _).mono ?_; rintro e w14 ⟨rfl, hb14⟩
        go_wp2_with fail
        go_ret
        exact ⟨rfl, bel hb12 hb14⟩
      · have d8 : decide (k ≤ 8) = false := by simpa using h8
        have hp : putL n k = [] := by unfold putL wOk; rw [if_neg (by simp; omega)]
        have HT : Hid (rdT (some (putL n k ++ textL s)) = (strI s, some [])) := Lib.hid (by rw [hp]; exact HT0)
        clear HT0 hp
        go_enter Try.func3, Try.ntmps3
        go_wp2_with fail
        refine HF.out.mono ?_; rintro e w0 ⟨v0, rfl, hs0, rfl⟩
        go_wp2_with fail
        refine (put_any v0 L n k _ hs0 (by omega)).mono ?_; rintro e w1 ⟨vx, rfl, ho1, hb1⟩
        rw [HX.out] at ho1
        go_wp2_with fail
        refine wp_region_held_drew (S := (fun W => Sees W vx X ∧ Sees W v0 L ∧ Below w.heap.size w W)) (by kernel_rfl) ?_ (fun hHeld0 => ?_)
        · exact ⟨ho1.sees, hs0.keep hb1.drew, hb1.drew⟩
        refine wpAnyH_take (i := 0) (v := ?_) rfl (by kernel_rfl) (by kernel_rfl) (by kernel_rfl) (fun _ _ _ h => h) (Or.inl ⟨by rfl, ?_⟩) (by assumption) ?_
        rotate_left
        · intro w hSw
          (try dsimp only at hSw)
          go_simp
          first | done | with_reducible rfl
        try simp only [Act.put, List.getElem_toArray, List.getElem_cons_succ, List.getElem_cons_zero, List.setIfInBounds_toArray, List.set_cons_zero, List.set_cons_succ]
        refine wpAnyH_take (i := 1) (v := ?_) rfl (by kernel_rfl) (by kernel_rfl) (by kernel_rfl) (fun _ _ _ h => h) (Or.inl ⟨by rfl, ?_⟩) (by assumption) ?_
        rotate_left
        · intro w hSw
          (try dsimp only at hSw)
          have q1 := conv_sees hSw.1
          go_simp
          first | done | with_reducible rfl
        try simp only [Act.put, List.getElem_toArray, List.getElem_cons_succ, List.getElem_cons_zero, List.setIfInBounds_toArray, List.set_cons_zero, List.set_cons_succ]
        refine wpAnyH_take (i := 2) (v := ?_) rfl (by kernel_rfl) (by kernel_rfl) (by kernel_rfl) (fun _ _ _ h => h) (Or.inl ⟨by rfl, ?_⟩) (by assumption) ?_
        rotate_left
        · intro w hSw
          (try dsimp only at hSw)
          go_simp
          first | done | with_reducible rfl
        try simp only [Act.put, List.getElem_toArray, List.getElem_cons_succ, List.getElem_cons_zero, List.setIfInBounds_toArray, List.set_cons_zero, List.set_cons_succ]
        refine wpAnyH_take (i := 3) (v := ?_) rfl (by kernel_rfl) (by kernel_rfl) (by kernel_rfl) (fun _ _ _ h => h) (Or.inl ⟨by rfl, ?_⟩) (by assumption) ?_
        rotate_left
        · intro w hSw
          (try dsimp only at hSw)
          have q1 := conv_sees hSw.2.1
          go_simp
          first | done | with_reducible rfl
        try simp only [Act.put, List.getElem_toArray, List.getElem_cons_succ, List.getElem_cons_zero, List.setIfInBounds_toArray, List.set_cons_zero, List.set_cons_succ]
        refine wpAnyH_take (i := 4) (v := ?_) rfl (by kernel_rfl) (by kernel_rfl) (by kernel_rfl) (fun _ _ _ h => h) (Or.inl ⟨by rfl, ?_⟩) (by assumption) ?_
        rotate_left
        · intro w hSw
          (try dsimp only at hSw)
          go_simp
          first | done | with_reducible rfl
        try simp only [Act.put, List.getElem_toArray, List.getElem_cons_succ, List.getElem_cons_zero, List.setIfInBounds_toArray, List.set_cons_zero, List.set_cons_succ]
        refine wpAnyH_take (i := 5) (v := ?_) rfl (by kernel_rfl) (by kernel_rfl) (by kernel_rfl) (fun _ _ _ h => h) (Or.inl ⟨by rfl, ?_⟩) (by assumption) ?_
        rotate_left
        · intro w hSw
          (try dsimp only at hSw)
          go_simp
          first | done | with_reducible rfl
        try simp only [Act.put, List.getElem_toArray, List.getElem_cons_succ, List.getElem_cons_zero, List.setIfInBounds_toArray, List.set_cons_zero, List.set_cons_succ]
        refine wpAnyH_ready (rs := [6]) (by kernel_rfl) (by simp) ?_
        refine AllReadyH.cons rfl (fun K hK => ?_) AllReadyH.nil
        go_simp
        refine (refPut_any n k _ hn hn').mono ?_; rintro e w3 ⟨v3, rfl, ho3, hb3⟩
        refine hK.out _ _ ?_ (fun hH1 => ?_)
        · exact ⟨hHeld0.1.keep hb3, hHeld0.2.1.keep hb3, bel hHeld0.2.2 hb3⟩
        refine wpAnyH_mono (S' := (fun W => (Sees W vx X ∧ Sees W v0 L ∧ Below w.heap.size w W) ∧ Sees W v3 (putL n k))) (fun _ h => h.1) _ _ _ _ ?_
        have hH1x := And.intro hH1 ho3.sees
        try simp only [Act.put, List.getElem_toArray, List.getElem_cons_succ, List.getElem_cons_zero, List.setIfInBounds_toArray, List.set_cons_zero, List.set_cons_succ]
        refine wpAnyH_take (i := 7) (v := ?_) rfl (by kernel_rfl) (by kernel_rfl) (by kernel_rfl) (fun _ _ _ h => h) (Or.inl ⟨by rfl, ?_⟩) (by assumption) ?_
        rotate_left
        · intro w hSw
          (try dsimp only at hSw)
          have q1 := conv_sees hSw.2
          go_simp
          first | done | with_reducible rfl
        try simp only [Act.put, List.getElem_toArray, List.getElem_cons_succ, List.getElem_cons_zero, List.setIfInBounds_toArray, List.set_cons_zero, List.set_cons_succ]
        refine wpAnyH_take (i := 8) (v := ?_) rfl (by kernel_rfl) (by kernel_rfl) (by kernel_rfl) (fun _ _ _ h => h) (Or.inl ⟨by rfl, ?_⟩) (by assumption) ?_
        rotate_left
        · intro w hSw
          (try dsimp only at hSw)
          go_simp
          first | done | with_reducible rfl
        try simp only [Act.put, List.getElem_toArray, List.getElem_cons_succ, List.getElem_cons_zero, List.setIfInBounds_toArray, List.set_cons_zero, List.set_cons_succ]
        refine wpAnyH_take (i := 9) (v := ?_) rfl (by kernel_rfl) (by kernel_rfl) (by kernel_rfl) (fun _ _ _ h => h) (Or.inl ⟨by rfl, ?_⟩) (by assumption) ?_
        rotate_left
        · intro w hSw
          (try dsimp only at hSw)
          go_simp
          first | done | with_reducible rfl
        try simp only [Act.put, List.getElem_toArray, List.getElem_cons_succ, List.getElem_cons_zero, List.setIfInBounds_toArray, List.set_cons_zero, List.set_cons_succ]
        refine wpAnyH_done (by kernel_rfl) ?_ _
        obtain ⟨⟨hx2, hl2, hb2⟩, -⟩ := hH1x
        go_wp2_with fail
        refine (textPut_any vx X s _ hx2 (by omega) hs64).mono ?_; rintro e w4 ⟨vy, rfl, hoy, hb4⟩
        rw [HY.out] at hoy
        have hS8 : (fun W => Sees W vy Y ∧ Sees W vx X ∧ Sees W v0 L ∧ Below w.heap.size w W) w4 := ⟨hoy.sees, hx2.keep hb4, hl2.keep hb4, bel hb2 hb4⟩
        clear hx2 hl2 hb2
        go_wp2_with fail
        refine wp_region_held_drew (S := (fun W => Sees W vy Y ∧ Sees W vx X ∧ Sees W v0 L ∧ Below w.heap.size w W)) (by kernel_rfl) ?_ (fun hHeld0 => ?_)
        · exact ⟨hS8.1, hS8.2.1, hS8.2.2.1, hS8.2.2.2.drew⟩
        refine wpAnyH_take (i := 0) (v := ?_) rfl (by kernel_rfl) (by kernel_rfl) (by kernel_rfl) (fun _ _ _ h => h) (Or.inl ⟨by rfl, ?_⟩) (by assumption) ?_
        rotate_left
        · intro w hSw
          (try dsimp only at hSw)
          go_simp
          first | done | with_reducible rfl
        try simp only [Act.put, List.getElem_toArray, List.getElem_cons_succ, List.getElem_cons_zero, List.setIfInBounds_toArray, List.set_cons_zero, List.set_cons_succ]
        refine wpAnyH_take (i := 1) (v := ?_) rfl (by kernel_rfl) (by kernel_rfl) (by kernel_rfl) (fun _ _ _ h => h) (Or.inl ⟨by rfl, ?_⟩) (by assumption) ?_
        rotate_left
        · intro w hSw
          (try dsimp only at hSw)
          go_simp
          first | done | with_reducible rfl
        try simp only [Act.put, List.getElem_toArray, List.getElem_cons_succ, List.getElem_cons_zero, List.setIfInBounds_toArray, List.set_cons_zero, List.set_cons_succ]
        refine wpAnyH_take (i := 2) (v := ?_) rfl (by kernel_rfl) (by kernel_rfl) (by kernel_rfl) (fun _ _ _ h => h) (Or.inl ⟨by rfl, ?_⟩) (by assumption) ?_
        rotate_left
        · intro w hSw
          (try dsimp only at hSw)
          go_simp
          first | done | with_reducible rfl
        try simp only [Act.put, List.getElem_toArray, List.getElem_cons_succ, List.getElem_cons_zero, List.setIfInBounds_toArray, List.set_cons_zero, List.set_cons_succ]
        refine wpAnyH_take (i := 3) (v := ?_) rfl (by kernel_rfl) (by kernel_rfl) (by kernel_rfl) (fun _ _ _ h => h) (Or.inl ⟨by rfl, ?_⟩) (by assumption) ?_
        rotate_left
        · intro w hSw
          (try dsimp only at hSw)
          go_simp
          first | done | with_reducible rfl
        try simp only [Act.put, List.getElem_toArray, List.getElem_cons_succ, List.getElem_cons_zero, List.setIfInBounds_toArray, List.set_cons_zero, List.set_cons_succ]
        refine wpAnyH_take (i := 4) (v := ?_) rfl (by kernel_rfl) (by kernel_rfl) (by kernel_rfl) (fun _ _ _ h => h) (Or.inl ⟨by rfl, ?_⟩) (by assumption) ?_
        rotate_left
        · intro w hSw
          (try dsimp only at hSw)
          have q1 := conv_sees hSw.1
          go_simp
          first | done | with_reducible rfl
        try simp only [Act.put, List.getElem_toArray, List.getElem_cons_succ, List.getElem_cons_zero, List.setIfInBounds_toArray, List.set_cons_zero, List.set_cons_succ]
        refine wpAnyH_take (i := 5) (v := ?_) rfl (by kernel_rfl) (by kernel_rfl) (by kernel_rfl) (fun _ _ _ h => h) (Or.inl ⟨by rfl, ?_⟩) (by assumption) ?_
        rotate_left
        · intro w hSw
          (try dsimp only at hSw)
          go_simp
          first | done | with_reducible rfl
        try simp only [Act.put, List.getElem_toArray, List.getElem_cons_succ, List.getElem_cons_zero, List.setIfInBounds_toArray, List.set_cons_zero, List.set_cons_succ]
        refine wpAnyH_take (i := 6) (v := ?_) rfl (by kernel_rfl) (by kernel_rfl) (by kernel_rfl) (fun _ _ _ h => h) (Or.inl ⟨by rfl, ?_⟩) (by assumption) ?_
        rotate_left
        · intro w hSw
          (try dsimp only at hSw)
          have q1 := conv_sees hSw.2.1
          go_simp
          first | done | with_reducible rfl
        try simp only [Act.put, List.getElem_toArray, List.getElem_cons_succ, List.getElem_cons_zero, List.setIfInBounds_toArray, List.set_cons_zero, List.set_cons_succ]
        refine wpAnyH_take (i := 7) (v := ?_) rfl (by kernel_rfl) (by kernel_rfl) (by kernel_rfl) (fun _ _ _ h => h) (Or.inl ⟨by rfl, ?_⟩) (by assumption) ?_
        rotate_left
        · intro w hSw
          (try dsimp only at hSw)
          go_simp
          first | done | with_reducible rfl
        try simp only [Act.put, List.getElem_toArray, List.getElem_cons_succ, List.getElem_cons_zero, List.setIfInBounds_toArray, List.set_cons_zero, List.set_cons_succ]
        refine wpAnyH_ready (rs := [8]) (by kernel_rfl) (by simp) ?_
        refine AllReadyH.cons rfl (fun K hK => ?_) AllReadyH.nil
        go_simp
        refine (refText_any s _ hs64).mono ?_; rintro e w5 ⟨v5, rfl, ho5, hb5⟩
        refine hK.out _ _ ?_ (fun hH2 => ?_)
        · exact ⟨hHeld0.1.keep hb5, hHeld0.2.1.keep hb5, hHeld0.2.2.1.keep hb5, bel hHeld0.2.2.2 hb5⟩
        refine wpAnyH_mono (S' := (fun W => (Sees W vy Y ∧ Sees W vx X ∧ Sees W v0 L ∧ Below w.heap.size w W) ∧ Sees W v5 (textL s))) (fun _ h => h.1) _ _ _ _ ?_
        have hH2x := And.intro hH2 ho5.sees
        try simp only [Act.put, List.getElem_toArray, List.getElem_cons_succ, List.getElem_cons_zero, List.setIfInBounds_toArray, List.set_cons_zero, List.set_cons_succ]
        refine wpAnyH_take (i := 9) (v := ?_) rfl (by kernel_rfl) (by kernel_rfl) (by kernel_rfl) (fun _ _ _ h => h) (Or.inl ⟨by rfl, ?_⟩) (by assumption) ?_
        rotate_left
        · intro w hSw
          (try dsimp only at hSw)
          have q1 := conv_sees hSw.2
          go_simp
          first | done | with_reducible rfl
        try simp only [Act.put, List.getElem_toArray, List.getElem_cons_succ, List.getElem_cons_zero, List.setIfInBounds_toArray, List.set_cons_zero, List.set_cons_succ]
        refine wpAnyH_take (i := 10) (v := ?_) rfl (by kernel_rfl) (by kernel_rfl) (by kernel_rfl) (fun _ _ _ h => h) (Or.inl ⟨by rfl, ?_⟩) (by assumption) ?_
        rotate_left
        · intro w hSw
          (try dsimp only at hSw)
          go_simp
          first | done | with_reducible rfl
        try simp only [Act.put, List.getElem_toArray, List.getElem_cons_succ, List.getElem_cons_zero, List.setIfInBounds_toArray, List.set_cons_zero, List.set_cons_succ]
        refine wpAnyH_take (i := 11) (v := ?_) rfl (by kernel_rfl) (by kernel_rfl) (by kernel_rfl) (fun _ _ _ h => h) (Or.inl ⟨by rfl, ?_⟩) (by assumption) ?_
        rotate_left
        · intro w hSw
          (try dsimp only at hSw)
          go_simp
          first | done | with_reducible rfl
        try simp only [Act.put, List.getElem_toArray, List.getElem_cons_succ, List.getElem_cons_zero, List.setIfInBounds_toArray, List.set_cons_zero, List.set_cons_succ]
        refine wpAnyH_take (i := 12) (v := ?_) rfl (by kernel_rfl) (by kernel_rfl) (by kernel_rfl) (fun _ _ _ h => h) (Or.inl ⟨by rfl, ?_⟩) (by assumption) ?_
        rotate_left
        · intro w hSw
          (try dsimp only at hSw)
          go_simp
          first | done | with_reducible rfl
        try simp only [Act.put, List.getElem_toArray, List.getElem_cons_succ, List.getElem_cons_zero, List.setIfInBounds_toArray, List.set_cons_zero, List.set_cons_succ]
        refine wpAnyH_done (by kernel_rfl) ?_ _
        obtain ⟨⟨hy6, -, hl6, hb6⟩, -⟩ := hH2x
        go_wp2_with fail
        refine (new_any vy Y _ hy6 HO.out (by omega)).mono ?_; rintro e w7 ⟨g, rfl, hr7, hg7, hb7⟩
        have hl7 := hl6.keep hb7
        have hb7' := bel hb6 hb7
        obtain ⟨aL, cL, rfl, hlc, hnL, hcL⟩ := hl7
        clear hcL
        go_wp2_with fail
        refine (bytes_any g g _ _ _ hr7).mono ?_; rintro e w8 ⟨v8, rfl, -, -, hr8, hg8⟩
        rw [HB.out] at hr8
        have hb8 := hb7'.grown hg8 hb7'.size (fun j hj => by cases hj; exact Nat.le_trans hb6.size hg7)
        go_wp2_with fail
        have hr10 := hr8
        have hb10' := hb8
        refine (text_any g g _ _ hr10).mono ?_; rintro e w12 ⟨rfl, hr12, hg12⟩
        rw [HT.out] at hr12 ⊢
        have hb12 := hb10'.grown hg12 hb10'.size (fun j hj => by cases hj; exact Nat.le_trans hb6.size hg7)
        go_wp2_with fail
        refine (done_any g g _ _ hr12).mono ?_; rintro e w13 ⟨rfl, rfl⟩
        rw [show doneB (some []) = true from rfl]
        go_wp2_with fail
        refine (awake_any _).mono ?_; rintro e w14 ⟨rfl, hb14⟩
        go_wp2_with fail
        go_ret
        exact ⟨rfl, bel hb12 hb14⟩
    · have d1 : decide (1 ≤ k) = false := by simpa using h1
      have hp : putL n k = [] := by unfold putL wOk; rw [if_neg (by simp; omega)]
      have HT : Hid (rdT (some (putL n k ++ textL s)) = (strI s, some [])) := Lib.hid (by rw [hp]; exact HT0)
      clear HT0 hp
      go_enter Try.func3, Try.ntmps3
      go_wp2_with fail
      refine HF.out.mono ?_; rintro e w0 ⟨v0, rfl, hs0, rfl⟩
      go_wp2_with fail
      refine (put_any v0 L n k _ hs0 (by omega)).mono ?_; rintro e w1 ⟨vx, rfl, ho1, hb1⟩
      rw [HX.out] at ho1
      go_wp2_with fail
      refine wp_region_held_drew (S := (fun W => Sees W vx X ∧ Sees W v0 L ∧ Below w.heap.size w W)) (by kernel_rfl) ?_ (fun hHeld0 => ?_)
      · exact ⟨ho1.sees, hs0.keep hb1.drew, hb1.drew⟩
      refine wpAnyH_take (i := 0) (v := ?_) rfl (by kernel_rfl) (by kernel_rfl) (by kernel_rfl) (fun _ _ _ h => h) (Or.inl ⟨by rfl, ?_⟩) (by assumption) ?_
      rotate_left
      · intro w hSw
        (try dsimp only at hSw)
        go_simp
        first | done | with_reducible rfl
      try simp only [Act.put, List.getElem_toArray, List.getElem_cons_succ, List.getElem_cons_zero, List.setIfInBounds_toArray, List.set_cons_zero, List.set_cons_succ]
      refine wpAnyH_take (i := 1) (v := ?_) rfl (by kernel_rfl) (by kernel_rfl) (by kernel_rfl) (fun _ _ _ h => h) (Or.inl ⟨by rfl, ?_⟩) (by assumption) ?_
      rotate_left
      · intro w hSw
        (try dsimp only at hSw)
        have q1 := conv_sees hSw.1
        go_simp
        first | done | with_reducible rfl
      try simp only [Act.put, List.getElem_toArray, List.getElem_cons_succ, List.getElem_cons_zero, List.setIfInBounds_toArray, List.set_cons_zero, List.set_cons_succ]
      refine wpAnyH_take (i := 2) (v := ?_) rfl (by kernel_rfl) (by kernel_rfl) (by kernel_rfl) (fun _ _ _ h => h) (Or.inl ⟨by rfl, ?_⟩) (by assumption) ?_
      rotate_left
      · intro w hSw
        (try dsimp only at hSw)
        go_simp
        first | done | with_reducible rfl
      try simp only [Act.put, List.getElem_toArray, List.getElem_cons_succ, List.getElem_cons_zero, List.setIfInBounds_toArray, List.set_cons_zero, List.set_cons_succ]
      refine wpAnyH_take (i := 3) (v := ?_) rfl (by kernel_rfl) (by kernel_rfl) (by kernel_rfl) (fun _ _ _ h => h) (Or.inl ⟨by rfl, ?_⟩) (by assumption) ?_
      rotate_left
      · intro w hSw
        (try dsimp only at hSw)
        have q1 := conv_sees hSw.2.1
        go_simp
        first | done | with_reducible rfl
      try simp only [Act.put, List.getElem_toArray, List.getElem_cons_succ, List.getElem_cons_zero, List.setIfInBounds_toArray, List.set_cons_zero, List.set_cons_succ]
      refine wpAnyH_take (i := 4) (v := ?_) rfl (by kernel_rfl) (by kernel_rfl) (by kernel_rfl) (fun _ _ _ h => h) (Or.inl ⟨by rfl, ?_⟩) (by assumption) ?_
      rotate_left
      · intro w hSw
        (try dsimp only at hSw)
        go_simp
        first | done | with_reducible rfl
      try simp only [Act.put, List.getElem_toArray, List.getElem_cons_succ, List.getElem_cons_zero, List.setIfInBounds_toArray, List.set_cons_zero, List.set_cons_succ]
      refine wpAnyH_take (i := 5) (v := ?_) rfl (by kernel_rfl) (by kernel_rfl) (by kernel_rfl) (fun _ _ _ h => h) (Or.inl ⟨by rfl, ?_⟩) (by assumption) ?_
      rotate_left
      · intro w hSw
        (try dsimp only at hSw)
        go_simp
        first | done | with_reducible rfl
      try simp only [Act.put, List.getElem_toArray, List.getElem_cons_succ, List.getElem_cons_zero, List.setIfInBounds_toArray, List.set_cons_zero, List.set_cons_succ]
      refine wpAnyH_ready (rs := [6]) (by kernel_rfl) (by simp) ?_
      refine AllReadyH.cons rfl (fun K hK => ?_) AllReadyH.nil
      go_simp
      refine (refPut_any n k _ hn hn').mono ?_; rintro e w3 ⟨v3, rfl, ho3, hb3⟩
      refine hK.out _ _ ?_ (fun hH1 => ?_)
      · exact ⟨hHeld0.1.keep hb3, hHeld0.2.1.keep hb3, bel hHeld0.2.2 hb3⟩
      refine wpAnyH_mono (S' := (fun W => (Sees W vx X ∧ Sees W v0 L ∧ Below w.heap.size w W) ∧ Sees W v3 (putL n k))) (fun _ h => h.1) _ _ _ _ ?_
      have hH1x := And.intro hH1 ho3.sees
      try simp only [Act.put, List.getElem_toArray, List.getElem_cons_succ, List.getElem_cons_zero, List.setIfInBounds_toArray, List.set_cons_zero, List.set_cons_succ]
      refine wpAnyH_take (i := 7) (v := ?_) rfl (by kernel_rfl) (by kernel_rfl) (by kernel_rfl) (fun _ _ _ h => h) (Or.inl ⟨by rfl, ?_⟩) (by assumption) ?_
      rotate_left
      · intro w hSw
        (try dsimp only at hSw)
        have q1 := conv_sees hSw.2
        go_simp
        first | done | with_reducible rfl
      try simp only [Act.put, List.getElem_toArray, List.getElem_cons_succ, List.getElem_cons_zero, List.setIfInBounds_toArray, List.set_cons_zero, List.set_cons_succ]
      refine wpAnyH_take (i := 8) (v := ?_) rfl (by kernel_rfl) (by kernel_rfl) (by kernel_rfl) (fun _ _ _ h => h) (Or.inl ⟨by rfl, ?_⟩) (by assumption) ?_
      rotate_left
      · intro w hSw
        (try dsimp only at hSw)
        go_simp
        first | done | with_reducible rfl
      try simp only [Act.put, List.getElem_toArray, List.getElem_cons_succ, List.getElem_cons_zero, List.setIfInBounds_toArray, List.set_cons_zero, List.set_cons_succ]
      refine wpAnyH_take (i := 9) (v := ?_) rfl (by kernel_rfl) (by kernel_rfl) (by kernel_rfl) (fun _ _ _ h => h) (Or.inl ⟨by rfl, ?_⟩) (by assumption) ?_
      rotate_left
      · intro w hSw
        (try dsimp only at hSw)
        go_simp
        first | done | with_reducible rfl
      try simp only [Act.put, List.getElem_toArray, List.getElem_cons_succ, List.getElem_cons_zero, List.setIfInBounds_toArray, List.set_cons_zero, List.set_cons_succ]
      refine wpAnyH_done (by kernel_rfl) ?_ _
      obtain ⟨⟨hx2, hl2, hb2⟩, -⟩ := hH1x
      go_wp2_with fail
      refine (textPut_any vx X s _ hx2 (by omega) hs64).mono ?_; rintro e w4 ⟨vy, rfl, hoy, hb4⟩
      rw [HY.out] at hoy
      have hS8 : (fun W => Sees W vy Y ∧ Sees W vx X ∧ Sees W v0 L ∧ Below w.heap.size w W) w4 := ⟨hoy.sees, hx2.keep hb4, hl2.keep hb4, bel hb2 hb4⟩
      clear hx2 hl2 hb2
      go_wp2_with fail
      refine wp_region_held_drew (S := (fun W => Sees W vy Y ∧ Sees W vx X ∧ Sees W v0 L ∧ Below w.heap.size w W)) (by kernel_rfl) ?_ (fun hHeld0 => ?_)
      · exact ⟨hS8.1, hS8.2.1, hS8.2.2.1, hS8.2.2.2.drew⟩
      refine wpAnyH_take (i := 0) (v := ?_) rfl (by kernel_rfl) (by kernel_rfl) (by kernel_rfl) (fun _ _ _ h => h) (Or.inl ⟨by rfl, ?_⟩) (by assumption) ?_
      rotate_left
      · intro w hSw
        (try dsimp only at hSw)
        go_simp
        first | done | with_reducible rfl
      try simp only [Act.put, List.getElem_toArray, List.getElem_cons_succ, List.getElem_cons_zero, List.setIfInBounds_toArray, List.set_cons_zero, List.set_cons_succ]
      refine wpAnyH_take (i := 1) (v := ?_) rfl (by kernel_rfl) (by kernel_rfl) (by kernel_rfl) (fun _ _ _ h => h) (Or.inl ⟨by rfl, ?_⟩) (by assumption) ?_
      rotate_left
      · intro w hSw
        (try dsimp only at hSw)
        go_simp
        first | done | with_reducible rfl
      try simp only [Act.put, List.getElem_toArray, List.getElem_cons_succ, List.getElem_cons_zero, List.setIfInBounds_toArray, List.set_cons_zero, List.set_cons_succ]
      refine wpAnyH_take (i := 2) (v := ?_) rfl (by kernel_rfl) (by kernel_rfl) (by kernel_rfl) (fun _ _ _ h => h) (Or.inl ⟨by rfl, ?_⟩) (by assumption) ?_
      rotate_left
      · intro w hSw
        (try dsimp only at hSw)
        go_simp
        first | done | with_reducible rfl
      try simp only [Act.put, List.getElem_toArray, List.getElem_cons_succ, List.getElem_cons_zero, List.setIfInBounds_toArray, List.set_cons_zero, List.set_cons_succ]
      refine wpAnyH_take (i := 3) (v := ?_) rfl (by kernel_rfl) (by kernel_rfl) (by kernel_rfl) (fun _ _ _ h => h) (Or.inl ⟨by rfl, ?_⟩) (by assumption) ?_
      rotate_left
      · intro w hSw
        (try dsimp only at hSw)
        go_simp
        first | done | with_reducible rfl
      try simp only [Act.put, List.getElem_toArray, List.getElem_cons_succ, List.getElem_cons_zero, List.setIfInBounds_toArray, List.set_cons_zero, List.set_cons_succ]
      refine wpAnyH_take (i := 4) (v := ?_) rfl (by kernel_rfl) (by kernel_rfl) (by kernel_rfl) (fun _ _ _ h => h) (Or.inl ⟨by rfl, ?_⟩) (by assumption) ?_
      rotate_left
      · intro w hSw
        (try dsimp only at hSw)
        have q1 := conv_sees hSw.1
        go_simp
        first | done | with_reducible rfl
      try simp only [Act.put, List.getElem_toArray, List.getElem_cons_succ, List.getElem_cons_zero, List.setIfInBounds_toArray, List.set_cons_zero, List.set_cons_succ]
      refine wpAnyH_take (i := 5) (v := ?_) rfl (by kernel_rfl) (by kernel_rfl) (by kernel_rfl) (fun _ _ _ h => h) (Or.inl ⟨by rfl, ?_⟩) (by assumption) ?_
      rotate_left
      · intro w hSw
        (try dsimp only at hSw)
        go_simp
        first | done | with_reducible rfl
      try simp only [Act.put, List.getElem_toArray, List.getElem_cons_succ, List.getElem_cons_zero, List.setIfInBounds_toArray, List.set_cons_zero, List.set_cons_succ]
      refine wpAnyH_take (i := 6) (v := ?_) rfl (by kernel_rfl) (by kernel_rfl) (by kernel_rfl) (fun _ _ _ h => h) (Or.inl ⟨by rfl, ?_⟩) (by assumption) ?_
      rotate_left
      · intro w hSw
        (try dsimp only at hSw)
        have q1 := conv_sees hSw.2.1
        go_simp
        first | done | with_reducible rfl
      try simp only [Act.put, List.getElem_toArray, List.getElem_cons_succ, List.getElem_cons_zero, List.setIfInBounds_toArray, List.set_cons_zero, List.set_cons_succ]
      refine wpAnyH_take (i := 7) (v := ?_) rfl (by kernel_rfl) (by kernel_rfl) (by kernel_rfl) (fun _ _ _ h => h) (Or.inl ⟨by rfl, ?_⟩) (by assumption) ?_
      rotate_left
      · intro w hSw
        (try dsimp only at hSw)
        go_simp
        first | done | with_reducible rfl
      try simp only [Act.put, List.getElem_toArray, List.getElem_cons_succ, List.getElem_cons_zero, List.setIfInBounds_toArray, List.set_cons_zero, List.set_cons_succ]
      refine wpAnyH_ready (rs := [8]) (by kernel_rfl) (by simp) ?_
      refine AllReadyH.cons rfl (fun K hK => ?_) AllReadyH.nil
      go_simp
      refine (refText_any s _ hs64).mono ?_; rintro e w5 ⟨v5, rfl, ho5, hb5⟩
      refine hK.out _ _ ?_ (fun hH2 => ?_)
      · exact ⟨hHeld0.1.keep hb5, hHeld0.2.1.keep hb5, hHeld0.2.2.1.keep hb5, bel hHeld0.2.2.2 hb5⟩
      refine wpAnyH_mono (S' := (fun W => (Sees W vy Y ∧ Sees W vx X ∧ Sees W v0 L ∧ Below w.heap.size w W) ∧ Sees W v5 (textL s))) (fun _ h => h.1) _ _ _ _ ?_
      have hH2x := And.intro hH2 ho5.sees
      try simp only [Act.put, List.getElem_toArray, List.getElem_cons_succ, List.getElem_cons_zero, List.setIfInBounds_toArray, List.set_cons_zero, List.set_cons_succ]
      refine wpAnyH_take (i := 9) (v := ?_) rfl (by kernel_rfl) (by kernel_rfl) (by kernel_rfl) (fun _ _ _ h => h) (Or.inl ⟨by rfl, ?_⟩) (by assumption) ?_
      rotate_left
      · intro w hSw
        (try dsimp only at hSw)
        have q1 := conv_sees hSw.2
        go_simp
        first | done | with_reducible rfl
      try simp only [Act.put, List.getElem_toArray, List.getElem_cons_succ, List.getElem_cons_zero, List.setIfInBounds_toArray, List.set_cons_zero, List.set_cons_succ]
      refine wpAnyH_take (i := 10) (v := ?_) rfl (by kernel_rfl) (by kernel_rfl) (by kernel_rfl) (fun _ _ _ h => h) (Or.inl ⟨by rfl, ?_⟩) (by assumption) ?_
      rotate_left
      · intro w hSw
        (try dsimp only at hSw)
        go_simp
        first | done | with_reducible rfl
      try simp only [Act.put, List.getElem_toArray, List.getElem_cons_succ, List.getElem_cons_zero, List.setIfInBounds_toArray, List.set_cons_zero, List.set_cons_succ]
      refine wpAnyH_take (i := 11) (v := ?_) rfl (by kernel_rfl) (by kernel_rfl) (by kernel_rfl) (fun _ _ _ h => h) (Or.inl ⟨by rfl, ?_⟩) (by assumption) ?_
      rotate_left
      · intro w hSw
        (try dsimp only at hSw)
        go_simp
        first | done | with_reducible rfl
      try simp only [Act.put, List.getElem_toArray, List.getElem_cons_succ, List.getElem_cons_zero, List.setIfInBounds_toArray, List.set_cons_zero, List.set_cons_succ]
      refine wpAnyH_take (i := 12) (v := ?_) rfl (by kernel_rfl) (by kernel_rfl) (by kernel_rfl) (fun _ _ _ h => h) (Or.inl ⟨by rfl, ?_⟩) (by assumption) ?_
      rotate_left
      · intro w hSw
        (try dsimp only at hSw)
        go_simp
        first | done | with_reducible rfl
      try simp only [Act.put, List.getElem_toArray, List.getElem_cons_succ, List.getElem_cons_zero, List.setIfInBounds_toArray, List.set_cons_zero, List.set_cons_succ]
      refine wpAnyH_done (by kernel_rfl) ?_ _
      obtain ⟨⟨hy6, -, hl6, hb6⟩, -⟩ := hH2x
      go_wp2_with fail
      refine (new_any vy Y _ hy6 HO.out (by omega)).mono ?_; rintro e w7 ⟨g, rfl, hr7, hg7, hb7⟩
      have hl7 := hl6.keep hb7
      have hb7' := bel hb6 hb7
      obtain ⟨aL, cL, rfl, hlc, hnL, hcL⟩ := hl7
      clear hcL
      go_wp2_with fail
      refine (bytes_any g g _ _ _ hr7).mono ?_; rintro e w8 ⟨v8, rfl, -, -, hr8, hg8⟩
      rw [HB.out] at hr8
      have hb8 := hb7'.grown hg8 hb7'.size (fun j hj => by cases hj; exact Nat.le_trans hb6.size hg7)
      go_wp2_with fail
      have hr10 := hr8
      have hb10' := hb8
      refine (text_any g g _ _ hr10).mono ?_; rintro e w12 ⟨rfl, hr12, hg12⟩
      rw [HT.out] at hr12 ⊢
      have hb12 := hb10'.grown hg12 hb10'.size (fun j hj => by cases hj; exact Nat.le_trans hb6.size hg7)
      go_wp2_with fail
      refine (done_any g g _ _ hr12).mono ?_; rintro e w13 ⟨rfl, rfl⟩
      rw [show doneB (some []) = true from rfl]
      go_wp2_with fail
      refine (awake_any _).mono ?_; rintro e w14 ⟨rfl, hb14⟩
      go_wp2_with fail
      go_ret
      exact ⟨rfl, bel hb12 hb14⟩
  · have dS : decide (64 < (s.size : Int)) = true := by simp; omega
    clear hX hXo hLo
    go_enter Try.func3, Try.ntmps3
    go_wp2_with fail
    refine HF.out.mono ?_; rintro e w0 ⟨v0, rfl, hs0, rfl⟩
    go_wp2_with fail
    refine (put_any v0 L n k _ hs0 (by omega)).mono ?_; rintro e w1 ⟨vx, rfl, ho1, hb1⟩
    rw [HX.out] at ho1
    go_wp2_with fail
    refine wp_region_held_drew (S := (fun W => Sees W vx X ∧ Sees W v0 L ∧ Below w.heap.size w W)) (by kernel_rfl) ?_ (fun hHeld0 => ?_)
    · exact ⟨ho1.sees, hs0.keep hb1.drew, hb1.drew⟩
    refine wpAnyH_take (i := 0) (v := ?_) rfl (by kernel_rfl) (by kernel_rfl) (by kernel_rfl) (fun _ _ _ h => h) (Or.inl ⟨by rfl, ?_⟩) (by assumption) ?_
    rotate_left
    · intro w hSw
      (try dsimp only at hSw)
      go_simp
      first | done | with_reducible rfl
    try simp only [Act.put, List.getElem_toArray, List.getElem_cons_succ, List.getElem_cons_zero, List.setIfInBounds_toArray, List.set_cons_zero, List.set_cons_succ]
    refine wpAnyH_take (i := 1) (v := ?_) rfl (by kernel_rfl) (by kernel_rfl) (by kernel_rfl) (fun _ _ _ h => h) (Or.inl ⟨by rfl, ?_⟩) (by assumption) ?_
    rotate_left
    · intro w hSw
      (try dsimp only at hSw)
      have q1 := conv_sees hSw.1
      go_simp
      first | done | with_reducible rfl
    try simp only [Act.put, List.getElem_toArray, List.getElem_cons_succ, List.getElem_cons_zero, List.setIfInBounds_toArray, List.set_cons_zero, List.set_cons_succ]
    refine wpAnyH_take (i := 2) (v := ?_) rfl (by kernel_rfl) (by kernel_rfl) (by kernel_rfl) (fun _ _ _ h => h) (Or.inl ⟨by rfl, ?_⟩) (by assumption) ?_
    rotate_left
    · intro w hSw
      (try dsimp only at hSw)
      go_simp
      first | done | with_reducible rfl
    try simp only [Act.put, List.getElem_toArray, List.getElem_cons_succ, List.getElem_cons_zero, List.setIfInBounds_toArray, List.set_cons_zero, List.set_cons_succ]
    refine wpAnyH_take (i := 3) (v := ?_) rfl (by kernel_rfl) (by kernel_rfl) (by kernel_rfl) (fun _ _ _ h => h) (Or.inl ⟨by rfl, ?_⟩) (by assumption) ?_
    rotate_left
    · intro w hSw
      (try dsimp only at hSw)
      have q1 := conv_sees hSw.2.1
      go_simp
      first | done | with_reducible rfl
    try simp only [Act.put, List.getElem_toArray, List.getElem_cons_succ, List.getElem_cons_zero, List.setIfInBounds_toArray, List.set_cons_zero, List.set_cons_succ]
    refine wpAnyH_take (i := 4) (v := ?_) rfl (by kernel_rfl) (by kernel_rfl) (by kernel_rfl) (fun _ _ _ h => h) (Or.inl ⟨by rfl, ?_⟩) (by assumption) ?_
    rotate_left
    · intro w hSw
      (try dsimp only at hSw)
      go_simp
      first | done | with_reducible rfl
    try simp only [Act.put, List.getElem_toArray, List.getElem_cons_succ, List.getElem_cons_zero, List.setIfInBounds_toArray, List.set_cons_zero, List.set_cons_succ]
    refine wpAnyH_take (i := 5) (v := ?_) rfl (by kernel_rfl) (by kernel_rfl) (by kernel_rfl) (fun _ _ _ h => h) (Or.inl ⟨by rfl, ?_⟩) (by assumption) ?_
    rotate_left
    · intro w hSw
      (try dsimp only at hSw)
      go_simp
      first | done | with_reducible rfl
    try simp only [Act.put, List.getElem_toArray, List.getElem_cons_succ, List.getElem_cons_zero, List.setIfInBounds_toArray, List.set_cons_zero, List.set_cons_succ]
    refine wpAnyH_ready (rs := [6]) (by kernel_rfl) (by simp) ?_
    refine AllReadyH.cons rfl (fun K hK => ?_) AllReadyH.nil
    go_simp
    refine (refPut_any n k _ hn hn').mono ?_; rintro e w3 ⟨v3, rfl, ho3, hb3⟩
    refine hK.out _ _ ?_ (fun hH1 => ?_)
    · exact ⟨hHeld0.1.keep hb3, hHeld0.2.1.keep hb3, bel hHeld0.2.2 hb3⟩
    refine wpAnyH_mono (S' := (fun W => (Sees W vx X ∧ Sees W v0 L ∧ Below w.heap.size w W) ∧ Sees W v3 (putL n k))) (fun _ h => h.1) _ _ _ _ ?_
    have hH1x := And.intro hH1 ho3.sees
    try simp only [Act.put, List.getElem_toArray, List.getElem_cons_succ, List.getElem_cons_zero, List.setIfInBounds_toArray, List.set_cons_zero, List.set_cons_succ]
    refine wpAnyH_take (i := 7) (v := ?_) rfl (by kernel_rfl) (by kernel_rfl) (by kernel_rfl) (fun _ _ _ h => h) (Or.inl ⟨by rfl, ?_⟩) (by assumption) ?_
    rotate_left
    · intro w hSw
      (try dsimp only at hSw)
      have q1 := conv_sees hSw.2
      go_simp
      first | done | with_reducible rfl
    try simp only [Act.put, List.getElem_toArray, List.getElem_cons_succ, List.getElem_cons_zero, List.setIfInBounds_toArray, List.set_cons_zero, List.set_cons_succ]
    refine wpAnyH_take (i := 8) (v := ?_) rfl (by kernel_rfl) (by kernel_rfl) (by kernel_rfl) (fun _ _ _ h => h) (Or.inl ⟨by rfl, ?_⟩) (by assumption) ?_
    rotate_left
    · intro w hSw
      (try dsimp only at hSw)
      go_simp
      first | done | with_reducible rfl
    try simp only [Act.put, List.getElem_toArray, List.getElem_cons_succ, List.getElem_cons_zero, List.setIfInBounds_toArray, List.set_cons_zero, List.set_cons_succ]
    refine wpAnyH_take (i := 9) (v := ?_) rfl (by kernel_rfl) (by kernel_rfl) (by kernel_rfl) (fun _ _ _ h => h) (Or.inl ⟨by rfl, ?_⟩) (by assumption) ?_
    rotate_left
    · intro w hSw
      (try dsimp only at hSw)
      go_simp
      first | done | with_reducible rfl
    try simp only [Act.put, List.getElem_toArray, List.getElem_cons_succ, List.getElem_cons_zero, List.setIfInBounds_toArray, List.set_cons_zero, List.set_cons_succ]
    refine wpAnyH_done (by kernel_rfl) ?_ _
    obtain ⟨⟨hx2, hl2, hb2⟩, -⟩ := hH1x
    go_wp2_with fail
    refine (textPut_no vx s _ (by omega)).mono ?_; rintro e w4 ⟨rfl, rfl⟩
    go_wp2_with fail
    refine (awake_any _).mono ?_; rintro e w14 ⟨rfl, hb14⟩
    go_wp2_with fail
    go_ret
    exact ⟨rfl, bel hb2 hb14⟩
end Go.Proofs.Ytiibgbaopojfnaa
