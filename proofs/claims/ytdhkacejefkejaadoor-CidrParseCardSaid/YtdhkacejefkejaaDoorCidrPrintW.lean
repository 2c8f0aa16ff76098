/- A net's text is read as it was; the walk of CidrPrint. -/
import Derived.Test.YtdhkacejefkejaaDoorCidr
import Derived.IntWalk
namespace Go.Proofs.YtdhkacejefkejaaDoor
open Go.RowKit
/-- Two nets in two blocks, and what was there before is as it was. -/
theorem pD {w W : World} {g h : Nat} {a b c d : Int} (H : W.cell? ⟨g, 0, none⟩ = some (.int .u32 a) ∧ W.cell? ⟨g, 1, none⟩ = some (.int .i64 b) ∧ W.cell? ⟨h, 0, none⟩ = some (.int .u32 c) ∧ W.cell? ⟨h, 1, none⟩ = some (.int .i64 d) ∧ g < W.heap.size ∧ h < W.heap.size ∧ Below w.heap.size w W) :
    W.drew.cell? ⟨g, 0, none⟩ = some (.int .u32 a) ∧ W.drew.cell? ⟨g, 1, none⟩ = some (.int .i64 b) ∧ W.drew.cell? ⟨h, 0, none⟩ = some (.int .u32 c) ∧ W.drew.cell? ⟨h, 1, none⟩ = some (.int .i64 d) ∧ g < W.drew.heap.size ∧ h < W.drew.heap.size ∧ Below w.heap.size w W.drew :=
  ⟨H.1, H.2.1, H.2.2.1, H.2.2.2.1, H.2.2.2.2.1, H.2.2.2.2.2.1, H.2.2.2.2.2.2.drew⟩
theorem pK {w W W' : World} {g h : Nat} {a b c d : Int} (H : W.cell? ⟨g, 0, none⟩ = some (.int .u32 a) ∧ W.cell? ⟨g, 1, none⟩ = some (.int .i64 b) ∧ W.cell? ⟨h, 0, none⟩ = some (.int .u32 c) ∧ W.cell? ⟨h, 1, none⟩ = some (.int .i64 d) ∧ g < W.heap.size ∧ h < W.heap.size ∧ Below w.heap.size w W) (hb : Below W.heap.size W W') :
    W'.cell? ⟨g, 0, none⟩ = some (.int .u32 a) ∧ W'.cell? ⟨g, 1, none⟩ = some (.int .i64 b) ∧ W'.cell? ⟨h, 0, none⟩ = some (.int .u32 c) ∧ W'.cell? ⟨h, 1, none⟩ = some (.int .i64 d) ∧ g < W'.heap.size ∧ h < W'.heap.size ∧ Below w.heap.size w W' :=
  have k := Cell2.keep (⟨H.1, H.2.1, H.2.2.2.2.1⟩ : Cell2 g a b W) hb
  have l := Cell2.keep (⟨H.2.2.1, H.2.2.2.1, H.2.2.2.2.2.1⟩ : Cell2 h c d W) hb
  ⟨k.1, k.2.1, l.1, l.2.1, k.2.2, l.2.2, bel H.2.2.2.2.2.2 hb⟩
theorem pB {w W : World} {g h : Nat} {a b c d : Int} (H : W.cell? ⟨g, 0, none⟩ = some (.int .u32 a) ∧ W.cell? ⟨g, 1, none⟩ = some (.int .i64 b) ∧ W.cell? ⟨h, 0, none⟩ = some (.int .u32 c) ∧ W.cell? ⟨h, 1, none⟩ = some (.int .i64 d) ∧ g < W.heap.size ∧ h < W.heap.size ∧ Below w.heap.size w W) : Below w.heap.size w W := H.2.2.2.2.2.2
theorem index_cons47 (c : UInt8) (l : List UInt8) : Lib.index (c :: l) [47] = if c = 47 then 0 else if Lib.index l [47] == -1 then -1 else Lib.index l [47] + 1 := by
  rw [Lib.index]
  by_cases h : c = 47
  · subst h; simp
  · have : ([47] : List UInt8).isPrefixOf (c :: l) = false := by simp [List.isPrefixOf]; exact fun e => h e.symm
    rw [this, if_neg h]; rfl
theorem cutS_nil : cutS [] = ([], [], false) := rfl
theorem cutS_cons (c : UInt8) (l : List UInt8) : cutS (c :: l) = if c = 47 then ([], l, true) else (c :: (cutS l).1, (cutS l).2.1, (cutS l).2.2) := by
  unfold cutS Lib.cut
  rw [index_cons47]
  have hg := Lib.index_ge l [47]
  by_cases h : c = 47
  · simp [h]
  · rw [if_neg h, if_neg h]
    by_cases h2 : Lib.index l [47] = -1
    · simp [h2]
    · have h3 : 0 ≤ Lib.index l [47] := by omega
      have h4 : (Lib.index l [47] == -1) = false := by simpa using h2
      rw [h4]
      simp only [Bool.false_eq_true, if_false]
      rw [if_pos (by omega), if_pos h3]
      obtain ⟨n, hn⟩ := Int.eq_ofNat_of_zero_le h3
      rw [hn, show ((n : Int) + 1).toNat = n + 1 from by omega, Int.toNat_natCast]
      simp
theorem cutS_app (w r : List UInt8) (hw : (47 : UInt8) ∉ w) : cutS (w ++ 47 :: r) = (w, r, true) := by
  induction w with
  | nil => rw [List.nil_append, cutS_cons, if_pos rfl]
  | cons c w ih =>
    simp only [List.mem_cons, not_or] at hw
    rw [List.cons_append, cutS_cons, if_neg (fun e => hw.1 e.symm), ih hw.2]
theorem no_slash (w : List UInt8) (h : w.all isDig = true) : (47 : UInt8) ∉ w := fun hm => by
  have := isDig_bounds (List.all_eq_true.1 h _ hm)
  simp at this
theorem no_slash_ip (a : Int) : (47 : UInt8) ∉ ipTxt a := by
  rw [ipTxt_eq]
  simp only [List.mem_append, List.mem_singleton, not_or]
  refine ⟨⟨⟨⟨⟨⟨no_slash _ (dec_all _), by decide⟩, no_slash _ (dec_all _)⟩, by decide⟩, no_slash _ (dec_all _)⟩, by decide⟩, no_slash _ (dec_all _)⟩
theorem numOk2_dec (b : Int) (h0 : 0 ≤ b) (h1 : b ≤ 32) : numOk 2 (Lib.decDigits b.toNat) = true := by
  have h := (canon_iff _).1 (canon_dec b.toNat)
  refine (numOk_iff 2 _).2 ⟨⟨?_, dec_len18 2 _ (by omega) (by omega), h.2.2⟩, h.2.1⟩
  have := List.length_pos_iff.2 h.1
  omega
/-- A net's text is read as it was. -/
theorem netOf_txt {a b : Int} (ha : 0 ≤ a) (ha' : a < 4294967296) (hm : mayB a b = true) : netOf (netText a b) = some (a, b) := by
  obtain ⟨b0, b1⟩ := may_bits hm
  have hc : cutS (netText a b) = (ipTxt a, Lib.decDigits b.toNat, true) := by
    unfold netText
    rw [if_pos hm]
    exact cutS_app _ _ (no_slash_ip a)
  have hn : num10 (Lib.decDigits b.toNat) = b := by rw [num10_dec]; omega
  unfold netOf
  rw [hc]
  simp only []
  rw [ipOf_txt a ha ha']
  simp only []
  rw [hn, numOk2_dec b b0 b1, hm]
  rfl
set_option linter.unusedSimpArgs false in
set_option maxRecDepth 4000 in
set_option maxHeartbeats 8000000 in
theorem lawNetPrint (a b : Int) (ha : 0 ≤ a) (ha' : a < 4294967296) (hb : -9223372036854775808 ≤ b) (hb' : b ≤ 9223372036854775807) (w : World) (hE : Env w) :
    Calls Tryd.prog 8 #[.agg #[.int .u32 a, .int .i64 b]] w fun e w' => e = .returned (.bool true) ∧ Below w.heap.size w w' := by
  have HO := Lib.hid (ours_any a b)
  have HP := Lib.hid (netPrint_any a b ha ha')
  have HQ := Lib.hid (refNetPrint_any a b ha ha' hb hb')
  have hlen : (netText a b).length ≤ 900 := by
    unfold netText
    split
    · rename_i hm
      obtain ⟨b0, b1⟩ := may_bits hm
      have h1 : (ipTxt a).length ≤ 16 := txt_len a ha ha' 4
      have h2 := size_dec b b0 (by omega)
      unfold netTxt
      rw [List.length_append, List.length_cons]
      omega
    · simp
  by_cases hm : mayB a b = true
  · have hNet : netVal (netOf (netText a b)) = .tuple #[.agg #[.int .u32 a, .int .i64 b], .int .i64 0] := by rw [netOf_txt ha ha' hm]; rfl
    have HY : Hid (∀ w, Calls Tryd.prog 30 #[.agg #[.int .u32 a, .int .i64 b]] w fun e w' => e = .returned (.bool true) ∧ Below w.heap.size w w') := Lib.hid (fun w => by rw [← hm]; exact may_any a b ha ha' w)
    have HM : Hid (∀ w, Calls Tryd.prog 31 #[.agg #[.int .u32 a, .int .i64 b]] w fun e w' => e = .returned (.bool true) ∧ Below w.heap.size w w') := Lib.hid (fun w => by rw [← hm]; exact refMay_any a b ha ha' hb hb' w)
    have HN : Hid (∀ w, Env w → Calls Tryd.prog 33 #[.string ⟨(netText a b).toArray⟩] w fun e w' => e = .returned (.tuple #[.agg #[.int .u32 a, .int .i64 b], .int .i64 0]) ∧ Below w.heap.size w w') := Lib.hid (fun w hE => by
      have := netParse_any ⟨(netText a b).toArray⟩ w hE (by rw [size_mk]; exact hlen)
      rw [hNet] at this
      exact this)
    clear hm hNet
    go_enter Tryd.func8, Tryd.ntmps8
    go_wp2_with fail
    refine (HO.out _).mono ?_; rintro e w1 ⟨rfl, hb1⟩
    have hC1 := (Cell2.new w a b 44).keep hb1
    have hB1 := bel (belNew w _) hb1
    go_wp2_with fail
    refine (HP.out _ (hE.below hB1)).mono ?_; rintro e w2 ⟨rfl, hb2⟩
    have hC2 := hC1.keep hb2
    have hS : ((fun W => W.cell? ⟨w.heap.size, 0, none⟩ = some (.int .u32 a) ∧ W.cell? ⟨w.heap.size, 1, none⟩ = some (.int .i64 b) ∧ w.heap.size < W.heap.size ∧ Below w.heap.size w W)) w2 := ⟨hC2.1, hC2.2.1, hC2.2.2, bel hB1 hb2⟩
    (try dsimp only at hS)
    clear hC1 hC2
    go_wp2_with fail
    refine wp_region_held_drew (S := (fun W => W.cell? ⟨w.heap.size, 0, none⟩ = some (.int .u32 a) ∧ W.cell? ⟨w.heap.size, 1, none⟩ = some (.int .i64 b) ∧ w.heap.size < W.heap.size ∧ Below w.heap.size w W)) (by kernel_rfl) ?_ (fun hHeld0 => ?_)
    · exact sD hS
    refine wpAnyH_take (i := 0) (v := ?_) rfl (by kernel_rfl) (by kernel_rfl) (by kernel_rfl) (fun _ _ _ h => h) (Or.inl ⟨by rfl, ?_⟩) (by assumption) ?_
    rotate_left
    · intro w hSw
      (try dsimp only at hSw)
      go_simp
      first | done | with_reducible rfl
    try simp only [Act.put, List.getElem_toArray, List.getElem_cons_succ, List.getElem_cons_zero, List.setIfInBounds_toArray, List.set_cons_zero, List.set_cons_succ]
    refine wpAnyH_take (i := 3) (v := ?_) rfl (by kernel_rfl) (by kernel_rfl) (by kernel_rfl) (fun _ _ _ h => h) (Or.inl ⟨by rfl, ?_⟩) (by assumption) ?_
    rotate_left
    · intro w hSw
      (try dsimp only at hSw)
      go_simp
      first | done | with_reducible rfl
    try simp only [Act.put, List.getElem_toArray, List.getElem_cons_succ, List.getElem_cons_zero, List.setIfInBounds_toArray, List.set_cons_zero, List.set_cons_succ]
    refine wpAnyH_ready (rs := [1]) (by kernel_rfl) (by simp) ?_
    refine AllReadyH.cons rfl (fun K hK => ?_) AllReadyH.nil
    go_simp
    refine (HO.out _).mono ?_; rintro e v11 ⟨rfl, vb11⟩
    refine hK.out _ _ ?_ (fun hH1 => ?_)
    · (first | assumption | (refine sD ?_; assumption) | (apply sK; rotate_left; assumption; first | assumption | (refine sD ?_; assumption)))
    try simp only [Act.put, List.getElem_toArray, List.getElem_cons_succ, List.getElem_cons_zero, List.setIfInBounds_toArray, List.set_cons_zero, List.set_cons_succ]
    refine wpAnyH_ready (rs := [2]) (by kernel_rfl) (by simp) ?_
    refine AllReadyH.cons rfl (fun K hK => ?_) AllReadyH.nil
    go_simp
    refine (HY.out _).mono ?_; rintro e v12 ⟨rfl, vb12⟩
    refine hK.out _ _ ?_ (fun hH2 => ?_)
    · (first | assumption | (refine sD ?_; assumption) | (apply sK; rotate_left; assumption; first | assumption | (refine sD ?_; assumption)))
    try simp only [Act.put, List.getElem_toArray, List.getElem_cons_succ, List.getElem_cons_zero, List.setIfInBounds_toArray, List.set_cons_zero, List.set_cons_succ]
    refine wpAnyH_ready (rs := [4]) (by kernel_rfl) (by simp) ?_
    refine AllReadyH.cons rfl (fun K hK => ?_) AllReadyH.nil
    go_simp
    refine (HM.out _).mono ?_; rintro e v13 ⟨rfl, vb13⟩
    refine hK.out _ _ ?_ (fun hH3 => ?_)
    · (first | assumption | (refine sD ?_; assumption) | (apply sK; rotate_left; assumption; first | assumption | (refine sD ?_; assumption)))
    try simp only [Act.put, List.getElem_toArray, List.getElem_cons_succ, List.getElem_cons_zero, List.setIfInBounds_toArray, List.set_cons_zero, List.set_cons_succ]
    refine wpAnyH_take (i := 5) (v := ?_) rfl (by kernel_rfl) (by kernel_rfl) (by kernel_rfl) (fun _ _ _ h => h) (Or.inl ⟨by rfl, ?_⟩) (by assumption) ?_
    rotate_left
    · intro w hSw
      (try dsimp only at hSw)
      go_simp
      first | done | with_reducible rfl
    try simp only [Act.put, List.getElem_toArray, List.getElem_cons_succ, List.getElem_cons_zero, List.setIfInBounds_toArray, List.set_cons_zero, List.set_cons_succ]
    refine wpAnyH_take (i := 6) (v := ?_) rfl (by kernel_rfl) (by kernel_rfl) (by kernel_rfl) (fun _ _ _ h => h) (Or.inl ⟨by rfl, ?_⟩) (by assumption) ?_
    rotate_left
    · intro w hSw
      (try dsimp only at hSw)
      go_simp
      first | done | with_reducible rfl
    try simp only [Act.put, List.getElem_toArray, List.getElem_cons_succ, List.getElem_cons_zero, List.setIfInBounds_toArray, List.set_cons_zero, List.set_cons_succ]
    refine wpAnyH_take (i := 7) (v := ?_) rfl (by kernel_rfl) (by kernel_rfl) (by kernel_rfl) (fun _ _ _ h => h) (Or.inl ⟨by rfl, ?_⟩) (by assumption) ?_
    rotate_left
    · intro w hSw
      (try dsimp only at hSw)
      go_simp
      first | done | with_reducible rfl
    try simp only [Act.put, List.getElem_toArray, List.getElem_cons_succ, List.getElem_cons_zero, List.setIfInBounds_toArray, List.set_cons_zero, List.set_cons_succ]
    refine wpAnyH_take (i := 8) (v := ?_) rfl (by kernel_rfl) (by kernel_rfl) (by kernel_rfl) (fun _ _ _ h => h) (Or.inl ⟨by rfl, ?_⟩) (by assumption) ?_
    rotate_left
    · intro w hSw
      (try dsimp only at hSw)
      go_simp
      first | done | with_reducible rfl
    try simp only [Act.put, List.getElem_toArray, List.getElem_cons_succ, List.getElem_cons_zero, List.setIfInBounds_toArray, List.set_cons_zero, List.set_cons_succ]
    refine wpAnyH_ready (rs := [9]) (by kernel_rfl) (by simp) ?_
    refine AllReadyH.cons rfl (fun K hK => ?_) AllReadyH.nil
    go_simp
    refine (HQ.out _).mono ?_; rintro e v14 ⟨rfl, vb14⟩
    refine hK.out _ _ ?_ (fun hH4 => ?_)
    · (first | assumption | (refine sD ?_; assumption) | (apply sK; rotate_left; assumption; first | assumption | (refine sD ?_; assumption)))
    try simp only [Act.put, List.getElem_toArray, List.getElem_cons_succ, List.getElem_cons_zero, List.setIfInBounds_toArray, List.set_cons_zero, List.set_cons_succ]
    refine wpAnyH_take (i := 10) (v := ?_) rfl (by kernel_rfl) (by kernel_rfl) (by kernel_rfl) (fun _ _ _ h => h) (Or.inl ⟨by rfl, ?_⟩) (by assumption) ?_
    rotate_left
    · intro w hSw
      (try dsimp only at hSw)
      go_simp
      first | done | with_reducible rfl
    try simp only [Act.put, List.getElem_toArray, List.getElem_cons_succ, List.getElem_cons_zero, List.setIfInBounds_toArray, List.set_cons_zero, List.set_cons_succ]
    refine wpAnyH_take (i := 11) (v := ?_) rfl (by kernel_rfl) (by kernel_rfl) (by kernel_rfl) (fun _ _ _ h => h) (Or.inl ⟨by rfl, ?_⟩) (by assumption) ?_
    rotate_left
    · intro w hSw
      (try dsimp only at hSw)
      go_simp
      first | done | with_reducible rfl
    try simp only [Act.put, List.getElem_toArray, List.getElem_cons_succ, List.getElem_cons_zero, List.setIfInBounds_toArray, List.set_cons_zero, List.set_cons_succ]
    refine wpAnyH_done (by kernel_rfl) ?_ _
    have hU := hH4
    clear hS
    go_wp2_with fail
    refine (HN.out _ (hE.below hU.2.2.2)).mono ?_; rintro e w7 ⟨rfl, hb7⟩
    have hV := sK hU hb7
    have hX := Cell2.alloc (W := w7) (g := w.heap.size) (a := a) (b := b) ⟨hV.1, hV.2.1, hV.2.2.1⟩ (.cells #[.int .u32 a, .int .i64 b] 46)
    have hY := Cell2.new w7 a b 46
    have hB7 := belAlloc hV.2.2.2 (.cells #[.int .u32 a, .int .i64 b] 46)
    obtain ⟨x0, x1, x2⟩ := id hX
    go_wp2_with fail
    refine (HM.out _).mono ?_; rintro e w8 ⟨rfl, hb8⟩
    have hX8 := hX.keep hb8
    have hY8 := hY.keep hb8
    have hT : ((fun W => W.cell? ⟨w.heap.size, 0, none⟩ = some (.int .u32 a) ∧ W.cell? ⟨w.heap.size, 1, none⟩ = some (.int .i64 b) ∧ W.cell? ⟨w7.heap.size, 0, none⟩ = some (.int .u32 a) ∧ W.cell? ⟨w7.heap.size, 1, none⟩ = some (.int .i64 b) ∧ w.heap.size < W.heap.size ∧ w7.heap.size < W.heap.size ∧ Below w.heap.size w W)) w8 := ⟨hX8.1, hX8.2.1, hY8.1, hY8.2.1, hX8.2.2, hY8.2.2, bel hB7 hb8⟩
    (try dsimp only at hT)
    clear x0 x1 x2 hX hY hX8 hY8
    go_wp2_with fail
    refine wp_region_held_drew (S := (fun W => W.cell? ⟨w.heap.size, 0, none⟩ = some (.int .u32 a) ∧ W.cell? ⟨w.heap.size, 1, none⟩ = some (.int .i64 b) ∧ W.cell? ⟨w7.heap.size, 0, none⟩ = some (.int .u32 a) ∧ W.cell? ⟨w7.heap.size, 1, none⟩ = some (.int .i64 b) ∧ w.heap.size < W.heap.size ∧ w7.heap.size < W.heap.size ∧ Below w.heap.size w W)) (by kernel_rfl) ?_ (fun hHeld0 => ?_)
    · exact pD hT
    refine wpAnyH_take (i := 0) (v := ?_) rfl (by kernel_rfl) (by kernel_rfl) (by kernel_rfl) (fun _ _ _ h => h) (Or.inl ⟨by rfl, ?_⟩) (by assumption) ?_
    rotate_left
    · intro w hSw
      (try dsimp only at hSw)
      go_simp
      first | done | with_reducible rfl
    try simp only [Act.put, List.getElem_toArray, List.getElem_cons_succ, List.getElem_cons_zero, List.setIfInBounds_toArray, List.set_cons_zero, List.set_cons_succ]
    refine wpAnyH_take (i := 1) (v := ?_) rfl (by kernel_rfl) (by kernel_rfl) (by kernel_rfl) (fun _ _ _ h => h) (Or.inl ⟨by rfl, ?_⟩) (by assumption) ?_
    rotate_left
    · intro w hSw
      (try dsimp only at hSw)
      go_simp
      first | done | with_reducible rfl
    try simp only [Act.put, List.getElem_toArray, List.getElem_cons_succ, List.getElem_cons_zero, List.setIfInBounds_toArray, List.set_cons_zero, List.set_cons_succ]
    refine wpAnyH_take (i := 2) (v := ?_) rfl (by kernel_rfl) (by kernel_rfl) (by kernel_rfl) (fun _ _ _ h => h) (Or.inl ⟨by rfl, ?_⟩) (by assumption) ?_
    rotate_left
    · intro w hSw
      (try dsimp only at hSw)
      go_simp
      first | done | with_reducible rfl
    try simp only [Act.put, List.getElem_toArray, List.getElem_cons_succ, List.getElem_cons_zero, List.setIfInBounds_toArray, List.set_cons_zero, List.set_cons_succ]
    refine wpAnyH_take (i := 3) (v := ?_) rfl (by kernel_rfl) (by kernel_rfl) (by kernel_rfl) (fun _ _ _ h => h) (Or.inl ⟨by rfl, ?_⟩) (by assumption) ?_
    rotate_left
    · intro w hSw
      (try dsimp only at hSw)
      go_simp
      first | done | with_reducible rfl
    try simp only [Act.put, List.getElem_toArray, List.getElem_cons_succ, List.getElem_cons_zero, List.setIfInBounds_toArray, List.set_cons_zero, List.set_cons_succ]
    refine wpAnyH_take (i := 4) (v := ?_) rfl (by kernel_rfl) (by kernel_rfl) (by kernel_rfl) (fun _ _ _ h => h) (Or.inl ⟨by rfl, ?_⟩) (by assumption) ?_
    rotate_left
    · intro w hSw
      (try dsimp only at hSw)
      go_simp
      first | done | with_reducible rfl
    try simp only [Act.put, List.getElem_toArray, List.getElem_cons_succ, List.getElem_cons_zero, List.setIfInBounds_toArray, List.set_cons_zero, List.set_cons_succ]
    refine wpAnyH_ready (rs := [5]) (by kernel_rfl) (by simp) ?_
    refine AllReadyH.cons rfl (fun K hK => ?_) AllReadyH.nil
    go_simp
    refine (HO.out _).mono ?_; rintro e v15 ⟨rfl, vb15⟩
    refine hK.out _ _ ?_ (fun hI1 => ?_)
    · (first | assumption | (refine pD ?_; assumption) | (apply pK; rotate_left; assumption; first | assumption | (refine pD ?_; assumption)))
    try simp only [Act.put, List.getElem_toArray, List.getElem_cons_succ, List.getElem_cons_zero, List.setIfInBounds_toArray, List.set_cons_zero, List.set_cons_succ]
    refine wpAnyH_take (i := 6) (v := ?_) rfl (by kernel_rfl) (by kernel_rfl) (by kernel_rfl) (fun _ _ _ h => h) (Or.inl ⟨by rfl, ?_⟩) (by assumption) ?_
    rotate_left
    · intro w hSw
      (try dsimp only at hSw)
      go_simp
      first | done | with_reducible rfl
    try simp only [Act.put, List.getElem_toArray, List.getElem_cons_succ, List.getElem_cons_zero, List.setIfInBounds_toArray, List.set_cons_zero, List.set_cons_succ]
    refine wpAnyH_take (i := 7) (v := ?_) rfl (by kernel_rfl) (by kernel_rfl) (by kernel_rfl) (fun _ _ _ h => h) (Or.inl ⟨by rfl, ?_⟩) (by assumption) ?_
    rotate_left
    · intro w hSw
      (try dsimp only at hSw)
      go_simp
      first | done | with_reducible rfl
    try simp only [Act.put, List.getElem_toArray, List.getElem_cons_succ, List.getElem_cons_zero, List.setIfInBounds_toArray, List.set_cons_zero, List.set_cons_succ]
    refine wpAnyH_take (i := 8) (v := ?_) rfl (by kernel_rfl) (by kernel_rfl) (by kernel_rfl) (fun _ _ _ h => h) (Or.inl ⟨by rfl, ?_⟩) (by assumption) ?_
    rotate_left
    · intro w hSw
      (try dsimp only at hSw)
      go_simp
      first | done | with_reducible rfl
    try simp only [Act.put, List.getElem_toArray, List.getElem_cons_succ, List.getElem_cons_zero, List.setIfInBounds_toArray, List.set_cons_zero, List.set_cons_succ]
    refine wpAnyH_ready (rs := [9]) (by kernel_rfl) (by simp) ?_
    refine AllReadyH.cons rfl (fun K hK => ?_) AllReadyH.nil
    go_simp
    refine (awake2_any _ (hE.below (pB hI1))).mono ?_; rintro e v16 ⟨rfl, vb16⟩
    refine hK.out _ _ ?_ (fun hI2 => ?_)
    · (first | assumption | (refine pD ?_; assumption) | (apply pK; rotate_left; assumption; first | assumption | (refine pD ?_; assumption)))
    try simp only [Act.put, List.getElem_toArray, List.getElem_cons_succ, List.getElem_cons_zero, List.setIfInBounds_toArray, List.set_cons_zero, List.set_cons_succ]
    refine wpAnyH_take (i := 10) (v := ?_) rfl (by kernel_rfl) (by kernel_rfl) (by kernel_rfl) (fun _ _ _ h => h) (Or.inl ⟨by rfl, ?_⟩) (by assumption) ?_
    rotate_left
    · intro w hSw
      (try dsimp only at hSw)
      go_simp
      first | done | with_reducible rfl
    try simp only [Act.put, List.getElem_toArray, List.getElem_cons_succ, List.getElem_cons_zero, List.setIfInBounds_toArray, List.set_cons_zero, List.set_cons_succ]
    refine wpAnyH_take (i := 11) (v := ?_) rfl (by kernel_rfl) (by kernel_rfl) (by kernel_rfl) (fun _ _ _ h => h) (Or.inl ⟨by rfl, ?_⟩) (by assumption) ?_
    rotate_left
    · intro w hSw
      (try dsimp only at hSw)
      go_simp
      first | done | with_reducible rfl
    try simp only [Act.put, List.getElem_toArray, List.getElem_cons_succ, List.getElem_cons_zero, List.setIfInBounds_toArray, List.set_cons_zero, List.set_cons_succ]
    refine wpAnyH_done (by kernel_rfl) ?_ _
    go_wp2
    go_ret
    exact ⟨rfl, pB hI2⟩
  · have hm : mayB a b = false := by simpa using hm
    have hNet : netVal (netOf (netText a b)) = .tuple #[.agg #[.int .u32 0, .int .i64 0], .int .i64 3] := by
      rw [show netText a b = [] from by unfold netText; rw [if_neg (by rw [hm]; decide)]]
      rfl
    have HY : Hid (∀ w, Calls Tryd.prog 30 #[.agg #[.int .u32 a, .int .i64 b]] w fun e w' => e = .returned (.bool false) ∧ Below w.heap.size w w') := Lib.hid (fun w => by rw [← hm]; exact may_any a b ha ha' w)
    have HM : Hid (∀ w, Calls Tryd.prog 31 #[.agg #[.int .u32 a, .int .i64 b]] w fun e w' => e = .returned (.bool false) ∧ Below w.heap.size w w') := Lib.hid (fun w => by rw [← hm]; exact refMay_any a b ha ha' hb hb' w)
    have HN : Hid (∀ w, Env w → Calls Tryd.prog 33 #[.string ⟨(netText a b).toArray⟩] w fun e w' => e = .returned (.tuple #[.agg #[.int .u32 0, .int .i64 0], .int .i64 3]) ∧ Below w.heap.size w w') := Lib.hid (fun w hE => by
      have := netParse_any ⟨(netText a b).toArray⟩ w hE (by rw [size_mk]; exact hlen)
      rw [hNet] at this
      exact this)
    clear hm hNet
    go_enter Tryd.func8, Tryd.ntmps8
    go_wp2_with fail
    refine (HO.out _).mono ?_; rintro e w1 ⟨rfl, hb1⟩
    have hC1 := (Cell2.new w a b 44).keep hb1
    have hB1 := bel (belNew w _) hb1
    go_wp2_with fail
    refine (HP.out _ (hE.below hB1)).mono ?_; rintro e w2 ⟨rfl, hb2⟩
    have hC2 := hC1.keep hb2
    have hS : ((fun W => W.cell? ⟨w.heap.size, 0, none⟩ = some (.int .u32 a) ∧ W.cell? ⟨w.heap.size, 1, none⟩ = some (.int .i64 b) ∧ w.heap.size < W.heap.size ∧ Below w.heap.size w W)) w2 := ⟨hC2.1, hC2.2.1, hC2.2.2, bel hB1 hb2⟩
    (try dsimp only at hS)
    clear hC1 hC2
    go_wp2_with fail
    refine wp_region_held_drew (S := (fun W => W.cell? ⟨w.heap.size, 0, none⟩ = some (.int .u32 a) ∧ W.cell? ⟨w.heap.size, 1, none⟩ = some (.int .i64 b) ∧ w.heap.size < W.heap.size ∧ Below w.heap.size w W)) (by kernel_rfl) ?_ (fun hHeld0 => ?_)
    · exact sD hS
    refine wpAnyH_take (i := 0) (v := ?_) rfl (by kernel_rfl) (by kernel_rfl) (by kernel_rfl) (fun _ _ _ h => h) (Or.inl ⟨by rfl, ?_⟩) (by assumption) ?_
    rotate_left
    · intro w hSw
      (try dsimp only at hSw)
      go_simp
      first | done | with_reducible rfl
    try simp only [Act.put, List.getElem_toArray, List.getElem_cons_succ, List.getElem_cons_zero, List.setIfInBounds_toArray, List.set_cons_zero, List.set_cons_succ]
    refine wpAnyH_take (i := 3) (v := ?_) rfl (by kernel_rfl) (by kernel_rfl) (by kernel_rfl) (fun _ _ _ h => h) (Or.inl ⟨by rfl, ?_⟩) (by assumption) ?_
    rotate_left
    · intro w hSw
      (try dsimp only at hSw)
      go_simp
      first | done | with_reducible rfl
    try simp only [Act.put, List.getElem_toArray, List.getElem_cons_succ, List.getElem_cons_zero, List.setIfInBounds_toArray, List.set_cons_zero, List.set_cons_succ]
    refine wpAnyH_ready (rs := [1]) (by kernel_rfl) (by simp) ?_
    refine AllReadyH.cons rfl (fun K hK => ?_) AllReadyH.nil
    go_simp
    refine (HO.out _).mono ?_; rintro e v11 ⟨rfl, vb11⟩
    refine hK.out _ _ ?_ (fun hH1 => ?_)
    · (first | assumption | (refine sD ?_; assumption) | (apply sK; rotate_left; assumption; first | assumption | (refine sD ?_; assumption)))
    try simp only [Act.put, List.getElem_toArray, List.getElem_cons_succ, List.getElem_cons_zero, List.setIfInBounds_toArray, List.set_cons_zero, List.set_cons_succ]
    refine wpAnyH_ready (rs := [2]) (by kernel_rfl) (by simp) ?_
    refine AllReadyH.cons rfl (fun K hK => ?_) AllReadyH.nil
    go_simp
    refine (HY.out _).mono ?_; rintro e v12 ⟨rfl, vb12⟩
    refine hK.out _ _ ?_ (fun hH2 => ?_)
    · (first | assumption | (refine sD ?_; assumption) | (apply sK; rotate_left; assumption; first | assumption | (refine sD ?_; assumption)))
    try simp only [Act.put, List.getElem_toArray, List.getElem_cons_succ, List.getElem_cons_zero, List.setIfInBounds_toArray, List.set_cons_zero, List.set_cons_succ]
    refine wpAnyH_ready (rs := [4]) (by kernel_rfl) (by simp) ?_
    refine AllReadyH.cons rfl (fun K hK => ?_) AllReadyH.nil
    go_simp
    refine (HM.out _).mono ?_; rintro e v13 ⟨rfl, vb13⟩
    refine hK.out _ _ ?_ (fun hH3 => ?_)
    · (first | assumption | (refine sD ?_; assumption) | (apply sK; rotate_left; assumption; first | assumption | (refine sD ?_; assumption)))
    try simp only [Act.put, List.getElem_toArray, List.getElem_cons_succ, List.getElem_cons_zero, List.setIfInBounds_toArray, List.set_cons_zero, List.set_cons_succ]
    refine wpAnyH_take (i := 5) (v := ?_) rfl (by kernel_rfl) (by kernel_rfl) (by kernel_rfl) (fun _ _ _ h => h) (Or.inl ⟨by rfl, ?_⟩) (by assumption) ?_
    rotate_left
    · intro w hSw
      (try dsimp only at hSw)
      go_simp
      first | done | with_reducible rfl
    try simp only [Act.put, List.getElem_toArray, List.getElem_cons_succ, List.getElem_cons_zero, List.setIfInBounds_toArray, List.set_cons_zero, List.set_cons_succ]
    refine wpAnyH_take (i := 6) (v := ?_) rfl (by kernel_rfl) (by kernel_rfl) (by kernel_rfl) (fun _ _ _ h => h) (Or.inl ⟨by rfl, ?_⟩) (by assumption) ?_
    rotate_left
    · intro w hSw
      (try dsimp only at hSw)
      go_simp
      first | done | with_reducible rfl
    try simp only [Act.put, List.getElem_toArray, List.getElem_cons_succ, List.getElem_cons_zero, List.setIfInBounds_toArray, List.set_cons_zero, List.set_cons_succ]
    refine wpAnyH_take (i := 7) (v := ?_) rfl (by kernel_rfl) (by kernel_rfl) (by kernel_rfl) (fun _ _ _ h => h) (Or.inl ⟨by rfl, ?_⟩) (by assumption) ?_
    rotate_left
    · intro w hSw
      (try dsimp only at hSw)
      go_simp
      first | done | with_reducible rfl
    try simp only [Act.put, List.getElem_toArray, List.getElem_cons_succ, List.getElem_cons_zero, List.setIfInBounds_toArray, List.set_cons_zero, List.set_cons_succ]
    refine wpAnyH_take (i := 8) (v := ?_) rfl (by kernel_rfl) (by kernel_rfl) (by kernel_rfl) (fun _ _ _ h => h) (Or.inl ⟨by rfl, ?_⟩) (by assumption) ?_
    rotate_left
    · intro w hSw
      (try dsimp only at hSw)
      go_simp
      first | done | with_reducible rfl
    try simp only [Act.put, List.getElem_toArray, List.getElem_cons_succ, List.getElem_cons_zero, List.setIfInBounds_toArray, List.set_cons_zero, List.set_cons_succ]
    refine wpAnyH_ready (rs := [9]) (by kernel_rfl) (by simp) ?_
    refine AllReadyH.cons rfl (fun K hK => ?_) AllReadyH.nil
    go_simp
    refine (HQ.out _).mono ?_; rintro e v14 ⟨rfl, vb14⟩
    refine hK.out _ _ ?_ (fun hH4 => ?_)
    · (first | assumption | (refine sD ?_; assumption) | (apply sK; rotate_left; assumption; first | assumption | (refine sD ?_; assumption)))
    try simp only [Act.put, List.getElem_toArray, List.getElem_cons_succ, List.getElem_cons_zero, List.setIfInBounds_toArray, List.set_cons_zero, List.set_cons_succ]
    refine wpAnyH_take (i := 10) (v := ?_) rfl (by kernel_rfl) (by kernel_rfl) (by kernel_rfl) (fun _ _ _ h => h) (Or.inl ⟨by rfl, ?_⟩) (by assumption) ?_
    rotate_left
    · intro w hSw
      (try dsimp only at hSw)
      go_simp
      first | done | with_reducible rfl
    try simp only [Act.put, List.getElem_toArray, List.getElem_cons_succ, List.getElem_cons_zero, List.setIfInBounds_toArray, List.set_cons_zero, List.set_cons_succ]
    refine wpAnyH_take (i := 11) (v := ?_) rfl (by kernel_rfl) (by kernel_rfl) (by kernel_rfl) (fun _ _ _ h => h) (Or.inl ⟨by rfl, ?_⟩) (by assumption) ?_
    rotate_left
    · intro w hSw
      (try dsimp only at hSw)
      go_simp
      first | done | with_reducible rfl
    try simp only [Act.put, List.getElem_toArray, List.getElem_cons_succ, List.getElem_cons_zero, List.setIfInBounds_toArray, List.set_cons_zero, List.set_cons_succ]
    refine wpAnyH_done (by kernel_rfl) ?_ _
    have hU := hH4
    clear hS
    go_wp2_with fail
    refine (HN.out _ (hE.below hU.2.2.2)).mono ?_; rintro e w7 ⟨rfl, hb7⟩
    have hV := sK hU hb7
    have hX := Cell2.alloc (W := w7) (g := w.heap.size) (a := a) (b := b) ⟨hV.1, hV.2.1, hV.2.2.1⟩ (.cells #[.int .u32 0, .int .i64 0] 46)
    have hB7 := belAlloc hV.2.2.2 (.cells #[.int .u32 0, .int .i64 0] 46)
    obtain ⟨x0, x1, x2⟩ := id hX
    go_wp2_with fail
    refine (HM.out _).mono ?_; rintro e w8 ⟨rfl, hb8⟩
    have hB8 := bel hB7 hb8
    go_wp2_with fail
    refine (awake2_any _ (hE.below hB8)).mono ?_; rintro e w9 ⟨rfl, hb9⟩
    go_wp2_with fail
    go_ret
    exact ⟨rfl, bel hB8 hb9⟩
end Go.Proofs.YtdhkacejefkejaaDoor
