/- The walk of RedoBack. Made by g_rdbackw.py. -/
import Derived.Test.YtogcjginifcbpaaRdPutS
import Derived.Test.YtogcjginifcbpaaRdReadW
import Derived.Test.YtogcjginifcbpaaKvRight
import Derived.Test.YtogcjginifcbpaaKvRef4
namespace Go.Proofs.Ytogcjginifcbpaa
open Go.RowKit Go.Maps
theorem okB_rdU {st : Option (List Int)} (h : okB (st.getD [])) (k : Int) : okB ((rdU st k).2.getD []) := by
  cases hs : (rdU st k).2 with
  | none => intro y hy; cases hy
  | some m =>
    by_cases hk : wOk k = true
    · exact (rdU_back h hs hk).choose_spec.2.2.1
    · unfold rdU at hs
      rw [if_neg hk] at hs
      cases hs
theorem item_long {p : KEnt} {L : List KEnt} (h : p ∈ L) : (itemL p).length ≤ (L.flatMap itemL).length := by
  induction L with
  | nil => cases h
  | cons q L ih =>
    rw [List.flatMap_cons, List.length_append]
    rcases List.mem_cons.1 h with rfl | h
    · omega
    · have := ih h; omega
theorem items_long : ∀ L : List KEnt, L.length ≤ (L.flatMap itemL).length
  | [] => Nat.zero_le _
  | p :: L => by
    have h1 := items_long L
    have h2 : 1 ≤ (itemL p).length := by
      unfold itemL
      rw [List.length_append, put_length _ 8 rfl]
      simp
      omega
    rw [List.flatMap_cons, List.length_append, List.length_cons]
    omega
/-- Bytes that are read as a state are that one's. -/
theorem state_back {xs : List Int} (hok : okB xs) (hx : xs.length ≤ 300) {n k : Nat} (hn : (rdU (rdU (some xs) 8).2 4).1 = (n : Int)) (hk : k = n ∨ (rdN k (rdU (rdU (some xs) 8).2 4).2).2 = none)
    (h : (doneB (rdN k (rdU (rdU (some xs) 8).2 4).2).2 && ofB (rdRev (some xs)) (rdN k (rdU (rdU (some xs) 8).2 4).2).1) = true) :
    stL ⟨rdRev (some xs), (rdN k (rdU (rdU (some xs) 8).2 4).2).1⟩ = xs ∧ StOk ⟨rdRev (some xs), (rdN k (rdU (rdU (some xs) 8).2 4).2).1⟩ := by
  rw [Bool.and_eq_true] at h
  obtain ⟨hd, ho⟩ := h
  have hs := done_nilL hd
  have hkn : k = n := by
    rcases hk with hk | hk
    · exact hk
    · rw [hs] at hk; cases hk
  have ho2 := ho
  unfold ofB at ho
  rw [Bool.and_eq_true, decide_eq_true_eq] at ho
  obtain ⟨h0, hst⟩ := ho
  have hall := (standB_all hst).2.2
  have ok1 := okB_rdU (st := some xs) hok 8
  have ok2 := okB_rdU ok1 4
  obtain ⟨l2, e2, f2, _⟩ := rdN_back (rdU (rdU (some xs) 8).2 4).2 ok2 (R := 0) k hs (fun p hp => by have := (hall p hp).2.2.1; omega)
  obtain ⟨l1, e1, f1, _, _, _⟩ := rdU_back ok1 e2 rfl
  obtain ⟨l0, e0, f0, _, b0, b1⟩ := rdU_back (st := some xs) hok e1 rfl
  obtain rfl := Option.some.inj e0
  have hl := rdN_len (rdU (rdU (some xs) 8).2 4).2 k
  have hw : rdRev (some xs) = (rdU (some xs) 8).1 := by
    unfold rdRev at h0 ⊢
    exact wrap_back b0 b1 h0
  generalize hL : (rdN k (rdU (rdU (some xs) 8).2 4).2).1 = L at *
  have hfull : stL ⟨rdRev (some xs), L⟩ = xs := by
    unfold stL
    simp only []
    rw [hl, hkn, ← hn, hw, List.append_nil] at *
    rw [← f2, ← f1]
    exact f0.symm
  refine ⟨hfull, ⟨h0, rdRev_le _⟩, ?_, fun p hp => ?_⟩
  · have h1 := items_long L
    have h2 := congrArg List.length hfull
    unfold stL at h2
    simp only [List.length_append] at h2
    show L.length ≤ 300
    omega
  · have h1 := item_long (L := L) hp
    have h2 := congrArg List.length hfull
    unfold stL at h2
    simp only [List.length_append] at h2
    have h3 : (⟨p.1.toArray⟩ : ByteArray).size + p.2.1.size ≤ (itemL p).length := by
      unfold itemL longL
      simp only [List.length_append, strI_length]
      omega
    have h4 := hall p hp
    exact ⟨by omega, by omega, by omega, by have := rdRev_le (some xs); omega⟩
set_option maxRecDepth 100000 in
set_option maxHeartbeats 8000000 in
theorem lawRedoBack (w : World) (b : Value) (xs : List Int) (h : Sees w b xs) (hok : okB xs) (hm : xs.length ≤ maxLen) : Calls Try.prog 13 #[b] w fun x w' => x = .returned (.bool true) ∧ Below w.heap.size w w' := by
  have q := eqNilK
  have HF := Lib.hid (few10_any b xs w h hm)
  have hlt : (xs.take 300).length ≤ 300 := by rw [List.length_take]; omega
  have HT := Lib.hid (And.intro (hok.take 300) hlt)
  clear h hok hm hlt
  generalize xs.take 300 = ys at HF HT
  go_enter Try.func13, Try.ntmps13
  go_upto_region 2 with (first
    | (go_at_call 42; refine HF.out.mono ?_; rintro x w1 ⟨v1, rfl, hs1, rfl⟩)
    | go_in)
  have HRd : Hid (Calls Try.prog 44 #[v1] w fun x w' => (∃ (sv : Value) (er : Int), x = .returned (.tuple #[sv, .int .i64 er]) ∧ ((∃ g P R L, er = 0 ∧ sv = ptr g ∧ KvAt w' g P ⟨R, L⟩ ∧ ofB R L = true ∧ StOk ⟨R, L⟩ ∧ stL ⟨R, L⟩ = ys) ∨ er = 3 ∧ sv = .pointer none)) ∧ Below w.heap.size w w') := Lib.hid ((readState_any v1 ys w hs1 HT.out.1 (by have := HT.out.2; omega)).mono (by
    rintro x w' ⟨n, k, hn, hk, hkn, hk5, hyes, hno, hb⟩
    refine ⟨?_, hb⟩
    cases hc : (doneB (rdN k (rdU (rdU (some ys) 8).2 4).2).2 && ofB (rdRev (some ys)) (rdN k (rdU (rdU (some ys) 8).2 4).2).1) with
    | true =>
      obtain ⟨g, P, rfl, hka, _⟩ := hyes hc
      obtain ⟨h1, h2⟩ := state_back HT.out.1 HT.out.2 hn hkn hc
      exact ⟨_, 0, rfl, Or.inl ⟨g, P, _, _, rfl, rfl, hka, ((Bool.and_eq_true _ _).mp hc).2, h2, h1⟩⟩
    | false => exact ⟨_, 3, hno hc, Or.inr ⟨rfl, rfl⟩⟩))
  have HS1 := Lib.hid hs1
  clear hs1
  go_upto_region 3 with (first
    | (go_at_call 44; refine HRd.out.mono ?_; rintro x w2 ⟨⟨sv, er, rfl, hor⟩, hb2⟩)
    | go_in)
  have HB2 := Lib.hid hb2
  clear hb2 HRd HF
  rcases hor with ⟨g, P, R, L, rfl, rfl, hk, ho, hst, hsL⟩ | ⟨rfl, rfl⟩
  · have HK := Lib.hid (And.intro hk (And.intro ho (And.intro hst hsL)))
    obtain ⟨ta, hta⟩ : ∃ ta, ta = strOfNums ys := ⟨_, rfl⟩
    have HTA := Lib.hid hta
    have hl3 : L.length ≤ 300 := hst.2.1
    have hris : Rising L := by
      unfold ofB at ho
      rw [Bool.and_eq_true] at ho
      exact (standB_all ho.2).1
    have HRis := Lib.hid hris
    clear hk ho hst hsL hta hris
    go_upto_region 6 with (first
      | (go_at_call 22; refine (rev_any g P ⟨R, L⟩ w2 HK.out.1).mono ?_; rintro x wx ⟨rfl, rfl⟩)
      | go_in)
    obtain ⟨w3, hw3⟩ : ∃ w3, w3 = w2.alloc (stO R (.slice none 0 0)) := ⟨_, rfl⟩
    change Code.wp _ _ _ _ (w2.alloc (stO R (.slice none 0 0)))
    rw [← hw3]
    have hb3 : Below w2.heap.size w2 w3 := by rw [hw3]; exact belNew _ _
    have hX3 : w3.heap[w2.heap.size]? = some (stO R (.slice none 0 0)) := by rw [hw3]; exact heap_alloc_new w2 _
    obtain ⟨B, hB⟩ : ∃ B, B = w2.heap.size := ⟨_, rfl⟩
    rw [← hB] at hX3 ⊢
    have HA := Lib.hid (all_any g P ⟨R, L⟩ w3 (HK.out.1.below hb3) HRis.out (by simp only []; omega))
    have H3 := Lib.hid (And.intro (HB2.out.trans (hb3.mono HB2.out.size)) (And.intro hX3 (show w.heap.size ≤ B by rw [hB]; exact HB2.out.size)))
    clear hw3 hb3 hX3 hB
    go_wp2_with (first
      | (go_at_call 25; refine HA.out.mono ?_; rintro e w5 ⟨va, rfl, hra, hb5⟩; obtain ⟨aoA, cA, rfl, hlc, hnil, -⟩ := RowE.sees hra)
      | go_in)
    have hX5 := (hb5.block _ (heap_lt H3.out.2.1)).trans H3.out.2.1
    have hB3 := heap_lt H3.out.2.1
    have HD : Hid (∀ d, (Value.slice aoA L.length cA).ownBlock = some d → d < w5.heap.size ∧ d ≠ B) := Lib.hid (fun d hd => by have := World.ownsRow.lt hra d hd; omega)
    have H5 := Lib.hid (And.intro hX5 (And.intro (RowE.sees hra) (And.intro (H3.out.1.trans (hb5.mono H3.out.1.size)) hnil)))
    clear hra hb5 hX5 hB3 hnil HA
    go_loopw [32] (fun j wr => ∃ (i : Nat) (lv : Value), i ≤ L.length ∧ j = .int .i64 i ∧ wr.heap[B]? = some (stO R lv) ∧ RowR wr w5.heap.size lv (L.take i) ∧ SeesI wr (.slice aoA L.length cA) L ∧ Below w.heap.size w wr ∧ w5.heap.size ≤ wr.heap.size ∧ B < w5.heap.size) (fun j _ => L.length - (intOf j).toNat)
    case atStart => exact ⟨0, _, Nat.zero_le _, rfl, H5.out.1, World.ownsRow_nil _ _ _ _, H5.out.2.1, H5.out.2.2.1, Nat.le_refl _, heap_lt H5.out.1⟩
    case round =>
      obtain ⟨i, lv, hi, rfl, hX, hrow, hsee, hBw, hz5, hBB⟩ := hrel
      by_cases hlt : i < L.length
      · obtain ⟨a, rfl⟩ : ∃ a, aoA = some a := by
          cases aoA with
          | none => rw [H5.out.2.2.2 rfl] at hlt; simp at hlt
          | some a => exact ⟨a, rfl⟩
        obtain ⟨p, hgi⟩ : ∃ p, L[i]? = some p := ⟨_, List.getElem?_eq_getElem hlt⟩
        obtain ⟨ao5, c5, e5, _, _, hc5⟩ := id hsee
        injection e5 with e51 e52 e53
        subst e51
        obtain ⟨q0, q1, q2⟩ := hc5 a rfl i p hgi
        have q1 := off1 q1
        have q2 := off2 q2
        have b0 : (0 : Int) ≤ (i : Int) := by omega
        have b1 : (i : Int) < (L.length : Int) := by omega
        have HN : Hid (L.take (i + 1) = L.take i ++ [p]) := Lib.hid (by rw [List.take_add_one, hgi]; rfl)
        have hlen : (L.take i).length ≤ 1000000 := by rw [List.length_take]; omega
        have hbx := belNew wr (.cells #[.string ⟨p.1.toArray⟩, .string p.2.1, .int .i64 p.2.2] 73)
        have hX2 := (hbx.block _ (heap_lt hX)).trans hX
        have hrow2 := hrow.alloc (.cells #[.string ⟨p.1.toArray⟩, .string p.2.1, .int .i64 p.2.2] 73)
        have l1 := cell1 hX2
        have HX := Lib.hid (And.intro (hsee.below hbx) (And.intro (hBw.trans (hbx.mono hBw.size)) (And.intro (Nat.le_trans hz5 hbx.size) hBB)))
        clear hgi hc5 e52 e53 hsee hBw hbx hX hrow
        go_upto_region 10 with (first
          | (at_builtin; refine wpList_push Try.underlying25 infoR rfl (.tmp 37) (.tmp 45) rfl w5.heap.size lv (L.take i) ⟨p.1.toArray⟩ p.2 (wr.heap.size + 1) (by simp) rfl rfl hrow2 (by omega) (by simp; omega) ?_; intro v2 w6 hrow3 hb6 hg6; obtain ⟨ao2, n2, c2, rfl⟩ := row_slice hrow3; have hX3 := (hb6.block _ hBB).trans hX2; have f1 := froz hX3 1; have l3 := cell1 hX3)
          | go_in)
        obtain ⟨w7, hw7⟩ : ∃ w7, w7 = w6.setCell ⟨B, 1, none⟩ (.slice ao2 n2 c2) := ⟨_, rfl⟩
        rw [← hw7]
        have hX7 : w7.heap[B]? = some (stO R (.slice ao2 n2 c2)) := by rw [hw7]; exact set1_two hX3 _
        have hrow7 : RowR w7 w5.heap.size (.slice ao2 n2 c2) (L.take i ++ [p]) := by rw [hw7]; exact row_set hrow3 hBB
        have hsee6 := HX.out.1.keep (w' := w6) (fun d hd _ => hb6.block d (HD.out d hd).1)
        have hsee7 : SeesI w7 (.slice (some a) L.length cA) L := by rw [hw7]; exact hsee6.keep (fun d hd _ => Below.heap_setCell _ _ _ _ (HD.out d hd).2)
        have hBw7 : Below w.heap.size w w7 := by rw [hw7]; exact (HX.out.2.1.trans (hb6.mono (by have := H5.out.2.2.1.size; omega))).setCell H3.out.2.2 _
        have hz7 : w5.heap.size ≤ w7.heap.size := by rw [hw7]; have := hb6.size; have := HX.out.2.2.1; simp [World.setCell] at *; omega
        have HY := Lib.hid (And.intro hX7 (And.intro hrow7 (And.intro hsee7 (And.intro hBw7 hz7))))
        clear hw7 hX7 hrow7 hsee6 hsee7 hBw7 hz7 hrow3 hb6 hg6 hX3 f1 l3
        go_wp2_with fail
        go_roundw
        case rel => exact ⟨i + 1, _, by omega, by go_num, HY.out.1, by rw [HN.out]; exact HY.out.2.1, HY.out.2.2.1, HY.out.2.2.2.1, HY.out.2.2.2.2, hBB⟩
        case measure => simp [intOf]; omega
      · obtain rfl : i = L.length := by omega
        rw [List.take_length] at hrow
        obtain ⟨aoL, nL, cL, rfl⟩ := row_slice hrow
        have n0 := cell0 hX
        have n1 := cell1 hX
        have HBw := Lib.hid hBw
        have HRt : Hid (∀ w', Below wr.heap.size wr w' → Calls Try.prog 29 #[stV R (.slice aoL nL cL)] w' fun x w'' => x = .returned (.bool true) ∧ Below w'.heap.size w' w'') := Lib.hid (fun w' hb => by
          have := refRight9_any _ L R w' ((RowE.sees hrow).below hb) (by unfold maxLen; omega) (fun p hp => ⟨by have := (HK.out.2.2.1.2.2 p hp).1; unfold maxLen; omega, by have := (HK.out.2.2.1.2.2 p hp).2.1; unfold maxLen; omega⟩)
          rw [HK.out.2.1] at this
          exact this)
        have HPs : Hid (∀ w', Below wr.heap.size wr w' → Calls Try.prog 45 #[stV R (.slice aoL nL cL)] w' fun x w'' => x = .returned (.string ta) ∧ Below w'.heap.size w' w'') := Lib.hid (fun w' hb => by
          have := refPutState_any _ L R w' ((RowE.sees hrow).below hb) HK.out.2.2.1
          rw [HK.out.2.2.2, ← HTA.out] at this
          exact this)
        have hsz := HS1.out.keep hBw
        have HCA : Hid (∀ W, Below wr.heap.size wr W → (convert 76 9 v1).run Try.prog W = .ok (.string ta) W) := Lib.hid (fun W hW => by rw [HTA.out]; exact conv_sees (hsz.keep hW))
        clear hrow hsee hBw hX hsz
        go_upto_region 11 with fail
        refine wp_region_held_drew (S := (fun W => Below wr.heap.size wr W)) (by kernel_rfl) ?_ (fun r0 => ?_)
        · exact ⟨rfl, rfl, rfl, Nat.le_refl _, fun _ _ => rfl⟩
        refine wpAnyH_take (i := 0) (v := ?_) rfl (by kernel_rfl) (by kernel_rfl) (by kernel_rfl) (fun _ _ _ h => h) (Or.inl ⟨by rfl, ?_⟩) (by assumption) ?_
        rotate_left
        · intro wS hSw
          (try dsimp only at hSw)
          have n0 := bcell hSw n0
          have n1 := bcell hSw n1
          go_simp
          first | done | with_reducible rfl
        try simp only [Act.put, List.getElem_toArray, List.getElem_cons_zero, List.setIfInBounds_toArray, List.set_cons_zero, List.set_cons_succ]
        refine wpAnyH_ready (rs := [1]) (by kernel_rfl) (by simp) ?_
        refine AllReadyH.cons rfl (fun K hK => ?_) AllReadyH.nil
        go_simp
        refine (HRt.out _ r0).mono ?_; rintro x w8 ⟨rfl, hb8⟩
        refine hK.out _ _ ?_ (fun r1 => ?_)
        · exact bel r0 hb8
        try simp only [Act.put, List.getElem_toArray, List.getElem_cons_succ, List.getElem_cons_zero, List.setIfInBounds_toArray, List.set_cons_zero, List.set_cons_succ]
        refine wpAnyH_take (i := 2) (v := ?_) rfl (by kernel_rfl) (by kernel_rfl) (by kernel_rfl) (fun _ _ _ h => h) (Or.inl ⟨by rfl, ?_⟩) (by assumption) ?_
        rotate_left
        · intro wS hSw
          (try dsimp only at hSw)
          go_simp
          first | done | with_reducible rfl
        try simp only [Act.put, List.getElem_toArray, List.getElem_cons_succ, List.getElem_cons_zero, List.setIfInBounds_toArray, List.set_cons_zero, List.set_cons_succ]
        refine wpAnyH_take (i := 3) (v := ?_) rfl (by kernel_rfl) (by kernel_rfl) (by kernel_rfl) (fun _ _ _ h => h) (Or.inl ⟨by rfl, ?_⟩) (by assumption) ?_
        rotate_left
        · intro wS hSw
          (try dsimp only at hSw)
          have n0 := bcell hSw n0
          have n1 := bcell hSw n1
          go_simp
          first | done | with_reducible rfl
        try simp only [Act.put, List.getElem_toArray, List.getElem_cons_succ, List.getElem_cons_zero, List.setIfInBounds_toArray, List.set_cons_zero, List.set_cons_succ]
        refine wpAnyH_take (i := 5) (v := ?_) rfl (by kernel_rfl) (by kernel_rfl) (by kernel_rfl) (fun _ _ _ h => h) (Or.inl ⟨by rfl, ?_⟩) (by assumption) ?_
        rotate_left
        · intro wS hSw
          (try dsimp only at hSw)
          go_simp
          first | done | with_reducible rfl
        try simp only [Act.put, List.getElem_toArray, List.getElem_cons_succ, List.getElem_cons_zero, List.setIfInBounds_toArray, List.set_cons_zero, List.set_cons_succ]
        refine wpAnyH_take (i := 6) (v := ?_) rfl (by kernel_rfl) (by kernel_rfl) (by kernel_rfl) (fun _ _ _ h => h) (Or.inl ⟨by rfl, ?_⟩) (by assumption) ?_
        rotate_left
        · intro wS hSw
          (try dsimp only at hSw)
          have hcv := HCA.out _ hSw
          go_simp
          first | done | with_reducible rfl
        try simp only [Act.put, List.getElem_toArray, List.getElem_cons_succ, List.getElem_cons_zero, List.setIfInBounds_toArray, List.set_cons_zero, List.set_cons_succ]
        refine wpAnyH_ready (rs := [4]) (by kernel_rfl) (by simp) ?_
        refine AllReadyH.cons rfl (fun K hK => ?_) AllReadyH.nil
        go_simp
        refine (HPs.out _ r1).mono ?_; rintro x w9 ⟨rfl, hb9⟩
        refine hK.out _ _ ?_ (fun r2 => ?_)
        · exact bel r1 hb9
        try simp only [Act.put, List.getElem_toArray, List.getElem_cons_succ, List.getElem_cons_zero, List.setIfInBounds_toArray, List.set_cons_zero, List.set_cons_succ]
        refine wpAnyH_take (i := 7) (v := ?_) rfl (by kernel_rfl) (by kernel_rfl) (by kernel_rfl) (fun _ _ _ h => h) (Or.inl ⟨by rfl, ?_⟩) (by assumption) ?_
        rotate_left
        · intro wS hSw
          (try dsimp only at hSw)
          go_simp
          first | done | with_reducible rfl
        try simp only [Act.put, List.getElem_toArray, List.getElem_cons_succ, List.getElem_cons_zero, List.setIfInBounds_toArray, List.set_cons_zero, List.set_cons_succ]
        refine wpAnyH_take (i := 8) (v := ?_) rfl (by kernel_rfl) (by kernel_rfl) (by kernel_rfl) (fun _ _ _ h => h) (Or.inl ⟨by rfl, ?_⟩) (by assumption) ?_
        rotate_left
        · intro wS hSw
          (try dsimp only at hSw)
          go_simp
          first | done | with_reducible rfl
        try simp only [Act.put, List.getElem_toArray, List.getElem_cons_succ, List.getElem_cons_zero, List.setIfInBounds_toArray, List.set_cons_zero, List.set_cons_succ]
        refine wpAnyH_take (i := 9) (v := ?_) rfl (by kernel_rfl) (by kernel_rfl) (by kernel_rfl) (fun _ _ _ h => h) (Or.inl ⟨by rfl, ?_⟩) (by assumption) ?_
        rotate_left
        · intro wS hSw
          (try dsimp only at hSw)
          go_simp
          first | done | with_reducible rfl
        try simp only [Act.put, List.getElem_toArray, List.getElem_cons_succ, List.getElem_cons_zero, List.setIfInBounds_toArray, List.set_cons_zero, List.set_cons_succ]
        refine wpAnyH_ready (rs := [10]) (by kernel_rfl) (by simp) ?_
        refine AllReadyH.cons rfl (fun K hK => ?_) AllReadyH.nil
        go_simp
        refine (awake10_any _).mono ?_; rintro x w10 ⟨rfl, hb10⟩
        refine hK.out _ _ ?_ (fun r3 => ?_)
        · exact bel r2 hb10
        try simp only [Act.put, List.getElem_toArray, List.getElem_cons_succ, List.getElem_cons_zero, List.setIfInBounds_toArray, List.set_cons_zero, List.set_cons_succ]
        refine wpAnyH_take (i := 11) (v := ?_) rfl (by kernel_rfl) (by kernel_rfl) (by kernel_rfl) (fun _ _ _ h => h) (Or.inl ⟨by rfl, ?_⟩) (by assumption) ?_
        rotate_left
        · intro wS hSw
          (try dsimp only at hSw)
          go_simp
          first | done | with_reducible rfl
        try simp only [Act.put, List.getElem_toArray, List.getElem_cons_succ, List.getElem_cons_zero, List.setIfInBounds_toArray, List.set_cons_zero, List.set_cons_succ]
        refine wpAnyH_take (i := 12) (v := ?_) rfl (by kernel_rfl) (by kernel_rfl) (by kernel_rfl) (fun _ _ _ h => h) (Or.inl ⟨by rfl, ?_⟩) (by assumption) ?_
        rotate_left
        · intro wS hSw
          (try dsimp only at hSw)
          go_simp
          first | done | with_reducible rfl
        try simp only [Act.put, List.getElem_toArray, List.getElem_cons_succ, List.getElem_cons_zero, List.setIfInBounds_toArray, List.set_cons_zero, List.set_cons_succ]
        refine wpAnyH_done (by kernel_rfl) ?_ _
        go_wp2_with fail
        go_ret
        exact ⟨rfl, HBw.out.trans (r3.mono HBw.out.size)⟩
  · go_wp2_with (first
      | (go_at_call 39; refine (awake10_any _).mono ?_; rintro x wy ⟨rfl, hby⟩)
      | go_in)
    go_ret
    exact ⟨rfl, HB2.out.trans (hby.mono HB2.out.size)⟩
end Go.Proofs.Ytogcjginifcbpaa
