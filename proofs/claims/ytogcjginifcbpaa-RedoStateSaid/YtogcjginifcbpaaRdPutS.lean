/- A state's bytes: the program's PutState, the document's. Made by g_rdputs.py. -/
import Derived.Test.YtogcjginifcbpaaRdState
import Derived.Test.YtogcjginifcbpaaRdRef
import Derived.Test.YtogcjginifcbpaaKvRef1
namespace Go.Proofs.Ytogcjginifcbpaa
open Go.RowKit Go.Maps
/-- May a state be written: how large it is. -/
def StOk (S : KSt) : Prop := (0 ≤ S.rev ∧ S.rev ≤ 9223372036854775807) ∧ S.L.length ≤ 300 ∧ ∀ p ∈ S.L, (⟨p.1.toArray⟩ : ByteArray).size ≤ 300 ∧ p.2.1.size ≤ 300 ∧ 0 ≤ p.2.2 ∧ p.2.2 ≤ 9223372036854775807
theorem itemL_len {p : KEnt} (hk : (⟨p.1.toArray⟩ : ByteArray).size ≤ 300) (hv : p.2.1.size ≤ 300) : (itemL p).length ≤ 700 := by
  unfold itemL longL
  simp only [List.length_append, strI_length]
  have h1 := putL_len p.2.2 8
  have h2 := putL_len ((⟨p.1.toArray⟩ : ByteArray).size : Int) 4
  have h3 := putL_len (p.2.1.size : Int) 4
  omega
theorem items_len : ∀ {L : List KEnt}, (∀ p ∈ L, (⟨p.1.toArray⟩ : ByteArray).size ≤ 300 ∧ p.2.1.size ≤ 300 ∧ 0 ≤ p.2.2 ∧ p.2.2 ≤ 9223372036854775807) → (L.flatMap itemL).length ≤ 700 * L.length
  | [], _ => Nat.zero_le _
  | p :: L, h => by
    have h1 := itemL_len (h p (by simp)).1 (h p (by simp)).2.1
    have h2 := items_len (fun q hq => h q (List.mem_cons_of_mem _ hq))
    rw [List.flatMap_cons, List.length_append, List.length_cons]
    omega
/-- The bytes behind so many items. -/
def accL (S : KSt) (i : Nat) : List Int := putL S.rev 8 ++ (putL (S.L.length : Int) 4 ++ (S.L.take i).flatMap itemL)
theorem accL_all (S : KSt) : accL S S.L.length = stL S := by unfold accL stL; rw [List.take_length]
theorem accL_next {S : KSt} {i : Nat} {p : KEnt} (hp : S.L[i]? = some p) : accL S (i + 1) = accL S i ++ itemL p := by
  unfold accL
  rw [List.take_add_one, hp]
  simp [List.append_assoc]
theorem accL_len {S : KSt} (h : StOk S) (i : Nat) : (accL S i).length ≤ 300000 := by
  have h1 := putL_len S.rev 8
  have h2 := putL_len (S.L.length : Int) 4
  have h3 := items_len (L := S.L.take i) (fun p hp => h.2.2 p (List.mem_of_mem_take hp))
  have h4 : (S.L.take i).length ≤ S.L.length := by rw [List.length_take]; omega
  have h5 := h.2.1
  unfold accL
  simp only [List.length_append]
  omega
theorem row_Kp {E : TypeId} {w w' : World} {B B' : Nat} {v : Value} {L : List KEnt} (h : RowE E w B v L) (k : Kp B' w w') (ht : E ≠ 5) : RowE E w' B v L :=
  ⟨h.1, h.2.imp id fun ⟨g, cap, cur, e, b, hg, r⟩ => ⟨g, cap, cur, e, b, k.cells hg ht, r⟩⟩
theorem owns_slice {w : World} {B : Nat} {v : Value} {xs : List Int} (h : Owns w B v xs) : ∃ ao n c, v = .slice ao n c := by
  obtain ⟨ao, c, e, _⟩ := h.sees
  exact ⟨ao, _, c, e⟩
set_option maxRecDepth 100000 in
set_option maxHeartbeats 8000000 in
theorem putState_any (g : Nat) (P : Nat → Prop) (S : KSt) (w : World) (h : KvAt w g P S) (hr : Rising S.L) (hs : StOk S) :
    Calls Try.prog 43 #[ptr g] w fun e w' => ∃ v, e = .returned (.tuple #[v, .int .i64 0]) ∧ Owns w' w.heap.size v (stL S) ∧ Below w.heap.size w w' := by
  have q := eqNilK
  have HK := Lib.hid h
  have HR := Lib.hid hr
  have HS := Lib.hid hs
  have c8 : IntKind.u64.wrap S.rev = S.rev := IntWalk.u64_in _ (by have := hs.1; omega)
  have c4 : IntKind.u64.wrap (S.L.length : Int) = (S.L.length : Int) := IntWalk.u64_in _ (by have := hs.2.1; omega)
  have hl2 : S.L.length ≤ 300 := hs.2.1
  clear h hr hs
  go_enter Try.func43, Try.ntmps43
  go_upto_region 4 with (first
    | (go_at_call 22; refine (rev_any g P S w HK.out).mono ?_; rintro e wx ⟨rfl, rfl⟩)
    | (go_at_call 59; refine (putNumber_any w.heap.size _ [] S.rev 8 w (Owns.nil w _) rfl (by simp) (Nat.le_refl _)).mono ?_; rintro e w1 ⟨v1, rfl, ho1, hk1⟩)
    | go_in)
  rw [List.nil_append] at ho1
  have H1 := Lib.hid (And.intro ho1 hk1)
  clear ho1 hk1
  go_upto_region 5 with (first
    | (go_at_call 23; refine (len_any g P S w1 (HK.out.below H1.out.2.1)).mono ?_; rintro e wx ⟨rfl, rfl⟩)
    | (go_at_call 59; refine (putNumber_any w.heap.size _ (putL S.rev 8) (S.L.length : Int) 4 w1 H1.out.1 rfl (by have := putL_len S.rev 8; omega) H1.out.2.1.size).mono ?_; rintro e w2 ⟨v2, rfl, ho2, hk2⟩)
    | go_in)
  have H2 := Lib.hid (And.intro ho2 (H1.out.2.1.trans (hk2.1)))
  clear ho2 hk2 H1
  have HA := Lib.hid (all_any g P S w2 (HK.out.below H2.out.2) HR.out (by omega))
  go_wp2_with (first
    | (go_at_call 25; refine HA.out.mono ?_; rintro e w3 ⟨va, rfl, hra, hb3⟩; obtain ⟨aoA, cA, rfl, hlc, hnil, -⟩ := RowE.sees hra)
    | go_in)
  have H3 := Lib.hid (And.intro (H2.out.1.keep hb3) (And.intro hra (And.intro (H2.out.2.trans (hb3.mono H2.out.2.size)) hnil)))
  clear hra hb3 hnil
  go_loopw [4, 21] (fun b j wr => ∃ i : Nat, i ≤ S.L.length ∧ j = .int .i64 i ∧ Owns wr w.heap.size b (accL S i) ∧ RowI wr w2.heap.size (.slice aoA S.L.length cA) S.L ∧ Below w.heap.size w wr) (fun _ j _ => S.L.length - (intOf j).toNat)
  case atStart =>
    refine ⟨0, Nat.zero_le _, rfl, ?_, H3.out.2.1, H3.out.2.2.1⟩
    have : accL S 0 = putL S.rev 8 ++ putL (S.L.length : Int) 4 := by unfold accL; simp
    rw [this]
    exact H3.out.1
  case round =>
    obtain ⟨i, hi, rfl, ho, hrow, hB⟩ := hrel
    by_cases hlt : i < S.L.length
    · obtain ⟨a, rfl⟩ : ∃ a, aoA = some a := by
        cases aoA with
        | none => rw [H3.out.2.2.2 rfl] at hlt; simp at hlt
        | some a => exact ⟨a, rfl⟩
      obtain ⟨p, hgi⟩ : ∃ p, S.L[i]? = some p := ⟨_, List.getElem?_eq_getElem hlt⟩
      have hp := HS.out.2.2 p (List.mem_of_getElem? hgi)
      obtain ⟨ao5, c5, e5, _, _, hc5⟩ := RowE.sees hrow
      injection e5 with e51 e52 e53
      subst e51
      obtain ⟨q0, q1, q2⟩ := hc5 a rfl i p hgi
      have q1 := off1 q1
      have q2 := off2 q2
      have b0 : (0 : Int) ≤ (i : Int) := by omega
      have b1 : (i : Int) < (S.L.length : Int) := by omega
      have HN : Hid (accL S (i + 1) = accL S i ++ itemL p) := Lib.hid (accL_next hgi)
      have hal := accL_len HS.out i
      obtain ⟨wx, hwx⟩ : ∃ wx, wx = wr.alloc (.cells #[.string ⟨p.1.toArray⟩, .string p.2.1, .int .i64 p.2.2] 73) := ⟨_, rfl⟩
      have hbx : Below wr.heap.size wr wx := by rw [hwx]; exact belNew _ _
      have hx1 : wx.heap[wr.heap.size]? = some (.cells #[.string ⟨p.1.toArray⟩, .string p.2.1, .int .i64 p.2.2] 73 (0, 0)) := by rw [hwx]; exact heap_alloc_new wr _
      have HX := Lib.hid (And.intro (ho.keep hbx) (And.intro (row_keep hrow hbx) (hB.trans (hbx.mono hB.size))))
      have HP := Lib.hid (putItem_any w.heap.size u4 (accL S i) p wx HX.out.1 (by omega) (by omega) (by omega) ⟨hp.2.2.1, hp.2.2.2⟩ HX.out.2.2.size)
      have HWX := Lib.hid hwx
      obtain ⟨x0, x1, x2⟩ := rcells hx1
      clear hgi hp hwx hbx hx1 ho hrow hB hc5 e52 e53
      go_upto_region 8 with fail
      change Code.wp _ _ _ _ (wr.alloc (.cells #[.string ⟨p.1.toArray⟩, .string p.2.1, .int .i64 p.2.2] 73))
      rw [← HWX.out]
      clear q0 q1 q2
      go_wp2_with (first
        | (go_at_call 58; refine HP.out.mono ?_; rintro e w5 ⟨v5, rfl, ho5, hk5⟩)
        | go_in)
      go_roundw
      case rel => exact ⟨i + 1, by omega, by go_num, by rw [HN.out]; exact ho5, row_Kp HX.out.2.1 hk5 (by decide), HX.out.2.2.trans hk5.1⟩
      case measure => simp [intOf]; omega
    · obtain rfl : i = S.L.length := by omega
      rw [accL_all] at ho
      have HX := Lib.hid (And.intro ho hB)
      clear ho hB hrow
      go_wp2_with fail
      go_ret2
      exact ⟨_, rfl, HX.out.1, HX.out.2⟩
theorem str_acc {S : KSt} {i : Nat} {p : KEnt} (hp : S.L[i]? = some p) : strOfNums (accL S (i + 1)) = strOfNums (accL S i) ++ strOfNums (putL p.2.2 8) ++ strOfNums (longL ⟨p.1.toArray⟩) ++ strOfNums (longL p.2.1) := by
  rw [accL_next hp, strOfNums_append]
  unfold itemL
  rw [strOfNums_append, strOfNums_append, ← ByteArray.append_assoc, ← ByteArray.append_assoc]
set_option maxRecDepth 100000 in
set_option maxHeartbeats 8000000 in
theorem refPutState_any (v : Value) (L : List KEnt) (R : Int) (w : World) (h : SeesI w v L) (hs : StOk ⟨R, L⟩) :
    Calls Try.prog 45 #[stV R v] w fun e w' => e = .returned (.string (strOfNums (stL ⟨R, L⟩))) ∧ Below w.heap.size w w' := by
  obtain ⟨Wq, hW⟩ : ∃ Wq, Wq = w.alloc (stO R v) := ⟨_, rfl⟩
  have hb : Below w.heap.size w Wq := by rw [hW]; exact belNew _ _
  have hA : Wq.heap[w.heap.size]? = some (stO R v) := by rw [hW]; exact heap_alloc_new w _
  obtain ⟨ao, c, rfl, hlc, hnil, hc⟩ := h.below hb
  have HW := Lib.hid hW
  have HC := Lib.hid (And.intro hnil hc)
  have HB0 := Lib.hid hb
  have HS := Lib.hid hs
  have hl2 : L.length ≤ 300 := hs.2.1
  have h0 : 0 ≤ R := hs.1.1
  have hR1 : R ≤ 9223372036854775807 := hs.1.2
  have hR2 : R < 18446744073709551616 := by omega
  have hn0 : (0 : Int) ≤ (L.length : Int) := by omega
  have hn2 : (L.length : Int) < 18446744073709551616 := by omega
  have c8 : IntKind.u64.wrap R = R := IntWalk.u64_in _ (by omega)
  have c4 : IntKind.u64.wrap (L.length : Int) = (L.length : Int) := IntWalk.u64_in _ (by omega)
  have s0 := cell0 hA
  have s1 := cell1 hA
  have HZ : Hid ((strOfNums (putL R 8)).size ≤ 8 ∧ (strOfNums (putL (L.length : Int) 4)).size ≤ 8) := Lib.hid ⟨by rw [strOfNums_size]; exact putL_len R 8, by rw [strOfNums_size]; exact putL_len _ 4⟩
  have HE0 : Hid (strOfNums (accL ⟨R, L⟩ 0) = strOfNums (putL R 8) ++ strOfNums (putL (L.length : Int) 4)) := Lib.hid (by unfold accL; simp only [List.take_zero, List.flatMap_nil, List.append_nil]; rw [strOfNums_append])
  clear hW hnil hc hb hA h hs
  go_enter Try.func45, Try.ntmps45
  go_upto_region 1 with fail
  change Code.wp _ _ _ _ (w.alloc (stO R (.slice ao L.length c)))
  rw [← HW.out]
  refine wp_region_held_drew (S := (fun W => Below Wq.heap.size Wq W)) (by kernel_rfl) ?_ (fun r0 => ?_)
  · exact ⟨rfl, rfl, rfl, Nat.le_refl _, fun _ _ => rfl⟩
  refine wpAnyH_take (i := 0) (v := ?_) rfl (by kernel_rfl) (by kernel_rfl) (by kernel_rfl) (fun _ _ _ h => h) (Or.inl ⟨by rfl, ?_⟩) (by assumption) ?_
  rotate_left
  · intro wS hSw
    (try dsimp only at hSw)
    go_simp
    first | done | with_reducible rfl
  try simp only [Act.put, List.getElem_toArray, List.getElem_cons_zero, List.setIfInBounds_toArray, List.set_cons_zero, List.set_cons_succ]
  refine wpAnyH_take (i := 1) (v := ?_) rfl (by kernel_rfl) (by kernel_rfl) (by kernel_rfl) (fun _ _ _ h => h) (Or.inl ⟨by rfl, ?_⟩) (by assumption) ?_
  rotate_left
  · intro wS hSw
    (try dsimp only at hSw)
    have s0 := bcell hSw s0
    have s1 := bcell hSw s1
    go_simp
    first | done | with_reducible rfl
  try simp only [Act.put, List.getElem_toArray, List.getElem_cons_succ, List.getElem_cons_zero, List.setIfInBounds_toArray, List.set_cons_zero, List.set_cons_succ]
  refine wpAnyH_take (i := 2) (v := ?_) rfl (by kernel_rfl) (by kernel_rfl) (by kernel_rfl) (fun _ _ _ h => h) (Or.inl ⟨by rfl, ?_⟩) (by assumption) ?_
  rotate_left
  · intro wS hSw
    (try dsimp only at hSw)
    go_simp
    first | done | with_reducible rfl
  try simp only [Act.put, List.getElem_toArray, List.getElem_cons_succ, List.getElem_cons_zero, List.setIfInBounds_toArray, List.set_cons_zero, List.set_cons_succ]
  refine wpAnyH_take (i := 5) (v := ?_) rfl (by kernel_rfl) (by kernel_rfl) (by kernel_rfl) (fun _ _ _ h => h) (Or.inl ⟨by rfl, ?_⟩) (by assumption) ?_
  rotate_left
  · intro wS hSw
    (try dsimp only at hSw)
    go_simp
    first | done | with_reducible rfl
  try simp only [Act.put, List.getElem_toArray, List.getElem_cons_succ, List.getElem_cons_zero, List.setIfInBounds_toArray, List.set_cons_zero, List.set_cons_succ]
  refine wpAnyH_take (i := 6) (v := ?_) rfl (by kernel_rfl) (by kernel_rfl) (by kernel_rfl) (fun _ _ _ h => h) (Or.inl ⟨by rfl, ?_⟩) (by assumption) ?_
  rotate_left
  · intro wS hSw
    (try dsimp only at hSw)
    have s0 := bcell hSw s0
    have s1 := bcell hSw s1
    go_simp
    first | done | with_reducible rfl
  try simp only [Act.put, List.getElem_toArray, List.getElem_cons_succ, List.getElem_cons_zero, List.setIfInBounds_toArray, List.set_cons_zero, List.set_cons_succ]
  refine wpAnyH_take (i := 7) (v := ?_) rfl (by kernel_rfl) (by kernel_rfl) (by kernel_rfl) (fun _ _ _ h => h) (Or.inl ⟨by rfl, ?_⟩) (by assumption) ?_
  rotate_left
  · intro wS hSw
    (try dsimp only at hSw)
    go_simp
    first | done | with_reducible rfl
  try simp only [Act.put, List.getElem_toArray, List.getElem_cons_succ, List.getElem_cons_zero, List.setIfInBounds_toArray, List.set_cons_zero, List.set_cons_succ]
  refine wpAnyH_take (i := 8) (v := ?_) rfl (by kernel_rfl) (by kernel_rfl) (by kernel_rfl) (fun _ _ _ h => h) (Or.inl ⟨by rfl, ?_⟩) (by assumption) ?_
  rotate_left
  · intro wS hSw
    (try dsimp only at hSw)
    go_simp
    first | done | with_reducible rfl
  try simp only [Act.put, List.getElem_toArray, List.getElem_cons_succ, List.getElem_cons_zero, List.setIfInBounds_toArray, List.set_cons_zero, List.set_cons_succ]
  refine wpAnyH_ready (rs := [3]) (by kernel_rfl) (by simp) ?_
  refine AllReadyH.cons rfl (fun K hK => ?_) AllReadyH.nil
  go_simp
  refine (refPut_any R 8 _ h0 hR2).mono ?_; rintro e w3 ⟨v3, rfl, ho3, hb3⟩
  refine hK.out _ _ ?_ (fun r1 => ?_)
  · exact bel r0 hb3
  refine wpAnyH_mono (S' := (fun W' => Below Wq.heap.size Wq W' ∧ Sees W' v3 (putL R 8))) (fun _ h => h.1) _ _ _ _ ?_
  have r1x := And.intro r1 ho3.sees
  try simp only [Act.put, List.getElem_toArray, List.getElem_cons_succ, List.getElem_cons_zero, List.setIfInBounds_toArray, List.set_cons_zero, List.set_cons_succ]
  refine wpAnyH_take (i := 4) (v := ?_) rfl (by kernel_rfl) (by kernel_rfl) (by kernel_rfl) (fun _ _ _ h => h) (Or.inl ⟨by rfl, ?_⟩) (by assumption) ?_
  rotate_left
  · intro wS hSw
    (try dsimp only at hSw)
    have q1 := conv_sees hSw.2
    go_simp
    first | done | with_reducible rfl
  try simp only [Act.put, List.getElem_toArray, List.getElem_cons_succ, List.getElem_cons_zero, List.setIfInBounds_toArray, List.set_cons_zero, List.set_cons_succ]
  refine wpAnyH_ready (rs := [9]) (by kernel_rfl) (by simp) ?_
  refine AllReadyH.cons rfl (fun K hK => ?_) AllReadyH.nil
  go_simp
  refine (refPut_any (L.length : Int) 4 _ hn0 hn2).mono ?_; rintro e w4 ⟨v4, rfl, ho4, hb4⟩
  refine hK.out _ _ ?_ (fun r2 => ?_)
  · exact ⟨bel r1x.1 hb4, r1x.2.keep hb4⟩
  refine wpAnyH_mono (S' := (fun W' => (Below Wq.heap.size Wq W' ∧ Sees W' v3 (putL R 8)) ∧ Sees W' v4 (putL (L.length : Int) 4))) (fun _ h => h.1) _ _ _ _ ?_
  have r2x := And.intro r2 ho4.sees
  try simp only [Act.put, List.getElem_toArray, List.getElem_cons_succ, List.getElem_cons_zero, List.setIfInBounds_toArray, List.set_cons_zero, List.set_cons_succ]
  refine wpAnyH_take (i := 10) (v := ?_) rfl (by kernel_rfl) (by kernel_rfl) (by kernel_rfl) (fun _ _ _ h => h) (Or.inl ⟨by rfl, ?_⟩) (by assumption) ?_
  rotate_left
  · intro wS hSw
    (try dsimp only at hSw)
    have q1 := conv_sees hSw.2
    go_simp
    first | done | with_reducible rfl
  try simp only [Act.put, List.getElem_toArray, List.getElem_cons_succ, List.getElem_cons_zero, List.setIfInBounds_toArray, List.set_cons_zero, List.set_cons_succ]
  refine wpAnyH_take (i := 11) (v := ?_) rfl (by kernel_rfl) (by kernel_rfl) (by kernel_rfl) (fun _ _ _ h => h) (Or.inl ⟨by rfl, ?_⟩) (by assumption) ?_
  rotate_left
  · intro wS hSw
    (try dsimp only at hSw)
    go_simp
    rw [if_neg (by have := HZ.out; omega)]
    first | done | with_reducible rfl
  try simp only [Act.put, List.getElem_toArray, List.getElem_cons_succ, List.getElem_cons_zero, List.setIfInBounds_toArray, List.set_cons_zero, List.set_cons_succ]
  refine wpAnyH_take (i := 12) (v := ?_) rfl (by kernel_rfl) (by kernel_rfl) (by kernel_rfl) (fun _ _ _ h => h) (Or.inl ⟨by rfl, ?_⟩) (by assumption) ?_
  rotate_left
  · intro wS hSw
    (try dsimp only at hSw)
    go_simp
    first | done | with_reducible rfl
  try simp only [Act.put, List.getElem_toArray, List.getElem_cons_succ, List.getElem_cons_zero, List.setIfInBounds_toArray, List.set_cons_zero, List.set_cons_succ]
  refine wpAnyH_done (by kernel_rfl) ?_ _
  have s0 := bcell r2x.1.1 s0
  have s1 := bcell r2x.1.1 s1
  have HB4 := Lib.hid r2x.1.1
  clear r0 r1 r2 r1x r2x ho3 hb3 ho4 hb4 HZ
  go_wp2_with fail
  rw [← HE0.out]
  clear s0 s1
  go_loopw [3, 21] (fun o j wr => ∃ i : Nat, i ≤ L.length ∧ j = .int .i64 i ∧ o = .string (strOfNums (accL ⟨R, L⟩ i)) ∧ Below Wq.heap.size Wq wr) (fun _ j _ => L.length - (intOf j).toNat)
  case atStart => exact ⟨0, Nat.zero_le _, rfl, rfl, HB4.out⟩
  case round =>
    obtain ⟨i, hi, rfl, rfl, hBw⟩ := hrel
    by_cases hlt : i < L.length
    · obtain ⟨a, rfl⟩ : ∃ a, ao = some a := by
        cases ao with
        | none => rw [HC.out.1 rfl] at hlt; simp at hlt
        | some a => exact ⟨a, rfl⟩
      obtain ⟨p, hgi⟩ : ∃ p, L[i]? = some p := ⟨_, List.getElem?_eq_getElem hlt⟩
      obtain ⟨q0, q1, q2⟩ := HC.out.2 a rfl i p hgi
      have q0 := bcell hBw q0
      have q1 := off1 (bcell hBw q1)
      have q2 := off2 (bcell hBw q2)
      have b0 : (0 : Int) ≤ (i : Int) := by omega
      have b1 : (i : Int) < (L.length : Int) := by omega
      have hp := HS.out.2.2 p (List.mem_of_getElem? hgi)
      have hpk : (⟨p.1.toArray⟩ : ByteArray).size ≤ 100000 := by have := hp.1; omega
      have hpv : p.2.1.size ≤ 100000 := by have := hp.2.1; omega
      have hp0 : 0 ≤ p.2.2 := hp.2.2.1
      have hp2 : p.2.2 < 18446744073709551616 := by have := hp.2.2.2; omega
      have cp : IntKind.u64.wrap p.2.2 = p.2.2 := IntWalk.u64_in _ (by omega)
      have HN : Hid (strOfNums (accL ⟨R, L⟩ (i + 1)) = strOfNums (accL ⟨R, L⟩ i) ++ strOfNums (putL p.2.2 8) ++ strOfNums (longL ⟨p.1.toArray⟩) ++ strOfNums (longL p.2.1)) := Lib.hid (str_acc (S := ⟨R, L⟩) hgi)
      have HZ : Hid ((strOfNums (accL ⟨R, L⟩ i)).size ≤ 300000 ∧ (strOfNums (putL p.2.2 8)).size ≤ 8 ∧ (strOfNums (longL ⟨p.1.toArray⟩)).size ≤ 1000 ∧ (strOfNums (longL p.2.1)).size ≤ 1000) := Lib.hid (by
        refine ⟨by rw [strOfNums_size]; exact accL_len HS.out i, by rw [strOfNums_size]; exact putL_len p.2.2 8, ?_, ?_⟩
        · rw [strOfNums_size]; unfold longL; rw [List.length_append, strI_length]; have := putL_len ((⟨p.1.toArray⟩ : ByteArray).size : Int) 4; have := hp.1; omega
        · rw [strOfNums_size]; unfold longL; rw [List.length_append, strI_length]; have := putL_len (p.2.1.size : Int) 4; have := hp.2.1; omega)
      have HLT := Lib.hid hlt
      clear hgi hp
      go_upto_region 5 with fail
      obtain ⟨wx, hwx⟩ : ∃ wx, wx = wr.alloc (itRO ⟨p.1.toArray⟩ p.2.1 p.2.2) := ⟨_, rfl⟩
      have hx1 : wx.heap[wr.heap.size]? = some (itRO ⟨p.1.toArray⟩ p.2.1 p.2.2) := by rw [hwx]; exact heap_alloc_new wr _
      have hbx : Below wr.heap.size wr wx := by rw [hwx]; exact belNew _ _
      change Code.wp _ _ _ _ (wr.alloc (itRO ⟨p.1.toArray⟩ p.2.1 p.2.2))
      rw [← hwx]
      obtain ⟨x0, x1, x2⟩ := rcells hx1
      have HBX := Lib.hid (bel hBw hbx)
      clear hwx hbx hx1 q0 q1 q2 hlt
      refine wp_region_held_drew (S := (fun W => Below wx.heap.size wx W)) (by kernel_rfl) ?_ (fun r0 => ?_)
      · exact ⟨rfl, rfl, rfl, Nat.le_refl _, fun _ _ => rfl⟩
      refine wpAnyH_take (i := 0) (v := ?_) rfl (by kernel_rfl) (by kernel_rfl) (by kernel_rfl) (fun _ _ _ h => h) (Or.inl ⟨by rfl, ?_⟩) (by assumption) ?_
      rotate_left
      · intro wS hSw
        (try dsimp only at hSw)
        go_simp
        first | done | with_reducible rfl
      try simp only [Act.put, List.getElem_toArray, List.getElem_cons_zero, List.setIfInBounds_toArray, List.set_cons_zero, List.set_cons_succ]
      refine wpAnyH_take (i := 1) (v := ?_) rfl (by kernel_rfl) (by kernel_rfl) (by kernel_rfl) (fun _ _ _ h => h) (Or.inl ⟨by rfl, ?_⟩) (by assumption) ?_
      rotate_left
      · intro wS hSw
        (try dsimp only at hSw)
        go_simp
        first | done | with_reducible rfl
      try simp only [Act.put, List.getElem_toArray, List.getElem_cons_succ, List.getElem_cons_zero, List.setIfInBounds_toArray, List.set_cons_zero, List.set_cons_succ]
      refine wpAnyH_take (i := 2) (v := ?_) rfl (by kernel_rfl) (by kernel_rfl) (by kernel_rfl) (fun _ _ _ h => h) (Or.inl ⟨by rfl, ?_⟩) (by assumption) ?_
      rotate_left
      · intro wS hSw
        (try dsimp only at hSw)
        have x0 := bcell hSw x0
        have x1 := bcell hSw x1
        have x2 := bcell hSw x2
        go_simp
        first | done | with_reducible rfl
      try simp only [Act.put, List.getElem_toArray, List.getElem_cons_succ, List.getElem_cons_zero, List.setIfInBounds_toArray, List.set_cons_zero, List.set_cons_succ]
      refine wpAnyH_take (i := 3) (v := ?_) rfl (by kernel_rfl) (by kernel_rfl) (by kernel_rfl) (fun _ _ _ h => h) (Or.inl ⟨by rfl, ?_⟩) (by assumption) ?_
      rotate_left
      · intro wS hSw
        (try dsimp only at hSw)
        go_simp
        first | done | with_reducible rfl
      try simp only [Act.put, List.getElem_toArray, List.getElem_cons_succ, List.getElem_cons_zero, List.setIfInBounds_toArray, List.set_cons_zero, List.set_cons_succ]
      refine wpAnyH_take (i := 7) (v := ?_) rfl (by kernel_rfl) (by kernel_rfl) (by kernel_rfl) (fun _ _ _ h => h) (Or.inl ⟨by rfl, ?_⟩) (by assumption) ?_
      rotate_left
      · intro wS hSw
        (try dsimp only at hSw)
        go_simp
        first | done | with_reducible rfl
      try simp only [Act.put, List.getElem_toArray, List.getElem_cons_succ, List.getElem_cons_zero, List.setIfInBounds_toArray, List.set_cons_zero, List.set_cons_succ]
      refine wpAnyH_take (i := 8) (v := ?_) rfl (by kernel_rfl) (by kernel_rfl) (by kernel_rfl) (fun _ _ _ h => h) (Or.inl ⟨by rfl, ?_⟩) (by assumption) ?_
      rotate_left
      · intro wS hSw
        (try dsimp only at hSw)
        have x0 := bcell hSw x0
        have x1 := bcell hSw x1
        have x2 := bcell hSw x2
        go_simp
        first | done | with_reducible rfl
      try simp only [Act.put, List.getElem_toArray, List.getElem_cons_succ, List.getElem_cons_zero, List.setIfInBounds_toArray, List.set_cons_zero, List.set_cons_succ]
      refine wpAnyH_take (i := 11) (v := ?_) rfl (by kernel_rfl) (by kernel_rfl) (by kernel_rfl) (fun _ _ _ h => h) (Or.inl ⟨by rfl, ?_⟩) (by assumption) ?_
      rotate_left
      · intro wS hSw
        (try dsimp only at hSw)
        go_simp
        first | done | with_reducible rfl
      try simp only [Act.put, List.getElem_toArray, List.getElem_cons_succ, List.getElem_cons_zero, List.setIfInBounds_toArray, List.set_cons_zero, List.set_cons_succ]
      refine wpAnyH_take (i := 12) (v := ?_) rfl (by kernel_rfl) (by kernel_rfl) (by kernel_rfl) (fun _ _ _ h => h) (Or.inl ⟨by rfl, ?_⟩) (by assumption) ?_
      rotate_left
      · intro wS hSw
        (try dsimp only at hSw)
        have x0 := bcell hSw x0
        have x1 := bcell hSw x1
        have x2 := bcell hSw x2
        go_simp
        first | done | with_reducible rfl
      try simp only [Act.put, List.getElem_toArray, List.getElem_cons_succ, List.getElem_cons_zero, List.setIfInBounds_toArray, List.set_cons_zero, List.set_cons_succ]
      refine wpAnyH_ready (rs := [4]) (by kernel_rfl) (by simp) ?_
      refine AllReadyH.cons rfl (fun K hK => ?_) AllReadyH.nil
      go_simp
      refine (refPut_any p.2.2 8 _ hp0 hp2).mono ?_; rintro e w3 ⟨v3, rfl, ho3, hb3⟩
      refine hK.out _ _ ?_ (fun r1 => ?_)
      · exact bel r0 hb3
      refine wpAnyH_mono (S' := (fun W' => Below wx.heap.size wx W' ∧ Sees W' v3 (putL p.2.2 8))) (fun _ h => h.1) _ _ _ _ ?_
      have r1x := And.intro r1 ho3.sees
      try simp only [Act.put, List.getElem_toArray, List.getElem_cons_succ, List.getElem_cons_zero, List.setIfInBounds_toArray, List.set_cons_zero, List.set_cons_succ]
      refine wpAnyH_take (i := 5) (v := ?_) rfl (by kernel_rfl) (by kernel_rfl) (by kernel_rfl) (fun _ _ _ h => h) (Or.inl ⟨by rfl, ?_⟩) (by assumption) ?_
      rotate_left
      · intro wS hSw
        (try dsimp only at hSw)
        have q1 := conv_sees hSw.2
        go_simp
        first | done | with_reducible rfl
      try simp only [Act.put, List.getElem_toArray, List.getElem_cons_succ, List.getElem_cons_zero, List.setIfInBounds_toArray, List.set_cons_zero, List.set_cons_succ]
      refine wpAnyH_take (i := 6) (v := ?_) rfl (by kernel_rfl) (by kernel_rfl) (by kernel_rfl) (fun _ _ _ h => h) (Or.inl ⟨by rfl, ?_⟩) (by assumption) ?_
      rotate_left
      · intro wS hSw
        (try dsimp only at hSw)
        go_simp
        rw [if_neg (by have := HZ.out; omega)]
        first | done | with_reducible rfl
      try simp only [Act.put, List.getElem_toArray, List.getElem_cons_succ, List.getElem_cons_zero, List.setIfInBounds_toArray, List.set_cons_zero, List.set_cons_succ]
      refine wpAnyH_ready (rs := [9]) (by kernel_rfl) (by simp) ?_
      refine AllReadyH.cons rfl (fun K hK => ?_) AllReadyH.nil
      go_simp
      refine (long10_any ⟨p.1.toArray⟩ hpk _).mono ?_; rintro e w4 ⟨rfl, hb4⟩
      refine hK.out _ _ ?_ (fun r2 => ?_)
      · exact ⟨bel r1x.1 hb4, r1x.2.keep hb4⟩
      try simp only [Act.put, List.getElem_toArray, List.getElem_cons_succ, List.getElem_cons_zero, List.setIfInBounds_toArray, List.set_cons_zero, List.set_cons_succ]
      refine wpAnyH_take (i := 10) (v := ?_) rfl (by kernel_rfl) (by kernel_rfl) (by kernel_rfl) (fun _ _ _ h => h) (Or.inl ⟨by rfl, ?_⟩) (by assumption) ?_
      rotate_left
      · intro wS hSw
        (try dsimp only at hSw)
        go_simp
        rw [if_neg (by have := HZ.out; omega)]
        first | done | with_reducible rfl
      try simp only [Act.put, List.getElem_toArray, List.getElem_cons_succ, List.getElem_cons_zero, List.setIfInBounds_toArray, List.set_cons_zero, List.set_cons_succ]
      refine wpAnyH_ready (rs := [13]) (by kernel_rfl) (by simp) ?_
      refine AllReadyH.cons rfl (fun K hK => ?_) AllReadyH.nil
      go_simp
      refine (long10_any p.2.1 hpv _).mono ?_; rintro e w5 ⟨rfl, hb5⟩
      refine hK.out _ _ ?_ (fun r3 => ?_)
      · exact ⟨bel r2.1 hb5, r2.2.keep hb5⟩
      try simp only [Act.put, List.getElem_toArray, List.getElem_cons_succ, List.getElem_cons_zero, List.setIfInBounds_toArray, List.set_cons_zero, List.set_cons_succ]
      refine wpAnyH_take (i := 14) (v := ?_) rfl (by kernel_rfl) (by kernel_rfl) (by kernel_rfl) (fun _ _ _ h => h) (Or.inl ⟨by rfl, ?_⟩) (by assumption) ?_
      rotate_left
      · intro wS hSw
        (try dsimp only at hSw)
        go_simp
        rw [if_neg (by have := HZ.out; omega)]
        first | done | with_reducible rfl
      try simp only [Act.put, List.getElem_toArray, List.getElem_cons_succ, List.getElem_cons_zero, List.setIfInBounds_toArray, List.set_cons_zero, List.set_cons_succ]
      refine wpAnyH_take (i := 15) (v := ?_) rfl (by kernel_rfl) (by kernel_rfl) (by kernel_rfl) (fun _ _ _ h => h) (Or.inl ⟨by rfl, ?_⟩) (by assumption) ?_
      rotate_left
      · intro wS hSw
        (try dsimp only at hSw)
        go_simp
        first | done | with_reducible rfl
      try simp only [Act.put, List.getElem_toArray, List.getElem_cons_succ, List.getElem_cons_zero, List.setIfInBounds_toArray, List.set_cons_zero, List.set_cons_succ]
      refine wpAnyH_done (by kernel_rfl) ?_ _
      go_wp2_with fail
      go_roundw
      case rel => exact ⟨i + 1, by have := HLT.out; omega, by go_num, by rw [HN.out], bel HBX.out r3.1⟩
      case measure => have := HLT.out; simp [intOf]; omega
    · obtain rfl : i = L.length := by omega
      have HE : Hid (accL ⟨R, L⟩ L.length = stL ⟨R, L⟩) := Lib.hid (accL_all ⟨R, L⟩)
      go_wp2_with fail
      go_ret
      rw [HE.out]
      exact ⟨rfl, HB0.out.trans (hBw.mono HB0.out.size)⟩
end Go.Proofs.Ytogcjginifcbpaa
