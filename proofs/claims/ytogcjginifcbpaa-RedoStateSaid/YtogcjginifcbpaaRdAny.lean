/- What redo.Read reads of any bytes: bytes that are read as an effect are just that one's. -/
import Derived.Test.YtogcjginifcbpaaRdBack
namespace Go.Proofs.Ytogcjginifcbpaa
open Go.RowKit Go.Maps
theorem numBytes_add (m c : Int) (n : Nat) : ∀ k, k ≤ n → numBytes (m + c * 256 ^ n) k = numBytes m k
  | 0, _ => rfl
  | k + 1, h => by
    have ih := numBytes_add m c n k (by omega)
    have e : (256 : Int) ^ n = 256 ^ (n - k - 1) * 256 * 256 ^ k := by
      rw [← Int.pow_succ, ← Int.pow_add]; congr 1; omega
    have h2 : (m + c * 256 ^ n) / 256 ^ k % 256 = m / 256 ^ k % 256 := by
      rw [e, ← Int.mul_assoc, Int.add_mul_ediv_right _ _ (Int.ne_of_gt (Int.pow_pos (by omega))), ← Int.mul_assoc, Int.add_mul_emod_self_right]
    show _ :: _ = _ :: _
    rw [h2, ih]
theorem numBE_fold : ∀ (l : List Int) (a : Int), l.foldl (fun n c => n * 256 + c) a = a * 256 ^ l.length + numBE l
  | [], a => by simp [numBE]
  | c :: l, a => by
    have h1 := numBE_fold l (a * 256 + c)
    have h2 := numBE_fold l (0 * 256 + c)
    have h3 : numBE (c :: l) = l.foldl (fun n c => n * 256 + c) (0 * 256 + c) := rfl
    rw [List.foldl_cons, h1, h3, h2, List.length_cons, Int.pow_succ]
    grind
theorem numBytes_back : ∀ l : List Int, okB l → numBytes (numBE l) l.length = l
  | [], _ => rfl
  | c :: l, h => by
    have hc := h c (by simp)
    have hl : okB l := fun x hx => h x (by simp [hx])
    have ih := numBytes_back l hl
    have e : numBE (c :: l) = numBE l + c * 256 ^ l.length := by
      have := numBE_fold l (0 * 256 + c)
      show l.foldl (fun n c => n * 256 + c) (0 * 256 + c) = _
      rw [this]; grind
    obtain ⟨b0, b1⟩ := numBE_bd l hl
    rw [e, List.length_cons]
    show (numBE l + c * 256 ^ l.length) / 256 ^ l.length % 256 :: numBytes (numBE l + c * 256 ^ l.length) l.length = c :: l
    rw [numBytes_add _ _ _ _ (Nat.le_refl _), ih, Int.add_mul_ediv_right _ _ (Int.ne_of_gt (Int.pow_pos (by omega))), Int.ediv_eq_zero_of_lt b0 b1]
    congr 1
    omega
theorem rdB_back {st : Option (List Int)} {n : Int} {l' : List Int} (h : (rdB st n).2 = some l') : ∃ l, st = some l ∧ l = (rdB st n).1 ++ l' ∧ ((rdB st n).1.length : Int) = n := by
  cases st with
  | none => cases h
  | some l =>
    refine ⟨l, rfl, ?_⟩
    by_cases hc : 0 ≤ n ∧ n ≤ l.length
    · have e : rdB (some l) n = (l.take n.toNat, some (l.drop n.toNat)) := by unfold rdB; exact if_pos hc
      rw [e] at h ⊢
      obtain rfl := Option.some.inj h
      refine ⟨(List.take_append_drop _ _).symm, ?_⟩
      rw [List.length_take]
      omega
    · have e : rdB (some l) n = ([], none) := by unfold rdB; exact if_neg hc
      rw [e] at h
      cases h
theorem rdU_back {st : Option (List Int)} {k : Int} {l' : List Int} (hok : okB (st.getD [])) (h : (rdU st k).2 = some l') (hk : wOk k = true) : ∃ l, st = some l ∧ l = putL (rdU st k).1 k ++ l' ∧ okB l' ∧ 0 ≤ (rdU st k).1 ∧ (rdU st k).1 < 256 ^ k.toNat := by
  unfold rdU at h ⊢
  rw [if_pos hk] at h ⊢
  obtain ⟨l, rfl, e, hn⟩ := rdB_back h
  have ho := rdB_ok hok k
  have ho' : okB l' := fun x hx => hok x (by show x ∈ l; rw [e]; exact List.mem_append_right _ hx)
  have hb := numBE_bd _ ho
  have hlen : (rdB (some l) k).1.length = k.toNat := by omega
  refine ⟨l, rfl, ?_, ho', hb.1, by rw [← hlen]; exact hb.2⟩
  unfold putL
  rw [if_pos hk, ← hlen, numBytes_back _ ho]
  exact e
theorem strNums_size (l : List Int) : (strOfNums l).size = l.length := by
  unfold strOfNums ByteArray.size
  simp
theorem rdL_back {st : Option (List Int)} {l' : List Int} (hok : okB (st.getD [])) (h : (rdL st).2 = some l') : ∃ l, st = some l ∧ l = longL (strOfNums (rdL st).1) ++ l' ∧ okB l' ∧ (strOfNums (rdL st).1).size < 4294967296 := by
  unfold rdL at h ⊢
  obtain ⟨l2, e2, f2, hn⟩ := rdB_back h
  obtain ⟨l, rfl, f1, hok2, b0, b1⟩ := rdU_back hok e2 rfl
  have b1' : (rdU (some l) 4).1 < 4294967296 := b1
  have ho := rdB_ok (st := (rdU (some l) 4).2) (by rw [e2]; exact hok2) (rdU (some l) 4).1
  refine ⟨l, rfl, ?_, fun x hx => hok2 x (by rw [f2]; exact List.mem_append_right _ hx), by rw [strNums_size]; omega⟩
  unfold longL
  rw [strI_of ho, strNums_size, hn, List.append_assoc, ← f2]
  exact f1
theorem wrap_back {n : Int} (h0 : 0 ≤ n) (h1 : n < 18446744073709551616) (h : 0 ≤ IntKind.i64.wrap n) : IntKind.i64.wrap n = n := by
  rw [IntKind.wrap_i64] at h ⊢
  omega
/-- An item's bytes, of those that were read as one. -/
theorem item_back {st : Option (List Int)} {l' : List Int} (hok : okB (st.getD [])) (h : (rdV st).2 = some l') (hr : 0 ≤ rdRev st) : ∃ l, st = some l ∧ l = itemL (kl (strOfNums (rdK st).1), (strOfNums (rdV st).1, rdRev st)) ++ l' ∧ okB l' := by
  unfold rdV at h ⊢
  have hok1 : okB ((rdK st).2.getD []) := by
    unfold rdK rdL
    intro x hx
    have e1 : ∀ (s : Option (List Int)) (n : Int), okB (s.getD []) → okB ((rdB s n).2.getD []) := by
      intro s n hs y hy
      cases s with
      | none => simp [rdB] at hy
      | some l =>
        by_cases hc : 0 ≤ n ∧ n ≤ l.length
        · have e : rdB (some l) n = (l.take n.toNat, some (l.drop n.toNat)) := by unfold rdB; exact if_pos hc
          rw [e] at hy
          exact hs y (List.mem_of_mem_drop hy)
        · have e : rdB (some l) n = ([], none) := by unfold rdB; exact if_neg hc
          rw [e] at hy
          cases hy
    have e2 : ∀ (s : Option (List Int)) (k : Int), okB (s.getD []) → okB ((rdU s k).2.getD []) := by
      intro s k hs
      unfold rdU
      split
      · exact e1 _ _ hs
      · intro y hy; cases hy
    exact e1 _ _ (e2 _ _ (e2 _ _ hok)) x hx
  obtain ⟨l2, e2, f2, ok2, z2⟩ := rdL_back hok1 h
  unfold rdK at e2
  have hok0 : okB ((rdU st 8).2.getD []) := by
    cases hs : (rdU st 8).2 with
    | none => intro y hy; cases hy
    | some m => exact (rdU_back hok hs rfl).choose_spec.2.2.1
  obtain ⟨l1, e1, f1, ok1, z1⟩ := rdL_back hok0 e2
  obtain ⟨l, e0, f0, ok0, b0, b1⟩ := rdU_back hok e1 rfl
  refine ⟨l, e0, ?_, ok2⟩
  have b1' : (rdU st 8).1 < 18446744073709551616 := b1
  have hw : rdRev st = (rdU st 8).1 := by
    unfold rdRev at hr ⊢
    exact wrap_back b0 b1' hr
  unfold itemL
  simp only [kl_str]
  rw [hw, List.append_assoc, List.append_assoc, ← f2]
  unfold rdK
  rw [← f1]
  exact f0
theorem done_nilL {st : Option (List Int)} (h : doneB st = true) : st = some [] := by
  unfold doneB at h
  cases st with
  | none => simp at h
  | some l =>
    simp at h
    rw [h]
theorem kindOf_back {kd : Int} (h : (kd == 1 || kd == 2) = true) (e : KEff) (he : e.gone = (kd == 2)) : kindOf e = kd := by
  unfold kindOf
  rw [he]
  by_cases h2 : kd = 2
  · subst h2; rfl
  · have h1 : kd = 1 := by simp at h; omega
    subst h1; rfl
theorem rdRev_le (st : Option (List Int)) : rdRev st ≤ 9223372036854775807 := by
  unfold rdRev
  rw [IntKind.wrap_i64]
  omega
theorem read10_any (b : Value) (xs : List Int) (w : World) (h : Sees w b xs) (hok : okB xs) (hl : xs.length ≤ 100000000000000) :
    Calls Try.prog 40 #[b] w fun x w' => ((∃ e : KEff, x = .returned (.tuple #[effV e, .int .i64 0]) ∧ rightB e = true ∧ e.rev ≤ 9223372036854775807 ∧ effL e = xs) ∨ x = .returned (.tuple #[effV eff0, .int .i64 3])) ∧ Below w.heap.size w w' := by
  obtain ⟨kd, hkd⟩ : ∃ kd, kd = (rdU (some xs) 1).1 := ⟨_, rfl⟩
  obtain ⟨s1, hs1⟩ : ∃ s1, s1 = (rdU (some xs) 1).2 := ⟨_, rfl⟩
  obtain ⟨e, he⟩ : ∃ e : KEff, e = ⟨strOfNums (rdK s1).1, strOfNums (rdV s1).1, rdRev s1, kd == 2⟩ := ⟨_, rfl⟩
  refine (read_core b xs w h hok hl kd (rdRev s1) s1 (rdV s1).2 (strOfNums (rdK s1).1) (strOfNums (rdV s1).1) (doneB (rdV s1).2) (rightB e)
    (Lib.hid (fun g w h => ?_)) (Lib.hid (fun g w h => ?_)) (Lib.hid (fun g w h => done_any g g _ w h)) (Lib.hid (fun w => ?_))).mono ?_
  · have := u_any g g _ 1 w h
    rw [← hkd, ← hs1] at this
    exact this
  · exact readItem_any g g _ w h
  · have := right_any e w
    rw [he] at this ⊢
    exact this
  · rintro x w' ⟨rfl, h2⟩
    refine ⟨?_, h2⟩
    by_cases hc : (doneB (rdV s1).2 && (kd == 1 || kd == 2) && rightB e) = true
    · rw [if_pos hc]
      simp only [Bool.and_eq_true] at hc
      obtain ⟨⟨hd, hk⟩, hr⟩ := hc
      left
      refine ⟨e, by rw [he], hr, by rw [he]; exact rdRev_le _, ?_⟩
      obtain ⟨_, _, _, r4, _⟩ := rightB_ok hr
      have hrv : 0 ≤ rdRev s1 := by rw [he] at r4; simp only [] at r4; omega
      have hok1 : okB (s1.getD []) := by
        rw [hs1]
        cases hs : (rdU (some xs) 1).2 with
        | none => intro y hy; cases hy
        | some m => exact (rdU_back (st := some xs) hok hs rfl).choose_spec.2.2.1
      obtain ⟨l1, e1, f1, _⟩ := item_back hok1 (done_nilL hd) hrv
      have e0 : (rdU (some xs) 1).2 = some l1 := by rw [← hs1]; exact e1
      obtain ⟨l, e2, f2, _, _, _⟩ := rdU_back (st := some xs) hok e0 rfl
      obtain rfl := Option.some.inj e2
      unfold effL
      rw [kindOf_back hk e (by rw [he]), he, hkd]
      rw [f1, List.append_nil] at f2
      exact f2.symm
    · rw [if_neg hc]
      right
      rfl
end Go.Proofs.Ytogcjginifcbpaa
