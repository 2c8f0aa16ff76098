/- Package recs: what is read of any bytes is just those of the record: lists of bytes. -/
import Derived.Test.YtcfmknocpjjklaaRcRead
namespace Go.Proofs.Ytcfmknocpjjklaa
open Go.RowKit
theorem numBytes_add (m c : Int) (n : Nat) : ∀ k, k ≤ n → numBytes (m + c * 256 ^ n) k = numBytes m k
  | 0, _ => rfl
  | k + 1, h => by
    have ih := numBytes_add m c n k (by omega)
    have e : (256 : Int) ^ n = 256 ^ (n - k - 1) * 256 * 256 ^ k := by
      rw [← Int.pow_succ, ← Int.pow_add]; congr 1; omega
    have h2 : (m + c * 256 ^ n) / 256 ^ k % 256 = m / 256 ^ k % 256 := by
      rw [e, ← Int.mul_assoc, Int.add_mul_ediv_right _ _ (Int.ne_of_gt (Int.pow_pos (by omega))), ← Int.mul_assoc, Int.add_mul_emod_self_right]
    show _ :: _ = _ :: _
    rw [h2, ih]
theorem numBE_fold : ∀ (l : List Int) (a : Int), l.foldl (fun n c => n * 256 + c) a = a * 256 ^ l.length + numBE l
  | [], a => by simp [numBE]
  | c :: l, a => by
    have h1 := numBE_fold l (a * 256 + c)
    have h2 := numBE_fold l (0 * 256 + c)
    have h3 : numBE (c :: l) = l.foldl (fun n c => n * 256 + c) (0 * 256 + c) := rfl
    rw [List.foldl_cons, h1, h3, h2, List.length_cons, Int.pow_succ]
    grind
theorem numBytes_back : ∀ l : List Int, okB l → numBytes (numBE l) l.length = l
  | [], _ => rfl
  | c :: l, h => by
    have hc := h c (by simp)
    have hl : okB l := fun x hx => h x (by simp [hx])
    have ih := numBytes_back l hl
    have e : numBE (c :: l) = numBE l + c * 256 ^ l.length := by
      have := numBE_fold l (0 * 256 + c)
      show l.foldl (fun n c => n * 256 + c) (0 * 256 + c) = _
      rw [this]; grind
    obtain ⟨b0, b1⟩ := numBE_bd l hl
    rw [e, List.length_cons]
    show (numBE l + c * 256 ^ l.length) / 256 ^ l.length % 256 :: numBytes (numBE l + c * 256 ^ l.length) l.length = c :: l
    rw [numBytes_add _ _ _ _ (Nat.le_refl _), ih, Int.add_mul_ediv_right _ _ (Int.ne_of_gt (Int.pow_pos (by omega))), Int.ediv_eq_zero_of_lt b0 b1]
    congr 1
    omega
theorem rdB_back {st : Option (List Int)} {n : Int} {l' : List Int} (h : (rdB st n).2 = some l') : ∃ l, st = some l ∧ l = (rdB st n).1 ++ l' ∧ ((rdB st n).1.length : Int) = n := by
  cases st with
  | none => cases h
  | some l =>
    refine ⟨l, rfl, ?_⟩
    by_cases hc : 0 ≤ n ∧ n ≤ l.length
    · have e : rdB (some l) n = (l.take n.toNat, some (l.drop n.toNat)) := by unfold rdB; exact if_pos hc
      rw [e] at h ⊢
      obtain rfl := Option.some.inj h
      refine ⟨(List.take_append_drop _ _).symm, ?_⟩
      rw [List.length_take]
      omega
    · have e : rdB (some l) n = ([], none) := by unfold rdB; exact if_neg hc
      rw [e] at h
      cases h
theorem rdU_back {st : Option (List Int)} {k : Int} {l' : List Int} (hok : okB (st.getD [])) (h : (rdU st k).2 = some l') (hk : wOk k = true) : ∃ l, st = some l ∧ l = putL (rdU st k).1 k ++ l' ∧ okB l' ∧ 0 ≤ (rdU st k).1 ∧ (rdU st k).1 < 256 ^ k.toNat := by
  unfold rdU at h ⊢
  rw [if_pos hk] at h ⊢
  obtain ⟨l, rfl, e, hn⟩ := rdB_back h
  have ho := rdB_ok hok k
  have ho' : okB l' := fun x hx => hok x (by show x ∈ l; rw [e]; exact List.mem_append_right _ hx)
  have hb := numBE_bd _ ho
  have hlen : (rdB (some l) k).1.length = k.toNat := by omega
  refine ⟨l, rfl, ?_, ho', hb.1, by rw [← hlen]; exact hb.2⟩
  unfold putL
  rw [if_pos hk, ← hlen, numBytes_back _ ho]
  exact e
theorem strNums_size (l : List Int) : (strOfNums l).size = l.length := by
  unfold strOfNums ByteArray.size
  simp

theorem strOfNums_append (a b : List Int) : strOfNums (a ++ b) = strOfNums a ++ strOfNums b := by
  apply ByteArray.ext
  simp [strOfNums]
theorem strOf_strI (s : ByteArray) : strOfNums (strI s) = s := by
  apply ByteArray.ext
  unfold strOfNums strI
  simp only [List.map_map]
  rw [show ((fun n : Int => UInt8.ofNat n.toNat) ∘ fun b : UInt8 => (b.toNat : Int)) = id from funext fun b => by simp]
  simp
theorem rd_ahead (a b : List Int) : rdB (some (a ++ b)) a.length = (a, some b) := by
  rw [rdB_yes (by simp)]
  simp
theorem rd_put {n k : Int} (b : List Int) (hk : wOk k = true) : rdU (some (putL n k ++ b)) k = (numBE (putL n k), some b) := by
  have e : (putL n k).length = k.toNat := by unfold putL; rw [if_pos hk, numBytes_length]
  have h1 := of_decide_eq_true hk
  unfold rdU
  have h2 := rd_ahead (putL n k) b
  rw [e, show ((k.toNat : Nat) : Int) = k from by omega] at h2
  rw [if_pos hk, h2]

theorem numBE_put4' {n : Int} (h : 0 ≤ n ∧ n < 4294967296) : numBE (putL n 4) = n := by
  show numBE (numBytes n 4) = n
  simp only [numBytes, numBE, List.foldl_cons, List.foldl_nil]
  simp
  omega
def pool4 (x : Int) : List Int := putL x 4
theorem doneB_some {st : Option (List Int)} (h : doneB st = true) : st = some [] := by
  unfold doneB at h
  cases st with
  | none => cases h
  | some l =>
    cases l with
    | nil => rfl
    | cons a t =>
      simp at h
      omega
theorem flag_back {x : Int} (h0 : 0 ≤ x) (h1 : x ≤ 1) : flagI (x == 1) = x := by
  rcases (show x = 0 ∨ x = 1 by omega) with rfl | rfl <;> rfl
theorem strI_cons {s : ByteArray} {c : UInt8} (h : starts s ⟨#[c]⟩ = true) : strI s = (c.toNat : Int) :: strI (rest s ⟨#[c]⟩) := by
  have h1 : Lib.hasPrefix s.data.toList [c] = true := h
  obtain ⟨t, ht⟩ := List.isPrefixOf_iff_prefix.1 (show [c].isPrefixOf s.data.toList = true from h1)
  have h2 : (rest s ⟨#[c]⟩).data.toList = t := by
    show Lib.trimPrefix s.data.toList [c] = t
    unfold Lib.trimPrefix
    rw [if_pos h1, ← ht]
    rfl
  unfold strI
  rw [h2, ← ht]
  rfl
theorem str_eq {s : ByteArray} {l : List Int} (h : strI s = l) : strOfNums l = s := by rw [← h, strOf_strI]
theorem wOk1 : wOk 1 = true := rfl
theorem wOk4 : wOk 4 = true := rfl
theorem poolB_back {s : ByteArray} (h : poolB s = true) : rightB (u1 s).1 (u2 s).1 = true ∧ strOfNums (poolL (u1 s).1 (u2 s).1 ((u3 s).1 == 1)) = s := by
  unfold poolB at h
  simp only [Bool.and_eq_true, decide_eq_true_eq] at h
  obtain ⟨hs, h3, hd, hr⟩ := h
  refine ⟨hr, str_eq ?_⟩
  have e := doneB_some hd
  have ok0 : okB ((some (strI (rest s pP)) : Option (List Int)).getD []) := okB_strI _
  have ok1 : okB ((u1 s).2.getD []) := (rdU_bd _ ok0 4 (by decide)).2.2
  have ok2 : okB ((u2 s).2.getD []) := (rdU_bd _ ok1 1 (by decide)).2.2
  obtain ⟨l2, e2, f2, _, b30, _⟩ := rdU_back (st := (u2 s).2) (k := 1) ok2 e wOk1
  obtain ⟨l1, e1, f1, _, b20, b21⟩ := rdU_back (st := (u1 s).2) (k := 1) ok1 e2 wOk1
  obtain ⟨l0, e0, f0, _, _, _⟩ := rdU_back (st := some (strI (rest s pP))) (k := 4) ok0 e1 wOk4
  have b21' : (rdU (u1 s).2 1).1 < 256 := b21
  have hp2 : putL (rdU (u1 s).2 1).1 1 = [(u2 s).1] := putL_small _ b20 (by omega)
  have hp3 : putL (rdU (u2 s).2 1).1 1 = [(u3 s).1] := putL_small _ b30 (by have h3' : (rdU (u2 s).2 1).1 ≤ 1 := h3; omega)
  rw [hp2] at f1
  rw [hp3, List.append_nil] at f2
  have h0 : strI (rest s pP) = putL (u1 s).1 4 ++ ([(u2 s).1] ++ [(u3 s).1]) := by
    rw [Option.some.inj e0, f0, f1, f2]; rfl
  have b30' : 0 ≤ (u3 s).1 := b30
  rw [strI_cons hs, h0]
  unfold poolL
  rw [flag_back b30' h3]
  simp
theorem poolB_put {a b : Int} {o : Bool} (hr : rightB a b = true) (ha : 0 ≤ a) (ha' : a < 4294967296) (hs : starts (strOfNums (poolL a b o)) pP = true ∧ strI (rest (strOfNums (poolL a b o)) pP) = putL a 4 ++ [b] ++ [flagI o]) :
    poolB (strOfNums (poolL a b o)) = true ∧ (u1 (strOfNums (poolL a b o))).1 = a ∧ (u2 (strOfNums (poolL a b o))).1 = b ∧ ((u3 (strOfNums (poolL a b o))).1 == 1) = o := by
  obtain ⟨h1, h2⟩ := hs
  have hbb : 16 ≤ b ∧ b ≤ 26 := by
    unfold rightB at hr
    simp only [Bool.and_eq_true, decide_eq_true_eq] at hr
    exact hr.2
  have hf : 0 ≤ flagI o ∧ flagI o ≤ 1 := by cases o <;> decide
  have e1 : u1 (strOfNums (poolL a b o)) = (a, some ([b] ++ [flagI o])) := by
    unfold u1
    rw [h2, List.append_assoc, rd_put _ wOk4, numBE_put4' ⟨ha, ha'⟩]
  have e2 : u2 (strOfNums (poolL a b o)) = (b, some [flagI o]) := by
    unfold u2
    rw [e1]
    have h := rd_put (n := b) [flagI o] wOk1
    rw [putL_small b (by omega) (by omega)] at h
    simp only []
    rw [h]
    simp [numBE]
  have e3 : u3 (strOfNums (poolL a b o)) = (flagI o, some []) := by
    unfold u3
    rw [e2]
    have h := rd_put (n := flagI o) [] wOk1
    rw [putL_small (flagI o) hf.1 (by omega)] at h
    simp only []
    rw [List.append_nil] at h
    rw [h]
    simp [numBE]
  refine ⟨?_, by rw [e1], by rw [e2], by rw [e3]; cases o <;> rfl⟩
  unfold poolB
  rw [h1, e3, e1, e2]
  simp only []
  rw [hr, decide_eq_true hf.2]
  rfl
theorem starts_cons (c : Int) (hc : 0 ≤ c ∧ c ≤ 255) (l : List Int) (hl : okB l) : starts (strOfNums (c :: l)) ⟨#[UInt8.ofNat c.toNat]⟩ = true ∧ strI (rest (strOfNums (c :: l)) ⟨#[UInt8.ofNat c.toNat]⟩) = l := by
  have hd : (strOfNums (c :: l)).data.toList = UInt8.ofNat c.toNat :: l.map (fun n => UInt8.ofNat n.toNat) := rfl
  have h1 : Lib.hasPrefix (strOfNums (c :: l)).data.toList [UInt8.ofNat c.toNat] = true := by
    unfold Lib.hasPrefix
    rw [hd]
    simp
  refine ⟨h1, ?_⟩
  have h2 : (rest (strOfNums (c :: l)) ⟨#[UInt8.ofNat c.toNat]⟩).data.toList = l.map (fun n => UInt8.ofNat n.toNat) := by
    show Lib.trimPrefix (strOfNums (c :: l)).data.toList [UInt8.ofNat c.toNat] = _
    unfold Lib.trimPrefix
    rw [if_pos h1, hd]
    rfl
  unfold strI
  rw [h2, List.map_map]
  have h3 : ∀ x ∈ l, ((fun b : UInt8 => (b.toNat : Int)) ∘ fun n : Int => UInt8.ofNat n.toNat) x = x := fun x hx => by
    have := hl x hx
    simp
    omega
  rw [List.map_congr_left h3, List.map_id']
theorem okB_flag (o : Bool) : okB [flagI o] := by cases o <;> (intro x hx; simp [flagI] at hx; omega)
theorem okB_app {a b : List Int} (ha : okB a) (hb : okB b) : okB (a ++ b) := fun x hx => (List.mem_append.1 hx).elim (ha x) (hb x)
theorem okB_numB (n : Int) : ∀ k, okB (numBytes n k)
  | 0 => fun x hx => by cases hx
  | k + 1 => fun x hx => by
    rcases List.mem_cons.1 hx with rfl | hx
    · omega
    · exact okB_numB n k x hx
theorem okB_putL (n k : Int) : okB (putL n k) := by
  unfold putL
  split
  · exact okB_numB _ _
  · intro x hx; cases hx
theorem poolB_of {a b : Int} {o : Bool} (hr : rightB a b = true) (ha : 0 ≤ a) (ha' : a < 4294967296) :
    poolB (strOfNums (poolL a b o)) = true ∧ (u1 (strOfNums (poolL a b o))).1 = a ∧ (u2 (strOfNums (poolL a b o))).1 = b ∧ ((u3 (strOfNums (poolL a b o))).1 == 1) = o := by
  have hbb : 16 ≤ b ∧ b ≤ 26 := by
    unfold rightB at hr
    simp only [Bool.and_eq_true, decide_eq_true_eq] at hr
    exact hr.2
  exact poolB_put hr ha ha' (starts_cons 80 (by decide) (putL a 4 ++ [b] ++ [flagI o]) (okB_app (okB_app (okB_putL _ _) (fun x hx => by simp at hx; omega)) (okB_flag o)))
theorem poolL_size (a b : Int) (o : Bool) : (strOfNums (poolL a b o)).size ≤ 11 := by
  have := putL_length a 4
  rw [strNums_size]
  simp [poolL]
  omega
def v1 (s : ByteArray) : Int × Option (List Int) := rdU (some (strI (rest s pN))) 1
def a1 (s : ByteArray) : Int × Option (List Int) := rdU (some (strI (rest s pA))) 1
def nodeB (s : ByteArray) : Bool := starts s pN && (decide ((v1 s).1 ≤ 1) && doneB (v1 s).2)
def affB (s : ByteArray) : Bool := starts s pA && (doneB (a1 s).2 && stB (a1 s).1)
theorem nodeB_back {s : ByteArray} (h : nodeB s = true) : strOfNums [78, flagI ((v1 s).1 == 1)] = s := by
  unfold nodeB at h
  simp only [Bool.and_eq_true, decide_eq_true_eq] at h
  obtain ⟨hs, h3, hd⟩ := h
  apply str_eq
  have e := doneB_some hd
  have ok0 : okB ((some (strI (rest s pN)) : Option (List Int)).getD []) := okB_strI _
  obtain ⟨l0, e0, f0, _, b0, _⟩ := rdU_back (st := some (strI (rest s pN))) (k := 1) ok0 e wOk1
  have hp : putL (rdU (some (strI (rest s pN))) 1).1 1 = [(v1 s).1] := putL_small _ b0 (by have h3' : (rdU (some (strI (rest s pN))) 1).1 ≤ 1 := h3; omega)
  rw [hp, List.append_nil] at f0
  have b0' : 0 ≤ (v1 s).1 := b0
  rw [strI_cons hs, Option.some.inj e0, f0, flag_back b0' h3]
  rfl
theorem affB_back {s : ByteArray} (h : affB s = true) : stB (a1 s).1 = true ∧ strOfNums [65, (a1 s).1] = s := by
  unfold affB at h
  simp only [Bool.and_eq_true] at h
  obtain ⟨hs, hd, ht⟩ := h
  refine ⟨ht, str_eq ?_⟩
  have e := doneB_some hd
  have ok0 : okB ((some (strI (rest s pA)) : Option (List Int)).getD []) := okB_strI _
  obtain ⟨l0, e0, f0, _, b0, _⟩ := rdU_back (st := some (strI (rest s pA))) (k := 1) ok0 e wOk1
  have h3 : 1 ≤ (rdU (some (strI (rest s pA))) 1).1 ∧ (rdU (some (strI (rest s pA))) 1).1 ≤ 3 := of_decide_eq_true ht
  have hp : putL (rdU (some (strI (rest s pA))) 1).1 1 = [(a1 s).1] := putL_small _ b0 (by omega)
  rw [hp, List.append_nil] at f0
  rw [strI_cons hs, Option.some.inj e0, f0]
  rfl
theorem affB_of {x : Int} (h : stB x = true) : affB (strOfNums [65, x]) = true ∧ (a1 (strOfNums [65, x])).1 = x := by
  have hx : 1 ≤ x ∧ x ≤ 3 := of_decide_eq_true h
  rcases (show x = 1 ∨ x = 2 ∨ x = 3 by omega) with rfl | rfl | rfl <;> exact ⟨by kernel_rfl, by kernel_rfl⟩
theorem node_no {s : ByteArray} (h : nodeB s = false) : s ≠ ⟨#[78, 0]⟩ ∧ s ≠ ⟨#[78, 1]⟩ := by
  have h0 : nodeB ⟨#[78, 0]⟩ = true := by kernel_rfl
  have h1 : nodeB ⟨#[78, 1]⟩ = true := by kernel_rfl
  exact ⟨fun e => by rw [e, h0] at h; (cases h), fun e => by rw [e, h1] at h; (cases h)⟩
theorem aff_no {s : ByteArray} (h : affB s = false) : s ≠ ⟨#[65, 1]⟩ ∧ s ≠ ⟨#[65, 2]⟩ ∧ s ≠ ⟨#[65, 3]⟩ := by
  have h1 : affB ⟨#[65, 1]⟩ = true := by kernel_rfl
  have h2 : affB ⟨#[65, 2]⟩ = true := by kernel_rfl
  have h3 : affB ⟨#[65, 3]⟩ = true := by kernel_rfl
  exact ⟨fun e => by rw [e, h1] at h; (cases h), fun e => by rw [e, h2] at h; (cases h), fun e => by rw [e, h3] at h; (cases h)⟩
theorem v1_bd (s : ByteArray) : 0 ≤ (v1 s).1 ∧ (v1 s).1 ≤ 255 := by
  have h := rdU_bd (some (strI (rest s pN))) (okB_strI _) 1 (by decide)
  have e1 : (256 : Int) ^ (1 : Int).toNat = 256 := by decide
  rw [e1] at h
  exact ⟨h.1, Int.le_of_lt_add_one h.2.1⟩
theorem a1_bd (s : ByteArray) : 0 ≤ (a1 s).1 ∧ (a1 s).1 ≤ 255 := by
  have h := rdU_bd (some (strI (rest s pA))) (okB_strI _) 1 (by decide)
  have e1 : (256 : Int) ^ (1 : Int).toNat = 256 := by decide
  rw [e1] at h
  exact ⟨h.1, Int.le_of_lt_add_one h.2.1⟩
end Go.Proofs.Ytcfmknocpjjklaa
