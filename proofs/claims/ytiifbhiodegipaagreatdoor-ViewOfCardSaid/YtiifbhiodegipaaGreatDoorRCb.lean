/- Joined: RcMath RcNode RcRefs. -/
import Derived.Test.YtiifbhiodegipaaGreatDoorSq
import Derived.Test.YtiifbhiodegipaaGreatDoorRCa
import Derived.Deep.RegionHeld3
namespace Go.Proofs.YtiifbhiodegipaaGreatDoor.RC
section
open Go.RowKit
theorem numBytes_add (m c : Int) (n : Nat) : ∀ k, k ≤ n → numBytes (m + c * 256 ^ n) k = numBytes m k
  | 0, _ => rfl
  | k + 1, h => by
    have ih := numBytes_add m c n k (by omega)
    have e : (256 : Int) ^ n = 256 ^ (n - k - 1) * 256 * 256 ^ k := by
      rw [← Int.pow_succ, ← Int.pow_add]; congr 1; omega
    have h2 : (m + c * 256 ^ n) / 256 ^ k % 256 = m / 256 ^ k % 256 := by
      rw [e, ← Int.mul_assoc, Int.add_mul_ediv_right _ _ (Int.ne_of_gt (Int.pow_pos (by omega))), ← Int.mul_assoc, Int.add_mul_emod_self_right]
    show _ :: _ = _ :: _
    rw [h2, ih]
theorem numBE_fold : ∀ (l : List Int) (a : Int), l.foldl (fun n c => n * 256 + c) a = a * 256 ^ l.length + numBE l
  | [], a => by simp [numBE]
  | c :: l, a => by
    have h1 := numBE_fold l (a * 256 + c)
    have h2 := numBE_fold l (0 * 256 + c)
    have h3 : numBE (c :: l) = l.foldl (fun n c => n * 256 + c) (0 * 256 + c) := rfl
    rw [List.foldl_cons, h1, h3, h2, List.length_cons, Int.pow_succ]
    grind
theorem numBytes_back : ∀ l : List Int, okB l → numBytes (numBE l) l.length = l
  | [], _ => rfl
  | c :: l, h => by
    have hc := h c (by simp)
    have hl : okB l := fun x hx => h x (by simp [hx])
    have ih := numBytes_back l hl
    have e : numBE (c :: l) = numBE l + c * 256 ^ l.length := by
      have := numBE_fold l (0 * 256 + c)
      show l.foldl (fun n c => n * 256 + c) (0 * 256 + c) = _
      rw [this]; grind
    obtain ⟨b0, b1⟩ := numBE_bd l hl
    rw [e, List.length_cons]
    show (numBE l + c * 256 ^ l.length) / 256 ^ l.length % 256 :: numBytes (numBE l + c * 256 ^ l.length) l.length = c :: l
    rw [numBytes_add _ _ _ _ (Nat.le_refl _), ih, Int.add_mul_ediv_right _ _ (Int.ne_of_gt (Int.pow_pos (by omega))), Int.ediv_eq_zero_of_lt b0 b1]
    congr 1
    omega
theorem rdB_back {st : Option (List Int)} {n : Int} {l' : List Int} (h : (rdB st n).2 = some l') : ∃ l, st = some l ∧ l = (rdB st n).1 ++ l' ∧ ((rdB st n).1.length : Int) = n := by
  cases st with
  | none => cases h
  | some l =>
    refine ⟨l, rfl, ?_⟩
    by_cases hc : 0 ≤ n ∧ n ≤ l.length
    · have e : rdB (some l) n = (l.take n.toNat, some (l.drop n.toNat)) := by unfold rdB; exact if_pos hc
      rw [e] at h ⊢
      obtain rfl := Option.some.inj h
      refine ⟨(List.take_append_drop _ _).symm, ?_⟩
      rw [List.length_take]
      omega
    · have e : rdB (some l) n = ([], none) := by unfold rdB; exact if_neg hc
      rw [e] at h
      cases h
theorem rdU_back {st : Option (List Int)} {k : Int} {l' : List Int} (hok : okB (st.getD [])) (h : (rdU st k).2 = some l') (hk : wOk k = true) : ∃ l, st = some l ∧ l = putL (rdU st k).1 k ++ l' ∧ okB l' ∧ 0 ≤ (rdU st k).1 ∧ (rdU st k).1 < 256 ^ k.toNat := by
  unfold rdU at h ⊢
  rw [if_pos hk] at h ⊢
  obtain ⟨l, rfl, e, hn⟩ := rdB_back h
  have ho := rdB_ok hok k
  have ho' : okB l' := fun x hx => hok x (by show x ∈ l; rw [e]; exact List.mem_append_right _ hx)
  have hb := numBE_bd _ ho
  have hlen : (rdB (some l) k).1.length = k.toNat := by omega
  refine ⟨l, rfl, ?_, ho', hb.1, by rw [← hlen]; exact hb.2⟩
  unfold putL
  rw [if_pos hk, ← hlen, numBytes_back _ ho]
  exact e
theorem strNums_size (l : List Int) : (strOfNums l).size = l.length := by
  unfold strOfNums ByteArray.size
  simp

theorem strOfNums_append (a b : List Int) : strOfNums (a ++ b) = strOfNums a ++ strOfNums b := by
  apply ByteArray.ext
  simp [strOfNums]
theorem strOf_strI (s : ByteArray) : strOfNums (strI s) = s := by
  apply ByteArray.ext
  unfold strOfNums strI
  simp only [List.map_map]
  rw [show ((fun n : Int => UInt8.ofNat n.toNat) ∘ fun b : UInt8 => (b.toNat : Int)) = id from funext fun b => by simp]
  simp
theorem rd_ahead (a b : List Int) : rdB (some (a ++ b)) a.length = (a, some b) := by
  rw [rdB_yes (by simp)]
  simp
theorem rd_put {n k : Int} (b : List Int) (hk : wOk k = true) : rdU (some (putL n k ++ b)) k = (numBE (putL n k), some b) := by
  have e : (putL n k).length = k.toNat := by unfold putL; rw [if_pos hk, numBytes_length]
  have h1 := of_decide_eq_true hk
  unfold rdU
  have h2 := rd_ahead (putL n k) b
  rw [e, show ((k.toNat : Nat) : Int) = k from by omega] at h2
  rw [if_pos hk, h2]

theorem numBE_put4' {n : Int} (h : 0 ≤ n ∧ n < 4294967296) : numBE (putL n 4) = n := by
  show numBE (numBytes n 4) = n
  simp only [numBytes, numBE, List.foldl_cons, List.foldl_nil]
  simp
  omega
theorem doneB_some {st : Option (List Int)} (h : doneB st = true) : st = some [] := by
  unfold doneB at h
  cases st with
  | none => cases h
  | some l =>
    cases l with
    | nil => rfl
    | cons a t =>
      simp at h
      omega
theorem flag_back {x : Int} (h0 : 0 ≤ x) (h1 : x ≤ 1) : flagI (x == 1) = x := by
  rcases (show x = 0 ∨ x = 1 by omega) with rfl | rfl <;> rfl
theorem strI_cons {s : ByteArray} {c : UInt8} (h : starts s ⟨#[c]⟩ = true) : strI s = (c.toNat : Int) :: strI (rest s ⟨#[c]⟩) := by
  have h1 : Lib.hasPrefix s.data.toList [c] = true := h
  obtain ⟨t, ht⟩ := List.isPrefixOf_iff_prefix.1 (show [c].isPrefixOf s.data.toList = true from h1)
  have h2 : (rest s ⟨#[c]⟩).data.toList = t := by
    show Lib.trimPrefix s.data.toList [c] = t
    unfold Lib.trimPrefix
    rw [if_pos h1, ← ht]
    rfl
  unfold strI
  rw [h2, ← ht]
  rfl
theorem str_eq {s : ByteArray} {l : List Int} (h : strI s = l) : strOfNums l = s := by rw [← h, strOf_strI]
theorem wOk1 : wOk 1 = true := rfl
theorem wOk4 : wOk 4 = true := rfl
theorem poolB_back {s : ByteArray} (h : poolB s = true) : rightB (u1 s).1 (u2 s).1 = true ∧ strOfNums (poolL (u1 s).1 (u2 s).1 ((u3 s).1 == 1)) = s := by
  unfold poolB at h
  simp only [Bool.and_eq_true, decide_eq_true_eq] at h
  obtain ⟨hs, h3, hd, hr⟩ := h
  refine ⟨hr, str_eq ?_⟩
  have e := doneB_some hd
  have ok0 : okB ((some (strI (rest s pP)) : Option (List Int)).getD []) := okB_strI _
  have ok1 : okB ((u1 s).2.getD []) := (rdU_bd _ ok0 4 (by decide)).2.2
  have ok2 : okB ((u2 s).2.getD []) := (rdU_bd _ ok1 1 (by decide)).2.2
  obtain ⟨l2, e2, f2, _, b30, _⟩ := rdU_back (st := (u2 s).2) (k := 1) ok2 e wOk1
  obtain ⟨l1, e1, f1, _, b20, b21⟩ := rdU_back (st := (u1 s).2) (k := 1) ok1 e2 wOk1
  obtain ⟨l0, e0, f0, _, _, _⟩ := rdU_back (st := some (strI (rest s pP))) (k := 4) ok0 e1 wOk4
  have b21' : (rdU (u1 s).2 1).1 < 256 := b21
  have hp2 : putL (rdU (u1 s).2 1).1 1 = [(u2 s).1] := putL_small _ b20 (by omega)
  have hp3 : putL (rdU (u2 s).2 1).1 1 = [(u3 s).1] := putL_small _ b30 (by have h3' : (rdU (u2 s).2 1).1 ≤ 1 := h3; omega)
  rw [hp2] at f1
  rw [hp3, List.append_nil] at f2
  have h0 : strI (rest s pP) = putL (u1 s).1 4 ++ ([(u2 s).1] ++ [(u3 s).1]) := by
    rw [Option.some.inj e0, f0, f1, f2]; rfl
  have b30' : 0 ≤ (u3 s).1 := b30
  rw [strI_cons hs, h0]
  unfold poolL
  rw [flag_back b30' h3]
  simp
theorem poolB_put {a b : Int} {o : Bool} (hr : rightB a b = true) (ha : 0 ≤ a) (ha' : a < 4294967296) (hs : starts (strOfNums (poolL a b o)) pP = true ∧ strI (rest (strOfNums (poolL a b o)) pP) = putL a 4 ++ [b] ++ [flagI o]) :
    poolB (strOfNums (poolL a b o)) = true ∧ (u1 (strOfNums (poolL a b o))).1 = a ∧ (u2 (strOfNums (poolL a b o))).1 = b ∧ ((u3 (strOfNums (poolL a b o))).1 == 1) = o := by
  obtain ⟨h1, h2⟩ := hs
  have hbb : 16 ≤ b ∧ b ≤ 26 := by
    unfold rightB at hr
    simp only [Bool.and_eq_true, decide_eq_true_eq] at hr
    exact hr.2
  have hf : 0 ≤ flagI o ∧ flagI o ≤ 1 := by cases o <;> decide
  have e1 : u1 (strOfNums (poolL a b o)) = (a, some ([b] ++ [flagI o])) := by
    unfold u1
    rw [h2, List.append_assoc, rd_put _ wOk4, numBE_put4' ⟨ha, ha'⟩]
  have e2 : u2 (strOfNums (poolL a b o)) = (b, some [flagI o]) := by
    unfold u2
    rw [e1]
    have h := rd_put (n := b) [flagI o] wOk1
    rw [putL_small b (by omega) (by omega)] at h
    simp only []
    rw [h]
    simp [numBE]
  have e3 : u3 (strOfNums (poolL a b o)) = (flagI o, some []) := by
    unfold u3
    rw [e2]
    have h := rd_put (n := flagI o) [] wOk1
    rw [putL_small (flagI o) hf.1 (by omega)] at h
    simp only []
    rw [List.append_nil] at h
    rw [h]
    simp [numBE]
  refine ⟨?_, by rw [e1], by rw [e2], by rw [e3]; cases o <;> rfl⟩
  unfold poolB
  rw [h1, e3, e1, e2]
  simp only []
  rw [hr, decide_eq_true hf.2]
  rfl
theorem starts_cons (c : Int) (hc : 0 ≤ c ∧ c ≤ 255) (l : List Int) (hl : okB l) : starts (strOfNums (c :: l)) ⟨#[UInt8.ofNat c.toNat]⟩ = true ∧ strI (rest (strOfNums (c :: l)) ⟨#[UInt8.ofNat c.toNat]⟩) = l := by
  have hd : (strOfNums (c :: l)).data.toList = UInt8.ofNat c.toNat :: l.map (fun n => UInt8.ofNat n.toNat) := rfl
  have h1 : Lib.hasPrefix (strOfNums (c :: l)).data.toList [UInt8.ofNat c.toNat] = true := by
    unfold Lib.hasPrefix
    rw [hd]
    simp
  refine ⟨h1, ?_⟩
  have h2 : (rest (strOfNums (c :: l)) ⟨#[UInt8.ofNat c.toNat]⟩).data.toList = l.map (fun n => UInt8.ofNat n.toNat) := by
    show Lib.trimPrefix (strOfNums (c :: l)).data.toList [UInt8.ofNat c.toNat] = _
    unfold Lib.trimPrefix
    rw [if_pos h1, hd]
    rfl
  unfold strI
  rw [h2, List.map_map]
  have h3 : ∀ x ∈ l, ((fun b : UInt8 => (b.toNat : Int)) ∘ fun n : Int => UInt8.ofNat n.toNat) x = x := fun x hx => by
    have := hl x hx
    simp
    omega
  rw [List.map_congr_left h3, List.map_id']
theorem okB_flag (o : Bool) : okB [flagI o] := by cases o <;> (intro x hx; simp [flagI] at hx; omega)
theorem okB_app {a b : List Int} (ha : okB a) (hb : okB b) : okB (a ++ b) := fun x hx => (List.mem_append.1 hx).elim (ha x) (hb x)
theorem okB_numB (n : Int) : ∀ k, okB (numBytes n k)
  | 0 => fun x hx => by cases hx
  | k + 1 => fun x hx => by
    rcases List.mem_cons.1 hx with rfl | hx
    · omega
    · exact okB_numB n k x hx
theorem okB_putL (n k : Int) : okB (putL n k) := by
  unfold putL
  split
  · exact okB_numB _ _
  · intro x hx; cases hx
theorem poolB_of {a b : Int} {o : Bool} (hr : rightB a b = true) (ha : 0 ≤ a) (ha' : a < 4294967296) :
    poolB (strOfNums (poolL a b o)) = true ∧ (u1 (strOfNums (poolL a b o))).1 = a ∧ (u2 (strOfNums (poolL a b o))).1 = b ∧ ((u3 (strOfNums (poolL a b o))).1 == 1) = o := by
  have hbb : 16 ≤ b ∧ b ≤ 26 := by
    unfold rightB at hr
    simp only [Bool.and_eq_true, decide_eq_true_eq] at hr
    exact hr.2
  exact poolB_put hr ha ha' (starts_cons 80 (by decide) (putL a 4 ++ [b] ++ [flagI o]) (okB_app (okB_app (okB_putL _ _) (fun x hx => by simp at hx; omega)) (okB_flag o)))
def v1 (s : ByteArray) : Int × Option (List Int) := rdU (some (strI (rest s pN))) 1
def a1 (s : ByteArray) : Int × Option (List Int) := rdU (some (strI (rest s pA))) 1
def nodeB (s : ByteArray) : Bool := starts s pN && (decide ((v1 s).1 ≤ 1) && doneB (v1 s).2)
def affB (s : ByteArray) : Bool := starts s pA && (doneB (a1 s).2 && stB (a1 s).1)
theorem nodeB_back {s : ByteArray} (h : nodeB s = true) : strOfNums [78, flagI ((v1 s).1 == 1)] = s := by
  unfold nodeB at h
  simp only [Bool.and_eq_true, decide_eq_true_eq] at h
  obtain ⟨hs, h3, hd⟩ := h
  apply str_eq
  have e := doneB_some hd
  have ok0 : okB ((some (strI (rest s pN)) : Option (List Int)).getD []) := okB_strI _
  obtain ⟨l0, e0, f0, _, b0, _⟩ := rdU_back (st := some (strI (rest s pN))) (k := 1) ok0 e wOk1
  have hp : putL (rdU (some (strI (rest s pN))) 1).1 1 = [(v1 s).1] := putL_small _ b0 (by have h3' : (rdU (some (strI (rest s pN))) 1).1 ≤ 1 := h3; omega)
  rw [hp, List.append_nil] at f0
  have b0' : 0 ≤ (v1 s).1 := b0
  rw [strI_cons hs, Option.some.inj e0, f0, flag_back b0' h3]
  rfl
theorem affB_back {s : ByteArray} (h : affB s = true) : stB (a1 s).1 = true ∧ strOfNums [65, (a1 s).1] = s := by
  unfold affB at h
  simp only [Bool.and_eq_true] at h
  obtain ⟨hs, hd, ht⟩ := h
  refine ⟨ht, str_eq ?_⟩
  have e := doneB_some hd
  have ok0 : okB ((some (strI (rest s pA)) : Option (List Int)).getD []) := okB_strI _
  obtain ⟨l0, e0, f0, _, b0, _⟩ := rdU_back (st := some (strI (rest s pA))) (k := 1) ok0 e wOk1
  have h3 : 1 ≤ (rdU (some (strI (rest s pA))) 1).1 ∧ (rdU (some (strI (rest s pA))) 1).1 ≤ 3 := of_decide_eq_true ht
  have hp : putL (rdU (some (strI (rest s pA))) 1).1 1 = [(a1 s).1] := putL_small _ b0 (by omega)
  rw [hp, List.append_nil] at f0
  rw [strI_cons hs, Option.some.inj e0, f0]
  rfl
theorem node_no {s : ByteArray} (h : nodeB s = false) : s ≠ ⟨#[78, 0]⟩ ∧ s ≠ ⟨#[78, 1]⟩ := by
  have h0 : nodeB ⟨#[78, 0]⟩ = true := by kernel_rfl
  have h1 : nodeB ⟨#[78, 1]⟩ = true := by kernel_rfl
  exact ⟨fun e => by rw [e, h0] at h; (cases h), fun e => by rw [e, h1] at h; (cases h)⟩
theorem aff_no {s : ByteArray} (h : affB s = false) : s ≠ ⟨#[65, 1]⟩ ∧ s ≠ ⟨#[65, 2]⟩ ∧ s ≠ ⟨#[65, 3]⟩ := by
  have h1 : affB ⟨#[65, 1]⟩ = true := by kernel_rfl
  have h2 : affB ⟨#[65, 2]⟩ = true := by kernel_rfl
  have h3 : affB ⟨#[65, 3]⟩ = true := by kernel_rfl
  exact ⟨fun e => by rw [e, h1] at h; (cases h), fun e => by rw [e, h2] at h; (cases h), fun e => by rw [e, h3] at h; (cases h)⟩
theorem a1_bd (s : ByteArray) : 0 ≤ (a1 s).1 ∧ (a1 s).1 ≤ 255 := by
  have h := rdU_bd (some (strI (rest s pA))) (okB_strI _) 1 (by decide)
  have e1 : (256 : Int) ^ (1 : Int).toNat = 256 := by decide
  rw [e1] at h
  exact ⟨h.1, Int.le_of_lt_add_one h.2.1⟩
end
section
open Go.RowKit
set_option maxRecDepth 100000 in
set_option maxHeartbeats 4000000 in
theorem readNode_any (s : ByteArray) (w : World) (hs : s.size ≤ 1000) :
    Calls Tryz.prog 98 #[.string s] w fun e w' => e = .returned (if nodeB s = true then .tuple #[.bool ((v1 s).1 == 1), .int .i64 0] else .tuple #[.bool false, .int .i64 3]) ∧ Below w.heap.size w w' := by
  have HB := Lib.hid (fun w => behind_any pN s hs w)
  have HF : Hid (∀ g w, RdP g g (some (strI (rest s pN))) w → Calls Tryz.prog 122 #[.pointer (some ⟨g, 0, none⟩)] w fun e w' => e = .returned (.tuple #[.bool ((v1 s).1 == 1), .bool (decide ((v1 s).1 ≤ 1))]) ∧ RdP g g (v1 s).2 w' ∧ w.grownBy w' (some g)) := Lib.hid (fun g w h => readFlag_any g g _ w h)
  have HD : Hid (∀ g w, RdP g g (v1 s).2 w → Calls Tryz.prog 123 #[.pointer (some ⟨g, 0, none⟩)] w fun e w' => e = .returned (.bool (doneB (v1 s).2)) ∧ w = w') := Lib.hid (fun g w h => done_any g g _ w h)
  have hn : nodeB s = (starts s pN && (decide ((v1 s).1 ≤ 1) && doneB (v1 s).2)) := rfl
  rw [hn]
  generalize ((v1 s).1 == 1) = o at *
  generalize decide ((v1 s).1 ≤ 1) = F at *
  generalize doneB (v1 s).2 = D at *
  generalize starts s pN = S at *
  generalize hRV : (if (S && (F && D)) = true then (.tuple #[.bool o, .int .i64 0] : Value) else .tuple #[.bool false, .int .i64 3]) = RV
  have HV := Lib.hid hRV.symm
  clear hn hRV
  go_enter Tryz.func98, Tryz.ntmps98
  go_wp2_with fail
  refine (HB.out _).mono ?_; rintro e w1 ⟨g, rfl, hR1, hg1, hb1⟩
  go_wp2_with fail
  refine (HF.out _ _ hR1).mono ?_; rintro e w2 ⟨rfl, hR2, hg2⟩
  have hB2 : Below w.heap.size w w2 := below_grown hb1 hg2 hg1
  go_upto_region 3 with fail
  cases S with
  | false =>
    go_wp2_with fail
    go_ret2
    exact ⟨by rw [HV.out]; simp, hB2⟩
  | true =>
    cases F with
    | false =>
      go_wp2_with fail
      go_ret2
      exact ⟨by rw [HV.out]; simp, hB2⟩
    | true =>
      cases D with
      | false =>
        go_wp2_with fail
        refine (HD.out _ _ hR2).mono ?_; rintro e w3 ⟨rfl, rfl⟩
        go_wp2_with fail
        go_ret2
        exact ⟨by rw [HV.out]; simp, hB2⟩
      | true =>
        go_wp2_with fail
        refine (HD.out _ _ hR2).mono ?_; rintro e w3 ⟨rfl, rfl⟩
        go_wp2_with fail
        go_ret2
        exact ⟨by rw [HV.out]; simp, hB2⟩
set_option maxRecDepth 100000 in
set_option maxHeartbeats 4000000 in
theorem readAff_any (s : ByteArray) (w : World) (hs : s.size ≤ 1000) :
    Calls Tryz.prog 94 #[.string s] w fun e w' => e = .returned (if affB s = true then .tuple #[.int .i64 (a1 s).1, .int .i64 0] else .tuple #[.int .i64 0, .int .i64 3]) ∧ Below w.heap.size w w' := by
  obtain ⟨b0, b1⟩ := a1_bd s
  have HB := Lib.hid (fun w => behind_any pA s hs w)
  have HU : Hid (∀ g w, RdP g g (some (strI (rest s pA))) w → Calls Tryz.prog 121 #[.pointer (some ⟨g, 0, none⟩), .int .i64 1] w fun e w' => e = .returned (.int .u64 (a1 s).1) ∧ RdP g g (a1 s).2 w' ∧ w.grownBy w' (some g)) := Lib.hid (fun g w h => u_any g g _ 1 w h)
  have HD : Hid (∀ g w, RdP g g (a1 s).2 w → Calls Tryz.prog 123 #[.pointer (some ⟨g, 0, none⟩)] w fun e w' => e = .returned (.bool (doneB (a1 s).2)) ∧ w = w') := Lib.hid (fun g w h => done_any g g _ w h)
  have HM : Hid (∀ w, Calls Tryz.prog 132 #[.int .i64 (a1 s).1] w fun e w' => e = .returned (.bool (stB (a1 s).1)) ∧ w = w') := Lib.hid (fun w => mayStand_any _ w)
  have hn : affB s = (starts s pA && (doneB (a1 s).2 && stB (a1 s).1)) := rfl
  rw [hn]
  generalize stB (a1 s).1 = F at *
  generalize doneB (a1 s).2 = D at *
  generalize starts s pA = S at *
  generalize (a1 s).1 = x at *
  generalize hRV : (if (S && (D && F)) = true then (.tuple #[.int .i64 x, .int .i64 0] : Value) else .tuple #[.int .i64 0, .int .i64 3]) = RV
  have HV := Lib.hid hRV.symm
  clear hn hRV
  go_enter Tryz.func94, Tryz.ntmps94
  go_wp2_with fail
  refine (HB.out _).mono ?_; rintro e w1 ⟨g, rfl, hR1, hg1, hb1⟩
  go_wp2_with fail
  refine (HU.out _ _ hR1).mono ?_; rintro e w2 ⟨rfl, hR2, hg2⟩
  have hB2 : Below w.heap.size w w2 := below_grown hb1 hg2 hg1
  go_upto_region 3 with fail
  cases S with
  | false =>
    go_wp2_with fail
    go_ret2
    exact ⟨by rw [HV.out]; simp, hB2⟩
  | true =>
    cases D with
    | false =>
      go_wp2_with fail
      refine (HD.out _ _ hR2).mono ?_; rintro e w3 ⟨rfl, rfl⟩
      go_wp2_with fail
      go_ret2
      exact ⟨by rw [HV.out]; simp, hB2⟩
    | true =>
      cases F with
      | false =>
        go_wp2_with fail
        refine (HD.out _ _ hR2).mono ?_; rintro e w3 ⟨rfl, rfl⟩
        go_wp2_with fail
        refine (HM.out _).mono ?_; rintro e w4 ⟨rfl, rfl⟩
        go_wp2_with fail
        go_ret2
        exact ⟨by rw [HV.out]; simp, hB2⟩
      | true =>
        go_wp2_with fail
        refine (HD.out _ _ hR2).mono ?_; rintro e w3 ⟨rfl, rfl⟩
        go_wp2_with fail
        refine (HM.out _).mono ?_; rintro e w4 ⟨rfl, rfl⟩
        go_wp2_with fail
        go_ret2
        exact ⟨by rw [HV.out]; simp, hB2⟩
theorem node_str (o : Bool) : strOfNums [78, flagI o] = if o = true then ⟨#[78, 1]⟩ else ⟨#[78, 0]⟩ := by cases o <;> rfl
end
section
open Go.RowKit
theorem wpAnyH_mono {P : Program} {ops : Array Oper} {Q : Exit → Act → World → Prop} {md : Region.Mode} {S S' : World → Prop} (hS : ∀ w, S' w → S w) :
    ∀ (fuel : Nat) (listed : Array Bool) (a : Act) (w : World), wpAnyH P md ops Q S' fuel listed a w → wpAnyH P md ops Q S fuel listed a w
  | 0, _, _, _, h => h
  | fuel + 1, _, _, _, h => ⟨h.1, fun i hi => wpOp_mono (fun a' w' h' => ⟨hS _ h'.1, wpAnyH_mono hS fuel _ a' w' h'.2⟩) (h.2 i hi)⟩
theorem bcell {w W : World} {a : Addr} {v : Value} (hb : Below w.heap.size w W) (h : w.cell? a = some v) : W.cell? a = some v := by
  have hl : a.block < w.heap.size := cell_lt8 h
  rw [hb.cell (p := a) hl]; exact h
theorem one_sees0 (w : World) (c : Int) : Sees (w.alloc (.cells #[.int .u8 c] 5)) (.slice (some ⟨w.heap.size, 0, none⟩) 1 1) [c] := by
  refine ⟨some ⟨w.heap.size, 0, none⟩, 1, rfl, Nat.le_refl _, (fun h => by cases h), fun a ha i hi => ?_⟩
  cases ha
  rw [add0]
  match i, hi with
  | 0, _ => simp
  | i + 1, hi => exact absurd hi (by simp)
theorem plain13_any (a b : Int) (o : Bool) (w : World) :
    Calls Tryz.prog 23 #[.agg #[.int .u32 a, .int .i64 b, .bool o]] w fun e w' => e = .returned (.agg #[.int .u32 a, .int .i64 b, .bool o]) ∧ Below w.heap.size w w' := by
  go_enter Tryz.func23, Tryz.ntmps23
  go_wp2_with fail
  refine bodyPost_ret (v := .agg #[.int .u32 a, .int .i64 b, .bool o]) (by simp [results, Tryz.results23, go_sem]) rfl ⟨rfl, ?_⟩
  exact belAlloc (belNew _ _) _
set_option maxHeartbeats 4000000 in
theorem refRight13_any (a b : Int) (o : Bool) (ha : 0 ≤ a) (ha' : a < 4294967296) (hb : -9223372036854775808 ≤ b) (hb' : b ≤ 9223372036854775807) (w : World) :
    Calls Tryz.prog 48 #[.agg #[.int .u32 a, .int .i64 b, .bool o]] w fun e w' => e = .returned (.bool (rightB a b)) ∧ Below w.heap.size w w' := by
  have HM := Lib.hid (fun w => refMay_any a b ha ha' hb hb' w)
  have hc := Cell3.new w a b o 45
  have hb0 := belNew w (poolO a b o 45)
  cases hm : mayB a b with
  | false =>
    have hv : rightB a b = false := by unfold rightB; rw [hm]; rfl
    rw [hv]; rw [hm] at HM
    clear hv hm
    go_enter Tryz.func48, Tryz.ntmps48
    obtain ⟨c0, c1, c2, c3⟩ := id hc
    go_wp2_with fail
    refine (HM.out _).mono ?_; rintro e w1 ⟨rfl, hb1⟩
    go_wp2_with fail
    go_ret
    exact ⟨rfl, bel hb0 hb1⟩
  | true =>
    rw [rightB_of hm]; rw [hm] at HM
    clear hm
    by_cases h1 : 16 ≤ b
    · have d1 : decide (16 ≤ b) = true := decide_eq_true h1
      have hv : (decide (16 ≤ b) && decide (b ≤ 26)) = decide (b ≤ 26) := by rw [d1]; rfl
      rw [hv]; clear hv
      generalize hq : decide (b ≤ 26) = q
      go_enter Tryz.func48, Tryz.ntmps48
      obtain ⟨c0, c1, c2, c3⟩ := id hc
      go_wp2_with fail
      refine (HM.out _).mono ?_; rintro e w1 ⟨rfl, hb1⟩
      obtain ⟨x0, x1, x2, x3⟩ := hc.keep hb1
      go_wp2_with fail
      go_ret
      exact ⟨rfl, bel hb0 hb1⟩
    · have d1 : decide (16 ≤ b) = false := decide_eq_false h1
      have hv : (decide (16 ≤ b) && decide (b ≤ 26)) = false := by rw [d1]; rfl
      rw [hv]; clear hv
      go_enter Tryz.func48, Tryz.ntmps48
      obtain ⟨c0, c1, c2, c3⟩ := id hc
      go_wp2_with fail
      refine (HM.out _).mono ?_; rintro e w1 ⟨rfl, hb1⟩
      obtain ⟨x0, x1, x2, x3⟩ := hc.keep hb1
      go_wp2_with fail
      go_ret
      exact ⟨rfl, bel hb0 hb1⟩
theorem poolL_str (a b : Int) (o : Bool) : strOfNums (poolL a b o) = ⟨#[80]⟩ ++ strOfNums (putL a 4) ++ strOfNums [b] ++ strOfNums [flagI o] := by
  have h : poolL a b o = [80] ++ putL a 4 ++ [b] ++ [flagI o] := rfl
  rw [h, strOfNums_append, strOfNums_append, strOfNums_append]
  rfl
set_option maxRecDepth 100000 in
set_option maxHeartbeats 8000000 in
theorem refPut13_any (a b : Int) (o : Bool) (ha : 0 ≤ a) (ha' : a < 4294967296) (hb : 0 ≤ b) (hb' : b ≤ 255) (w : World) :
    Calls Tryz.prog 49 #[.agg #[.int .u32 a, .int .i64 b, .bool o]] w fun e w' => e = .returned (.string (strOfNums (poolL a b o))) ∧ Below w.heap.size w w' := by
  have HE := Lib.hid (poolL_str a b o)
  have m1 : b % 256 = b := Int.emod_eq_of_lt hb (by omega)
  have m2 : a % 18446744073709551616 = a := Int.emod_eq_of_lt (by omega) (by omega)
  have hl4 := putL_length a 4
  clear m1 m2
  have HZ : Hid ((strOfNums (putL a 4)).size ≤ 8 ∧ (strOfNums [b]).size = 1 ∧ (putL a 4).length ≤ 8) := Lib.hid ⟨by rw [strNums_size]; exact hl4, rfl, hl4⟩
  obtain ⟨w0, hw0⟩ : ∃ w0, w0 = w.alloc (poolO a b o 45) := ⟨_, rfl⟩
  have hc : Cell3 w.heap.size a b o w0 := by rw [hw0]; exact Cell3.new w a b o _
  have HB : Hid (Below w.heap.size w w0) := Lib.hid (by rw [hw0]; exact belNew _ _)
  have HW := Lib.hid hw0
  clear hw0 hl4
  have hwa : IntKind.u64.wrap a = a := IntWalk.u64_in _ (by omega)
  have hwb : IntKind.u8.wrap b = b := IntWalk.u8_in _ (by omega)
  obtain ⟨c0, c1, c2, c3⟩ := hc
  cases o with
  | false =>
    go_enter Tryz.func49, Tryz.ntmps49
    go_upto_region 1 with fail
    change Code.wp _ _ _ _ (w.alloc (poolO a b false 45))
    rw [← HW.out]
    go_upto_region 4 with fail
    refine wp_region_held_drew (S := (fun W => Below w0.heap.size w0 W)) (by kernel_rfl) ?_ (fun r0 => ?_)
    · exact ⟨rfl, rfl, rfl, Nat.le_refl _, fun _ _ => rfl⟩
    refine wpAnyH_take (i := 0) (v := ?_) rfl (by kernel_rfl) (by kernel_rfl) (by kernel_rfl) (fun _ _ _ h => h) (Or.inl ⟨by rfl, ?_⟩) (by assumption) ?_
    rotate_left
    · intro wS hSw
      (try dsimp only at hSw)
      go_simp
      first | done | with_reducible rfl
    try simp only [Act.put, List.getElem_toArray, List.getElem_cons_succ, List.getElem_cons_zero, List.setIfInBounds_toArray, List.set_cons_zero, List.set_cons_succ]
    refine wpAnyH_take (i := 1) (v := ?_) rfl (by kernel_rfl) (by kernel_rfl) (by kernel_rfl) (fun _ _ _ h => h) (Or.inl ⟨by rfl, ?_⟩) (by assumption) ?_
    rotate_left
    · intro wS hSw
      (try dsimp only at hSw)
      go_simp
      first | done | with_reducible rfl
    try simp only [Act.put, List.getElem_toArray, List.getElem_cons_succ, List.getElem_cons_zero, List.setIfInBounds_toArray, List.set_cons_zero, List.set_cons_succ]
    refine wpAnyH_take (i := 2) (v := ?_) rfl (by kernel_rfl) (by kernel_rfl) (by kernel_rfl) (fun _ _ _ h => h) (Or.inl ⟨by rfl, ?_⟩) (by assumption) ?_
    rotate_left
    · intro wS hSw
      (try dsimp only at hSw)
      have c0 := bcell (hSw) c0
      have c1 := bcell (hSw) c1
      have c2 := bcell (hSw) c2
      go_simp
      first | done | with_reducible rfl
    try simp only [Act.put, List.getElem_toArray, List.getElem_cons_succ, List.getElem_cons_zero, List.setIfInBounds_toArray, List.set_cons_zero, List.set_cons_succ]
    refine wpAnyH_take (i := 3) (v := ?_) rfl (by kernel_rfl) (by kernel_rfl) (by kernel_rfl) (fun _ _ _ h => h) (Or.inl ⟨by rfl, ?_⟩) (by assumption) ?_
    rotate_left
    · intro wS hSw
      (try dsimp only at hSw)
      go_simp
      first | done | with_reducible rfl
    try simp only [Act.put, List.getElem_toArray, List.getElem_cons_succ, List.getElem_cons_zero, List.setIfInBounds_toArray, List.set_cons_zero, List.set_cons_succ]
    refine wpAnyH_take (i := 7) (v := ?_) rfl (by kernel_rfl) (by kernel_rfl) (by kernel_rfl) (fun _ _ _ h => h) (Or.inl ⟨by rfl, ?_⟩) (by assumption) ?_
    rotate_left
    · intro wS hSw
      (try dsimp only at hSw)
      go_simp
      first | done | with_reducible rfl
    try simp only [Act.put, List.getElem_toArray, List.getElem_cons_succ, List.getElem_cons_zero, List.setIfInBounds_toArray, List.set_cons_zero, List.set_cons_succ]
    refine wpAnyH_take (i := 8) (v := ?_) rfl (by kernel_rfl) (by kernel_rfl) (by kernel_rfl) (fun _ _ _ h => h) (Or.inl ⟨by rfl, ?_⟩) (by assumption) ?_
    rotate_left
    · intro wS hSw
      (try dsimp only at hSw)
      go_simp
      first | done | with_reducible rfl
    try simp only [Act.put, List.getElem_toArray, List.getElem_cons_succ, List.getElem_cons_zero, List.setIfInBounds_toArray, List.set_cons_zero, List.set_cons_succ]
    refine wpAnyH_take (i := 9) (v := ?_) rfl (by kernel_rfl) (by kernel_rfl) (by kernel_rfl) (fun _ _ _ h => h) (Or.inl ⟨by rfl, ?_⟩) (by assumption) ?_
    rotate_left
    · intro wS hSw
      (try dsimp only at hSw)
      have c0 := bcell (hSw) c0
      have c1 := bcell (hSw) c1
      have c2 := bcell (hSw) c2
      go_simp
      first | done | with_reducible rfl
    try simp only [Act.put, List.getElem_toArray, List.getElem_cons_succ, List.getElem_cons_zero, List.setIfInBounds_toArray, List.set_cons_zero, List.set_cons_succ]
    refine wpAnyH_take (i := 10) (v := ?_) rfl (by kernel_rfl) (by kernel_rfl) (by kernel_rfl) (fun _ _ _ h => h) (Or.inl ⟨by rfl, ?_⟩) (by assumption) ?_
    rotate_left
    · intro wS hSw
      (try dsimp only at hSw)
      go_simp
      first | done | with_reducible rfl
    try simp only [Act.put, List.getElem_toArray, List.getElem_cons_succ, List.getElem_cons_zero, List.setIfInBounds_toArray, List.set_cons_zero, List.set_cons_succ]
    refine wpAnyH_take (i := 14) (v := ?_) rfl (by kernel_rfl) (by kernel_rfl) (by kernel_rfl) (fun _ _ _ h => h) (Or.inl ⟨by rfl, ?_⟩) (by assumption) ?_
    rotate_left
    · intro wS hSw
      (try dsimp only at hSw)
      go_simp
      first | done | with_reducible rfl
    try simp only [Act.put, List.getElem_toArray, List.getElem_cons_succ, List.getElem_cons_zero, List.setIfInBounds_toArray, List.set_cons_zero, List.set_cons_succ]
    refine wpAnyH_ready (rs := [4, 11]) (by kernel_rfl) (by simp) ?_
    refine AllReadyH.cons rfl (fun K hK => ?_) (AllReadyH.cons rfl (fun K hK => ?_) AllReadyH.nil)
    · go_simp
      try rw [hwa]
      refine (refPut_any a 4 _ ha (by omega)).mono ?_; rintro e w3 ⟨v3, rfl, ho3, hb3⟩
      refine hK.out _ _ ?_ (fun r1 => ?_)
      · exact bel r0 hb3
      refine wpAnyH_mono (S' := (fun W => Below w0.heap.size w0 W ∧ Sees W v3 (putL a 4))) (fun _ h => h.1) _ _ _ _ ?_
      have r1x := And.intro r1 ho3.sees
      try simp only [Act.put, List.getElem_toArray, List.getElem_cons_succ, List.getElem_cons_zero, List.setIfInBounds_toArray, List.set_cons_zero, List.set_cons_succ]
      refine wpAnyH_take (i := 5) (v := ?_) rfl (by kernel_rfl) (by kernel_rfl) (by kernel_rfl) (fun _ _ _ h => h) (Or.inl ⟨by rfl, ?_⟩) (by assumption) ?_
      rotate_left
      · intro wS hSw
        (try dsimp only at hSw)
        have q1 := conv_sees hSw.2
        go_simp
        first | done | with_reducible rfl
      try simp only [Act.put, List.getElem_toArray, List.getElem_cons_succ, List.getElem_cons_zero, List.setIfInBounds_toArray, List.set_cons_zero, List.set_cons_succ]
      refine wpAnyH_take (i := 6) (v := ?_) rfl (by kernel_rfl) (by kernel_rfl) (by kernel_rfl) (fun _ _ _ h => h) (Or.inl ⟨by rfl, ?_⟩) (by assumption) ?_
      rotate_left
      · intro wS hSw
        (try dsimp only at hSw)
        go_simp
        rw [if_neg (by have := HZ.out; simp; omega)]
        first | done | with_reducible rfl
      try simp only [Act.put, List.getElem_toArray, List.getElem_cons_succ, List.getElem_cons_zero, List.setIfInBounds_toArray, List.set_cons_zero, List.set_cons_succ]
      refine wpAnyH_ready (rs := [11]) (by kernel_rfl) (by simp) ?_
      refine AllReadyH.cons rfl (fun K hK => ?_) AllReadyH.nil
      rw [if_pos (by kernel_rfl)]
      go_simp
      try rw [hwb]
      refine hK.out _ _ ?_ (fun r2 => ?_)
      · exact ⟨belAlloc r1x.1 _, r1x.2.keep (belNew _ _)⟩
      refine wpAnyH_mono (S' := (fun W => (Below w0.heap.size w0 W ∧ Sees W v3 (putL a 4)) ∧ Sees W (.slice (some ⟨w3.heap.size, 0, none⟩) 1 1) [b])) (fun _ h => h.1) _ _ _ _ ?_
      have r2x := And.intro r2 (one_sees0 w3 b)
      try simp only [Act.put, List.getElem_toArray, List.getElem_cons_succ, List.getElem_cons_zero, List.setIfInBounds_toArray, List.set_cons_zero, List.set_cons_succ]
      refine wpAnyH_take (i := 12) (v := ?_) rfl (by kernel_rfl) (by kernel_rfl) (by kernel_rfl) (fun _ _ _ h => h) (Or.inl ⟨by rfl, ?_⟩) (by assumption) ?_
      rotate_left
      · intro wS hSw
        (try dsimp only at hSw)
        have q1 := conv_sees hSw.2
        go_simp
        first | done | with_reducible rfl
      try simp only [Act.put, List.getElem_toArray, List.getElem_cons_succ, List.getElem_cons_zero, List.setIfInBounds_toArray, List.set_cons_zero, List.set_cons_succ]
      refine wpAnyH_take (i := 13) (v := ?_) rfl (by kernel_rfl) (by kernel_rfl) (by kernel_rfl) (fun _ _ _ h => h) (Or.inl ⟨by rfl, ?_⟩) (by assumption) ?_
      rotate_left
      · intro wS hSw
        (try dsimp only at hSw)
        go_simp
        rw [if_neg (by have := HZ.out; simp; omega)]
        first | done | with_reducible rfl
      try simp only [Act.put, List.getElem_toArray, List.getElem_cons_succ, List.getElem_cons_zero, List.setIfInBounds_toArray, List.set_cons_zero, List.set_cons_succ]
      refine wpAnyH_take (i := 15) (v := ?_) rfl (by kernel_rfl) (by kernel_rfl) (by kernel_rfl) (fun _ _ _ h => h) (Or.inl ⟨by rfl, ?_⟩) (by assumption) ?_
      rotate_left
      · intro wS hSw
        (try dsimp only at hSw)
        go_simp
        rw [if_neg (by have := HZ.out; simp; omega)]
        first | done | with_reducible rfl
      try simp only [Act.put, List.getElem_toArray, List.getElem_cons_succ, List.getElem_cons_zero, List.setIfInBounds_toArray, List.set_cons_zero, List.set_cons_succ]
      refine wpAnyH_take (i := 16) (v := ?_) rfl (by kernel_rfl) (by kernel_rfl) (by kernel_rfl) (fun _ _ _ h => h) (Or.inl ⟨by rfl, ?_⟩) (by assumption) ?_
      rotate_left
      · intro wS hSw
        (try dsimp only at hSw)
        go_simp
        first | done | with_reducible rfl
      try simp only [Act.put, List.getElem_toArray, List.getElem_cons_succ, List.getElem_cons_zero, List.setIfInBounds_toArray, List.set_cons_zero, List.set_cons_succ]
      refine wpAnyH_done (by kernel_rfl) ?_ _
      go_wp2_with fail
      go_ret
      rw [HE.out]
      exact ⟨rfl, HB.out.trans ((r2.1).mono HB.out.size)⟩
    · rw [if_pos (by kernel_rfl)]
      go_simp
      try rw [hwb]
      refine hK.out _ _ ?_ (fun r1 => ?_)
      · exact belAlloc r0 _
      refine wpAnyH_mono (S' := (fun W => Below w0.heap.size w0 W ∧ Sees W (.slice (some ⟨w0.heap.size, 0, none⟩) 1 1) [b])) (fun _ h => h.1) _ _ _ _ ?_
      have r1x := And.intro r1 (one_sees0 w0.drew b)
      try simp only [Act.put, List.getElem_toArray, List.getElem_cons_succ, List.getElem_cons_zero, List.setIfInBounds_toArray, List.set_cons_zero, List.set_cons_succ]
      refine wpAnyH_take (i := 12) (v := ?_) rfl (by kernel_rfl) (by kernel_rfl) (by kernel_rfl) (fun _ _ _ h => h) (Or.inl ⟨by rfl, ?_⟩) (by assumption) ?_
      rotate_left
      · intro wS hSw
        (try dsimp only at hSw)
        have q1 := conv_sees hSw.2
        go_simp
        first | done | with_reducible rfl
      try simp only [Act.put, List.getElem_toArray, List.getElem_cons_succ, List.getElem_cons_zero, List.setIfInBounds_toArray, List.set_cons_zero, List.set_cons_succ]
      refine wpAnyH_ready (rs := [4]) (by kernel_rfl) (by simp) ?_
      refine AllReadyH.cons rfl (fun K hK => ?_) AllReadyH.nil
      go_simp
      try rw [hwa]
      refine (refPut_any a 4 _ ha (by omega)).mono ?_; rintro e w3 ⟨v3, rfl, ho3, hb3⟩
      refine hK.out _ _ ?_ (fun r2 => ?_)
      · exact ⟨bel r1x.1 hb3, r1x.2.keep hb3⟩
      refine wpAnyH_mono (S' := (fun W => (Below w0.heap.size w0 W ∧ Sees W (.slice (some ⟨w0.heap.size, 0, none⟩) 1 1) [b]) ∧ Sees W v3 (putL a 4))) (fun _ h => h.1) _ _ _ _ ?_
      have r2x := And.intro r2 ho3.sees
      try simp only [Act.put, List.getElem_toArray, List.getElem_cons_succ, List.getElem_cons_zero, List.setIfInBounds_toArray, List.set_cons_zero, List.set_cons_succ]
      refine wpAnyH_take (i := 5) (v := ?_) rfl (by kernel_rfl) (by kernel_rfl) (by kernel_rfl) (fun _ _ _ h => h) (Or.inl ⟨by rfl, ?_⟩) (by assumption) ?_
      rotate_left
      · intro wS hSw
        (try dsimp only at hSw)
        have q1 := conv_sees hSw.2
        go_simp
        first | done | with_reducible rfl
      try simp only [Act.put, List.getElem_toArray, List.getElem_cons_succ, List.getElem_cons_zero, List.setIfInBounds_toArray, List.set_cons_zero, List.set_cons_succ]
      refine wpAnyH_take (i := 6) (v := ?_) rfl (by kernel_rfl) (by kernel_rfl) (by kernel_rfl) (fun _ _ _ h => h) (Or.inl ⟨by rfl, ?_⟩) (by assumption) ?_
      rotate_left
      · intro wS hSw
        (try dsimp only at hSw)
        go_simp
        rw [if_neg (by have := HZ.out; simp; omega)]
        first | done | with_reducible rfl
      try simp only [Act.put, List.getElem_toArray, List.getElem_cons_succ, List.getElem_cons_zero, List.setIfInBounds_toArray, List.set_cons_zero, List.set_cons_succ]
      refine wpAnyH_take (i := 13) (v := ?_) rfl (by kernel_rfl) (by kernel_rfl) (by kernel_rfl) (fun _ _ _ h => h) (Or.inl ⟨by rfl, ?_⟩) (by assumption) ?_
      rotate_left
      · intro wS hSw
        (try dsimp only at hSw)
        go_simp
        rw [if_neg (by have := HZ.out; simp; omega)]
        first | done | with_reducible rfl
      try simp only [Act.put, List.getElem_toArray, List.getElem_cons_succ, List.getElem_cons_zero, List.setIfInBounds_toArray, List.set_cons_zero, List.set_cons_succ]
      refine wpAnyH_take (i := 15) (v := ?_) rfl (by kernel_rfl) (by kernel_rfl) (by kernel_rfl) (fun _ _ _ h => h) (Or.inl ⟨by rfl, ?_⟩) (by assumption) ?_
      rotate_left
      · intro wS hSw
        (try dsimp only at hSw)
        go_simp
        rw [if_neg (by have := HZ.out; simp; omega)]
        first | done | with_reducible rfl
      try simp only [Act.put, List.getElem_toArray, List.getElem_cons_succ, List.getElem_cons_zero, List.setIfInBounds_toArray, List.set_cons_zero, List.set_cons_succ]
      refine wpAnyH_take (i := 16) (v := ?_) rfl (by kernel_rfl) (by kernel_rfl) (by kernel_rfl) (fun _ _ _ h => h) (Or.inl ⟨by rfl, ?_⟩) (by assumption) ?_
      rotate_left
      · intro wS hSw
        (try dsimp only at hSw)
        go_simp
        first | done | with_reducible rfl
      try simp only [Act.put, List.getElem_toArray, List.getElem_cons_succ, List.getElem_cons_zero, List.setIfInBounds_toArray, List.set_cons_zero, List.set_cons_succ]
      refine wpAnyH_done (by kernel_rfl) ?_ _
      go_wp2_with fail
      go_ret
      rw [HE.out]
      exact ⟨rfl, HB.out.trans ((r2.1).mono HB.out.size)⟩
  | true =>
    go_enter Tryz.func49, Tryz.ntmps49
    go_upto_region 1 with fail
    change Code.wp _ _ _ _ (w.alloc (poolO a b true 45))
    rw [← HW.out]
    go_upto_region 4 with fail
    refine wp_region_held_drew (S := (fun W => Below w0.heap.size w0 W)) (by kernel_rfl) ?_ (fun r0 => ?_)
    · exact ⟨rfl, rfl, rfl, Nat.le_refl _, fun _ _ => rfl⟩
    refine wpAnyH_take (i := 0) (v := ?_) rfl (by kernel_rfl) (by kernel_rfl) (by kernel_rfl) (fun _ _ _ h => h) (Or.inl ⟨by rfl, ?_⟩) (by assumption) ?_
    rotate_left
    · intro wS hSw
      (try dsimp only at hSw)
      go_simp
      first | done | with_reducible rfl
    try simp only [Act.put, List.getElem_toArray, List.getElem_cons_succ, List.getElem_cons_zero, List.setIfInBounds_toArray, List.set_cons_zero, List.set_cons_succ]
    refine wpAnyH_take (i := 1) (v := ?_) rfl (by kernel_rfl) (by kernel_rfl) (by kernel_rfl) (fun _ _ _ h => h) (Or.inl ⟨by rfl, ?_⟩) (by assumption) ?_
    rotate_left
    · intro wS hSw
      (try dsimp only at hSw)
      go_simp
      first | done | with_reducible rfl
    try simp only [Act.put, List.getElem_toArray, List.getElem_cons_succ, List.getElem_cons_zero, List.setIfInBounds_toArray, List.set_cons_zero, List.set_cons_succ]
    refine wpAnyH_take (i := 2) (v := ?_) rfl (by kernel_rfl) (by kernel_rfl) (by kernel_rfl) (fun _ _ _ h => h) (Or.inl ⟨by rfl, ?_⟩) (by assumption) ?_
    rotate_left
    · intro wS hSw
      (try dsimp only at hSw)
      have c0 := bcell (hSw) c0
      have c1 := bcell (hSw) c1
      have c2 := bcell (hSw) c2
      go_simp
      first | done | with_reducible rfl
    try simp only [Act.put, List.getElem_toArray, List.getElem_cons_succ, List.getElem_cons_zero, List.setIfInBounds_toArray, List.set_cons_zero, List.set_cons_succ]
    refine wpAnyH_take (i := 3) (v := ?_) rfl (by kernel_rfl) (by kernel_rfl) (by kernel_rfl) (fun _ _ _ h => h) (Or.inl ⟨by rfl, ?_⟩) (by assumption) ?_
    rotate_left
    · intro wS hSw
      (try dsimp only at hSw)
      go_simp
      first | done | with_reducible rfl
    try simp only [Act.put, List.getElem_toArray, List.getElem_cons_succ, List.getElem_cons_zero, List.setIfInBounds_toArray, List.set_cons_zero, List.set_cons_succ]
    refine wpAnyH_take (i := 7) (v := ?_) rfl (by kernel_rfl) (by kernel_rfl) (by kernel_rfl) (fun _ _ _ h => h) (Or.inl ⟨by rfl, ?_⟩) (by assumption) ?_
    rotate_left
    · intro wS hSw
      (try dsimp only at hSw)
      go_simp
      first | done | with_reducible rfl
    try simp only [Act.put, List.getElem_toArray, List.getElem_cons_succ, List.getElem_cons_zero, List.setIfInBounds_toArray, List.set_cons_zero, List.set_cons_succ]
    refine wpAnyH_take (i := 8) (v := ?_) rfl (by kernel_rfl) (by kernel_rfl) (by kernel_rfl) (fun _ _ _ h => h) (Or.inl ⟨by rfl, ?_⟩) (by assumption) ?_
    rotate_left
    · intro wS hSw
      (try dsimp only at hSw)
      go_simp
      first | done | with_reducible rfl
    try simp only [Act.put, List.getElem_toArray, List.getElem_cons_succ, List.getElem_cons_zero, List.setIfInBounds_toArray, List.set_cons_zero, List.set_cons_succ]
    refine wpAnyH_take (i := 9) (v := ?_) rfl (by kernel_rfl) (by kernel_rfl) (by kernel_rfl) (fun _ _ _ h => h) (Or.inl ⟨by rfl, ?_⟩) (by assumption) ?_
    rotate_left
    · intro wS hSw
      (try dsimp only at hSw)
      have c0 := bcell (hSw) c0
      have c1 := bcell (hSw) c1
      have c2 := bcell (hSw) c2
      go_simp
      first | done | with_reducible rfl
    try simp only [Act.put, List.getElem_toArray, List.getElem_cons_succ, List.getElem_cons_zero, List.setIfInBounds_toArray, List.set_cons_zero, List.set_cons_succ]
    refine wpAnyH_take (i := 10) (v := ?_) rfl (by kernel_rfl) (by kernel_rfl) (by kernel_rfl) (fun _ _ _ h => h) (Or.inl ⟨by rfl, ?_⟩) (by assumption) ?_
    rotate_left
    · intro wS hSw
      (try dsimp only at hSw)
      go_simp
      first | done | with_reducible rfl
    try simp only [Act.put, List.getElem_toArray, List.getElem_cons_succ, List.getElem_cons_zero, List.setIfInBounds_toArray, List.set_cons_zero, List.set_cons_succ]
    refine wpAnyH_take (i := 14) (v := ?_) rfl (by kernel_rfl) (by kernel_rfl) (by kernel_rfl) (fun _ _ _ h => h) (Or.inl ⟨by rfl, ?_⟩) (by assumption) ?_
    rotate_left
    · intro wS hSw
      (try dsimp only at hSw)
      go_simp
      first | done | with_reducible rfl
    try simp only [Act.put, List.getElem_toArray, List.getElem_cons_succ, List.getElem_cons_zero, List.setIfInBounds_toArray, List.set_cons_zero, List.set_cons_succ]
    refine wpAnyH_ready (rs := [4, 11]) (by kernel_rfl) (by simp) ?_
    refine AllReadyH.cons rfl (fun K hK => ?_) (AllReadyH.cons rfl (fun K hK => ?_) AllReadyH.nil)
    · go_simp
      try rw [hwa]
      refine (refPut_any a 4 _ ha (by omega)).mono ?_; rintro e w3 ⟨v3, rfl, ho3, hb3⟩
      refine hK.out _ _ ?_ (fun r1 => ?_)
      · exact bel r0 hb3
      refine wpAnyH_mono (S' := (fun W => Below w0.heap.size w0 W ∧ Sees W v3 (putL a 4))) (fun _ h => h.1) _ _ _ _ ?_
      have r1x := And.intro r1 ho3.sees
      try simp only [Act.put, List.getElem_toArray, List.getElem_cons_succ, List.getElem_cons_zero, List.setIfInBounds_toArray, List.set_cons_zero, List.set_cons_succ]
      refine wpAnyH_take (i := 5) (v := ?_) rfl (by kernel_rfl) (by kernel_rfl) (by kernel_rfl) (fun _ _ _ h => h) (Or.inl ⟨by rfl, ?_⟩) (by assumption) ?_
      rotate_left
      · intro wS hSw
        (try dsimp only at hSw)
        have q1 := conv_sees hSw.2
        go_simp
        first | done | with_reducible rfl
      try simp only [Act.put, List.getElem_toArray, List.getElem_cons_succ, List.getElem_cons_zero, List.setIfInBounds_toArray, List.set_cons_zero, List.set_cons_succ]
      refine wpAnyH_take (i := 6) (v := ?_) rfl (by kernel_rfl) (by kernel_rfl) (by kernel_rfl) (fun _ _ _ h => h) (Or.inl ⟨by rfl, ?_⟩) (by assumption) ?_
      rotate_left
      · intro wS hSw
        (try dsimp only at hSw)
        go_simp
        rw [if_neg (by have := HZ.out; simp; omega)]
        first | done | with_reducible rfl
      try simp only [Act.put, List.getElem_toArray, List.getElem_cons_succ, List.getElem_cons_zero, List.setIfInBounds_toArray, List.set_cons_zero, List.set_cons_succ]
      refine wpAnyH_ready (rs := [11]) (by kernel_rfl) (by simp) ?_
      refine AllReadyH.cons rfl (fun K hK => ?_) AllReadyH.nil
      rw [if_pos (by kernel_rfl)]
      go_simp
      try rw [hwb]
      refine hK.out _ _ ?_ (fun r2 => ?_)
      · exact ⟨belAlloc r1x.1 _, r1x.2.keep (belNew _ _)⟩
      refine wpAnyH_mono (S' := (fun W => (Below w0.heap.size w0 W ∧ Sees W v3 (putL a 4)) ∧ Sees W (.slice (some ⟨w3.heap.size, 0, none⟩) 1 1) [b])) (fun _ h => h.1) _ _ _ _ ?_
      have r2x := And.intro r2 (one_sees0 w3 b)
      try simp only [Act.put, List.getElem_toArray, List.getElem_cons_succ, List.getElem_cons_zero, List.setIfInBounds_toArray, List.set_cons_zero, List.set_cons_succ]
      refine wpAnyH_take (i := 12) (v := ?_) rfl (by kernel_rfl) (by kernel_rfl) (by kernel_rfl) (fun _ _ _ h => h) (Or.inl ⟨by rfl, ?_⟩) (by assumption) ?_
      rotate_left
      · intro wS hSw
        (try dsimp only at hSw)
        have q1 := conv_sees hSw.2
        go_simp
        first | done | with_reducible rfl
      try simp only [Act.put, List.getElem_toArray, List.getElem_cons_succ, List.getElem_cons_zero, List.setIfInBounds_toArray, List.set_cons_zero, List.set_cons_succ]
      refine wpAnyH_take (i := 13) (v := ?_) rfl (by kernel_rfl) (by kernel_rfl) (by kernel_rfl) (fun _ _ _ h => h) (Or.inl ⟨by rfl, ?_⟩) (by assumption) ?_
      rotate_left
      · intro wS hSw
        (try dsimp only at hSw)
        go_simp
        rw [if_neg (by have := HZ.out; simp; omega)]
        first | done | with_reducible rfl
      try simp only [Act.put, List.getElem_toArray, List.getElem_cons_succ, List.getElem_cons_zero, List.setIfInBounds_toArray, List.set_cons_zero, List.set_cons_succ]
      refine wpAnyH_take (i := 15) (v := ?_) rfl (by kernel_rfl) (by kernel_rfl) (by kernel_rfl) (fun _ _ _ h => h) (Or.inl ⟨by rfl, ?_⟩) (by assumption) ?_
      rotate_left
      · intro wS hSw
        (try dsimp only at hSw)
        go_simp
        rw [if_neg (by have := HZ.out; simp; omega)]
        first | done | with_reducible rfl
      try simp only [Act.put, List.getElem_toArray, List.getElem_cons_succ, List.getElem_cons_zero, List.setIfInBounds_toArray, List.set_cons_zero, List.set_cons_succ]
      refine wpAnyH_take (i := 16) (v := ?_) rfl (by kernel_rfl) (by kernel_rfl) (by kernel_rfl) (fun _ _ _ h => h) (Or.inl ⟨by rfl, ?_⟩) (by assumption) ?_
      rotate_left
      · intro wS hSw
        (try dsimp only at hSw)
        go_simp
        first | done | with_reducible rfl
      try simp only [Act.put, List.getElem_toArray, List.getElem_cons_succ, List.getElem_cons_zero, List.setIfInBounds_toArray, List.set_cons_zero, List.set_cons_succ]
      refine wpAnyH_done (by kernel_rfl) ?_ _
      go_wp2_with fail
      go_ret
      rw [HE.out]
      exact ⟨rfl, HB.out.trans ((r2.1).mono HB.out.size)⟩
    · rw [if_pos (by kernel_rfl)]
      go_simp
      try rw [hwb]
      refine hK.out _ _ ?_ (fun r1 => ?_)
      · exact belAlloc r0 _
      refine wpAnyH_mono (S' := (fun W => Below w0.heap.size w0 W ∧ Sees W (.slice (some ⟨w0.heap.size, 0, none⟩) 1 1) [b])) (fun _ h => h.1) _ _ _ _ ?_
      have r1x := And.intro r1 (one_sees0 w0.drew b)
      try simp only [Act.put, List.getElem_toArray, List.getElem_cons_succ, List.getElem_cons_zero, List.setIfInBounds_toArray, List.set_cons_zero, List.set_cons_succ]
      refine wpAnyH_take (i := 12) (v := ?_) rfl (by kernel_rfl) (by kernel_rfl) (by kernel_rfl) (fun _ _ _ h => h) (Or.inl ⟨by rfl, ?_⟩) (by assumption) ?_
      rotate_left
      · intro wS hSw
        (try dsimp only at hSw)
        have q1 := conv_sees hSw.2
        go_simp
        first | done | with_reducible rfl
      try simp only [Act.put, List.getElem_toArray, List.getElem_cons_succ, List.getElem_cons_zero, List.setIfInBounds_toArray, List.set_cons_zero, List.set_cons_succ]
      refine wpAnyH_ready (rs := [4]) (by kernel_rfl) (by simp) ?_
      refine AllReadyH.cons rfl (fun K hK => ?_) AllReadyH.nil
      go_simp
      try rw [hwa]
      refine (refPut_any a 4 _ ha (by omega)).mono ?_; rintro e w3 ⟨v3, rfl, ho3, hb3⟩
      refine hK.out _ _ ?_ (fun r2 => ?_)
      · exact ⟨bel r1x.1 hb3, r1x.2.keep hb3⟩
      refine wpAnyH_mono (S' := (fun W => (Below w0.heap.size w0 W ∧ Sees W (.slice (some ⟨w0.heap.size, 0, none⟩) 1 1) [b]) ∧ Sees W v3 (putL a 4))) (fun _ h => h.1) _ _ _ _ ?_
      have r2x := And.intro r2 ho3.sees
      try simp only [Act.put, List.getElem_toArray, List.getElem_cons_succ, List.getElem_cons_zero, List.setIfInBounds_toArray, List.set_cons_zero, List.set_cons_succ]
      refine wpAnyH_take (i := 5) (v := ?_) rfl (by kernel_rfl) (by kernel_rfl) (by kernel_rfl) (fun _ _ _ h => h) (Or.inl ⟨by rfl, ?_⟩) (by assumption) ?_
      rotate_left
      · intro wS hSw
        (try dsimp only at hSw)
        have q1 := conv_sees hSw.2
        go_simp
        first | done | with_reducible rfl
      try simp only [Act.put, List.getElem_toArray, List.getElem_cons_succ, List.getElem_cons_zero, List.setIfInBounds_toArray, List.set_cons_zero, List.set_cons_succ]
      refine wpAnyH_take (i := 6) (v := ?_) rfl (by kernel_rfl) (by kernel_rfl) (by kernel_rfl) (fun _ _ _ h => h) (Or.inl ⟨by rfl, ?_⟩) (by assumption) ?_
      rotate_left
      · intro wS hSw
        (try dsimp only at hSw)
        go_simp
        rw [if_neg (by have := HZ.out; simp; omega)]
        first | done | with_reducible rfl
      try simp only [Act.put, List.getElem_toArray, List.getElem_cons_succ, List.getElem_cons_zero, List.setIfInBounds_toArray, List.set_cons_zero, List.set_cons_succ]
      refine wpAnyH_take (i := 13) (v := ?_) rfl (by kernel_rfl) (by kernel_rfl) (by kernel_rfl) (fun _ _ _ h => h) (Or.inl ⟨by rfl, ?_⟩) (by assumption) ?_
      rotate_left
      · intro wS hSw
        (try dsimp only at hSw)
        go_simp
        rw [if_neg (by have := HZ.out; simp; omega)]
        first | done | with_reducible rfl
      try simp only [Act.put, List.getElem_toArray, List.getElem_cons_succ, List.getElem_cons_zero, List.setIfInBounds_toArray, List.set_cons_zero, List.set_cons_succ]
      refine wpAnyH_take (i := 15) (v := ?_) rfl (by kernel_rfl) (by kernel_rfl) (by kernel_rfl) (fun _ _ _ h => h) (Or.inl ⟨by rfl, ?_⟩) (by assumption) ?_
      rotate_left
      · intro wS hSw
        (try dsimp only at hSw)
        go_simp
        rw [if_neg (by have := HZ.out; simp; omega)]
        first | done | with_reducible rfl
      try simp only [Act.put, List.getElem_toArray, List.getElem_cons_succ, List.getElem_cons_zero, List.setIfInBounds_toArray, List.set_cons_zero, List.set_cons_succ]
      refine wpAnyH_take (i := 16) (v := ?_) rfl (by kernel_rfl) (by kernel_rfl) (by kernel_rfl) (fun _ _ _ h => h) (Or.inl ⟨by rfl, ?_⟩) (by assumption) ?_
      rotate_left
      · intro wS hSw
        (try dsimp only at hSw)
        go_simp
        first | done | with_reducible rfl
      try simp only [Act.put, List.getElem_toArray, List.getElem_cons_succ, List.getElem_cons_zero, List.setIfInBounds_toArray, List.set_cons_zero, List.set_cons_succ]
      refine wpAnyH_done (by kernel_rfl) ?_ _
      go_wp2_with fail
      go_ret
      rw [HE.out]
      exact ⟨rfl, HB.out.trans ((r2.1).mono HB.out.size)⟩
end
end Go.Proofs.YtiifbhiodegipaaGreatDoor.RC
