/- Joined: BdA BdB BdC. -/
import Derived.Test.YtgodmnpcedfdcaaGreatJIm
import Derived.Test.YtgodmnpcedfdcaaGreatBkU
import Derived.Test.YtgodmnpcedfdcaaGreatJBrE
namespace Go.Proofs.YtgodmnpcedfdcaaGreat
section
open Go.RowKit
/-- The number of the attribute, as the document reckons it; the attributes behind it; the block behind it. -/
def dvK (b : BlkS) (a : PA) : Nat := if a ∈ b.attrs then ixA a b.attrs else b.attrs.length
def dvA (b : BlkS) (a : PA) : List PA := if a ∈ b.attrs then b.attrs else b.attrs ++ [a]
def dvS (b : BlkS) (i : Int) (a : PA) : BlkS := { b with sl := b.sl.set i.toNat ((dvK b a : Int) + 1), free := b.free.filter (fun x => x != i), attrs := dvA b a }
theorem getD_set {l : List Int} {n : Nat} (v : Int) (j : Nat) (hn : n < l.length) : (l.set n v).getD j 0 = if n = j then v else l.getD j 0 := by
  rw [List.getD_eq_getElem?_getD, List.getElem?_set]
  by_cases h : n = j
  · rw [if_pos h, if_pos h, if_pos hn]; rfl
  · rw [if_neg h, if_neg h, List.getD_eq_getElem?_getD]
theorem cntN_ne (i k : Int) : ∀ l : List Int, cntN (l.filter (fun x => x != i)) k = if k = i then 0 else cntN l k
  | [] => by simp [cntN]
  | x :: l => by
    have ih := cntN_ne i k l
    by_cases hx : x = i
    · rw [List.filter_cons_of_neg (by simp [hx]), ih, cntN_cons]
      by_cases hk : k = i
      · rw [if_pos hk, if_pos hk]
      · rw [if_neg hk, if_neg hk, if_neg (fun e => hk (e.symm.trans hx)), Nat.add_zero]
    · rw [List.filter_cons_of_pos (by simp [hx]), cntN_cons, ih, cntN_cons]
      by_cases hk : k = i
      · rw [if_pos hk, if_pos hk, if_neg (fun e => hx (e.trans hk))]
      · rw [if_neg hk, if_neg hk]
theorem dvA_len (b : BlkS) (a : PA) : dvK b a < (dvA b a).length ∧ b.attrs.length ≤ (dvA b a).length ∧ (dvA b a).length ≤ b.attrs.length + 1 := by
  unfold dvK dvA
  by_cases h : a ∈ b.attrs
  · rw [if_pos h, if_pos h]
    exact ⟨ixA_lt.2 h, Nat.le_refl _, by omega⟩
  · rw [if_neg h, if_neg h, List.length_append]
    simp
theorem free_slot {b : BlkS} (hl : b.sl.length = 64) (hr : rightB b = true) {i : Int} (hi : i ∈ b.free) : 0 ≤ i ∧ i < 64 ∧ b.sl.getD i.toNat 0 = 0 := by
  obtain ⟨-, -, -, -, h5, h6⟩ := (right_iff b hl).1 hr
  have h7 := h6 i hi
  refine ⟨h7.1, h7.2, ?_⟩
  have h8 := (h5 i.toNat (by omega)).2
  rw [show ((i.toNat : Nat) : Int) = i by omega] at h8
  have h9 := cnt_pos.2 hi
  apply Classical.byContradiction
  intro hn
  rw [if_neg hn] at h8
  exact h9 h8
/-- What is given stays right. -/
theorem dv_right {b : BlkS} (hl : b.sl.length = 64) (hok : okB b.sl) (hr : rightB b = true) {i : Int} (hi : i ∈ b.free) {a : PA} (hm : mayP a = true) : rightB (dvS b i a) = true := by
  obtain ⟨h1, h2, h3, h4, h5, h6⟩ := (right_iff b hl).1 hr
  obtain ⟨i0, i1, hz⟩ := free_slot hl hr hi
  obtain ⟨k1, k2, k3⟩ := dvA_len b a
  have hfa := (free_attrs hl hok hr).1
  have hpos := List.length_pos_of_mem hi
  have hn : i.toNat < b.sl.length := by omega
  have hset : ∀ j, (b.sl.set i.toNat ((dvK b a : Int) + 1)).getD j 0 = if i.toNat = j then (dvK b a : Int) + 1 else b.sl.getD j 0 := fun j => getD_set _ j hn
  have hlen : (dvA b a).length ≤ 64 := by
    by_cases h : a ∈ b.attrs
    · have : dvA b a = b.attrs := by unfold dvA; rw [if_pos h]
      rw [this]; exact h3
    · omega
  refine (right_iff (dvS b i a) (by show (List.set _ _ _).length = 64; rw [List.length_set]; exact hl)).2 ⟨h1, h2, hlen, fun j hj => ?_, fun j hj => ?_, fun f hf => h6 f (List.mem_filter.1 hf).1⟩
  · have hj : j < (dvA b a).length := hj
    show mayP ((dvA b a).getD j default) = true ∧ cntN (b.sl.set i.toNat ((dvK b a : Int) + 1)) ((j : Int) + 1) ≠ 0 ∧ (dvA b a).getD j default ∉ (dvA b a).take j
    have hold : j < b.attrs.length → cntN (b.sl.set i.toNat ((dvK b a : Int) + 1)) ((j : Int) + 1) ≠ 0 := fun hjl => by
      obtain ⟨k, hk, e⟩ := mem_getD.1 (cnt_pos.1 (h4 j hjl).2.1)
      refine cnt_pos.2 (mem_getD.2 ⟨k, by rw [List.length_set]; exact hk, ?_⟩)
      rw [hset, if_neg (fun e2 => by rw [← e2, hz] at e; omega)]
      exact e
    by_cases h : a ∈ b.attrs
    · have e : dvA b a = b.attrs := by unfold dvA; rw [if_pos h]
      rw [e] at hj ⊢
      exact ⟨(h4 j hj).1, hold hj, (h4 j hj).2.2⟩
    · have e : dvA b a = b.attrs ++ [a] := by unfold dvA; rw [if_neg h]
      have ek : dvK b a = b.attrs.length := by unfold dvK; rw [if_neg h]
      rw [e] at hj ⊢
      rw [List.length_append] at hj
      by_cases hjl : j < b.attrs.length
      · rw [List.getD_eq_getElem?_getD, List.getElem?_append_left hjl, ← List.getD_eq_getElem?_getD, List.take_append_of_le_length (by omega)]
        exact ⟨(h4 j hjl).1, hold hjl, (h4 j hjl).2.2⟩
      · have hje : j = b.attrs.length := by simp at hj; omega
        subst hje
        rw [List.getD_eq_getElem?_getD, List.getElem?_append_right (Nat.le_refl _), Nat.sub_self, List.take_append_of_le_length (Nat.le_refl _), List.take_length]
        refine ⟨hm, cnt_pos.2 (mem_getD.2 ⟨i.toNat, by rw [List.length_set]; exact hn, ?_⟩), h⟩
        rw [hset, if_pos rfl, ek]
  · show (b.sl.set i.toNat ((dvK b a : Int) + 1)).getD j 0 ≤ ((dvA b a).length : Int) ∧ cntN (b.free.filter (fun x => x != i)) j = if (b.sl.set i.toNat ((dvK b a : Int) + 1)).getD j 0 = 0 then 1 else 0
    rw [hset, cntN_ne]
    obtain ⟨h7, h8⟩ := h5 j hj
    by_cases e : i.toNat = j
    · rw [if_pos e, if_pos (by omega), if_neg (by omega)]
      exact ⟨by omega, rfl⟩
    · rw [if_neg e, if_neg (by omega), h8]
      exact ⟨by omega, rfl⟩
theorem may_size {a : PA} (h : mayP a = true) : a.1.size ≤ 64 ∧ a.2.size ≤ 64 := by
  have := attrL_bd h
  omega
theorem dv_wf {b : BlkS} (hw : BWf b) (hr : rightB b = true) {i : Int} (hi : i ∈ b.free) {a : PA} (hm : mayP a = true) : BWf (dvS b i a) := by
  have hlen := ((right_iff (dvS b i a) (by show (List.set _ _ _).length = 64; rw [List.length_set]; exact hw.2.1)).1 (dv_right hw.2.1 hw.2.2.1 hr hi hm)).2.2.1
  have hlen : (dvA b a).length ≤ 64 := hlen
  obtain ⟨k1, -, -⟩ := dvA_len b a
  have hs := may_size hm
  have hml : 64 ≤ maxLen := by unfold maxLen; omega
  refine ⟨hw.1, by show (List.set _ _ _).length = 64; rw [List.length_set]; exact hw.2.1, fun x hx => ?_, fun x hx => hw.2.2.2.1 x (List.mem_filter.1 hx).1, hw.2.2.2.2.1, Nat.le_trans (List.length_filter_le _ _) hw.2.2.2.2.2.1, by show (dvA b a).length ≤ maxLen; omega, fun p hp => ?_⟩
  · rcases List.mem_or_eq_of_mem_set hx with h | h
    · exact hw.2.2.1 x h
    · omega
  · have hp : p ∈ dvA b a := hp
    unfold dvA at hp
    by_cases h : a ∈ b.attrs
    · rw [if_pos h] at hp
      exact hw.2.2.2.2.2.2.2 p hp
    · rw [if_neg h] at hp
      rcases List.mem_append.1 hp with hp | hp
      · exact hw.2.2.2.2.2.2.2 p hp
      · obtain rfl : p = a := by simpa using hp
        omega
/-! What is given at once is what is given one by one. -/
theorem kp_self {b : BlkS} (hl : b.sl.length = 64) (hr : rightB b = true) : kp b.sl b.free = b.free := by
  unfold kp
  refine List.filter_eq_self.2 (fun x hx => ?_)
  have h := (free_slot hl hr hx).2.2
  show (!(b.sl.getD x.toNat 0 != 0)) = true
  rw [h]
  rfl
theorem givS_nil {b : BlkS} (hl : b.sl.length = 64) (hr : rightB b = true) (a : PA) : givS b [] a = b := by
  have h1 : givA b [] a = b.attrs := by unfold givA; rw [if_pos (Or.inr rfl)]
  have h2 : givSl b.sl [] (givK b [] a + 1) = b.sl := rfl
  unfold givS
  rw [h1, h2, kp_self hl hr]
theorem ixA_new {a : PA} : ∀ {L : List PA}, a ∉ L → ixA a (L ++ [a]) = L.length
  | [], _ => by simp [ixA]
  | q :: L, h => by
    have h1 : ¬ q = a := fun e => h (by simp [e])
    rw [List.cons_append, ixA, if_neg h1, ixA_new (fun hm => h (by simp [hm]))]
    rfl
theorem dv_step {b : BlkS} (hl : b.sl.length = 64) (hr : rightB b = true) (a : PA) (l : List Int) (i : Int) (hi : 0 ≤ i ∧ i < 64) : dvS (givS b l a) i a = givS b (l ++ [i]) a := by
  have hne : ¬ l ++ [i] = [] := by simp
  have hat : (givS b l a).attrs = givA b l a := rfl
  have hK : givK b (l ++ [i]) a = (dvK (givS b l a) a : Int) := by
    unfold givK dvK
    rw [hat]
    by_cases h : a ∈ b.attrs
    · have e : givA b l a = b.attrs := by unfold givA; rw [if_pos (Or.inl h)]
      rw [e, if_pos h, if_pos h]
    · rw [if_neg h, if_neg hne]
      by_cases hn : l = []
      · have e : givA b l a = b.attrs := by unfold givA; rw [if_pos (Or.inr hn)]
        rw [e, if_neg h]
      · have e : givA b l a = b.attrs ++ [a] := by unfold givA; rw [if_neg (fun hc => hc.elim h hn)]
        rw [e, if_pos (by simp), ixA_new h]
  have hA : givA b (l ++ [i]) a = dvA (givS b l a) a := by
    unfold dvA
    rw [hat]
    by_cases h : a ∈ b.attrs
    · have e : givA b l a = b.attrs := by unfold givA; rw [if_pos (Or.inl h)]
      have e2 : givA b (l ++ [i]) a = b.attrs := by unfold givA; rw [if_pos (Or.inl h)]
      rw [e, e2, if_pos h]
    · have e2 : givA b (l ++ [i]) a = b.attrs ++ [a] := by unfold givA; rw [if_neg (fun hc => hc.elim h hne)]
      rw [e2]
      by_cases hn : l = []
      · have e : givA b l a = b.attrs := by unfold givA; rw [if_pos (Or.inr hn)]
        rw [e, if_neg h]
      · have e : givA b l a = b.attrs ++ [a] := by unfold givA; rw [if_neg (fun hc => hc.elim h hn)]
        rw [e, if_pos (by simp)]
  have hS : givSl b.sl (l ++ [i]) (givK b (l ++ [i]) a + 1) = (givS b l a).sl.set i.toNat ((dvK (givS b l a) a : Int) + 1) := by
    rw [hK]
    show givSl b.sl (l ++ [i]) _ = (givSl b.sl l (givK b l a + 1)).set _ _
    have h1 : ∀ y, givSl b.sl (l ++ [i]) y = (givSl b.sl l y).set i.toNat y := fun y => by unfold givSl; rw [List.foldl_append]; rfl
    rw [h1]
    by_cases hn : l = []
    · rw [hn]; rfl
    · have h2 : givK b l a = givK b (l ++ [i]) a := by
        unfold givK
        rw [if_neg hn, if_neg (by simp : ¬ l ++ [i] = [])]
      rw [h2, hK]
  have hF : kp (givSl b.sl (l ++ [i]) (givK b (l ++ [i]) a + 1)) b.free = (givS b l a).free.filter (fun x => x != i) := by
    rw [hS]
    show kp _ _ = (kp (givSl b.sl l (givK b l a + 1)) b.free).filter _
    unfold kp
    rw [List.filter_filter]
    refine List.filter_congr (fun x hx => ?_)
    have hx2 := free_slot hl hr hx
    unfold gvn
    have hlen : i.toNat < (givS b l a).sl.length := by
      show i.toNat < (givSl _ _ _).length
      rw [givSl_len', hl]; omega
    rw [getD_set _ _ hlen]
    show _ = _
    by_cases e : x = i
    · subst e
      rw [if_pos rfl]
      simp
      omega
    · rw [if_neg (by omega)]
      have e2 : (x != i) = true := by simp [e]
      rw [e2]
      show _ = (true && _)
      rw [Bool.true_and]
      rfl
  show BlkS.mk _ _ _ _ _ = BlkS.mk _ _ _ _ _
  rw [hS, ← hF, hA, hS]
  rfl
theorem givS_one {b : BlkS} (hl : b.sl.length = 64) (hr : rightB b = true) (a : PA) (i : Int) (hi : 0 ≤ i ∧ i < 64) : givS b [i] a = dvS b i a := by
  have h := dv_step hl hr a [] i hi
  rw [givS_nil hl hr] at h
  exact h.symm
/-- What is given of the first free ones: right, well, the others still free. -/
theorem giv_all {b : BlkS} (hw : BWf b) (hr : rightB b = true) {a : PA} (hm : mayP a = true) : ∀ k, k ≤ b.free.length → rightB (givS b (b.free.take k) a) = true ∧ BWf (givS b (b.free.take k) a) ∧ (givS b (b.free.take k) a).free = b.free.drop k ∧ (givS b (b.free.take k) a).addr = b.addr
  | 0, _ => by
    rw [List.take_zero, givS_nil hw.2.1 hr]
    exact ⟨hr, hw, rfl, rfl⟩
  | k + 1, hk => by
    obtain ⟨h1, h2, h3, h4⟩ := giv_all hw hr hm k (by omega)
    obtain ⟨i, hi⟩ : ∃ i, b.free[k]? = some i := ⟨_, List.getElem?_eq_getElem (by omega)⟩
    have hik : b.free.drop k = i :: b.free.drop (k + 1) := by
      rw [List.drop_eq_getElem_cons (by omega), (List.getElem?_eq_some_iff.1 hi).2]
    have hb := free_slot hw.2.1 hr (List.mem_of_getElem? hi)
    have hmem : i ∈ (givS b (b.free.take k) a).free := by rw [h3, hik]; simp
    have he : givS b (b.free.take (k + 1)) a = dvS (givS b (b.free.take k) a) i a := by
      rw [List.take_add_one, hi, dv_step hw.2.1 hr a _ i ⟨hb.1, hb.2.1⟩]
      rfl
    rw [he]
    refine ⟨dv_right h2.2.1 h2.2.2.1 h1 hmem hm, dv_wf h2 h1 hmem hm, ?_, h4⟩
    show (givS b (b.free.take k) a).free.filter _ = _
    have hnd := (right_free h1).2.1
    rw [h3, hik] at hnd ⊢
    have hn := List.nodup_cons.1 hnd
    rw [List.filter_cons_of_neg (by simp)]
    exact List.filter_eq_self.2 (fun x hx => by simp; exact fun e => hn.1 (e ▸ hx))
end
section
open Go.RowKit Go.Maps
/-- Right, but that an attribute may be no slot's. -/
def LooseD (b : BlkS) : Prop := b.addr % 64 = 0 ∧ ownB b.aff = true ∧ b.attrs.length ≤ 64 ∧ (∀ p ∈ b.attrs, mayP p = true) ∧ b.attrs.Nodup ∧ (∀ i : Nat, i < 64 → b.sl.getD i 0 ≤ (b.attrs.length : Int) ∧ cntN b.free i = if b.sl.getD i 0 = 0 then 1 else 0) ∧ ∀ f ∈ b.free, 0 ≤ f ∧ f < 64
theorem nodup_of_take {L : List PA} : (∀ i, i < L.length → L.getD i default ∉ L.take i) → L.Nodup := by
  intro h
  rw [List.Nodup, List.pairwise_iff_getElem]
  intro i j hi hj hij e
  have h1 := h j hj
  rw [List.getD_eq_getElem?_getD, List.getElem?_eq_getElem hj, Option.getD_some] at h1
  exact h1 (List.mem_take_iff_getElem.2 ⟨i, by omega, e⟩)
theorem take_of_nodup {L : List PA} (h : L.Nodup) : ∀ i, i < L.length → L.getD i default ∉ L.take i := by
  intro i hi hm
  rw [List.getD_eq_getElem?_getD, List.getElem?_eq_getElem hi, Option.getD_some] at hm
  obtain ⟨j, hj, e⟩ := List.mem_take_iff_getElem.1 hm
  rw [List.Nodup, List.pairwise_iff_getElem] at h
  exact h j i (by omega) hi (by omega) e
theorem right_loose {b : BlkS} (hl : b.sl.length = 64) (hr : rightB b = true) : LooseD b := by
  obtain ⟨h1, h2, h3, h4, h5, h6⟩ := (right_iff b hl).1 hr
  exact ⟨h1, h2, h3, right_may hl hr, nodup_of_take (fun i hi => (h4 i hi).2.2), h5, h6⟩
theorem inB_iff {a x : Int} : inB a x = true ↔ x - x % 64 = a := by unfold inB; rw [decide_eq_true_eq]
theorem drp_loose {b : BlkS} (hl : b.sl.length = 64) (h : LooseD b) {x : Int} (_ : 0 ≤ x) (hin : inB b.addr x = true) (hz : b.sl.getD (x - b.addr).toNat 0 ≠ 0) : LooseD (drpS b x) := by
  obtain ⟨h1, h2, h3, h4, h5, h6, h7⟩ := h
  have hi := inB_iff.1 hin
  have hn : (x - b.addr).toNat < b.sl.length := by omega
  refine ⟨h1, h2, h3, h4, h5, fun i hi64 => ?_, fun f hf => ?_⟩
  · show (b.sl.set (x - b.addr).toNat 0).getD i 0 ≤ (b.attrs.length : Int) ∧ cntN (b.free ++ [x - b.addr]) i = if (b.sl.set (x - b.addr).toNat 0).getD i 0 = 0 then 1 else 0
    rw [getD_set _ _ hn]
    obtain ⟨h8, h9⟩ := h6 i hi64
    have hc : cntN (b.free ++ [x - b.addr]) i = cntN b.free i + if x - b.addr = i then 1 else 0 := by
      unfold cntN
      rw [List.filter_append, List.length_append]
      congr 1
      by_cases e : x - b.addr = i
      · rw [if_pos e, List.filter_cons_of_pos (by simp [e])]; rfl
      · rw [if_neg e, List.filter_cons_of_neg (by simp [e])]; rfl
    rw [hc]
    by_cases e : (x - b.addr).toNat = i
    · have e2 : x - b.addr = i := by omega
      rw [if_pos e, if_pos e2, if_pos rfl, h9, ← e, if_neg hz]
      exact ⟨by omega, rfl⟩
    · have e2 : ¬ x - b.addr = i := by omega
      rw [if_neg e, if_neg e2]
      exact ⟨h8, h9⟩
  · rcases List.mem_append.1 hf with hf | hf
    · exact h7 f hf
    · obtain rfl : f = x - b.addr := by simpa using hf
      omega
/-! The attributes that are kept, and their places. -/
def rkN (U : Nat) : Nat → Nat
  | 0 => 0
  | n + 1 => if U.testBit n = true then rkN U n + 1 else rkN U n
theorem kpt_rk (U : Nat) (L : List PA) : ∀ n, (kptA U L n).length = rkN U n
  | 0 => rfl
  | n + 1 => by
    have ih := kpt_rk U L n
    unfold kptA rkN
    split
    · rw [List.length_append, ih]; rfl
    · exact ih
theorem rk_mono (U : Nat) {m : Nat} : ∀ {n : Nat}, m ≤ n → rkN U m ≤ rkN U n
  | 0, h => by rw [Nat.le_zero.1 h]; exact Nat.le_refl _
  | n + 1, h => by
    by_cases e : m = n + 1
    · rw [e]; exact Nat.le_refl _
    · have h1 := rk_mono U (m := m) (n := n) (by omega)
      have h2 : rkN U (n + 1) = if U.testBit n = true then rkN U n + 1 else rkN U n := rfl
      rw [h2]
      split
      · exact Nat.le_succ_of_le h1
      · exact h1
theorem kpt_get (U : Nat) (L : List PA) {j : Nat} (hj : U.testBit j = true) : ∀ {n : Nat}, j < n → (kptA U L n)[rkN U j]? = some (atA L j)
  | 0, h => absurd h (Nat.not_lt_zero _)
  | n + 1, h => by
    by_cases e : j = n
    · subst e
      unfold kptA
      rw [if_pos hj, List.getElem?_append_right (by rw [kpt_rk]; exact Nat.le_refl _), kpt_rk, Nat.sub_self]
      rfl
    · have ih := kpt_get U L hj (n := n) (by omega)
      have hlt : rkN U j < (kptA U L n).length := (List.getElem?_eq_some_iff.1 ih).1
      unfold kptA
      split
      · rw [List.getElem?_append_left hlt]; exact ih
      · exact ih
theorem kpt_mem (U : Nat) (L : List PA) : ∀ {n i : Nat}, i < rkN U n → ∃ j, j < n ∧ U.testBit j = true ∧ rkN U j = i
  | 0, i, h => absurd h (Nat.not_lt_zero _)
  | n + 1, i, h => by
    unfold rkN at h
    by_cases hb : U.testBit n = true
    · rw [if_pos hb] at h
      by_cases e : i = rkN U n
      · exact ⟨n, Nat.lt_succ_self _, hb, e.symm⟩
      · obtain ⟨j, h1, h2, h3⟩ := kpt_mem U L (n := n) (i := i) (by omega)
        exact ⟨j, by omega, h2, h3⟩
    · rw [if_neg hb] at h
      obtain ⟨j, h1, h2, h3⟩ := kpt_mem U L (n := n) (i := i) h
      exact ⟨j, by omega, h2, h3⟩
theorem kpt_sub (U : Nat) (L : List PA) : ∀ {n : Nat}, n ≤ L.length → (kptA U L n).Sublist (L.take n)
  | 0, _ => List.Sublist.refl _
  | n + 1, h => by
    have ih := kpt_sub U L (n := n) (by omega)
    rw [List.take_add_one, atA_get (L := L) (k := n) (by omega)]
    unfold kptA
    split
    · exact List.Sublist.append ih (List.Sublist.refl _)
    · exact ih.trans (List.sublist_append_left _ _)
theorem trn_zero (U : Nat) (L : List PA) : ∀ n, (trnA U L n).getD 0 0 = 0
  | 0 => rfl
  | n + 1 => by
    have ih := trn_zero U L n
    unfold trnA
    split
    · rw [List.getD_eq_getElem?_getD, List.getElem?_set_ne (by omega), ← List.getD_eq_getElem?_getD]; exact ih
    · exact ih
theorem trn_get (U : Nat) (L : List PA) {j : Nat} (hj : U.testBit j = true) (h64 : j < 64) : ∀ {n : Nat}, j < n → (trnA U L n).getD (j + 1) 0 = ((rkN U j + 1 : Nat) : Int)
  | 0, h => absurd h (Nat.not_lt_zero _)
  | n + 1, h => by
    by_cases e : j = n
    · subst e
      unfold trnA
      rw [if_pos hj, List.getD_eq_getElem?_getD, List.getElem?_set_self (by rw [trnA_len]; omega), kpt_rk]
      rfl
    · have ih := trn_get U L hj h64 (n := n) (by omega)
      unfold trnA
      split
      · rw [List.getD_eq_getElem?_getD, List.getElem?_set_ne (by omega), ← List.getD_eq_getElem?_getD]; exact ih
      · exact ih
/-- A slot's number, turned. -/
def tnS (b : BlkS) (s : Int) : Int := (trnA (usedN b.sl 64) b.attrs b.attrs.length).getD s.toNat 0
theorem used_bit {b : BlkS} (hl : b.sl.length = 64) (j : Nat) : (usedN b.sl 64).testBit j = true ↔ j < 64 ∧ ((j : Int) + 1) ∈ b.sl := by
  rw [usedN_bit]
  constructor
  · rintro ⟨h, i, hi, e⟩
    exact ⟨h, mem_getD.2 ⟨i, by omega, e⟩⟩
  · rintro ⟨h, hm⟩
    obtain ⟨i, hi, e⟩ := mem_getD.1 hm
    exact ⟨h, i, by omega, e⟩
theorem tn_zero (b : BlkS) : tnS b 0 = 0 := trn_zero _ _ _
theorem tn_succ {b : BlkS} (hl : b.sl.length = 64) (hlen : b.attrs.length ≤ 64) {j : Nat} (hj : j < b.attrs.length) (hm : ((j : Int) + 1) ∈ b.sl) : tnS b ((j : Int) + 1) = ((rkN (usedN b.sl 64) j + 1 : Nat) : Int) := by
  unfold tnS
  rw [show ((j : Int) + 1).toNat = j + 1 by omega]
  exact trn_get _ _ ((used_bit hl j).2 ⟨by omega, hm⟩) (by omega) hj
theorem slot_cases {b : BlkS} (hok : okB b.sl) (h : LooseD b) (hl : b.sl.length = 64) {s : Int} (hs : s ∈ b.sl) : s = 0 ∨ ∃ j : Nat, j < b.attrs.length ∧ s = (j : Int) + 1 := by
  obtain ⟨i, hi, rfl⟩ := mem_getD.1 hs
  have h1 := (h.2.2.2.2.2.1 i (by omega)).1
  have h2 := (okB_get hok i).1
  by_cases e : b.sl.getD i 0 = 0
  · exact Or.inl e
  · exact Or.inr ⟨(b.sl.getD i 0).toNat - 1, by omega, by omega⟩
theorem map_getD (f : Int → Int) {l : List Int} {i : Nat} (hi : i < l.length) : (l.map f).getD i 0 = f (l.getD i 0) := by
  rw [List.getD_eq_getElem?_getD, List.getElem?_map, List.getD_eq_getElem?_getD, List.getElem?_eq_getElem hi]
  rfl
theorem tid_right {b : BlkS} (hl : b.sl.length = 64) (hok : okB b.sl) (h : LooseD b) : rightB (tidS b) = true := by
  obtain ⟨h1, h2, h3, h4, h5, h6, h7⟩ := id h
  have hU : ∀ i, i < 64 → b.sl.getD i 0 ∈ b.sl := fun i hi => mem_getD.2 ⟨i, by omega, rfl⟩
  have hsub := kpt_sub (usedN b.sl 64) b.attrs (Nat.le_refl b.attrs.length)
  rw [List.take_length] at hsub
  have hK : (tidS b).attrs = kptA (usedN b.sl 64) b.attrs b.attrs.length := rfl
  have hlen : (tidS b).attrs.length = rkN (usedN b.sl 64) b.attrs.length := by rw [hK, kpt_rk]
  have hS : ∀ i, i < 64 → (tidS b).sl.getD i 0 = tnS b (b.sl.getD i 0) := fun i hi => map_getD _ (by omega)
  refine (right_iff (tidS b) (by show (List.map _ _).length = 64; rw [List.length_map]; exact hl)).2 ⟨h1, h2, ?_, fun i hi => ?_, fun i hi => ?_, h7⟩
  · have := hsub.length_le
    rw [hK]; omega
  · have hnd : (tidS b).attrs.Nodup := hsub.nodup h5
    have hi2 : i < rkN (usedN b.sl 64) b.attrs.length := by rw [← hlen]; exact hi
    obtain ⟨j, hj, hb, e⟩ := kpt_mem (usedN b.sl 64) b.attrs hi2
    refine ⟨?_, ?_, take_of_nodup hnd i hi⟩
    · refine h4 _ (hsub.subset ?_)
      rw [List.getD_eq_getElem?_getD, List.getElem?_eq_getElem hi, Option.getD_some]
      exact List.getElem_mem hi
    · obtain ⟨-, hm⟩ := (used_bit hl j).1 hb
      obtain ⟨k, hk, ek⟩ := mem_getD.1 hm
      refine cnt_pos.2 (mem_getD.2 ⟨k, by show k < (List.map _ _).length; rw [List.length_map]; exact hk, ?_⟩)
      rw [hS k (by omega), ek, tn_succ hl h3 hj hm, e]
      omega
  · rw [hS i hi]
    obtain ⟨h8, h9⟩ := h6 i hi
    have h10 : cntN (tidS b).free i = cntN b.free i := rfl
    rw [h10, h9]
    rcases slot_cases hok h hl (hU i hi) with e | ⟨j, hj, e⟩
    · rw [e, tn_zero, if_pos rfl]
      exact ⟨by omega, rfl⟩
    · have hm : ((j : Int) + 1) ∈ b.sl := e ▸ hU i hi
      rw [e, tn_succ hl h3 hj hm, if_neg (by omega), if_neg (by omega)]
      refine ⟨?_, rfl⟩
      rw [hlen]
      have hb := (used_bit hl j).2 ⟨by omega, hm⟩
      have h11 : rkN (usedN b.sl 64) (j + 1) = rkN (usedN b.sl 64) j + 1 := by rw [rkN, if_pos hb]
      have h12 := rk_mono (usedN b.sl 64) (m := j + 1) (n := b.attrs.length) (by omega)
      omega
/-! The document drops the attributes that are no slot's from the last one on. -/
def dropS (b : BlkS) (k : Nat) : BlkS := { b with sl := b.sl.map (fun s => if s > (k : Int) + 1 then s - 1 else s), attrs := b.attrs.take k ++ b.attrs.drop (k + 1) }
def tdn (b : BlkS) : Nat → BlkS
  | 0 => b
  | k + 1 => tdn (if cntN b.sl ((k : Int) + 1) = 0 then dropS b k else b) k
/-- How it stands when those from k on are dropped. -/
def stgS (b : BlkS) (k : Nat) : BlkS := { b with sl := b.sl.map (fun s => if s ≤ (k : Int) then s else (k : Int) + ((rkN (usedN b.sl 64) s.toNat : Int) - rkN (usedN b.sl 64) k)), attrs := b.attrs.take k ++ (kptA (usedN b.sl 64) b.attrs b.attrs.length).drop (rkN (usedN b.sl 64) k) }
theorem stg_all {b : BlkS} (hok : okB b.sl) (hl : b.sl.length = 64) (h : LooseD b) : stgS b b.attrs.length = b := by
  have h1 : b.sl.map (fun s => if s ≤ ((b.attrs.length : Nat) : Int) then s else ((b.attrs.length : Nat) : Int) + ((rkN (usedN b.sl 64) s.toNat : Int) - rkN (usedN b.sl 64) b.attrs.length)) = b.sl := by
    refine (List.map_congr_left (fun s hs => ?_)).trans (List.map_id _)
    rcases slot_cases hok h hl hs with e | ⟨j, hj, e⟩
    · rw [if_pos (by omega)]; rfl
    · rw [if_pos (by omega)]; rfl
  have h2 : b.attrs.take b.attrs.length ++ (kptA (usedN b.sl 64) b.attrs b.attrs.length).drop (rkN (usedN b.sl 64) b.attrs.length) = b.attrs := by
    rw [List.take_length, List.drop_of_length_le (by rw [kpt_rk]; exact Nat.le_refl _), List.append_nil]
  unfold stgS
  rw [h1, h2]
theorem stg_zero {b : BlkS} (hok : okB b.sl) (hl : b.sl.length = 64) (h : LooseD b) : stgS b 0 = tidS b := by
  have h1 : b.sl.map (fun s => if s ≤ ((0 : Nat) : Int) then s else ((0 : Nat) : Int) + ((rkN (usedN b.sl 64) s.toNat : Int) - rkN (usedN b.sl 64) 0)) = b.sl.map (tnS b) := by
    refine List.map_congr_left (fun s hs => ?_)
    rcases slot_cases hok h hl hs with e | ⟨j, hj, e⟩
    · subst e
      rw [if_pos (by omega), tn_zero]
    · subst e
      have hb := (used_bit hl j).2 ⟨by have := h.2.2.1; omega, hs⟩
      have hr : rkN (usedN b.sl 64) (j + 1) = rkN (usedN b.sl 64) j + 1 := by rw [rkN, if_pos hb]
      have h0 : rkN (usedN b.sl 64) 0 = 0 := rfl
      rw [if_neg (by omega), tn_succ hl h.2.2.1 hj hs, show ((j : Int) + 1).toNat = j + 1 by omega, hr, h0]
      omega
  unfold stgS tidS
  rw [h1]
  rfl
theorem stg_step {b : BlkS} (hok : okB b.sl) (hl : b.sl.length = 64) (h : LooseD b) {k : Nat} (hk : k < b.attrs.length) : (if cntN (stgS b (k + 1)).sl ((k : Int) + 1) = 0 then dropS (stgS b (k + 1)) k else stgS b (k + 1)) = stgS b k := by
  have h3 := h.2.2.1
  obtain ⟨U, hU⟩ : ∃ U, U = usedN b.sl 64 := ⟨_, rfl⟩
  have hub : ∀ j, U.testBit j = true ↔ j < 64 ∧ ((j : Int) + 1) ∈ b.sl := fun j => by rw [hU]; exact used_bit hl j
  have hrs : ∀ j : Nat, j < b.attrs.length → ((j : Int) + 1) ∈ b.sl → rkN U (j + 1) = rkN U j + 1 := fun j hj hm => by
    rw [rkN, if_pos ((hub j).2 ⟨by omega, hm⟩)]
  have hsl : (stgS b (k + 1)).sl = b.sl.map (fun s => if s ≤ ((k + 1 : Nat) : Int) then s else ((k + 1 : Nat) : Int) + ((rkN U s.toNat : Int) - rkN U (k + 1))) := by rw [hU]; rfl
  have hat : (stgS b (k + 1)).attrs = b.attrs.take (k + 1) ++ (kptA U b.attrs b.attrs.length).drop (rkN U (k + 1)) := by rw [hU]; rfl
  have hgt : ∀ s ∈ b.sl, (k : Int) + 1 < s → (rkN U (k + 1) : Int) + 1 ≤ rkN U s.toNat := fun s hs hlt => by
    rcases slot_cases hok h hl hs with e | ⟨j, hj, e⟩
    · omega
    · subst e
      rw [show ((j : Int) + 1).toNat = j + 1 by omega, hrs j hj hs]
      have := rk_mono U (m := k + 1) (n := j) (by omega)
      omega
  by_cases hu : ((k : Int) + 1) ∈ b.sl
  · have hne : cntN (stgS b (k + 1)).sl ((k : Int) + 1) ≠ 0 := by
      refine cnt_pos.2 ?_
      rw [hsl]
      exact List.mem_map.2 ⟨(k : Int) + 1, hu, by rw [if_pos (by omega)]⟩
    rw [if_neg hne]
    have hr := hrs k hk hu
    have e1 : (stgS b (k + 1)).sl = (stgS b k).sl := by
      rw [hsl]
      show _ = b.sl.map _
      rw [← hU]
      refine List.map_congr_left (fun s hs => ?_)
      by_cases c1 : s ≤ (k : Int)
      · rw [if_pos (by omega), if_pos c1]
      · rw [if_neg c1]
        by_cases c2 : s = (k : Int) + 1
        · subst c2
          rw [if_pos (by omega), show ((k : Int) + 1).toNat = k + 1 by omega, hr]
          omega
        · rw [if_neg (by omega), hr]
          omega
    have e2 : (stgS b (k + 1)).attrs = (stgS b k).attrs := by
      rw [hat]
      show _ = b.attrs.take k ++ (kptA (usedN b.sl 64) b.attrs b.attrs.length).drop (rkN (usedN b.sl 64) k)
      rw [← hU]
      have hg := kpt_get U b.attrs ((hub k).2 ⟨by omega, hu⟩) hk
      have hlt := (List.getElem?_eq_some_iff.1 hg).1
      have hd : (kptA U b.attrs b.attrs.length).drop (rkN U k) = atA b.attrs k :: (kptA U b.attrs b.attrs.length).drop (rkN U k + 1) := by
        rw [List.drop_eq_getElem_cons hlt, (List.getElem?_eq_some_iff.1 hg).2]
      rw [hd, hr, List.take_add_one, atA_get hk]
      simp
    show BlkS.mk _ _ _ _ _ = BlkS.mk _ _ _ _ _
    exact (BlkS.mk.injEq ..).mpr ⟨rfl, rfl, e1, rfl, e2⟩
  · have hz : cntN (stgS b (k + 1)).sl ((k : Int) + 1) = 0 := by
      apply Classical.byContradiction
      intro hn
      have hm := cnt_pos.1 hn
      rw [hsl] at hm
      obtain ⟨s, hs, e⟩ := List.mem_map.1 hm
      by_cases c1 : s ≤ ((k + 1 : Nat) : Int)
      · rw [if_pos c1] at e
        exact hu (e ▸ hs)
      · rw [if_neg c1] at e
        have := hgt s hs (by omega)
        omega
    rw [if_pos hz]
    have hb : ¬ U.testBit k = true := fun hb => hu ((hub k).1 hb).2
    have hr : rkN U (k + 1) = rkN U k := by rw [rkN, if_neg hb]
    have e1 : (dropS (stgS b (k + 1)) k).sl = (stgS b k).sl := by
      show (stgS b (k + 1)).sl.map _ = b.sl.map _
      rw [hsl, List.map_map, ← hU]
      refine List.map_congr_left (fun s hs => ?_)
      simp only [Function.comp]
      by_cases c1 : s ≤ (k : Int)
      · rw [if_pos (show s ≤ ((k + 1 : Nat) : Int) by omega), if_pos c1, if_neg (by omega)]
      · rw [if_neg c1]
        have c2 : s ≠ (k : Int) + 1 := fun e => hu (e ▸ hs)
        have := hgt s hs (by omega)
        rw [if_neg (show ¬ s ≤ ((k + 1 : Nat) : Int) by omega), if_pos (by omega), hr]
        omega
    have e2 : (dropS (stgS b (k + 1)) k).attrs = (stgS b k).attrs := by
      show (stgS b (k + 1)).attrs.take k ++ (stgS b (k + 1)).attrs.drop (k + 1) = b.attrs.take k ++ (kptA (usedN b.sl 64) b.attrs b.attrs.length).drop (rkN (usedN b.sl 64) k)
      rw [hat, ← hU, hr]
      have hl1 : (b.attrs.take (k + 1)).length = k + 1 := by rw [List.length_take]; omega
      rw [List.take_append_of_le_length (by omega), List.take_take, Nat.min_eq_left (by omega), List.drop_append_of_le_length (by omega), List.drop_of_length_le (by omega), List.nil_append]
    exact (BlkS.mk.injEq ..).mpr ⟨rfl, rfl, e1, rfl, e2⟩
theorem tdn_stg {b : BlkS} (hok : okB b.sl) (hl : b.sl.length = 64) (h : LooseD b) : ∀ k, k ≤ b.attrs.length → tdn (stgS b k) k = tidS b
  | 0, _ => stg_zero hok hl h
  | k + 1, hk => by
    rw [tdn, stg_step hok hl h (by omega)]
    exact tdn_stg hok hl h k (by omega)
theorem tdn_tid {b : BlkS} (hok : okB b.sl) (hl : b.sl.length = 64) (h : LooseD b) : tdn b b.attrs.length = tidS b := by
  have := tdn_stg hok hl h b.attrs.length (Nat.le_refl _)
  rwa [stg_all hok hl h] at this
theorem tid_wf {b : BlkS} (hw : BWf b) (h : LooseD b) : BWf (tidS b) := by
  have hsub := kpt_sub (usedN b.sl 64) b.attrs (Nat.le_refl b.attrs.length)
  rw [List.take_length] at hsub
  refine ⟨hw.1, by show (List.map _ _).length = 64; rw [List.length_map]; exact hw.2.1, fun x hx => ?_, hw.2.2.2.1, hw.2.2.2.2.1, hw.2.2.2.2.2.1, Nat.le_trans hsub.length_le hw.2.2.2.2.2.2.1, fun p hp => hw.2.2.2.2.2.2.2 p (hsub.subset hp)⟩
  obtain ⟨s, hs, rfl⟩ := List.mem_map.1 hx
  have h1 := trnA_bd (usedN b.sl 64) b.attrs b.attrs.length h.2.2.1
  show 0 ≤ (trnA _ _ _).getD s.toNat 0 ∧ (trnA _ _ _).getD s.toNat 0 ≤ 255
  rcases getD_mem_or (l := trnA (usedN b.sl 64) b.attrs b.attrs.length) s.toNat with e | e
  · rw [e]; omega
  · have := h1 _ e; omega
end
section
open Go.RowKit Go.Maps
def stR (M : PA → Bool) (p : BlkS × List Int) (x : Int) : BlkS × List Int := if hitR M p.1 x = true then (drpS p.1 x, p.2 ++ [x]) else p
theorem relN_fold (M : PA → Bool) (b : BlkS) (l : List Int) : ∀ n, n ≤ l.length → relN M b l n = (l.take n).foldl (stR M) (b, [])
  | 0, _ => rfl
  | n + 1, h => by
    have ih := relN_fold M b l n (by omega)
    have e : l.take (n + 1) = l.take n ++ [l.getD n 0] := take_snocI l n (by omega)
    rw [e, List.foldl_append, ← ih]
    rfl
theorem relN_all (M : PA → Bool) (b : BlkS) (l : List Int) : relN M b l l.length = l.foldl (stR M) (b, []) := by
  rw [relN_fold M b l l.length (Nat.le_refl _), List.take_length]
theorem okB_of {l : List Int} (h : ∀ i, 0 ≤ l.getD i 0 ∧ l.getD i 0 ≤ 255) : okB l := fun x hx => by
  obtain ⟨i, _, rfl⟩ := mem_getD.1 hx
  exact h i
theorem hit_in {M : PA → Bool} {b : BlkS} {x : Int} (h : hitR M b x = true) : inB b.addr x = true ∧ b.sl.getD (x - b.addr).toNat 0 ≠ 0 := by
  unfold hitR at h
  rw [Bool.and_eq_true] at h
  exact und_in h.1
/-- While some are released: loose, well. -/
theorem rel_loose (M : PA → Bool) {b : BlkS} (hw : BWf b) (hr : rightB b = true) {l : List Int} (hl : ∀ x ∈ l, 0 ≤ x) : ∀ n, n ≤ l.length → LooseD (relN M b l n).1 ∧ okB (relN M b l n).1.free
  | 0, _ => ⟨right_loose hw.2.1 hr, hw.2.2.2.1⟩
  | n + 1, hn => by
    have ih := rel_loose M hw hr hl n (by omega)
    have hi := relN_inv M b l hw.2.1 (right_bd hw hr).2.2.2 n
    unfold relN
    by_cases hh : hitR M (relN M b l n).1 (l.getD n 0) = true
    · rw [if_pos hh]
      obtain ⟨h1, h2⟩ := hit_in hh
      have hx : 0 ≤ l.getD n 0 := hl _ (mem_getD.2 ⟨n, by omega, rfl⟩)
      refine ⟨drp_loose hi.2.2.2.1 ih.1 hx h1 h2, ?_⟩
      intro y hy
      rcases List.mem_append.1 hy with hy | hy
      · exact ih.2 y hy
      · obtain rfl : y = l.getD n 0 - (relN M b l n).1.addr := by simpa using hy
        have := inB_iff.1 h1
        omega
    · rw [if_neg hh]; exact ih
theorem rel_wf (M : PA → Bool) {b : BlkS} (hw : BWf b) (hr : rightB b = true) {l : List Int} (hl : ∀ x ∈ l, 0 ≤ x) : BWf (relN M b l l.length).1 := by
  obtain ⟨h1, h2, h3, h4, h5, h6, h7⟩ := relN_inv M b l hw.2.1 (right_bd hw hr).2.2.2 l.length
  have hlo := rel_loose M hw hr hl l.length (Nat.le_refl _)
  have hal := (right_bd hw hr).2.2.1
  have hfl := (right_free hr).2.2
  have hnz := nzN_le b.sl
  have hml : 200 ≤ maxLen := by unfold maxLen; omega
  have hl64 := hw.2.1
  refine ⟨by rw [h1]; exact hw.1, h4, okB_of (fun i => ⟨(h5 i).1, by have := (h5 i).2; omega⟩), hlo.2, by rw [h2]; exact hw.2.2.2.2.1, by rw [h6]; omega, by rw [h3]; omega, by rw [h3]; exact hw.2.2.2.2.2.2.2⟩
theorem rel_right (M : PA → Bool) {b : BlkS} (hw : BWf b) (hr : rightB b = true) {l : List Int} (hl : ∀ x ∈ l, 0 ≤ x) : rightB (tidS (relN M b l l.length).1) = true ∧ BWf (tidS (relN M b l l.length).1) := by
  have h1 := rel_wf M hw hr hl
  have h2 := (rel_loose M hw hr hl l.length (Nat.le_refl _)).1
  exact ⟨tid_right h1.2.1 h1.2.2.1 h2, tid_wf h1 h2⟩
/-! Those that are meant, ahead of all. -/
theorem und_drp {c : BlkS} {x y : Int} (hx : inB c.addr x = true) (hne : y ≠ x) : undP (drpS c x) y = undP c y := by
  have hx := inB_iff.1 hx
  unfold undP
  show (if inB c.addr y = true ∧ (c.sl.set (x - c.addr).toNat 0).getD (y - c.addr).toNat 0 ≠ 0 then (atA c.attrs ((c.sl.set (x - c.addr).toNat 0).getD (y - c.addr).toNat 0 - 1).toNat, true) else ((em, em), false)) = _
  by_cases hy : inB c.addr y = true
  · have hy2 := inB_iff.1 hy
    have e : (c.sl.set (x - c.addr).toNat 0).getD (y - c.addr).toNat 0 = c.sl.getD (y - c.addr).toNat 0 := by
      rw [List.getD_eq_getElem?_getD, List.getElem?_set_ne (by omega), ← List.getD_eq_getElem?_getD]
    rw [e]
  · rw [if_neg (fun h => hy h.1), if_neg (fun h => hy h.1)]
theorem fold_filter (M : PA → Bool) (b : BlkS) : ∀ (L : List Int) (p : BlkS × List Int), L.Nodup → (∀ x ∈ L, undP p.1 x = undP b x) → L.foldl (stR M) p = (L.filter (hitR M b)).foldl (stR (fun _ => true)) p
  | [], _, _, _ => rfl
  | x :: L, p, hn, h => by
    have hn2 := List.nodup_cons.1 hn
    have hx := h x (by simp)
    have e1 : hitR M p.1 x = hitR M b x := by unfold hitR; rw [hx]
    rw [List.foldl_cons]
    by_cases hh : hitR M b x = true
    · rw [List.filter_cons_of_pos hh, List.foldl_cons]
      have e2 : hitR (fun _ => true) p.1 x = true := by
        have h3 := hh
        rw [← e1] at h3
        unfold hitR at h3 ⊢
        rw [Bool.and_eq_true] at h3
        rw [h3.1]; rfl
      have e3 : stR M p x = (drpS p.1 x, p.2 ++ [x]) := by unfold stR; rw [if_pos (e1.trans hh)]
      have e4 : stR (fun _ => true) p x = (drpS p.1 x, p.2 ++ [x]) := by unfold stR; rw [if_pos e2]
      rw [e3, e4]
      refine fold_filter M b L _ hn2.2 (fun y hy => ?_)
      have hne : y ≠ x := fun e => hn2.1 (e ▸ hy)
      rw [und_drp (hit_in (e1.trans hh)).1 hne]
      exact h y (by simp [hy])
    · rw [List.filter_cons_of_neg (by simpa using hh)]
      have e3 : stR M p x = p := by unfold stR; rw [if_neg (by rw [e1]; exact hh)]
      rw [e3]
      exact fold_filter M b L p hn2.2 (fun y hy => h y (by simp [hy]))
theorem str_eq_iff {a c : ByteArray} : (a.toList == c.toList) = decide (a = c) := by
  by_cases h : a = c
  · rw [h]; simp
  · have : ¬ a.toList = c.toList := fun e => h (klB_inj e)
    simp [h, this]
theorem adrs_app (b : BlkS) (l m : List Int) : adrs b (l ++ m) = adrs b l ++ adrs b m := List.map_append
theorem und_slot {b : BlkS} (h64 : b.addr % 64 = 0) {n : Nat} (hn : n < 64) : undP b (b.addr + n) = if b.sl.getD n 0 ≠ 0 then (atA b.attrs (b.sl.getD n 0 - 1).toNat, true) else ((em, em), false) := by
  have h1 : inB b.addr (b.addr + n) = true := inB_iff.2 (by omega)
  have h2 : (b.addr + (n : Int) - b.addr).toNat = n := by omega
  unfold undP
  rw [h1, h2]
  by_cases hz : b.sl.getD n 0 ≠ 0
  · rw [if_pos ⟨rfl, hz⟩, if_pos hz]
  · rw [if_neg (fun h => hz h.2), if_neg hz]
/-- The document's Given is what is taken, of those that are meant. -/
theorem gv_filter {b : BlkS} (h64 : b.addr % 64 = 0) (M : PA → Bool) (hd nd : ByteArray) (hM : ∀ p : PA, M p = (((hd.toList == ([] : List UInt8)) || (p.1.toList == hd.toList)) && ((nd.toList == ([] : List UInt8)) || (p.2.toList == nd.toList)))) : ∀ n, n ≤ 64 → (adrs b (memZ (takeN b.sl 64) n)).filter (hitR M b) = gvD b.addr b.sl b.attrs hd nd n
  | 0, _ => rfl
  | n + 1, hn => by
    have ih := gv_filter h64 M hd nd hM n (by omega)
    have hb := takeN_bit b.sl n 64 (Nat.le_refl _)
    rw [decide_eq_true (show n < 64 by omega), Bool.true_and] at hb
    have hgp : gvP b.sl b.attrs hd nd n = (!(b.sl.getD n 0 == 0) && M (atA b.attrs (b.sl.getD n 0 - 1).toNat)) := by
      unfold gvP
      rw [hM]
      rfl
    rw [memZ_succ, gvD, hb, hgp, ← ih]
    by_cases hz : b.sl.getD n 0 = 0
    · have e1 : decide (b.sl.getD n 0 ≠ 0) = false := decide_eq_false (fun h => h hz)
      rw [e1, if_neg (by decide), hz]
      simp
    · have e1 : decide (b.sl.getD n 0 ≠ 0) = true := decide_eq_true hz
      have e2 : (b.sl.getD n 0 == 0) = false := by rw [beq_eq_false_iff_ne]; exact hz
      have e3 : hitR M b (b.addr + n) = M (atA b.attrs (b.sl.getD n 0 - 1).toNat) := by
        unfold hitR
        rw [und_slot h64 (by omega), if_pos hz]
        rfl
      rw [e1, if_pos rfl, adrs_app, List.filter_append, e2]
      congr 1
      show List.filter (hitR M b) [b.addr + (n : Int)] = _
      by_cases hm : M (atA b.attrs (b.sl.getD n 0 - 1).toNat) = true
      · rw [List.filter_cons_of_pos (e3.trans hm), hm]; rfl
      · rw [List.filter_cons_of_neg (by rw [e3]; exact hm)]
        have hm : M (atA b.attrs (b.sl.getD n 0 - 1).toNat) = false := by simpa using hm
        rw [hm]; rfl
theorem nodup_mapI {α : Type} (f : α → Int) (hf : ∀ a c, f a = f c → a = c) : ∀ {l : List α}, l.Nodup → (l.map f).Nodup
  | [], _ => List.nodup_nil
  | a :: l, h => by
    have h1 := List.nodup_cons.1 h
    refine List.nodup_cons.2 ⟨fun ha => ?_, nodup_mapI f hf h1.2⟩
    obtain ⟨x, hx, e⟩ := List.mem_map.1 ha
    exact h1.1 (hf _ _ e ▸ hx)
theorem memZ_nodup (x n : Nat) : (memZ x n).Nodup := by
  unfold memZ
  exact nodup_mapI _ (fun a c h => by omega) (List.Pairwise.filter _ List.nodup_range)
theorem adrs_nodup {b : BlkS} {l : List Int} (h : l.Nodup) : (adrs b l).Nodup := by
  unfold adrs
  exact nodup_mapI _ (fun a c h => by omega) h
/-- What is released under what is meant is what the document releases of what it tells as given. -/
theorem rel_meant {b : BlkS} (h64 : b.addr % 64 = 0) (M : PA → Bool) (hd nd : ByteArray) (hM : ∀ p : PA, M p = (((hd.toList == ([] : List UInt8)) || (p.1.toList == hd.toList)) && ((nd.toList == ([] : List UInt8)) || (p.2.toList == nd.toList)))) : relN M b (adrs b (takeZ b)) (adrs b (takeZ b)).length = relN (fun _ => true) b (gvD b.addr b.sl b.attrs hd nd 64) (gvD b.addr b.sl b.attrs hd nd 64).length := by
  rw [relN_all, relN_all, ← gv_filter h64 M hd nd hM 64 (Nat.le_refl _)]
  exact fold_filter M b _ _ (adrs_nodup (memZ_nodup _ _)) (fun _ _ => rfl)
end
end Go.Proofs.YtgodmnpcedfdcaaGreat
