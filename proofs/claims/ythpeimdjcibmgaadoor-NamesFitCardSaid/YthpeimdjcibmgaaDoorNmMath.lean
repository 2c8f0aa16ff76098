/- Package names: what ties the two ways of a key: how it is written, and how it is read. -/
import Derived.Test.YthpeimdjcibmgaaDoorNmRefs2
namespace Go.Proofs.YthpeimdjcibmgaaDoor
open Go.RowKit Go.Maps
theorem no45 (w : List UInt8) (h : w.all isDig = true) : (45 : UInt8) ∉ w := fun hm => by
  have := isDig_bounds (List.all_eq_true.1 h _ hm)
  simp at this
theorem ip_no45 (a : Int) : (45 : UInt8) ∉ ipTxt a := by
  rw [ipTxt_eq]
  simp only [List.mem_append, List.mem_singleton, not_or]
  refine ⟨⟨⟨⟨⟨⟨no45 _ (dec_all _), by decide⟩, no45 _ (dec_all _)⟩, by decide⟩, no45 _ (dec_all _)⟩, by decide⟩, no45 _ (dec_all _)⟩
theorem repl_key {a b : Int} (hm : mayB a b = true) : repl 45 47 (keyTxt a b) = netText a b := by
  rw [keyTxt_eq hm, List.append_assoc]
  show repl 45 47 (ipTxt a ++ 45 :: Lib.decDigits b.toNat) = _
  rw [repl_app (ip_no45 a)]
  unfold netText
  rw [if_pos hm, netTxt_eq, List.append_assoc]
  rfl
theorem rnet_key {a b : Int} (ha : 0 ≤ a) (ha' : a < 4294967296) (hm : mayB a b = true) : rnet (keyTxt a b) = some (a, b) := by
  unfold rnet
  rw [repl_key hm, netOf_txt ha ha' hm]
  simp
theorem netOf_may {l : List UInt8} {p : Int × Int} (h : netOf l = some p) : mayB p.1 p.2 = true := by
  unfold netOf at h
  cases hi : ipOf (cutS l).1 with
  | none => rw [hi] at h; cases h
  | some a =>
    rw [hi] at h
    simp only [] at h
    split at h
    · rename_i hc
      obtain rfl := Option.some.inj h
      simp only [Bool.and_eq_true] at hc
      exact hc.2.2
    · cases h
theorem rnet_some {l : List UInt8} {p : Int × Int} (h : rnet l = some p) : mayB p.1 p.2 = true ∧ keyTxt p.1 p.2 = l ∧ 0 ≤ p.1 ∧ p.1 < 4294967296 := by
  unfold rnet at h
  cases hn : netOf (repl 45 47 l) with
  | none => rw [hn] at h; cases h
  | some q =>
    rw [hn] at h
    simp only [] at h
    split at h
    · rename_i hk
      obtain rfl := Option.some.inj h
      exact ⟨netOf_may hn, hk, netOf_bd hn⟩
    · cases h
theorem rblk_blk (a : Int) (ha : 0 ≤ a) (ha' : a < 4294967296) : rblk (blkTxt a) = some (a - a % 64) := by
  unfold rblk blkTxt
  rw [rnet_key (by omega) (by omega) (may_blk a ha ha')]
  rfl
theorem may26 {a : Int} (h : mayB a 26 = true) : a % 64 = 0 := by
  unfold mayB at h
  rw [hole26, Bool.and_eq_true] at h
  exact of_decide_eq_true h.2
theorem rblk_some {l : List UInt8} {a : Int} (h : rblk l = some a) : l = blkTxt a ∧ a - a % 64 = a ∧ 0 ≤ a ∧ a < 4294967296 := by
  unfold rblk at h
  cases hn : rnet l with
  | none => rw [hn] at h; cases h
  | some p =>
    rw [hn] at h
    simp only [] at h
    split at h
    · rename_i hb
      obtain rfl := Option.some.inj h
      obtain ⟨hm, hk, h0, h1⟩ := rnet_some hn
      rw [hb] at hm hk
      have hz := may26 hm
      have he : p.1 - p.1 % 64 = p.1 := by omega
      refine ⟨?_, he, h0, h1⟩
      unfold blkTxt
      rw [he]
      exact hk.symm
    · cases h
theorem data_append (p x : ByteArray) : (p ++ x).data.toList = p.data.toList ++ x.data.toList := by simp
theorem starts_app (p x : ByteArray) : starts (p ++ x) p = true := by
  unfold starts Lib.hasPrefix
  rw [data_append]
  exact List.isPrefixOf_iff_prefix.2 (List.prefix_append _ _)
theorem rest_app (p x : ByteArray) : rest (p ++ x) p = x := by
  unfold rest Lib.trimPrefix
  have h : Lib.hasPrefix (p ++ x).data.toList p.data.toList = true := starts_app p x
  rw [if_pos h, data_append, List.drop_left]
theorem rest_eq {s p : ByteArray} (h : starts s p = true) : s = p ++ rest s p := by
  have h1 : Lib.hasPrefix s.data.toList p.data.toList = true := h
  have h2 : p.data.toList <+: s.data.toList := List.isPrefixOf_iff_prefix.1 h1
  obtain ⟨t, ht⟩ := h2
  unfold rest Lib.trimPrefix
  rw [if_pos h1, ← ht, List.drop_left]
  have e1 : p = ⟨p.data.toList.toArray⟩ := (Lib.mk_data p).symm
  calc s = ⟨s.data.toList.toArray⟩ := (Lib.mk_data s).symm
    _ = ⟨(p.data.toList ++ t).toArray⟩ := by rw [ht]
    _ = ⟨p.data.toList.toArray⟩ ++ ⟨t.toArray⟩ := (mk_append _ _).symm
    _ = p ++ ⟨t.toArray⟩ := by rw [← e1]
theorem head_of {s p : ByteArray} (h : starts s p = true) {c : UInt8} {t : List UInt8} (hp : p.data.toList = c :: t) : s.data.toList.head? = some c := by
  have h1 : Lib.hasPrefix s.data.toList p.data.toList = true := h
  obtain ⟨x, hx⟩ := List.isPrefixOf_iff_prefix.1 h1
  rw [← hx, hp]; simp
theorem not_starts {s p q : ByteArray} (h : starts s p = true) {c d : UInt8} {t u : List UInt8} (hp : p.data.toList = c :: t) (hq : q.data.toList = d :: u) (hcd : c ≠ d) : starts s q = false := by
  cases hs : starts s q with
  | false => rfl
  | true =>
    have h1 := head_of h hp
    have h2 := head_of hs hq
    rw [h1] at h2
    exact absurd (Option.some.inj h2) hcd
theorem okName_no47 {l : List UInt8} (h : okName l = true) : (47 : UInt8) ∉ l := fun hm => by
  unfold okName at h
  rw [Bool.and_eq_true] at h
  have := List.all_eq_true.1 h.2 _ hm
  revert this
  decide
theorem cutS_no : ∀ l : List UInt8, (cutS l).2.2 = false → (cutS l).2.1 = []
  | [], _ => rfl
  | c :: l, h => by
    rw [cutS_cons] at h ⊢
    split at h
    · cases h
    · rename_i hc
      rw [if_neg hc]
      exact cutS_no l h
theorem cutS_yes : ∀ l : List UInt8, (cutS l).2.2 = true → l = (cutS l).1 ++ 47 :: (cutS l).2.1
  | [], h => by cases h
  | c :: l, h => by
    rw [cutS_cons] at h ⊢
    split at h
    · rename_i hc
      rw [if_pos hc, hc]
      rfl
    · rename_i hc
      rw [if_neg hc]
      simp only [List.cons_append]
      rw [← cutS_yes l h]
theorem rblk_nil : rblk [] = none := by kernel_rfl
theorem cut_of {s x : ByteArray} (h : okName s.data.toList = true) : cutN (s ++ slash ++ x) = s ∧ cutB (s ++ slash ++ x) = x := by
  have hd : (s ++ slash ++ x).data.toList = s.data.toList ++ 47 :: x.data.toList := by
    rw [data_append, data_append, List.append_assoc]
    rfl
  have hc := cutS_app s.data.toList x.data.toList (okName_no47 h)
  unfold cutS at hc
  have hl : slash.data.toList = [47] := rfl
  unfold cutN cutB
  rw [hl, hd, hc]
  exact ⟨Lib.mk_data s, Lib.mk_data x⟩
theorem cut_back {r : ByteArray} {a : Int} (h : rblk (cutB r).data.toList = some a) : r = cutN r ++ slash ++ ⟨(blkTxt a).toArray⟩ := by
  have hb := (rblk_some h).1
  have hl : slash.data.toList = [47] := rfl
  have h2 : (cutB r).data.toList = (cutS r.data.toList).2.1 := rfl
  have h1 : (cutN r).data.toList = (cutS r.data.toList).1 := rfl
  cases hf : (cutS r.data.toList).2.2 with
  | false =>
    rw [h2, cutS_no _ hf, rblk_nil] at h
    cases h
  | true =>
    have hy := cutS_yes _ hf
    rw [← h1, ← h2, hb] at hy
    calc r = ⟨r.data.toList.toArray⟩ := (Lib.mk_data r).symm
      _ = ⟨((cutN r).data.toList ++ [47] ++ blkTxt a).toArray⟩ := by rw [hy, List.append_assoc]; rfl
      _ = ⟨(cutN r).data.toList.toArray⟩ ++ slash ++ ⟨(blkTxt a).toArray⟩ := by rw [← mk_append, ← mk_append]
      _ = cutN r ++ slash ++ ⟨(blkTxt a).toArray⟩ := by rw [Lib.mk_data]
end Go.Proofs.YthpeimdjcibmgaaDoor
