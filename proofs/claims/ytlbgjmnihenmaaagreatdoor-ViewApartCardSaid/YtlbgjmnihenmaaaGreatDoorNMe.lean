/- Joined: NmRefs NmRefs2 NmMath. -/
import Derived.Test.YtlbgjmnihenmaaaGreatDoorNMd
namespace Go.Proofs.YtlbgjmnihenmaaaGreatDoor.NM
section
open Go.RowKit Go.Maps
theorem dec_no47 (u : Nat) : (47 : UInt8) ∉ Lib.decDigits u := fun h => by
  have := List.all_eq_true.1 (dec_all u) 47 h
  revert this
  decide
theorem ip_no47 (a : Int) : (47 : UInt8) ∉ ipTxt a := by
  rw [ipTxt_eq]
  have h (u : Nat) := dec_no47 u
  simp only [List.mem_append, List.mem_cons, List.not_mem_nil, or_false, h, false_or]
  decide
theorem keyTxt_eq {a b : Int} (h : mayB a b = true) : keyTxt a b = ipTxt a ++ [45] ++ Lib.decDigits b.toNat := by
  unfold keyTxt netText
  rw [if_pos h]
  unfold netTxt
  rw [repl_app (ip_no47 a)]
  simp
theorem bcell {w W : World} {a : Addr} {v : Value} (hb : Below w.heap.size w W) (h : w.cell? a = some v) : W.cell? a = some v := by
  have hl : a.block < w.heap.size := by
    rcases Nat.lt_or_ge a.block w.heap.size with hlt | hge
    · exact hlt
    · simp [World.cell?, Array.getElem?_eq_none hge] at h
  exact (hb.cell hl).trans h
end
section
open Go.RowKit Go.Maps
theorem may_blk (a : Int) (_ : 0 ≤ a) (_ : a < 4294967296) : mayB (a - a % 64) 26 = true := by
  have h : (a - a % 64) % 64 = 0 := by omega
  have h2 : bitsOk 26 = true := by decide
  unfold mayB
  rw [hole26, h, h2]
  rfl
theorem blk_size (a : Int) (ha : 0 ≤ a) (ha' : a < 4294967296) : (⟨(blkTxt a).toArray⟩ : ByteArray).size ≤ 20 := by
  rw [size_mk]; exact keyTxt_len _ _ (by omega) (by omega)
end
section
open Go.RowKit Go.Maps
theorem no45 (w : List UInt8) (h : w.all isDig = true) : (45 : UInt8) ∉ w := fun hm => by
  have := isDig_bounds (List.all_eq_true.1 h _ hm)
  simp at this
theorem ip_no45 (a : Int) : (45 : UInt8) ∉ ipTxt a := by
  rw [ipTxt_eq]
  simp only [List.mem_append, List.mem_singleton, not_or]
  refine ⟨⟨⟨⟨⟨⟨no45 _ (dec_all _), by decide⟩, no45 _ (dec_all _)⟩, by decide⟩, no45 _ (dec_all _)⟩, by decide⟩, no45 _ (dec_all _)⟩
theorem repl_key {a b : Int} (hm : mayB a b = true) : repl 45 47 (keyTxt a b) = netText a b := by
  rw [keyTxt_eq hm, List.append_assoc]
  show repl 45 47 (ipTxt a ++ 45 :: Lib.decDigits b.toNat) = _
  rw [repl_app (ip_no45 a)]
  unfold netText
  rw [if_pos hm, netTxt_eq, List.append_assoc]
  rfl
theorem rnet_key {a b : Int} (ha : 0 ≤ a) (ha' : a < 4294967296) (hm : mayB a b = true) : rnet (keyTxt a b) = some (a, b) := by
  unfold rnet
  rw [repl_key hm, netOf_txt ha ha' hm]
  simp
theorem rblk_blk (a : Int) (ha : 0 ≤ a) (ha' : a < 4294967296) : rblk (blkTxt a) = some (a - a % 64) := by
  unfold rblk blkTxt
  rw [rnet_key (by omega) (by omega) (may_blk a ha ha')]
  rfl
theorem data_append (p x : ByteArray) : (p ++ x).data.toList = p.data.toList ++ x.data.toList := by simp
theorem starts_app (p x : ByteArray) : starts (p ++ x) p = true := by
  unfold starts Lib.hasPrefix
  rw [data_append]
  exact List.isPrefixOf_iff_prefix.2 (List.prefix_append _ _)
theorem rest_eq {s p : ByteArray} (h : starts s p = true) : s = p ++ rest s p := by
  have h1 : Lib.hasPrefix s.data.toList p.data.toList = true := h
  have h2 : p.data.toList <+: s.data.toList := List.isPrefixOf_iff_prefix.1 h1
  obtain ⟨t, ht⟩ := h2
  unfold rest Lib.trimPrefix
  rw [if_pos h1, ← ht, List.drop_left]
  have e1 : p = ⟨p.data.toList.toArray⟩ := (Lib.mk_data p).symm
  calc s = ⟨s.data.toList.toArray⟩ := (Lib.mk_data s).symm
    _ = ⟨(p.data.toList ++ t).toArray⟩ := by rw [ht]
    _ = ⟨p.data.toList.toArray⟩ ++ ⟨t.toArray⟩ := (mk_append _ _).symm
    _ = p ++ ⟨t.toArray⟩ := by rw [← e1]
end
end Go.Proofs.YtlbgjmnihenmaaaGreatDoor.NM
