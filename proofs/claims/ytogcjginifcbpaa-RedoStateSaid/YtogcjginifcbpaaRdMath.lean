/- Effects and their bytes: apart. -/
import Derived.Test.YtogcjginifcbpaaRdLaw
import Derived.Test.YtogcjginifcbpaaKvInv
import Derived.Deep.CutBlock
namespace Go.Proofs.Ytogcjginifcbpaa
open Go.RowKit Go.Maps
theorem inj8 {a b : Int} (ha : 0 ≤ a ∧ a < 18446744073709551616) (hb : 0 ≤ b ∧ b < 18446744073709551616) (h : putL a 8 = putL b 8) : a = b := by
  have h2 : numBytes a 8 = numBytes b 8 := h
  simp only [numBytes, List.cons.injEq, and_true] at h2
  omega
theorem inj4 {a b : Int} (ha : 0 ≤ a ∧ a < 4294967296) (hb : 0 ≤ b ∧ b < 4294967296) (h : putL a 4 = putL b 4) : a = b := by
  have h2 : numBytes a 4 = numBytes b 4 := h
  simp only [numBytes, List.cons.injEq, and_true] at h2
  omega
theorem put_length (n k : Int) (hk : wOk k = true) : (putL n k).length = k.toNat := by unfold putL; rw [if_pos hk, numBytes_length]
theorem long_inj {s t : ByteArray} {x y : List Int} (hs : s.size < 4294967296) (ht : t.size < 4294967296) (h : longL s ++ x = longL t ++ y) : s = t ∧ x = y := by
  unfold longL at h
  rw [List.append_assoc, List.append_assoc] at h
  obtain ⟨h1, h2⟩ := List.append_inj h (by rw [put_length _ _ rfl, put_length _ _ rfl])
  have h3 := inj4 (by omega) (by omega) h1
  obtain ⟨h4, h5⟩ := List.append_inj h2 (by rw [strI_length, strI_length]; omega)
  exact ⟨by rw [← strOf_strI s, ← strOf_strI t, h4], h5⟩
theorem eff_inj {e f : KEff} (he : rightB e = true) (hf : rightB f = true) (hem : e.rev ≤ 9223372036854775807) (hfm : f.rev ≤ 9223372036854775807) (h : effL e = effL f) : e = f := by
  obtain ⟨_, e2, e3, e4, e5⟩ := rightB_ok he
  obtain ⟨_, f2, f3, f4, f5⟩ := rightB_ok hf
  unfold effL itemL at h
  obtain ⟨h1, h2⟩ := List.append_inj h (by rw [put_length _ _ rfl, put_length _ _ rfl])
  obtain ⟨h3, h4⟩ := List.append_inj h2 (by rw [put_length _ _ rfl, put_length _ _ rfl])
  have hr : e.rev = f.rev := inj8 (by omega) (by omega) h3
  simp only [kl_str] at h4
  obtain ⟨hk, h5⟩ := long_inj (by omega) (by omega) h4
  have h6 : longL e.val ++ [] = longL f.val ++ [] := by rw [List.append_nil, List.append_nil]; exact h5
  obtain ⟨hv, _⟩ := long_inj (by omega) (by omega) h6
  have hg : e.gone = f.gone := by
    have h7 : numBytes (kindOf e) 1 = numBytes (kindOf f) 1 := h1
    unfold kindOf at h7
    cases h8 : e.gone <;> cases h9 : f.gone <;> rw [h8, h9] at h7 <;> first | rfl | (simp [numBytes] at h7)
  obtain ⟨a, b, c, d⟩ := e
  obtain ⟨a', b', c', d'⟩ := f
  simp only [] at hr hk hv hg
  rw [hr, hk, hv, hg]
theorem strI_of {xs : List Int} (h : okB xs) : strI (strOfNums xs) = xs := by
  unfold strI strOfNums
  simp only [List.map_map]
  refine (List.map_congr_left (fun x hx => ?_)).trans (List.map_id xs)
  have := h x hx
  simp only [Function.comp_apply, id_eq]
  rw [UInt8.toNat_ofNat_of_lt' (by show x.toNat < 256; omega)]
  omega
theorem okB_eff (e : KEff) : okB (effL e) := by
  unfold effL itemL longL
  exact okB_append (okB_put _ _) (okB_append (okB_put _ _) (okB_append (okB_append (okB_put _ _) (okB_str _)) (okB_append (okB_put _ _) (okB_str _))))
theorem eff_text {e f : KEff} (he : rightB e = true) (hf : rightB f = true) (hem : e.rev ≤ 9223372036854775807) (hfm : f.rev ≤ 9223372036854775807) : ((strOfNums (effL e)).toList == (strOfNums (effL f)).toList) = decide (e.key = f.key ∧ e.val = f.val ∧ e.rev = f.rev ∧ e.gone = f.gone) := by
  rw [eqB]
  by_cases h : e.key = f.key ∧ e.val = f.val ∧ e.rev = f.rev ∧ e.gone = f.gone
  · have : e = f := by
      obtain ⟨a, b, c, d⟩ := e
      obtain ⟨a', b', c', d'⟩ := f
      simp only [] at h
      rw [h.1, h.2.1, h.2.2.1, h.2.2.2]
    subst this
    simp
  · have hn : ¬ strOfNums (effL e) = strOfNums (effL f) := fun hh => h (by
      have h2 : effL e = effL f := by rw [← strI_of (okB_eff e), ← strI_of (okB_eff f), hh]
      have := eff_inj he hf hem hfm h2
      subst this
      exact ⟨rfl, rfl, rfl, rfl⟩)
    rw [decide_eq_false hn, decide_eq_false h]
end Go.Proofs.Ytogcjginifcbpaa
