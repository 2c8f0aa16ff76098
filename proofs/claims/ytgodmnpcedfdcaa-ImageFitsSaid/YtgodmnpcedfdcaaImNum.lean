/- Package image: a number, a name, appended to bytes of the call's own. -/
import Derived.Test.YtgodmnpcedfdcaaBkJ
import Derived.Test.YtgodmnpcedfdcaaPkP
import Derived.Lib.SlBytesConst
import Derived.Lib.AppendZeros
namespace Go.Proofs.Ytgodmnpcedfdcaa
open Go.RowKit
theorem imOne_sees (w : World) (c : Int) : Sees (w.alloc (.cells #[.int .u8 c] 5 (1, 2))) (.slice (some ⟨w.heap.size, 0, none⟩) 1 1) [c] := by
  refine ⟨some ⟨w.heap.size, 0, none⟩, 1, rfl, Nat.le_refl _, (fun h => by cases h), fun a ha i hi => ?_⟩
  cases ha
  have hi0 : i = 0 := by simpa using hi
  subst hi0
  have := heap_new w (.cells #[.int .u8 c] 5 (1, 2))
  rw [add0]
  simp only [World.cell?, this]
  rfl
theorem imPutL_ne {n k : Int} (h0 : 1 ≤ k) (h1 : k ≤ 8) : (putL n k).length = k.toNat := by
  unfold putL
  rw [if_pos (by unfold wOk; simp; omega), numBytes_length]
theorem imCells_at {w : World} {g : Nat} {xs : List Int} (h : ∀ i, i < xs.length → w.cell? ⟨g, i, none⟩ = some (.int .u8 (xs.getD i 0))) : ∀ j u, (cells8 xs)[j]? = some u → w.cell? ((⟨g, 0, none⟩ : Addr).add j) = some u := by
  intro j u hj
  have hjl : j < xs.length := by
    have := (List.getElem?_eq_some_iff.1 hj).1
    simpa using this
  rw [getD_cells hjl] at hj
  rw [← hj, add0]
  exact h j hjl
theorem imCells_one (xs : List Int) : ∀ u ∈ cells8 xs, u.oneCell' = true := fun u hu => by obtain ⟨z, _, rfl⟩ := List.mem_map.1 hu; rfl
set_option maxHeartbeats 2000000 in
theorem imNum_own (B : Nat) (v : Value) (xs : List Int) (n k : Int) (w : World) (h : Owns w B v xs) (hx : xs ≠ []) (hl : xs.length ≤ 100000000) (hk0 : 1 ≤ k) (hk1 : k ≤ 8) (hB : B ≤ w.heap.size) :
    Calls Try.prog 66 #[v, .int .u64 n, .int .i64 k] w fun e w' => ∃ g c, e = .returned (.slice (some ⟨g, 0, none⟩) (xs ++ putL n k).length c) ∧ Owns w' B (.slice (some ⟨g, 0, none⟩) (xs ++ putL n k).length c) (xs ++ putL n k) ∧ Below B w w' ∧ ∀ d, d < w.heap.size → v.ownBlock ≠ some d → w'.heap[d]? = w.heap[d]? := by
  obtain ⟨i0, hi, hz0, hz1, hz2⟩ := info_parts info8
  have hpl := imPutL_ne (n := n) hk0 hk1
  have HP := Lib.hid (put_any (.slice none 0 0) [] n k w (Sees.nil w) (by simp))
  obtain ⟨P, hP⟩ : ∃ P, P = putL n k := ⟨_, rfl⟩
  rw [← hP] at hpl HP ⊢
  have hne : P ≠ [] := by intro e; rw [e] at hpl; simp at hpl; omega
  have HN := Lib.hid hne
  have HL : Hid (P.length ≤ 8) := Lib.hid (by omega)
  obtain ⟨g, cap, rfl, hBg, hgl, hnc, -, -⟩ := h.at hx
  have HO := Lib.hid h
  clear hP hne hpl h
  go_enter Try.func66, Try.ntmps66
  go_wp2_with fail
  refine HP.out.mono ?_; rintro e w1 ⟨v1, rfl, ho1, hb1⟩
  rw [List.nil_append] at ho1
  obtain ⟨g1, c1, rfl, -, -, -, hc1, -⟩ := ho1.at HN.out
  have HS := Lib.hid (imCells_at hc1)
  have HO1 := Lib.hid (HO.out.keep hb1)
  have HB1 := Lib.hid (hb1.mono hB)
  have HBB := Lib.hid hb1
  clear ho1 hb1 hc1
  have hl8 := HL.out
  go_wp2_with (at_builtin; refine wpList_append_own _ rfl _ _ 24 rfl B 5 i0 (.int .u8 0) 1 1 Try.underlying24 hi hz0 hz1 hz2 rfl (by decide) _ _ _ rfl HO1.out ⟨g1, 0, none⟩ P.length c1 (cells8 P) rfl (by simp) HS.out (imCells_one P) (by unfold maxLen; omega) (by omega) (Nat.le_trans hB HB1.out.size) ?_; intro v' w' ho' hg' hn')
  have ho2 : Owns w' B v' (xs ++ P) := by unfold Owns cells8; rw [List.length_append, List.map_append]; exact ho'
  obtain ⟨g2, c2, rfl, -⟩ := ho2.at (by simp [hx])
  go_ret
  exact ⟨g2, c2, rfl, ho2, HB1.out.grown hg' (Nat.le_trans hB HB1.out.size) (fun j hj => by cases hj; exact hBg), fun d hd hne => (hg'.block d (Nat.lt_of_lt_of_le hd HBB.out.size) (fun e => hne e.symm)).trans (HBB.out.block d hd)⟩
set_option maxHeartbeats 2000000 in
/-- The first number behind a constant's bytes: a new row. -/
theorem imNum_first (a : Addr) (xs : List Int) (n k : Int) (w : World) (h : Sees w (.slice (some a) xs.length xs.length) xs) (hl : xs.length ≤ 100000000) (hk0 : 1 ≤ k) (hk1 : k ≤ 8) :
    Calls Try.prog 66 #[.slice (some a) xs.length xs.length, .int .u64 n, .int .i64 k] w fun e w' => ∃ g c, e = .returned (.slice (some ⟨g, 0, none⟩) (xs ++ putL n k).length c) ∧ Owns w' w.heap.size (.slice (some ⟨g, 0, none⟩) (xs ++ putL n k).length c) (xs ++ putL n k) ∧ Below w.heap.size w w' := by
  obtain ⟨i0, hi, hz0, hz1, hz2⟩ := info_parts info8
  have hpl := imPutL_ne (n := n) hk0 hk1
  have HP := Lib.hid (put_any (.slice none 0 0) [] n k w (Sees.nil w) (by simp))
  obtain ⟨P, hP⟩ : ∃ P, P = putL n k := ⟨_, rfl⟩
  rw [← hP] at hpl HP ⊢
  have hne : P ≠ [] := by intro e; rw [e] at hpl; simp at hpl; omega
  have HN := Lib.hid hne
  have HL : Hid (0 < P.length ∧ P.length ≤ 8) := Lib.hid (by omega)
  have HO := Lib.hid h
  clear hP hne hpl h
  go_enter Try.func66, Try.ntmps66
  go_wp2_with fail
  refine HP.out.mono ?_; rintro e w1 ⟨v1, rfl, ho1, hb1⟩
  rw [List.nil_append] at ho1
  obtain ⟨g1, c1, rfl, -, -, -, hc1, -⟩ := ho1.at HN.out
  have hxs : ∀ j u, (cells8 xs)[j]? = some u → w1.cell? (a.add j) = some u := by
    obtain ⟨ao, c, e, -, -, hc⟩ := HO.out.keep hb1
    obtain rfl : ao = some a := by cases e; rfl
    intro j u hj
    have hjl : j < xs.length := by
      have := (List.getElem?_eq_some_iff.1 hj).1
      simpa using this
    rw [getD_cells hjl] at hj
    rw [← hj]
    exact hc a rfl j hjl
  have h8 := HL.out
  have hr : ∀ ty, (Builtin.append_ #[24, 24] ty #[.slice (some a) xs.length xs.length, .slice (some ⟨g1, 0, none⟩) P.length c1]).run Try.prog w1 = .ok (.slice (some ⟨w1.heap.size, 0, none⟩) (xs.length + P.length) (grownCap w1 (xs.length + P.length) xs.length 5)) (w1.drew.alloc (.cells ((cells8 xs).toArray ++ (cells8 P).toArray ++ Builtin.zeroCells (Value.int .u8 0).cells (grownCap w1 (xs.length + P.length) xs.length 5 - (xs.length + P.length))) 5)) := fun ty =>
    run_append_grow (P := Try.prog) w1 24 ty 5 i0 _ Try.underlying24 hi hz0 a xs.length xs.length (cells8 xs) (by rw [hz1]; simp) hxs ⟨g1, 0, none⟩ P.length c1 (cells8 P) (by rw [hz1]; simp) (imCells_at hc1) (by omega) (by omega) (by rw [hz2]; exact growslice_fits (by omega) (by omega))
  have hG := grownCap_ge w1 (xs.length + P.length) xs.length 5
  have hGm := grownCap_le_maxLen w1 (xs.length + P.length) xs.length 5 (by unfold maxLen; omega)
  generalize grownCap w1 (xs.length + P.length) xs.length 5 = G at hr hG hGm
  obtain ⟨C, hC⟩ : ∃ C, C = (cells8 xs).toArray ++ (cells8 P).toArray ++ Builtin.zeroCells (Value.int .u8 0).cells (G - (xs.length + P.length)) := ⟨_, rfl⟩
  rw [← hC] at hr
  have HOUT : Hid (Owns (w1.drew.alloc (.cells C 5)) w.heap.size (.slice (some ⟨w1.heap.size, 0, none⟩) (xs ++ P).length G) (xs ++ P)) := Lib.hid (by
    refine ⟨by simp, Or.inr ⟨w1.heap.size, G, C, rfl, hb1.size, heap_new w1.drew _, by rw [List.length_append]; exact hG, hGm, ?_, ?_⟩⟩
    · rw [hC]
      have hz : (Value.int .u8 0).cells.size = 1 := rfl
      simp only [Builtin.zeroCells, Array.size_append, List.size_toArray, Array.size_map, Array.size_range, hz, List.length_map]
      omega
    · rw [hC]
      simp [List.take_append]
      rw [List.take_of_length_le (by simp)])
  have HBO : Hid (Below w.heap.size w (w1.drew.alloc (.cells C 5))) := Lib.hid (by
    have h0 : Below w.heap.size w w1.drew := ⟨hb1.os, hb1.tape, hb1.output, hb1.size, hb1.block⟩
    exact h0.alloc h0.size _)
  clear hC hG hGm hxs hc1 ho1 hb1 h8
  go_wp2_with (at_builtin; refine Lib.wpList_append_run _ rfl _ _ _ _ rfl _ _ rfl rfl _ _ (hr _) ?_)
  go_ret
  refine ⟨w1.heap.size, G, ?_, HOUT.out, HBO.out⟩
  rw [List.length_append]
  rfl
theorem textL_len (s : ByteArray) : (textL s).length = s.size + 1 := by unfold textL; rw [List.length_cons, strI_length]
set_option maxHeartbeats 2000000 in
theorem imName_own (B : Nat) (v : Value) (xs : List Int) (s : ByteArray) (w : World) (h : Owns w B v xs) (hx : xs ≠ []) (hl : xs.length ≤ 100000000) (hs : s.size ≤ 64) (hB : B ≤ w.heap.size) :
    Calls Try.prog 67 #[v, .string s] w fun e w' => ∃ g c, e = .returned (.slice (some ⟨g, 0, none⟩) (xs ++ textL s).length c) ∧ Owns w' B (.slice (some ⟨g, 0, none⟩) (xs ++ textL s).length c) (xs ++ textL s) ∧ Below B w w' ∧ ∀ d, d < w.heap.size → v.ownBlock ≠ some d → w'.heap[d]? = w.heap[d]? := by
  obtain ⟨i0, hi, hz0, hz1, hz2⟩ := info_parts info8
  have hpl := textL_len s
  have HP := Lib.hid (textPut_any (.slice none 0 0) [] s w (Sees.nil w) (by simp) hs)
  obtain ⟨P, hP⟩ : ∃ P, P = textL s := ⟨_, rfl⟩
  rw [← hP] at hpl HP ⊢
  have hne : P ≠ [] := by intro e; rw [e] at hpl; simp at hpl
  have HN := Lib.hid hne
  have HL : Hid (P.length ≤ 65) := Lib.hid (by omega)
  obtain ⟨g, cap, rfl, hBg, hgl, hnc, -, -⟩ := h.at hx
  have HO := Lib.hid h
  clear hP hne hpl h hs
  go_enter Try.func67, Try.ntmps67
  go_wp2_with fail
  refine HP.out.mono ?_; rintro e w1 ⟨v1, rfl, ho1, hb1⟩
  rw [List.nil_append] at ho1
  obtain ⟨g1, c1, rfl, -, -, -, hc1, -⟩ := ho1.at HN.out
  have HS := Lib.hid (imCells_at hc1)
  have HO1 := Lib.hid (HO.out.keep hb1)
  have HB1 := Lib.hid (hb1.mono hB)
  have HBB := Lib.hid hb1
  clear ho1 hb1 hc1
  have hl8 := HL.out
  go_wp2_with (at_builtin; refine wpList_append_own _ rfl _ _ 24 rfl B 5 i0 (.int .u8 0) 1 1 Try.underlying24 hi hz0 hz1 hz2 rfl (by decide) _ _ _ rfl HO1.out ⟨g1, 0, none⟩ P.length c1 (cells8 P) rfl (by simp) HS.out (imCells_one P) (by unfold maxLen; omega) (by omega) (Nat.le_trans hB HB1.out.size) ?_; intro v' w' ho' hg' hn')
  have ho2 : Owns w' B v' (xs ++ P) := by unfold Owns cells8; rw [List.length_append, List.map_append]; exact ho'
  obtain ⟨g2, c2, rfl, -⟩ := ho2.at (by simp [hx])
  go_ret
  exact ⟨g2, c2, rfl, ho2, HB1.out.grown hg' (Nat.le_trans hB HB1.out.size) (fun j hj => by cases hj; exact hBg), fun d hd hne => (hg'.block d (Nat.lt_of_lt_of_le hd HBB.out.size) (fun e => hne e.symm)).trans (HBB.out.block d hd)⟩
end Go.Proofs.Ytgodmnpcedfdcaa
