/- Joined: ImNum ImPut ImMath. -/
import Derived.Test.YtgodmnpcedfdcaaGreatJR
import Derived.Test.YtgodmnpcedfdcaaGreatPkP
import Derived.Lib.SlBytesConst
import Derived.Lib.AppendZeros
import Derived.Test.YtgodmnpcedfdcaaGreatJQ
namespace Go.Proofs.YtgodmnpcedfdcaaGreat
section
open Go.RowKit
theorem imOne_sees (w : World) (c : Int) : Sees (w.alloc (.cells #[.int .u8 c] 5 (1, 2))) (.slice (some ⟨w.heap.size, 0, none⟩) 1 1) [c] := by
  refine ⟨some ⟨w.heap.size, 0, none⟩, 1, rfl, Nat.le_refl _, (fun h => by cases h), fun a ha i hi => ?_⟩
  cases ha
  have hi0 : i = 0 := by simpa using hi
  subst hi0
  have := heap_new w (.cells #[.int .u8 c] 5 (1, 2))
  rw [add0]
  simp only [World.cell?, this]
  rfl
theorem imPutL_ne {n k : Int} (h0 : 1 ≤ k) (h1 : k ≤ 8) : (putL n k).length = k.toNat := by
  unfold putL
  rw [if_pos (by unfold wOk; simp; omega), numBytes_length]
theorem imCells_at {w : World} {g : Nat} {xs : List Int} (h : ∀ i, i < xs.length → w.cell? ⟨g, i, none⟩ = some (.int .u8 (xs.getD i 0))) : ∀ j u, (cells8 xs)[j]? = some u → w.cell? ((⟨g, 0, none⟩ : Addr).add j) = some u := by
  intro j u hj
  have hjl : j < xs.length := by
    have := (List.getElem?_eq_some_iff.1 hj).1
    simpa using this
  rw [getD_cells hjl] at hj
  rw [← hj, add0]
  exact h j hjl
theorem imCells_one (xs : List Int) : ∀ u ∈ cells8 xs, u.oneCell' = true := fun u hu => by obtain ⟨z, _, rfl⟩ := List.mem_map.1 hu; rfl
set_option maxHeartbeats 2000000 in
theorem imNum_own (B : Nat) (v : Value) (xs : List Int) (n k : Int) (w : World) (h : Owns w B v xs) (hx : xs ≠ []) (hl : xs.length ≤ 100000000) (hk0 : 1 ≤ k) (hk1 : k ≤ 8) (hB : B ≤ w.heap.size) :
    Calls Tryz.prog 30 #[v, .int .u64 n, .int .i64 k] w fun e w' => ∃ g c, e = .returned (.slice (some ⟨g, 0, none⟩) (xs ++ putL n k).length c) ∧ Owns w' B (.slice (some ⟨g, 0, none⟩) (xs ++ putL n k).length c) (xs ++ putL n k) ∧ Below B w w' ∧ ∀ d, d < w.heap.size → v.ownBlock ≠ some d → w'.heap[d]? = w.heap[d]? := by
  obtain ⟨i0, hi, hz0, hz1, hz2⟩ := info_parts info8
  have hpl := imPutL_ne (n := n) hk0 hk1
  have HP := Lib.hid (put_any (.slice none 0 0) [] n k w (Sees.nil w) (by simp))
  obtain ⟨P, hP⟩ : ∃ P, P = putL n k := ⟨_, rfl⟩
  rw [← hP] at hpl HP ⊢
  have hne : P ≠ [] := by intro e; rw [e] at hpl; simp at hpl; omega
  have HN := Lib.hid hne
  have HL : Hid (P.length ≤ 8) := Lib.hid (by omega)
  obtain ⟨g, cap, rfl, hBg, hgl, hnc, -, -⟩ := h.at hx
  have HO := Lib.hid h
  clear hP hne hpl h
  go_enter Tryz.func30, Tryz.ntmps30
  go_wp2_with fail
  refine HP.out.mono ?_; rintro e w1 ⟨v1, rfl, ho1, hb1⟩
  rw [List.nil_append] at ho1
  obtain ⟨g1, c1, rfl, -, -, -, hc1, -⟩ := ho1.at HN.out
  have HS := Lib.hid (imCells_at hc1)
  have HO1 := Lib.hid (HO.out.keep hb1)
  have HB1 := Lib.hid (hb1.mono hB)
  have HBB := Lib.hid hb1
  clear ho1 hb1 hc1
  have hl8 := HL.out
  go_wp2_with (at_builtin; refine wpList_append_own _ rfl _ _ 25 rfl B 5 i0 (.int .u8 0) 1 1 Tryz.underlying25 hi hz0 hz1 hz2 rfl (by decide) _ _ _ rfl HO1.out ⟨g1, 0, none⟩ P.length c1 (cells8 P) rfl (by simp) HS.out (imCells_one P) (by unfold maxLen; omega) (by omega) (Nat.le_trans hB HB1.out.size) ?_; intro v' w' ho' hg' hn')
  have ho2 : Owns w' B v' (xs ++ P) := by unfold Owns cells8; rw [List.length_append, List.map_append]; exact ho'
  obtain ⟨g2, c2, rfl, -⟩ := ho2.at (by simp [hx])
  go_ret
  exact ⟨g2, c2, rfl, ho2, HB1.out.grown hg' (Nat.le_trans hB HB1.out.size) (fun j hj => by cases hj; exact hBg), fun d hd hne => (hg'.block d (Nat.lt_of_lt_of_le hd HBB.out.size) (fun e => hne e.symm)).trans (HBB.out.block d hd)⟩
set_option maxHeartbeats 2000000 in
/-- The first number behind a constant's bytes: a new row. -/
theorem imNum_first (a : Addr) (xs : List Int) (n k : Int) (w : World) (h : Sees w (.slice (some a) xs.length xs.length) xs) (hl : xs.length ≤ 100000000) (hk0 : 1 ≤ k) (hk1 : k ≤ 8) :
    Calls Tryz.prog 30 #[.slice (some a) xs.length xs.length, .int .u64 n, .int .i64 k] w fun e w' => ∃ g c, e = .returned (.slice (some ⟨g, 0, none⟩) (xs ++ putL n k).length c) ∧ Owns w' w.heap.size (.slice (some ⟨g, 0, none⟩) (xs ++ putL n k).length c) (xs ++ putL n k) ∧ Below w.heap.size w w' := by
  obtain ⟨i0, hi, hz0, hz1, hz2⟩ := info_parts info8
  have hpl := imPutL_ne (n := n) hk0 hk1
  have HP := Lib.hid (put_any (.slice none 0 0) [] n k w (Sees.nil w) (by simp))
  obtain ⟨P, hP⟩ : ∃ P, P = putL n k := ⟨_, rfl⟩
  rw [← hP] at hpl HP ⊢
  have hne : P ≠ [] := by intro e; rw [e] at hpl; simp at hpl; omega
  have HN := Lib.hid hne
  have HL : Hid (0 < P.length ∧ P.length ≤ 8) := Lib.hid (by omega)
  have HO := Lib.hid h
  clear hP hne hpl h
  go_enter Tryz.func30, Tryz.ntmps30
  go_wp2_with fail
  refine HP.out.mono ?_; rintro e w1 ⟨v1, rfl, ho1, hb1⟩
  rw [List.nil_append] at ho1
  obtain ⟨g1, c1, rfl, -, -, -, hc1, -⟩ := ho1.at HN.out
  have hxs : ∀ j u, (cells8 xs)[j]? = some u → w1.cell? (a.add j) = some u := by
    obtain ⟨ao, c, e, -, -, hc⟩ := HO.out.keep hb1
    obtain rfl : ao = some a := by cases e; rfl
    intro j u hj
    have hjl : j < xs.length := by
      have := (List.getElem?_eq_some_iff.1 hj).1
      simpa using this
    rw [getD_cells hjl] at hj
    rw [← hj]
    exact hc a rfl j hjl
  have h8 := HL.out
  have hr : ∀ ty, (Builtin.append_ #[25, 25] ty #[.slice (some a) xs.length xs.length, .slice (some ⟨g1, 0, none⟩) P.length c1]).run Tryz.prog w1 = .ok (.slice (some ⟨w1.heap.size, 0, none⟩) (xs.length + P.length) (grownCap w1 (xs.length + P.length) xs.length 5)) (w1.drew.alloc (.cells ((cells8 xs).toArray ++ (cells8 P).toArray ++ Builtin.zeroCells (Value.int .u8 0).cells (grownCap w1 (xs.length + P.length) xs.length 5 - (xs.length + P.length))) 5)) := fun ty =>
    run_append_grow (P := Tryz.prog) w1 25 ty 5 i0 _ Tryz.underlying25 hi hz0 a xs.length xs.length (cells8 xs) (by rw [hz1]; simp) hxs ⟨g1, 0, none⟩ P.length c1 (cells8 P) (by rw [hz1]; simp) (imCells_at hc1) (by omega) (by omega) (by rw [hz2]; exact growslice_fits (by omega) (by omega))
  have hG := grownCap_ge w1 (xs.length + P.length) xs.length 5
  have hGm := grownCap_le_maxLen w1 (xs.length + P.length) xs.length 5 (by unfold maxLen; omega)
  generalize grownCap w1 (xs.length + P.length) xs.length 5 = G at hr hG hGm
  obtain ⟨C, hC⟩ : ∃ C, C = (cells8 xs).toArray ++ (cells8 P).toArray ++ Builtin.zeroCells (Value.int .u8 0).cells (G - (xs.length + P.length)) := ⟨_, rfl⟩
  rw [← hC] at hr
  have HOUT : Hid (Owns (w1.drew.alloc (.cells C 5)) w.heap.size (.slice (some ⟨w1.heap.size, 0, none⟩) (xs ++ P).length G) (xs ++ P)) := Lib.hid (by
    refine ⟨by simp, Or.inr ⟨w1.heap.size, G, C, rfl, hb1.size, heap_new w1.drew _, by rw [List.length_append]; exact hG, hGm, ?_, ?_⟩⟩
    · rw [hC]
      have hz : (Value.int .u8 0).cells.size = 1 := rfl
      simp only [Builtin.zeroCells, Array.size_append, List.size_toArray, Array.size_map, Array.size_range, hz, List.length_map]
      omega
    · rw [hC]
      simp [List.take_append]
      rw [List.take_of_length_le (by simp)])
  have HBO : Hid (Below w.heap.size w (w1.drew.alloc (.cells C 5))) := Lib.hid (by
    have h0 : Below w.heap.size w w1.drew := ⟨hb1.os, hb1.tape, hb1.output, hb1.size, hb1.block⟩
    exact h0.alloc h0.size _)
  clear hC hG hGm hxs hc1 ho1 hb1 h8
  go_wp2_with (at_builtin; refine Lib.wpList_append_run _ rfl _ _ _ _ rfl _ _ rfl rfl _ _ (hr _) ?_)
  go_ret
  refine ⟨w1.heap.size, G, ?_, HOUT.out, HBO.out⟩
  rw [List.length_append]
  rfl
theorem textL_len (s : ByteArray) : (textL s).length = s.size + 1 := by unfold textL; rw [List.length_cons, strI_length]
set_option maxHeartbeats 2000000 in
theorem imName_own (B : Nat) (v : Value) (xs : List Int) (s : ByteArray) (w : World) (h : Owns w B v xs) (hx : xs ≠ []) (hl : xs.length ≤ 100000000) (hs : s.size ≤ 64) (hB : B ≤ w.heap.size) :
    Calls Tryz.prog 31 #[v, .string s] w fun e w' => ∃ g c, e = .returned (.slice (some ⟨g, 0, none⟩) (xs ++ textL s).length c) ∧ Owns w' B (.slice (some ⟨g, 0, none⟩) (xs ++ textL s).length c) (xs ++ textL s) ∧ Below B w w' ∧ ∀ d, d < w.heap.size → v.ownBlock ≠ some d → w'.heap[d]? = w.heap[d]? := by
  obtain ⟨i0, hi, hz0, hz1, hz2⟩ := info_parts info8
  have hpl := textL_len s
  have HP := Lib.hid (textPut_any (.slice none 0 0) [] s w (Sees.nil w) (by simp) hs)
  obtain ⟨P, hP⟩ : ∃ P, P = textL s := ⟨_, rfl⟩
  rw [← hP] at hpl HP ⊢
  have hne : P ≠ [] := by intro e; rw [e] at hpl; simp at hpl
  have HN := Lib.hid hne
  have HL : Hid (P.length ≤ 65) := Lib.hid (by omega)
  obtain ⟨g, cap, rfl, hBg, hgl, hnc, -, -⟩ := h.at hx
  have HO := Lib.hid h
  clear hP hne hpl h hs
  go_enter Tryz.func31, Tryz.ntmps31
  go_wp2_with fail
  refine HP.out.mono ?_; rintro e w1 ⟨v1, rfl, ho1, hb1⟩
  rw [List.nil_append] at ho1
  obtain ⟨g1, c1, rfl, -, -, -, hc1, -⟩ := ho1.at HN.out
  have HS := Lib.hid (imCells_at hc1)
  have HO1 := Lib.hid (HO.out.keep hb1)
  have HB1 := Lib.hid (hb1.mono hB)
  have HBB := Lib.hid hb1
  clear ho1 hb1 hc1
  have hl8 := HL.out
  go_wp2_with (at_builtin; refine wpList_append_own _ rfl _ _ 25 rfl B 5 i0 (.int .u8 0) 1 1 Tryz.underlying25 hi hz0 hz1 hz2 rfl (by decide) _ _ _ rfl HO1.out ⟨g1, 0, none⟩ P.length c1 (cells8 P) rfl (by simp) HS.out (imCells_one P) (by unfold maxLen; omega) (by omega) (Nat.le_trans hB HB1.out.size) ?_; intro v' w' ho' hg' hn')
  have ho2 : Owns w' B v' (xs ++ P) := by unfold Owns cells8; rw [List.length_append, List.map_append]; exact ho'
  obtain ⟨g2, c2, rfl, -⟩ := ho2.at (by simp [hx])
  go_ret
  exact ⟨g2, c2, rfl, ho2, HB1.out.grown hg' (Nat.le_trans hB HB1.out.size) (fun j hj => by cases hj; exact hBg), fun d hd hne => (hg'.block d (Nat.lt_of_lt_of_le hd HBB.out.size) (fun e => hne e.symm)).trans (HBB.out.block d hd)⟩
end
section
open Go.RowKit
/-- An attribute's bytes. -/
def attrL (p : PA) : List Int := textL p.1 ++ textL p.2
def imH (b : BlkS) : List Int := (([66] ++ putL b.addr 4) ++ textL b.aff) ++ [(b.attrs.length : Int)]
/-- A block's bytes. -/
def imB (b : BlkS) : List Int := (((imH b ++ b.attrs.flatMap attrL) ++ b.sl) ++ [(b.free.length : Int)]) ++ b.free
/-- Bytes of the call's own that are not nil. -/
def ImS (W wr : World) (u : Value) (xs : List Int) : Prop := (∃ g c, u = .slice (some ⟨g, 0, none⟩) xs.length c) ∧ Owns wr W.heap.size u xs ∧ Below W.heap.size W wr
theorem okName_size {s : ByteArray} (h : okName s.data.toList = true) : 1 ≤ s.size ∧ s.size ≤ 64 := by
  unfold okName at h
  rw [Bool.and_eq_true, decide_eq_true_eq] at h
  have := h.1
  rw [Array.length_toList] at this
  exact this
theorem ownB_size {s : ByteArray} (h : ownB s = true) : s.size ≤ 64 := by
  unfold ownB at h
  rw [Bool.or_eq_true, decide_eq_true_eq] at h
  rcases h with h | h
  · omega
  · exact (okName_size h).2
theorem attrL_bd {p : PA} (h : mayP p = true) : (1 ≤ p.1.size ∧ p.1.size ≤ 64) ∧ 1 ≤ p.2.size ∧ p.2.size ≤ 64 := by
  unfold mayP at h
  rw [Bool.and_eq_true] at h
  exact ⟨okName_size h.1, okName_size h.2⟩
theorem attrL_len (p : PA) : (attrL p).length = p.1.size + p.2.size + 2 := by unfold attrL; rw [List.length_append, textL_len, textL_len]; omega
theorem attrs_len : ∀ {L : List PA}, (∀ p ∈ L, mayP p = true) → L.length * 4 ≤ (L.flatMap attrL).length ∧ (L.flatMap attrL).length ≤ L.length * 130
  | [], _ => by simp
  | p :: L, h => by
    have ih := attrs_len (L := L) (fun q hq => h q (by simp [hq]))
    have := attrL_bd (h p (by simp))
    rw [List.flatMap_cons, List.length_append, attrL_len, List.length_cons]
    omega
theorem right_may {b : BlkS} (hl : b.sl.length = 64) (h : rightB b = true) : ∀ p ∈ b.attrs, mayP p = true := fun p hp => by
  obtain ⟨i, hi, e⟩ := List.getElem_of_mem hp
  have := (((right_iff b hl).1 h).2.2.2.1 i hi).1
  rw [List.getD_eq_getElem?_getD, List.getElem?_eq_getElem hi, e] at this
  exact this
theorem imPutL_one (x : Int) (h0 : 0 ≤ x) (h1 : x ≤ 255) : putL x 1 = [x] := by
  have e : putL x 1 = numBytes x 1 := by unfold putL wOk; rw [if_pos (by decide)]; rfl
  rw [e]
  simp only [numBytes, Int.pow_zero, Int.ediv_one]
  rw [Int.emod_eq_of_lt (by omega) (by omega)]
theorem imH_len {b : BlkS} (_ : ownB b.aff = true) : (imH b).length = b.aff.size + 7 := by
  unfold imH
  rw [List.length_append, List.length_append, List.length_append, textL_len, imPutL_ne (by decide) (by decide)]
  have : (4 : Int).toNat = 4 := rfl
  simp
  omega
theorem flat_snoc {L : List PA} {i : Nat} {p : PA} (hp : L[i]? = some p) : (L.take (i + 1)).flatMap attrL = ((L.take i).flatMap attrL ++ textL p.1) ++ textL p.2 := by
  rw [List.take_add_one, hp, List.flatMap_append]
  simp [attrL]
theorem ImS.at {W wr : World} {u : Value} {xs : List Int} (h : ImS W wr u xs) : ∃ g c, u = .slice (some ⟨g, 0, none⟩) xs.length c ∧ Owns wr W.heap.size (.slice (some ⟨g, 0, none⟩) xs.length c) xs ∧ Below W.heap.size W wr := by
  obtain ⟨⟨g, c, rfl⟩, h2, h3⟩ := h
  exact ⟨g, c, rfl, h2, h3⟩
theorem own_neA {w : World} {B g n c k : Nat} {xs : List Value} {p : PA} (h : w.ownsRow B 5 1 (.slice (some ⟨g, 0, none⟩) n c) n xs) (hk : w.heap[k]? = some (atO p)) : (Value.slice (some ⟨g, 0, none⟩) n c).ownBlock ≠ some k := fun e => by
  obtain rfl : g = k := Option.some.inj e
  obtain ⟨_, ⟨e1, _⟩ | ⟨g', cap, cur, e1, _, hg, _⟩⟩ := h
  · cases e1
  · cases e1
    rw [hk] at hg
    have h2 := Option.some.inj hg
    injection h2 with _ h3
    exact absurd h3 (by decide)
set_option maxRecDepth 100000 in
set_option maxHeartbeats 16000000 in
theorem imPut_any (b : BlkS) (fv av : Value) (w : World) (hf : Sees w fv b.free) (ha : SeesA w av b.attrs) (hw : BWf b) (hr : rightB b = true) :
    Calls Tryz.prog 7 #[.agg (blkL b fv av).toArray] w fun e w' => e = .returned (.tuple #[.string (strOfNums (imB b)), .int .i64 0]) ∧ Below w.heap.size w w' := by
  have kc := fun (w : World) (C : Array Value) (n c : Nat) => Lib.run_convert_bytes_const (P := Tryz.prog) w 25 5 C n c Tryz.underlying25 Tryz.underlying5
  obtain ⟨W, hW⟩ : ∃ W, W = w.alloc (blkO b fv av) := ⟨_, rfl⟩
  have hb0 : Below w.heap.size w W := by rw [hW]; exact belNew _ _
  have hA : BlkAt W w.heap.size b fv av := by rw [hW]; exact heap_new w _
  have HX0 := Lib.hid hA
  have HB0 := Lib.hid hb0
  have HW := Lib.hid hW
  have HRB := Lib.hid (rightBlk_any (blkL b fv av).toArray b W ⟨fv, av, rfl, hf.keep hb0, ha.below hb0, hw⟩)
  have hl := hw.2.1
  have HM := Lib.hid (right_may hl hr)
  have HOK := Lib.hid (And.intro hw.2.2.1 hw.2.2.2.1)
  obtain ⟨h64, hown, hal, hsl⟩ := right_bd hw hr
  obtain ⟨hfo, _, hfl⟩ := right_free hr
  have hasz := ownB_size hown
  have hH := imH_len hown
  have HI := Lib.hid (fun (i : Nat) (hi : i < 64) (w : World) => index64 (get64 hl hi) hl w)
  obtain ⟨ao, ac, rfl, hac, han, hav⟩ := ha.below hb0
  obtain ⟨fo, fc, rfl, hfc, hfn, hfv⟩ := hf.keep hb0
  have HA := Lib.hid (And.intro han hav)
  have HF := Lib.hid (And.intro hfn hfv)
  have hwa : IntKind.u64.wrap b.addr = b.addr := by have := hw.1; rw [IntKind.wrap_u64]; omega
  have hwl : IntKind.u64.wrap (b.attrs.length : Int) = (b.attrs.length : Int) := by rw [IntKind.wrap_u64]; omega
  have hwf : IntKind.u64.wrap (b.free.length : Int) = (b.free.length : Int) := by rw [IntKind.wrap_u64]; omega
  have HP1 := Lib.hid (imPutL_one (b.attrs.length : Int) (by omega) (by omega))
  have HP2 := Lib.hid (imPutL_one (b.free.length : Int) (by omega) (by omega))
  have HFL := Lib.hid (attrs_len (right_may hl hr))
  have HALN := Lib.hid hal
  have HFLN := Lib.hid hfl
  have HHL := Lib.hid (And.intro hH hasz)
  rw [hr] at HRB
  clear hW hb0 hA hf ha hw hr hfo hsl hown h64 han hav hfn hfv hH hasz
  go_enter Tryz.func7, Tryz.ntmps7
  go_upto_region 1 with fail
  change Code.wp _ _ _ _ (w.alloc (blkO b (.slice fo b.free.length fc) (.slice ao b.attrs.length ac)))
  rw [← HW.out]
  clear HW
  go_wp2_with (refine wpLdB rfl _ rfl rfl HX0.out hl ?_)
  refine HRB.out.mono ?_; rintro e w1 ⟨rfl, hb1⟩
  have HX1 := Lib.hid (HX0.out.below hb1)
  obtain ⟨w2, hw2⟩ : ∃ w2, w2 = w1.alloc (.cells #[.int .u8 66] 5 (1, 2)) := ⟨_, rfl⟩
  have hb2 : Below w1.heap.size w1 w2 := by rw [hw2]; exact belNew _ _
  have c0 := HX1.out.addr
  have HX2 := Lib.hid (HX1.out.below hb2)
  have HB2 := Lib.hid (bel hb1 hb2)
  have HN1 := Lib.hid (imNum_first ⟨w1.heap.size, 0, none⟩ [66] b.addr 4 w2 (by rw [hw2]; exact imOne_sees w1 66) (by simp) (by decide) (by decide))
  have HW2 := Lib.hid hw2
  have c2 : (w1.alloc (.cells #[.int .u8 66] 5 (1, 2))).cell? ⟨w.heap.size, 0, none⟩ = some (.int .u32 b.addr) := by rw [← hw2]; exact HX2.out.addr
  clear hb1 hb2 hw2
  go_wp2_with fail
  rw [← HW2.out]
  refine HN1.out.mono ?_; rintro e w3 ⟨g3, c3, rfl, ho3, hb3⟩
  have HX3 := Lib.hid (HX2.out.below hb3)
  have HB3 := Lib.hid (bel HB2.out hb3)
  obtain ⟨X3, hX3⟩ : ∃ X3, X3 = [66] ++ putL b.addr 4 := ⟨_, rfl⟩
  rw [← hX3] at ho3
  have hl3 : X3.length = 5 := by rw [hX3, List.length_append, imPutL_ne (by decide) (by decide)]; rfl
  have ho3 : Owns w3 W.heap.size (.slice (some ⟨g3, 0, none⟩) X3.length c3) X3 := ho3.le HB2.out.size
  have HT1 := Lib.hid (imName_own W.heap.size _ X3 b.aff w3 ho3 (by intro e; rw [e] at hl3; cases hl3) (by omega) HHL.out.2 HB3.out.size)
  have HX := Lib.hid hX3
  have HL3 := Lib.hid hl3
  rw [← hX3]
  have c1 := HX3.out.aff
  clear hb3 ho3 hX3 c0 c2 HN1 hl3
  go_wp2_with fail
  refine HT1.out.mono ?_; rintro e w4 ⟨g4, c4, rfl, ho4, hb4, -⟩
  have HB4 := Lib.hid (HB3.out.trans hb4)
  have HX4 := Lib.hid (HX0.out.below HB4.out)
  obtain ⟨X4, hX4⟩ : ∃ X4, X4 = X3 ++ textL b.aff := ⟨_, rfl⟩
  rw [← hX4] at ho4 ⊢
  have hl4 : 6 ≤ X4.length ∧ X4.length ≤ 70 := by rw [hX4, List.length_append, textL_len]; have := HL3.out; have := HHL.out.2; omega
  have HT2 := Lib.hid (imNum_own W.heap.size _ X4 (b.attrs.length : Int) 1 w4 ho4 (by intro e; rw [e] at hl4; simp at hl4) (by omega) (by decide) (by decide) HB4.out.size)
  rw [HP1.out] at HT2
  have HXX4 := Lib.hid hX4
  have HL4 := Lib.hid hl4
  have c67 := HX4.out.attrs hl
  clear hb4 ho4 hX4 c1 HT1 hl4
  go_wp2_with fail
  refine HT2.out.mono ?_; rintro e w5 ⟨g5, c5, rfl, ho5, hb5, -⟩
  have HB5 := Lib.hid (HB4.out.trans hb5)
  have HX5 := Lib.hid (HX0.out.below HB5.out)
  have hX5 : X4 ++ [(b.attrs.length : Int)] = imH b := by rw [HXX4.out, HX.out]; rfl
  rw [hX5] at ho5 ⊢
  have HS5 : Hid (ImS W w5 (.slice (some ⟨g5, 0, none⟩) (imH b).length c5) (imH b)) := Lib.hid ⟨⟨g5, c5, rfl⟩, ho5, HB5.out⟩
  have c67 := HX5.out.attrs hl
  clear hb5 ho5 hX5 HT2 HXX4 HX
  generalize hHH : imH b = HH at HHL HS5 ⊢
  have HHE := Lib.hid hHH
  clear hHH
  go_wp2_with fail
  go_loopw [4, 33] (fun u j wr => ∃ i : Nat, i ≤ b.attrs.length ∧ j = .int .i64 i ∧ Hid (ImS W wr u (HH ++ (b.attrs.take i).flatMap attrL))) (fun _ j _ => b.attrs.length - (intOf j).toNat)
  case atStart => exact ⟨0, Nat.zero_le _, rfl, Lib.hid (by simpa using HS5.out)⟩
  case round =>
    obtain ⟨i, hi, rfl, HS⟩ := hrel
    by_cases hlt : i < b.attrs.length
    · have hp : b.attrs[i]? = some (b.attrs[i]'hlt) := List.getElem?_eq_getElem hlt
      have hmay := HM.out (b.attrs[i]'hlt) (List.getElem_mem hlt)
      have HSN := Lib.hid (flat_snoc hp)
      have HLT := Lib.hid hlt
      obtain ⟨a, rfl⟩ : ∃ a, ao = some a := by
        cases ao with
        | none => rw [HA.out.1 rfl] at hlt; simp at hlt
        | some a => exact ⟨a, rfl⟩
      obtain ⟨gu, cu, rfl, ho, hbw⟩ := HS.out.at
      obtain ⟨p0, p1⟩ := HA.out.2 a rfl i _ hp
      have q0 := bcell hbw p0
      have q1 := ofsA1 (bcell hbw p1)
      clear p0 p1
      generalize b.attrs[i]'hlt = p at q0 q1 hmay HSN
      obtain ⟨⟨-, s1⟩, -, s2⟩ := attrL_bd hmay
      obtain ⟨XS, hXS⟩ : ∃ XS, XS = HH ++ (b.attrs.take i).flatMap attrL := ⟨_, rfl⟩
      have hln : 7 ≤ XS.length ∧ XS.length ≤ 9000 := by
        have h1 := attrs_len (L := b.attrs.take i) (fun p hp => HM.out p (List.mem_of_mem_take hp))
        have h2 := HHL.out
        have h3 := HALN.out
        rw [hXS, List.length_append]
        rw [List.length_take] at h1
        omega
      rw [← hXS] at ho ⊢
      have HXS := Lib.hid hXS
      have hne : XS ≠ [] := by intro e; rw [e] at hln; simp at hln
      obtain ⟨wA, hwA⟩ : ∃ wA, wA = wr.alloc (atO p) := ⟨_, rfl⟩
      have hbA : Below wr.heap.size wr wA := by rw [hwA]; exact belNew _ _
      have hxA : wA.heap[wr.heap.size]? = some (atO p) := by rw [hwA]; exact heap_new _ _
      have HBA := Lib.hid (bel hbw hbA)
      have HG : Hid (gu ≠ wr.heap.size) := Lib.hid (by have h9 : gu < wr.heap.size := (ho.lt gu rfl).2; omega)
      have HOA := Lib.hid (ho.keep hbA)
      have HWA := Lib.hid hwA
      have HXA := Lib.hid hxA
      have HLN := Lib.hid hln
      have HS2 := Lib.hid s2
      have HS1 := Lib.hid s1
      have b0 : (0 : Int) ≤ (i : Int) := by omega
      have b1 : (i : Int) < (b.attrs.length : Int) := by omega
      have d1 : decide ((i : Int) < (b.attrs.length : Int)) = true := by simp; omega
      clear hwA hbA hxA hXS hmay hln ho hbw s1 s2 hp HS hlt
      go_upto_region 9 with fail
      clear q0 q1
      change Code.wp _ _ _ _ (wr.alloc (atO p))
      rw [← HWA.out]
      clear HWA
      refine wp_region_held_drew (S := (fun X => X.heap[wr.heap.size]? = some (atO p))) (by kernel_rfl) ?_ (fun r0 => ?_)
      · exact HXA.out
      obtain ⟨wd, hwd⟩ : ∃ wd, wd = wA.drew := ⟨_, rfl⟩
      rw [← hwd] at r0 ⊢
      have hbd : Below wA.heap.size wA wd := by rw [hwd]; exact ⟨rfl, rfl, rfl, Nat.le_refl _, fun _ _ => rfl⟩
      have HBD := Lib.hid (bel HBA.out hbd)
      have HT1 := Lib.hid (imName_own W.heap.size _ XS p.1 wd (HOA.out.keep hbd) hne (by have := HLN.out; omega) HS1.out HBD.out.size)
      clear hwd hbd hne
      refine wpAnyH_take (i := 0) (v := ?_) rfl (by kernel_rfl) (by kernel_rfl) (by kernel_rfl) (fun _ _ _ h => h) (Or.inl ⟨by rfl, ?_⟩) (by assumption) ?_
      rotate_left
      · intro wS hSw
        (try dsimp only at hSw)
        go_simp
        first | done | with_reducible rfl
      try simp only [Act.put, List.getElem_toArray, List.getElem_cons_zero, List.setIfInBounds_toArray, List.set_cons_zero, List.set_cons_succ]
      refine wpAnyH_take (i := 1) (v := ?_) rfl (by kernel_rfl) (by kernel_rfl) (by kernel_rfl) (fun _ _ _ h => h) (Or.inl ⟨by rfl, ?_⟩) (by assumption) ?_
      rotate_left
      · intro wS hSw
        (try dsimp only at hSw)
        go_simp
        first | done | with_reducible rfl
      try simp only [Act.put, List.getElem_toArray, List.getElem_cons_succ, List.getElem_cons_zero, List.setIfInBounds_toArray, List.set_cons_zero, List.set_cons_succ]
      refine wpAnyH_take (i := 2) (v := ?_) rfl (by kernel_rfl) (by kernel_rfl) (by kernel_rfl) (fun _ _ _ h => h) (Or.inl ⟨by rfl, ?_⟩) (by assumption) ?_
      rotate_left
      · intro wS hSw
        (try dsimp only at hSw)
        obtain ⟨m0, m1⟩ := cells2 hSw
        go_simp
        first | done | with_reducible rfl
      try simp only [Act.put, List.getElem_toArray, List.getElem_cons_succ, List.getElem_cons_zero, List.setIfInBounds_toArray, List.set_cons_zero, List.set_cons_succ]
      refine wpAnyH_take (i := 4) (v := ?_) rfl (by kernel_rfl) (by kernel_rfl) (by kernel_rfl) (fun _ _ _ h => h) (Or.inl ⟨by rfl, ?_⟩) (by assumption) ?_
      rotate_left
      · intro wS hSw
        (try dsimp only at hSw)
        go_simp
        first | done | with_reducible rfl
      try simp only [Act.put, List.getElem_toArray, List.getElem_cons_succ, List.getElem_cons_zero, List.setIfInBounds_toArray, List.set_cons_zero, List.set_cons_succ]
      refine wpAnyH_take (i := 5) (v := ?_) rfl (by kernel_rfl) (by kernel_rfl) (by kernel_rfl) (fun _ _ _ h => h) (Or.inl ⟨by rfl, ?_⟩) (by assumption) ?_
      rotate_left
      · intro wS hSw
        (try dsimp only at hSw)
        obtain ⟨m0, m1⟩ := cells2 hSw
        go_simp
        first | done | with_reducible rfl
      try simp only [Act.put, List.getElem_toArray, List.getElem_cons_succ, List.getElem_cons_zero, List.setIfInBounds_toArray, List.set_cons_zero, List.set_cons_succ]
      refine wpAnyH_ready (rs := [3]) (by kernel_rfl) (by simp) ?_
      refine AllReadyH.cons rfl (fun K hK => ?_) AllReadyH.nil
      go_simp
      refine HT1.out.mono ?_; rintro e w6 ⟨g6, c6, rfl, ho6, hb6, hk6⟩
      obtain ⟨Y, hY⟩ : ∃ Y, Y = XS ++ textL p.1 := ⟨_, rfl⟩
      rw [← hY] at ho6 ⊢
      have hlY : 7 ≤ Y.length ∧ Y.length ≤ 9100 := by rw [hY, List.length_append, textL_len]; have := HLN.out; have := HS1.out; omega
      have HB6 := Lib.hid (HBD.out.trans hb6)
      have r1 := (hk6 wr.heap.size (heap_lt r0) (fun e => HG.out (Option.some.inj e))).trans r0
      have HG2 : Hid ((Value.slice (some ⟨g6, 0, none⟩) Y.length c6).ownBlock ≠ some wr.heap.size) := Lib.hid (own_neA ho6 r1)
      have HT2 := Lib.hid (imName_own W.heap.size _ Y p.2 w6 ho6 (by intro e; rw [e] at hlY; simp at hlY) (by omega) HS2.out HB6.out.size)
      have HY := Lib.hid hY
      clear hb6 hk6 hY hlY ho6 HT1 r0
      refine hK.out _ _ ?_ (fun _ => ?_)
      · exact r1
      try simp only [Act.put, List.getElem_toArray, List.getElem_cons_succ, List.getElem_cons_zero, List.setIfInBounds_toArray, List.set_cons_zero, List.set_cons_succ]
      refine wpAnyH_ready (rs := [6]) (by kernel_rfl) (by simp) ?_
      refine AllReadyH.cons rfl (fun K hK => ?_) AllReadyH.nil
      go_simp
      refine HT2.out.mono ?_; rintro e w7 ⟨g7, c7, rfl, ho7, hb7, hk7⟩
      have r2 := (hk7 wr.heap.size (heap_lt r1) (fun e => HG2.out e)).trans r1
      have hZ : Y ++ textL p.2 = HH ++ (b.attrs.take (i + 1)).flatMap attrL := by rw [HY.out, HXS.out, HSN.out]; simp
      rw [hZ] at ho7 ⊢
      obtain ⟨Z, hZq⟩ : ∃ Z, Z = HH ++ (b.attrs.take (i + 1)).flatMap attrL := ⟨_, rfl⟩
      have HS7 : Hid (ImS W w7 (.slice (some ⟨g7, 0, none⟩) Z.length c7) (HH ++ (b.attrs.take (i + 1)).flatMap attrL)) := Lib.hid (by rw [hZq]; exact ⟨⟨g7, c7, rfl⟩, ho7, HB6.out.trans hb7⟩)
      rw [← hZq]
      clear hb7 hk7 ho7 hZ HT2 hZq
      refine hK.out _ _ ?_ (fun _ => ?_)
      · exact r2
      try simp only [Act.put, List.getElem_toArray, List.getElem_cons_succ, List.getElem_cons_zero, List.setIfInBounds_toArray, List.set_cons_zero, List.set_cons_succ]
      refine wpAnyH_take (i := 7) (v := ?_) rfl (by kernel_rfl) (by kernel_rfl) (by kernel_rfl) (fun _ _ _ h => h) (Or.inl ⟨by rfl, ?_⟩) (by assumption) ?_
      rotate_left
      · intro wS hSw
        (try dsimp only at hSw)
        go_simp
        first | done | with_reducible rfl
      try simp only [Act.put, List.getElem_toArray, List.getElem_cons_succ, List.getElem_cons_zero, List.setIfInBounds_toArray, List.set_cons_zero, List.set_cons_succ]
      refine wpAnyH_done (by kernel_rfl) ?_ _
      go_wp2_with fail
      go_roundw
      case rel => exact ⟨i + 1, HLT.out, by go_num, HS7⟩
      case measure => simp [intOf]; have := HLT.out; omega
    · obtain rfl : i = b.attrs.length := by omega
      have d1 : decide ((b.attrs.length : Int) < (b.attrs.length : Int)) = false := by simp
      rw [List.take_length] at HS
      have HAL : Hid ((HH ++ b.attrs.flatMap attrL).length ≤ 9000 ∧ 7 ≤ (HH ++ b.attrs.flatMap attrL).length) := Lib.hid (by
        rw [List.length_append]
        have h1 := HFL.out
        have h2 := HHL.out
        have h3 := HALN.out
        omega)
      obtain ⟨gu, cu, rfl, _, hbw⟩ := HS.out.at
      have HXr := Lib.hid (HX0.out.below hbw)
      generalize hJ : HH ++ b.attrs.flatMap attrL = J at HS HAL ⊢
      have HJ := Lib.hid hJ
      clear hJ hlt hbw
      go_wp2_with (refine wpLd64 rfl _ rfl rfl HXr.out hl ?_)
      go_loopw [4, 47] (fun u j wr => ∃ i : Nat, i ≤ 64 ∧ j = .int .i64 i ∧ Hid (ImS W wr u (J ++ b.sl.take i))) (fun _ j _ => 64 - (intOf j).toNat)
      case atStart => exact ⟨0, by omega, rfl, Lib.hid (by simpa using HS.out)⟩
      case round =>
        obtain ⟨i, hi, rfl, HS⟩ := hrel
        by_cases hlt : i < 64
        · have HLT := Lib.hid hlt
          have d2 : decide ((i : Int) < 64) = true := by simp; omega
          have hix := fun w => HI.out i hlt w
          have HT := Lib.hid (take_snocI b.sl i (by omega))
          have hxb := okB_get HOK.out.1 i
          obtain ⟨gu, cu, rfl, ho, hbw⟩ := HS.out.at
          have hln : 7 ≤ (J ++ b.sl.take i).length ∧ (J ++ b.sl.take i).length ≤ 9100 := by
            rw [List.length_append, List.length_take]
            have := HAL.out
            omega
          generalize b.sl.getD i 0 = x at hix HT hxb
          obtain ⟨XS, hXS⟩ : ∃ XS, XS = J ++ b.sl.take i := ⟨_, rfl⟩
          have HXS := Lib.hid hXS
          rw [← hXS] at ho hln ⊢
          clear hXS
          have HPX := Lib.hid (imPutL_one x hxb.1 (by omega))
          have hwx : IntKind.u64.wrap x = x := by rw [IntKind.wrap_u64]; omega
          have HT1 := Lib.hid (imNum_own W.heap.size _ XS x 1 wr ho (by intro e; rw [e] at hln; simp at hln) (by omega) (by decide) (by decide) hbw.size)
          rw [HPX.out] at HT1
          have HBW := Lib.hid hbw
          have HZ : Hid (XS ++ [x] = J ++ b.sl.take (i + 1)) := Lib.hid (by rw [HXS.out, List.append_assoc, ← HT.out])
          clear ho hbw hln hxb hlt HS
          go_wp2_with fail
          refine HT1.out.mono ?_; rintro e w7 ⟨g7, c7, rfl, ho7, hb7, -⟩
          rw [HZ.out] at ho7 ⊢
          obtain ⟨Z, hZq⟩ : ∃ Z, Z = J ++ b.sl.take (i + 1) := ⟨_, rfl⟩
          have HS7 : Hid (ImS W w7 (.slice (some ⟨g7, 0, none⟩) Z.length c7) (J ++ b.sl.take (i + 1))) := Lib.hid (by rw [hZq]; exact ⟨⟨g7, c7, rfl⟩, ho7, HBW.out.trans hb7⟩)
          rw [← hZq]
          clear hZq
          clear hb7 ho7 HT1 hix
          go_wp2_with fail
          go_roundw
          case rel => exact ⟨i + 1, HLT.out, by go_num, HS7⟩
          case measure => simp [intOf]; have := HLT.out; omega
        · obtain rfl : i = 64 := by omega
          have d2 : decide (((64 : Nat) : Int) < 64) = false := by decide
          rw [List.take_of_length_le (by omega)] at HS
          have hln : 7 ≤ (J ++ b.sl).length ∧ (J ++ b.sl).length ≤ 9100 := by
            rw [List.length_append]
            have := HAL.out
            omega
          generalize hJ2 : J ++ b.sl = J2 at HS hln
          have HJ2 := Lib.hid hJ2
          obtain ⟨gu, cu, rfl, ho, hbw⟩ := HS.out.at
          have HXs := Lib.hid (HX0.out.below hbw)
          have HT1 := Lib.hid (imNum_own W.heap.size _ J2 (b.free.length : Int) 1 wr ho (by intro e; rw [e] at hln; simp at hln) (by omega) (by decide) (by decide) hbw.size)
          rw [HP2.out] at HT1
          have HLN := Lib.hid hln
          have HBW := Lib.hid hbw
          have c66 := HXs.out.free hl
          clear hJ2 ho hbw hln hlt HS
          go_wp2_with fail
          refine HT1.out.mono ?_; rintro e w8 ⟨g8, c8, rfl, ho8, hb8, -⟩
          have HB8 := Lib.hid (HBW.out.trans hb8)
          have hlM : (J2 ++ [(b.free.length : Int)]).length = J2.length + 1 := by simp
          generalize hM : J2 ++ [(b.free.length : Int)] = M at ho8 hlM ⊢
          have HM2 := Lib.hid hM
          have HLM := Lib.hid hlM
          have HS8 : Hid (ImS W w8 (.slice (some ⟨g8, 0, none⟩) M.length c8) M) := Lib.hid ⟨⟨g8, c8, rfl⟩, ho8, HB8.out⟩
          have HX8 := Lib.hid (HX0.out.below HB8.out)
          have c66 := HX8.out.free hl
          clear hM ho8 hb8 hlM HT1
          go_wp2_with fail
          go_loopw [4, 64] (fun u j wr => ∃ i : Nat, i ≤ b.free.length ∧ j = .int .i64 i ∧ Hid (ImS W wr u (M ++ b.free.take i))) (fun _ j _ => b.free.length - (intOf j).toNat)
          case atStart => exact ⟨0, Nat.zero_le _, rfl, Lib.hid (by simpa using HS8.out)⟩
          case round =>
            obtain ⟨i, hi, rfl, HS⟩ := hrel
            by_cases hlt : i < b.free.length
            · have HLT := Lib.hid hlt
              have d3 : decide ((i : Int) < (b.free.length : Int)) = true := by simp; omega
              obtain ⟨fa, rfl⟩ : ∃ fa, fo = some fa := by
                cases fo with
                | none => rw [HF.out.1 rfl] at hlt; simp at hlt
                | some fa => exact ⟨fa, rfl⟩
              have p0 := HF.out.2 fa rfl i hlt
              have HT := Lib.hid (take_snocI b.free i hlt)
              have hxb := okB_get HOK.out.2 i
              obtain ⟨gu, cu, rfl, ho, hbw⟩ := HS.out.at
              have q0 := bcell hbw p0
              clear p0
              have hln : 7 ≤ (M ++ b.free.take i).length ∧ (M ++ b.free.take i).length ≤ 9300 := by
                rw [List.length_append, List.length_take]
                have := HLM.out
                have := HLN.out
                have := HFLN.out
                omega
              generalize b.free.getD i 0 = x at q0 HT hxb
              obtain ⟨XS, hXS⟩ : ∃ XS, XS = M ++ b.free.take i := ⟨_, rfl⟩
              have HXS := Lib.hid hXS
              rw [← hXS] at ho hln ⊢
              clear hXS
              have HPX := Lib.hid (imPutL_one x hxb.1 (by omega))
              have hwx : IntKind.u64.wrap x = x := by rw [IntKind.wrap_u64]; omega
              have HT1 := Lib.hid (imNum_own W.heap.size _ XS x 1 wr ho (by intro e; rw [e] at hln; simp at hln) (by omega) (by decide) (by decide) hbw.size)
              rw [HPX.out] at HT1
              have HBW := Lib.hid hbw
              have HZ : Hid (XS ++ [x] = M ++ b.free.take (i + 1)) := Lib.hid (by rw [HXS.out, List.append_assoc, ← HT.out])
              have b0 : (0 : Int) ≤ (i : Int) := by omega
              have b1 : (i : Int) < (b.free.length : Int) := by omega
              clear ho hbw hln hxb hlt HS
              go_wp2_with fail
              refine HT1.out.mono ?_; rintro e w7 ⟨g7, c7, rfl, ho7, hb7, -⟩
              rw [HZ.out] at ho7 ⊢
              obtain ⟨Z, hZq⟩ : ∃ Z, Z = M ++ b.free.take (i + 1) := ⟨_, rfl⟩
              have HS7 : Hid (ImS W w7 (.slice (some ⟨g7, 0, none⟩) Z.length c7) (M ++ b.free.take (i + 1))) := Lib.hid (by rw [hZq]; exact ⟨⟨g7, c7, rfl⟩, ho7, HBW.out.trans hb7⟩)
              rw [← hZq]
              clear hZq
              clear hb7 ho7 HT1 q0
              go_wp2_with fail
              go_roundw
              case rel => exact ⟨i + 1, HLT.out, by go_num, HS7⟩
              case measure => simp [intOf]; have := HLT.out; omega
            · obtain rfl : i = b.free.length := by omega
              have d3 : decide ((b.free.length : Int) < (b.free.length : Int)) = false := by simp
              rw [List.take_length] at HS
              have HE : Hid (strOfNums (M ++ b.free) = strOfNums (imB b)) := Lib.hid (by rw [← HM2.out, ← HJ2.out, ← HJ.out, ← HHE.out]; unfold imB; rfl)
              obtain ⟨gu, cu, rfl, ho, hbw⟩ := HS.out.at
              have HBX := Lib.hid (HB0.out.trans (hbw.mono HB0.out.size))
              generalize M ++ b.free = Z at ho HE ⊢
              have HCV := conv_sees ho.sees
              clear ho hbw HS hlt
              go_wp2_with fail
              go_ret2
              exact ⟨congrArg (fun s => Ending.returned (.tuple #[.string s, .int .i64 0])) HE.out, HBX.out⟩
end
section
open Go.RowKit
theorem nodup_choose {sl : List Int} {n : Nat} (h : ∀ i, i < n → ∃ k, k < 64 ∧ sl.getD k 0 = (i : Int) + 1) : ∃ L : List Nat, L.length = n ∧ L.Nodup ∧ ∀ k ∈ L, k < 64 ∧ 1 ≤ sl.getD k 0 ∧ sl.getD k 0 ≤ n := by
  induction n with
  | zero => exact ⟨[], rfl, List.nodup_nil, fun k hk => by cases hk⟩
  | succ n ih =>
    obtain ⟨L, hl, hn, hk⟩ := ih (fun i hi => h i (by omega))
    obtain ⟨k, h1, h2⟩ := h n (by omega)
    refine ⟨k :: L, by simp [hl], List.nodup_cons.2 ⟨fun hm => ?_, hn⟩, fun j hj => ?_⟩
    · have := (hk k hm).2.2
      omega
    · rcases List.mem_cons.1 hj with rfl | hj
      · exact ⟨h1, by omega, by omega⟩
      · obtain ⟨a, b, c⟩ := hk j hj
        exact ⟨a, b, by omega⟩
theorem free_attrs {b : BlkS} (hl : b.sl.length = 64) (hok : okB b.sl) (h : rightB b = true) : b.free.length + b.attrs.length ≤ 64 ∧ (b.attrs = [] → b.free.length = 64) := by
  obtain ⟨-, -, -, h4, h5, h6⟩ := (right_iff b hl).1 h
  obtain ⟨-, hnd, hf64⟩ := right_free h
  have hzero : ∀ x ∈ b.free.map Int.toNat, b.sl.getD x 0 = 0 := fun x hx => by
    obtain ⟨y, hy, rfl⟩ := List.mem_map.1 hx
    have h7 := h6 y hy
    have h8 := (h5 y.toNat (by omega)).2
    rw [show ((y.toNat : Nat) : Int) = y by omega] at h8
    have h9 := cnt_pos.2 hy
    apply Classical.byContradiction
    intro hn
    rw [if_neg hn] at h8
    exact h9 h8
  have hnd2 := nodup_toNat hnd (fun x hx => (h6 x hx).1)
  constructor
  · obtain ⟨L, e1, e2, e3⟩ := nodup_choose (sl := b.sl) (n := b.attrs.length) (fun i hi => by
      obtain ⟨k, hk, e⟩ := mem_getD.1 (cnt_pos.1 (h4 i hi).2.1)
      exact ⟨k, by omega, e⟩)
    have := nodup_sub_len (l := b.free.map Int.toNat ++ L) (m := List.range 64) (List.nodup_append.2 ⟨hnd2, e2, fun x hx y hy e => by
      subst e
      have := hzero x hx
      have := (e3 x hy).2.1
      omega⟩) (fun x hx => by
        rw [List.mem_range]
        rcases List.mem_append.1 hx with hx | hx
        · obtain ⟨y, hy, rfl⟩ := List.mem_map.1 hx
          have := h6 y hy
          omega
        · exact (e3 x hx).1)
    rw [List.length_append, List.length_map, e1, List.length_range] at this
    exact this
  · intro e
    have := nodup_sub_len (l := List.range 64) (m := b.free.map Int.toNat) List.nodup_range (fun i hi => by
      have hi := List.mem_range.1 hi
      obtain ⟨h7, h8⟩ := h5 i hi
      rw [e] at h7
      have := (okB_get hok i).1
      simp only [List.length_nil] at h7
      rw [if_pos (by omega)] at h8
      exact List.mem_map.2 ⟨(i : Int), cnt_pos.1 (by omega), by simp⟩)
    rw [List.length_range, List.length_map] at this
    omega
theorem imB_len {b : BlkS} (hl : b.sl.length = 64) (hok : okB b.sl) (h : rightB b = true) : 76 ≤ (imB b).length ∧ (imB b).length ≤ 8456 := by
  have hown := ((right_iff b hl).1 h).2.1
  obtain ⟨h1, h2⟩ := free_attrs hl hok h
  obtain ⟨h3, h4⟩ := attrs_len (right_may hl h)
  have h5 := imH_len hown
  have h6 := ownB_size hown
  unfold imB
  rw [List.length_append, List.length_append, List.length_append, List.length_append, h5, hl]
  simp only [List.length_cons, List.length_nil]
  by_cases he : b.attrs = []
  · have := h2 he
    rw [he] at h3 h4 ⊢
    simp only [List.length_nil] at h3 h4
    omega
  · have := List.length_pos_iff.2 he
    omega
end
end Go.Proofs.YtgodmnpcedfdcaaGreat
