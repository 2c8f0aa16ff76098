/- Package image: Size; the chapter's example; the walk of ImageFits. -/
import Derived.Test.YtgodmnpcedfdcaaGreatJIm
import Derived.Test.YtgodmnpcedfdcaaGreatImOurs
namespace Go.Proofs.YtgodmnpcedfdcaaGreat
open Go.RowKit
set_option maxRecDepth 100000 in
set_option maxHeartbeats 4000000 in
theorem imSize_gen (b : BlkS) (fv av : Value) (w : World) (hl : b.sl.length = 64) (s : ByteArray) (c : Int)
    (HP : ∀ W, Below w.heap.size w W → Calls Tryz.prog 7 #[.agg (blkL b fv av).toArray] W fun e w' => e = .returned (.tuple #[.string s, .int .i64 c]) ∧ Below W.heap.size W w') :
    Calls Tryz.prog 43 #[.agg (blkL b fv av).toArray] w fun e w' => e = .returned (.int .i64 (s.size : Int)) ∧ Below w.heap.size w w' := by
  obtain ⟨W, hW⟩ : ∃ W, W = w.alloc (blkO b fv av) := ⟨_, rfl⟩
  have hb0 : Below w.heap.size w W := by rw [hW]; exact belNew _ _
  have hA : BlkAt W w.heap.size b fv av := by rw [hW]; exact heap_new w _
  have HX0 := Lib.hid hA
  have HB0 := Lib.hid hb0
  have HW := Lib.hid hW
  have HPW := Lib.hid (HP W hb0)
  clear hW hb0 hA HP
  go_enter Tryz.func43, Tryz.ntmps43
  go_upto_region 1 with fail
  change Code.wp _ _ _ _ (w.alloc (blkO b fv av))
  rw [← HW.out]
  clear HW
  go_wp2_with (refine wpLdB rfl _ rfl rfl HX0.out hl ?_)
  refine HPW.out.mono ?_; rintro e w1 ⟨rfl, hb1⟩
  have HB1 := Lib.hid (HB0.out.trans (hb1.mono HB0.out.size))
  clear hb1
  go_wp2_with fail
  go_ret
  exact ⟨rfl, HB1.out⟩
theorem newS_wf (a : Int) (s : ByteArray) (ha : 0 ≤ a) (ha' : a < 4294967296) (hs : s.size ≤ maxLen) : BWf (newS a s) := by
  unfold BWf newS
  refine ⟨⟨by simp only []; omega, by simp only []; omega⟩, zB_len, fun x hx => ?_, fun x hx => ?_, hs, ?_, Nat.zero_le _, fun p hp => by cases hp⟩
  · obtain rfl : x = 0 := by simpa using hx
    exact ⟨by decide, by decide⟩
  · exact (by decide +kernel : ∀ x ∈ rangeI 64, 0 ≤ x ∧ x ≤ 255) x hx
  · rw [rangeI_len]; unfold maxLen; omega
theorem newS_right (a : Int) (s : ByteArray) (h : ownB s = true) : rightB (newS a s) = true := by
  refine (right_iff (newS a s) zB_len).2 ⟨?_, h, Nat.zero_le _, fun i hi => absurd hi (Nat.not_lt_zero _), fun i hi => ?_, ?_⟩
  · show (a - a % 64) % 64 = 0
    omega
  · have e : (newS a s).sl.getD i 0 = 0 := by
      show (List.replicate 64 (0 : Int)).getD i 0 = 0
      rw [List.getD_eq_getElem?_getD, List.getElem?_replicate, if_pos hi]
      rfl
    rw [e, if_pos rfl]
    exact ⟨Int.le_refl _, (by decide +kernel : ∀ i, i < 64 → cntN (rangeI 64) (i : Nat) = 1) i hi⟩
  · exact (by decide +kernel : ∀ f ∈ rangeI 64, 0 ≤ f ∧ f < 64)
theorem new0_len : (imB (newS 0 em)).length = 136 := by decide +kernel
theorem wpLdBg {ops : Array Oper} {rest : List Oper} {o : Oper} {a : Act} {w : World} {Q : Exit → Act → World → Prop} {g : Nat} {b : BlkS} {fv av : Value} (hw : Region.wanted o (yielded ops a.tmps) = true) (x : Operand) (ho : o.op = .load 28 x) (hx : a.eval x = .pointer (some ⟨g, 0, none⟩)) (h : BlkAt w g b fv av) (hl : b.sl.length = 64)
    (hK : wpList Tryz.prog ops Q rest (a.put o.dst (.agg (blkL b fv av).toArray)) w) : wpList Tryz.prog ops Q (o :: rest) a w :=
  wpList_step fun K hK2 => by
    rw [if_pos hw]
    exact wp_load_mid 28 x ho g 0 hx _ _ h.whole Tryz.underlying28 rfl (by rw [infoB, blkL_len b hl]) (hK2 _ _ hK)
set_option maxRecDepth 100000 in
set_option maxHeartbeats 8000000 in
theorem awake16_any (w : World) : Calls Tryz.prog 11 #[] w fun e w' => e = .returned (.bool true) ∧ Below w.heap.size w w' := by
  have HN := Lib.hid (newB_any 0 em w (by decide) (by decide) (by decide) rfl)
  have hr : rightB (newS 0 em) = true := newS_right 0 em rfl
  have hw : BWf (newS 0 em) := newS_wf 0 em (by decide) (by decide) (by decide)
  have HS : Hid ((strOfNums (imB (newS 0 em))).size = 136) := Lib.hid (by rw [strOfNums_size]; exact new0_len)
  generalize newS 0 em = nb at *
  have hl := hw.2.1
  have HPN := Lib.hid (fun (fv av : Value) (w : World) (hf : Sees w fv nb.free) (ha : SeesA w av nb.attrs) => imPut_any nb fv av w hf ha hw hr)
  generalize strOfNums (imB nb) = st at HPN HS
  clear hr hw
  go_enter Tryz.func11, Tryz.ntmps11
  go_wp2_with fail
  refine HN.out.mono ?_; rintro e w1 ⟨fv, av, rfl, hret⟩
  obtain ⟨fo, fn, fc, rfl⟩ := own_form hret.free
  obtain ⟨ao, an, ac, rfl⟩ := own_form hret.attrs
  obtain ⟨w2, hw2⟩ : ∃ w2, w2 = w1.alloc (blkO zB NS NS) := ⟨_, rfl⟩
  have hx2 : BlkAt w2 w1.heap.size zB NS NS := by rw [hw2]; exact heap_new w1 _
  have hf2 : Owns w2 w.heap.size (.slice fo fn fc) nb.free := by rw [hw2]; exact hret.free.alloc _
  have ha2 : RowA EAt w2 w.heap.size (.slice ao an ac) nb.attrs := by rw [hw2]; exact World.ownsRow.alloc hret.attrs _
  have hb2 : Below w.heap.size w w2 := by rw [hw2]; exact belAlloc hret.below _
  have HX2 := Lib.hid hx2
  have HR := Lib.hid hret
  have HF2 := Lib.hid (And.intro hf2 (And.intro ha2 hb2))
  have HW2 := Lib.hid hw2
  clear hx2 hf2 ha2 hb2 hw2 hret
  go_upto_region 2 with ((change wpList _ _ _ _ _ (w1.alloc (blkO zB NS NS))); rw [← HW2.out]; refine wpStB (b := nb) rfl _ _ rfl rfl rfl HX2.out zB_len hl rfl rfl ?_; intro w3 hx3 hg3)
  have hf3 : Owns w3 w.heap.size (.slice fo fn fc) nb.free := own_grownO HF2.out.1 hg3 (fun k hk e => by have := Option.some.inj e; have := (World.ownsRow.lt HR.out.free k hk).2; omega)
  have ha3 : RowA EAt w3 w.heap.size (.slice ao an ac) nb.attrs := own_grownO HF2.out.2.1 hg3 (fun k hk e => by have := Option.some.inj e; have := (World.ownsRow.lt HR.out.attrs k hk).2; omega)
  have HB3 : Hid (Below w.heap.size w w3) := Lib.hid (HF2.out.2.2.grown hg3 HF2.out.2.2.size (fun k hk => by cases hk; exact HR.out.below.size))
  have HX3 := Lib.hid hx3
  have HSF := Lib.hid hf3.sees
  have HSA := Lib.hid (RowA.sees ha3)
  have HPW := Lib.hid (HPN.out (.slice fo fn fc) (.slice ao an ac) w3 HSF.out HSA.out)
  clear hx3 hg3 hf3 ha3 HW2 HX2 HF2
  go_wp2_with (refine wpLdB rfl _ rfl rfl HX3.out hl ?_)
  refine HPW.out.mono ?_; rintro e w4 ⟨rfl, hb4⟩
  have HX4 := Lib.hid (HX3.out.below hb4)
  have HB4 := Lib.hid (HB3.out.trans (hb4.mono HB3.out.size))
  have HSZ := Lib.hid (imSize_gen nb (.slice fo fn fc) (.slice ao an ac) w4 hl st 0 (fun W hb => HPN.out _ _ W ((HSF.out.keep hb4).keep hb) ((HSA.out.below hb4).below hb)))
  rw [HS.out] at HSZ
  have hst : (st.size : Int) = 136 := by rw [HS.out]; rfl
  clear hb4
  go_wp2_with (refine wpLdBg (by rfl) _ rfl rfl HX4.out hl ?_)
  refine HSZ.out.mono ?_; rintro e w5 ⟨rfl, hb5⟩
  have HB5 := Lib.hid (HB4.out.trans (hb5.mono HB4.out.size))
  clear hb5
  go_wp2_with fail
  go_ret
  exact ⟨rfl, HB5.out⟩
theorem BlkRet.sees {w w' : World} {b : BlkS} {fv av : Value} (h : BlkRet w w' b fv av) : Sees w' fv b.free ∧ SeesA w' av b.attrs := ⟨h.free.sees, RowA.sees h.attrs⟩
end Go.Proofs.YtgodmnpcedfdcaaGreat
