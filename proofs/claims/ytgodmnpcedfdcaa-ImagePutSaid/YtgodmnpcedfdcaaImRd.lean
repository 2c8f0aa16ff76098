/- Package image: Read. -/
import Derived.Test.YtgodmnpcedfdcaaImRdA
import Derived.Test.YtgodmnpcedfdcaaImFitsW
namespace Go.Proofs.Ytgodmnpcedfdcaa
open Go.RowKit
def imOk (s : ByteArray) : Bool := starts s pB && (doneB (imRd (some (strI (rest s pB)))).2 && rightB (imRd (some (strI (rest s pB)))).1)
def imC (s : ByteArray) : BlkS := if imOk s = true then (imRd (some (strI (rest s pB)))).1 else zB
/-- While a block is read: the reader, the block's variable, the result's. -/
structure RdI (w0 : World) (g gb : Nat) (st : Option (List Int)) (b : BlkS) (fv av : Value) (X : World) : Prop where
  rd : RdP g g st X
  blk : BlkAt X gb b fv av
  zero : BlkAt X w0.heap.size zB NS NS
  below : Below w0.heap.size w0 X
  lt : w0.heap.size < g ∧ g < gb
theorem RdI.grown {w0 : World} {g gb : Nat} {st st' : Option (List Int)} {b : BlkS} {fv av : Value} {X Y : World} (h : RdI w0 g gb st b fv av X) (hg : X.grownBy Y (some g)) (hr : RdP g g st' Y) : RdI w0 g gb st' b fv av Y :=
  ⟨hr, (hg.block gb (heap_lt h.blk) (fun e => by have := Option.some.inj e; have := h.lt; omega)).trans h.blk, (hg.block _ (heap_lt h.zero) (fun e => by have := Option.some.inj e; have := h.lt; omega)).trans h.zero, h.below.grown hg h.below.size (fun k hk => by cases hk; have := h.lt; omega), h.lt⟩
theorem RdI.set {w0 : World} {g gb : Nat} {st : Option (List Int)} {b b' : BlkS} {fv av fv' av' : Value} {X : World} (h : RdI w0 g gb st b fv av X) (i : Nat) (v : Value) (hb : BlkAt (X.setCell ⟨gb, i, none⟩ v) gb b' fv' av') : RdI w0 g gb st b' fv' av' (X.setCell ⟨gb, i, none⟩ v) :=
  ⟨h.rd.grown (grown_set X gb i v) (by have := h.lt; omega) (by have := h.lt; omega), hb, blk_setO h.zero (a := ⟨gb, i, none⟩) (by show w0.heap.size ≠ gb; have := h.lt; omega) v, h.below.setCell (p := ⟨gb, i, none⟩) (by show w0.heap.size ≤ gb; have := h.lt; omega) v, h.lt⟩
def ovr (L : List Int) (i : Nat) : List Int := L.take i ++ (List.replicate 64 0).drop i
theorem ovr_zero (L : List Int) : ovr L 0 = List.replicate 64 0 := by simp [ovr]
theorem ovr_all {L : List Int} (h : L.length = 64) : ovr L 64 = L := by unfold ovr; rw [List.take_of_length_le (by omega), List.drop_of_length_le (by simp)]; simp
theorem ovr_len {L : List Int} (h : L.length = 64) (i : Nat) (hi : i ≤ 64) : (ovr L i).length = 64 := by unfold ovr; simp; omega
theorem ovr_set {L : List Int} (h : L.length = 64) {i : Nat} (hi : i < 64) {x : Int} (hx : L[i]? = some x) : (ovr L i).set i x = ovr L (i + 1) := by
  unfold ovr
  have hl : (L.take i).length = i := by rw [List.length_take]; omega
  have hd : (List.replicate 64 (0 : Int)).drop i = 0 :: (List.replicate 64 (0 : Int)).drop (i + 1) := by
    rw [List.drop_eq_getElem_cons (by rw [List.length_replicate]; exact hi), List.getElem_replicate]
  rw [List.set_append_right _ _ (by omega), hl, Nat.sub_self, hd, List.set_cons_zero, List.take_add_one, hx]
  simp
theorem rdFs_get {X Y : List Int} {x : Int} : (X ++ [x] ++ Y)[X.length]? = some x := by simp
theorem st_new5 {b0 : BlkS} {fv0 av0 : Value} {w w3 : World} (hg3 : (w.alloc (blkO b0 fv0 av0)).grownBy w3 (some w.heap.size)) : Below w.heap.size w w3 := (belNew w _).grown hg3 (by simp) (fun k hk => by cases hk; exact Nat.le_refl _)
set_option maxRecDepth 100000 in
set_option maxHeartbeats 16000000 in
theorem imRead_any (s : ByteArray) (w : World) (hs : s.size ≤ 100000) :
    Calls Try.prog 39 #[.string s] w fun e w' => ∃ fv av, e = .returned (.tuple #[.agg (blkL (imC s) fv av).toArray, .int .i64 (if imOk s = true then 0 else 3)]) ∧ BlkRet w w' (imC s) fv av := by
  obtain ⟨hwf, hfl, hal⟩ := imRd_wf (some (strI (rest s pB))) (okB_strI _)
  have hok : imOk s = (starts s pB && (doneB (imRd (some (strI (rest s pB)))).2 && rightB (imRd (some (strI (rest s pB)))).1)) := rfl
  have hcc : imC s = if imOk s = true then (imRd (some (strI (rest s pB)))).1 else zB := rfl
  obtain ⟨W, hW⟩ : ∃ W, W = w.alloc (blkO zB NS NS) := ⟨_, rfl⟩
  have hb0 : Below w.heap.size w W := by rw [hW]; exact belNew _ _
  have hA : BlkAt W w.heap.size zB NS NS := by rw [hW]; exact heap_new w _
  have HC := Lib.hid (Try.strings_CutPrefix s pB W)
  have hr : (⟨(Lib.trimPrefix s.data.toList pB.data.toList).toArray⟩ : ByteArray) = rest s pB := rfl
  rw [hr] at HC
  have hz : (Lib.hasPrefix s.data.toList pB.data.toList) = starts s pB := rfl
  rw [hz] at HC
  have hsz : (rest s pB).size ≤ 100000 := Nat.le_trans (rest_size s pB) hs
  generalize starts s pB = ST at *
  generalize rest s pB = r at *
  have hcv := Lib.run_convert_string_bytes (P := Try.prog) W 9 24 5 r Try.underlying9 Try.underlying24 Try.underlying5
  have hbz := bytes_below W 5 r
  have hse := bytes_sees W r
  obtain ⟨wz, hwz⟩ : ∃ wz, wz = Lib.bytesWorld W 5 r := ⟨_, rfl⟩
  rw [← hwz] at hcv hbz hse
  have hokb := okB_strI r
  have HN := Lib.hid (new_any _ (strI r) wz hse hokb (by rw [strI_length]; omega))
  generalize strI r = bs at *
  have HBZ := Lib.hid hbz
  -- what is read, part by part
  have hIM : imRd (some bs) = (⟨(rdU (some bs) 4).1, strOfNums (rdT (rdU (some bs) 4).2).1, (rdFs 64 (rdAs (rdU (rdT (rdU (some bs) 4).2).2 1).1.toNat (rdU (rdT (rdU (some bs) 4).2).2 1).2).2).1, (rdFs (rdU (rdFs 64 (rdAs (rdU (rdT (rdU (some bs) 4).2).2 1).1.toNat (rdU (rdT (rdU (some bs) 4).2).2 1).2).2).2 1).1.toNat (rdU (rdFs 64 (rdAs (rdU (rdT (rdU (some bs) 4).2).2 1).1.toNat (rdU (rdT (rdU (some bs) 4).2).2 1).2).2).2 1).2).1, (rdAs (rdU (rdT (rdU (some bs) 4).2).2 1).1.toNat (rdU (rdT (rdU (some bs) 4).2).2 1).2).1⟩, (rdFs (rdU (rdFs 64 (rdAs (rdU (rdT (rdU (some bs) 4).2).2 1).1.toNat (rdU (rdT (rdU (some bs) 4).2).2 1).2).2).2 1).1.toNat (rdU (rdFs 64 (rdAs (rdU (rdT (rdU (some bs) 4).2).2 1).1.toNat (rdU (rdT (rdU (some bs) 4).2).2 1).2).2).2 1).2).2) := rfl
  obtain ⟨a0, a1, a2⟩ := rdU_bd2 (some bs) hokb 4 (by decide)
  have tb := rdT_bd a2
  obtain ⟨n0, n1, n2⟩ := rdU_bd2 _ tb.2.2 1 (by decide)
  have Ab := rdAs_bd (rdU (rdT (rdU (some bs) 4).2).2 1).1.toNat _ n2
  have Sb := rdFs_bd 64 _ Ab.2
  obtain ⟨m0, m1, -⟩ := rdU_bd2 _ Sb.2 1 (by decide)
  have c4 : (256 : Int) ^ (4 : Int).toNat = 4294967296 := by decide
  have c1 : (256 : Int) ^ (1 : Int).toNat = 256 := by decide
  rw [c4] at a1
  rw [c1] at n1 m1
  have HU4 := Lib.hid (fun g w h => u_any g g (some bs) 4 w h)
  have HTX := Lib.hid (fun g w h => text_any g g (rdU (some bs) 4).2 w h)
  have HUN := Lib.hid (fun g w h => u_any g g (rdT (rdU (some bs) 4).2).2 1 w h)
  have HRA := Lib.hid (fun g w h => readAttrs_any g (rdU (rdT (rdU (some bs) 4).2).2 1).2 (rdU (rdT (rdU (some bs) 4).2).2 1).1.toNat w h (by omega))
  have HUM := Lib.hid (fun g w h => u_any g g (rdFs 64 (rdAs (rdU (rdT (rdU (some bs) 4).2).2 1).1.toNat (rdU (rdT (rdU (some bs) 4).2).2 1).2).2).2 1 w h)
  have HRF := Lib.hid (fun g w h => readFree_any g (rdU (rdFs 64 (rdAs (rdU (rdT (rdU (some bs) 4).2).2 1).1.toNat (rdU (rdT (rdU (some bs) 4).2).2 1).2).2).2 1).2 (rdU (rdFs 64 (rdAs (rdU (rdT (rdU (some bs) 4).2).2 1).1.toNat (rdU (rdT (rdU (some bs) 4).2).2 1).2).2).2 1).1.toNat w h (by omega))
  clear a2 tb n2 Ab Sb c4 c1 hsz hr hz hs hokb
  generalize rdU (some bs) 4 = U at *
  generalize rdT U.2 = T at *
  generalize rdU T.2 1 = Nn at *
  generalize rdAs Nn.1.toNat Nn.2 = RA at *
  have HSL := Lib.hid (rdFs_len 64 RA.2)
  have HSF : Hid (∃ S, S = rdFs 64 RA.2) := Lib.hid ⟨_, rfl⟩
  generalize hSR : rdFs 64 RA.2 = S at *
  generalize rdU S.2 1 = Mm at *
  generalize rdFs Mm.1.toNat Mm.2 = F at *
  have HSR := Lib.hid hSR
  generalize imRd (some bs) = IM at *
  subst hIM
  obtain ⟨U1, U2⟩ := U
  obtain ⟨T1, T2⟩ := T
  obtain ⟨N1, N2⟩ := Nn
  obtain ⟨M1, M2⟩ := Mm
  simp only [] at *
  obtain ⟨nn, rfl⟩ := Int.eq_ofNat_of_zero_le n0
  obtain ⟨mm, rfl⟩ := Int.eq_ofNat_of_zero_le m0
  simp only [Int.toNat_natCast] at HRA HRF
  have hwu : IntKind.u32.wrap U1 = U1 := by rw [IntKind.wrap_u32]; omega
  have hwn : IntKind.i64.wrap (nn : Int) = (nn : Int) := IntWalk.i64_in _ (by omega)
  have hwm : IntKind.i64.wrap (mm : Int) = (mm : Int) := IntWalk.i64_in _ (by omega)
  generalize hD : doneB F.2 = D at *
  have HD := Lib.hid hD
  have HWF := Lib.hid (And.intro hwf (And.intro hfl hal))
  have HOK := Lib.hid (And.intro hok hcc)
  generalize imOk s = OK at *
  generalize imC s = CC at *
  obtain ⟨cd, hcd⟩ : ∃ cd : Int, cd = if OK = true then 0 else 3 := ⟨_, rfl⟩
  rw [← hcd]
  have HCD := Lib.hid hcd
  clear hcd
  generalize strOfNums T1 = af at *
  have HW := Lib.hid hW
  have HB0 := Lib.hid hb0
  have HA := Lib.hid hA
  clear hW hb0 hA hwz hbz hse hSR HSF hD hwf hfl hal hok hcc a0 a1 n0 n1 m0 m1
  go_enter Try.func39, Try.ntmps39
  go_upto_region 1 with fail
  change Code.wp _ _ _ _ (w.alloc (blkO zB NS NS))
  rw [← HW.out]
  clear HW
  go_wp2_with (first
    | (go_at_call 68; refine HC.out.mono ?_; rintro e w1 ⟨rfl, rfl⟩)
    | fail)
  refine HN.out.mono ?_; rintro e w2 ⟨g, rfl, hR2, hg2, hb2⟩
  have HB2 := Lib.hid (HB0.out.trans ((bel HBZ.out hb2).mono HB0.out.size))
  have HZ2 : Hid (BlkAt w2 w.heap.size zB NS NS) := Lib.hid (HA.out.below (bel HBZ.out hb2))
  have HGS : Hid (w.heap.size < g) := Lib.hid (by have := heap_lt HA.out; have := HBZ.out.size; omega)
  have HU4' := Lib.hid (HU4.out g w2 hR2)
  clear hR2 hg2 hb2 HN HC
  go_wp2_with fail
  refine HU4'.out.mono ?_; rintro e w3 ⟨rfl, hR3, hg3⟩
  have HZ3 : Hid (BlkAt w3 w.heap.size zB NS NS) := Lib.hid ((hg3.block _ (heap_lt HZ2.out) (fun e => by have := Option.some.inj e; have := HGS.out; omega)).trans HZ2.out)
  have HB3 : Hid (Below w.heap.size w w3) := Lib.hid (HB2.out.grown hg3 HB2.out.size (fun k hk => by cases hk; have := HGS.out; omega))
  have HTX' := Lib.hid (HTX.out g w3 hR3)
  clear hR3 hg3 HU4' HU4
  go_wp2_with fail
  refine HTX'.out.mono ?_; rintro e w4 ⟨rfl, hR4, hg4⟩
  have HZ4 : Hid (BlkAt w4 w.heap.size zB NS NS) := Lib.hid ((hg4.block _ (heap_lt HZ3.out) (fun e => by have := Option.some.inj e; have := HGS.out; omega)).trans HZ3.out)
  have HB4 : Hid (Below w.heap.size w w4) := Lib.hid (HB3.out.grown hg4 HB3.out.size (fun k hk => by cases hk; have := HGS.out; omega))
  have HR4 := Lib.hid hR4
  have HG4 : Hid (g < w4.heap.size) := Lib.hid (by obtain ⟨_, hh, _⟩ := hR4; exact heap_lt hh)
  have HX4 : Hid (BlkAt (w4.alloc (blkO zB NS NS)) w4.heap.size zB NS NS) := Lib.hid (heap_new w4 _)
  have hlN : (zS U1 af).sl.length = 64 := zB_len
  have HEB : Hid (zS U1 af = ⟨U1, af, ovr S.1 0, [], []⟩) := Lib.hid (by rw [ovr_zero]; rfl)
  clear hR4 hg4 HTX' HTX
  go_upto_region 4 with ((change wpList _ _ _ _ _ (w4.alloc (blkO zB NS NS))); refine wpStB (b := zS U1 af) (fv := NS) (av := NS) rfl _ _ rfl rfl (by kernel_rfl) HX4.out zB_len hlN rfl rfl ?_; intro w5 hx5 hg5)
  have HBN := Lib.hid (st_new5 hg5)
  have HI5 : Hid (RdI w g w4.heap.size T2 ⟨U1, af, ovr S.1 0, [], []⟩ NS NS w5) := Lib.hid ⟨HR4.out.below HBN.out, by rw [← HEB.out]; exact hx5, HZ4.out.below HBN.out, bel HB4.out HBN.out, HGS.out, HG4.out⟩
  obtain ⟨gb, hgb⟩ : ∃ gb, gb = w4.heap.size := ⟨_, rfl⟩
  rw [← hgb] at HI5 ⊢
  have HUN' := Lib.hid (HUN.out g w5 HI5.out.rd)
  clear hx5 hg5 hgb HX4 HR4 HG4 HZ4 HB4 HZ3 HB3 HZ2 HB2 HEB hlN HBN
  go_wp2_with fail
  refine HUN'.out.mono ?_; rintro e w6 ⟨rfl, hR6, hg6⟩
  have HI6 := Lib.hid (HI5.out.grown hg6 hR6)
  have HRA' := Lib.hid (HRA.out g w6 hR6)
  clear hR6 hg6 HUN' HUN HI5
  go_wp2_with fail
  refine HRA'.out.mono ?_; rintro e w7 ⟨av, rfl, ho7, hR7, hg7⟩
  have HI7 := Lib.hid (HI6.out.grown hg7 hR7)
  obtain ⟨ao, an, ac, rfl⟩ := own_form ho7
  have HAV7 := Lib.hid (row_leA ho7 (show gb + 1 ≤ w6.heap.size from heap_lt HI6.out.blk))
  have f67 := HI7.out.blk.froz 67
  have hlO : (⟨U1, af, ovr S.1 0, [], []⟩ : BlkS).sl.length = 64 := ovr_len HSL.out 0 (by omega)
  have c67 := HI7.out.blk.attrs hlO
  have hx8 := HI7.out.blk.setAttrs hlO (.slice ao an ac)
  have HI8 := Lib.hid (HI7.out.set 67 (.slice ao an ac) hx8)
  have HAV8 : Hid (RowA EAt (w7.setCell ⟨gb, 67, none⟩ (.slice ao an ac)) (gb + 1) (.slice ao an ac) RA.1) := Lib.hid (own_set HAV7.out (a := ⟨gb, 67, none⟩) (Nat.lt_succ_self _) _)
  clear ho7 hR7 hg7 hx8 HRA' HRA HI6 hlO HAV7 HI7
  go_upto_region 5 with fail
  change Code.wp _ _ _ _ (w7.setCell ⟨gb, 67, none⟩ (.slice ao an ac))
  generalize w7.setCell ⟨gb, 67, none⟩ (.slice ao an ac) = w8 at HI8 HAV8 ⊢
  clear f67 c67
  go_wp2_with fail
  go_loopw [29] (fun j wr => ∃ (i : Nat) (s1 : Option (List Int)), i ≤ 64 ∧ j = .int .i64 i ∧ Hid (rdFs 64 RA.2 = (S.1.take i ++ (rdFs (64 - i) s1).1, (rdFs (64 - i) s1).2)) ∧ Hid (RdI w g gb s1 ⟨U1, af, ovr S.1 i, [], []⟩ NS (.slice ao an ac) wr ∧ RowA EAt wr (gb + 1) (.slice ao an ac) RA.1)) (fun j _ => 64 - (intOf j).toNat)
  case atStart => exact ⟨0, RA.2, Nat.zero_le _, rfl, Lib.hid (by rw [List.take_zero, List.nil_append, Nat.sub_zero]), Lib.hid ⟨HI8.out, HAV8.out⟩⟩
  case round =>
    clear HI8 HAV8
    obtain ⟨i, s1, hi, rfl, HE, HI⟩ := hrel
    by_cases hlt : i < 64
    · have d1 : decide ((i : Int) < 64) = true := by simp; omega
      have hix : S.1[i]? = some (rdU s1 1).1 := by
        have h1 := rdFs_step HE.out hlt
        rw [← HSR.out, h1]
        have hl : (S.1.take i).length = i := by rw [List.length_take]; have := HSL.out; omega
        have h2 := rdFs_get (X := S.1.take i) (x := (rdU s1 1).1) (Y := (rdFs (64 - (i + 1)) (rdU s1 1).2).1)
        rw [hl] at h2
        exact h2
      have HS64 : Hid (S.1.length = 64) := Lib.hid HSL.out
      have HSO := Lib.hid (ovr_set HS64.out hlt hix)
      have HEN : Hid (rdFs 64 RA.2 = (S.1.take (i + 1) ++ (rdFs (64 - (i + 1)) (rdU s1 1).2).1, (rdFs (64 - (i + 1)) (rdU s1 1).2).2)) := Lib.hid (by
        have h1 := rdFs_step HE.out hlt
        rw [h1, List.take_add_one, hix]
        rfl)
      have HT1 := Lib.hid (u_any g g s1 1 _ HI.out.1.rd)
      obtain ⟨h0, h1⟩ := rdU_ok HI.out.1.rd 1
      have h1 : (rdU s1 1).1 < 256 := h1
      generalize rdU s1 1 = t1 at *
      have hw1 : IntKind.u8.wrap t1.1 = t1.1 := by rw [IntKind.wrap_u8]; omega
      have hlO : (⟨U1, af, ovr S.1 i, [], []⟩ : BlkS).sl.length = 64 := ovr_len HS64.out i (by omega)
      have HLT := Lib.hid hlt
      have b0 : (0 : Int) ≤ (i : Int) := by omega
      have b1 : (i : Int) < 64 := by omega
      clear hix h0 h1 hlt
      go_wp2_with fail
      refine HT1.out.mono ?_; rintro e w9 ⟨rfl, hR9, hg9⟩
      have HI9 := Lib.hid (HI.out.1.grown hg9 hR9)
      have HAV9 : Hid (RowA EAt w9 (gb + 1) (.slice ao an ac) RA.1) := Lib.hid (own_grown HI.out.2 hg9 (by have := HI9.out.lt; omega))
      obtain ⟨x0, hx0⟩ : ∃ x0, (ovr S.1 i)[i]? = some x0 := ⟨_, List.getElem?_eq_getElem (by have : (ovr S.1 i).length = 64 := hlO; have := HLT.out; omega)⟩
      have k1 := HI9.out.blk.slot (b := ⟨U1, af, ovr S.1 i, [], []⟩) hx0
      rw [Nat.add_comm] at k1
      have k2 := HI9.out.blk.froz (2 + i)
      have hx10 := HI9.out.blk.setSlot i (by show i < (ovr S.1 i).length; have : (ovr S.1 i).length = 64 := hlO; have := HLT.out; omega) t1.1
      rw [Nat.add_comm] at hx10
      have hx10 : BlkAt (w9.setCell ⟨gb, 2 + i, none⟩ (.int .u8 t1.1)) gb ⟨U1, af, ovr S.1 (i + 1), [], []⟩ NS (.slice ao an ac) := by
        have h := hx10
        simp only [] at h
        rw [HSO.out] at h
        exact h
      have HI10 := Lib.hid (HI9.out.set (2 + i) (.int .u8 t1.1) hx10)
      have HAV10 : Hid (RowA EAt (w9.setCell ⟨gb, 2 + i, none⟩ (.int .u8 t1.1)) (gb + 1) (.slice ao an ac) RA.1) := Lib.hid (own_set HAV9.out (a := ⟨gb, 2 + i, none⟩) (Nat.lt_succ_self _) _)
      clear hR9 hg9 hx0 hx10
      go_wp2_with fail
      go_roundw
      case rel => exact ⟨i + 1, t1.2, HLT.out, by go_num, HEN, Lib.hid ⟨HI10.out, HAV10.out⟩⟩
      case measure => simp [intOf]; have := HLT.out; omega
    · obtain rfl : i = 64 := by omega
      have d1 : decide (((64 : Nat) : Int) < 64) = false := by decide
      have HS64 : Hid (S.1.length = 64) := Lib.hid HSL.out
      have hS1 : S = (S.1, s1) := by
        have h := HE.out
        rw [HSR.out, List.take_of_length_le (by have := HS64.out; omega)] at h
        simpa [rdFs] using h
      have hs1 : S.2 = s1 := by rw [hS1]
      have HI11 : Hid (RdI w g gb S.2 ⟨U1, af, S.1, [], []⟩ NS (.slice ao an ac) wr) := Lib.hid (by
        have h := HI.out.1
        rw [ovr_all HS64.out, ← hs1] at h
        exact h)
      have HAV11 := Lib.hid HI.out.2
      have HUM' := Lib.hid (HUM.out g _ HI11.out.rd)
      clear hS1 hs1 HI hlt
      go_wp2_with fail
      refine HUM'.out.mono ?_; rintro e w12 ⟨rfl, hR12, hg12⟩
      have HI12 := Lib.hid (HI11.out.grown hg12 hR12)
      have HAV12 : Hid (RowA EAt w12 (gb + 1) (.slice ao an ac) RA.1) := Lib.hid (own_grown HAV11.out hg12 (by have := HI12.out.lt; omega))
      have HRF' := Lib.hid (HRF.out g w12 hR12)
      clear hR12 hg12 HUM' HI11 HAV11
      go_wp2_with fail
      refine HRF'.out.mono ?_; rintro e w13 ⟨fv, rfl, ho13, hR13, hg13⟩
      have HI13 := Lib.hid (HI12.out.grown hg13 hR13)
      have HAV13 : Hid (RowA EAt w13 (gb + 1) (.slice ao an ac) RA.1) := Lib.hid (own_grown HAV12.out hg13 (by have := HI13.out.lt; omega))
      obtain ⟨fo, fn, fc, rfl⟩ := own_form ho13
      have HFV13 := Lib.hid (Owns.le ho13 (show gb + 1 ≤ w12.heap.size from heap_lt HI12.out.blk))
      have hlS : (⟨U1, af, S.1, [], []⟩ : BlkS).sl.length = 64 := HS64.out
      have f66 := HI13.out.blk.froz 66
      have c66 := HI13.out.blk.free hlS
      have hx14 := HI13.out.blk.setFree hlS (.slice fo fn fc)
      have HI14 := Lib.hid (HI13.out.set 66 (.slice fo fn fc) hx14)
      have HAV14 : Hid (RowA EAt (w13.setCell ⟨gb, 66, none⟩ (.slice fo fn fc)) (gb + 1) (.slice ao an ac) RA.1) := Lib.hid (own_set HAV13.out (a := ⟨gb, 66, none⟩) (Nat.lt_succ_self _) _)
      have HFV14 : Hid (Owns (w13.setCell ⟨gb, 66, none⟩ (.slice fo fn fc)) (gb + 1) (.slice fo fn fc) F.1) := Lib.hid (own_set HFV13.out (a := ⟨gb, 66, none⟩) (Nat.lt_succ_self _) _)
      clear ho13 hR13 hg13 hx14 HRF' HI12 HI13 HAV12 HAV13 HFV13
      go_upto_region 11 with fail
      change Code.wp _ _ _ _ (w13.setCell ⟨gb, 66, none⟩ (.slice fo fn fc))
      generalize w13.setCell ⟨gb, 66, none⟩ (.slice fo fn fc) = w14 at HI14 HAV14 HFV14 ⊢
      clear f66 c66
      obtain ⟨bb, hbb⟩ : ∃ bb : BlkS, bb = ⟨U1, af, S.1, F.1, RA.1⟩ := ⟨_, rfl⟩
      rw [← hbb] at HOK HWF
      have HXB : Hid (BlkAt w14 gb bb (.slice fo fn fc) (.slice ao an ac)) := Lib.hid (by rw [hbb]; exact HI14.out.blk)
      have HSF : Hid (Sees w14 (.slice fo fn fc) bb.free) := Lib.hid (by rw [hbb]; exact HFV14.out.sees)
      have HSA : Hid (SeesA w14 (.slice ao an ac) bb.attrs) := Lib.hid (by rw [hbb]; exact RowA.sees HAV14.out)
      have HFV : Hid (Owns w14 (gb + 1) (.slice fo fn fc) bb.free) := Lib.hid (by rw [hbb]; exact HFV14.out)
      have HAV : Hid (RowA EAt w14 (gb + 1) (.slice ao an ac) bb.attrs) := Lib.hid (by rw [hbb]; exact HAV14.out)
      have hlB : bb.sl.length = 64 := by rw [hbb]; exact HS64.out
      have HRB := Lib.hid (rightBlk_any (blkL bb (.slice fo fn fc) (.slice ao an ac)).toArray bb w14 ⟨_, _, rfl, HSF.out, HSA.out, HWF.out.1⟩)
      have HDN := Lib.hid (done_any g g F.2 w14 HI14.out.rd)
      rw [HD.out] at HDN
      have HZ := Lib.hid (And.intro HI14.out.zero (And.intro HI14.out.below HI14.out.lt))
      clear hbb HFV14 HAV14 HI14 hlS
      have kz := fun w => buildZ w
      have HNO : Hid (OK = false → ∀ w' : World, BlkAt w' w.heap.size zB NS NS → Below w.heap.size w w' → ∃ fv av, Ending.returned (.tuple #[.agg (blkL zB NS NS).toArray, .int .i64 3]) = .returned (.tuple #[.agg (blkL CC fv av).toArray, .int .i64 cd]) ∧ BlkRet w w' CC fv av) := Lib.hid (fun h w' _ hb => by
        have hc : CC = zB := by rw [HOK.out.2, h]; rfl
        have h3 : cd = 3 := by rw [HCD.out, h]; rfl
        rw [hc, h3]
        exact ⟨NS, NS, rfl, Owns.nil _ _, World.ownsRow_nil _ _ _ _, hb⟩)
      cases ST with
      | false =>
        have hO : OK = false := by rw [HOK.out.1]; rfl
        have HNO' := Lib.hid (HNO.out hO)
        clear hO
        go_wp2_with (refine wpStB (b := zB) (fv := NS) (av := NS) rfl _ _ rfl rfl rfl HZ.out.1 zB_len zB_len rfl rfl ?_; intro w20 hx20 hg20)
        exact bodyPost_ret (resB2 Try.results39 rfl (loadVarB hx20 zB_len)) rfl (HNO'.out _ hx20 (HZ.out.2.1.grown hg20 HZ.out.2.1.size (fun k hk => by cases hk; exact Nat.le_refl _)))
      | true =>
        go_wp2_with fail
        refine HDN.out.mono ?_; rintro e w15 ⟨rfl, rfl⟩
        cases D with
        | false =>
          have hO : OK = false := by rw [HOK.out.1]; rfl
          have HNO' := Lib.hid (HNO.out hO)
          clear hO
          go_wp2_with (refine wpStB (b := zB) (fv := NS) (av := NS) rfl _ _ rfl rfl rfl HZ.out.1 zB_len zB_len rfl rfl ?_; intro w20 hx20 hg20)
          exact bodyPost_ret (resB2 Try.results39 rfl (loadVarB hx20 zB_len)) rfl (HNO'.out _ hx20 (HZ.out.2.1.grown hg20 HZ.out.2.1.size (fun k hk => by cases hk; exact Nat.le_refl _)))
        | true =>
          go_wp2_with (refine wpLdBg (by rfl) _ rfl rfl HXB.out hlB ?_)
          refine HRB.out.mono ?_; rintro e w16 ⟨rfl, hb16⟩
          have HZ6 := Lib.hid (And.intro (HZ.out.1.below hb16) (And.intro (HZ.out.2.1.trans (hb16.mono HZ.out.2.1.size)) HZ.out.2.2))
          have HXB6 := Lib.hid (HXB.out.below hb16)
          have HFV6 := Lib.hid (own_keep HFV.out hb16)
          have HAV6 := Lib.hid (row_keepA HAV.out hb16)
          clear hb16 HZ HXB HFV HAV
          cases hrb : rightB bb with
          | false =>
            have hO : OK = false := by rw [HOK.out.1, hrb]; rfl
            have HNO' := Lib.hid (HNO.out hO)
            clear hO hrb
            go_wp2_with (refine wpStB (b := zB) (fv := NS) (av := NS) rfl _ _ rfl rfl rfl HZ6.out.1 zB_len zB_len rfl rfl ?_; intro w20 hx20 hg20)
            exact bodyPost_ret (resB2 Try.results39 rfl (loadVarB hx20 zB_len)) rfl (HNO'.out _ hx20 (HZ6.out.2.1.grown hg20 HZ6.out.2.1.size (fun k hk => by cases hk; exact Nat.le_refl _)))
          | true =>
            have hO : OK = true := by rw [HOK.out.1, hrb]; rfl
            have HCC : Hid (bb = CC ∧ (0 : Int) = cd) := Lib.hid ⟨by rw [HOK.out.2, hO]; rfl, by rw [HCD.out, hO]; rfl⟩
            clear hO hrb
            go_wp2_with (first
              | (refine wpLdB rfl _ rfl rfl HXB6.out hlB ?_)
              | (refine wpStB (b := bb) rfl _ _ rfl rfl rfl HZ6.out.1 zB_len hlB rfl rfl ?_; intro w20 hx20 hg20))
            refine bodyPost_ret (resB2 Try.results39 rfl (loadVarB hx20 hlB)) rfl ⟨.slice fo fn fc, .slice ao an ac, by rw [← HCC.out.1, ← HCC.out.2]; rfl, ?_⟩
            rw [← HCC.out.1]
            exact ⟨own_le (own_grown HFV6.out hg20 (by have := HZ6.out.2.2; omega)) (by have := HZ6.out.2.2; omega), own_le (own_grown HAV6.out hg20 (by have := HZ6.out.2.2; omega)) (by have := HZ6.out.2.2; omega), HZ6.out.2.1.grown hg20 HZ6.out.2.1.size (fun k hk => by cases hk; exact Nat.le_refl _)⟩
end Go.Proofs.Ytgodmnpcedfdcaa
