/- Package handle: Read, with the blocks of what it makes. Made by g_hreado.py. -/
import Derived.Test.YtiifbhiodegipaaGreatDoorHnMath
namespace Go.Proofs.YtiifbhiodegipaaGreatDoor.HN
open Go.RowKit
set_option maxRecDepth 100000 in
set_option maxHeartbeats 16000000 in
theorem hreadO_any (s : ByteArray) (w : World) (hs : s.size ≤ 1000) :
    Calls Tryz.prog 96 #[.string s] w fun e w' => ∃ v', e = .returned (resH (okHB s) v') ∧ SeesC w' v' (readR s).1 ∧ Below w.heap.size w w' ∧ ∀ d, v'.ownBlock = some d → w.heap.size ≤ d ∧ d < w'.heap.size := by
  obtain ⟨hbd, hlen, hn0, hn1⟩ := read_bd s hs
  have hok : okHB s = (starts s pH && (doneB (readR s).2 && rightH (readR s).1)) := rfl
  have hRR : readR s = rdC (hst1 s).1.toNat (hst1 s).2 := rfl
  have hU : rdU (some (strI (rest s pH))) 2 = hst1 s := rfl
  obtain ⟨W, hW⟩ : ∃ W, W = w.alloc (hnO (.slice none 0 0)) := ⟨_, rfl⟩
  have hb0 : Below w.heap.size w W := by rw [hW]; exact belNew _ _
  have hA : W.heap[w.heap.size]? = some (hnO (.slice none 0 0)) := by rw [hW]; exact heap_new w _
  have HC := Lib.hid (Tryz.strings_CutPrefix s pH W)
  have hr : (⟨(Lib.trimPrefix s.data.toList pH.data.toList).toArray⟩ : ByteArray) = rest s pH := rfl
  rw [hr] at HC
  have hz : (Lib.hasPrefix s.data.toList pH.data.toList) = starts s pH := rfl
  rw [hz] at HC
  have hsz : (rest s pH).size ≤ 1000 := Nat.le_trans (rest_size s pH) hs
  generalize starts s pH = ST at *
  generalize rest s pH = r at *
  have hcv := Lib.run_convert_string_bytes (P := Tryz.prog) W 9 56 5 r Tryz.underlying9 Tryz.underlying56 Tryz.underlying5
  have hbz := bytes_below W 5 r
  have hse := bytes_sees W r
  obtain ⟨wz, hwz⟩ : ∃ wz, wz = Lib.bytesWorld W 5 r := ⟨_, rfl⟩
  rw [← hwz] at hcv hbz hse
  obtain ⟨bs, hbs⟩ : ∃ bs, bs = strI r := ⟨_, rfl⟩
  have HN := Lib.hid (new_any _ (strI r) wz hse (okB_strI r) (by rw [strI_length]; omega))
  rw [← hbs] at HN hU
  have HBZ := Lib.hid hbz
  generalize hst1 s = U at *
  obtain ⟨n0, st1⟩ := U
  simp only [] at hn0 hn1 hRR
  obtain ⟨N, rfl⟩ := Int.eq_ofNat_of_zero_le hn0
  rw [Int.toNat_natCast] at hRR
  have HRC : Hid (∀ g w, RdP g g st1 w → Calls Tryz.prog 134 #[.pointer (some ⟨g, 0, none⟩), .int .i64 N] w fun e w' => ∃ v', e = .returned v' ∧ RowE EC w' w.heap.size v' (readR s).1 ∧ RdP g g (readR s).2 w' ∧ w.grownBy w' (some g)) := Lib.hid (fun g w h => by
    rw [hRR]
    exact readCounts_any g st1 N w h (by omega))
  have hwn : IntKind.i64.wrap (N : Int) = (N : Int) := IntWalk.i64_in _ (by omega)
  generalize readR s = RR at *
  obtain ⟨L, st2⟩ := RR
  simp only [] at HRC hbd hlen hok ⊢
  generalize okHB s = OK at *
  have HU := Lib.hid hU
  have HBD := Lib.hid hbd
  have HLN : Hid (L.length ≤ 4096) := Lib.hid (by omega)
  have HW := Lib.hid hW
  have HB0 := Lib.hid hb0
  have HA := Lib.hid hA
  clear hW hb0 hA hr hz hs hsz hwz hbz hse hbs hU hRR hbd hlen hn0 hn1
  generalize hD : doneB st2 = D at *
  generalize hRT : rightH L = R at *
  have HD := Lib.hid hD
  have HRT := Lib.hid hRT
  clear hD hRT
  cases ST with
  | false =>
    have HV : Hid (OK = false) := Lib.hid (by rw [hok]; rfl)
    clear hok
    go_enter Tryz.func96, Tryz.ntmps96
    go_upto_region 1 with fail
    change Code.wp _ _ _ _ (w.alloc (hnO (.slice none 0 0)))
    rw [← HW.out]
    clear HW
    go_wp2_with (first
      | (go_at_call 118; refine HC.out.mono ?_; rintro e w1 ⟨rfl, rfl⟩)
      | fail)
    refine HN.out.mono ?_; rintro e w2 ⟨g, rfl, hR2, hg2, hb2⟩
    have HB2 := Lib.hid (bel HBZ.out hb2)
    have HR2 := Lib.hid hR2
    have HGS : Hid (w1.heap.size ≤ g) := Lib.hid (Nat.le_trans HBZ.out.size hg2)
    clear hR2 hg2 hb2
    go_wp2_with fail
    refine (u_any g g (some bs) 2 _ HR2.out).mono ?_; rintro e w3 ⟨rfl, hR3, hg3⟩
    have HR3 := Lib.hid hR3
    have HG3 := Lib.hid hg3
    clear hR3 hg3
    rw [HU.out] at HR3 ⊢
    go_wp2_with fail
    refine (HRC.out g w3 HR3.out).mono ?_; rintro e w4 ⟨v4, rfl, ho4, hR4, hg4⟩
    have HO4 := Lib.hid ho4
    have HS34 : Hid (w.heap.size < w3.heap.size) := Lib.hid (by have h1 := heap_lt HA.out; have h2 := HB2.out.size; have h3 := HG3.out.size; omega)
    have HR4 := Lib.hid hR4
    have hS2 := (HB2.out.block _ (heap_lt HA.out)).trans HA.out
    have hgg := grown_trans HG3.out hg4
    have hS4 := (hgg.block w.heap.size (heap_lt hS2) (fun e => by have := Option.some.inj e; have := HGS.out; have := heap_lt HA.out; omega)).trans hS2
    have HB4 : Hid (Below w.heap.size w w4) := Lib.hid ((HB0.out.trans (HB2.out.mono HB0.out.size)).grown hgg (HB0.out.trans (HB2.out.mono HB0.out.size)).size (fun k hk => by cases hk; have := HGS.out; have := HB0.out.size; omega))
    obtain ⟨ao4, c4, rfl, -⟩ := ho4.sees
    obtain ⟨W5, hW5⟩ : ∃ W5, W5 = w4.alloc (hnO (.slice ao4 L.length c4)) := ⟨_, rfl⟩
    have hb5 : Below w4.heap.size w4 W5 := by rw [hW5]; exact belNew _ _
    have hp5 : W5.heap[w4.heap.size]? = some (hnO (.slice ao4 L.length c4)) := by rw [hW5]; exact heap_new w4 _
    have hS5 := (hb5.block _ (heap_lt hS4)).trans hS4
    have HR5 := Lib.hid (HR4.out.below hb5)
    have HS5 := Lib.hid (HO4.out.sees.below hb5)
    have HB5 : Hid (Below w.heap.size w W5) := Lib.hid (HB4.out.trans (hb5.mono HB4.out.size))
    have HS5h := Lib.hid hS5
    have HLT := Lib.hid (heap_lt hS4)
    have c2 := hcell hS5
    have f2 := hfroz hS5
    have c7 := hcell hp5
    have HW5 := Lib.hid hW5
    have HSL : Hid (w.heap.size < w4.heap.size) := Lib.hid (heap_lt hS4)
    have HZ5 : Hid (w4.heap.size ≤ W5.heap.size) := Lib.hid hb5.size
    clear hS2 hgg hS4 hW5 hb5 hp5 hS5 hR4 hg4 ho4
    go_upto_region 4 with fail
    change Code.wp _ _ _ _ (w4.alloc (hnO (.slice ao4 L.length c4)))
    rw [← HW5.out]
    clear HW5
    have HNE : Hid (∀ d, (Value.slice ao4 L.length c4).ownBlock = some d → d = w.heap.size → False) := Lib.hid (fun d hd e => by
      have := (row_lt HO4.out d hd).1
      have := HS34.out
      omega)
    clear c2 f2
    have HSX := Lib.hid HS5h.out
    have f2 := hfroz HSX.out
    have c2 := hcell HSX.out
    have HOW : Hid (∀ d, (Value.slice ao4 L.length c4).ownBlock = some d → w.heap.size ≤ d ∧ d < (W5.setCell ⟨w.heap.size, 0, none⟩ (.slice none 0 0)).heap.size) := Lib.hid (fun d hd => by
      have h1 := row_lt HO4.out d hd; have h2 := HS34.out; have h3 := HZ5.out
      have h4 : (W5.setCell ⟨w.heap.size, 0, none⟩ (.slice none 0 0)).heap.size = W5.heap.size := by simp
      rw [h4]; omega)
    have HBE : Hid (Below w.heap.size w (W5.setCell ⟨w.heap.size, 0, none⟩ (.slice none 0 0))) := Lib.hid (HB5.out.setCell (Nat.le_refl _) _)
    have HSE : Hid (SeesC (W5.setCell ⟨w.heap.size, 0, none⟩ (.slice none 0 0)) (.slice ao4 L.length c4) L) := Lib.hid (HS5.out.keep (fun d hd _ => Below.heap_setCell _ _ _ _ (fun e => HNE.out d hd e)))
    have r0 : (W5.setCell ⟨w.heap.size, 0, none⟩ (.slice none 0 0)).cell? ⟨w.heap.size, 0, none⟩ = some (.slice none 0 0) := cell_of_one (one_setCell HSX.out)
    go_wp2_with fail
    refine bodyPost_ret (v := .tuple #[hnV (.slice none 0 0), .int .i64 3]) ?_ rfl ⟨.slice ao4 L.length c4, by rw [HV.out]; rfl, HSE.out, HBE.out, HOW.out⟩
    simp [results, Tryz.results96, go_sem, r0]
  | true =>
    cases D with
    | false =>
      have HV : Hid (OK = false) := Lib.hid (by rw [hok]; rfl)
      clear hok
      go_enter Tryz.func96, Tryz.ntmps96
      go_upto_region 1 with fail
      change Code.wp _ _ _ _ (w.alloc (hnO (.slice none 0 0)))
      rw [← HW.out]
      clear HW
      go_wp2_with (first
        | (go_at_call 118; refine HC.out.mono ?_; rintro e w1 ⟨rfl, rfl⟩)
        | fail)
      refine HN.out.mono ?_; rintro e w2 ⟨g, rfl, hR2, hg2, hb2⟩
      have HB2 := Lib.hid (bel HBZ.out hb2)
      have HR2 := Lib.hid hR2
      have HGS : Hid (w1.heap.size ≤ g) := Lib.hid (Nat.le_trans HBZ.out.size hg2)
      clear hR2 hg2 hb2
      go_wp2_with fail
      refine (u_any g g (some bs) 2 _ HR2.out).mono ?_; rintro e w3 ⟨rfl, hR3, hg3⟩
      have HR3 := Lib.hid hR3
      have HG3 := Lib.hid hg3
      clear hR3 hg3
      rw [HU.out] at HR3 ⊢
      go_wp2_with fail
      refine (HRC.out g w3 HR3.out).mono ?_; rintro e w4 ⟨v4, rfl, ho4, hR4, hg4⟩
      have HO4 := Lib.hid ho4
      have HS34 : Hid (w.heap.size < w3.heap.size) := Lib.hid (by have h1 := heap_lt HA.out; have h2 := HB2.out.size; have h3 := HG3.out.size; omega)
      have HR4 := Lib.hid hR4
      have hS2 := (HB2.out.block _ (heap_lt HA.out)).trans HA.out
      have hgg := grown_trans HG3.out hg4
      have hS4 := (hgg.block w.heap.size (heap_lt hS2) (fun e => by have := Option.some.inj e; have := HGS.out; have := heap_lt HA.out; omega)).trans hS2
      have HB4 : Hid (Below w.heap.size w w4) := Lib.hid ((HB0.out.trans (HB2.out.mono HB0.out.size)).grown hgg (HB0.out.trans (HB2.out.mono HB0.out.size)).size (fun k hk => by cases hk; have := HGS.out; have := HB0.out.size; omega))
      obtain ⟨ao4, c4, rfl, -⟩ := ho4.sees
      obtain ⟨W5, hW5⟩ : ∃ W5, W5 = w4.alloc (hnO (.slice ao4 L.length c4)) := ⟨_, rfl⟩
      have hb5 : Below w4.heap.size w4 W5 := by rw [hW5]; exact belNew _ _
      have hp5 : W5.heap[w4.heap.size]? = some (hnO (.slice ao4 L.length c4)) := by rw [hW5]; exact heap_new w4 _
      have hS5 := (hb5.block _ (heap_lt hS4)).trans hS4
      have HR5 := Lib.hid (HR4.out.below hb5)
      have HS5 := Lib.hid (HO4.out.sees.below hb5)
      have HB5 : Hid (Below w.heap.size w W5) := Lib.hid (HB4.out.trans (hb5.mono HB4.out.size))
      have HS5h := Lib.hid hS5
      have HLT := Lib.hid (heap_lt hS4)
      have c2 := hcell hS5
      have f2 := hfroz hS5
      have c7 := hcell hp5
      have HW5 := Lib.hid hW5
      have HSL : Hid (w.heap.size < w4.heap.size) := Lib.hid (heap_lt hS4)
      have HZ5 : Hid (w4.heap.size ≤ W5.heap.size) := Lib.hid hb5.size
      clear hS2 hgg hS4 hW5 hb5 hp5 hS5 hR4 hg4 ho4
      go_upto_region 4 with fail
      change Code.wp _ _ _ _ (w4.alloc (hnO (.slice ao4 L.length c4)))
      rw [← HW5.out]
      clear HW5
      have HNE : Hid (∀ d, (Value.slice ao4 L.length c4).ownBlock = some d → d = w.heap.size → False) := Lib.hid (fun d hd e => by
        have := (row_lt HO4.out d hd).1
        have := HS34.out
        omega)
      have HDC := Lib.hid (done_any g g st2 W5 HR5.out)
      rw [HD.out] at HDC
      go_wp2_with fail
      refine HDC.out.mono ?_; rintro e wq ⟨rfl, rfl⟩
      clear c2 f2
      have HSX := Lib.hid HS5h.out
      have f2 := hfroz HSX.out
      have c2 := hcell HSX.out
      have HOW : Hid (∀ d, (Value.slice ao4 L.length c4).ownBlock = some d → w.heap.size ≤ d ∧ d < (W5.setCell ⟨w.heap.size, 0, none⟩ (.slice none 0 0)).heap.size) := Lib.hid (fun d hd => by
        have h1 := row_lt HO4.out d hd; have h2 := HS34.out; have h3 := HZ5.out
        have h4 : (W5.setCell ⟨w.heap.size, 0, none⟩ (.slice none 0 0)).heap.size = W5.heap.size := by simp
        rw [h4]; omega)
      have HBE : Hid (Below w.heap.size w (W5.setCell ⟨w.heap.size, 0, none⟩ (.slice none 0 0))) := Lib.hid (HB5.out.setCell (Nat.le_refl _) _)
      have HSE : Hid (SeesC (W5.setCell ⟨w.heap.size, 0, none⟩ (.slice none 0 0)) (.slice ao4 L.length c4) L) := Lib.hid (HS5.out.keep (fun d hd _ => Below.heap_setCell _ _ _ _ (fun e => HNE.out d hd e)))
      have r0 : (W5.setCell ⟨w.heap.size, 0, none⟩ (.slice none 0 0)).cell? ⟨w.heap.size, 0, none⟩ = some (.slice none 0 0) := cell_of_one (one_setCell HSX.out)
      go_wp2_with fail
      refine bodyPost_ret (v := .tuple #[hnV (.slice none 0 0), .int .i64 3]) ?_ rfl ⟨.slice ao4 L.length c4, by rw [HV.out]; rfl, HSE.out, HBE.out, HOW.out⟩
      simp [results, Tryz.results96, go_sem, r0]
    | true =>
      cases R with
      | false =>
        have HV : Hid (OK = false) := Lib.hid (by rw [hok]; rfl)
        clear hok
        go_enter Tryz.func96, Tryz.ntmps96
        go_upto_region 1 with fail
        change Code.wp _ _ _ _ (w.alloc (hnO (.slice none 0 0)))
        rw [← HW.out]
        clear HW
        go_wp2_with (first
          | (go_at_call 118; refine HC.out.mono ?_; rintro e w1 ⟨rfl, rfl⟩)
          | fail)
        refine HN.out.mono ?_; rintro e w2 ⟨g, rfl, hR2, hg2, hb2⟩
        have HB2 := Lib.hid (bel HBZ.out hb2)
        have HR2 := Lib.hid hR2
        have HGS : Hid (w1.heap.size ≤ g) := Lib.hid (Nat.le_trans HBZ.out.size hg2)
        clear hR2 hg2 hb2
        go_wp2_with fail
        refine (u_any g g (some bs) 2 _ HR2.out).mono ?_; rintro e w3 ⟨rfl, hR3, hg3⟩
        have HR3 := Lib.hid hR3
        have HG3 := Lib.hid hg3
        clear hR3 hg3
        rw [HU.out] at HR3 ⊢
        go_wp2_with fail
        refine (HRC.out g w3 HR3.out).mono ?_; rintro e w4 ⟨v4, rfl, ho4, hR4, hg4⟩
        have HO4 := Lib.hid ho4
        have HS34 : Hid (w.heap.size < w3.heap.size) := Lib.hid (by have h1 := heap_lt HA.out; have h2 := HB2.out.size; have h3 := HG3.out.size; omega)
        have HR4 := Lib.hid hR4
        have hS2 := (HB2.out.block _ (heap_lt HA.out)).trans HA.out
        have hgg := grown_trans HG3.out hg4
        have hS4 := (hgg.block w.heap.size (heap_lt hS2) (fun e => by have := Option.some.inj e; have := HGS.out; have := heap_lt HA.out; omega)).trans hS2
        have HB4 : Hid (Below w.heap.size w w4) := Lib.hid ((HB0.out.trans (HB2.out.mono HB0.out.size)).grown hgg (HB0.out.trans (HB2.out.mono HB0.out.size)).size (fun k hk => by cases hk; have := HGS.out; have := HB0.out.size; omega))
        obtain ⟨ao4, c4, rfl, -⟩ := ho4.sees
        obtain ⟨W5, hW5⟩ : ∃ W5, W5 = w4.alloc (hnO (.slice ao4 L.length c4)) := ⟨_, rfl⟩
        have hb5 : Below w4.heap.size w4 W5 := by rw [hW5]; exact belNew _ _
        have hp5 : W5.heap[w4.heap.size]? = some (hnO (.slice ao4 L.length c4)) := by rw [hW5]; exact heap_new w4 _
        have hS5 := (hb5.block _ (heap_lt hS4)).trans hS4
        have HR5 := Lib.hid (HR4.out.below hb5)
        have HS5 := Lib.hid (HO4.out.sees.below hb5)
        have HB5 : Hid (Below w.heap.size w W5) := Lib.hid (HB4.out.trans (hb5.mono HB4.out.size))
        have HS5h := Lib.hid hS5
        have HLT := Lib.hid (heap_lt hS4)
        have c2 := hcell hS5
        have f2 := hfroz hS5
        have c7 := hcell hp5
        have HW5 := Lib.hid hW5
        have HSL : Hid (w.heap.size < w4.heap.size) := Lib.hid (heap_lt hS4)
        have HZ5 : Hid (w4.heap.size ≤ W5.heap.size) := Lib.hid hb5.size
        clear hS2 hgg hS4 hW5 hb5 hp5 hS5 hR4 hg4 ho4
        go_upto_region 4 with fail
        change Code.wp _ _ _ _ (w4.alloc (hnO (.slice ao4 L.length c4)))
        rw [← HW5.out]
        clear HW5
        have HNE : Hid (∀ d, (Value.slice ao4 L.length c4).ownBlock = some d → d = w.heap.size → False) := Lib.hid (fun d hd e => by
          have := (row_lt HO4.out d hd).1
          have := HS34.out
          omega)
        have HDC := Lib.hid (done_any g g st2 W5 HR5.out)
        rw [HD.out] at HDC
        go_wp2_with fail
        refine HDC.out.mono ?_; rintro e wq ⟨rfl, rfl⟩
        have HRC2 := Lib.hid (right_any (.slice ao4 L.length c4) L W5 HS5.out HBD.out HLN.out)
        rw [HRT.out] at HRC2
        go_wp2_with fail
        refine HRC2.out.mono ?_; rintro e w6 ⟨rfl, hb6⟩
        have HB6 := Lib.hid (HB5.out.trans (hb6.mono HB5.out.size))
        have HS6 := Lib.hid (HS5.out.below hb6)
        have HS6h := Lib.hid ((hb6.block _ (heap_lt HS5h.out)).trans HS5h.out)
        have c7 := bcell hb6 c7
        have HZ6 : Hid (w4.heap.size ≤ w6.heap.size) := Lib.hid (Nat.le_trans HZ5.out hb6.size)
        clear hb6 c2 f2
        have HSX := Lib.hid HS6h.out
        have f2 := hfroz HSX.out
        have c2 := hcell HSX.out
        have HOW : Hid (∀ d, (Value.slice ao4 L.length c4).ownBlock = some d → w.heap.size ≤ d ∧ d < (w6.setCell ⟨w.heap.size, 0, none⟩ (.slice none 0 0)).heap.size) := Lib.hid (fun d hd => by
          have h1 := row_lt HO4.out d hd; have h2 := HS34.out; have h3 := HZ6.out
          have h4 : (w6.setCell ⟨w.heap.size, 0, none⟩ (.slice none 0 0)).heap.size = w6.heap.size := by simp
          rw [h4]; omega)
        have HBE : Hid (Below w.heap.size w (w6.setCell ⟨w.heap.size, 0, none⟩ (.slice none 0 0))) := Lib.hid (HB6.out.setCell (Nat.le_refl _) _)
        have HSE : Hid (SeesC (w6.setCell ⟨w.heap.size, 0, none⟩ (.slice none 0 0)) (.slice ao4 L.length c4) L) := Lib.hid (HS6.out.keep (fun d hd _ => Below.heap_setCell _ _ _ _ (fun e => HNE.out d hd e)))
        have r0 : (w6.setCell ⟨w.heap.size, 0, none⟩ (.slice none 0 0)).cell? ⟨w.heap.size, 0, none⟩ = some (.slice none 0 0) := cell_of_one (one_setCell HSX.out)
        go_wp2_with fail
        refine bodyPost_ret (v := .tuple #[hnV (.slice none 0 0), .int .i64 3]) ?_ rfl ⟨.slice ao4 L.length c4, by rw [HV.out]; rfl, HSE.out, HBE.out, HOW.out⟩
        simp [results, Tryz.results96, go_sem, r0]
      | true =>
        have HV : Hid (OK = true) := Lib.hid (by rw [hok]; rfl)
        clear hok
        go_enter Tryz.func96, Tryz.ntmps96
        go_upto_region 1 with fail
        change Code.wp _ _ _ _ (w.alloc (hnO (.slice none 0 0)))
        rw [← HW.out]
        clear HW
        go_wp2_with (first
          | (go_at_call 118; refine HC.out.mono ?_; rintro e w1 ⟨rfl, rfl⟩)
          | fail)
        refine HN.out.mono ?_; rintro e w2 ⟨g, rfl, hR2, hg2, hb2⟩
        have HB2 := Lib.hid (bel HBZ.out hb2)
        have HR2 := Lib.hid hR2
        have HGS : Hid (w1.heap.size ≤ g) := Lib.hid (Nat.le_trans HBZ.out.size hg2)
        clear hR2 hg2 hb2
        go_wp2_with fail
        refine (u_any g g (some bs) 2 _ HR2.out).mono ?_; rintro e w3 ⟨rfl, hR3, hg3⟩
        have HR3 := Lib.hid hR3
        have HG3 := Lib.hid hg3
        clear hR3 hg3
        rw [HU.out] at HR3 ⊢
        go_wp2_with fail
        refine (HRC.out g w3 HR3.out).mono ?_; rintro e w4 ⟨v4, rfl, ho4, hR4, hg4⟩
        have HO4 := Lib.hid ho4
        have HS34 : Hid (w.heap.size < w3.heap.size) := Lib.hid (by have h1 := heap_lt HA.out; have h2 := HB2.out.size; have h3 := HG3.out.size; omega)
        have HR4 := Lib.hid hR4
        have hS2 := (HB2.out.block _ (heap_lt HA.out)).trans HA.out
        have hgg := grown_trans HG3.out hg4
        have hS4 := (hgg.block w.heap.size (heap_lt hS2) (fun e => by have := Option.some.inj e; have := HGS.out; have := heap_lt HA.out; omega)).trans hS2
        have HB4 : Hid (Below w.heap.size w w4) := Lib.hid ((HB0.out.trans (HB2.out.mono HB0.out.size)).grown hgg (HB0.out.trans (HB2.out.mono HB0.out.size)).size (fun k hk => by cases hk; have := HGS.out; have := HB0.out.size; omega))
        obtain ⟨ao4, c4, rfl, -⟩ := ho4.sees
        obtain ⟨W5, hW5⟩ : ∃ W5, W5 = w4.alloc (hnO (.slice ao4 L.length c4)) := ⟨_, rfl⟩
        have hb5 : Below w4.heap.size w4 W5 := by rw [hW5]; exact belNew _ _
        have hp5 : W5.heap[w4.heap.size]? = some (hnO (.slice ao4 L.length c4)) := by rw [hW5]; exact heap_new w4 _
        have hS5 := (hb5.block _ (heap_lt hS4)).trans hS4
        have HR5 := Lib.hid (HR4.out.below hb5)
        have HS5 := Lib.hid (HO4.out.sees.below hb5)
        have HB5 : Hid (Below w.heap.size w W5) := Lib.hid (HB4.out.trans (hb5.mono HB4.out.size))
        have HS5h := Lib.hid hS5
        have HLT := Lib.hid (heap_lt hS4)
        have c2 := hcell hS5
        have f2 := hfroz hS5
        have c7 := hcell hp5
        have HW5 := Lib.hid hW5
        have HSL : Hid (w.heap.size < w4.heap.size) := Lib.hid (heap_lt hS4)
        have HZ5 : Hid (w4.heap.size ≤ W5.heap.size) := Lib.hid hb5.size
        clear hS2 hgg hS4 hW5 hb5 hp5 hS5 hR4 hg4 ho4
        go_upto_region 4 with fail
        change Code.wp _ _ _ _ (w4.alloc (hnO (.slice ao4 L.length c4)))
        rw [← HW5.out]
        clear HW5
        have HNE : Hid (∀ d, (Value.slice ao4 L.length c4).ownBlock = some d → d = w.heap.size → False) := Lib.hid (fun d hd e => by
          have := (row_lt HO4.out d hd).1
          have := HS34.out
          omega)
        have HDC := Lib.hid (done_any g g st2 W5 HR5.out)
        rw [HD.out] at HDC
        go_wp2_with fail
        refine HDC.out.mono ?_; rintro e wq ⟨rfl, rfl⟩
        have HRC2 := Lib.hid (right_any (.slice ao4 L.length c4) L W5 HS5.out HBD.out HLN.out)
        rw [HRT.out] at HRC2
        go_wp2_with fail
        refine HRC2.out.mono ?_; rintro e w6 ⟨rfl, hb6⟩
        have HB6 := Lib.hid (HB5.out.trans (hb6.mono HB5.out.size))
        have HS6 := Lib.hid (HS5.out.below hb6)
        have HS6h := Lib.hid ((hb6.block _ (heap_lt HS5h.out)).trans HS5h.out)
        have c7 := bcell hb6 c7
        have HZ6 : Hid (w4.heap.size ≤ w6.heap.size) := Lib.hid (Nat.le_trans HZ5.out hb6.size)
        clear hb6 c2 f2
        have HSX := Lib.hid HS6h.out
        have f2 := hfroz HSX.out
        have c2 := hcell HSX.out
        have HOW : Hid (∀ d, (Value.slice ao4 L.length c4).ownBlock = some d → w.heap.size ≤ d ∧ d < (w6.setCell ⟨w.heap.size, 0, none⟩ (.slice ao4 L.length c4)).heap.size) := Lib.hid (fun d hd => by
          have h1 := row_lt HO4.out d hd; have h2 := HS34.out; have h3 := HZ6.out
          have h4 : (w6.setCell ⟨w.heap.size, 0, none⟩ (.slice ao4 L.length c4)).heap.size = w6.heap.size := by simp
          rw [h4]; omega)
        have HBE : Hid (Below w.heap.size w (w6.setCell ⟨w.heap.size, 0, none⟩ (.slice ao4 L.length c4))) := Lib.hid (HB6.out.setCell (Nat.le_refl _) _)
        have HSE : Hid (SeesC (w6.setCell ⟨w.heap.size, 0, none⟩ (.slice ao4 L.length c4)) (.slice ao4 L.length c4) L) := Lib.hid (HS6.out.keep (fun d hd _ => Below.heap_setCell _ _ _ _ (fun e => HNE.out d hd e)))
        have r0 : (w6.setCell ⟨w.heap.size, 0, none⟩ (.slice ao4 L.length c4)).cell? ⟨w.heap.size, 0, none⟩ = some (.slice ao4 L.length c4) := cell_of_one (one_setCell HSX.out)
        go_wp2_with fail
        refine bodyPost_ret (v := .tuple #[hnV (.slice ao4 L.length c4), .int .i64 0]) ?_ rfl ⟨.slice ao4 L.length c4, by rw [HV.out]; rfl, HSE.out, HBE.out, HOW.out⟩
        simp [results, Tryz.results96, go_sem, r0]
end Go.Proofs.YtiifbhiodegipaaGreatDoor.HN
