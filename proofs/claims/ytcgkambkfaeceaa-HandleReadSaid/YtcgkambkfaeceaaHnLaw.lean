/- Package virgatelaw17: counts as the program's, and as the document's. -/
import Derived.Test.YtcgkambkfaeceaaHnAdd
namespace Go.Proofs.Ytcgkambkfaeceaa
open Go.RowKit
abbrev ER : TypeId := 49
theorem take_snoc {L : CntL} {i : Nat} (h : i < L.length) : L.take (i + 1) = L.take i ++ [at2 L i] := by
  rw [List.take_add_one, at2_get h]; rfl
theorem CntBd.sub {L M : CntL} (h : CntBd L) (hs : ∀ p ∈ M, p ∈ L) : CntBd M := fun p hp => h p (hs p hp)
theorem CntBd.take {L : CntL} (h : CntBd L) (k : Nat) : CntBd (L.take k) := h.sub fun _ hp => List.mem_of_mem_take hp
set_option maxRecDepth 100000 in
set_option maxHeartbeats 4000000 in
theorem plain_any (v : Value) (L : CntL) (w : World) (h : SeesC w v L) (hl : L.length ≤ 1000000) :
    Calls Try.prog 9 #[hnV v] w fun e w' => ∃ v', e = .returned v' ∧ RowE ER w' w.heap.size v' L ∧ Below w.heap.size w w' := by
  obtain ⟨W, hW⟩ : ∃ W, W = w.alloc (hnO v) := ⟨_, rfl⟩
  have hb0 : Below w.heap.size w W := by rw [hW]; exact belNew _ _
  have hA : W.heap[w.heap.size]? = some (hnO v) := by rw [hW]; exact heap_new w _
  obtain ⟨ao, c, rfl, hlc, hnil, hc⟩ := h.below hb0
  have HW := Lib.hid hW
  have HC := Lib.hid (And.intro hnil hc)
  have HB0 := Lib.hid hb0
  have c0 := hcell hA
  clear hW hnil hc hb0 hA h
  go_enter Try.func9, Try.ntmps9
  go_upto_region 1 with fail
  change Code.wp _ _ _ _ (w.alloc (hnO (.slice ao L.length c)))
  rw [← HW.out]
  clear HW
  go_wp2_with fail
  go_loopw [3, 9] (fun u j wr => ∃ i : Nat, i ≤ L.length ∧ j = .int .i64 i ∧ Hid (RowE ER wr W.heap.size u (L.take i)) ∧ Hid (Below W.heap.size W wr)) (fun _ j _ => L.length - (intOf j).toNat)
  case atStart => exact ⟨0, Nat.zero_le _, rfl, Lib.hid (World.ownsRow_nil _ _ _ _), Lib.hid (Below.refl _ _)⟩
  case round =>
    obtain ⟨i, hi, rfl, HO, HBw⟩ := hrel
    by_cases hlt : i < L.length
    · obtain ⟨a, rfl⟩ : ∃ a, ao = some a := by
        cases ao with
        | none => rw [HC.out.1 rfl] at hlt; simp at hlt
        | some a => exact ⟨a, rfl⟩
      obtain ⟨q0, q1⟩ := HC.out.2 a rfl i _ (at2_get hlt)
      have q0 := bcell HBw.out q0
      have q1 := ofs1 (bcell HBw.out q1)
      have b0 : (0 : Int) ≤ (i : Int) := by omega
      have b1 : (i : Int) < (L.length : Int) := by omega
      have d1 : decide ((i : Int) < (L.length : Int)) = true := by simp; omega
      have HT := Lib.hid (take_snoc hlt)
      have HLT := Lib.hid hlt
      generalize at2 L i = p at q0 q1 HT
      obtain ⟨px, pn⟩ := p
      simp only [] at q0 q1
      have hlt2 : (L.take i).length ≤ 1000001 := by rw [List.length_take]; omega
      have HO1 := Lib.hid (row_keep (row_leE HO.out (Nat.le_refl _)) (belNew wr (cntO (px, pn) 50)))
      have HB1 := Lib.hid (belAlloc HBw.out (cntO (px, pn) 50))
      go_wp2_with (at_builtin; go_loud (refine wpList_push (w0 := wr.alloc (cntO (px, pn) 50)) Try.underlying22 infoR rfl (.tmp 13) (.tmp 19) rfl W.heap.size _ (L.take i) (px, pn) (wr.heap.size + 1) (by simp) rfl rfl HO1.out hlt2 HB1.out.size ?_); intro v' w' ho' hb' hg')
      have HO2 : Hid (RowE ER w' W.heap.size v' (L.take (i + 1))) := Lib.hid (by rw [HT.out]; exact ho')
      have HB2 := Lib.hid (HB1.out.trans hb')
      clear ho' hb' hg' q0 q1
      go_wp2_with fail
      go_roundw
      case rel => exact ⟨i + 1, HLT.out, by go_num, HO2, HB2⟩
      case measure => simp [intOf]; have := HLT.out; omega
    · obtain rfl : i = L.length := by omega
      have d1 : decide ((L.length : Int) < (L.length : Int)) = false := by simp
      have HE : Hid (RowE ER wr w.heap.size _ L) := Lib.hid (by have := HO.out; rw [List.take_length] at this; exact row_leE this HB0.out.size)
      go_wp2_with fail
      go_ret
      exact ⟨_, rfl, HE.out, HB0.out.trans (HBw.out.mono HB0.out.size)⟩
set_option maxRecDepth 100000 in
set_option maxHeartbeats 4000000 in
theorem ours_any (v : Value) (L : CntL) (w : World) (h : SeesC w v L) (hl : L.length ≤ 9223372036854775807) :
    Calls Try.prog 8 #[v] w fun e w' => ∃ v', e = .returned (hnV v') ∧ RowE EC w' w.heap.size v' (L.take 40) ∧ Below w.heap.size w w' := by
  obtain ⟨W, hW⟩ : ∃ W, W = (w.alloc (hnO (.slice none 0 0))).alloc (hnO (.slice none 0 0)) := ⟨_, rfl⟩
  obtain ⟨hb0, hA, hR, hsz⟩ := two_new w (hnO (.slice none 0 0)) (hnO (.slice none 0 0))
  rw [← hW] at hb0 hA hR hsz
  obtain ⟨ao, c, rfl, hlc, hnil, hc⟩ := h
  have HW := Lib.hid hW
  have HC := Lib.hid (And.intro hnil hc)
  have HB0 := Lib.hid hb0
  have HA := Lib.hid hA
  have HR := Lib.hid hR
  have HSZ := Lib.hid hsz
  clear hW hnil hc hb0 hA hR hsz
  go_enter Try.func8, Try.ntmps8
  go_upto_region 2 with fail
  change Code.wp _ _ _ _ ((w.alloc (hnO (.slice none 0 0))).alloc (hnO (.slice none 0 0)))
  rw [← HW.out]
  clear HW
  go_wp2_with fail
  go_loopw [8] (fun j wr => ∃ i : Nat, i ≤ L.length ∧ j = .int .i64 i ∧ Hid (Below w.heap.size w wr ∧ wr.heap[w.heap.size]? = some (hnO (.slice none 0 0)) ∧ W.heap.size ≤ wr.heap.size ∧ ∃ ao' n' c', wr.heap[w.heap.size + 1]? = some (hnO (.slice ao' n' c')) ∧ RowE EC wr W.heap.size (.slice ao' n' c') ((L.take 40).take i))) (fun j _ => L.length - (intOf j).toNat)
  case atStart => exact ⟨0, Nat.zero_le _, rfl, Lib.hid ⟨HB0.out, HA.out, Nat.le_refl _, none, 0, 0, HR.out, World.ownsRow_nil _ _ _ _⟩⟩
  case round =>
    obtain ⟨i, hi, rfl, HI⟩ := hrel
    obtain ⟨hbw, hA1, hsz1, ao', n', c', hR1, ho1⟩ := HI.out
    have c2 := hcell hA1
    have c3 := hcell hR1
    have f3 := hfroz hR1
    have f2 := hfroz hA1
    have HBw := Lib.hid hbw
    have HA1 := Lib.hid hA1
    have HR1 := Lib.hid hR1
    have HS1 := Lib.hid hsz1
    have HO := Lib.hid ho1
    by_cases hlt : i < L.length
    · obtain ⟨a, rfl⟩ : ∃ a, ao = some a := by
        cases ao with
        | none => rw [HC.out.1 rfl] at hlt; simp at hlt
        | some a => exact ⟨a, rfl⟩
      obtain ⟨q0, q1⟩ := HC.out.2 a rfl i _ (at2_get hlt)
      have q0 := bcell hbw q0
      have q1 := ofs1 (bcell hbw q1)
      have b0 : (0 : Int) ≤ (i : Int) := by omega
      have b1 : (i : Int) < (L.length : Int) := by omega
      have d1 : decide ((i : Int) < (L.length : Int)) = true := by simp; omega
      have HLT := Lib.hid hlt
      have HTS : Hid (i < 40 → (L.take 40).take (i + 1) = (L.take 40).take i ++ [at2 L i]) := Lib.hid (fun h => by
        rw [List.take_take, List.take_take, Nat.min_eq_left (by omega), Nat.min_eq_left (by omega), take_snoc hlt])
      generalize at2 L i = p at q0 q1 HTS
      obtain ⟨px, pn⟩ := p
      simp only [] at q0 q1
      by_cases h40 : i < 40
      · have d40 : decide ((i : Int) < 40) = true := by simp; omega
        have HT := Lib.hid (HTS.out h40)
        have hlt2 : ((L.take 40).take i).length ≤ 1000001 := by simp; omega
        obtain ⟨w1, hw1⟩ : ∃ w1, w1 = wr.alloc (cntO (px, pn) 49) := ⟨_, rfl⟩
        have hb1 : Below wr.heap.size wr w1 := by rw [hw1]; exact belNew _ _
        have hx1 : w1.heap[wr.heap.size]? = some (cntO (px, pn) 49) := by rw [hw1]; exact heap_new _ _
        obtain ⟨x0, x1⟩ := ccells hx1
        have hS1 : w.heap.size + 1 < wr.heap.size := heap_lt HR1.out
        have hR2 := (hb1.block _ hS1).trans HR1.out
        have hA2 := (hb1.block _ (by omega)).trans HA1.out
        have c3 := hcell hR2
        have HR2 := Lib.hid hR2
        have HA2 := Lib.hid hA2
        have HO1 := Lib.hid (row_keep HO.out hb1)
        have HB1 := Lib.hid (bel HBw.out hb1)
        have HSZ1 := Lib.hid (Nat.le_trans HS1.out hb1.size)
        have HW1 := Lib.hid hw1
        clear hw1 hb1 hx1 hR2 hA2 hbw hA1 hsz1 hR1 ho1 HTS h40 c2 f2 f3
        go_upto_region 5 with fail
        change Code.wp _ _ _ _ (wr.alloc (cntO (px, pn) 49))
        rw [← HW1.out]
        go_wp2_with (at_builtin; refine wpList_push (w0 := w1) Try.underlying23 infoC rfl (.tmp 16) (.tmp 22) rfl W.heap.size _ ((L.take 40).take i) (px, pn) w1.heap.size rfl rfl rfl HO1.out hlt2 HSZ1.out ?_; intro v' w' ho' hb' hg'; have hRn := (hb'.block (w.heap.size + 1) (by rw [HSZ.out]; omega)).trans HR2.out; have f3 := hfroz hRn; have c3' := hcell hRn; have HRn := Lib.hid hRn; clear hRn; have HO2 := Lib.hid ho'; have HB2 := Lib.hid hb'; obtain ⟨ao2, n2, c2, rfl⟩ := sl_form ho'; clear ho' hb' hg')
        have HN : Hid (Below w.heap.size w (w'.setCell ⟨w.heap.size + 1, 0, none⟩ (.slice ao2 n2 c2)) ∧ (w'.setCell ⟨w.heap.size + 1, 0, none⟩ (.slice ao2 n2 c2)).heap[w.heap.size]? = some (hnO (.slice none 0 0)) ∧ W.heap.size ≤ (w'.setCell ⟨w.heap.size + 1, 0, none⟩ (.slice ao2 n2 c2)).heap.size ∧ ∃ ao' n' c', (w'.setCell ⟨w.heap.size + 1, 0, none⟩ (.slice ao2 n2 c2)).heap[w.heap.size + 1]? = some (hnO (.slice ao' n' c')) ∧ RowE EC (w'.setCell ⟨w.heap.size + 1, 0, none⟩ (.slice ao2 n2 c2)) W.heap.size (.slice ao' n' c') ((L.take 40).take (i + 1))) := Lib.hid (by
          have hb2 : Below w.heap.size w w' := HB1.out.trans (HB2.out.mono HB0.out.size)
          refine ⟨hb2.setCell (by show w.heap.size ≤ w.heap.size + 1; omega) _, ?_, ?_, ao2, n2, c2, one_setCell HRn.out, ?_⟩
          · rw [Below.heap_setCell _ _ _ _ (by simp)]
            exact (HB2.out.block _ (by rw [HSZ.out]; omega)).trans HA2.out
          · have h1 := Nat.le_trans HSZ1.out HB2.out.size
            simpa [World.setCell] using h1
          · rw [HT.out]
            refine ownsRow_setCell_other HO2.out (fun e => ?_) _
            have := (row_lt HO2.out _ e).1
            have h3 := HSZ.out
            simp only [] at this
            omega)
        clear c3 c3' f3 x0 x1 q0 q1
        go_roundw
        case rel => exact ⟨i + 1, HLT.out, by go_num, HN⟩
        case measure => simp [intOf]; have := HLT.out; omega
      · have d40 : decide ((i : Int) < 40) = false := by simp; omega
        have HN : Hid (Below w.heap.size w (wr.alloc (cntO (px, pn) 49)) ∧ (wr.alloc (cntO (px, pn) 49)).heap[w.heap.size]? = some (hnO (.slice none 0 0)) ∧ W.heap.size ≤ (wr.alloc (cntO (px, pn) 49)).heap.size ∧ ∃ ao' n' c', (wr.alloc (cntO (px, pn) 49)).heap[w.heap.size + 1]? = some (hnO (.slice ao' n' c')) ∧ RowE EC (wr.alloc (cntO (px, pn) 49)) W.heap.size (.slice ao' n' c') ((L.take 40).take (i + 1))) := Lib.hid (by
          have hb1 := belNew wr (cntO (px, pn) 49)
          have hS1 : w.heap.size + 1 < wr.heap.size := heap_lt HR1.out
          refine ⟨bel HBw.out hb1, (hb1.block _ (by omega)).trans HA1.out, Nat.le_trans HS1.out hb1.size, ao', n', c', (hb1.block _ hS1).trans HR1.out, ?_⟩
          have h1 := row_keep HO.out hb1
          rw [List.take_of_length_le (by rw [List.length_take]; omega)] at h1
          rw [List.take_of_length_le (by rw [List.length_take]; omega)]
          exact h1)
        clear c2 f2 f3 c3 hbw hA1 hsz1 hR1 ho1 HTS h40
        go_wp2_with fail
        go_roundw
        case rel => exact ⟨i + 1, HLT.out, by go_num, HN⟩
        case measure => simp [intOf]; have := HLT.out; omega
    · obtain rfl : i = L.length := by omega
      have d1 : decide ((L.length : Int) < (L.length : Int)) = false := by simp
      have r0 : (wr.setCell ⟨w.heap.size, 0, none⟩ (.slice ao' n' c')).cell? ⟨w.heap.size, 0, none⟩ = some (.slice ao' n' c') := cell_of_one (one_setCell HA1.out)
      have HE : Hid (RowE EC (wr.setCell ⟨w.heap.size, 0, none⟩ (.slice ao' n' c')) w.heap.size (.slice ao' n' c') (L.take 40) ∧ Below w.heap.size w (wr.setCell ⟨w.heap.size, 0, none⟩ (.slice ao' n' c'))) := Lib.hid (by
        have h2 := HO.out
        rw [List.take_of_length_le (by rw [List.length_take]; omega)] at h2
        refine ⟨ownsRow_setCell_other (row_leE h2 HB0.out.size) (fun e => ?_) _, HBw.out.setCell (Nat.le_refl _) _⟩
        have := (row_lt h2 _ e).1
        have h3 := HSZ.out
        simp only [] at this
        omega)
      clear hbw hA1 hsz1 hR1 ho1
      go_wp2_with fail
      refine bodyPost_ret (v := hnV (.slice ao' n' c')) ?_ rfl ⟨_, rfl, HE.out⟩
      simp [results, Try.results8, go_sem, r0]
end Go.Proofs.Ytcgkambkfaeceaa
