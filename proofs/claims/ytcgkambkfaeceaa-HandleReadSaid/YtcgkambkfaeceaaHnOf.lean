/- Package handle: how many of a block. -/
import Derived.Test.YtcgkambkfaeceaaHnSlE
namespace Go.Proofs.Ytcgkambkfaeceaa
open Go.RowKit
set_option maxHeartbeats 2000000 in
theorem of1_any (x n b : Int) (q : Addr) (w : World) (hq : w.cell? q = some (.int .u32 b)) (hb : 0 ≤ b) (hb' : b < 4294967296) :
    Calls Try.prog 39 #[.agg #[.int .u32 x, .int .i64 n], .pointer (some q)] w fun e w' => e = .returned (.bool (x == b - b % 64)) ∧ Below w.heap.size w w' := by
  have HF := Lib.hid (fun w => first_any b hb hb' w)
  obtain ⟨wA, hW⟩ : ∃ wA, wA = w.alloc (cntO (x, n) 50) := ⟨_, rfl⟩
  have hb0 : Below w.heap.size w wA := by rw [hW]; exact belNew _ _
  have hA : wA.heap[w.heap.size]? = some (cntO (x, n) 50) := by rw [hW]; exact heap_new w _
  obtain ⟨x0, x1⟩ := ccells hA
  have hq := bcell hb0 hq
  have HW := Lib.hid hW
  have HB0 := Lib.hid hb0
  clear hW hb0 hA
  go_enter Try.func39, Try.ntmps39
  go_upto_region 1 with fail
  change Code.wp _ _ _ _ (w.alloc (cntO (x, n) 50))
  rw [← HW.out]
  refine wp_region_held_drew (S := (fun W => Below wA.heap.size wA W)) (by kernel_rfl) ?_ (fun r0 => ?_)
  · exact ⟨rfl, rfl, rfl, Nat.le_refl _, fun _ _ => rfl⟩
  refine wpAnyH_take (i := 0) (v := ?_) rfl (by kernel_rfl) (by kernel_rfl) (by kernel_rfl) (fun _ _ _ h => h) (Or.inl ⟨by rfl, ?_⟩) (by assumption) ?_
  rotate_left
  · intro wS hSw
    (try dsimp only at hSw)
    go_simp
    first | done | with_reducible rfl
  try simp only [Act.put, List.getElem_toArray, List.getElem_cons_succ, List.getElem_cons_zero, List.setIfInBounds_toArray, List.set_cons_zero, List.set_cons_succ]
  refine wpAnyH_take (i := 1) (v := ?_) rfl (by kernel_rfl) (by kernel_rfl) (by kernel_rfl) (fun _ _ _ h => h) (Or.inl ⟨by rfl, ?_⟩) (by assumption) ?_
  rotate_left
  · intro wS hSw
    (try dsimp only at hSw)
    have x0 := bcell hSw x0
    have x1 := bcell hSw x1
    have hq := bcell hSw hq
    go_simp
    first | done | with_reducible rfl
  try simp only [Act.put, List.getElem_toArray, List.getElem_cons_succ, List.getElem_cons_zero, List.setIfInBounds_toArray, List.set_cons_zero, List.set_cons_succ]
  refine wpAnyH_take (i := 2) (v := ?_) rfl (by kernel_rfl) (by kernel_rfl) (by kernel_rfl) (fun _ _ _ h => h) (Or.inl ⟨by rfl, ?_⟩) (by assumption) ?_
  rotate_left
  · intro wS hSw
    (try dsimp only at hSw)
    have x0 := bcell hSw x0
    have x1 := bcell hSw x1
    have hq := bcell hSw hq
    go_simp
    first | done | with_reducible rfl
  try simp only [Act.put, List.getElem_toArray, List.getElem_cons_succ, List.getElem_cons_zero, List.setIfInBounds_toArray, List.set_cons_zero, List.set_cons_succ]
  refine wpAnyH_ready (rs := [3]) (by kernel_rfl) (by simp) ?_
  refine AllReadyH.cons rfl (fun K hK => ?_) AllReadyH.nil
  go_simp
  refine (HF.out _).mono ?_; rintro x wf ⟨rfl, hbf⟩
  refine hK.out _ _ ?_ (fun r1 => ?_)
  · exact bel r0 hbf
  try simp only [Act.put, List.getElem_toArray, List.getElem_cons_succ, List.getElem_cons_zero, List.setIfInBounds_toArray, List.set_cons_zero, List.set_cons_succ]
  refine wpAnyH_take (i := 4) (v := ?_) rfl (by kernel_rfl) (by kernel_rfl) (by kernel_rfl) (fun _ _ _ h => h) (Or.inl ⟨by rfl, ?_⟩) (by assumption) ?_
  rotate_left
  · intro wS hSw
    (try dsimp only at hSw)
    go_simp
    first | done | with_reducible rfl
  try simp only [Act.put, List.getElem_toArray, List.getElem_cons_succ, List.getElem_cons_zero, List.setIfInBounds_toArray, List.set_cons_zero, List.set_cons_succ]
  refine wpAnyH_take (i := 5) (v := ?_) rfl (by kernel_rfl) (by kernel_rfl) (by kernel_rfl) (fun _ _ _ h => h) (Or.inl ⟨by rfl, ?_⟩) (by assumption) ?_
  rotate_left
  · intro wS hSw
    (try dsimp only at hSw)
    go_simp
    first | done | with_reducible rfl
  try simp only [Act.put, List.getElem_toArray, List.getElem_cons_succ, List.getElem_cons_zero, List.setIfInBounds_toArray, List.set_cons_zero, List.set_cons_succ]
  refine wpAnyH_done (by kernel_rfl) ?_ _
  have HB1 := Lib.hid r1
  go_wp2_with fail
  go_ret
  exact ⟨rfl, HB0.out.trans (HB1.out.mono HB0.out.size)⟩
set_option maxRecDepth 100000 in
set_option maxHeartbeats 4000000 in
/-- No count of the block is there. -/
theorem indexNo_any (v : Value) (L : CntL) (b : Int) (q : Addr) (w : World) (h : SeesC w v L) (hl : L.length ≤ 1000000) (hq : w.cell? q = some (.int .u32 b)) (hb : 0 ≤ b) (hb' : b < 4294967296) (hno : ∀ p ∈ L, p.1 ≠ b - b % 64) :
    Calls Try.prog 38 #[v, .func (.func 39) #[] #[.pointer (some q)]] w fun e w' => e = .returned (.int .i64 (-1)) ∧ Below w.heap.size w w' := by
  obtain ⟨ao, c, rfl, hlc, hnil, hc⟩ := h
  have HC := Lib.hid (And.intro hnil hc)
  have HP := Lib.hid (fun x n w hq => of1_any x n b q w hq hb hb')
  have HNO := Lib.hid hno
  have HQ := Lib.hid hq
  clear hnil hc hno hq
  go_enter Try.func38, Try.ntmps38
  go_wp2_with fail
  go_loopw [8] (fun j wr => ∃ i : Nat, i ≤ L.length ∧ j = .int .i64 i ∧ Hid (Below w.heap.size w wr)) (fun j _ => L.length - (intOf j).toNat)
  case atStart => exact ⟨0, Nat.zero_le _, rfl, Lib.hid (Below.refl _ _)⟩
  case round =>
    obtain ⟨i, hi, rfl, HBw⟩ := hrel
    by_cases hlt : i < L.length
    · obtain ⟨a, rfl⟩ : ∃ a, ao = some a := by
        cases ao with
        | none => rw [HC.out.1 rfl] at hlt; simp at hlt
        | some a => exact ⟨a, rfl⟩
      obtain ⟨q0, q1⟩ := HC.out.2 a rfl i _ (at2_get hlt)
      have q0 := bcell HBw.out q0
      have q1 := ofs1 (bcell HBw.out q1)
      have b0 : (0 : Int) ≤ (i : Int) := by omega
      have b1 : (i : Int) < (L.length : Int) := by omega
      have d1 : decide ((i : Int) < (L.length : Int)) = true := by simp; omega
      have hn := HNO.out _ (List.mem_of_getElem? (at2_get hlt))
      have HLT := Lib.hid hlt
      generalize at2 L i = p at q0 q1 hn
      obtain ⟨px, pn⟩ := p
      simp only [] at q0 q1 hn
      have HN : Hid ((px == b - b % 64) = false) := Lib.hid (by simpa using hn)
      have HPC := Lib.hid (HP.out px pn wr (bcell HBw.out HQ.out))
      rw [HN.out] at HPC
      clear hn
      go_wp2_with fail
      refine HPC.out.mono ?_; rintro e w1 ⟨rfl, hb1⟩
      have HB1 := Lib.hid (bel HBw.out hb1)
      clear hb1 q0 q1
      go_wp2_with fail
      go_roundw
      case rel => exact ⟨i + 1, HLT.out, by go_num, HB1⟩
      case measure => simp [intOf]; have := HLT.out; omega
    · obtain rfl : i = L.length := by omega
      have d1 : decide ((L.length : Int) < (L.length : Int)) = false := by simp
      go_wp2_with fail
      go_ret
      exact ⟨rfl, HBw.out⟩
theorem no_block {L : CntL} {b : Int} (hs : L.Pairwise (fun p q => p.1 < q.1)) (h : thereB L b = false) : ∀ p ∈ L, p.1 ≠ b := by
  induction L with
  | nil => intro p hp; cases hp
  | cons q L ih =>
    obtain ⟨k1, k2⟩ := List.pairwise_cons.1 hs
    intro p hp
    by_cases hq : q.1 < b
    · rw [thereB_cons_lt hq] at h
      rcases List.mem_cons.1 hp with rfl | hp
      · omega
      · exact ih k2 h p hp
    · rw [thereB_cons_ge hq] at h
      have := of_decide_eq_false h
      rcases List.mem_cons.1 hp with rfl | hp
      · exact this
      · have := k1 p hp
        omega
set_option maxRecDepth 100000 in
set_option maxHeartbeats 4000000 in
/-- How many of a block, of counts that rise. -/
theorem of_any (v : Value) (L : CntL) (a : Int) (w : World) (h : SeesC w v L) (hs : L.Pairwise (fun p q => p.1 < q.1)) (hl : L.length ≤ 1000000) (ha : 0 ≤ a) (ha' : a < 4294967296) :
    Calls Try.prog 24 #[hnV v, .int .u32 a] w fun e w' => e = .returned (.int .i64 (ofH L (a - a % 64))) ∧ Below w.heap.size w w' := by
  obtain ⟨W, hW⟩ : ∃ W, W = (w.alloc (hnO v)).alloc (.cells #[.int .u32 a] 41) := ⟨_, rfl⟩
  have hb0 : Below w.heap.size w W := by rw [hW]; exact belAlloc (belNew _ _) _
  have hA : W.heap[w.heap.size]? = some (hnO v) := by
    rw [hW]
    exact (Below.heap_alloc (w.alloc (hnO v)) _ _ (by show w.heap.size < (w.heap.push _).size; simp)).trans (heap_new w _)
  have hB : W.heap[w.heap.size + 1]? = some (.cells #[.int .u32 a] 41) := by
    rw [hW]
    have := heap_new (w.alloc (hnO v)) (.cells #[.int .u32 a] 41)
    rwa [show (w.alloc (hnO v)).heap.size = w.heap.size + 1 from by show (w.heap.push _).size = _; simp] at this
  have c0 := hcell hA
  have c1 := hcell hB
  have hsW := h.below hb0
  have HP := Lib.hid (place_any v L a W hsW hs hl ha ha')
  have HI := Lib.hid (fun w1 (hb : Below W.heap.size W w1) (ht : thereB L (a - a % 64) = false) => indexNo_any v L a ⟨w.heap.size + 1, 0, none⟩ w1 (hsW.below hb) hl (bcell hb c1) ha ha' (no_block hs ht))
  have hcl := cntB_le L (a - a % 64)
  obtain ⟨ao, c, rfl, hlc, hnil, hc⟩ := hsW
  have HC := Lib.hid (And.intro hnil hc)
  have HW := Lib.hid hW
  have HB0 := Lib.hid hb0
  cases ht : thereB L (a - a % 64) with
  | true =>
    have HV : Hid (ofH L (a - a % 64) = (at2 L (cntB L (a - a % 64))).2) := Lib.hid (by unfold ofH; rw [if_pos ht])
    have hlt : cntB L (a - a % 64) < L.length := by
      unfold thereB at ht
      simp only [Bool.and_eq_true, decide_eq_true_eq] at ht
      exact ht.1
    rw [ht] at HP
    clear HI hW hb0 hA hB h hnil hc ht
    rw [HV.out]
    obtain ⟨ad, rfl⟩ : ∃ ad, ao = some ad := by
      cases ao with
      | none => exact absurd (HC.out.1 rfl) (by intro e; rw [e] at hlt; simp at hlt)
      | some ad => exact ⟨ad, rfl⟩
    obtain ⟨q0, q1⟩ := HC.out.2 ad rfl _ _ (at2_get hlt)
    generalize cntB L (a - a % 64) = K at *
    generalize at2 L K = p at q0 q1 HV ⊢
    obtain ⟨px, pn⟩ := p
    simp only [] at q0 q1 HV ⊢
    have q1 := ofs1 q1
    have b0 : (0 : Int) ≤ (K : Int) := by omega
    have b1 : (K : Int) < (L.length : Int) := by omega
    have d1 : decide ((K : Int) < 0) = false := by simp
    clear HV HC q0 hlt
    go_enter Try.func24, Try.ntmps24
    go_upto_region 1 with fail
    change Code.wp _ _ _ _ ((w.alloc (hnO (.slice (some ad) L.length c))).alloc (.cells #[.int .u32 a] 41))
    rw [← HW.out]
    clear HW
    go_wp2_with fail
    refine HP.out.mono ?_; rintro e w1 ⟨rfl, hb1⟩
    have q1 := bcell hb1 q1
    have c0 := bcell hb1 c0
    have HB1 := Lib.hid hb1
    clear hb1 c1
    go_wp2_with fail
    go_ret
    exact ⟨rfl, HB0.out.trans (HB1.out.mono HB0.out.size)⟩
  | false =>
    have HV : Hid (ofH L (a - a % 64) = 0) := Lib.hid (by unfold ofH; rw [if_neg (by rw [ht]; simp)])
    have HI2 := Lib.hid (fun w1 hb => HI.out w1 hb ht)
    rw [ht] at HP
    clear HI hW hb0 hA hB h hnil hc ht hcl
    rw [HV.out]
    generalize cntB L (a - a % 64) = K at *
    clear HV HC
    go_enter Try.func24, Try.ntmps24
    go_upto_region 1 with fail
    change Code.wp _ _ _ _ ((w.alloc (hnO (.slice ao L.length c))).alloc (.cells #[.int .u32 a] 41))
    rw [← HW.out]
    clear HW
    go_wp2_with fail
    refine HP.out.mono ?_; rintro e w1 ⟨rfl, hb1⟩
    have c0 := bcell hb1 c0
    have HI3 := Lib.hid (HI2.out w1 hb1)
    have HB1 := Lib.hid hb1
    clear hb1 c1
    go_wp2_with fail
    refine HI3.out.mono ?_; rintro e w2 ⟨rfl, hb2⟩
    have HB2 := Lib.hid (bel HB1.out hb2)
    clear hb2
    go_wp2_with fail
    go_ret
    exact ⟨rfl, HB0.out.trans (HB2.out.mono HB0.out.size)⟩
end Go.Proofs.Ytcgkambkfaeceaa
