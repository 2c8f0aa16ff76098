/- Package virgateref17: Set. -/
import Derived.Test.YtcgkambkfaeceaaHnLaw
namespace Go.Proofs.Ytcgkambkfaeceaa
open Go.RowKit
def stepS (b n : Int) (s : CntL × Bool) (c : Int × Int) : CntL × Bool :=
  if s.2 = false ∧ b ≤ c.1 then (if c.1 = b then s.1 ++ [(b, n)] else s.1 ++ [(b, n)] ++ [c], true) else (if c.1 = b then s.1 else s.1 ++ [c], s.2)
theorem run_done {b n : Int} : ∀ (L : CntL) (o : CntL), (∀ c ∈ L, c.1 ≠ b) → L.foldl (stepS b n) (o, true) = (o ++ L, true)
  | [], o, _ => by simp
  | p :: L, o, h => by
    have hp := h p (by simp)
    rw [List.foldl_cons]
    have e : stepS b n (o, true) p = (o ++ [p], true) := by unfold stepS; simp [hp]
    rw [e, run_done L _ (fun c hc => h c (by simp [hc]))]
    simp
theorem run_zero {b : Int} : ∀ (L : CntL) (o : CntL), L.Pairwise (fun p q => p.1 < q.1) → L.foldl (stepS b 0) (o, true) = (o ++ setH L b 0, true)
  | [], o, _ => by simp [setH]
  | p :: L, o, h => by
    obtain ⟨k1, k2⟩ := List.pairwise_cons.1 h
    rw [List.foldl_cons]
    by_cases hlt : p.1 < b
    · have e : stepS b 0 (o, true) p = (o ++ [p], true) := by unfold stepS; simp; omega
      rw [e, run_zero L _ k2, setH, if_pos hlt]; simp
    · by_cases he : p.1 = b
      · have e : stepS b 0 (o, true) p = (o, true) := by unfold stepS; simp [he]
        rw [e, run_done L _ (fun c hc => by have := k1 c hc; omega), setH, if_neg hlt, if_pos he, if_pos rfl]
      · have e : stepS b 0 (o, true) p = (o ++ [p], true) := by unfold stepS; simp [he]
        rw [e, run_done L _ (fun c hc => by have := k1 c hc; omega), setH, if_neg hlt, if_neg he, if_pos rfl]; simp
theorem run_more {b n : Int} (hn : n ≠ 0) : ∀ (L : CntL) (o : CntL), L.Pairwise (fun p q => p.1 < q.1) → (if (L.foldl (stepS b n) (o, false)).2 = true then (L.foldl (stepS b n) (o, false)).1 else (L.foldl (stepS b n) (o, false)).1 ++ [(b, n)]) = o ++ setH L b n
  | [], o, _ => by simp [setH, hn]
  | p :: L, o, h => by
    obtain ⟨k1, k2⟩ := List.pairwise_cons.1 h
    rw [List.foldl_cons]
    by_cases hlt : p.1 < b
    · have e : stepS b n (o, false) p = (o ++ [p], false) := by unfold stepS; rw [if_neg (by simp; omega), if_neg (by omega)]
      rw [e, run_more hn L _ k2, setH, if_pos hlt]; simp
    · by_cases he : p.1 = b
      · have e : stepS b n (o, false) p = (o ++ [(b, n)], true) := by unfold stepS; rw [if_pos (by simp; omega), if_pos he]
        rw [e, run_done L _ (fun c hc => by have := k1 c hc; omega), setH, if_neg hlt, if_pos he, if_neg hn]; simp
      · have e : stepS b n (o, false) p = (o ++ [(b, n)] ++ [p], true) := by unfold stepS; rw [if_pos (by simp; omega), if_neg he]
        rw [e, run_done L _ (fun c hc => by have := k1 c hc; omega), setH, if_neg hlt, if_neg he, if_neg hn]; simp
theorem run_set {b n : Int} {L : CntL} (h : L.Pairwise (fun p q => p.1 < q.1)) : (if (L.foldl (stepS b n) ([], decide (n = 0))).2 = true then (L.foldl (stepS b n) ([], decide (n = 0))).1 else (L.foldl (stepS b n) ([], decide (n = 0))).1 ++ [(b, n)]) = setH L b n := by
  by_cases hn : n = 0
  · subst hn
    rw [decide_eq_true rfl, run_zero L [] h]; simp
  · rw [decide_eq_false hn, run_more hn L [] h]; simp
theorem run_len (b n : Int) : ∀ (L : CntL) (s : CntL × Bool), (L.foldl (stepS b n) s).1.length ≤ s.1.length + 2 * L.length
  | [], s => by simp
  | p :: L, s => by
    rw [List.foldl_cons]
    have h := run_len b n L (stepS b n s p)
    have : (stepS b n s p).1.length ≤ s.1.length + 2 := by
      unfold stepS
      split <;> simp only [] <;> split <;> simp
    rw [List.length_cons]
    omega
set_option maxRecDepth 100000 in
set_option maxHeartbeats 16000000 in
theorem refSet_any (v : Value) (L : CntL) (a n : Int) (w : World) (h : SeesC w v L) (hs : L.Pairwise (fun p q => p.1 < q.1)) (hl : L.length ≤ 1000) (ha : 0 ≤ a) (ha' : a < 4294967296) (hn0 : 0 ≤ n) (hn1 : n ≤ 65535) :
    Calls Try.prog 22 #[v, .int .u32 a, .int .i64 n] w fun e w' => ∃ v', e = .returned (.tuple #[v', .int .i64 0]) ∧ RowE ER w' w.heap.size v' (setH L (a - a % 64) n) ∧ Below w.heap.size w w' := by
  have htm : Int.tmod a 64 = a % 64 := Int.tmod_eq_emod_of_nonneg ha
  have hwr : IntKind.u32.wrap (a - a % 64) = a - a % 64 := by rw [IntKind.wrap_u32]; omega
  have HSET := Lib.hid (run_set (b := a - a % 64) (n := n) hs)
  obtain ⟨W, hW⟩ : ∃ W, W = w.alloc (cntO (a - a % 64, n) ER) := ⟨_, rfl⟩
  have hb0 : Below w.heap.size w W := by rw [hW]; exact belNew _ _
  have hA : W.heap[w.heap.size]? = some (cntO (a - a % 64, n) ER) := by rw [hW]; exact heap_new w _
  obtain ⟨ao, c, rfl, hlc, hnil, hc⟩ := h.below hb0
  have HC := Lib.hid (And.intro hnil hc)
  have HW := Lib.hid hW
  have HB0 := Lib.hid hb0
  have HA := Lib.hid hA
  have HLL := Lib.hid hl
  have d0 : decide (n < 0) = false := by simp; omega
  have d2 : decide (65535 < n) = false := by simp; omega
  obtain ⟨Z, hZ⟩ : ∃ Z, Z = decide (n = 0) := ⟨_, rfl⟩
  have dz : (n == 0) = Z := by rw [hZ]; by_cases e : n = 0 <;> simp [e]
  rw [← hZ] at HSET
  obtain ⟨b, hb⟩ : ∃ b, b = a - a % 64 := ⟨_, rfl⟩
  rw [← hb] at HSET HA HW hwr ⊢
  have HBE := Lib.hid hb
  obtain ⟨R, hR⟩ : ∃ R, R = setH L b n := ⟨_, rfl⟩
  rw [← hR] at HSET ⊢
  have HRL : Hid (R.length ≤ 4096) := Lib.hid (by rw [hR]; have := setH_len L b n; omega)
  clear hW hb0 hA h hnil hc hs hb hR hZ
  go_enter Try.func22, Try.ntmps22
  go_upto_region 5 with fail
  rw [← HBE.out]
  change Code.wp _ _ _ _ (w.alloc (cntO (b, n) ER))
  rw [← HW.out]
  clear HW
  go_wp2_with fail
  go_loopw [8, 10, 29] (fun u d j wr => ∃ (i : Nat) (X : CntL) (D : Bool), i ≤ L.length ∧ j = .int .i64 i ∧ d = .bool D ∧ Hid ((L.take i).foldl (stepS b n) ([], Z) = (X, D)) ∧ Hid (RowE ER wr W.heap.size u X) ∧ Hid (Below W.heap.size W wr)) (fun _ _ j _ => L.length - (intOf j).toNat)
  case atStart => exact ⟨0, [], Z, Nat.zero_le _, rfl, rfl, Lib.hid rfl, Lib.hid (World.ownsRow_nil _ _ _ _), Lib.hid (Below.refl _ _)⟩
  case round =>
    obtain ⟨i, X, D, hi, rfl, rfl, HF, HO, HBw⟩ := hrel
    have hXl : X.length ≤ 3000 := by
      have h1 := run_len b n (L.take i) ([], Z)
      have h2 := HLL.out
      rw [HF.out, List.length_take] at h1
      simp at h1
      omega
    by_cases hlt : i < L.length
    · obtain ⟨x, rfl⟩ : ∃ x, ao = some x := by
        cases ao with
        | none => rw [HC.out.1 rfl] at hlt; simp at hlt
        | some x => exact ⟨x, rfl⟩
      obtain ⟨q0, q1⟩ := HC.out.2 x rfl i _ (at2_get hlt)
      have q0 := bcell HBw.out q0
      have q1 := ofs1 (bcell HBw.out q1)
      have b0 : (0 : Int) ≤ (i : Int) := by omega
      have b1 : (i : Int) < (L.length : Int) := by omega
      have d1 : decide ((i : Int) < (L.length : Int)) = true := by simp; omega
      have HT : Hid ((L.take (i + 1)).foldl (stepS b n) ([], Z) = stepS b n (X, D) (at2 L i)) := Lib.hid (by
        rw [take_snoc hlt, List.foldl_append, HF.out]; rfl)
      have HLT := Lib.hid hlt
      generalize at2 L i = p at q0 q1 HT
      obtain ⟨px, pn⟩ := p
      simp only [] at q0 q1
      have hRW := row_lt HO.out
      have HRW := Lib.hid hRW
      obtain ⟨w1, hw1⟩ : ∃ w1, w1 = wr.alloc (cntO (px, pn) ER) := ⟨_, rfl⟩
      have hb1 : Below wr.heap.size wr w1 := by rw [hw1]; exact belNew _ _
      have hx1 : w1.heap[wr.heap.size]? = some (cntO (px, pn) ER) := by rw [hw1]; exact heap_new _ _
      have HX1 := Lib.hid hx1
      have HB1 := Lib.hid (bel HBw.out hb1)
      have HO1 := Lib.hid (row_keep HO.out hb1)
      have hS1 : w1.heap[w.heap.size]? = some (cntO (b, n) ER) := (HB1.out.block _ (heap_lt HA.out)).trans HA.out
      obtain ⟨x0, x1⟩ := ccells hx1
      obtain ⟨s0, s1⟩ := ccells hS1
      have HW1 := Lib.hid hw1
      clear hw1 hb1 hx1 hS1 hRW
      cases D with
      | false =>
        by_cases hge : b ≤ px
        · have dg : decide (b ≤ px) = true := by simpa using hge
          by_cases he : px = b
          · have de : (px != b) = false := by simp [he]
            have HQ : Hid (stepS b n (X, false) (px, pn) = (X ++ [(b, n)], true)) := Lib.hid (by unfold stepS; rw [if_pos ⟨rfl, hge⟩, if_pos he])
            clear hge he
            go_upto_region 9 with fail
            change Code.wp _ _ _ _ (wr.alloc (cntO (px, pn) ER))
            rw [← HW1.out]
            clear HW1 q0 q1
            go_wp2_with (at_builtin; refine wpList_push (w0 := w1) Try.underlying22 infoR rfl (.tmp 42) (.tmp 44) rfl W.heap.size _ X (b, n) w1.heap.size rfl rfl rfl HO1.out (by omega) HB1.out.size ?_; intro v2 w2 ho2 hb2 hg2; have HB2 := Lib.hid (HB1.out.trans hb2); have HO2 := Lib.hid ho2; have HX2 := Lib.hid ((hg2.block wr.heap.size (heap_lt HX1.out) (fun e => by have := (HRW.out _ e.symm).2; omega)).trans HX1.out); have HN2 := Lib.hid (row_lt ho2); have hsk := (HB2.out.block _ (heap_lt HA.out)).trans HA.out; obtain ⟨x0, x1⟩ := ccells HX2.out; obtain ⟨s0, s1⟩ := ccells hsk; clear ho2 hb2 hg2 hsk)
            clear x0 x1 s0 s1
            go_roundw
            case rel => exact ⟨i + 1, _, _, HLT.out, by go_num, rfl, Lib.hid (by rw [HT.out]; exact HQ.out), HO2, HB2⟩
            case measure => simp [intOf]; have := HLT.out; omega
          · have de : (px != b) = true := by simpa using he
            have HQ : Hid (stepS b n (X, false) (px, pn) = (X ++ [(b, n)] ++ [(px, pn)], true)) := Lib.hid (by unfold stepS; rw [if_pos ⟨rfl, hge⟩, if_neg he])
            clear hge he
            go_upto_region 9 with fail
            change Code.wp _ _ _ _ (wr.alloc (cntO (px, pn) ER))
            rw [← HW1.out]
            clear HW1 q0 q1
            go_wp2_with (first
                | (at_builtin; refine wpList_push (w0 := w1) Try.underlying22 infoR rfl (.tmp 42) (.tmp 44) rfl W.heap.size _ X (b, n) w1.heap.size rfl rfl rfl HO1.out (by omega) HB1.out.size ?_; intro v2 w2 ho2 hb2 hg2; have HB2 := Lib.hid (HB1.out.trans hb2); have HO2 := Lib.hid ho2; have HX2 := Lib.hid ((hg2.block wr.heap.size (heap_lt HX1.out) (fun e => by have := (HRW.out _ e.symm).2; omega)).trans HX1.out); have HN2 := Lib.hid (row_lt ho2); have hsk := (HB2.out.block _ (heap_lt HA.out)).trans HA.out; obtain ⟨x0, x1⟩ := ccells HX2.out; obtain ⟨s0, s1⟩ := ccells hsk; clear ho2 hb2 hg2 hsk)
                | (at_builtin; refine wpList_push (w0 := w2) Try.underlying22 infoR rfl (.tmp 51) (.tmp 53) rfl W.heap.size _ (X ++ [(b, n)]) (px, pn) w2.heap.size rfl rfl rfl HO2.out (by simp; omega) HB2.out.size ?_; intro v3 w3 ho3 hb3 hg3; have HB3 := Lib.hid (HB2.out.trans hb3); have HO3 := Lib.hid ho3; clear ho3 hb3 hg3))
            clear x0 x1 s0 s1
            go_roundw
            case rel => exact ⟨i + 1, _, _, HLT.out, by go_num, rfl, Lib.hid (by rw [HT.out]; exact HQ.out), HO3, HB3⟩
            case measure => simp [intOf]; have := HLT.out; omega
        · have dg : decide (b ≤ px) = false := by simpa using hge
          have he : ¬ px = b := by omega
          have de : (px != b) = true := by simpa using he
          have HQ : Hid (stepS b n (X, false) (px, pn) = (X ++ [(px, pn)], false)) := Lib.hid (by unfold stepS; rw [if_neg (fun h => hge h.2), if_neg he])
          clear hge he
          go_upto_region 9 with fail
          change Code.wp _ _ _ _ (wr.alloc (cntO (px, pn) ER))
          rw [← HW1.out]
          clear HW1 q0 q1
          go_wp2_with (at_builtin; refine wpList_push (w0 := w1) Try.underlying22 infoR rfl (.tmp 51) (.tmp 53) rfl W.heap.size _ X (px, pn) w1.heap.size rfl rfl rfl HO1.out (by omega) HB1.out.size ?_; intro v2 w2 ho2 hb2 hg2; have HB2 := Lib.hid (HB1.out.trans hb2); have HO2 := Lib.hid ho2; clear ho2 hb2 hg2)
          clear x0 x1 s0 s1
          go_roundw
          case rel => exact ⟨i + 1, _, _, HLT.out, by go_num, rfl, Lib.hid (by rw [HT.out]; exact HQ.out), HO2, HB2⟩
          case measure => simp [intOf]; have := HLT.out; omega
      | true =>
        by_cases he : px = b
        · have de : (px != b) = false := by simp [he]
          have HQ : Hid (stepS b n (X, true) (px, pn) = (X, true)) := Lib.hid (by unfold stepS; rw [if_neg (fun h => by cases h.1), if_pos he])
          clear he
          go_upto_region 9 with fail
          change Code.wp _ _ _ _ (wr.alloc (cntO (px, pn) ER))
          rw [← HW1.out]
          clear HW1 q0 q1
          go_wp2_with fail
          clear x0 x1 s0 s1
          go_roundw
          case rel => exact ⟨i + 1, _, _, HLT.out, by go_num, rfl, Lib.hid (by rw [HT.out]; exact HQ.out), HO1, HB1⟩
          case measure => simp [intOf]; have := HLT.out; omega
        · have de : (px != b) = true := by simpa using he
          have HQ : Hid (stepS b n (X, true) (px, pn) = (X ++ [(px, pn)], true)) := Lib.hid (by unfold stepS; rw [if_neg (fun h => by cases h.1), if_neg he])
          clear he
          go_upto_region 9 with fail
          change Code.wp _ _ _ _ (wr.alloc (cntO (px, pn) ER))
          rw [← HW1.out]
          clear HW1 q0 q1
          go_wp2_with (at_builtin; refine wpList_push (w0 := w1) Try.underlying22 infoR rfl (.tmp 51) (.tmp 53) rfl W.heap.size _ X (px, pn) w1.heap.size rfl rfl rfl HO1.out (by omega) HB1.out.size ?_; intro v2 w2 ho2 hb2 hg2; have HB2 := Lib.hid (HB1.out.trans hb2); have HO2 := Lib.hid ho2; clear ho2 hb2 hg2)
          clear x0 x1 s0 s1
          go_roundw
          case rel => exact ⟨i + 1, _, _, HLT.out, by go_num, rfl, Lib.hid (by rw [HT.out]; exact HQ.out), HO2, HB2⟩
          case measure => simp [intOf]; have := HLT.out; omega
    · obtain rfl : i = L.length := by omega
      have d1 : decide ((L.length : Int) < (L.length : Int)) = false := by simp
      have hF := HF.out
      rw [List.take_length] at hF
      have hE := HSET.out
      rw [hF] at hE
      simp only [] at hE
      cases D with
      | true =>
        have HE : Hid (X = R) := Lib.hid hE
        have HO2 : Hid (RowE ER wr w.heap.size _ R) := Lib.hid (by have := HO.out; rw [HE.out] at this; exact row_leE this HB0.out.size)
        obtain ⟨ao', c', rfl, -⟩ := HO2.out.sees
        have dl : decide ((4096 : Int) < (R.length : Int)) = false := by simp; have := HRL.out; omega
        clear hF hE
        go_wp2_with fail
        go_ret2
        exact ⟨_, rfl, HO2.out, HB0.out.trans (HBw.out.mono HB0.out.size)⟩
      | false =>
        have HE : Hid (X ++ [(b, n)] = R) := Lib.hid hE
        have hS1 : wr.heap[w.heap.size]? = some (cntO (b, n) ER) := (HBw.out.block _ (heap_lt HA.out)).trans HA.out
        obtain ⟨s0, s1⟩ := ccells hS1
        clear hF hE hS1
        go_wp2_with (at_builtin; refine wpList_push (w0 := wr) Try.underlying22 infoR rfl (.tmp 58) (.tmp 60) rfl W.heap.size _ X (b, n) wr.heap.size rfl rfl rfl HO.out (by omega) HBw.out.size ?_; intro v' w' ho' hb' _; have HB2 := Lib.hid (HBw.out.trans hb'); rw [HE.out] at ho'; have HO2 := Lib.hid (row_leE ho' HB0.out.size); obtain ⟨ao', c', rfl, _⟩ := ho'.sees; have dl : decide ((4096 : Int) < (R.length : Int)) = false := (by simp; have := HRL.out; omega); clear hb' ho')
        go_ret2
        exact ⟨_, rfl, HO2.out, HB0.out.trans (HB2.out.mono HB0.out.size)⟩
end Go.Proofs.Ytcgkambkfaeceaa
