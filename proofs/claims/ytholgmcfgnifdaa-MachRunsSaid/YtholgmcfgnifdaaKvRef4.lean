/- The document's state: Apply. Made by g_kvapp.py. -/
import Derived.Test.YtholgmcfgnifdaaKvRef3
namespace Go.Proofs.Ytholgmcfgnifdaa
open Go.RowKit Go.Maps
theorem set1_two {w : World} {g : Nat} {x y : Value} {t : TypeId} (h : w.heap[g]? = some (.cells #[x, y] t (0, 0))) (a : Value) : (w.setCell ⟨g, 1, none⟩ a).heap[g]? = some (.cells #[x, a] t (0, 0)) := by
  have := dset h 1 a
  simpa using this
theorem fill2 {w : World} {g : Nat} {x y : Value} {t : TypeId} (h : w.heap[g]? = some (.cells #[x, y] t (0, 0))) (a b : Value) : ((w.setCell ⟨g, 0, none⟩ a).setCell ⟨g, 1, none⟩ b).heap[g]? = some (.cells #[a, b] t (0, 0)) := by
  have := dset (dset h 0 a) 1 b
  simpa using this
theorem rise_take {L : List KEnt} (hr : Rising L) {i : Nat} {p : KEnt} (hp : L[i]? = some p) : Rising (L.take i ++ [p]) := by
  have h : L.take (i + 1) = L.take i ++ [p] := by rw [List.take_add_one, hp]; rfl
  rw [← h]
  exact List.Pairwise.sublist (List.take_sublist _ _) hr
theorem row_slice {E : TypeId} {w : World} {B : Nat} {v : Value} {L : List KEnt} (h : RowE E w B v L) : ∃ ao n c, v = .slice ao n c := by
  obtain ⟨ao, c, e, _⟩ := RowE.sees h
  exact ⟨ao, _, c, e⟩
abbrev effR9 (e : KEff) : Obj := .cells #[.string e.key, .string e.val, .int .i64 e.rev, .bool e.gone] 85
set_option maxRecDepth 100000 in
set_option maxHeartbeats 8000000 in
theorem refApply_any (v : Value) (L : List KEnt) (R : Int) (e : KEff) (w : World) (h : SeesI w v L) (hr : Rising L) (hl : L.length ≤ 100000) :
    Calls Try.prog 29 #[stV R v, effV e] w fun x w' => ∃ v', x = .returned (stV e.rev v') ∧ RowR w' w.heap.size v' (applyK ⟨R, L⟩ e).L ∧ Below w.heap.size w w' := by
  obtain ⟨W, hW, hb, hz, hA, hB, hC⟩ := alloc3 w (stO R v) (effR9 e) (stO 0 (.slice none 0 0))
  obtain ⟨ao, c, rfl, hlc, hnil, hc⟩ := h.below hb
  have HW := Lib.hid hW
  have HC := Lib.hid (And.intro hnil hc)
  have HR := Lib.hid hr
  have H0 := Lib.hid (And.intro hb (And.intro hz hC))
  have s0 := cell0 hA
  have s1 := cell1 hA
  obtain ⟨e0, e1, e2, e3⟩ := eff_cells hB
  have HZ : Hid (W.heap.size = w.heap.size + 3) := Lib.hid hz
  clear hW hnil hc hb hz hA hB hC h hr
  generalize hF : (applyK ⟨R, L⟩ e).L = F
  have HF := Lib.hid hF
  clear hF
  go_enter Try.func29, Try.ntmps29
  go_upto_region 1 with fail
  change Code.wp _ _ _ _ (((w.alloc (stO R (.slice ao L.length c))).alloc (effR9 e)).alloc (stO 0 (.slice none 0 0)))
  rw [← HW.out]
  go_upto_region 2 with fail
  obtain ⟨W1, hW1⟩ : ∃ W1, W1 = W.alloc (stO e.rev (.slice none 0 0)) := ⟨_, rfl⟩
  have hb1 : Below W.heap.size W W1 := by rw [hW1]; exact belNew _ _
  have ho1 : W1.heap[W.heap.size]? = some (stO e.rev (.slice none 0 0)) := by rw [hW1]; exact heap_alloc_new W _
  change Code.wp _ _ _ _ (W.alloc (stO e.rev (.slice none 0 0)))
  rw [← hW1]
  have S0 := Lib.hid s0
  have S1 := Lib.hid s1
  have E0 := Lib.hid e0
  have E1 := Lib.hid e1
  have E2 := Lib.hid e2
  have HB1 := Lib.hid (And.intro hb1 ho1)
  have s1 := bcell hb1 s1
  have e3 := bcell hb1 e3
  clear hW1 s0 e0 e1 e2 hb1 ho1
  go_wp2_with fail
  clear s1 e3
  go_loopw [6, 17] (fun d j wr => ∃ (i : Nat) (lv : Value), i ≤ L.length ∧ j = .int .i64 i ∧ d = .bool (e.gone || aheadB (kl e.key) (L.take i)) ∧ wr.heap[W.heap.size]? = some (stO e.rev lv) ∧ RowR wr (W.heap.size + 1) lv (appS (kl e.key) (e.val, e.rev) e.gone (L.take i)) ∧ Below W.heap.size W wr ∧ W.heap.size < wr.heap.size) (fun _ j _ => L.length - (intOf j).toNat)
  case atStart =>
    refine ⟨0, .slice none 0 0, Nat.zero_le _, rfl, ?_, HB1.out.2, ?_, HB1.out.1, heap_lt HB1.out.2⟩
    · simp [aheadB]
    · have : appS (kl e.key) (e.val, e.rev) e.gone (L.take 0) = [] := by simp [appS, aheadB, delE]
      rw [this]
      exact World.ownsRow_nil _ _ _ _
  case round =>
    obtain ⟨i, lv, hi, rfl, rfl, ho, hrow, hBw, hlw⟩ := hrel
    by_cases hlt : i < L.length
    · obtain ⟨a, rfl⟩ : ∃ a, ao = some a := by
        cases ao with
        | none => rw [HC.out.1 rfl] at hlt; simp at hlt
        | some a => exact ⟨a, rfl⟩
      obtain ⟨p, hgi⟩ : ∃ p, L[i]? = some p := ⟨_, List.getElem?_eq_getElem hlt⟩
      obtain ⟨q0, q1, q2⟩ := HC.out.2 a rfl i p hgi
      have q0 := bcell hBw q0
      have q1 := off1 (bcell hBw q1)
      have q2 := off2 (bcell hBw q2)
      have b0 : (0 : Int) ≤ (i : Int) := by omega
      have b1 : (i : Int) < (L.length : Int) := by omega
      have hris := rise_take HR.out hgi
      have htk : L.take (i + 1) = L.take i ++ [p] := by rw [List.take_add_one, hgi]; rfl
      have hln := appS_len (kl e.key) (e.val, e.rev) e.gone (L.take i)
      rw [List.length_take] at hln
      have HPUT : Hid (e.gone = false → aheadB (kl e.key) (L.take i) = false → bytesBefore (kl e.key) p.1 = true → appS (kl e.key) (e.val, e.rev) e.gone (L.take (i + 1)) = (appS (kl e.key) (e.val, e.rev) e.gone (L.take i) ++ [(kl e.key, (e.val, e.rev))]) ++ [p]) := Lib.hid (fun hg h1 h2 => by rw [htk, hg]; exact app_put h1 h2)
      have HSAME : Hid ((!(e.gone || aheadB (kl e.key) (L.take i)) && bytesBefore (kl e.key) p.1) = false → appS (kl e.key) (e.val, e.rev) e.gone (L.take (i + 1)) = if p.1 = kl e.key then appS (kl e.key) (e.val, e.rev) e.gone (L.take i) else appS (kl e.key) (e.val, e.rev) e.gone (L.take i) ++ [p]) := Lib.hid (fun h => by rw [htk]; exact app_same hris h)
      have HD2 : Hid ((e.gone || aheadB (kl e.key) (L.take (i + 1))) = ((e.gone || aheadB (kl e.key) (L.take i)) || bytesBefore (kl e.key) p.1)) := Lib.hid (by rw [htk, aheadB_snoc, Bool.or_assoc])
      have hgt : ∀ w, (binOp .gtr 9 (.string ⟨p.1.toArray⟩) (.string e.key)).run Try.prog w = .ok (.bool (bytesBefore (kl e.key) p.1)) w := fun w => gtrS ⟨p.1.toArray⟩ e.key w
      have hke := keyEq p.1 e.key
      have HNE : Hid (bytesBefore (kl e.key) p.1 = true → ¬ p.1 = kl e.key) := Lib.hid (fun h1 h2 => by rw [h2, WideAt.bytes_irrefl] at h1; cases h1)
      have HDG : Hid ((e.gone || aheadB (kl e.key) (L.take i)) = false → e.gone = false ∧ aheadB (kl e.key) (L.take i) = false) := Lib.hid (fun h => by simpa using h)
      have hTl : (appS (kl e.key) (e.val, e.rev) e.gone (L.take i)).length ≤ 1000000 := by omega
      generalize appS (kl e.key) (e.val, e.rev) e.gone (L.take i) = T at HPUT HSAME hrow hTl
      generalize (e.gone || aheadB (kl e.key) (L.take i)) = D at HSAME HD2 HDG ⊢
      generalize bytesBefore (kl e.key) p.1 = bb at HPUT HSAME HD2 hgt HNE
      have HG := Lib.hid (And.intro hrow (And.intro ho hlw))
      have HBw := Lib.hid hBw
      have t0 := bcell hBw S0.out
      have hB2 := Lib.hid (belAlloc hBw (itRO ⟨p.1.toArray⟩ p.2.1 p.2.2))
      have e0 := bcell hB2 E0.out
      have e1 := bcell hB2 E1.out
      have e2 := bcell hB2 E2.out
      clear hris htk hln hgi hrow ho hlw t0 hBw
      cases D with
      | false =>
        obtain ⟨hg, ha⟩ := HDG.out rfl
        have HGA := Lib.hid (And.intro hg ha)
        clear hg ha
        cases bb with
        | true =>
          have hk := HNE.out rfl
          have k1 : (p.1 == e.key.toList) = false := by rw [hke]; simpa using hk
          have k2 := bne_of k1
          have HT2 := Lib.hid (HPUT.out HGA.out.1 HGA.out.2 rfl)
          have HD3 := Lib.hid HD2.out
          have hrow2 := HG.out.1.alloc (itRO ⟨p.1.toArray⟩ p.2.1 p.2.2)
          have ho2 := ((belNew wr (itRO ⟨p.1.toArray⟩ p.2.1 p.2.2)).block _ (heap_lt HG.out.2.1)).trans HG.out.2.1
          have l1 := cell1 ho2
          have hx2 := heap_alloc_new wr (itRO ⟨p.1.toArray⟩ p.2.1 p.2.2)
          clear hke hk
          go_upto_region 8 with (first
            | (at_builtin; refine wpList_push Try.underlying55 infoR rfl (.tmp 31) (.tmp 39) rfl (W.heap.size + 1) lv T e.key (e.val, e.rev) (wr.heap.size + 1) (by simp) rfl rfl hrow2 (by omega) (by simp; have := HG.out.2.2; omega) ?_; intro v2 w2 hrow3 hb2 hg2; obtain ⟨ao2, n2, c2, rfl⟩ := row_slice hrow3; have ho3 := (hb2.block _ (Nat.lt_succ_self _)).trans ho2; have f1 := froz ho3 1; have l3 := cell1 ho3)
            | go_in)
          obtain ⟨w3, hw3⟩ : ∃ w3, w3 = w2.setCell ⟨W.heap.size, 1, none⟩ (.slice ao2 n2 c2) := ⟨_, rfl⟩
          rw [← hw3]
          have ho4 : w3.heap[W.heap.size]? = some (stO e.rev (.slice ao2 n2 c2)) := by rw [hw3]; exact set1_two ho3 _
          have hrow4 : RowR w3 (W.heap.size + 1) (.slice ao2 n2 c2) (T ++ [(kl e.key, (e.val, e.rev))]) := by rw [hw3]; exact row_set hrow3 (Nat.lt_succ_self _)
          have hB3 : Below W.heap.size W w3 := by rw [hw3]; exact ((hB2.trans (hb2.mono (Nat.le_succ _)))).setCell (Nat.le_refl _) _
          have hl3 : W.heap.size < w3.heap.size := heap_lt ho4
          have hnx : lv.ownBlock ≠ some wr.heap.size := fun h => by have := (World.ownsRow.lt HG.out.1 _ h).2; omega
          have hx3 : w3.heap[wr.heap.size]? = some (itRO ⟨p.1.toArray⟩ p.2.1 p.2.2) := by
            rw [hw3, Below.heap_setCell _ _ _ _ (by show wr.heap.size ≠ W.heap.size; have := HG.out.2.2; omega)]
            exact (hg2.block wr.heap.size (by simp) (fun h => hnx h.symm)).trans hx2
          obtain ⟨x0, x1, x2⟩ := rcells hx3
          have l4 := cell1 ho4
          have e0 := bcell hB3 E0.out
          have HX := Lib.hid (And.intro ho4 (And.intro hrow4 (And.intro hB3 hl3)))
          clear hw3 ho4 hrow4 hB3 hl3 hrow3 hb2 hg2 ho3 f1 l3 hx3 hx2 ho2 l1 hrow2 e1 e2
          have hTl3 : (T ++ [(kl e.key, (e.val, e.rev))]).length ≤ 1000001 := by simp; omega
          go_upto_region 11 with (first
            | (at_builtin; refine wpList_push Try.underlying55 infoR rfl (.tmp 48) (.tmp 50) rfl (W.heap.size + 1) (.slice ao2 n2 c2) (T ++ [(kl e.key, (e.val, e.rev))]) ⟨p.1.toArray⟩ p.2 w3.heap.size (by simp) rfl rfl HX.out.2.1 hTl3 (by have := HX.out.2.2.2; omega) ?_; intro v5 w5 hrow5 hb5 hg5; obtain ⟨ao5, n5, c5, rfl⟩ := row_slice hrow5; have ho5 := (hb5.block _ (Nat.lt_succ_self _)).trans HX.out.1; have f5 := froz ho5 1; have l5 := cell1 ho5)
            | go_in)
          obtain ⟨w6, hw6⟩ : ∃ w6, w6 = w5.setCell ⟨W.heap.size, 1, none⟩ (.slice ao5 n5 c5) := ⟨_, rfl⟩
          rw [← hw6]
          have ho6 : w6.heap[W.heap.size]? = some (stO e.rev (.slice ao5 n5 c5)) := by rw [hw6]; exact set1_two ho5 _
          have hrow6 : RowR w6 (W.heap.size + 1) (.slice ao5 n5 c5) ((T ++ [(kl e.key, (e.val, e.rev))]) ++ [p]) := by rw [hw6]; exact row_set hrow5 (Nat.lt_succ_self _)
          have hB6 : Below W.heap.size W w6 := by rw [hw6]; exact (HX.out.2.2.1.trans (hb5.mono (Nat.le_succ _))).setCell (Nat.le_refl _) _
          have HY := Lib.hid (And.intro ho6 (And.intro hrow6 (And.intro hB6 (heap_lt ho6))))
          clear hw6 ho6 hrow6 hB6 hrow5 hb5 hg5 ho5 f5 l5 l4 x0 x1 x2 e0
          go_wp2_with fail
          go_roundw
          case rel => exact ⟨i + 1, _, by omega, by go_num, by rw [HD3.out]; simp, HY.out.1, by rw [HT2.out]; exact HY.out.2.1, HY.out.2.2.1, HY.out.2.2.2⟩
          case measure => simp [intOf]; omega
        | false =>
          have HT2 := Lib.hid (HSAME.out (by simp))
          have HD3 := Lib.hid HD2.out
          by_cases hk : p.1 = kl e.key
          · rw [if_pos hk] at HT2
            have k1 : (p.1 == e.key.toList) = true := by rw [hke]; simpa using hk
            have k2 := bne_of k1
            have hrow2 := HG.out.1.alloc (itRO ⟨p.1.toArray⟩ p.2.1 p.2.2)
            have ho2 := ((belNew wr (itRO ⟨p.1.toArray⟩ p.2.1 p.2.2)).block _ (heap_lt HG.out.2.1)).trans HG.out.2.1
            have l1 := cell1 ho2
            clear hke hk l1
            go_wp2_with fail
            go_roundw
            case rel => exact ⟨i + 1, _, by omega, by go_num, by rw [HD3.out]; simp, ho2, by rw [HT2.out]; exact hrow2, hB2, Nat.lt_trans HG.out.2.2 (by simp)⟩
            case measure => simp [intOf]; omega
          · rw [if_neg hk] at HT2
            have k1 : (p.1 == e.key.toList) = false := by rw [hke]; simpa using hk
            have k2 := bne_of k1
            have hrow2 := HG.out.1.alloc (itRO ⟨p.1.toArray⟩ p.2.1 p.2.2)
            have ho2 := ((belNew wr (itRO ⟨p.1.toArray⟩ p.2.1 p.2.2)).block _ (heap_lt HG.out.2.1)).trans HG.out.2.1
            have l1 := cell1 ho2
            clear hke hk
            go_upto_region 11 with (first
              | (at_builtin; refine wpList_push Try.underlying55 infoR rfl (.tmp 48) (.tmp 50) rfl (W.heap.size + 1) lv T ⟨p.1.toArray⟩ p.2 (wr.heap.size + 1) (by simp) rfl rfl hrow2 (by omega) (by simp; have := HG.out.2.2; omega) ?_; intro v2 w2 hrow3 hb2 hg2; obtain ⟨ao2, n2, c2, rfl⟩ := row_slice hrow3; have ho3 := (hb2.block _ (Nat.lt_succ_self _)).trans ho2; have f1 := froz ho3 1; have l3 := cell1 ho3)
              | go_in)
            obtain ⟨w3, hw3⟩ : ∃ w3, w3 = w2.setCell ⟨W.heap.size, 1, none⟩ (.slice ao2 n2 c2) := ⟨_, rfl⟩
            rw [← hw3]
            have ho4 : w3.heap[W.heap.size]? = some (stO e.rev (.slice ao2 n2 c2)) := by rw [hw3]; exact set1_two ho3 _
            have hrow4 : RowR w3 (W.heap.size + 1) (.slice ao2 n2 c2) (T ++ [p]) := by rw [hw3]; exact row_set hrow3 (Nat.lt_succ_self _)
            have hB3 : Below W.heap.size W w3 := by rw [hw3]; exact ((hB2.trans (hb2.mono (Nat.le_succ _)))).setCell (Nat.le_refl _) _
            have hl3 : W.heap.size < w3.heap.size := heap_lt ho4
            have HX := Lib.hid (And.intro ho4 (And.intro hrow4 (And.intro hB3 hl3)))
            clear hw3 ho4 hrow4 hB3 hl3 hrow3 hb2 hg2 ho3 f1 l3
            go_wp2_with fail
            go_roundw
            case rel => exact ⟨i + 1, _, by omega, by go_num, by rw [HD3.out]; simp, HX.out.1, by rw [HT2.out]; exact HX.out.2.1, HX.out.2.2.1, HX.out.2.2.2⟩
            case measure => simp [intOf]; omega
      | true =>
        have HT2 := Lib.hid (HSAME.out (by simp))
        have HD3 := Lib.hid HD2.out
        by_cases hk : p.1 = kl e.key
        · rw [if_pos hk] at HT2
          have k1 : (p.1 == e.key.toList) = true := by rw [hke]; simpa using hk
          have k2 := bne_of k1
          have hrow2 := HG.out.1.alloc (itRO ⟨p.1.toArray⟩ p.2.1 p.2.2)
          have ho2 := ((belNew wr (itRO ⟨p.1.toArray⟩ p.2.1 p.2.2)).block _ (heap_lt HG.out.2.1)).trans HG.out.2.1
          have l1 := cell1 ho2
          clear hke hk l1
          go_wp2_with fail
          go_roundw
          case rel => exact ⟨i + 1, _, by omega, by go_num, by rw [HD3.out]; simp, ho2, by rw [HT2.out]; exact hrow2, hB2, Nat.lt_trans HG.out.2.2 (by simp)⟩
          case measure => simp [intOf]; omega
        · rw [if_neg hk] at HT2
          have k1 : (p.1 == e.key.toList) = false := by rw [hke]; simpa using hk
          have k2 := bne_of k1
          have hrow2 := HG.out.1.alloc (itRO ⟨p.1.toArray⟩ p.2.1 p.2.2)
          have ho2 := ((belNew wr (itRO ⟨p.1.toArray⟩ p.2.1 p.2.2)).block _ (heap_lt HG.out.2.1)).trans HG.out.2.1
          have l1 := cell1 ho2
          clear hke hk
          go_upto_region 11 with (first
            | (at_builtin; refine wpList_push Try.underlying55 infoR rfl (.tmp 48) (.tmp 50) rfl (W.heap.size + 1) lv T ⟨p.1.toArray⟩ p.2 (wr.heap.size + 1) (by simp) rfl rfl hrow2 (by omega) (by simp; have := HG.out.2.2; omega) ?_; intro v2 w2 hrow3 hb2 hg2; obtain ⟨ao2, n2, c2, rfl⟩ := row_slice hrow3; have ho3 := (hb2.block _ (Nat.lt_succ_self _)).trans ho2; have f1 := froz ho3 1; have l3 := cell1 ho3)
            | go_in)
          obtain ⟨w3, hw3⟩ : ∃ w3, w3 = w2.setCell ⟨W.heap.size, 1, none⟩ (.slice ao2 n2 c2) := ⟨_, rfl⟩
          rw [← hw3]
          have ho4 : w3.heap[W.heap.size]? = some (stO e.rev (.slice ao2 n2 c2)) := by rw [hw3]; exact set1_two ho3 _
          have hrow4 : RowR w3 (W.heap.size + 1) (.slice ao2 n2 c2) (T ++ [p]) := by rw [hw3]; exact row_set hrow3 (Nat.lt_succ_self _)
          have hB3 : Below W.heap.size W w3 := by rw [hw3]; exact ((hB2.trans (hb2.mono (Nat.le_succ _)))).setCell (Nat.le_refl _) _
          have hl3 : W.heap.size < w3.heap.size := heap_lt ho4
          have HX := Lib.hid (And.intro ho4 (And.intro hrow4 (And.intro hB3 hl3)))
          clear hw3 ho4 hrow4 hB3 hl3 hrow3 hb2 hg2 ho3 f1 l3
          go_wp2_with fail
          go_roundw
          case rel => exact ⟨i + 1, _, by omega, by go_num, by rw [HD3.out]; simp, HX.out.1, by rw [HT2.out]; exact HX.out.2.1, HX.out.2.2.1, HX.out.2.2.2⟩
          case measure => simp [intOf]; omega
    · obtain rfl : i = L.length := by omega
      rw [List.take_length] at hrow
      rw [List.take_length]
      have hln := appS_len (kl e.key) (e.val, e.rev) e.gone L
      have hTl : (appS (kl e.key) (e.val, e.rev) e.gone L).length ≤ 1000001 := by omega
      clear hln
      generalize hT : appS (kl e.key) (e.val, e.rev) e.gone L = T at hrow hTl
      generalize hD : (e.gone || aheadB (kl e.key) L) = D
      have HTD := Lib.hid (And.intro hT hD)
      clear hT hD
      have hx4 := (hBw.block _ (heap_lt H0.out.2.2)).trans H0.out.2.2
      obtain ⟨aoL, nL, cL, rfl⟩ := row_slice hrow
      have l1 := cell1 ho
      have l0 := cell0 ho
      have HBw := Lib.hid hBw
      have HRow := Lib.hid hrow
      have HO := Lib.hid (And.intro ho hlw)
      cases D with
      | true =>
        have x0 := cell0 hx4
        have x1 := cell1 hx4
        have f0 := froz hx4 0
        have f1 := froz hx4 1
        have HE := Lib.hid (fill2 hx4 (.int .i64 e.rev) (.slice aoL nL cL))
        clear hx4 hBw hrow ho hlw
        go_wp2_with fail
        have hE := HE.out
        refine bodyPost_ret (v := stV e.rev (.slice aoL nL cL)) (by simp [results, Try.results29, go_sem, World.cell?, hE]) rfl ⟨_, rfl, ?_, ?_⟩
        · rw [← HF.out, app_end, HTD.out.1, HTD.out.2, if_neg (by simp)]
          exact row_leE (row_set (row_set HRow.out (by have := HZ.out; omega)) (by have := HZ.out; omega)) (by have := HZ.out; omega)
        · exact ((H0.out.1.trans (HBw.out.mono H0.out.1.size)).setCell (by show w.heap.size ≤ w.heap.size + 1 + 1; omega) _).setCell (by show w.heap.size ≤ w.heap.size + 1 + 1; omega) _
      | false =>
        have HX4 := Lib.hid hx4
        have e0 := bcell hBw E0.out
        have e1 := bcell hBw E1.out
        have e2 := bcell hBw E2.out
        clear hx4 hBw hrow ho hlw
        go_upto_region 14 with (first
          | (at_builtin; refine wpList_push Try.underlying55 infoR rfl (.tmp 57) (.tmp 65) rfl (W.heap.size + 1) (.slice aoL nL cL) T e.key (e.val, e.rev) wr.heap.size (by simp) rfl rfl HRow.out hTl (by have := HO.out.2; omega) ?_; intro v2 w2 hrow3 hb2 hg2; obtain ⟨ao2, n2, c2, rfl⟩ := row_slice hrow3; have ho3 := (hb2.block _ (Nat.lt_succ_self _)).trans HO.out.1; have f1 := froz ho3 1; have l3 := cell1 ho3)
          | go_in)
        obtain ⟨w3, hw3⟩ : ∃ w3, w3 = w2.setCell ⟨W.heap.size, 1, none⟩ (.slice ao2 n2 c2) := ⟨_, rfl⟩
        rw [← hw3]
        have ho4 : w3.heap[W.heap.size]? = some (stO e.rev (.slice ao2 n2 c2)) := by rw [hw3]; exact set1_two ho3 _
        have hrow4 : RowR w3 (W.heap.size + 1) (.slice ao2 n2 c2) (T ++ [(kl e.key, (e.val, e.rev))]) := by rw [hw3]; exact row_set hrow3 (Nat.lt_succ_self _)
        have hB3 : Below W.heap.size W w3 := by rw [hw3]; exact ((HBw.out.trans (hb2.mono (Nat.le_succ _)))).setCell (Nat.le_refl _) _
        have hx5 := (hB3.block _ (heap_lt H0.out.2.2)).trans H0.out.2.2
        have l5 := cell1 ho4
        have l6 := cell0 ho4
        have x0 := cell0 hx5
        have x1 := cell1 hx5
        have g0 := froz hx5 0
        have g1 := froz hx5 1
        have HE := Lib.hid (fill2 hx5 (.int .i64 e.rev) (.slice ao2 n2 c2))
        have HX := Lib.hid (And.intro hrow4 hB3)
        clear hx5 hw3 ho4 hrow4 hB3 hrow3 hb2 hg2 ho3 f1 l3 e0 e1 e2 l1 l0
        go_wp2_with fail
        have hE := HE.out
        refine bodyPost_ret (v := stV e.rev (.slice ao2 n2 c2)) (by simp [results, Try.results29, go_sem, World.cell?, hE]) rfl ⟨_, rfl, ?_, ?_⟩
        · rw [← HF.out, app_end, HTD.out.1, HTD.out.2, if_pos (by simp)]
          exact row_leE (row_set (row_set HX.out.1 (by have := HZ.out; omega)) (by have := HZ.out; omega)) (by have := HZ.out; omega)
        · exact ((H0.out.1.trans (HX.out.2.mono H0.out.1.size)).setCell (by show w.heap.size ≤ w.heap.size + 1 + 1; omega) _).setCell (by show w.heap.size ≤ w.heap.size + 1 + 1; omega) _
end Go.Proofs.Ytholgmcfgnifdaa
