/- Package kv: mayStand, Of. -/
import Derived.Test.YtogcjginifcbpaaKvDo
namespace Go.Proofs.Ytogcjginifcbpaa
open Go.RowKit Go.Maps
/-- May an item stand behind that key, in a state of that revision? -/
def itOkB (R : Int) (ahead : List UInt8) (p : KEnt) : Bool := mayK ⟨p.1.toArray⟩ && (mayV p.2.1 && (bytesBefore ahead p.1 && (decide (1 ≤ p.2.2) && decide (p.2.2 ≤ R))))
def standB (R : Int) : List UInt8 → List KEnt → Bool
  | _, [] => true
  | a, p :: r => itOkB R a p && standB R p.1 r
def ofB (R : Int) (L : List KEnt) : Bool := decide (0 ≤ R) && standB R [] L
theorem standB_append (R : Int) : ∀ (a : List UInt8) (T : List KEnt) (p : KEnt), standB R a (T ++ [p]) = (standB R a T && itOkB R ((T.getLast?.map (·.1)).getD a) p)
  | a, [], p => by simp [standB]
  | a, q :: T, p => by
    rw [List.cons_append, standB, standB_append R q.1 T p, standB, Bool.and_assoc]
    congr 2
    cases T with
    | nil => rfl
    | cons r T =>
      rw [List.getLast?_cons_cons]
      cases hx : (r :: T).getLast? with
      | none => simp at hx
      | some x => rfl
theorem standB_take {R : Int} : ∀ {a : List UInt8} {L : List KEnt} (_ : standB R a L = true) (i : Nat), standB R a (L.take i) = true
  | _, [], _, i => by simp [standB]
  | _, _ :: _, _, 0 => rfl
  | a, p :: L, h, i + 1 => by
    rw [standB, Bool.and_eq_true] at h
    rw [List.take_succ_cons, standB, Bool.and_eq_true]
    exact ⟨h.1, standB_take h.2 i⟩
theorem less_before : ∀ a b : List UInt8, Op.bytesLess a b = bytesBefore a b
  | [], [] => rfl
  | [], _ :: _ => rfl
  | _ :: _, [] => rfl
  | a :: r, b :: s => by unfold Op.bytesLess bytesBefore; rw [less_before r s]
theorem leq_not (a b : List UInt8) : (Op.bytesLess a b || (a == b)) = !(bytesBefore b a) := by
  rw [less_before]
  by_cases e : a = b
  · subst e
    simp [WideAt.bytes_irrefl]
  · have e2 : (a == b) = false := by simpa using e
    rw [e2, Bool.or_false]
    cases h1 : bytesBefore a b with
    | true =>
      cases h2 : bytesBefore b a with
      | true =>
        have h3 := WideShapes.bytes_trans a b a h1 h2
        rw [WideAt.bytes_irrefl] at h3
        cases h3
      | false => rfl
    | false =>
      rcases WideAt.bytes_total a b e with h2 | h2
      · rw [h1] at h2; cases h2
      · rw [h2]; rfl
theorem leqS (a b : ByteArray) (w : World) : (binOp .leq 9 (.string a) (.string b)).run Try.prog w = .ok (.bool (!bytesBefore (kl b) (kl a))) w := by
  have h := leq_not a.toList b.toList
  rw [ByteArray.toList_eq, ByteArray.toList_eq] at h
  have e1 : a.toList = kl a := by rw [ByteArray.toList_eq]
  have e2 : b.toList = kl b := by rw [ByteArray.toList_eq]
  have h' : (Op.bytesLess a.toList b.toList || (a.toList == b.toList)) = !(bytesBefore (kl b) (kl a)) := by rw [e1, e2]; exact h
  rw [← h']
  simp [binOp, Op.stringOp]
theorem ofs1 {W : World} {a : Addr} {v : Value} (h : W.cell? (a.add 1) = some v) : W.cell? { block := a.block, off := a.off + 1 } = some v := h
theorem ofs2 {W : World} {a : Addr} {v : Value} (h : W.cell? (a.add 2) = some v) : W.cell? { block := a.block, off := a.off + 2 } = some v := h
def lastK (T : List KEnt) : List UInt8 := (T.getLast?.map (·.1)).getD []
theorem take_snocK {L : List KEnt} {i : Nat} (h : i < L.length) : L.take (i + 1) = L.take i ++ [L[i]] := by rw [List.take_add_one, List.getElem?_eq_getElem h]; rfl
theorem lastK_snoc (T : List KEnt) (p : KEnt) : lastK (T ++ [p]) = p.1 := by unfold lastK; simp
set_option maxRecDepth 100000 in
set_option maxHeartbeats 8000000 in
theorem mayStand_any (v : Value) (L : List KEnt) (R : Int) (w : World) (hv : SeesI w v L) (hl : L.length ≤ maxLen) :
    Calls Try.prog 54 #[v, .int .i64 R] w fun e w' => e = .returned (.bool (standB R [] L)) ∧ Below w.heap.size w w' := by
  obtain ⟨ao, c, rfl, hlc, hnil, hc⟩ := hv
  have HC := Lib.hid (And.intro hnil hc)
  have hl2 : L.length ≤ 9223372036854775807 := by unfold maxLen at hl; omega
  have ql := leqS
  generalize hB : standB R [] L = B
  have HBB := Lib.hid hB
  clear hnil hc hB
  go_enter Try.func54, Try.ntmps54
  go_wp2_with fail
  go_loopw [5, 10] (fun a j wr => ∃ i : Nat, i ≤ L.length ∧ j = .int .i64 i ∧ a = .string ⟨(lastK (L.take i)).toArray⟩ ∧ Aside (standB R [] (L.take i) = true) ∧ Below w.heap.size w wr) (fun _ j _ => L.length - (intOf j).toNat)
  case atStart => exact ⟨0, Nat.zero_le _, rfl, rfl, rfl, Below.refl _ _⟩
  case round =>
    obtain ⟨i, hi, rfl, rfl, hst, hBw⟩ := hrel
    by_cases hlt : i < L.length
    · obtain ⟨a, rfl⟩ : ∃ a, ao = some a := by
        cases ao with
        | none => rw [HC.out.1 rfl] at hlt; simp at hlt
        | some a => exact ⟨a, rfl⟩
      obtain ⟨q0, q1, q2⟩ := HC.out.2 a rfl i L[i] (List.getElem?_eq_getElem hlt)
      have q0 := bcell hBw q0
      have q1 := ofs1 (bcell hBw q1)
      have q2 := ofs2 (bcell hBw q2)
      have b0 : (0 : Int) ≤ (i : Int) := by omega
      have b1 : (i : Int) < (L.length : Int) := by omega
      have hsn : standB R [] (L.take (i + 1)) = itOkB R (lastK (L.take i)) L[i] := by
        have h := standB_append R [] (L.take i) L[i]
        rw [← take_snocK hlt, hst.out, Bool.true_and] at h
        exact h
      have hwhole : itOkB R (lastK (L.take i)) L[i] = false → B = false := fun h => by
        cases hb : B with
        | false => rfl
        | true =>
          have := standB_take (HBB.out.trans hb) (i + 1)
          rw [hsn] at this
          exact absurd (this.symm.trans h) (by simp)
      have HS := Lib.hid hsn
      have HWh := Lib.hid hwhole
      have hKy := mayKey_any ⟨L[i].1.toArray⟩
      have hVl := mayVal_any L[i].2.1
      have hE : itOkB R (lastK (L.take i)) L[i] = (mayK ⟨L[i].1.toArray⟩ && (mayV L[i].2.1 && (bytesBefore (lastK (L.take i)) L[i].1 && (decide (1 ≤ L[i].2.2) && decide (L[i].2.2 ≤ R))))) := rfl
      have hlast : lastK (L.take (i + 1)) = L[i].1 := by rw [take_snocK hlt, lastK_snoc]
      rw [hE] at HS HWh
      have hql := fun w => ql ⟨L[i].1.toArray⟩ ⟨(lastK (L.take i)).toArray⟩ w
      simp only [kl] at hql
      have HL := Lib.hid hlast
      generalize mayK ⟨L[i].1.toArray⟩ = t1 at hKy HS HWh
      generalize mayV L[i].2.1 = t2 at hVl HS HWh
      generalize bytesBefore (lastK (L.take i)) L[i].1 = t3 at hql HS HWh
      have HKy := Lib.hid hKy
      have HVl := Lib.hid hVl
      clear hsn hwhole hKy hVl hE hst ql hlast
      cases t1 with
      | false =>
        go_wp2_with (first
          | (go_at_call 73; refine (HKy.out _).mono ?_; rintro e wz ⟨rfl, rfl⟩)
          | go_in)
        go_ret
        exact ⟨congrArg (fun b : Bool => Ending.returned (.bool b)) (HWh.out rfl).symm, belAlloc hBw _⟩
      | true =>
        cases t2 with
        | false =>
          go_wp2_with (first
            | (go_at_call 73; refine (HKy.out _).mono ?_; rintro e wz ⟨rfl, rfl⟩)
            | (go_at_call 74; refine (HVl.out _).mono ?_; rintro e wz ⟨rfl, rfl⟩)
            | go_in)
          go_ret
          exact ⟨congrArg (fun b : Bool => Ending.returned (.bool b)) (HWh.out rfl).symm, belAlloc hBw _⟩
        | true =>
          cases t3 with
          | false =>
            go_wp2_with (first
              | (go_at_call 73; refine (HKy.out _).mono ?_; rintro e wz ⟨rfl, rfl⟩)
              | (go_at_call 74; refine (HVl.out _).mono ?_; rintro e wz ⟨rfl, rfl⟩)
              | go_in)
            go_ret
            exact ⟨congrArg (fun b : Bool => Ending.returned (.bool b)) (HWh.out rfl).symm, belAlloc hBw _⟩
          | true =>
            by_cases h1 : L[i].2.2 < 1
            · have d1 : decide (L[i].2.2 < 1) = true := by simpa using h1
              have hf := HWh.out (by simp; omega)
              have HF := Lib.hid hf
              clear hf h1
              go_wp2_with (first
                | (go_at_call 73; refine (HKy.out _).mono ?_; rintro e wz ⟨rfl, rfl⟩)
                | (go_at_call 74; refine (HVl.out _).mono ?_; rintro e wz ⟨rfl, rfl⟩)
                | go_in)
              go_ret
              exact ⟨congrArg (fun b : Bool => Ending.returned (.bool b)) HF.out.symm, belAlloc hBw _⟩
            · have d1 : decide (L[i].2.2 < 1) = false := by simpa using h1
              by_cases h2 : R < L[i].2.2
              · have d2 : decide (R < L[i].2.2) = true := by simpa using h2
                have hf := HWh.out (by simp; omega)
                have HF := Lib.hid hf
                clear hf h1 h2
                go_wp2_with (first
                  | (go_at_call 73; refine (HKy.out _).mono ?_; rintro e wz ⟨rfl, rfl⟩)
                  | (go_at_call 74; refine (HVl.out _).mono ?_; rintro e wz ⟨rfl, rfl⟩)
                  | go_in)
                go_ret
                exact ⟨congrArg (fun b : Bool => Ending.returned (.bool b)) HF.out.symm, belAlloc hBw _⟩
              · have d2 : decide (R < L[i].2.2) = false := by simpa using h2
                have hgood : standB R [] (L.take (i + 1)) = true := HS.out.trans (by simp; omega)
                have HGd := Lib.hid hgood
                clear hgood h1 h2
                go_wp2_with (first
                  | (go_at_call 73; refine (HKy.out _).mono ?_; rintro e wz ⟨rfl, rfl⟩)
                  | (go_at_call 74; refine (HVl.out _).mono ?_; rintro e wz ⟨rfl, rfl⟩)
                  | go_in)
                go_roundw
                case rel => exact ⟨i + 1, by omega, by go_num, by rw [HL.out], HGd.out, belAlloc hBw _⟩
                case measure => simp [intOf]; omega
    · obtain rfl : i = L.length := by omega
      have hst := hst.out
      rw [List.take_length] at hst
      have HBt := Lib.hid (HBB.out.symm.trans hst)
      go_wp2_with fail
      go_ret
      exact ⟨congrArg (fun b : Bool => Ending.returned (.bool b)) HBt.out.symm, hBw⟩
theorem standB_all {R : Int} : ∀ {a : List UInt8} {L : List KEnt}, standB R a L = true → Rising L ∧ (∀ p ∈ L, bytesBefore a p.1 = true) ∧ ∀ p ∈ L, mayK ⟨p.1.toArray⟩ = true ∧ mayV p.2.1 = true ∧ 1 ≤ p.2.2 ∧ p.2.2 ≤ R
  | _, [], _ => ⟨List.Pairwise.nil, (fun p hp => by cases hp), (fun p hp => by cases hp)⟩
  | a, p :: L, h => by
    rw [standB, Bool.and_eq_true] at h
    obtain ⟨h1, h2⟩ := h
    obtain ⟨r1, r2, r3⟩ := standB_all h2
    unfold itOkB at h1
    simp only [Bool.and_eq_true, decide_eq_true_eq] at h1
    refine ⟨List.pairwise_cons.2 ⟨r2, r1⟩, fun q hq => ?_, fun q hq => ?_⟩
    · rcases List.mem_cons.1 hq with rfl | hq
      · exact h1.2.2.1
      · exact WideShapes.bytes_trans _ _ _ h1.2.2.1 (r2 q hq)
    · rcases List.mem_cons.1 hq with rfl | hq
      · exact ⟨h1.1, h1.2.1, h1.2.2.2.1, h1.2.2.2.2⟩
      · exact r3 q hq
theorem insE_last {β : Type} (x : List UInt8 × β) : ∀ T : List (List UInt8 × β), (∀ q ∈ T, bytesBefore q.1 x.1 = true) → insE x T = T ++ [x]
  | [], _ => rfl
  | a :: T, h => by
    have ha := h a List.mem_cons_self
    have hn : ¬ bytesBefore x.1 a.1 = true := fun e => by
      have := WideShapes.bytes_trans _ _ _ ha e
      rw [WideAt.bytes_irrefl] at this; cases this
    rw [insE, if_neg hn, insE_last x T (fun q hq => h q (List.mem_cons_of_mem _ hq))]
    rfl
theorem putE_last {β : Type} (k : List UInt8) (u : β) (T : List (List UInt8 × β)) (h : ∀ q ∈ T, bytesBefore q.1 k = true) : putE k u T = T ++ [(k, u)] := by
  have hd : delE k T = T := by
    unfold delE
    rw [List.filter_eq_self]
    intro q hq
    have hb := h q hq
    have : q.1 ≠ k := fun e => by rw [e, WideAt.bytes_irrefl] at hb; cases hb
    simp [this]
  unfold putE
  rw [hd]
  exact insE_last (k, u) T h
theorem mkMapN (w : World) (n : Int) : (Instr.makeMap 90 (some (.int .i64 n))).run Try.prog w = .ok (.map (some w.heap.size)) (w.alloc (.map #[] 0)) := by
  have u := Try.underlying90
  simp [Instr.makeMap, run_underlying u]
  rfl
set_option maxRecDepth 100000 in
set_option maxHeartbeats 8000000 in
theorem of_no (R : Int) (v : Value) (L : List KEnt) (w : World) (hv : SeesI w v L) (hl : L.length ≤ maxLen) (hB : ofB R L = false) :
    Calls Try.prog 27 #[.int .i64 R, v] w fun e w' => e = .returned (.tuple #[.pointer none, .int .i64 1]) ∧ Below w.heap.size w w' := by
  have HM := Lib.hid (mayStand_any v L R w hv hl)
  by_cases h0 : R < 0
  · have d0 : decide (R < 0) = true := by simpa using h0
    clear hB h0
    go_enter Try.func27, Try.ntmps27
    go_wp2_with fail
    go_ret2
    exact ⟨rfl, Below.refl _ _⟩
  · have d0 : decide (R < 0) = false := by simpa using h0
    have hs : standB R [] L = false := by
      unfold ofB at hB
      rw [decide_eq_true (by omega : 0 ≤ R), Bool.true_and] at hB
      exact hB
    rw [hs] at HM
    clear hB h0 hs
    go_enter Try.func27, Try.ntmps27
    go_wp2_with (first
      | (go_at_call 54; refine HM.out.mono ?_; rintro e w2 ⟨rfl, hb2⟩)
      | go_in)
    go_ret2
    exact ⟨rfl, hb2⟩
set_option maxRecDepth 100000 in
set_option maxHeartbeats 8000000 in
theorem of_yes (R : Int) (v : Value) (L : List KEnt) (w : World) (hv : SeesI w v L) (hl : L.length ≤ 1000000) (hB : ofB R L = true) :
    Calls Try.prog 27 #[.int .i64 R, v] w fun e w' => ∃ g P, e = .returned (.tuple #[ptr g, .int .i64 0]) ∧ KvAt w' g P ⟨R, L⟩ ∧ (∀ i, P i → w.heap.size ≤ i) ∧ Below w.heap.size w w' := by
  have HM := Lib.hid (mayStand_any v L R w hv (by unfold maxLen; omega))
  unfold ofB at hB
  rw [Bool.and_eq_true, decide_eq_true_eq] at hB
  obtain ⟨h0, hs⟩ := hB
  have d0 : decide (R < 0) = false := by simp; omega
  obtain ⟨hris, -, hall⟩ := standB_all hs
  rw [hs] at HM
  obtain ⟨ao, c, rfl, hlc, hnil, hc⟩ := hv
  have HC := Lib.hid (And.intro hnil (And.intro hc (And.intro hris hall)))
  have hmm := mkMapN
  clear hnil hc hris hall hs h0
  go_enter Try.func27, Try.ntmps27
  go_upto_region 4 with (first
    | (go_at_call 54; refine HM.out.mono ?_; rintro e w1 ⟨rfl, hb1⟩)
    | go_in)
  obtain ⟨w2, hw2⟩ : ∃ w2, w2 = (w1.alloc (.map #[] 0)).alloc (.cells #[.int .i64 R, .map (some w1.heap.size)] 92) := ⟨_, rfl⟩
  have hb2 : Below w1.heap.size w1 w2 := by rw [hw2]; exact belAlloc (belNew w1 _) _
  have hz2 : w2.heap.size = w1.heap.size + 2 := by rw [hw2]; simp
  have hg2 : w2.heap[w1.heap.size + 1]? = some (.cells #[.int .i64 R, .map (some w1.heap.size)] 92 (0, 0)) := by rw [hw2]; simpa using heap_alloc_new (w1.alloc (.map #[] 0)) (.cells #[.int .i64 R, .map (some w1.heap.size)] 92)
  have hM2 : MapIs w2 w1.heap.size 0 (entsV ([] : List KEnt)) := by
    rw [hw2]
    exact (MapIs.made w1).heap (Below.heap_alloc _ _ _ (by simp))
  rw [← hw2]
  have H2 := Lib.hid (And.intro (hb1.trans (hb2.mono hb1.size)) (And.intro hz2 hb1.size))
  clear hw2 hb2 hb1 hmm
  go_wp2_with fail
  go_loopw [25] (fun j wr => ∃ i : Nat, i ≤ L.length ∧ j = .int .i64 i ∧ MapIs wr w1.heap.size i (entsV (L.take i)) ∧ wr.heap[w1.heap.size + 1]? = some (.cells #[.int .i64 R, .map (some w1.heap.size)] 92 (0, 0)) ∧ Below w1.heap.size w2 wr) (fun j _ => L.length - (intOf j).toNat)
  case atStart => exact ⟨0, Nat.zero_le _, rfl, hM2, hg2, ⟨rfl, rfl, rfl, Nat.le_refl _, fun _ _ => rfl⟩⟩
  case round =>
    obtain ⟨i, hi, rfl, hM, hg, hB⟩ := hrel
    by_cases hlt : i < L.length
    · obtain ⟨a, rfl⟩ : ∃ a, ao = some a := by
        cases ao with
        | none => rw [HC.out.1 rfl] at hlt; simp at hlt
        | some a => exact ⟨a, rfl⟩
      obtain ⟨p, hget⟩ : ∃ p, L[i]? = some p := ⟨_, List.getElem?_eq_getElem hlt⟩
      obtain ⟨q0, q1, q2⟩ := HC.out.2.1 a rfl i p hget
      have hbw : Below w.heap.size w wr := H2.out.1.trans (hB.mono H2.out.2.2)
      have q0 := bcell hbw q0
      have q1 := ofs1 (bcell hbw q1)
      have q2 := ofs2 (bcell hbw q2)
      have b0 : (0 : Int) ≤ (i : Int) := by omega
      have b1 : (i : Int) < (L.length : Int) := by omega
      have hk := (HC.out.2.2.2 p (List.mem_of_getElem? hget)).1
      have hks : (⟨p.1.toArray⟩ : ByteArray).size ≤ maxLen := by
        unfold mayK at hk
        rw [decide_eq_true_eq] at hk
        unfold maxLen; omega
      have htk : L.take (i + 1) = L.take i ++ [p] := by rw [List.take_add_one, hget]; rfl
      have hput : putE p.1 (itV p.1 p.2) (entsV (L.take i)) = entsV (L.take (i + 1)) := by
        have hr := HC.out.2.2.1
        have hr2 : Rising (L.take (i + 1)) := List.Pairwise.sublist (List.take_sublist _ _) hr
        rw [htk] at hr2 ⊢
        rw [← ents_put, putE_last p.1 p.2 (L.take i) (fun q hq => (List.pairwise_append.1 hr2).2.2 q hq p (by simp))]
      have HP := Lib.hid hput
      have hbx := belNew wr (.cells #[.string ⟨p.1.toArray⟩, .string p.2.1, .int .i64 p.2.2] 73)
      have hx := heap_alloc_new wr (.cells #[.string ⟨p.1.toArray⟩, .string p.2.1, .int .i64 p.2.2] 73)
      have HLT := Lib.hid hlt
      clear hk htk hput hget hlt
      go_upto_region 7 with fail
      obtain ⟨wx, hwx⟩ : ∃ wx, wx = wr.alloc (.cells #[.string ⟨p.1.toArray⟩, .string p.2.1, .int .i64 p.2.2] 73) := ⟨_, rfl⟩
      rw [← hwx] at hbx hx ⊢
      obtain ⟨x0, x1, x2⟩ := rcells hx
      have hgx := (hbx.block _ (heap_lt hg)).trans hg
      have hMx : MapIs wx w1.heap.size i (entsV (L.take i)) := hM.heap (hbx.block _ hM.lt)
      have c1 := cell1 hgx
      have HX := Lib.hid (And.intro hgx (And.intro hMx (Below.trans hB (hbx.mono (by have := hB.size; have := H2.out.2.1; omega)))))
      clear hwx hbx hx q0 q1 q2 hgx hMx hM hg hB
      go_still_tail 7, (by kernel_rfl)
      change wpList _ _ _ _ _ wx.drew
      have hM4 : MapIs wx.drew w1.heap.size i (entsV (L.take i)) := HX.out.2.1
      go_wp2_with (first
        | (at_mapUpdate; refine wpList_putE rfl (.tmp 32) (.tmp 34) (.tmp 35) rfl w1.heap.size i (entsV (L.take i)) rfl hM4 (by unfold maxLen; omega) ⟨p.1.toArray⟩ hks (.agg #[.string ⟨p.1.toArray⟩, .string p.2.1, .int .i64 p.2.2]) rfl rfl ?_; intro w5 hm5 hg5)
        | go_in)
      have hm6 : MapIs w5 w1.heap.size (i + 1) (entsV (L.take (i + 1))) := by rw [← HP.out]; exact hm5
      go_roundw
      case rel => exact ⟨i + 1, HLT.out, by go_num, hm6, (hg5.block _ (heap_lt HX.out.1) (fun e => by have := Option.some.inj e; omega)).trans HX.out.1, HX.out.2.2.grown (w' := w5) (row := some w1.heap.size) ⟨hg5.os, hg5.tape, hg5.output, hg5.size, hg5.block⟩ (by have := HX.out.2.2.size; have := H2.out.2.1; omega) (fun g hg => by cases hg; exact Nat.le_refl _)⟩
      case measure => have := HLT.out; simp [intOf]; omega
    · obtain rfl : i = L.length := by omega
      rw [List.take_length] at hM
      have hbw : Below w.heap.size w wr := H2.out.1.trans (hB.mono H2.out.2.2)
      have HF := Lib.hid (And.intro hM (And.intro hg hbw))
      have hz := hB.size
      have HZ := Lib.hid (And.intro hz H2.out)
      clear hM hg hB hbw hz
      go_wp2_with fail
      go_ret2
      refine ⟨w1.heap.size + 1, fun i => i = w1.heap.size + 1 ∨ i = w1.heap.size, rfl, ⟨some w1.heap.size, HF.out.2.1, fun b e => by cases e; exact ⟨HF.out.1, Or.inr rfl⟩, (fun e => by cases e), Or.inl rfl, fun i hi => ?_⟩, fun i hi => ?_, HF.out.2.2⟩
      · have := HZ.out.1; have := HZ.out.2.2.1
        rcases hi with rfl | rfl <;> omega
      · have := HZ.out.2.2.2
        rcases hi with rfl | rfl <;> omega
end Go.Proofs.Ytogcjginifcbpaa
