/- Joined: NmRead NmOf NmOfB NmOfC NmOfA NmOfP. -/
import Derived.Test.YtiifbhiodegipaaGreatDoorNMc
namespace Go.Proofs.YtiifbhiodegipaaGreatDoor.NM
section
open Go.RowKit Go.Maps
/-- The net that stands so in a key. -/
def rnet (l : List UInt8) : Option (Int × Int) := match netOf (repl 45 47 l) with
  | some p => if keyTxt p.1 p.2 = l then some p else none
  | none => none
def rnetV (o : Option (Int × Int)) : Value := match o with
  | some p => .tuple #[.agg #[.int .u32 p.1, .int .i64 p.2], .bool true]
  | none => .tuple #[.agg #[.int .u32 0, .int .i64 0], .bool false]
theorem netOf_bd {l : List UInt8} {p : Int × Int} (h : netOf l = some p) : 0 ≤ p.1 ∧ p.1 < 4294967296 := by
  unfold netOf at h
  cases hi : ipOf (cutS l).1 with
  | none => rw [hi] at h; cases h
  | some a =>
    rw [hi] at h
    simp only [] at h
    split at h
    · obtain rfl := Option.some.inj h
      exact ipOf_bd hi
    · cases h
theorem netc {w : World} {g : Nat} {a b : Int} {t : TypeId} (h : w.heap[g]? = some (.cells #[.int .u32 a, .int .i64 b] t (0, 0))) : w.cell? ⟨g, 0, none⟩ = some (.int .u32 a) ∧ w.cell? ⟨g, 1, none⟩ = some (.int .i64 b) ∧ w.frozen? ⟨g, 0, none⟩ = false ∧ w.frozen? ⟨g, 1, none⟩ = false := by simp [World.cell?, World.frozen?, h]
theorem net_set {w : World} {g : Nat} {a b : Int} {t : TypeId} (h : w.heap[g]? = some (.cells #[.int .u32 a, .int .i64 b] t (0, 0))) (x y : Int) : ((w.setCell ⟨g, 0, none⟩ (.int .u32 x)).setCell ⟨g, 1, none⟩ (.int .i64 y)).heap[g]? = some (.cells #[.int .u32 x, .int .i64 y] t (0, 0)) := by
  have h1 : (w.setCell ⟨g, 0, none⟩ (.int .u32 x)).heap[g]? = some (.cells #[.int .u32 x, .int .i64 b] t (0, 0)) := by simp [World.setCell, Array.getElem?_modify, h]
  simp [World.setCell, Array.getElem?_modify] at h1 ⊢
  simp [h]
theorem heap_lt {w : World} {g : Nat} {o : Obj} (h : w.heap[g]? = some o) : g < w.heap.size := (Array.getElem?_eq_some_iff.1 h).1
set_option maxRecDepth 100000 in
set_option maxHeartbeats 4000000 in
theorem readNet_any (s : ByteArray) (w : World) (hE : Env w) (hs : s.size ≤ 900) :
    Calls Tryz.prog 119 #[.string s] w fun e w' => e = .returned (rnetV (rnet s.data.toList)) ∧ Below w.heap.size w w' := by
  obtain ⟨W, hW⟩ : ∃ W, W = w.alloc (.cells #[.int .u32 0, .int .i64 0] 62) := ⟨_, rfl⟩
  have hb0 : Below w.heap.size w W := by rw [hW]; exact belNew _ _
  have hA : W.heap[w.heap.size]? = some (.cells #[.int .u32 0, .int .i64 0] 62 (0, 0)) := by rw [hW]; exact heap_alloc_new w _
  have HR := Lib.hid (replace1_any s 45 47 (by decide) W (hE.below hb0) (by omega))
  have hlen : (⟨(repl 45 47 s.data.toList).toArray⟩ : ByteArray).size ≤ 900 := by
    have h0 : s.data.toList.length = s.size := rfl
    rw [size_mk, repl_len, h0]
    omega
  have HP : Hid (∀ w', Below W.heap.size W w' → Calls Tryz.prog 154 #[.string ⟨(repl 45 47 s.data.toList).toArray⟩] w' fun e w'' => e = .returned (netVal (netOf (repl 45 47 s.data.toList))) ∧ Below w'.heap.size w' w'') := Lib.hid (fun w' hb => netParse_any _ w' (hE.below (hb0.trans (hb.mono hb0.size))) hlen)
  have HW := Lib.hid hW
  have HA := Lib.hid (And.intro hb0 hA)
  have HRN : Hid (rnet s.data.toList = match netOf (repl 45 47 s.data.toList) with | some p => if keyTxt p.1 p.2 = s.data.toList then some p else none | none => none) := Lib.hid rfl
  have HBD : Hid (∀ p, netOf (repl 45 47 s.data.toList) = some p → 0 ≤ p.1 ∧ p.1 < 4294967296) := Lib.hid (fun p h => netOf_bd h)
  have HEN := Lib.hid hE
  clear hW hb0 hA hlen hE hs
  generalize rnet s.data.toList = RN at HRN ⊢
  generalize repl 45 47 s.data.toList = t at HR HP HRN HBD
  cases hn : netOf t with
  | none =>
    rw [hn] at HP HRN
    have HX := Lib.hid HRN.out
    have hz := HA.out.2
    clear hn
    go_enter Tryz.func119, Tryz.ntmps119
    go_upto_region 1 with fail
    change Code.wp _ _ _ _ (w.alloc (.cells #[.int .u32 0, .int .i64 0] 62))
    rw [← HW.out]
    simp only [netVal] at HP
    go_upto_region 2 with (first
      | (go_at_call 155; refine HR.out.mono ?_; rintro e w1 ⟨rfl, hb1⟩)
      | (go_at_call 154; refine (HP.out w1 hb1).mono ?_; rintro e w2 ⟨rfl, hb2⟩)
      | go_in)
    have hbb := belAlloc (bel hb1 hb2) (.cells #[.int .u32 0, .int .i64 0] 62)
    have hz2 := (hbb.block _ (heap_lt HA.out.2)).trans HA.out.2
    obtain ⟨c0, c1, f0, f1⟩ := netc hz2
    have HE := Lib.hid (net_set hz2 0 0)
    have HBl := Lib.hid (HA.out.1.trans (hbb.mono HA.out.1.size))
    clear hb1 hb2 hbb hz2 hz
    go_wp2_with fail
    have hE := HE.out
    refine bodyPost_ret (v := .tuple #[.agg #[.int .u32 0, .int .i64 0], .bool false]) (by simp [results, Tryz.results119, go_sem, World.cell?, hE]) rfl ⟨by rw [HX.out]; rfl, (HBl.out.setCell (p := ⟨w.heap.size, 0, none⟩) (Nat.le_refl _) _).setCell (p := ⟨w.heap.size, 1, none⟩) (Nat.le_refl _) _⟩
  | some p =>
    obtain ⟨a, b⟩ := p
    have hbd := HBD.out (a, b) hn
    rw [hn] at HP HRN
    simp only [netVal] at HP
    have HPN : Hid (∀ w', Below w.heap.size w w' → Calls Tryz.prog 156 #[.agg #[.int .u32 a, .int .i64 b]] w' fun e w'' => e = .returned (.string ⟨(keyTxt a b).toArray⟩) ∧ Below w'.heap.size w' w'') := Lib.hid (fun w' hb => putNet_any a b hbd.1 hbd.2 w' (HEN.out.below hb))
    have hkb : (keyTxt a b == s.toList) = decide (keyTxt a b = s.data.toList) := by
      rw [ByteArray.toList_eq]
      by_cases h : keyTxt a b = s.data.toList
      · rw [decide_eq_true h, h]; simp
      · rw [decide_eq_false h]; simpa using h
    clear hn hbd
    by_cases hk : keyTxt a b = s.data.toList
    · have HX : Hid (RN = some (a, b)) := Lib.hid (by rw [HRN.out]; exact if_pos hk)
      rw [decide_eq_true hk] at hkb
      have hkb2 : (keyTxt a b != s.toList) = false := by rw [bne, hkb]; rfl
      clear hk
      go_enter Tryz.func119, Tryz.ntmps119
      go_upto_region 1 with fail
      change Code.wp _ _ _ _ (w.alloc (.cells #[.int .u32 0, .int .i64 0] 62))
      rw [← HW.out]
      go_upto_region 2 with (first
        | (go_at_call 155; refine HR.out.mono ?_; rintro e w1 ⟨rfl, hb1⟩)
        | (go_at_call 154; refine (HP.out w1 hb1).mono ?_; rintro e w2 ⟨rfl, hb2⟩)
        | go_in)
      have hx2 := heap_alloc_new w2 (.cells #[.int .u32 a, .int .i64 b] 62)
      obtain ⟨w3, hw3⟩ : ∃ w3, w3 = w2.alloc (.cells #[.int .u32 a, .int .i64 b] 62) := ⟨_, rfl⟩
      have hbb : Below W.heap.size W w3 := by rw [hw3]; exact belAlloc (bel hb1 hb2) _
      rw [← hw3] at hx2
      try rw [← hw3]
      change Code.wp _ _ _ _ w3
      clear hw3
      obtain ⟨x0, x1, -, -⟩ := netc hx2
      go_wp2_with (first
        | (go_at_call 156; refine (HPN.out w3 (HA.out.1.trans (hbb.mono HA.out.1.size))).mono ?_; rintro e w4 ⟨rfl, hb4⟩; have hx4 := (hb4.block _ (heap_lt hx2)).trans hx2; obtain ⟨x0, x1, -, -⟩ := netc hx4; have hz4 := ((bel hbb hb4).block _ (heap_lt HA.out.2)).trans HA.out.2; obtain ⟨c0, c1, f0, f1⟩ := netc hz4)
        | go_in)
      have hE := net_set hz4 a b
      refine bodyPost_ret (v := .tuple #[.agg #[.int .u32 a, .int .i64 b], .bool true]) (by simp [results, Tryz.results119, go_sem, World.cell?, hE]) rfl ⟨by rw [HX.out]; rfl, ((HA.out.1.trans ((bel hbb hb4).mono HA.out.1.size)).setCell (p := ⟨w.heap.size, 0, none⟩) (Nat.le_refl _) _).setCell (p := ⟨w.heap.size, 1, none⟩) (Nat.le_refl _) _⟩
    · have HX : Hid (RN = none) := Lib.hid (by rw [HRN.out]; exact if_neg hk)
      rw [decide_eq_false hk] at hkb
      have hkb2 : (keyTxt a b != s.toList) = true := by rw [bne, hkb]; rfl
      clear hk
      go_enter Tryz.func119, Tryz.ntmps119
      go_upto_region 1 with fail
      change Code.wp _ _ _ _ (w.alloc (.cells #[.int .u32 0, .int .i64 0] 62))
      rw [← HW.out]
      go_upto_region 2 with (first
        | (go_at_call 155; refine HR.out.mono ?_; rintro e w1 ⟨rfl, hb1⟩)
        | (go_at_call 154; refine (HP.out w1 hb1).mono ?_; rintro e w2 ⟨rfl, hb2⟩)
        | go_in)
      have hx2 := heap_alloc_new w2 (.cells #[.int .u32 a, .int .i64 b] 62)
      obtain ⟨w3, hw3⟩ : ∃ w3, w3 = w2.alloc (.cells #[.int .u32 a, .int .i64 b] 62) := ⟨_, rfl⟩
      have hbb : Below W.heap.size W w3 := by rw [hw3]; exact belAlloc (bel hb1 hb2) _
      rw [← hw3] at hx2
      try rw [← hw3]
      change Code.wp _ _ _ _ w3
      clear hw3
      obtain ⟨x0, x1, -, -⟩ := netc hx2
      go_wp2_with (first
        | (go_at_call 156; refine (HPN.out w3 (HA.out.1.trans (hbb.mono HA.out.1.size))).mono ?_; rintro e w4 ⟨rfl, hb4⟩; have hz4 := ((bel hbb hb4).block _ (heap_lt HA.out.2)).trans HA.out.2; obtain ⟨c0, c1, f0, f1⟩ := netc hz4)
        | go_in)
      have hE := net_set hz4 0 0
      refine bodyPost_ret (v := .tuple #[.agg #[.int .u32 0, .int .i64 0], .bool false]) (by simp [results, Tryz.results119, go_sem, World.cell?, hE]) rfl ⟨by rw [HX.out]; rfl, ((HA.out.1.trans ((bel hbb hb4).mono HA.out.1.size)).setCell (p := ⟨w.heap.size, 0, none⟩) (Nat.le_refl _) _).setCell (p := ⟨w.heap.size, 1, none⟩) (Nat.le_refl _) _⟩
end
section
open Go.RowKit Go.Maps
/-- What is left of a key behind its start. -/
abbrev rest (s p : ByteArray) : ByteArray := ⟨(Lib.trimPrefix s.data.toList p.data.toList).toArray⟩
abbrev starts (s p : ByteArray) : Bool := Lib.hasPrefix s.data.toList p.data.toList
theorem trim_length (s p : List UInt8) : (Lib.trimPrefix s p).length ≤ s.length := by
  unfold Lib.trimPrefix
  split
  · simp
  · exact Nat.le_refl _
theorem rest_size (s p : ByteArray) : (rest s p).size ≤ s.size := by
  rw [size_mk]
  exact trim_length _ _
theorem nameOf_any (s st : ByteArray) (hs : s.size ≤ maxLen) (w : World) :
    Calls Tryz.prog 133 #[.string s, .string st] w fun e w' => e = .returned (if starts s st && okName (rest s st).data.toList then .tuple #[.string (rest s st), .bool true] else .tuple #[.string em, .bool false]) ∧ Below w.heap.size w w' := by
  have HC := Lib.hid (Tryz.strings_CutPrefix s st w)
  have HR := Lib.hid (right_any (rest s st) w (Nat.le_trans (rest_size s st) hs))
  have hr : (⟨(Lib.trimPrefix s.data.toList st.data.toList).toArray⟩ : ByteArray) = rest s st := rfl
  rw [hr] at HC
  clear hr
  have hz : (Lib.hasPrefix s.data.toList st.data.toList) = starts s st := rfl
  rw [hz] at HC
  generalize starts s st = S at *
  generalize rest s st = r at *
  clear hz hs
  cases S with
  | false =>
    go_enter Tryz.func133, Tryz.ntmps133
    go_wp2_with (first
      | (go_at_call 118; refine HC.out.mono ?_; rintro e w1 ⟨rfl, rfl⟩)
      | go_in)
    refine bodyPost_ret (v := .tuple #[.string em, .bool false]) (by simp [results, Tryz.results133, go_sem]) rfl ⟨rfl, Below.refl _ _⟩
  | true =>
    cases hk : okName r.data.toList with
    | true =>
      rw [hk] at HR
      clear hk
      go_enter Tryz.func133, Tryz.ntmps133
      go_wp2_with (first
        | (go_at_call 118; refine HC.out.mono ?_; rintro e w1 ⟨rfl, rfl⟩)
        | (go_at_call 131; refine HR.out.mono ?_; rintro e w1 ⟨rfl, hb1⟩)
        | go_in)
      refine bodyPost_ret (v := .tuple #[.string r, .bool true]) (by simp [results, Tryz.results133, go_sem]) rfl ⟨rfl, hb1⟩
    | false =>
      rw [hk] at HR
      clear hk
      go_enter Tryz.func133, Tryz.ntmps133
      go_wp2_with (first
        | (go_at_call 118; refine HC.out.mono ?_; rintro e w1 ⟨rfl, rfl⟩)
        | (go_at_call 131; refine HR.out.mono ?_; rintro e w1 ⟨rfl, hb1⟩)
        | go_in)
      refine bodyPost_ret (v := .tuple #[.string em, .bool false]) (by simp [results, Tryz.results133, go_sem]) rfl ⟨rfl, hb1⟩
theorem ofHandle_any (s : ByteArray) (hs : s.size ≤ maxLen) (w : World) :
    Calls Tryz.prog 95 #[.string s] w fun e w' => e = .returned (if starts s pHan && okName (rest s pHan).data.toList then .tuple #[.string (rest s pHan), .bool true] else .tuple #[.string em, .bool false]) ∧ Below w.heap.size w w' := by
  have HN := Lib.hid (nameOf_any s pHan hs w)
  generalize (starts s pHan && okName (rest s pHan).data.toList) = K at *
  generalize rest s pHan = r at *
  clear hs
  cases K with
  | true =>
    rw [if_pos rfl] at HN ⊢
    go_enter Tryz.func95, Tryz.ntmps95
    go_wp2_with (first
      | (go_at_call 133; refine HN.out.mono ?_; rintro e w1 ⟨rfl, hb1⟩)
      | go_in)
    refine bodyPost_ret (v := .tuple #[.string r, .bool true]) (by simp [results, Tryz.results95, go_sem]) rfl ⟨rfl, hb1⟩
  | false =>
    rw [if_neg (by simp)] at HN ⊢
    go_enter Tryz.func95, Tryz.ntmps95
    go_wp2_with (first
      | (go_at_call 133; refine HN.out.mono ?_; rintro e w1 ⟨rfl, hb1⟩)
      | go_in)
    refine bodyPost_ret (v := .tuple #[.string em, .bool false]) (by simp [results, Tryz.results95, go_sem]) rfl ⟨rfl, hb1⟩
theorem ofNode_any (s : ByteArray) (hs : s.size ≤ maxLen) (w : World) :
    Calls Tryz.prog 97 #[.string s] w fun e w' => e = .returned (if starts s pNod && okName (rest s pNod).data.toList then .tuple #[.string (rest s pNod), .bool true] else .tuple #[.string em, .bool false]) ∧ Below w.heap.size w w' := by
  have HN := Lib.hid (nameOf_any s pNod hs w)
  generalize (starts s pNod && okName (rest s pNod).data.toList) = K at *
  generalize rest s pNod = r at *
  clear hs
  cases K with
  | true =>
    rw [if_pos rfl] at HN ⊢
    go_enter Tryz.func97, Tryz.ntmps97
    go_wp2_with (first
      | (go_at_call 133; refine HN.out.mono ?_; rintro e w1 ⟨rfl, hb1⟩)
      | go_in)
    refine bodyPost_ret (v := .tuple #[.string r, .bool true]) (by simp [results, Tryz.results97, go_sem]) rfl ⟨rfl, hb1⟩
  | false =>
    rw [if_neg (by simp)] at HN ⊢
    go_enter Tryz.func97, Tryz.ntmps97
    go_wp2_with (first
      | (go_at_call 133; refine HN.out.mono ?_; rintro e w1 ⟨rfl, hb1⟩)
      | go_in)
    refine bodyPost_ret (v := .tuple #[.string em, .bool false]) (by simp [results, Tryz.results97, go_sem]) rfl ⟨rfl, hb1⟩
end
section
open Go.RowKit Go.Maps
def rblk (l : List UInt8) : Option Int := match rnet l with
  | some p => if p.2 = 26 then some p.1 else none
  | none => none
def rblkV (o : Option Int) : Value := match o with
  | some a => .tuple #[.int .u32 a, .bool true]
  | none => .tuple #[.int .u32 0, .bool false]
theorem readBlock_any (s : ByteArray) (w : World) (hE : Env w) (hs : s.size ≤ 900) :
    Calls Tryz.prog 125 #[.string s] w fun e w' => e = .returned (rblkV (rblk s.data.toList)) ∧ Below w.heap.size w w' := by
  have HN := Lib.hid (readNet_any s w hE hs)
  have HX : Hid (rblk s.data.toList = match rnet s.data.toList with | some p => if p.2 = 26 then some p.1 else none | none => none) := Lib.hid rfl
  clear hs hE
  generalize rblk s.data.toList = R at HX ⊢
  cases hn : rnet s.data.toList with
  | none =>
    rw [hn] at HN HX
    have hR := HX.out
    simp only [] at hR
    subst hR
    clear hn HX
    simp only [rnetV] at HN
    go_enter Tryz.func125, Tryz.ntmps125
    go_upto_region 2 with (first
      | (go_at_call 119; refine HN.out.mono ?_; rintro e w1 ⟨rfl, hb1⟩)
      | go_in)
    have hb := belAlloc hb1 (.cells #[.int .u32 0, .int .i64 0] 62)
    obtain ⟨w2, hw2⟩ : ∃ w2, w2 = w1.alloc (.cells #[.int .u32 0, .int .i64 0] 62) := ⟨_, rfl⟩
    rw [← hw2] at hb
    try rw [← hw2]
    change Code.wp _ _ _ _ w2
    clear hw2
    go_wp2_with fail
    refine bodyPost_ret (v := .tuple #[.int .u32 0, .bool false]) (by simp [results, Tryz.results125, go_sem]) rfl ⟨rfl, hb⟩
  | some p =>
    obtain ⟨a, b⟩ := p
    rw [hn] at HN HX
    have hR := HX.out
    simp only [] at hR
    clear hn HX
    simp only [rnetV] at HN
    by_cases hb26 : b = 26
    · rw [if_pos hb26] at hR
      subst hR
      subst hb26
      go_enter Tryz.func125, Tryz.ntmps125
      go_upto_region 2 with (first
        | (go_at_call 119; refine HN.out.mono ?_; rintro e w1 ⟨rfl, hb1⟩)
        | go_in)
      have hb := belAlloc hb1 (.cells #[.int .u32 a, .int .i64 26] 62)
      have hx := heap_alloc_new w1 (.cells #[.int .u32 a, .int .i64 26] 62)
      obtain ⟨w2, hw2⟩ : ∃ w2, w2 = w1.alloc (.cells #[.int .u32 a, .int .i64 26] 62) := ⟨_, rfl⟩
      rw [← hw2] at hb hx
      try rw [← hw2]
      change Code.wp _ _ _ _ w2
      clear hw2
      obtain ⟨x0, x1, -, -⟩ := netc hx
      go_wp2_with fail
      refine bodyPost_ret (v := .tuple #[.int .u32 a, .bool true]) (by simp [results, Tryz.results125, go_sem]) rfl ⟨rfl, hb⟩
    · rw [if_neg hb26] at hR
      subst hR
      go_enter Tryz.func125, Tryz.ntmps125
      go_upto_region 2 with (first
        | (go_at_call 119; refine HN.out.mono ?_; rintro e w1 ⟨rfl, hb1⟩)
        | go_in)
      have hb := belAlloc hb1 (.cells #[.int .u32 a, .int .i64 b] 62)
      have hx := heap_alloc_new w1 (.cells #[.int .u32 a, .int .i64 b] 62)
      obtain ⟨w2, hw2⟩ : ∃ w2, w2 = w1.alloc (.cells #[.int .u32 a, .int .i64 b] 62) := ⟨_, rfl⟩
      rw [← hw2] at hb hx
      try rw [← hw2]
      change Code.wp _ _ _ _ w2
      clear hw2
      obtain ⟨x0, x1, -, -⟩ := netc hx
      have hd : (b != 26) = true := by simpa using hb26
      have hd2 : decide (b = 26) = false := decide_eq_false hb26
      go_wp2_with fail
      refine bodyPost_ret (v := .tuple #[.int .u32 0, .bool false]) (by simp [results, Tryz.results125, go_sem]) rfl ⟨rfl, hb⟩
end
section
open Go.RowKit Go.Maps
theorem ofBlock_any (s : ByteArray) (w : World) (hE : Env w) (hs : s.size ≤ 900) :
    Calls Tryz.prog 91 #[.string s] w fun e w' => e = .returned (if starts s pBlk = true then rblkV (rblk (rest s pBlk).data.toList) else .tuple #[.int .u32 0, .bool false]) ∧ Below w.heap.size w w' := by
  have HC := Lib.hid (Tryz.strings_CutPrefix s pBlk w)
  have HR := Lib.hid (readBlock_any (rest s pBlk) w hE (Nat.le_trans (rest_size s pBlk) hs))
  have hr : (⟨(Lib.trimPrefix s.data.toList pBlk.data.toList).toArray⟩ : ByteArray) = rest s pBlk := rfl
  rw [hr] at HC
  clear hr
  have hz : (Lib.hasPrefix s.data.toList pBlk.data.toList) = starts s pBlk := rfl
  rw [hz] at HC
  generalize starts s pBlk = S at *
  generalize rest s pBlk = r at *
  clear hz hs hE
  cases S with
  | false =>
    rw [if_neg (by simp)]
    go_enter Tryz.func91, Tryz.ntmps91
    go_wp2_with (first
      | (go_at_call 118; refine HC.out.mono ?_; rintro e w1 ⟨rfl, rfl⟩)
      | go_in)
    refine bodyPost_ret (v := .tuple #[.int .u32 0, .bool false]) (by simp [results, Tryz.results91, go_sem]) rfl ⟨rfl, Below.refl _ _⟩
  | true =>
    rw [if_pos rfl]
    generalize rblk r.data.toList = R at *
    cases R with
    | none =>
      simp only [rblkV] at HR ⊢
      go_enter Tryz.func91, Tryz.ntmps91
      go_wp2_with (first
        | (go_at_call 118; refine HC.out.mono ?_; rintro e w1 ⟨rfl, rfl⟩)
        | (go_at_call 125; refine HR.out.mono ?_; rintro e w1 ⟨rfl, hb1⟩)
        | go_in)
      refine bodyPost_ret (v := .tuple #[.int .u32 0, .bool false]) (by simp [results, Tryz.results91, go_sem]) rfl ⟨rfl, hb1⟩
    | some a =>
      simp only [rblkV] at HR ⊢
      go_enter Tryz.func91, Tryz.ntmps91
      go_wp2_with (first
        | (go_at_call 118; refine HC.out.mono ?_; rintro e w1 ⟨rfl, rfl⟩)
        | (go_at_call 125; refine HR.out.mono ?_; rintro e w1 ⟨rfl, hb1⟩)
        | go_in)
      refine bodyPost_ret (v := .tuple #[.int .u32 a, .bool true]) (by simp [results, Tryz.results91, go_sem]) rfl ⟨rfl, hb1⟩
end
section
open Go.RowKit Go.Maps
abbrev cutN (s : ByteArray) : ByteArray := ⟨(Lib.cut s.data.toList slash.data.toList).1.toArray⟩
abbrev cutB (s : ByteArray) : ByteArray := ⟨(Lib.cut s.data.toList slash.data.toList).2.1.toArray⟩
theorem cut_le1 (s p : List UInt8) : (Lib.cut s p).1.length ≤ s.length := by
  unfold Lib.cut
  split
  · simp; omega
  · exact Nat.le_refl _
theorem cut_le2 (s p : List UInt8) : (Lib.cut s p).2.1.length ≤ s.length := by
  unfold Lib.cut
  split
  · simp
  · simp
def affV (S : Bool) (R : Option Int) (K : Bool) (n : ByteArray) : Value := match R with
  | some a => if S && K then .tuple #[.string n, .int .u32 a, .bool true] else .tuple #[.string em, .int .u32 0, .bool false]
  | none => .tuple #[.string em, .int .u32 0, .bool false]
set_option maxRecDepth 100000 in
set_option maxHeartbeats 4000000 in
theorem ofAff_any (s : ByteArray) (w : World) (hE : Env w) (hs : s.size ≤ 900) :
    Calls Tryz.prog 93 #[.string s] w fun e w' => e = .returned (affV (starts s pAff) (rblk (cutB (rest s pAff)).data.toList) (okName (cutN (rest s pAff)).data.toList) (cutN (rest s pAff))) ∧ Below w.heap.size w w' := by
  have HC := Lib.hid (Tryz.strings_CutPrefix s pAff w)
  have hr : (⟨(Lib.trimPrefix s.data.toList pAff.data.toList).toArray⟩ : ByteArray) = rest s pAff := rfl
  rw [hr] at HC
  have hsz : (rest s pAff).size ≤ 900 := Nat.le_trans (rest_size s pAff) hs
  have hz : (Lib.hasPrefix s.data.toList pAff.data.toList) = starts s pAff := rfl
  rw [hz] at HC
  clear hr hz hs
  generalize starts s pAff = S at *
  generalize rest s pAff = r at *
  obtain ⟨m, hm⟩ := hE.max
  have HK := Lib.hid (Tryz.strings_Cut r slash m w (by omega) hm)
  have hn : (⟨(Lib.cut r.data.toList slash.data.toList).1.toArray⟩ : ByteArray) = cutN r := rfl
  have hb : (⟨(Lib.cut r.data.toList slash.data.toList).2.1.toArray⟩ : ByteArray) = cutB r := rfl
  have hnz : (cutN r).size ≤ 900 := by rw [size_mk]; exact Nat.le_trans (cut_le1 _ _) hsz
  have hbz : (cutB r).size ≤ 900 := by rw [size_mk]; exact Nat.le_trans (cut_le2 _ _) hsz
  rw [hn, hb] at HK
  generalize (Lib.cut r.data.toList slash.data.toList).2.2 = C at HK
  generalize cutN r = N at *
  generalize cutB r = B at *
  have HR : Hid (∀ w', Below w.heap.size w w' → Calls Tryz.prog 125 #[.string B] w' fun e w'' => e = .returned (rblkV (rblk B.data.toList)) ∧ Below w'.heap.size w' w'') := Lib.hid (fun w' hb => readBlock_any B w' (hE.below hb) hbz)
  have HO : Hid (∀ w', Calls Tryz.prog 131 #[.string N] w' fun e w'' => e = .returned (.bool (okName N.data.toList)) ∧ Below w'.heap.size w' w'') := Lib.hid (fun w' => right_any N w' (Nat.le_trans hnz (by unfold maxLen; omega)))
  clear hn hb hnz hbz hsz hm hE
  generalize rblk B.data.toList = R at *
  generalize okName N.data.toList = K at *
  cases R with
  | none =>
    simp only [rblkV] at HR
    simp only [affV]
    cases S with
    | false =>
      go_enter Tryz.func93, Tryz.ntmps93
      go_upto_region 3 with (first
        | (go_at_call 118; refine HC.out.mono ?_; rintro e w1 ⟨rfl, rfl⟩)
        | (go_at_call 130; refine HK.out.mono ?_; rintro e w2 ⟨rfl, k, rfl⟩)
        | go_in)
      have hb2 : Below w1.heap.size w1 (w1.drewN k) := ⟨rfl, rfl, rfl, Nat.le_refl _, fun _ _ => rfl⟩
      generalize w1.drewN k = W2 at *
      go_upto_region 4 with (first
        | (go_at_call 125; refine (HR.out W2 hb2).mono ?_; rintro e w3 ⟨rfl, hb3⟩)
        | go_in)
      have hb5 := hb2.trans (hb3.mono hb2.size)
      clear hb3
      go_wp2_with (first
        | (go_at_call 131; refine (HO.out w3).mono ?_; rintro e w4 ⟨rfl, hb4⟩)
        | go_in)
      refine bodyPost_ret (v := .tuple #[.string em, .int .u32 0, .bool false]) (by simp [results, Tryz.results93, go_sem]) rfl ⟨rfl, hb5⟩
    | true =>
      go_enter Tryz.func93, Tryz.ntmps93
      go_upto_region 3 with (first
        | (go_at_call 118; refine HC.out.mono ?_; rintro e w1 ⟨rfl, rfl⟩)
        | (go_at_call 130; refine HK.out.mono ?_; rintro e w2 ⟨rfl, k, rfl⟩)
        | go_in)
      have hb2 : Below w1.heap.size w1 (w1.drewN k) := ⟨rfl, rfl, rfl, Nat.le_refl _, fun _ _ => rfl⟩
      generalize w1.drewN k = W2 at *
      go_upto_region 4 with (first
        | (go_at_call 125; refine (HR.out W2 hb2).mono ?_; rintro e w3 ⟨rfl, hb3⟩)
        | go_in)
      have hb5 := hb2.trans (hb3.mono hb2.size)
      clear hb3
      go_wp2_with (first
        | (go_at_call 131; refine (HO.out w3).mono ?_; rintro e w4 ⟨rfl, hb4⟩)
        | go_in)
      refine bodyPost_ret (v := .tuple #[.string em, .int .u32 0, .bool false]) (by simp [results, Tryz.results93, go_sem]) rfl ⟨rfl, hb5⟩
  | some a =>
    simp only [rblkV] at HR
    simp only [affV]
    cases S with
    | false =>
      go_enter Tryz.func93, Tryz.ntmps93
      go_upto_region 3 with (first
        | (go_at_call 118; refine HC.out.mono ?_; rintro e w1 ⟨rfl, rfl⟩)
        | (go_at_call 130; refine HK.out.mono ?_; rintro e w2 ⟨rfl, k, rfl⟩)
        | go_in)
      have hb2 : Below w1.heap.size w1 (w1.drewN k) := ⟨rfl, rfl, rfl, Nat.le_refl _, fun _ _ => rfl⟩
      generalize w1.drewN k = W2 at *
      go_upto_region 4 with (first
        | (go_at_call 125; refine (HR.out W2 hb2).mono ?_; rintro e w3 ⟨rfl, hb3⟩)
        | go_in)
      have hb5 := hb2.trans (hb3.mono hb2.size)
      clear hb3
      go_wp2_with (first
        | (go_at_call 131; refine (HO.out w3).mono ?_; rintro e w4 ⟨rfl, hb4⟩)
        | go_in)
      refine bodyPost_ret (v := .tuple #[.string em, .int .u32 0, .bool false]) (by simp [results, Tryz.results93, go_sem]) rfl ⟨rfl, hb5⟩
    | true =>
      cases K with
      | true =>
        go_enter Tryz.func93, Tryz.ntmps93
        go_upto_region 3 with (first
          | (go_at_call 118; refine HC.out.mono ?_; rintro e w1 ⟨rfl, rfl⟩)
          | (go_at_call 130; refine HK.out.mono ?_; rintro e w2 ⟨rfl, k, rfl⟩)
          | go_in)
        have hb2 : Below w1.heap.size w1 (w1.drewN k) := ⟨rfl, rfl, rfl, Nat.le_refl _, fun _ _ => rfl⟩
        generalize w1.drewN k = W2 at *
        go_upto_region 4 with (first
          | (go_at_call 125; refine (HR.out W2 hb2).mono ?_; rintro e w3 ⟨rfl, hb3⟩)
          | go_in)
        have hb5 := hb2.trans (hb3.mono hb2.size)
        clear hb3
        go_wp2_with (first
          | (go_at_call 131; refine (HO.out w3).mono ?_; rintro e w4 ⟨rfl, hb4⟩)
          | go_in)
        refine bodyPost_ret (v := .tuple #[.string N, .int .u32 a, .bool true]) (by simp [results, Tryz.results93, go_sem]) rfl ⟨rfl, (hb5.trans (hb4.mono hb5.size))⟩
      | false =>
        go_enter Tryz.func93, Tryz.ntmps93
        go_upto_region 3 with (first
          | (go_at_call 118; refine HC.out.mono ?_; rintro e w1 ⟨rfl, rfl⟩)
          | (go_at_call 130; refine HK.out.mono ?_; rintro e w2 ⟨rfl, k, rfl⟩)
          | go_in)
        have hb2 : Below w1.heap.size w1 (w1.drewN k) := ⟨rfl, rfl, rfl, Nat.le_refl _, fun _ _ => rfl⟩
        generalize w1.drewN k = W2 at *
        go_upto_region 4 with (first
          | (go_at_call 125; refine (HR.out W2 hb2).mono ?_; rintro e w3 ⟨rfl, hb3⟩)
          | go_in)
        have hb5 := hb2.trans (hb3.mono hb2.size)
        clear hb3
        go_wp2_with (first
          | (go_at_call 131; refine (HO.out w3).mono ?_; rintro e w4 ⟨rfl, hb4⟩)
          | go_in)
        refine bodyPost_ret (v := .tuple #[.string em, .int .u32 0, .bool false]) (by simp [results, Tryz.results93, go_sem]) rfl ⟨rfl, (hb5.trans (hb4.mono hb5.size))⟩
end
section
open Go.RowKit Go.Maps
def poolV (S : Bool) (R : Option (Int × Int)) : Value := match R with
  | some p => if S && decide (p.2 ≤ 26) then .tuple #[.agg #[.int .u32 p.1, .int .i64 p.2], .bool true] else .tuple #[.agg #[.int .u32 0, .int .i64 0], .bool false]
  | none => .tuple #[.agg #[.int .u32 0, .int .i64 0], .bool false]
set_option maxRecDepth 100000 in
set_option maxHeartbeats 4000000 in
theorem ofPool_any (s : ByteArray) (w : World) (hE : Env w) (hs : s.size ≤ 900) :
    Calls Tryz.prog 89 #[.string s] w fun e w' => e = .returned (poolV (starts s pPool) (rnet (rest s pPool).data.toList)) ∧ Below w.heap.size w w' := by
  obtain ⟨W, hW⟩ : ∃ W, W = w.alloc (.cells #[.int .u32 0, .int .i64 0] 62) := ⟨_, rfl⟩
  have hb0 : Below w.heap.size w W := by rw [hW]; exact belNew _ _
  have hA : W.heap[w.heap.size]? = some (.cells #[.int .u32 0, .int .i64 0] 62 (0, 0)) := by rw [hW]; exact heap_alloc_new w _
  have HC := Lib.hid (Tryz.strings_CutPrefix s pPool W)
  have hr : (⟨(Lib.trimPrefix s.data.toList pPool.data.toList).toArray⟩ : ByteArray) = rest s pPool := rfl
  rw [hr] at HC
  have hsz : (rest s pPool).size ≤ 900 := Nat.le_trans (rest_size s pPool) hs
  have hz : (Lib.hasPrefix s.data.toList pPool.data.toList) = starts s pPool := rfl
  rw [hz] at HC
  clear hr hz hs
  generalize starts s pPool = S at *
  generalize rest s pPool = r at *
  have HN := Lib.hid (readNet_any r W (hE.below hb0) hsz)
  have HW := Lib.hid hW
  have HA := Lib.hid (And.intro hb0 hA)
  clear hW hb0 hA hE hsz
  generalize rnet r.data.toList = R at *
  cases R with
  | none =>
    simp only [rnetV] at HN
    simp only [poolV]
    cases S with
    | false =>
      go_enter Tryz.func89, Tryz.ntmps89
      go_upto_region 1 with fail
      change Code.wp _ _ _ _ (w.alloc (.cells #[.int .u32 0, .int .i64 0] 62))
      rw [← HW.out]
      go_upto_region 2 with (first
        | (go_at_call 118; refine HC.out.mono ?_; rintro e w1 ⟨rfl, rfl⟩)
        | go_in)
      go_upto_region 3 with (first
        | (go_at_call 119; refine HN.out.mono ?_; rintro e w2 ⟨rfl, hb2⟩)
        | go_in)
      have hbb := belAlloc hb2 (.cells #[.int .u32 0, .int .i64 0] 62)
      have hx := heap_alloc_new w2 (.cells #[.int .u32 0, .int .i64 0] 62)
      obtain ⟨w3, hw3⟩ : ∃ w3, w3 = w2.alloc (.cells #[.int .u32 0, .int .i64 0] 62) := ⟨_, rfl⟩
      rw [← hw3] at hbb hx
      try rw [← hw3]
      change Code.wp _ _ _ _ w3
      clear hw3
      obtain ⟨x0, x1, -, -⟩ := netc hx
      have hz2 := (hbb.block _ (heap_lt HA.out.2)).trans HA.out.2
      obtain ⟨c0, c1, f0, f1⟩ := netc hz2
      have HE := Lib.hid (net_set hz2 0 0)
      have HBl := Lib.hid (HA.out.1.trans (hbb.mono HA.out.1.size))
      clear hbb hz2 hx hb2
      go_wp2_with fail
      have hE := HE.out
      refine bodyPost_ret (v := .tuple #[.agg #[.int .u32 0, .int .i64 0], .bool false]) (by simp [results, Tryz.results89, go_sem, World.cell?, hE]) rfl ⟨rfl, (HBl.out.setCell (p := ⟨w.heap.size, 0, none⟩) (Nat.le_refl _) _).setCell (p := ⟨w.heap.size, 1, none⟩) (Nat.le_refl _) _⟩
    | true =>
      go_enter Tryz.func89, Tryz.ntmps89
      go_upto_region 1 with fail
      change Code.wp _ _ _ _ (w.alloc (.cells #[.int .u32 0, .int .i64 0] 62))
      rw [← HW.out]
      go_upto_region 2 with (first
        | (go_at_call 118; refine HC.out.mono ?_; rintro e w1 ⟨rfl, rfl⟩)
        | go_in)
      go_upto_region 3 with (first
        | (go_at_call 119; refine HN.out.mono ?_; rintro e w2 ⟨rfl, hb2⟩)
        | go_in)
      have hbb := belAlloc hb2 (.cells #[.int .u32 0, .int .i64 0] 62)
      have hx := heap_alloc_new w2 (.cells #[.int .u32 0, .int .i64 0] 62)
      obtain ⟨w3, hw3⟩ : ∃ w3, w3 = w2.alloc (.cells #[.int .u32 0, .int .i64 0] 62) := ⟨_, rfl⟩
      rw [← hw3] at hbb hx
      try rw [← hw3]
      change Code.wp _ _ _ _ w3
      clear hw3
      obtain ⟨x0, x1, -, -⟩ := netc hx
      have hz2 := (hbb.block _ (heap_lt HA.out.2)).trans HA.out.2
      obtain ⟨c0, c1, f0, f1⟩ := netc hz2
      have HE := Lib.hid (net_set hz2 0 0)
      have HBl := Lib.hid (HA.out.1.trans (hbb.mono HA.out.1.size))
      clear hbb hz2 hx hb2
      go_wp2_with fail
      have hE := HE.out
      refine bodyPost_ret (v := .tuple #[.agg #[.int .u32 0, .int .i64 0], .bool false]) (by simp [results, Tryz.results89, go_sem, World.cell?, hE]) rfl ⟨rfl, (HBl.out.setCell (p := ⟨w.heap.size, 0, none⟩) (Nat.le_refl _) _).setCell (p := ⟨w.heap.size, 1, none⟩) (Nat.le_refl _) _⟩
  | some p =>
    obtain ⟨a, b⟩ := p
    simp only [rnetV] at HN
    simp only [poolV]
    cases S with
    | false =>
      go_enter Tryz.func89, Tryz.ntmps89
      go_upto_region 1 with fail
      change Code.wp _ _ _ _ (w.alloc (.cells #[.int .u32 0, .int .i64 0] 62))
      rw [← HW.out]
      go_upto_region 2 with (first
        | (go_at_call 118; refine HC.out.mono ?_; rintro e w1 ⟨rfl, rfl⟩)
        | go_in)
      go_upto_region 3 with (first
        | (go_at_call 119; refine HN.out.mono ?_; rintro e w2 ⟨rfl, hb2⟩)
        | go_in)
      have hbb := belAlloc hb2 (.cells #[.int .u32 a, .int .i64 b] 62)
      have hx := heap_alloc_new w2 (.cells #[.int .u32 a, .int .i64 b] 62)
      obtain ⟨w3, hw3⟩ : ∃ w3, w3 = w2.alloc (.cells #[.int .u32 a, .int .i64 b] 62) := ⟨_, rfl⟩
      rw [← hw3] at hbb hx
      try rw [← hw3]
      change Code.wp _ _ _ _ w3
      clear hw3
      obtain ⟨x0, x1, -, -⟩ := netc hx
      have hz2 := (hbb.block _ (heap_lt HA.out.2)).trans HA.out.2
      obtain ⟨c0, c1, f0, f1⟩ := netc hz2
      have HE := Lib.hid (net_set hz2 0 0)
      have HBl := Lib.hid (HA.out.1.trans (hbb.mono HA.out.1.size))
      clear hbb hz2 hx hb2
      go_wp2_with fail
      have hE := HE.out
      refine bodyPost_ret (v := .tuple #[.agg #[.int .u32 0, .int .i64 0], .bool false]) (by simp [results, Tryz.results89, go_sem, World.cell?, hE]) rfl ⟨rfl, (HBl.out.setCell (p := ⟨w.heap.size, 0, none⟩) (Nat.le_refl _) _).setCell (p := ⟨w.heap.size, 1, none⟩) (Nat.le_refl _) _⟩
    | true =>
      by_cases hb26 : b ≤ 26
      · have hd : decide (b ≤ 26) = true := decide_eq_true hb26
        have hd2 : decide (26 < b) = false := decide_eq_false (by omega)
        have q : ¬ 26 < b := by omega
        rw [hd]
        go_enter Tryz.func89, Tryz.ntmps89
        go_upto_region 1 with fail
        change Code.wp _ _ _ _ (w.alloc (.cells #[.int .u32 0, .int .i64 0] 62))
        rw [← HW.out]
        go_upto_region 2 with (first
          | (go_at_call 118; refine HC.out.mono ?_; rintro e w1 ⟨rfl, rfl⟩)
          | go_in)
        go_upto_region 3 with (first
          | (go_at_call 119; refine HN.out.mono ?_; rintro e w2 ⟨rfl, hb2⟩)
          | go_in)
        have hbb := belAlloc hb2 (.cells #[.int .u32 a, .int .i64 b] 62)
        have hx := heap_alloc_new w2 (.cells #[.int .u32 a, .int .i64 b] 62)
        obtain ⟨w3, hw3⟩ : ∃ w3, w3 = w2.alloc (.cells #[.int .u32 a, .int .i64 b] 62) := ⟨_, rfl⟩
        rw [← hw3] at hbb hx
        try rw [← hw3]
        change Code.wp _ _ _ _ w3
        clear hw3
        obtain ⟨x0, x1, -, -⟩ := netc hx
        have hz2 := (hbb.block _ (heap_lt HA.out.2)).trans HA.out.2
        obtain ⟨c0, c1, f0, f1⟩ := netc hz2
        have HE := Lib.hid (net_set hz2 a b)
        have HBl := Lib.hid (HA.out.1.trans (hbb.mono HA.out.1.size))
        clear hbb hz2 hx hb2
        go_wp2_with fail
        have hE := HE.out
        refine bodyPost_ret (v := .tuple #[.agg #[.int .u32 a, .int .i64 b], .bool true]) (by simp [results, Tryz.results89, go_sem, World.cell?, hE]) rfl ⟨rfl, (HBl.out.setCell (p := ⟨w.heap.size, 0, none⟩) (Nat.le_refl _) _).setCell (p := ⟨w.heap.size, 1, none⟩) (Nat.le_refl _) _⟩
      · have hd : decide (b ≤ 26) = false := decide_eq_false hb26
        have hd2 : decide (26 < b) = true := decide_eq_true (by omega)
        have q : 26 < b := by omega
        rw [hd]
        go_enter Tryz.func89, Tryz.ntmps89
        go_upto_region 1 with fail
        change Code.wp _ _ _ _ (w.alloc (.cells #[.int .u32 0, .int .i64 0] 62))
        rw [← HW.out]
        go_upto_region 2 with (first
          | (go_at_call 118; refine HC.out.mono ?_; rintro e w1 ⟨rfl, rfl⟩)
          | go_in)
        go_upto_region 3 with (first
          | (go_at_call 119; refine HN.out.mono ?_; rintro e w2 ⟨rfl, hb2⟩)
          | go_in)
        have hbb := belAlloc hb2 (.cells #[.int .u32 a, .int .i64 b] 62)
        have hx := heap_alloc_new w2 (.cells #[.int .u32 a, .int .i64 b] 62)
        obtain ⟨w3, hw3⟩ : ∃ w3, w3 = w2.alloc (.cells #[.int .u32 a, .int .i64 b] 62) := ⟨_, rfl⟩
        rw [← hw3] at hbb hx
        try rw [← hw3]
        change Code.wp _ _ _ _ w3
        clear hw3
        obtain ⟨x0, x1, -, -⟩ := netc hx
        have hz2 := (hbb.block _ (heap_lt HA.out.2)).trans HA.out.2
        obtain ⟨c0, c1, f0, f1⟩ := netc hz2
        have HE := Lib.hid (net_set hz2 0 0)
        have HBl := Lib.hid (HA.out.1.trans (hbb.mono HA.out.1.size))
        clear hbb hz2 hx hb2
        go_wp2_with fail
        have hE := HE.out
        refine bodyPost_ret (v := .tuple #[.agg #[.int .u32 0, .int .i64 0], .bool false]) (by simp [results, Tryz.results89, go_sem, World.cell?, hE]) rfl ⟨rfl, (HBl.out.setCell (p := ⟨w.heap.size, 0, none⟩) (Nat.le_refl _) _).setCell (p := ⟨w.heap.size, 1, none⟩) (Nat.le_refl _) _⟩
end
end Go.Proofs.YtiifbhiodegipaaGreatDoor.NM
namespace Go.Proofs.YtiifbhiodegipaaGreatDoor.NM
open Go.RowKit Go.Maps
abbrev exKey : ByteArray := ⟨#[98, 108, 111, 99, 107, 47, 49, 48, 46, 48, 46, 48, 46, 54, 52, 45, 50, 54]⟩
end Go.Proofs.YtiifbhiodegipaaGreatDoor.NM
namespace Go.Proofs.YtiifbhiodegipaaGreatDoor.NM
section
open Go.RowKit Go.Maps
theorem dec_no47 (u : Nat) : (47 : UInt8) ∉ Lib.decDigits u := fun h => by
  have := List.all_eq_true.1 (dec_all u) 47 h
  revert this
  decide
theorem ip_no47 (a : Int) : (47 : UInt8) ∉ ipTxt a := by
  rw [ipTxt_eq]
  have h (u : Nat) := dec_no47 u
  simp only [List.mem_append, List.mem_cons, List.not_mem_nil, or_false, h, false_or]
  decide
theorem keyTxt_eq {a b : Int} (h : mayB a b = true) : keyTxt a b = ipTxt a ++ [45] ++ Lib.decDigits b.toNat := by
  unfold keyTxt netText
  rw [if_pos h]
  unfold netTxt
  rw [repl_app (ip_no47 a)]
  simp
theorem bcell {w W : World} {a : Addr} {v : Value} (hb : Below w.heap.size w W) (h : w.cell? a = some v) : W.cell? a = some v := by
  have hl : a.block < w.heap.size := by
    rcases Nat.lt_or_ge a.block w.heap.size with hlt | hge
    · exact hlt
    · simp [World.cell?, Array.getElem?_eq_none hge] at h
  exact (hb.cell hl).trans h
end
section
open Go.RowKit Go.Maps
end
section
open Go.RowKit Go.Maps
theorem netOf_may {l : List UInt8} {p : Int × Int} (h : netOf l = some p) : mayB p.1 p.2 = true := by
  unfold netOf at h
  cases hi : ipOf (cutS l).1 with
  | none => rw [hi] at h; cases h
  | some a =>
    rw [hi] at h
    simp only [] at h
    split at h
    · rename_i hc
      obtain rfl := Option.some.inj h
      simp only [Bool.and_eq_true] at hc
      exact hc.2.2
    · cases h
theorem rnet_some {l : List UInt8} {p : Int × Int} (h : rnet l = some p) : mayB p.1 p.2 = true ∧ keyTxt p.1 p.2 = l ∧ 0 ≤ p.1 ∧ p.1 < 4294967296 := by
  unfold rnet at h
  cases hn : netOf (repl 45 47 l) with
  | none => rw [hn] at h; cases h
  | some q =>
    rw [hn] at h
    simp only [] at h
    split at h
    · rename_i hk
      obtain rfl := Option.some.inj h
      exact ⟨netOf_may hn, hk, netOf_bd hn⟩
    · cases h
theorem may26 {a : Int} (h : mayB a 26 = true) : a % 64 = 0 := by
  unfold mayB at h
  rw [hole26, Bool.and_eq_true] at h
  exact of_decide_eq_true h.2
theorem rblk_some {l : List UInt8} {a : Int} (h : rblk l = some a) : l = blkTxt a ∧ a - a % 64 = a ∧ 0 ≤ a ∧ a < 4294967296 := by
  unfold rblk at h
  cases hn : rnet l with
  | none => rw [hn] at h; cases h
  | some p =>
    rw [hn] at h
    simp only [] at h
    split at h
    · rename_i hb
      obtain rfl := Option.some.inj h
      obtain ⟨hm, hk, h0, h1⟩ := rnet_some hn
      rw [hb] at hm hk
      have hz := may26 hm
      have he : p.1 - p.1 % 64 = p.1 := by omega
      refine ⟨?_, he, h0, h1⟩
      unfold blkTxt
      rw [he]
      exact hk.symm
    · cases h
theorem data_append (p x : ByteArray) : (p ++ x).data.toList = p.data.toList ++ x.data.toList := by simp
theorem rest_eq {s p : ByteArray} (h : starts s p = true) : s = p ++ rest s p := by
  have h1 : Lib.hasPrefix s.data.toList p.data.toList = true := h
  have h2 : p.data.toList <+: s.data.toList := List.isPrefixOf_iff_prefix.1 h1
  obtain ⟨t, ht⟩ := h2
  unfold rest Lib.trimPrefix
  rw [if_pos h1, ← ht, List.drop_left]
  have e1 : p = ⟨p.data.toList.toArray⟩ := (Lib.mk_data p).symm
  calc s = ⟨s.data.toList.toArray⟩ := (Lib.mk_data s).symm
    _ = ⟨(p.data.toList ++ t).toArray⟩ := by rw [ht]
    _ = ⟨p.data.toList.toArray⟩ ++ ⟨t.toArray⟩ := (mk_append _ _).symm
    _ = p ++ ⟨t.toArray⟩ := by rw [← e1]
theorem head_of {s p : ByteArray} (h : starts s p = true) {c : UInt8} {t : List UInt8} (hp : p.data.toList = c :: t) : s.data.toList.head? = some c := by
  have h1 : Lib.hasPrefix s.data.toList p.data.toList = true := h
  obtain ⟨x, hx⟩ := List.isPrefixOf_iff_prefix.1 h1
  rw [← hx, hp]; simp
theorem not_starts {s p q : ByteArray} (h : starts s p = true) {c d : UInt8} {t u : List UInt8} (hp : p.data.toList = c :: t) (hq : q.data.toList = d :: u) (hcd : c ≠ d) : starts s q = false := by
  cases hs : starts s q with
  | false => rfl
  | true =>
    have h1 := head_of h hp
    have h2 := head_of hs hq
    rw [h1] at h2
    exact absurd (Option.some.inj h2) hcd
theorem cutS_no : ∀ l : List UInt8, (cutS l).2.2 = false → (cutS l).2.1 = []
  | [], _ => rfl
  | c :: l, h => by
    rw [cutS_cons] at h ⊢
    split at h
    · cases h
    · rename_i hc
      rw [if_neg hc]
      exact cutS_no l h
theorem cutS_yes : ∀ l : List UInt8, (cutS l).2.2 = true → l = (cutS l).1 ++ 47 :: (cutS l).2.1
  | [], h => by cases h
  | c :: l, h => by
    rw [cutS_cons] at h ⊢
    split at h
    · rename_i hc
      rw [if_pos hc, hc]
      rfl
    · rename_i hc
      rw [if_neg hc]
      simp only [List.cons_append]
      rw [← cutS_yes l h]
theorem rblk_nil : rblk [] = none := by kernel_rfl
theorem cut_back {r : ByteArray} {a : Int} (h : rblk (cutB r).data.toList = some a) : r = cutN r ++ slash ++ ⟨(blkTxt a).toArray⟩ := by
  have hb := (rblk_some h).1
  have hl : slash.data.toList = [47] := rfl
  have h2 : (cutB r).data.toList = (cutS r.data.toList).2.1 := rfl
  have h1 : (cutN r).data.toList = (cutS r.data.toList).1 := rfl
  cases hf : (cutS r.data.toList).2.2 with
  | false =>
    rw [h2, cutS_no _ hf, rblk_nil] at h
    cases h
  | true =>
    have hy := cutS_yes _ hf
    rw [← h1, ← h2, hb] at hy
    calc r = ⟨r.data.toList.toArray⟩ := (Lib.mk_data r).symm
      _ = ⟨((cutN r).data.toList ++ [47] ++ blkTxt a).toArray⟩ := by rw [hy, List.append_assoc]; rfl
      _ = ⟨(cutN r).data.toList.toArray⟩ ++ slash ++ ⟨(blkTxt a).toArray⟩ := by rw [← mk_append, ← mk_append]
      _ = cutN r ++ slash ++ ⟨(blkTxt a).toArray⟩ := by rw [Lib.mk_data]
end
end Go.Proofs.YtiifbhiodegipaaGreatDoor.NM
