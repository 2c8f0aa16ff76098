/- The document's view: what records are; Read of the lock's key, of a pool's. Made by g_vwrq.py. -/
import Derived.Test.YtiifbhiodegipaaGreatDoorVwAf
import Derived.Test.YtiifbhiodegipaaGreatDoorVwCt
import Derived.Test.YtiifbhiodegipaaGreatDoorVwRd
import Derived.StillTailTactics
namespace Go.Proofs.YtiifbhiodegipaaGreatDoor
open Go.RowKit
/-- What an item says, in the document's words. -/
inductive DR where
  | no
  | lock
  | pool (q : P3)
  | blk (b : BlkS)
  | aff (n : ByteArray) (a st : Int)
  | han (n : ByteArray) (L : List (Int × Int))
  | nod (n : ByteArray) (g : Bool)
abbrev S4 := SlV × SlV × SlV × SlV
abbrev sNo : SlV := (none, 0, 0)
abbrev sNo4 : S4 := (sNo, sNo, sNo, sNo)
abbrev RX := DR × S4
def recP (q : P3) : List Value := [.int .i64 1, .string ⟨#[]⟩, .int .u32 0, .int .u32 q.1, .int .i64 q.2.1, .bool q.2.2, .int .u32 0, .string ⟨#[]⟩, NS, NS, NS, .int .i64 0, NS, .bool false]
def recH (n : ByteArray) (c : Value) : List Value := [.int .i64 4, .string n, .int .u32 0, .int .u32 0, .int .i64 0, .bool false, .int .u32 0, .string ⟨#[]⟩, NS, NS, NS, .int .i64 0, c, .bool false]
def encR (x : RX) : List Value := match x.1 with
  | .no => recN 0 ⟨#[]⟩ false
  | .lock => recN 6 ⟨#[]⟩ false
  | .pool q => recP q
  | .blk b => recL 2 b.addr b.aff (slV x.2.1) (slV x.2.2.1) (slV x.2.2.2.1)
  | .aff n a st => recA n a st
  | .han n _ => recH n (slV x.2.2.2.2)
  | .nod n g => recN 5 n g
def ROk (w : World) (x : RX) : Prop := match x.1 with
  | .blk b => DocSees w b.sl b.free b.attrs (slV x.2.1) (slV x.2.2.1) (slV x.2.2.2.1)
  | .han _ L => HN.SeesC w (slV x.2.2.2.2) L
  | _ => True
theorem ROk.below {w w' : World} {x : RX} (h : ROk w x) (hb : Below w.heap.size w w') : ROk w' x := by
  obtain ⟨r, s⟩ := x
  cases r with
  | blk b => exact DocSees.below h hb
  | han n L => exact HN.SeesC.below h hb
  | _ => trivial
theorem encR_len (x : RX) : (encR x).length = 14 := by
  obtain ⟨r, s⟩ := x
  cases r <;> rfl
theorem recP_one (q : P3) : ∀ v ∈ recP q, v.oneCell' = true := by
  intro v hv
  simp only [recP, List.mem_cons, List.not_mem_nil, or_false] at hv
  rcases hv with rfl | rfl | rfl | rfl | rfl | rfl | rfl | rfl | rfl | rfl | rfl | rfl | rfl | rfl <;> rfl
theorem recH_one (n : ByteArray) (c : SlV) : ∀ v ∈ recH n (slV c), v.oneCell' = true := by
  intro v hv
  simp only [recH, List.mem_cons, List.not_mem_nil, or_false] at hv
  rcases hv with rfl | rfl | rfl | rfl | rfl | rfl | rfl | rfl | rfl | rfl | rfl | rfl | rfl | rfl <;> rfl
theorem encR_one (x : RX) : ∀ u ∈ encR x, u.oneCell' = true := by
  obtain ⟨r, s⟩ := x
  cases r with
  | no => exact recN_one _ _ _
  | lock => exact recN_one _ _ _
  | pool q => exact recP_one q
  | blk b => exact recL_one _ _ _ _ _ _ _ _ _ _ _ _
  | aff n a st => exact recA_one n a st
  | han n L => exact recH_one n _
  | nod n g => exact recN_one _ _ _
/-- The blocks in which a record's lists lie. -/
def ROwn (s : S4) (d : Nat) : Prop := (slV s.1).ownBlock = some d ∨ (slV s.2.1).ownBlock = some d ∨ (slV s.2.2.1).ownBlock = some d ∨ (slV s.2.2.2).ownBlock = some d
theorem noOwn {P : Prop} (d : Nat) (h : ROwn sNo4 d) : P := by
  rcases h with h | h | h | h <;> cases h
theorem ROk.keep {w w' : World} {x : RX} (h : ROk w x) (hb : ∀ d, ROwn x.2 d → d < w.heap.size → w'.heap[d]? = w.heap[d]?) : ROk w' x := by
  obtain ⟨r, s⟩ := x
  cases r with
  | blk b => exact ⟨SeesG.keep h.slots (fun d hd => hb d (Or.inl hd)), SeesG.keep h.free (fun d hd => hb d (Or.inr (Or.inl hd))), SeesG.keep h.attrs (fun d hd => hb d (Or.inr (Or.inr (Or.inl hd))))⟩
  | han n L => exact HN.SeesC.keep h (fun d hd => hb d (Or.inr (Or.inr (Or.inr hd))))
  | _ => trivial
def RdPost (w : World) (r : DR) (e : Ending) (w' : World) : Prop := ∃ s : S4, e = .returned (.agg (encR (r, s)).toArray) ∧ ROk w' (r, s) ∧ (∀ d, ROwn s d → w.heap.size ≤ d ∧ d < w'.heap.size) ∧ Below w.heap.size w w'
theorem netV_form2 (o : Option (Int × Int)) : ∃ A B kb, dnetV o = .tuple #[.agg #[.int .u32 A, .int .i64 B], .bool kb] ∧ (kb = true → o = some (A, B)) ∧ (kb = false → o = none) := by
  cases o with
  | none => exact ⟨0, 0, false, rfl, (fun h => by cases h), (fun _ => rfl)⟩
  | some p => exact ⟨p.1, p.2, true, rfl, (fun _ => rfl), (fun h => by cases h)⟩
theorem notLock {k p : ByteArray} (h : NM.starts k p = true) {c : UInt8} {t : List UInt8} (hp : p.data.toList = c :: t) (hc : c ≠ 108) : (k.toList == [108, 111, 99, 107]) = false := by
  have h1 := NM.head_of h hp
  rw [ByteArray.toList_eq]
  cases hk : k.data.toList with
  | nil => rfl
  | cons d u =>
    rw [hk] at h1
    obtain rfl : d = c := Option.some.inj h1
    show (d == 108 && _) = false
    have : (d == 108) = false := by simpa using hc
    rw [this, Bool.false_and]
abbrev plD (a b : Int) (v : ByteArray) : Option Bool := if RC.rightB a b = true then (if strOfNums (RC.poolL a b false) = v then some false else if strOfNums (RC.poolL a b true) = v then some true else none) else none
def rdPl (k v : ByteArray) : DR := match dnet (NM.rest k NM.pPool).data.toList with
  | some p => (match plD p.1 p.2 v with
    | some o => .pool (p.1, p.2, o)
    | none => .no)
  | none => .no
structure PL (w wr : World) (gn gb : Nat) (A B : Int) : Prop where
  res : Below w.heap.size w wr ∧ At wr w.heap.size TRec recZ
  net : wr.heap[gn]? = some (.cells #[.int .u32 A, .int .i64 B] 43 (0, 0))
  row : wr.heap[gb]? = some (.cells #[.bool false, .bool true] 4 (0, 0))
theorem PL.below {w wr w' : World} {gn gb : Nat} {A B : Int} (h : PL w wr gn gb A B) (hb : Below wr.heap.size wr w') : PL w w' gn gb A B :=
  ⟨⟨bel h.res.1 hb, (hb.block _ (heap_lt h.res.2)).trans h.res.2⟩, (hb.block _ (heap_lt h.net)).trans h.net, (hb.block _ (heap_lt h.row)).trans h.row⟩
theorem PL.start {w w5 : World} {gn : Nat} {A B : Int} (h : Below w.heap.size w w5 ∧ At w5 w.heap.size TRec recZ) (hn : w5.heap[gn]? = some (.cells #[.int .u32 A, .int .i64 B] 43 (0, 0))) : PL w (w5.alloc (.cells #[.bool false, .bool true] 4)) gn w5.heap.size A B :=
  ⟨⟨bel h.1 (belNew w5 _), ((belNew w5 _).block _ (heap_lt h.2)).trans h.2⟩, ((belNew w5 _).block _ (heap_lt hn)).trans hn, heap_alloc_new w5 _⟩
theorem PL.cells {w wr : World} {gn gb : Nat} {A B : Int} (h : PL w wr gn gb A B) : wr.cell? ⟨gn, 0, none⟩ = some (.int .u32 A) ∧ wr.cell? ⟨gn, 1, none⟩ = some (.int .i64 B) ∧ wr.cell? ⟨gb, 0, none⟩ = some (.bool false) ∧ wr.cell? ⟨gb, 1, none⟩ = some (.bool true) := by
  have h1 := h.net
  have h2 := h.row
  refine ⟨?_, ?_, ?_, ?_⟩ <;> simp [World.cell?, h1, h2]
set_option maxRecDepth 100000 in
set_option maxHeartbeats 16000000 in
theorem refReadLk_any (k val : ByteArray) (w : World) (h : lockB k val = true) :
    Calls Tryz.prog 26 #[.string k, .string val] w (RdPost w .lock) := by
  unfold lockB at h
  rw [Bool.and_eq_true] at h
  obtain ⟨d0, d1⟩ := h
  obtain ⟨W, hW⟩ : ∃ W, W = w.alloc (.cells recZ.toArray TRec) := ⟨_, rfl⟩
  have hb0 : Below w.heap.size w W := by rw [hW]; exact belNew w _
  have hR : At W w.heap.size TRec recZ := by rw [hW]; exact heap_alloc_new w _
  have HW := Lib.hid hW
  have HX := Lib.hid (And.intro hb0 hR)
  clear hW hb0 hR
  go_enter Tryz.func26, Tryz.ntmps26
  go_upto_region 1 with fail
  change Code.wp _ _ _ _ (w.alloc (.cells recZ.toArray TRec))
  rw [← HW.out]
  clear HW
  go_wp2_with (refine wpStG (T := TRec) (L0 := recZ) (L := recN 6 ⟨#[]⟩ false) rfl _ _ rfl rfl rfl HX.out.2 (n := 14) rfl rfl infoRec (recN_one _ _ _) ?_; intro w7 hx7 hg7)
  refine bodyPost_ret (resB1 Tryz.results26 rfl (At.load hx7 (n := 14) rfl infoRec Tryz.underlying52)) rfl ⟨sNo4, rfl, trivial, (fun d h => noOwn d h), HX.out.1.grown hg7 HX.out.1.size (fun k hk => by cases hk; exact Nat.le_refl _)⟩
set_option maxRecDepth 100000 in
set_option maxHeartbeats 16000000 in
theorem refReadPl_any (k val : ByteArray) (w : World) (hk : k.size ≤ 590) (hP : NM.starts k NM.pPool = true) :
    Calls Tryz.prog 26 #[.string k, .string val] w (RdPost w (rdPl k val)) := by
  have hkm : k.size ≤ maxLen := Nat.le_trans hk (by decide)
  have HB1 := Lib.hid (fun w => refBehind_any k NM.pPool w hkm (by decide))
  rw [hP, if_pos rfl] at HB1
  have hrk : (NM.rest k NM.pPool).size ≤ 590 := Nat.le_trans (NM.rest_size k NM.pPool) hk
  have d0 := notLock hP rfl (by decide)
  obtain ⟨W, hW⟩ : ∃ W, W = w.alloc (.cells recZ.toArray TRec) := ⟨_, rfl⟩
  have hb0 : Below w.heap.size w W := by rw [hW]; exact belNew w _
  have hR : At W w.heap.size TRec recZ := by rw [hW]; exact heap_alloc_new w _
  have HW := Lib.hid hW
  have H0 := Lib.hid (And.intro hb0 hR)
  clear hW hb0 hR hkm
  have HN := Lib.hid (fun w => refNetV_any (NM.rest k NM.pPool) w (by omega))
  obtain ⟨R, hR⟩ : ∃ R, R = rdPl k val := ⟨_, rfl⟩
  rw [← hR]
  have HR : Hid (R = match dnet (NM.rest k NM.pPool).data.toList with | some p => (match plD p.1 p.2 val with | some o => .pool (p.1, p.2, o) | none => .no) | none => .no) := Lib.hid hR
  obtain ⟨A, B, kb, hV, hV1, hV2⟩ := netV_form2 (dnet (NM.rest k NM.pPool).data.toList)
  rw [hV] at HN
  have HV := Lib.hid (And.intro hV1 hV2)
  have HBD : Hid (kb = true → 0 ≤ A ∧ A < 4294967296 ∧ 0 ≤ B ∧ B ≤ 32) := Lib.hid (fun h => by
    have e := hV1 h
    rw [dnet_eq] at e
    have := NM.rnet_some e
    have hbo := this.1
    unfold NM.mayB NM.bitsOk at hbo
    simp only [Bool.and_eq_true, decide_eq_true_eq] at hbo
    exact ⟨this.2.2.1, this.2.2.2, hbo.1⟩)
  clear hR hP hk hrk hV hV1 hV2
  generalize NM.rest k NM.pPool = rs at *
  go_enter Tryz.func26, Tryz.ntmps26
  go_upto_region 1 with fail
  change Code.wp _ _ _ _ (w.alloc (.cells recZ.toArray TRec))
  rw [← HW.out]
  clear HW
  go_wp2_with fail
  refine (HB1.out _).mono ?_; rintro e w1 ⟨rfl, hb1⟩
  have HQ := Lib.hid hb1
  clear hb1
  have HX := Lib.hid (And.intro (bel H0.out.1 HQ.out) ((HQ.out.block _ (heap_lt H0.out.2)).trans H0.out.2))
  clear HQ H0
  go_wp2_with fail
  refine (HN.out _).mono ?_; rintro e wn ⟨rfl, hbn⟩
  have hb5 := bel hbn (belNew wn (netRO A B))
  have hn5 : (wn.alloc (netRO A B)).heap[wn.heap.size]? = some (.cells #[.int .u32 A, .int .i64 B] 43 (0, 0)) := heap_alloc_new wn _
  have HX5 := Lib.hid (And.intro (bel HX.out.1 hb5) ((hb5.block _ (heap_lt HX.out.2)).trans HX.out.2))
  go_upto_region 6 with fail
  obtain ⟨w5, hw5⟩ : ∃ w5, w5 = wn.alloc (netRO A B) := ⟨_, rfl⟩
  rw [← hw5] at HX5 hn5 ⊢
  obtain ⟨gn, hgn⟩ : ∃ gn, gn = wn.heap.size := ⟨_, rfl⟩
  rw [← hgn] at hn5 ⊢
  have HN5 := Lib.hid hn5
  clear hgn hw5 hbn hb5 hn5 HN HX
  go_upto_region 7 with fail
  obtain ⟨wr, hwr⟩ : ∃ wr, wr = w5.alloc (.cells #[.bool false, .bool true] 4) := ⟨_, rfl⟩
  have HPL : Hid (PL w wr gn w5.heap.size A B) := Lib.hid (by rw [hwr]; exact PL.start HX5.out HN5.out)
  rw [← hwr]
  obtain ⟨gb, hgb⟩ : ∃ gb, gb = w5.heap.size := ⟨_, rfl⟩
  rw [← hgb] at HPL ⊢
  clear hwr hgb HX5 HN5
  refine wp_loop_rounds 3 ?_
  cases kb with
  | false =>
    obtain rfl : R = .no := by rw [HR.out, HV.out.2 rfl]
    clear HV HR HBD
    rw [rounds_succ]
    obtain ⟨n0, n1, b0, b1⟩ := HPL.out.cells
    have hpn := heap_alloc_new wr (.cells #[.int .u32 A, .int .i64 B, .bool false] 45)
    have hpl := HPL.out.below (belNew wr (.cells #[.int .u32 A, .int .i64 B, .bool false] 45))
    go_upto_region 10 with fail
    obtain ⟨wq, hwq⟩ : ∃ wq, wq = wr.alloc (.cells #[.int .u32 A, .int .i64 B, .bool false] 45) := ⟨_, rfl⟩
    rw [← hwq] at hpn hpl ⊢
    obtain ⟨gp, hgp⟩ : ∃ gp, gp = wr.heap.size := ⟨_, rfl⟩
    rw [← hgp] at hpn ⊢
    have HPL := Lib.hid hpl
    have HPN := Lib.hid hpn
    clear hwq hgp hpl hpn n0 n1 b0 b1
    obtain ⟨p0, p1, p2⟩ := cell3 HPN.out
    obtain ⟨wr, hwr⟩ : ∃ wr, wr = wq := ⟨_, rfl⟩
    subst hwr
    go_wp2_with fail
    clear p0 p1 p2
    rw [rounds_succ]
    obtain ⟨n0, n1, b0, b1⟩ := HPL.out.cells
    have hpn := heap_alloc_new wr (.cells #[.int .u32 A, .int .i64 B, .bool true] 45)
    have hpl := HPL.out.below (belNew wr (.cells #[.int .u32 A, .int .i64 B, .bool true] 45))
    go_upto_region 10 with fail
    obtain ⟨wq, hwq⟩ : ∃ wq, wq = wr.alloc (.cells #[.int .u32 A, .int .i64 B, .bool true] 45) := ⟨_, rfl⟩
    rw [← hwq] at hpn hpl ⊢
    obtain ⟨gp, hgp⟩ : ∃ gp, gp = wr.heap.size := ⟨_, rfl⟩
    rw [← hgp] at hpn ⊢
    have HPL := Lib.hid hpl
    have HPN := Lib.hid hpn
    clear hwq hgp hpl hpn n0 n1 b0 b1
    obtain ⟨p0, p1, p2⟩ := cell3 HPN.out
    obtain ⟨wr, hwr⟩ : ∃ wr, wr = wq := ⟨_, rfl⟩
    subst hwr
    go_wp2_with fail
    clear p0 p1 p2
    rw [rounds_succ]
    have HX := Lib.hid HPL.out.res
    go_wp2_with (refine wpStG (T := TRec) (L0 := recZ) (L := recZ) rfl _ _ rfl rfl rfl HX.out.2 (n := 14) rfl rfl infoRec (recN_one _ _ _) ?_; intro w7 hx7 hg7)
    refine bodyPost_ret (resB1 Tryz.results26 rfl (At.load hx7 (n := 14) rfl infoRec Tryz.underlying52)) rfl ⟨sNo4, rfl, trivial, (fun d h => noOwn d h), HX.out.1.grown hg7 HX.out.1.size (fun k hk => by cases hk; exact Nat.le_refl _)⟩
  | true =>
    have HRE : Hid (R = match plD A B val with | some o => .pool (A, B, o) | none => .no) := Lib.hid (by rw [HR.out, HV.out.1 rfl])
    obtain ⟨ha, ha', hb, hb'⟩ := HBD.out rfl
    have HRT := Lib.hid (fun o w => RC.refRight13_any A B o ha ha' (by omega) (by omega) w)
    have HPT := Lib.hid (fun o w => RC.refPut13_any A B o ha ha' hb (by omega) w)
    clear HV HR HBD ha ha' hb hb'
    cases hrt : RC.rightB A B with
    | false =>
      rw [hrt] at HRT
      obtain rfl : R = .no := by rw [HRE.out]; unfold plD; rw [hrt]; rfl
      clear hrt HRE HPT
      rw [rounds_succ]
      obtain ⟨n0, n1, b0, b1⟩ := HPL.out.cells
      have hpn := heap_alloc_new wr (.cells #[.int .u32 A, .int .i64 B, .bool false] 45)
      have hpl := HPL.out.below (belNew wr (.cells #[.int .u32 A, .int .i64 B, .bool false] 45))
      go_upto_region 10 with fail
      obtain ⟨wq, hwq⟩ : ∃ wq, wq = wr.alloc (.cells #[.int .u32 A, .int .i64 B, .bool false] 45) := ⟨_, rfl⟩
      rw [← hwq] at hpn hpl ⊢
      obtain ⟨gp, hgp⟩ : ∃ gp, gp = wr.heap.size := ⟨_, rfl⟩
      rw [← hgp] at hpn ⊢
      have HPL := Lib.hid hpl
      have HPN := Lib.hid hpn
      clear hwq hgp hpl hpn n0 n1 b0 b1
      obtain ⟨p0, p1, p2⟩ := cell3 HPN.out
      obtain ⟨wr, hwr⟩ : ∃ wr, wr = wq := ⟨_, rfl⟩
      subst hwr
      go_wp2_with fail
      refine (HRT.out false _).mono ?_; rintro e w8 ⟨rfl, hb8⟩
      have HPL := Lib.hid (HPL.out.below hb8)
      have HPN := Lib.hid ((hb8.block _ (heap_lt HPN.out)).trans HPN.out)
      clear hb8 p0 p1 p2
      obtain ⟨p0, p1, p2⟩ := cell3 HPN.out
      obtain ⟨wr, hwr⟩ : ∃ wr, wr = w8 := ⟨_, rfl⟩
      subst hwr
      go_wp2_with fail
      clear p0 p1 p2
      rw [rounds_succ]
      obtain ⟨n0, n1, b0, b1⟩ := HPL.out.cells
      have hpn := heap_alloc_new wr (.cells #[.int .u32 A, .int .i64 B, .bool true] 45)
      have hpl := HPL.out.below (belNew wr (.cells #[.int .u32 A, .int .i64 B, .bool true] 45))
      go_upto_region 10 with fail
      obtain ⟨wq, hwq⟩ : ∃ wq, wq = wr.alloc (.cells #[.int .u32 A, .int .i64 B, .bool true] 45) := ⟨_, rfl⟩
      rw [← hwq] at hpn hpl ⊢
      obtain ⟨gp, hgp⟩ : ∃ gp, gp = wr.heap.size := ⟨_, rfl⟩
      rw [← hgp] at hpn ⊢
      have HPL := Lib.hid hpl
      have HPN := Lib.hid hpn
      clear hwq hgp hpl hpn n0 n1 b0 b1
      obtain ⟨p0, p1, p2⟩ := cell3 HPN.out
      obtain ⟨wr, hwr⟩ : ∃ wr, wr = wq := ⟨_, rfl⟩
      subst hwr
      go_wp2_with fail
      refine (HRT.out true _).mono ?_; rintro e w8 ⟨rfl, hb8⟩
      have HPL := Lib.hid (HPL.out.below hb8)
      have HPN := Lib.hid ((hb8.block _ (heap_lt HPN.out)).trans HPN.out)
      clear hb8 p0 p1 p2
      obtain ⟨p0, p1, p2⟩ := cell3 HPN.out
      obtain ⟨wr, hwr⟩ : ∃ wr, wr = w8 := ⟨_, rfl⟩
      subst hwr
      go_wp2_with fail
      clear p0 p1 p2
      rw [rounds_succ]
      have HX := Lib.hid HPL.out.res
      go_wp2_with (refine wpStG (T := TRec) (L0 := recZ) (L := recZ) rfl _ _ rfl rfl rfl HX.out.2 (n := 14) rfl rfl infoRec (recN_one _ _ _) ?_; intro w7 hx7 hg7)
      refine bodyPost_ret (resB1 Tryz.results26 rfl (At.load hx7 (n := 14) rfl infoRec Tryz.underlying52)) rfl ⟨sNo4, rfl, trivial, (fun d h => noOwn d h), HX.out.1.grown hg7 HX.out.1.size (fun k hk => by cases hk; exact Nat.le_refl _)⟩
    | true =>
      rw [hrt] at HRT
      have HRF : Hid (R = match (if strOfNums (RC.poolL A B false) = val then some false else if strOfNums (RC.poolL A B true) = val then some true else none) with | some o => .pool (A, B, o) | none => .no) := Lib.hid (by rw [HRE.out]; unfold plD; rw [hrt]; rfl)
      clear hrt HRE
      have HPT0 := Lib.hid (HPT.out false)
      have HPT1 := Lib.hid (HPT.out true)
      clear HPT
      have e0 := bt_eq (strOfNums (RC.poolL A B false)) val
      have e1 := bt_eq (strOfNums (RC.poolL A B true)) val
      generalize strOfNums (RC.poolL A B false) = s0 at *
      generalize strOfNums (RC.poolL A B true) = s1 at *
      have HE := Lib.hid (And.intro e0 e1)
      clear e0 e1
      generalize hq0 : (s0.toList == val.toList) = q0 at *
      generalize hq1 : (s1.toList == val.toList) = q1 at *
      rw [rounds_succ]
      obtain ⟨n0, n1, b0, b1⟩ := HPL.out.cells
      have hpn := heap_alloc_new wr (.cells #[.int .u32 A, .int .i64 B, .bool false] 45)
      have hpl := HPL.out.below (belNew wr (.cells #[.int .u32 A, .int .i64 B, .bool false] 45))
      go_upto_region 10 with fail
      obtain ⟨wq, hwq⟩ : ∃ wq, wq = wr.alloc (.cells #[.int .u32 A, .int .i64 B, .bool false] 45) := ⟨_, rfl⟩
      rw [← hwq] at hpn hpl ⊢
      obtain ⟨gp, hgp⟩ : ∃ gp, gp = wr.heap.size := ⟨_, rfl⟩
      rw [← hgp] at hpn ⊢
      have HPL := Lib.hid hpl
      have HPN := Lib.hid hpn
      clear hwq hgp hpl hpn n0 n1 b0 b1
      obtain ⟨p0, p1, p2⟩ := cell3 HPN.out
      obtain ⟨wr, hwr⟩ : ∃ wr, wr = wq := ⟨_, rfl⟩
      subst hwr
      go_wp2_with fail
      refine (HRT.out false _).mono ?_; rintro e w8 ⟨rfl, hb8⟩
      have HPL := Lib.hid (HPL.out.below hb8)
      have HPN := Lib.hid ((hb8.block _ (heap_lt HPN.out)).trans HPN.out)
      clear hb8 p0 p1 p2
      obtain ⟨p0, p1, p2⟩ := cell3 HPN.out
      go_wp2_with fail
      refine (HPT0.out _).mono ?_; rintro e w9 ⟨rfl, hb9⟩
      have HPL := Lib.hid (HPL.out.below hb9)
      have HPN := Lib.hid ((hb9.block _ (heap_lt HPN.out)).trans HPN.out)
      clear hb9 p0 p1 p2
      obtain ⟨p0, p1, p2⟩ := cell3 HPN.out
      obtain ⟨wr, hwr⟩ : ∃ wr, wr = w9 := ⟨_, rfl⟩
      subst hwr
      cases q0 with
      | true =>
        obtain rfl : R = .pool (A, B, false) := by rw [HRF.out, if_pos (of_decide_eq_true HE.out.1.symm)]
        clear HRF HE
        obtain ⟨p0, p1, p2⟩ := cell3 HPN.out
        have HX := Lib.hid HPL.out.res
        go_wp2_with (refine wpStG (T := TRec) (L0 := recZ) (L := recP (A, B, false)) rfl _ _ rfl rfl rfl HX.out.2 (n := 14) rfl rfl infoRec (recP_one _) ?_; intro w7 hx7 hg7)
        refine bodyPost_ret (resB1 Tryz.results26 rfl (At.load hx7 (n := 14) rfl infoRec Tryz.underlying52)) rfl ⟨sNo4, rfl, trivial, (fun d h => noOwn d h), HX.out.1.grown hg7 HX.out.1.size (fun k hk => by cases hk; exact Nat.le_refl _)⟩
      | false =>
        go_wp2_with fail
        clear p0 p1 p2
        rw [rounds_succ]
        obtain ⟨n0, n1, b0, b1⟩ := HPL.out.cells
        have hpn := heap_alloc_new wr (.cells #[.int .u32 A, .int .i64 B, .bool true] 45)
        have hpl := HPL.out.below (belNew wr (.cells #[.int .u32 A, .int .i64 B, .bool true] 45))
        go_upto_region 10 with fail
        obtain ⟨wq, hwq⟩ : ∃ wq, wq = wr.alloc (.cells #[.int .u32 A, .int .i64 B, .bool true] 45) := ⟨_, rfl⟩
        rw [← hwq] at hpn hpl ⊢
        obtain ⟨gp, hgp⟩ : ∃ gp, gp = wr.heap.size := ⟨_, rfl⟩
        rw [← hgp] at hpn ⊢
        have HPL := Lib.hid hpl
        have HPN := Lib.hid hpn
        clear hwq hgp hpl hpn n0 n1 b0 b1
        obtain ⟨p0, p1, p2⟩ := cell3 HPN.out
        obtain ⟨wr, hwr⟩ : ∃ wr, wr = wq := ⟨_, rfl⟩
        subst hwr
        go_wp2_with fail
        refine (HRT.out true _).mono ?_; rintro e w8 ⟨rfl, hb8⟩
        have HPL := Lib.hid (HPL.out.below hb8)
        have HPN := Lib.hid ((hb8.block _ (heap_lt HPN.out)).trans HPN.out)
        clear hb8 p0 p1 p2
        obtain ⟨p0, p1, p2⟩ := cell3 HPN.out
        go_wp2_with fail
        refine (HPT1.out _).mono ?_; rintro e w9 ⟨rfl, hb9⟩
        have HPL := Lib.hid (HPL.out.below hb9)
        have HPN := Lib.hid ((hb9.block _ (heap_lt HPN.out)).trans HPN.out)
        clear hb9 p0 p1 p2
        obtain ⟨p0, p1, p2⟩ := cell3 HPN.out
        obtain ⟨wr, hwr⟩ : ∃ wr, wr = w9 := ⟨_, rfl⟩
        subst hwr
        cases q1 with
        | true =>
          obtain rfl : R = .pool (A, B, true) := by rw [HRF.out, if_neg (of_decide_eq_false HE.out.1.symm), if_pos (of_decide_eq_true HE.out.2.symm)]
          clear HRF HE
          obtain ⟨p0, p1, p2⟩ := cell3 HPN.out
          have HX := Lib.hid HPL.out.res
          go_wp2_with (refine wpStG (T := TRec) (L0 := recZ) (L := recP (A, B, true)) rfl _ _ rfl rfl rfl HX.out.2 (n := 14) rfl rfl infoRec (recP_one _) ?_; intro w7 hx7 hg7)
          refine bodyPost_ret (resB1 Tryz.results26 rfl (At.load hx7 (n := 14) rfl infoRec Tryz.underlying52)) rfl ⟨sNo4, rfl, trivial, (fun d h => noOwn d h), HX.out.1.grown hg7 HX.out.1.size (fun k hk => by cases hk; exact Nat.le_refl _)⟩
        | false =>
          obtain rfl : R = .no := by rw [HRF.out, if_neg (of_decide_eq_false HE.out.1.symm), if_neg (of_decide_eq_false HE.out.2.symm)]
          clear HRF HE
          go_wp2_with fail
          clear p0 p1 p2
          rw [rounds_succ]
          have HX := Lib.hid HPL.out.res
          go_wp2_with (refine wpStG (T := TRec) (L0 := recZ) (L := recZ) rfl _ _ rfl rfl rfl HX.out.2 (n := 14) rfl rfl infoRec (recN_one _ _ _) ?_; intro w7 hx7 hg7)
          refine bodyPost_ret (resB1 Tryz.results26 rfl (At.load hx7 (n := 14) rfl infoRec Tryz.underlying52)) rfl ⟨sNo4, rfl, trivial, (fun d h => noOwn d h), HX.out.1.grown hg7 HX.out.1.size (fun k hk => by cases hk; exact Nat.le_refl _)⟩
end Go.Proofs.YtiifbhiodegipaaGreatDoor
