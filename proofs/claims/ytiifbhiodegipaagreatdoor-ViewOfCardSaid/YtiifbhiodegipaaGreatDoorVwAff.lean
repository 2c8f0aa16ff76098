/- Package view: the records of affinities and of nodes are taken. -/
import Derived.Test.YtiifbhiodegipaaGreatDoorVwOf
import Derived.Test.YtiifbhiodegipaaGreatDoorNMd
import Derived.Test.YtiifbhiodegipaaGreatDoorRCb
namespace Go.Proofs.YtiifbhiodegipaaGreatDoor
open Go.RowKit Go.Maps
def affOf (k : ByteArray) : Option (ByteArray × Int) := match NM.rblk (NM.cutB (NM.rest k NM.pAff)).data.toList with
  | some a => if (NM.starts k NM.pAff && NM.okName (NM.cutN (NM.rest k NM.pAff)).data.toList) = true then some (NM.cutN (NM.rest k NM.pAff), a) else none
  | none => none
def affOfV (o : Option (ByteArray × Int)) : Value := match o with
  | some p => .tuple #[.string p.1, .int .u32 p.2, .bool true]
  | none => .tuple #[.string NM.em, .int .u32 0, .bool false]
theorem affOf_V (k : ByteArray) : NM.affV (NM.starts k NM.pAff) (NM.rblk (NM.cutB (NM.rest k NM.pAff)).data.toList) (NM.okName (NM.cutN (NM.rest k NM.pAff)).data.toList) (NM.cutN (NM.rest k NM.pAff)) = affOfV (affOf k) := by
  unfold affOf NM.affV
  cases NM.rblk (NM.cutB (NM.rest k NM.pAff)).data.toList with
  | none => rfl
  | some a =>
    simp only []
    split <;> rfl
theorem affOf_bd {k n : ByteArray} {a : Int} (hk : k.size ≤ 900) (h : affOf k = some (n, a)) : n.size ≤ maxLen ∧ (Lit.int .u32 a).wf = true := by
  unfold affOf at h
  cases hr : NM.rblk (NM.cutB (NM.rest k NM.pAff)).data.toList with
  | none => rw [hr] at h; cases h
  | some b =>
    rw [hr] at h
    simp only [] at h
    split at h
    · obtain ⟨rfl, rfl⟩ : NM.cutN (NM.rest k NM.pAff) = n ∧ b = a := by
        have := Option.some.inj h
        exact ⟨congrArg Prod.fst this, congrArg Prod.snd this⟩
      obtain ⟨_, _, h0, h1⟩ := NM.rblk_some hr
      refine ⟨?_, Go.WalkArith.wf_u32 ⟨h0, by omega⟩⟩
      show (NM.cutN _).size ≤ _
      unfold NM.cutN
      rw [NM.size_mk]
      have h2 := NM.cut_le1 (NM.rest k NM.pAff).data.toList NM.slash.data.toList
      have h3 := NM.rest_size k NM.pAff
      have h4 : (NM.rest k NM.pAff).data.toList.length = (NM.rest k NM.pAff).size := by rw [Array.length_toList, ByteArray.size_data]
      have h5 : (900 : Nat) ≤ maxLen := by decide
      omega
    · cases h
def affRd (v : ByteArray) : Option Int := if RC.affB v = true then some (RC.a1 v).1 else none
def affRdV (o : Option Int) : Value := match o with
  | some q => .tuple #[.int .i64 q, .int .i64 0]
  | none => .tuple #[.int .i64 0, .int .i64 3]
theorem affRd_V (v : ByteArray) : (if RC.affB v = true then (.tuple #[.int .i64 (RC.a1 v).1, .int .i64 0] : Value) else .tuple #[.int .i64 0, .int .i64 3]) = affRdV (affRd v) := by
  unfold affRd
  split <;> rfl
/-- What an item of an affinity comes to. -/
def tkA (k v : ByteArray) (s : VwS) : Option VwS := match affOf k with
  | none => none
  | some n => match affRd v with
    | none => none
    | some q => some { s with affs := VM.putE (.string (keyF n.1 n.2)) (.int .i64 q) s.affs }
abbrev TAffM : TypeId := 26
set_option maxRecDepth 100000 in
set_option maxHeartbeats 8000000 in
theorem takeAff_any (k v : ByteArray) (r : Int) (B g c : Nat) (p : VwP) (s : VwS) (w : World) (h : VwIs w B g c p s) (hE : NM.Env w) (hk : k.size ≤ 900) (hv : v.size ≤ 1000) (hc : c ≤ 1000000) :
    Calls Tryz.prog 58 #[.pointer (some ⟨g, 0, none⟩), itA k v r] w (TkPost w B g c p (tkA k v s)) := by
  obtain ⟨W, hW⟩ : ∃ W, W = w.alloc (itO k v r) := ⟨_, rfl⟩
  have hb0 := belNew w (itO k v r)
  have hI := It3.new w k v r
  rw [← hW] at hb0 hI
  have HO := Lib.hid (NM.ofAff_any k W (hE.below hb0) hk)
  rw [affOf_V] at HO
  have HR := Lib.hid (fun w => RC.readAff_any v w hv)
  rw [affRd_V] at HR
  have HW := Lib.hid hW
  have HX := Lib.hid (And.intro h hc)
  have HB := Lib.hid (fun n (e : affOf k = some n) => affOf_bd hk (show affOf k = some (n.1, n.2) from e))
  clear hW h hE hc
  unfold tkA
  generalize affOf k = o1 at *
  generalize affRd v = o2 at *
  cases o1 with
  | none =>
    simp only [affOfV] at HO ⊢
    clear HR HB
    go_enter Tryz.func58, Tryz.ntmps58
    go_upto_region 1 with fail
    change Code.wp _ _ _ _ (w.alloc (itO k v r))
    rw [← HW.out]
    obtain ⟨c0, c1, c2, c3⟩ := id hI
    go_wp2_with fail
    refine HO.out.mono ?_; rintro e w1 ⟨rfl, hb1⟩
    go_wp2_with fail
    go_ret
    exact ⟨rfl, bel hb0 hb1⟩
  | some n =>
    obtain ⟨nn, na⟩ := n
    have hB := HB.out (nn, na) rfl
    have HKY := Lib.hid (keyAf hB.1 hB.2)
    clear HB hB
    simp only [affOfV] at HO ⊢
    cases o2 with
    | none =>
      simp only [affRdV] at HR ⊢
      go_enter Tryz.func58, Tryz.ntmps58
      go_upto_region 1 with fail
      change Code.wp _ _ _ _ (w.alloc (itO k v r))
      rw [← HW.out]
      obtain ⟨c0, c1, c2, c3⟩ := id hI
      go_wp2_with fail
      refine HO.out.mono ?_; rintro e w1 ⟨rfl, hb1⟩
      obtain ⟨x0, x1, x2, x3⟩ := id (hI.keep hb1)
      have hb2 := bel hb0 hb1
      clear c0 c1 c2 c3
      go_wp2_with fail
      refine (HR.out _).mono ?_; rintro e w2 ⟨rfl, hb3⟩
      go_wp2_with fail
      go_ret
      exact ⟨rfl, bel hb2 hb3⟩
    | some q =>
      simp only [affRdV] at HR ⊢
      have HS := Lib.hid (rfl : VM.putE (.string (keyF nn na)) (.int .i64 q) s.affs = VM.putE (.string (keyF nn na)) (.int .i64 q) s.affs)
      go_enter Tryz.func58, Tryz.ntmps58
      go_upto_region 1 with fail
      change Code.wp _ _ _ _ (w.alloc (itO k v r))
      rw [← HW.out]
      obtain ⟨c0, c1, c2, c3⟩ := id hI
      go_wp2_with fail
      refine HO.out.mono ?_; rintro e w1 ⟨rfl, hb1⟩
      obtain ⟨x0, x1, x2, x3⟩ := id (hI.keep hb1)
      have hb2 := bel hb0 hb1
      clear c0 c1 c2 c3
      go_wp2_with fail
      refine (HR.out _).mono ?_; rintro e w2 ⟨rfl, hb3⟩
      have hb5 := bel hb2 hb3
      have hV4 := HX.out.1.below hb5
      obtain ⟨pv, bv, ma, mh, mn, X, HH⟩ := p
      obtain ⟨z0, z1, z2, z3, z4⟩ := hV4.cell
      obtain ⟨n0, hn0, hM⟩ := hV4.affs
      have HV4 := Lib.hid (And.intro hV4 (And.intro hb5 (And.intro hn0 (And.intro hM HX.out.2))))
      clear hV4 hn0 hM hb5 hb3 hb2 x0 x1 x2 x3 HX
      go_wp2_with (first
        | (at_mapUpdate; refine map_put TAffM TAff 3 keyedAf Tryz.underlying26 rfl (.tmp 30) (.tmp 33) (.tmp 34) rfl ma n0 s.affs rfl HV4.out.2.2.2.1 (by have := HV4.out.2.2.1; have := HV4.out.2.2.2.2; unfold maxLen; omega) (affKV nn na) (.int .i64 q) _ rfl rfl HKY.out ?_; intro w5 hm5 hg5; have HM5 := Lib.hid hm5; have HG5 := Lib.hid hg5; clear hm5 hg5)
        | go_in)
      go_ret
      exact ⟨rfl, (HV4.out.1.putA HM5.out (by have := HV4.out.2.2.1; omega) HG5.out).of_below HV4.out.2.1⟩
def nodOf (k : ByteArray) : Bool := NM.starts k NM.pNod && NM.okName (NM.rest k NM.pNod).data.toList
def nodRd (v : ByteArray) : Option Bool := if RC.nodeB v = true then some ((RC.v1 v).1 == 1) else none
def nodRdV (o : Option Bool) : Value := match o with
  | some q => .tuple #[.bool q, .int .i64 0]
  | none => .tuple #[.bool false, .int .i64 3]
theorem nodRd_V (v : ByteArray) : (if RC.nodeB v = true then (.tuple #[.bool ((RC.v1 v).1 == 1), .int .i64 0] : Value) else .tuple #[.bool false, .int .i64 3]) = nodRdV (nodRd v) := by
  unfold nodRd
  split <;> rfl
/-- What an item of a node comes to. -/
def tkN (k v : ByteArray) (s : VwS) : Option VwS := if nodOf k = true then match nodRd v with
    | none => none
    | some q => some { s with nods := VM.putE (keyL (NM.rest k NM.pNod)) (.bool q) s.nods }
  else none
abbrev TNodM : TypeId := 28
theorem rest_le {k p : ByteArray} (hk : k.size ≤ 900) : (NM.rest k p).size ≤ maxLen := Nat.le_trans (NM.rest_size k p) (by unfold maxLen; omega)
set_option maxRecDepth 100000 in
set_option maxHeartbeats 8000000 in
theorem takeNode_any (k v : ByteArray) (r : Int) (B g c : Nat) (p : VwP) (s : VwS) (w : World) (h : VwIs w B g c p s) (hk : k.size ≤ 900) (hv : v.size ≤ 1000) (hc : c ≤ 1000000) :
    Calls Tryz.prog 60 #[.pointer (some ⟨g, 0, none⟩), itA k v r] w (TkPost w B g c p (tkN k v s)) := by
  obtain ⟨W, hW⟩ : ∃ W, W = w.alloc (itO k v r) := ⟨_, rfl⟩
  have hb0 := belNew w (itO k v r)
  have hI := It3.new w k v r
  rw [← hW] at hb0 hI
  have HO := Lib.hid (NM.ofNode_any k (by unfold maxLen; omega) W)
  have hno : (NM.starts k NM.pNod && NM.okName (NM.rest k NM.pNod).data.toList) = nodOf k := rfl
  rw [hno] at HO
  have HR := Lib.hid (fun w => RC.readNode_any v w hv)
  rw [nodRd_V] at HR
  have HW := Lib.hid hW
  have HX := Lib.hid (And.intro h hc)
  have HKY := Lib.hid (keyStr (rest_le (p := NM.pNod) hk))
  clear hno hW h hc
  unfold tkN
  generalize nodOf k = o1 at *
  generalize nodRd v = o2 at *
  generalize NM.rest k NM.pNod = nn at *
  cases o1 with
  | false =>
    rw [if_neg (by simp)] at HO ⊢
    clear HR HKY
    go_enter Tryz.func60, Tryz.ntmps60
    go_upto_region 1 with fail
    change Code.wp _ _ _ _ (w.alloc (itO k v r))
    rw [← HW.out]
    obtain ⟨c0, c1, c2, c3⟩ := id hI
    go_wp2_with fail
    refine HO.out.mono ?_; rintro e w1 ⟨rfl, hb1⟩
    go_wp2_with fail
    go_ret
    exact ⟨rfl, bel hb0 hb1⟩
  | true =>
    rw [if_pos rfl] at HO ⊢
    cases o2 with
    | none =>
      simp only [nodRdV] at HR ⊢
      go_enter Tryz.func60, Tryz.ntmps60
      go_upto_region 1 with fail
      change Code.wp _ _ _ _ (w.alloc (itO k v r))
      rw [← HW.out]
      obtain ⟨c0, c1, c2, c3⟩ := id hI
      go_wp2_with fail
      refine HO.out.mono ?_; rintro e w1 ⟨rfl, hb1⟩
      obtain ⟨x0, x1, x2, x3⟩ := id (hI.keep hb1)
      have hb2 := bel hb0 hb1
      clear c0 c1 c2 c3
      go_wp2_with fail
      refine (HR.out _).mono ?_; rintro e w2 ⟨rfl, hb3⟩
      go_wp2_with fail
      go_ret
      exact ⟨rfl, bel hb2 hb3⟩
    | some q =>
      simp only [nodRdV] at HR ⊢
      go_enter Tryz.func60, Tryz.ntmps60
      go_upto_region 1 with fail
      change Code.wp _ _ _ _ (w.alloc (itO k v r))
      rw [← HW.out]
      obtain ⟨c0, c1, c2, c3⟩ := id hI
      go_wp2_with fail
      refine HO.out.mono ?_; rintro e w1 ⟨rfl, hb1⟩
      obtain ⟨x0, x1, x2, x3⟩ := id (hI.keep hb1)
      have hb2 := bel hb0 hb1
      clear c0 c1 c2 c3
      go_wp2_with fail
      refine (HR.out _).mono ?_; rintro e w2 ⟨rfl, hb3⟩
      have hb5 := bel hb2 hb3
      have hV4 := HX.out.1.below hb5
      obtain ⟨pv, bv, ma, mh, mn, X, HH⟩ := p
      obtain ⟨z0, z1, z2, z3, z4⟩ := hV4.cell
      obtain ⟨n0, hn0, hM⟩ := hV4.nods
      have HV4 := Lib.hid (And.intro hV4 (And.intro hb5 (And.intro hn0 (And.intro hM HX.out.2))))
      clear hV4 hn0 hM hb5 hb3 hb2 x0 x1 x2 x3 HX
      go_wp2_with (first
        | (at_mapUpdate; refine map_put TNodM TStr 4 keyedStr Tryz.underlying28 rfl (.tmp 28) (.tmp 29) (.tmp 30) rfl mn n0 s.nods rfl HV4.out.2.2.2.1 (by have := HV4.out.2.2.1; have := HV4.out.2.2.2.2; unfold maxLen; omega) (.string nn) (.bool q) _ rfl rfl HKY.out ?_; intro w5 hm5 hg5; have HM5 := Lib.hid hm5; have HG5 := Lib.hid hg5; clear hm5 hg5)
        | go_in)
      go_ret
      exact ⟨rfl, (HV4.out.1.putN HM5.out (by have := HV4.out.2.2.1; omega) HG5.out).of_below HV4.out.2.1⟩
end Go.Proofs.YtiifbhiodegipaaGreatDoor
