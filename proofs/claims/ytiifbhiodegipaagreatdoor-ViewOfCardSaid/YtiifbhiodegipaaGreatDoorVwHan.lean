/- Package view: the record of a handle is taken. Made by g_vwhan.py. -/
import Derived.Test.YtiifbhiodegipaaGreatDoorSq
import Derived.Test.YtiifbhiodegipaaGreatDoorVwAff
import Derived.Test.YtiifbhiodegipaaGreatDoorHnReadO
namespace Go.Proofs.YtiifbhiodegipaaGreatDoor
open Go.RowKit Go.Maps
def hanOf (k : ByteArray) : Bool := NM.starts k NM.pHan && NM.okName (NM.rest k NM.pHan).data.toList
/-- What an item of a handle comes to. -/
def tkH (k v : ByteArray) (s : VwS) : Option VwS := if hanOf k = true then
    if HN.okHB v = true then some { s with hans := VM.putE (keyL (NM.rest k NM.pHan)) (HN.readR v).1 s.hans } else none
  else none
theorem hcell1 {w : World} {g : Nat} {x : Value} {t : TypeId} (h : w.heap[g]? = some (.cells #[x] t (0, 0))) : w.cell? ⟨g, 0, none⟩ = some x := by simp [World.cell?, h]
set_option maxRecDepth 100000 in
set_option maxHeartbeats 8000000 in
theorem takeHandle_any (k v : ByteArray) (r : Int) (B g c : Nat) (p : VwP) (s : VwS) (w : World) (h : VwIs w B g c p s) (hk : k.size ≤ 900) (hv : v.size ≤ 1000) (hc : c ≤ 1000000) :
    Calls Tryz.prog 59 #[.pointer (some ⟨g, 0, none⟩), itA k v r] w (TkPost w B g c p (tkH k v s)) := by
  obtain ⟨W, hW⟩ : ∃ W, W = w.alloc (itO k v r) := ⟨_, rfl⟩
  have hb0 := belNew w (itO k v r)
  have hI := It3.new w k v r
  rw [← hW] at hb0 hI
  have HO := Lib.hid (NM.ofHandle_any k (by unfold maxLen; omega) W)
  have hno : (NM.starts k NM.pHan && NM.okName (NM.rest k NM.pHan).data.toList) = hanOf k := rfl
  rw [hno] at HO
  have HR := Lib.hid (fun w => HN.hreadO_any v w hv)
  have HW := Lib.hid hW
  have HX := Lib.hid (And.intro h hc)
  have HKY := Lib.hid (keyStr (rest_le (p := NM.pHan) hk))
  clear hno hW h hc
  unfold tkH
  generalize hanOf k = o1 at *
  generalize HN.okHB v = o2 at *
  generalize (HN.readR v).1 = L at *
  generalize NM.rest k NM.pHan = nn at *
  cases o1 with
  | false =>
    rw [if_neg (by simp)] at HO ⊢
    clear HR HKY
    go_enter Tryz.func59, Tryz.ntmps59
    go_upto_region 1 with fail
    change Code.wp _ _ _ _ (w.alloc (itO k v r))
    rw [← HW.out]
    obtain ⟨c0, c1, c2, c3⟩ := id hI
    go_wp2_with fail
    refine HO.out.mono ?_; rintro e w1 ⟨rfl, hb1⟩
    go_wp2_with fail
    go_ret
    exact ⟨rfl, bel hb0 hb1⟩
  | true =>
    rw [if_pos rfl] at HO ⊢
    cases o2 with
    | false =>
      rw [if_neg (by simp)]
      have hrs : ∀ v', HN.resH false v' = .tuple #[.agg #[.slice none 0 0], .int .i64 3] := fun _ => rfl
      simp only [hrs] at HR
      clear hrs
      go_enter Tryz.func59, Tryz.ntmps59
      go_upto_region 1 with fail
      change Code.wp _ _ _ _ (w.alloc (itO k v r))
      rw [← HW.out]
      obtain ⟨c0, c1, c2, c3⟩ := id hI
      go_wp2_with fail
      refine HO.out.mono ?_; rintro e w1 ⟨rfl, hb1⟩
      obtain ⟨x0, x1, x2, x3⟩ := id (hI.keep hb1)
      have hb2 := bel hb0 hb1
      clear c0 c1 c2 c3
      go_wp2_with fail
      refine (HR.out _).mono ?_; rintro e w2 ⟨v', rfl, -, hb3, -⟩
      go_wp2_with fail
      go_ret
      exact ⟨rfl, bel (bel hb2 hb3) (belNew _ _)⟩
    | true =>
      rw [if_pos rfl]
      have hrs : ∀ v', HN.resH true v' = .tuple #[.agg #[v'], .int .i64 0] := fun _ => rfl
      simp only [hrs] at HR
      clear hrs
      have HS := Lib.hid (rfl : VM.putE (keyL nn) L s.hans = VM.putE (keyL nn) L s.hans)
      go_enter Tryz.func59, Tryz.ntmps59
      go_upto_region 1 with fail
      change Code.wp _ _ _ _ (w.alloc (itO k v r))
      rw [← HW.out]
      obtain ⟨c0, c1, c2, c3⟩ := id hI
      go_wp2_with fail
      refine HO.out.mono ?_; rintro e w1 ⟨rfl, hb1⟩
      obtain ⟨x0, x1, x2, x3⟩ := id (hI.keep hb1)
      have hb2 := bel hb0 hb1
      clear c0 c1 c2 c3
      go_wp2_with fail
      refine (HR.out _).mono ?_; rintro e w2 ⟨v', rfl, hs2, hb3, ho2⟩
      obtain ⟨ao, cc, rfl, -⟩ := id hs2
      generalize hNT : L.length = NT at *
      have HNT := Lib.hid hNT
      clear hNT
      have hb4 := belNew w2 (.cells #[.slice ao NT cc] 101)
      have hQ := heap_alloc_new w2 (.cells #[.slice ao NT cc] 101)
      have hb5 := bel (bel hb2 hb3) hb4
      have HZ := Lib.hid (And.intro (bel hb2 hb3).size (And.intro hs2 (And.intro ho2 (And.intro (bel hb0 hb1).size hb3.size))))
      clear hs2 ho2
      go_upto_region 5 with fail
      obtain ⟨w4, hw4⟩ : ∃ w4, w4 = w2.alloc (.cells #[.slice ao NT cc] 101) := ⟨_, rfl⟩
      rw [← hw4] at hb4 hb5 hQ ⊢
      have hV4 := HX.out.1.below hb5
      have hs4 := (show HN.SeesC w2 (.slice ao NT cc) L from HZ.out.2.1).keep (fun d _ hl => hb4.block d hl)
      have ho4 : ∀ d, (Value.slice ao NT cc).ownBlock = some d → w1.heap.size ≤ d ∧ d < w4.heap.size := fun d hd => ⟨(HZ.out.2.2.1 d hd).1, Nat.lt_of_lt_of_le (HZ.out.2.2.1 d hd).2 hb4.size⟩
      have ho5 : HOk w4 (g + 2) (p.In g) (.agg #[.slice ao NT cc]) L := ⟨(ao, NT, cc), rfl, hs4, fun d hd => ⟨by have h1 := (ho4 d hd).1; have h2 := HX.out.1.g1; have h3 := HZ.out.2.2.2.1; omega, (ho4 d hd).2, fun hi => by have h1 := (ho4 d hd).1; have h2 := (HX.out.1.bd d hi).2; have h3 := HZ.out.2.2.2.1; omega⟩⟩
      obtain ⟨pv, bv, ma, mh, mn, X, HH⟩ := p
      obtain ⟨n0, hn0, hM, -⟩ := hV4.hans
      have HV4 := Lib.hid (And.intro hV4 (And.intro hb5 (And.intro hn0 (And.intro hM (And.intro HX.out.2 ho5)))))
      have HLT := Lib.hid (fun d (hd : (⟨pv, bv, ma, mh, mn, X, HH⟩ : VwP).In g d) => (HX.out.1.bd d hd).2)
      clear hw4 hb4 hV4 hs4 ho4 ho5 hn0 hM x0 x1 x2 x3 HX hb5 hb3 hb2 hb1 hI hb0 HW HO HR
      go_upto_region 7 with fail
      refine wp_region_held_drew (S := (fun Y => Y.heap[g]? = some (.cells (vwL ⟨pv, bv, ma, mh, mn, X, HH⟩).toArray 30 (0, 0)) ∧ Y.heap[w2.heap.size]? = some (.cells #[.slice ao NT cc] 101 (0, 0)))) (by kernel_rfl) ?_ (fun r0 => ?_)
      · exact ⟨HV4.out.1.blk, hQ⟩
      obtain ⟨wd, hwd⟩ : ∃ wd, wd = w4.drew := ⟨_, rfl⟩
      rw [← hwd] at r0 ⊢
      have hbd : Below w4.heap.size w4 wd := by rw [hwd]; exact vdrew _
      have HD := Lib.hid (And.intro (HV4.out.1.below hbd) (And.intro (bel HV4.out.2.1 hbd) (And.intro (HV4.out.2.2.2.1.below hbd) (HV4.out.2.2.2.2.2.keep2 hbd.size (fun d _ hl _ => hbd.block d hl) (fun _ h _ => h)))))
      have HC := Lib.hid (And.intro HV4.out.2.2.1 HV4.out.2.2.2.2.1)
      clear hwd hbd hQ HV4
      refine tk 0 rfl ?_
      try simp only [Act.put, qA, qB, qC, qD, qE, qF]
      refine tk 1 rfl ?_
      try simp only [Act.put, qA, qB, qC, qD, qE, qF]
      refine tk 2 rfl ?_
      try simp only [Act.put, qA, qB, qC, qD, qE, qF]
      refine tq (v := ?_) 3 rfl ?_ ?_
      rotate_left
      · intro wS hSw
        (try dsimp only at hSw)
        obtain ⟨m0, m1, m2, m3, m4⟩ := vcells hSw.1
        go_simp
        first | done | with_reducible rfl
      try simp only [Act.put, qA, qB, qC, qD, qE, qF]
      refine tk 4 rfl ?_
      try simp only [Act.put, qA, qB, qC, qD, qE, qF]
      refine tq (v := ?_) 5 rfl ?_ ?_
      rotate_left
      · intro wS hSw
        (try dsimp only at hSw)
        have m0 := hcell1 hSw.2
        go_simp
        first | done | with_reducible rfl
      try simp only [Act.put, qA, qB, qC, qD, qE, qF]
      obtain ⟨w9, hrun9, hm9, hg9⟩ := HD.out.2.2.1.put keyedStr Tryz.underlying27 (by have := HC.out.1; have := HC.out.2; unfold maxLen; omega) HKY.out (.agg #[.slice ao NT cc])
      have hO := HD.out.1.putH hm9 HD.out.2.2.2 (by have := HC.out.1; omega) hg9
      have HO9 := Lib.hid hO
      have hS9 : w9.heap[g]? = some (.cells (vwL ⟨pv, bv, ma, mh, mn, X, HH⟩).toArray 30 (0, 0)) ∧ w9.heap[w2.heap.size]? = some (.cells #[.slice ao NT cc] 101 (0, 0)) := ⟨(hg9.block g (heap_lt r0.1) (fun e => HD.out.1.nd.gh (Option.some.inj e))).trans r0.1, (hg9.block _ (heap_lt r0.2) (fun e => by have h1 := HLT.out mh (Or.inr (Or.inr (Or.inl rfl))); have h2 : w2.heap.size = mh := Option.some.inj e; have h3 := HZ.out.2.2.2.1; have h4 := HZ.out.2.2.2.2; omega)).trans r0.2⟩
      clear hm9 hg9 hO
      refine wpAnyH_ready (rs := [6]) (by kernel_rfl) (by simp) ?_
      refine AllReadyH.cons rfl (fun K hK => ?_) AllReadyH.nil
      simp only [hrun9]
      go_simp
      refine hK.out _ _ ?_ (fun r3 => ?_)
      · exact hS9
      try simp only [Act.put, qA, qB, qC, qD, qE, qF]
      refine wpAnyH_done (by kernel_rfl) ?_ _
      go_wp2_with fail
      go_ret
      exact ⟨rfl, HO9.out.of_below HD.out.2.1⟩
end Go.Proofs.YtiifbhiodegipaaGreatDoor
namespace Go.Proofs.YtiifbhiodegipaaGreatDoor
open Go.RowKit
theorem nodRd_eq (v : ByteArray) : nodRd v = if v = ⟨#[78, 0]⟩ then some false else if v = ⟨#[78, 1]⟩ then some true else none := by
  unfold nodRd
  cases h : RC.nodeB v with
  | false =>
    obtain ⟨h0, h1⟩ := RC.node_no h
    rw [if_neg (by simp), if_neg h0, if_neg h1]
  | true =>
    have hb := RC.nodeB_back h
    rw [if_pos rfl]
    generalize ((RC.v1 v).1 == 1) = o at hb ⊢
    rw [RC.node_str] at hb
    subst hb
    cases o <;> rfl
theorem affRd_eq (v : ByteArray) : affRd v = if v = ⟨#[65, 1]⟩ then some 1 else if v = ⟨#[65, 2]⟩ then some 2 else if v = ⟨#[65, 3]⟩ then some 3 else none := by
  unfold affRd
  cases h : RC.affB v with
  | false =>
    obtain ⟨h1, h2, h3⟩ := RC.aff_no h
    rw [if_neg (by simp), if_neg h1, if_neg h2, if_neg h3]
  | true =>
    obtain ⟨hs, hb⟩ := RC.affB_back h
    rw [if_pos rfl]
    generalize (RC.a1 v).1 = x at hs hb ⊢
    have hx : x = 1 ∨ x = 2 ∨ x = 3 := by
      unfold RC.stB at hs
      simp at hs
      omega
    subst hb
    rcases hx with rfl | rfl | rfl <;> rfl
end Go.Proofs.YtiifbhiodegipaaGreatDoor
