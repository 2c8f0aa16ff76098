/- The document's view: Read of a block's key. -/
import Derived.Test.YtlbgjmnihenmaaaGreatDoorVwLaw
import Derived.Test.YtlbgjmnihenmaaaGreatDoorVwBh
import Derived.Test.YtlbgjmnihenmaaaGreatDoorVwDbW
import Derived.Test.YtlbgjmnihenmaaaGreatDoorVwBlk
import Derived.Test.YtlbgjmnihenmaaaGreatDoorVwG
namespace Go.Proofs.YtlbgjmnihenmaaaGreatDoor
open Go.RowKit
abbrev TRec : TypeId := 52
def recL (k : Int) (ba : Int) (bf : ByteArray) (v1 v2 v3 : Value) : List Value := [.int .i64 k, .string ⟨#[]⟩, .int .u32 0, .int .u32 0, .int .i64 0, .bool false, .int .u32 ba, .string bf, v1, v2, v3, .int .i64 0, NS, .bool false]
abbrev recV (k : Int) (ba : Int) (bf : ByteArray) (v1 v2 v3 : Value) : Value := .agg (recL k ba bf v1 v2 v3).toArray
theorem starts_app (p x : ByteArray) : NM.starts (p ++ x) p = true ∧ NM.rest (p ++ x) p = x := by
  have h : (p ++ x).data.toList = p.data.toList ++ x.data.toList := by rw [ByteArray.data_append, Array.toList_append]
  have h1 : NM.starts (p ++ x) p = true := by
    show Lib.hasPrefix (p ++ x).data.toList p.data.toList = true
    unfold Lib.hasPrefix
    rw [h]
    exact List.isPrefixOf_iff_prefix.2 (List.prefix_append _ _)
  refine ⟨h1, ?_⟩
  refine ByteArray.ext (Array.ext' ?_)
  show Lib.trimPrefix (p ++ x).data.toList p.data.toList = _
  unfold Lib.trimPrefix
  rw [if_pos h1, h]
  simp
theorem starts_blk (p x : ByteArray) (h : ∃ c t, p.data.toList = c :: t ∧ c ≠ 98) : NM.starts (NM.pBlk ++ x) p = false := by
  obtain ⟨c, t, hp, hc⟩ := h
  show Lib.hasPrefix (NM.pBlk ++ x).data.toList p.data.toList = false
  unfold Lib.hasPrefix
  rw [hp, ByteArray.data_append, Array.toList_append]
  show (c :: t).isPrefixOf (98 :: _) = false
  rw [List.isPrefixOf]
  have : (c == 98) = false := by simpa using hc
  rw [this, Bool.false_and]
theorem blOf_blk (b : Int) (hb : 0 ≤ b) (hb' : b < 4294967296) : blOf (NM.pBlk ++ blkS b) = some (b - b % 64) := by
  unfold blOf
  rw [(starts_app NM.pBlk (blkS b)).1, if_pos rfl, (starts_app NM.pBlk (blkS b)).2]
  exact NM.rblk_blk b hb hb'
theorem dnet_blk (b : Int) (hb : 0 ≤ b) (hb' : b < 4294967296) : dnet (blkS b).data.toList = some (b - b % 64, 26) := by
  show dnet (NM.blkTxt b) = _
  unfold NM.blkTxt
  exact dnet_key (by omega) (by omega) (NM.may_blk b hb hb')
theorem lock_no (x : ByteArray) : ((NM.pBlk ++ x).toList == [108, 111, 99, 107]) = false := by
  rw [ByteArray.toList_eq, ByteArray.data_append, Array.toList_append]
  show (98 :: _ == 108 :: _) = false
  rfl
def rdK (b : Int) (val : ByteArray) : Bool := imOk val && decide ((imC val).addr = b - b % 64)
abbrev netO' (a b : Int) : Obj := .cells #[.int .u32 a, .int .i64 b] 43
theorem infoRec : (Tryz.prog.info? TRec).map (·.size) = some 14 := by kernel_rfl
theorem recL_one (k ba : Int) (bf : ByteArray) (a1 a2 a3 : Option Addr) (n1 c1 n2 c2 n3 c3 : Nat) : ∀ v ∈ recL k ba bf (.slice a1 n1 c1) (.slice a2 n2 c2) (.slice a3 n3 c3), v.oneCell' = true := by
  intro v hv
  simp only [recL, List.mem_cons, List.not_mem_nil, or_false] at hv
  rcases hv with rfl | rfl | rfl | rfl | rfl | rfl | rfl | rfl | rfl | rfl | rfl | rfl | rfl | rfl <;> rfl
set_option maxRecDepth 100000 in
set_option maxHeartbeats 16000000 in
theorem refReadBlk_any (b : Int) (val : ByteArray) (w : World) (hb : 0 ≤ b) (hb' : b < 4294967296) (hv : val.size ≤ 600) :
    Calls Tryz.prog 26 #[.string (NM.pBlk ++ blkS b), .string val] w fun e w' => ∃ ba bf a1 n1 c1 a2 n2 c2 a3 n3 c3, e = .returned (recV (if rdK b val = true then 2 else 0) ba bf (.slice a1 n1 c1) (.slice a2 n2 c2) (.slice a3 n3 c3)) ∧ Below w.heap.size w w' := by
  have hsz := blkS_size b hb hb'
  have hks : (NM.pBlk ++ blkS b).size ≤ 26 := by rw [ByteArray.size_append]; show 6 + _ ≤ 26; omega
  have HB1 := Lib.hid (fun w => refBehind_any (NM.pBlk ++ blkS b) NM.pPool w (by unfold maxLen; omega) (by decide))
  rw [starts_blk NM.pPool (blkS b) ⟨112, [111, 111, 108, 47], rfl, by decide⟩, if_neg (by simp)] at HB1
  have HB2 := Lib.hid (fun w => refBehind_any (NM.pBlk ++ blkS b) NM.pBlk w (by unfold maxLen; omega) (by decide))
  rw [(starts_app NM.pBlk (blkS b)).1, (starts_app NM.pBlk (blkS b)).2, if_pos rfl] at HB2
  have HN := Lib.hid (fun w => refNetV_any (blkS b) w (by omega))
  rw [dnet_blk b hb hb'] at HN
  have HBK := Lib.hid (fun w => refBlock_any val w hv)
  have d0 := lock_no (blkS b)
  unfold rdK
  obtain ⟨W, hW⟩ : ∃ W, W = w.alloc (.cells (recL 0 0 ⟨#[]⟩ NS NS NS).toArray TRec) := ⟨_, rfl⟩
  have hb0 : Below w.heap.size w W := by rw [hW]; exact belNew w _
  have hR : At W w.heap.size TRec (recL 0 0 ⟨#[]⟩ NS NS NS) := by rw [hW]; exact heap_alloc_new w _
  have HW := Lib.hid hW
  have H0 := Lib.hid (And.intro hb0 hR)
  clear hW hb0 hR hsz hks hb hb'
  generalize NM.pBlk ++ blkS b = key at *
  generalize blkS b = X at *
  generalize b - b % 64 = c at *
  change Hid (∀ w, Calls Tryz.prog 47 #[.string X] w fun e w' => e = .returned (.tuple #[.agg #[.int .u32 c, .int .i64 26], .bool true]) ∧ Below w.heap.size w w') at HN
  unfold DbPost at HBK
  rw [dbOk_eq] at HBK
  cases hok : imOk val with
  | false =>
    rw [hok] at HBK
    simp only [Bool.false_eq_true, if_false, Bool.false_and] at HBK ⊢
    go_enter Tryz.func26, Tryz.ntmps26
    go_upto_region 1 with fail
    change Code.wp _ _ _ _ (w.alloc (.cells (recL 0 0 ⟨#[]⟩ NS NS NS).toArray TRec))
    rw [← HW.out]
    clear HW
    go_wp2_with fail
    refine (HB1.out _).mono ?_; rintro e w1 ⟨rfl, hb1⟩
    go_wp2_with fail
    refine (HB2.out _).mono ?_; rintro e w2 ⟨rfl, hb2⟩
    go_wp2_with fail
    refine (HN.out _).mono ?_; rintro e w3 ⟨rfl, hb3⟩
    have hb4 := bel (bel (bel hb1 hb2) hb3) (belNew w3 (netO' c 26))
    have hn4 := heap_alloc_new w3 (netO' c 26)
    go_upto_region 17 with fail
    obtain ⟨w4, hw4⟩ : ∃ w4, w4 = w3.alloc (netO' c 26) := ⟨_, rfl⟩
    rw [← hw4] at hb4 hn4 ⊢
    clear hw4 hb1 hb2 hb3
    go_wp2_with fail
    refine (HBK.out _).mono ?_; rintro e w5 ⟨rfl, hb5⟩
    have hb6 := bel (bel hb4 hb5) (belNew w5 (docO 0 ⟨#[]⟩ NS NS NS))
    have HR6 := Lib.hid (And.intro ((hb6.block _ (heap_lt H0.out.2)).trans H0.out.2) (bel H0.out.1 hb6))
    have hn5 := (hb5.block _ (heap_lt hn4)).trans hn4
    have hn6 := ((belNew w5 (docO 0 ⟨#[]⟩ NS NS NS)).block _ (heap_lt hn5)).trans hn5
    have hd6 := heap_alloc_new w5 (docO 0 ⟨#[]⟩ NS NS NS)
    go_upto_region 18 with fail
    obtain ⟨w6, hw6⟩ : ∃ w6, w6 = w5.alloc (docO 0 ⟨#[]⟩ NS NS NS) := ⟨_, rfl⟩
    rw [← hw6] at HR6 hn6 hd6 ⊢
    clear hw6 hb4 hb5 hb6 hn4 hn5
    go_wp2_with (refine wpStG (T := TRec) (L0 := recL 0 0 ⟨#[]⟩ NS NS NS) (L := recL 0 0 ⟨#[]⟩ NS NS NS) rfl _ _ rfl rfl rfl HR6.out.1 (n := 14) rfl rfl infoRec (recL_one _ _ _ _ _ _ _ _ _ _ _ _) ?_; intro w7 hx7 hg7)
    refine bodyPost_ret (resB1 Tryz.results26 rfl (At.load hx7 (n := 14) rfl infoRec Tryz.underlying52)) rfl ⟨0, ⟨#[]⟩, none, 0, 0, none, 0, 0, none, 0, 0, rfl, HR6.out.2.grown hg7 HR6.out.2.size (fun k hk => by cases hk; exact Nat.le_refl _)⟩
  | true =>
    rw [hok] at HBK
    simp only [if_true, Bool.true_and] at HBK ⊢
    generalize imC val = q at *
    have pre : ∀ (dd : Bool), decide (q.addr = c) = dd → (c == q.addr) = dd := fun dd h => by rw [← h]; by_cases e : q.addr = c <;> simp [e]; exact fun x => e x.symm
    generalize hdd : decide (q.addr = c) = dd
    have dq := pre dd hdd
    clear pre hdd
    go_enter Tryz.func26, Tryz.ntmps26
    go_upto_region 1 with fail
    change Code.wp _ _ _ _ (w.alloc (.cells (recL 0 0 ⟨#[]⟩ NS NS NS).toArray TRec))
    rw [← HW.out]
    clear HW
    go_wp2_with fail
    refine (HB1.out _).mono ?_; rintro e w1 ⟨rfl, hb1⟩
    go_wp2_with fail
    refine (HB2.out _).mono ?_; rintro e w2 ⟨rfl, hb2⟩
    go_wp2_with fail
    refine (HN.out _).mono ?_; rintro e w3 ⟨rfl, hb3⟩
    have hb4 := bel (bel (bel hb1 hb2) hb3) (belNew w3 (netO' c 26))
    have hn4 := heap_alloc_new w3 (netO' c 26)
    go_upto_region 17 with fail
    obtain ⟨w4, hw4⟩ : ∃ w4, w4 = w3.alloc (netO' c 26) := ⟨_, rfl⟩
    rw [← hw4] at hb4 hn4 ⊢
    clear hw4 hb1 hb2 hb3
    go_wp2_with fail
    refine (HBK.out _).mono ?_; rintro e w5 ⟨v1, v2, v3, rfl, hds, hb5⟩
    obtain ⟨a1, c1, rfl⟩ := hds.slots.slice
    obtain ⟨a2, c2, rfl⟩ := hds.free.slice
    obtain ⟨a3, c3, rfl⟩ := hds.attrs.slice
    clear hds
    generalize q.sl.length = n1 at *
    generalize q.free.length = n2 at *
    generalize q.attrs.length = n3 at *
    have hb6 := bel (bel hb4 hb5) (belNew w5 (docO q.addr q.aff (.slice a1 n1 c1) (.slice a2 n2 c2) (.slice a3 n3 c3)))
    have HR6 := Lib.hid (And.intro ((hb6.block _ (heap_lt H0.out.2)).trans H0.out.2) (bel H0.out.1 hb6))
    have hn5 := (hb5.block _ (heap_lt hn4)).trans hn4
    have hn6 := ((belNew w5 (docO q.addr q.aff (.slice a1 n1 c1) (.slice a2 n2 c2) (.slice a3 n3 c3))).block _ (heap_lt hn5)).trans hn5
    have hd6 := heap_alloc_new w5 (docO q.addr q.aff (.slice a1 n1 c1) (.slice a2 n2 c2) (.slice a3 n3 c3))
    go_upto_region 18 with fail
    obtain ⟨w6, hw6⟩ : ∃ w6, w6 = w5.alloc (docO q.addr q.aff (.slice a1 n1 c1) (.slice a2 n2 c2) (.slice a3 n3 c3)) := ⟨_, rfl⟩
    rw [← hw6] at HR6 hn6 hd6 ⊢
    obtain ⟨k0, k1⟩ := cells2 hn6
    obtain ⟨b0, b1, b2, b3, b4⟩ := vcells5 hd6
    clear hw6 hb4 hb5 hb6 hn4 hn5 hn6 hd6
    cases dd with
    | false =>
      go_wp2_with (refine wpStG (T := TRec) (L0 := recL 0 0 ⟨#[]⟩ NS NS NS) (L := recL 0 0 ⟨#[]⟩ NS NS NS) rfl _ _ rfl rfl rfl HR6.out.1 (n := 14) rfl rfl infoRec (recL_one _ _ _ _ _ _ _ _ _ _ _ _) ?_; intro w7 hx7 hg7)
      refine bodyPost_ret (resB1 Tryz.results26 rfl (At.load hx7 (n := 14) rfl infoRec Tryz.underlying52)) rfl ⟨⟨0, ⟨#[]⟩, none, 0, 0, none, 0, 0, none, 0, 0, rfl⟩, HR6.out.2.grown hg7 HR6.out.2.size (fun k hk => by cases hk; exact Nat.le_refl _)⟩
    | true =>
      go_wp2_with (refine wpStG (T := TRec) (L0 := recL 0 0 ⟨#[]⟩ NS NS NS) (L := recL 2 q.addr q.aff (.slice a1 n1 c1) (.slice a2 n2 c2) (.slice a3 n3 c3)) rfl _ _ rfl rfl rfl HR6.out.1 (n := 14) rfl rfl infoRec (recL_one _ _ _ _ _ _ _ _ _ _ _ _) ?_; intro w7 hx7 hg7)
      refine bodyPost_ret (resB1 Tryz.results26 rfl (At.load hx7 (n := 14) rfl infoRec Tryz.underlying52)) rfl ⟨⟨q.addr, q.aff, a1, n1, c1, a2, n2, c2, a3, n3, c3, rfl⟩, HR6.out.2.grown hg7 HR6.out.2.size (fun k hk => by cases hk; exact Nat.le_refl _)⟩
end Go.Proofs.YtlbgjmnihenmaaaGreatDoor
