/- The document's view: a net in a key; the law's text of a block's net. -/
import Derived.Test.YtiifbhiodegipaaGreatDoorNMa
import Derived.Test.YtiifbhiodegipaaGreatDoorSq
import Derived.Test.YtiifbhiodegipaaGreatDoorNMd
import Derived.Test.YtiifbhiodegipaaGreatDoorNMb
import Derived.Test.YtiifbhiodegipaaGreatDoorVwB
namespace Go.Proofs.YtiifbhiodegipaaGreatDoor
open Go.RowKit
def dnet (l : List UInt8) : Option (Int × Int) := if (45 : UInt8) ∈ l then NM.netOf (NM.repl 45 47 l) else none
abbrev dnetV (o : Option (Int × Int)) : Value := NM.refNetVal o
theorem repl_at {l : List UInt8} {i : Nat} (hi : i < l.length) (h : l.getD i 0 = 45) (hno : (45 : UInt8) ∉ l.take i) : NM.repl 45 47 l = l.take i ++ 47 :: l.drop (i + 1) := by
  have e : l = l.take i ++ 45 :: l.drop (i + 1) := by
    have h1 : l.drop i = 45 :: l.drop (i + 1) := by
      rw [List.drop_eq_getElem_cons hi]
      congr 1
      rw [List.getD_eq_getElem?_getD, List.getElem?_eq_getElem hi] at h
      simpa using h
    rw [← h1, List.take_append_drop]
  have h2 := NM.repl_app (a := 45) (b := 47) (x := l.take i) (y := l.drop (i + 1)) hno
  rw [← e] at h2
  exact h2
abbrev netRO (a b : Int) : Obj := .cells #[.int .u32 a, .int .i64 b] 43
theorem netV_form (o : Option (Int × Int)) : ∃ A B kb, NM.refNetVal o = .tuple #[.agg #[.int .u32 A, .int .i64 B], .bool kb] := by
  cases o with
  | none => exact ⟨0, 0, false, rfl⟩
  | some p => exact ⟨p.1, p.2, true, rfl⟩
theorem vset2 {w : World} {g : Nat} {a b : Value} {t : TypeId} (h : w.heap[g]? = some (.cells #[a, b] t (0, 0))) (a' b' : Value) : ((w.setCell ⟨g, 0, none⟩ a').setCell ⟨g, 1, none⟩ b').heap[g]? = some (.cells #[a', b'] t (0, 0)) := by
  have := vset (vset h 0 a') 1 b'
  simpa using this
theorem vtch2 (w : World) (g : Nat) (a' b' : Value) : Tch (· = g) w ((w.setCell ⟨g, 0, none⟩ a').setCell ⟨g, 1, none⟩ b') :=
  (Tch.set (· = g) w ⟨g, 0, none⟩ a' (Or.inl rfl)).trans (Tch.set (· = g) _ ⟨g, 1, none⟩ b' (Or.inl rfl)) (fun _ _ h => h)
theorem vfroz2 {w : World} {g : Nat} {a b : Value} {t : TypeId} (h : w.heap[g]? = some (.cells #[a, b] t (0, 0))) (i : Nat) : w.frozen? ⟨g, i, none⟩ = false := by simp [World.frozen?, h]
set_option maxRecDepth 100000 in
set_option maxHeartbeats 8000000 in
theorem refNetV_any (s : ByteArray) (w : World) (hs : s.size ≤ 599) :
    Calls Tryz.prog 47 #[.string s] w fun e w' => e = .returned (dnetV (dnet s.data.toList)) ∧ Below w.heap.size w w' := by
  obtain ⟨W0, hW0⟩ : ∃ W0, W0 = w.alloc (netRO 0 0) := ⟨_, rfl⟩
  have hb0 : Below w.heap.size w W0 := by rw [hW0]; exact belNew w _
  have hr0 : W0.heap[w.heap.size]? = some (.cells #[.int .u32 0, .int .i64 0] 43 (0, 0)) := by rw [hW0]; exact heap_alloc_new w _
  have HW := Lib.hid hW0
  have H0 := Lib.hid (And.intro hb0 hr0)
  clear hW0 hb0 hr0
  have hlen : s.data.toList.length = s.size := Array.length_toList
  have HLN := Lib.hid hlen
  clear hlen
  go_enter Tryz.func47, Tryz.ntmps47
  go_upto_region 1 with fail
  change Code.wp _ _ _ _ (w.alloc (netRO 0 0))
  rw [← HW.out]
  clear HW
  go_wp2_with fail
  go_loop [4] (fun j => ∃ i : Nat, i ≤ s.size ∧ j = .int .i64 i ∧ Hid ((45 : UInt8) ∉ s.data.toList.take i)) (fun j => s.size - (intOf j).toNat)
  case atStart => exact ⟨0, Nat.zero_le _, rfl, Lib.hid (by simp)⟩
  case round =>
    obtain ⟨i, hi, rfl, hno⟩ := hrel
    by_cases hlt : i < s.size
    · have hbx := NM.byte0x s i hlt
      by_cases h45 : (s[i].toNat : Int) = 45
      · have d45 : ((s[i].toNat : Int) == 45) = true := by simpa using h45
        have h48 : s.data.toList.getD i 0 = 45 := by
          rw [hbx]
          exact UInt8.toNat_inj.1 (by simpa using (by omega : s[i].toNat = 45))
        have HD : Hid (dnet s.data.toList = NM.netOf (s.extract 0 i ++ ⟨#[47]⟩ ++ s.extract (i + 1) s.size).data.toList) := Lib.hid (by
          unfold dnet
          have hm : (45 : UInt8) ∈ s.data.toList := by
            rw [← h48, List.getD_eq_getElem?_getD, List.getElem?_eq_getElem (by rw [HLN.out]; exact hlt)]
            exact List.getElem_mem _
          rw [if_pos hm, repl_at (by rw [HLN.out]; exact hlt) h48 hno.out]
          congr 1
          simp only [ByteArray.data_append, Array.toList_append]
          rw [NM.ext_take, NM.ext_drop]
          simp)
        have hz : (s.extract 0 i ++ ⟨#[47]⟩ ++ s.extract (i + 1) s.size).size ≤ 600 := by
          simp only [ByteArray.size_append, ByteArray.size_extract]
          show min i s.size - 0 + 1 + (min s.size s.size - (i + 1)) ≤ 600
          omega
        have HPA := Lib.hid (fun w => NM.refNetParse_any (s.extract 0 i ++ ⟨#[47]⟩ ++ s.extract (i + 1) s.size) w hz)
        have b0 : (i : Int) ≤ s.size := by omega
        have b1 : (i : Int) + 1 ≤ s.size := by omega
        have b2 : (i : Int) < 600 := by omega
        have w1e : IntKind.i64.wrap ((i : Int) + 1) = (i : Int) + 1 := IntWalk.i64_in _ (by omega)
        have b3 : 0 ≤ (i : Int) + 1 := by omega
        have c3 : ((i : Int) + 1).toNat = i + 1 := by omega
        have c1 : ¬ 9223372036854775807 < i + 1 := by omega
        have c2 : ¬ 9223372036854775807 < i + 1 + (s.size - (i + 1)) := by omega
        clear h48 hbx h45 hno hz
        obtain ⟨A, B, kb, hV⟩ := netV_form (NM.netOf (s.extract 0 i ++ ⟨#[47]⟩ ++ s.extract (i + 1) s.size).data.toList)
        have HV := Lib.hid hV
        rw [hV] at HPA
        go_upto_region 5 with fail
        obtain ⟨wd, hwd⟩ : ∃ wd, wd = W0.drew := ⟨_, rfl⟩
        have hbd : Below W0.heap.size W0 wd := by rw [hwd]; exact vdrew _
        have HDd := Lib.hid (And.intro (bel H0.out.1 hbd) ((hbd.block _ (heap_lt H0.out.2)).trans H0.out.2))
        refine wp_region_held_drew (S := (fun _ => True)) (by kernel_rfl) trivial (fun r0 => ?_)
        rw [← hwd]
        clear hwd hbd
        refine tk 0 rfl ?_
        try simp only [Act.put, qA, qB, qC, qD, qE, qF]
        refine tk 1 rfl ?_
        try simp only [Act.put, qA, qB, qC, qD, qE, qF]
        refine tk 2 rfl ?_
        try simp only [Act.put, qA, qB, qC, qD, qE, qF]
        refine tk 3 rfl ?_
        try simp only [Act.put, qA, qB, qC, qD, qE, qF]
        refine tk 4 rfl ?_
        try simp only [Act.put, qA, qB, qC, qD, qE, qF]
        refine tk 5 rfl ?_
        try simp only [Act.put, qA, qB, qC, qD, qE, qF]
        refine tk 6 rfl ?_
        try simp only [Act.put, qA, qB, qC, qD, qE, qF]
        refine tk 7 rfl ?_
        try simp only [Act.put, qA, qB, qC, qD, qE, qF]
        refine tk 8 rfl ?_
        try simp only [Act.put, qA, qB, qC, qD, qE, qF]
        clear w1e b3 c3 c1 c2
        refine wpAnyH_ready (rs := [9, 13]) (by kernel_rfl) (by simp) ?_
        refine AllReadyH.cons rfl (fun K hK => ?_) (AllReadyH.cons rfl (fun K hK => ?_) AllReadyH.nil)
        · go_simp
          refine (HPA.out _).mono ?_; rintro x w1 ⟨rfl, hb1⟩
          have HB1 := Lib.hid hb1
          clear hb1
          refine hK.out _ _ trivial (fun _ => ?_)
          try simp only [Act.put, qA, qB, qC, qD, qE, qF]
          refine tk 10 rfl ?_
          try simp only [Act.put, qA, qB, qC, qD, qE, qF]
          refine tk 11 rfl ?_
          try simp only [Act.put, qA, qB, qC, qD, qE, qF]
          refine tk 12 rfl ?_
          try simp only [Act.put, qA, qB, qC, qD, qE, qF]
          refine wpAnyH_ready (rs := [13]) (by kernel_rfl) (by simp) ?_
          refine AllReadyH.cons rfl (fun K hK => ?_) AllReadyH.nil
          go_simp
          refine hK.out _ _ trivial (fun _ => ?_)
          try simp only [Act.put, qA, qB, qC, qD, qE, qF]
          refine wpAnyH_ready (rs := [14]) (by kernel_rfl) (by simp) ?_
          refine AllReadyH.cons rfl (fun K hK => ?_) AllReadyH.nil
          have hN0 := heap_alloc_new w1 (netRO 0 0)
          obtain ⟨z0, z1⟩ := cells2 hN0
          have g0 := vfroz2 hN0 0
          have g1 := vfroz2 hN0 1
          go_simp
          have hN5 := heap_alloc_new w1 (netRO A B)
          have hR5 := ((belNew w1 (netRO A B)).block _ (Nat.lt_of_lt_of_le (heap_lt HDd.out.2) HB1.out.size)).trans ((HB1.out.block _ (heap_lt HDd.out.2)).trans HDd.out.2)
          have hB5 := bel (bel HDd.out.1 HB1.out) (belNew w1 (netRO A B))
          obtain ⟨W5, hW5⟩ : ∃ W5, W5 = w1.alloc (netRO A B) := ⟨_, rfl⟩
          rw [← hW5] at hN5 hR5 hB5 ⊢
          have H5 := Lib.hid (And.intro hN5 (And.intro hR5 hB5))
          clear hN0 z0 z1 g0 g1 hN5 hR5 hB5 hW5
          refine hK.out _ _ trivial (fun _ => ?_)
          try simp only [Act.put, qA, qB, qC, qD, qE, qF]
          refine tk 15 rfl ?_
          try simp only [Act.put, qA, qB, qC, qD, qE, qF]
          refine wpAnyH_done (by kernel_rfl) ?_ _
          obtain ⟨z0, z1⟩ := cells2 H5.out.1
          obtain ⟨y0, y1⟩ := cells2 H5.out.2.1
          have f0 := vfroz2 H5.out.2.1 0
          have f1 := vfroz2 H5.out.2.1 1
          have HE := Lib.hid (vset2 H5.out.2.1 (.int .u32 A) (.int .i64 B))
          go_wp2_with fail
          have hE := HE.out
          refine bodyPost_ret (v := .tuple #[.agg #[.int .u32 A, .int .i64 B], .bool kb]) (by simp [results, Tryz.results47, go_sem, World.cell?, hE]) rfl ⟨by rw [HD.out, ← HV.out], H5.out.2.2.trans ((vtch2 W5 w.heap.size (.int .u32 A) (.int .i64 B)).below (B := w.heap.size) H5.out.2.2.size (fun i _ e => by have e : i = w.heap.size := e; omega))⟩
        · go_simp
          refine hK.out _ _ trivial (fun _ => ?_)
          try simp only [Act.put, qA, qB, qC, qD, qE, qF]
          refine wpAnyH_ready (rs := [9]) (by kernel_rfl) (by simp) ?_
          refine AllReadyH.cons rfl (fun K hK => ?_) AllReadyH.nil
          go_simp
          refine (HPA.out _).mono ?_; rintro x w1 ⟨rfl, hb1⟩
          have HB1 := Lib.hid hb1
          clear hb1
          refine hK.out _ _ trivial (fun _ => ?_)
          try simp only [Act.put, qA, qB, qC, qD, qE, qF]
          refine tk 10 rfl ?_
          try simp only [Act.put, qA, qB, qC, qD, qE, qF]
          refine tk 11 rfl ?_
          try simp only [Act.put, qA, qB, qC, qD, qE, qF]
          refine tk 12 rfl ?_
          try simp only [Act.put, qA, qB, qC, qD, qE, qF]
          refine wpAnyH_ready (rs := [14]) (by kernel_rfl) (by simp) ?_
          refine AllReadyH.cons rfl (fun K hK => ?_) AllReadyH.nil
          have hN0 := heap_alloc_new wd (netRO 0 0)
          have hN := (HB1.out.block _ (heap_lt hN0)).trans hN0
          have hR := (HB1.out.block _ (Nat.lt_trans (heap_lt HDd.out.2) (heap_lt hN0))).trans (((belNew wd (netRO 0 0)).block _ (heap_lt HDd.out.2)).trans HDd.out.2)
          have hBB := bel (bel HDd.out.1 (belNew wd (netRO 0 0))) HB1.out
          have hlt1 : w.heap.size < wd.heap.size := heap_lt HDd.out.2
          clear hN0
          obtain ⟨z0, z1⟩ := cells2 hN
          have g0 := vfroz2 hN 0
          have g1 := vfroz2 hN 1
          go_simp
          have hN5 := vset2 hN (.int .u32 A) (.int .i64 B)
          have htc := vtch2 w1 wd.heap.size (.int .u32 A) (.int .i64 B)
          have hR5 := (htc.block w.heap.size (heap_lt hR) (fun e => by have e : w.heap.size = wd.heap.size := e; omega)).trans hR
          have hB5 := hBB.trans (htc.below (B := w.heap.size) hBB.size (fun i _ e => by have e : i = wd.heap.size := e; omega))
          obtain ⟨W5, hW5⟩ : ∃ W5, W5 = (w1.setCell ⟨wd.heap.size, 0, none⟩ (.int .u32 A)).setCell ⟨wd.heap.size, 1, none⟩ (.int .i64 B) := ⟨_, rfl⟩
          rw [← hW5] at hN5 hR5 hB5 ⊢
          have H5 := Lib.hid (And.intro hN5 (And.intro hR5 hB5))
          clear hN hR hBB z0 z1 g0 g1 hN5 htc hR5 hB5 hW5
          refine hK.out _ _ trivial (fun _ => ?_)
          try simp only [Act.put, qA, qB, qC, qD, qE, qF]
          refine tk 15 rfl ?_
          try simp only [Act.put, qA, qB, qC, qD, qE, qF]
          refine wpAnyH_done (by kernel_rfl) ?_ _
          obtain ⟨z0, z1⟩ := cells2 H5.out.1
          obtain ⟨y0, y1⟩ := cells2 H5.out.2.1
          have f0 := vfroz2 H5.out.2.1 0
          have f1 := vfroz2 H5.out.2.1 1
          have HE := Lib.hid (vset2 H5.out.2.1 (.int .u32 A) (.int .i64 B))
          go_wp2_with fail
          have hE := HE.out
          refine bodyPost_ret (v := .tuple #[.agg #[.int .u32 A, .int .i64 B], .bool kb]) (by simp [results, Tryz.results47, go_sem, World.cell?, hE]) rfl ⟨by rw [HD.out, ← HV.out], H5.out.2.2.trans ((vtch2 W5 w.heap.size (.int .u32 A) (.int .i64 B)).below (B := w.heap.size) H5.out.2.2.size (fun i _ e => by have e : i = w.heap.size := e; omega))⟩
      · have d45 : ((s[i].toNat : Int) == 45) = false := by simpa using h45
        have hnn : (45 : UInt8) ∉ s.data.toList.take (i + 1) := by
          have h1 : s.data.toList.take (i + 1) = s.data.toList.take i ++ [s[i]] := by
            rw [List.take_add_one, List.getElem?_eq_getElem (by rw [HLN.out]; exact hlt)]
            rfl
          rw [h1]
          intro hm
          rcases List.mem_append.1 hm with h | h
          · exact hno.out h
          · rw [List.mem_singleton] at h
            exact h45 (by rw [← h]; rfl)
        have HNN := Lib.hid hnn
        have b2 : (i : Int) < 600 := by omega
        have HLT := Lib.hid hlt
        clear hbx hnn h45
        go_wp2_with fail
        go_round
        case rel => exact ⟨i + 1, HLT.out, by go_num, HNN⟩
        case measure => have := HLT.out; simp [intOf]; omega
    · obtain rfl : i = s.size := by omega
      have hD : dnet s.data.toList = none := by
        unfold dnet
        have h := hno.out
        rw [← HLN.out, List.take_length] at h
        rw [if_neg h]
      have HDN := Lib.hid hD
      clear hD
      have hr := H0.out.2
      obtain ⟨c0, c1⟩ := cells2 hr
      have f0 := vfroz2 hr 0
      have f1 := vfroz2 hr 1
      have HE := Lib.hid (vset2 hr (.int .u32 0) (.int .i64 0))
      clear hr hno
      go_wp2_with fail
      have hE := HE.out
      refine bodyPost_ret (v := .tuple #[.agg #[.int .u32 0, .int .i64 0], .bool false]) (by simp [results, Tryz.results47, go_sem, World.cell?, hE]) rfl ⟨by rw [HDN.out]; rfl, H0.out.1.trans ((vtch2 W0 w.heap.size (.int .u32 0) (.int .i64 0)).below (B := w.heap.size) H0.out.1.size (fun i _ e => by have e : i = w.heap.size := e; omega))⟩
end Go.Proofs.YtiifbhiodegipaaGreatDoor
namespace Go.Proofs.YtiifbhiodegipaaGreatDoor
open Go.RowKit
theorem cutD_yes : ∀ l : List UInt8, (NM.cutD l).2.2 = true → l = (NM.cutD l).1 ++ 46 :: (NM.cutD l).2.1
  | [], h => by cases h
  | c :: l, h => by
    rw [NM.cutD_cons] at h ⊢
    split at h
    · rename_i hc
      rw [if_pos hc, hc]
      rfl
    · rename_i hc
      rw [if_neg hc]
      simp only [List.cons_append]
      rw [← cutD_yes l h]
theorem cutD_no : ∀ l : List UInt8, (NM.cutD l).2.2 = false → l = (NM.cutD l).1
  | [], _ => rfl
  | c :: l, h => by
    rw [NM.cutD_cons] at h ⊢
    split at h
    · cases h
    · rename_i hc
      rw [if_neg hc]
      simp only []
      rw [← cutD_no l h]
theorem pb_dec {w : List UInt8} (h : NM.pbOk w = true) : Lib.decDigits (NM.num10 w).toNat = w ∧ 0 ≤ NM.num10 w ∧ NM.num10 w ≤ 255 := by
  rw [NM.pbOk_val] at h
  unfold NM.valOk at h
  rw [Bool.and_eq_true, decide_eq_true_eq] at h
  exact ⟨NM.dec_num10 w h.1, (NM.num10_bounds w ((NM.canon_iff w).1 h.1).2.1).1, h.2⟩
theorem pl_step {n : Nat} {r : List UInt8} {L : List Int} (h : NM.pl (n + 2) r = some L) : ∃ x L' r', L = x :: L' ∧ 0 ≤ x ∧ x ≤ 255 ∧ NM.pl (n + 1) r' = some L' ∧ r = Lib.decDigits x.toNat ++ 46 :: r' := by
  rw [NM.pl] at h
  split at h
  · rename_i hc
    rw [Bool.and_eq_true] at hc
    cases hp : NM.pl (n + 1) (NM.cutD r).2.1 with
    | none => rw [hp] at h; cases h
    | some L' =>
      rw [hp] at h
      obtain rfl := Option.some.inj h
      obtain ⟨h1, h2, h3⟩ := pb_dec hc.1
      have hy : (NM.cutD r).2.2 = true := by simpa using hc.2
      exact ⟨_, L', _, rfl, h2, h3, hp, by rw [h1]; exact cutD_yes r hy⟩
  · cases h
theorem pl_last {r : List UInt8} {L : List Int} (h : NM.pl 1 r = some L) : ∃ x, L = [x] ∧ 0 ≤ x ∧ x ≤ 255 ∧ r = Lib.decDigits x.toNat := by
  rw [NM.pl] at h
  split at h
  · rename_i hc
    rw [Bool.and_eq_true] at hc
    obtain rfl := Option.some.inj h
    obtain ⟨h1, h2, h3⟩ := pb_dec hc.1
    have hy : (NM.cutD r).2.2 = false := by simpa using hc.2
    exact ⟨_, rfl, h2, h3, by rw [h1]; exact cutD_no r hy⟩
  · cases h
theorem ip_canon {l : List UInt8} {a : Int} (h : NM.ipOf l = some a) : l = NM.ipTxt a := by
  unfold NM.ipOf at h
  cases hp : NM.pl 4 l with
  | none => rw [hp] at h; cases h
  | some L =>
    obtain ⟨x, L1, r1, rfl, hx, hx', h1, rfl⟩ := pl_step (n := 2) hp
    obtain ⟨y, L2, r2, rfl, hy, hy', h2, rfl⟩ := pl_step (n := 1) h1
    obtain ⟨z, L3, r3, rfl, hz, hz', h3, rfl⟩ := pl_step (n := 0) h2
    obtain ⟨u, rfl, hu, hu', rfl⟩ := pl_last h3
    rw [hp] at h
    have ha : ((x * 256 + y) * 256 + z) * 256 + u = a := Option.some.inj h
    rw [NM.ipTxt_eq, show a / 16777216 = x by omega, show a / 65536 % 256 = y by omega, show a / 256 % 256 = z by omega, show a % 256 = u by omega]
    simp
theorem net_canon {l : List UInt8} {p : Int × Int} (h : NM.netOf l = some p) : l = NM.netText p.1 p.2 := by
  have hm := NM.netOf_may h
  unfold NM.netOf at h
  cases hi : NM.ipOf (NM.cutS l).1 with
  | none => rw [hi] at h; cases h
  | some a =>
    rw [hi] at h
    simp only [] at h
    split at h
    · rename_i hc
      obtain rfl := Option.some.inj h
      simp only [Bool.and_eq_true] at hc
      have e1 := ip_canon hi
      have e2 := NM.cutS_yes l hc.1
      have hn := (NM.numOk_iff _ _).1 hc.2.1
      have e3 : Lib.decDigits (NM.num10 (NM.cutS l).2.1).toNat = (NM.cutS l).2.1 := NM.dec_num10 _ ((NM.canon_iff _).2 ⟨fun e => by rw [e] at hn; exact absurd hn.1.1 (by decide), hn.2, hn.1.2.2⟩)
      unfold NM.netText
      rw [if_pos hm]
      unfold NM.netTxt
      rw [e3, ← e1]
      exact e2
    · cases h
theorem repl_has {a b : UInt8} : ∀ {l : List UInt8}, a ∈ l → ∃ x y, a ∉ x ∧ l = x ++ a :: y ∧ NM.repl a b l = x ++ b :: y
  | [], h => by cases h
  | c :: l, h => by
    by_cases hc : c = a
    · exact ⟨[], l, by simp, by rw [hc]; rfl, by rw [NM.repl, if_pos hc]; rfl⟩
    · have hl : a ∈ l := by
        rcases List.mem_cons.1 h with e | e
        · exact absurd e.symm hc
        · exact e
      obtain ⟨x, y, h1, h2, h3⟩ := repl_has (b := b) hl
      refine ⟨c :: x, y, by rw [List.mem_cons, not_or]; exact ⟨fun e => hc e.symm, h1⟩, by rw [h2]; rfl, ?_⟩
      rw [NM.repl, if_neg hc, h3]
      rfl
theorem app47 : ∀ {x u : List UInt8} {y v : List UInt8}, (47 : UInt8) ∉ u → (47 : UInt8) ∉ v → x ++ 47 :: y = u ++ 47 :: v → x = u ∧ y = v
  | [], [], _, _, _, _, h => ⟨rfl, (List.cons.inj h).2⟩
  | [], c :: u, _, _, hu, _, h => by
    have e := (List.cons.inj h).1
    rw [List.mem_cons, not_or] at hu
    exact absurd e hu.1
  | c :: x, [], y, v, _, hv, h => by
    have e := (List.cons.inj h).2
    exact absurd (by rw [← e]; simp) hv
  | c :: x, d :: u, _, _, hu, hv, h => by
    obtain ⟨e1, e2⟩ := List.cons.inj h
    rw [List.mem_cons, not_or] at hu
    obtain ⟨e3, e4⟩ := app47 hu.2 hv e2
    exact ⟨by rw [e1, e3], e4⟩
theorem dnet_eq (l : List UInt8) : dnet l = NM.rnet l := by
  unfold dnet NM.rnet
  cases hn : NM.netOf (NM.repl 45 47 l) with
  | none => simp only [ite_self]
  | some p =>
    have hm := NM.netOf_may hn
    have hc := net_canon hn
    have ht : NM.netText p.1 p.2 = NM.ipTxt p.1 ++ 47 :: Lib.decDigits p.2.toNat := by
      unfold NM.netText
      rw [if_pos hm]
      rfl
    simp only []
    by_cases h45 : (45 : UInt8) ∈ l
    · rw [if_pos h45, if_pos]
      obtain ⟨x, y, h1, h2, h3⟩ := repl_has (b := 47) h45
      rw [h3, ht] at hc
      obtain ⟨e1, e2⟩ := app47 (NM.ip_no47 _) (NM.dec_no47 _) hc
      rw [NM.keyTxt_eq hm, h2, e1, e2]
      simp
    · rw [if_neg h45, if_neg]
      intro e
      apply h45
      rw [← e, NM.keyTxt_eq hm]
      simp
end Go.Proofs.YtiifbhiodegipaaGreatDoor
