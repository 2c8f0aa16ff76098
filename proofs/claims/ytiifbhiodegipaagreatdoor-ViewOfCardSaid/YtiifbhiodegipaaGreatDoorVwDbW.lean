/- The document's view: a block of bytes. Made by g_vwdw.py. -/
import Derived.Test.YtiifbhiodegipaaGreatDoorSq
import Derived.Test.YtiifbhiodegipaaGreatDoorVwDb
import Derived.Test.YtiifbhiodegipaaGreatDoorJIw
import Derived.Test.YtiifbhiodegipaaGreatDoorBrR
import Derived.Test.YtiifbhiodegipaaGreatDoorBrD
import Derived.LoopN
namespace Go.Proofs.YtiifbhiodegipaaGreatDoor
open Go.RowKit
abbrev rdO (v : Value) : Obj := .cells #[v, .int .i64 0, .bool false] 156
theorem encI1_1 (p : Int) : ∀ u ∈ encI1 p, u.oneCell' = true := fun u hu => by simp [encI1] at hu; subst hu; rfl
theorem encA_1 (p : PA) : ∀ u ∈ encA p, u.oneCell' = true := fun u hu => by simp [encA] at hu; rcases hu with rfl | rfl <;> rfl
theorem tb_nil {g : Nat} {xs : List Int} {st : Option (List Int)} {n : Int} {w : World} {t : List Int × Option (List Int)} (ht : t = rdB st n) (hx : xs = []) (h : RdR g g xs st w) : t.1 = [] := by
  subst ht hx
  obtain ⟨_, ii, _, _, _, _, _, _, _, hst⟩ := h
  cases st with
  | none => rfl
  | some l =>
    have e := hst l rfl
    rw [List.drop_nil] at e
    subst e
    unfold rdB
    simp only []
    split <;> simp
def DbPost (w : World) (s : ByteArray) (e : Ending) (w' : World) : Prop :=
  if dbOk s = true then ∃ v1 v2 v3, e = .returned (.tuple #[docV (imC s).addr (imC s).aff v1 v2 v3, .bool true]) ∧ DocSees w' (imC s).sl (imC s).free (imC s).attrs v1 v2 v3 ∧ Below w.heap.size w w' ∧ ∀ d, (v1.ownBlock = some d ∨ v2.ownBlock = some d ∨ v3.ownBlock = some d) → w.heap.size ≤ d ∧ d < w'.heap.size
  else e = .returned (.tuple #[docV 0 ⟨#[]⟩ NS NS NS, .bool false]) ∧ Below w.heap.size w w'
theorem dAs_step {N i : Nat} {st : Option (List Int)} {l : List Int} {X : List PA} (h : dAs N st = (X ++ (dAs (N - i) (some l)).1, (dAs (N - i) (some l)).2)) (hi : i < N) :
    dAs N st = ((X ++ [(strOfNums (rdT (some l)).1, strOfNums (rdT (rdT (some l)).2).1)]) ++ (dAs (N - (i + 1)) (rdT (rdT (some l)).2).2).1, (dAs (N - (i + 1)) (rdT (rdT (some l)).2).2).2) := by
  rw [h, show N - i = (N - (i + 1)) + 1 from by omega, dAs]
  simp
theorem dAs_end {N i : Nat} {st s1 : Option (List Int)} {X : List PA} (h : dAs N st = (X ++ (dAs (N - i) s1).1, (dAs (N - i) s1).2)) (hi : ¬ (i < N ∧ s1 ≠ none)) : dAs N st = (X, s1) := by
  rw [h]
  cases s1 with
  | none => rw [show dAs (N - i) none = ([], none) from by cases N - i <;> rfl]; simp
  | some l =>
    have : N - i = 0 := by
      by_cases h : i < N
      · exact absurd ⟨h, by simp⟩ hi
      · omega
    rw [this]
    simp [dAs]
set_option maxRecDepth 100000 in
set_option maxHeartbeats 16000000 in
theorem refBlock_any (s : ByteArray) (w : World) (hs : s.size ≤ 600) :
    Calls Tryz.prog 50 #[.string s] w (DbPost w s) := by
  obtain ⟨W1, hW1⟩ : ∃ W1, W1 = w.alloc (docO 0 ⟨#[]⟩ NS NS NS) := ⟨_, rfl⟩
  have hb1 : Below w.heap.size w W1 := by rw [hW1]; exact belNew w _
  have hr1 : DocAt W1 w.heap.size 0 ⟨#[]⟩ NS NS NS := by rw [hW1]; exact heap_new w _
  have hcv := Lib.run_convert_string_bytes (P := Tryz.prog) W1 9 56 5 s Tryz.underlying9 Tryz.underlying56 Tryz.underlying5
  have hbz := bytes_below W1 5 s
  have hse := bytes_sees W1 s
  obtain ⟨W2, hW2⟩ : ∃ W2, W2 = Lib.bytesWorld W1 5 s := ⟨_, rfl⟩
  rw [← hW2] at hcv hbz hse
  have hz1 : w.heap.size < W1.heap.size := heap_lt hr1
  have hz2 : W1.heap.size < W2.heap.size := by rw [hW2, Lib.bytesWorld_size]; omega
  obtain ⟨W3, hW3⟩ : ∃ W3, W3 = W2.alloc (rdO (.slice (some ⟨W1.heap.size, 0, none⟩) s.size (grownCap W1 s.size 0 5))) := ⟨_, rfl⟩
  have hb3 : Below W2.heap.size W2 W3 := by rw [hW3]; exact belNew _ _
  have hR3 : RdR W2.heap.size W2.heap.size (strI s) (some (strI s)) W3 := by
    refine ⟨_, 0, by rw [hW3]; exact heap_alloc_new _ _, hse.keep hb3, Or.inr (fun d hd => ?_), okB_strI s, by rw [strI_length]; omega, Nat.le_refl _, Nat.zero_le _, fun l hl => by cases hl; rfl⟩
    cases hd
    exact hz2
  have hr3 : DocAt W3 w.heap.size 0 ⟨#[]⟩ NS NS NS := (hr1.below hbz).below hb3
  have HW := Lib.hid (And.intro hW1 (And.intro hW2 hW3))
  have H3 := Lib.hid (And.intro hr3 (And.intro hR3 (And.intro ((hb1.trans (hbz.mono hb1.size)).trans (hb3.mono (Nat.le_trans hb1.size hbz.size))) (And.intro hz1 hz2))))
  have hgr : W2.heap.size < W3.heap.size := by obtain ⟨_, _, h, _⟩ := hR3; exact heap_lt h
  have HGR := Lib.hid hgr
  clear hb1 hr1 hbz hse hz1 hz2 hb3 hR3 hr3 hW1 hW2 hW3 hgr
  generalize hSI : strI s = xs at *
  have HSI := Lib.hid hSI
  clear hSI
  go_enter Tryz.func50, Tryz.ntmps50
  go_upto_region 1 with fail
  change Code.wp _ _ _ _ (w.alloc (docO 0 ⟨#[]⟩ NS NS NS))
  rw [← HW.out.1]
  go_upto_region 2 with fail
  rw [← HW.out.2.2]
  obtain ⟨gr, hgr⟩ : ∃ gr, gr = W2.heap.size := ⟨_, rfl⟩
  rw [← hgr] at H3 HGR ⊢
  have HGE := Lib.hid hgr
  clear hgr hcv
  -- the first byte, the address, the owner
  obtain ⟨t1, ht1⟩ : ∃ t1, t1 = rdU (some xs) 1 := ⟨_, rfl⟩
  obtain ⟨ta, hta⟩ : ∃ ta, ta = rdU t1.2 4 := ⟨_, rfl⟩
  obtain ⟨tf, htf⟩ : ∃ tf, tf = rdT ta.2 := ⟨_, rfl⟩
  obtain ⟨tn, htn⟩ : ∃ tn, tn = rdU tf.2 1 := ⟨_, rfl⟩
  have HT1 := Lib.hid ht1
  have HTA := Lib.hid hta
  have HTF := Lib.hid htf
  have HTN := Lib.hid htn
  clear ht1 hta htf htn
  go_wp2_with fail
  refine (refU_any gr gr xs (some xs) 1 _ H3.out.2.1).mono ?_; rintro e w4 ⟨rfl, hR4, hg4⟩
  rw [← HT1.out] at hR4
  have H4 := Lib.hid (And.intro hR4 hg4)
  clear hR4 hg4
  go_wp2_with fail
  refine (refU_any gr gr xs t1.2 4 _ H4.out.1).mono ?_; rintro e w5 ⟨rfl, hR5, hg5⟩
  have hbd := refU_bd H4.out.1 4
  rw [← HTA.out] at hR5 hbd
  have e1 : rdU t1.2 4 = ta := HTA.out.symm
  rw [e1]
  have hta1 : ta.1 < 4294967296 := hbd.2
  have wa : IntKind.u32.wrap ta.1 = ta.1 := by rw [IntKind.wrap_u32]; omega
  have H5 := Lib.hid (And.intro hR5 (And.intro (grown_trans H4.out.2 hg5) hbd))
  clear hR5 hg5 hbd hta1 e1
  go_wp2_with fail
  refine (refTextR_any gr gr xs ta.2 _ H5.out.1).mono ?_; rintro e w6 ⟨rfl, hR6, hg6⟩
  have e1 : rdT ta.2 = tf := HTF.out.symm
  rw [e1] at hR6
  rw [e1]
  have H6 := Lib.hid (And.intro hR6 (grown_trans H5.out.2.1 hg6))
  clear hR6 hg6 e1
  obtain ⟨W7, hW7⟩ : ∃ W7, W7 = w6.alloc (docO ta.1 (strOfNums tf.1) NS NS NS) := ⟨_, rfl⟩
  have hb7 : Below w6.heap.size w6 W7 := by rw [hW7]; exact belNew _ _
  have hd7 : DocAt W7 w6.heap.size ta.1 (strOfNums tf.1) NS NS NS := by rw [hW7]; exact heap_new w6 _
  have hsz7 : W7.heap.size = w6.heap.size + 1 := by rw [hW7]; simp
  have HW7 := Lib.hid hW7
  have hDB : DB w gr w6.heap.size (w6.heap.size + 1) xs tf.2 ta.1 (strOfNums tf.1) NS NS NS [] [] [] W7 := by
    have hz := H6.out.2.size
    have hgz := HGR.out
    have hlt := H3.out.2.2.2
    have kr : w6.heap[w.heap.size]? = W3.heap[w.heap.size]? := H6.out.2.block _ (heap_lt H3.out.1) (fun e => by have := Option.some.inj e; omega)
    refine ⟨H6.out.1.below hb7, hd7, (hb7.block _ (Nat.lt_of_lt_of_le (heap_lt H3.out.1) hz)).trans (kr.trans H3.out.1), RowG.nil _ _ _ _ _, RowG.nil _ _ _ _ _, RowG.nil _ _ _ _ _, (H3.out.2.2.1.grown H6.out.2 H3.out.2.2.1.size (fun k hk => by cases hk; omega)).trans (hb7.mono (by have := H3.out.2.2.1.size; omega)), ⟨by omega, by omega, by omega, by omega⟩, fun d hd => (by cases hd), fun d hd => (by cases hd), fun d hd => (by cases hd)⟩
  have HDB := Lib.hid hDB
  clear hW7 hb7 hd7 hDB
  go_upto_region 4 with fail
  change Code.wp _ _ _ _ (w6.alloc (docO ta.1 (strOfNums tf.1) NS NS NS))
  rw [← HW7.out]
  obtain ⟨gd, hgd⟩ : ∃ gd, gd = w6.heap.size := ⟨_, rfl⟩
  rw [← hgd] at HDB hsz7 ⊢
  clear hgd hsz7 HW7 HW HGE HGR wa
  go_wp2_with fail
  refine (refU_any gr gr xs tf.2 1 _ HDB.out.rd).mono ?_; rintro e w8 ⟨rfl, hR8, hg8⟩
  have hbd := refU_bd HDB.out.rd 1
  have e1 : rdU tf.2 1 = tn := HTN.out.symm
  rw [e1] at hR8 hbd
  rw [e1]
  obtain ⟨N, hN⟩ : ∃ N : Nat, tn.1 = (N : Int) := ⟨tn.1.toNat, by omega⟩
  have hN2 : N < 256 := by have h : tn.1 < 256 := hbd.2; omega
  rw [hN]
  have HDB8 := Lib.hid (HDB.out.read hg8 hR8)
  have HN := Lib.hid (And.intro hN hN2)
  have wn : IntKind.i64.wrap (N : Int) = N := IntWalk.i64_in _ (by omega)
  clear hR8 hg8 hbd hN hN2 e1
  go_wp2_with fail
  clear HDB H4 H5 H6 H3 wn
  go_loopw [7] (fun k wr => ∃ (i : Nat) (X : List PA) (s1 : Option (List Int)) (o : Option Addr) (m c : Nat), k = .int .i64 i ∧ i ≤ N ∧ Hid (DB w gr gd (gd + 1) xs s1 ta.1 (strOfNums tf.1) NS NS (.slice o m c) [] [] X wr ∧ X.length = i ∧ dAs N tn.2 = (X ++ (dAs (N - i) s1).1, (dAs (N - i) s1).2))) (fun k _ => N - (intOf k).toNat)
  case atStart => exact ⟨0, [], tn.2, none, 0, 0, rfl, Nat.zero_le _, Lib.hid ⟨HDB8.out, rfl, by simp⟩⟩
  case round =>
    clear HDB8
    obtain ⟨i, X, s1, o, m, c, rfl, hi, HI⟩ := hrel
    obtain ⟨vv, ii, hrb, -⟩ := HI.out.1.rd
    obtain ⟨-, -, rc2⟩ := cell3 hrb
    clear hrb
    by_cases hlt : i < N
    · have d1 : decide ((i : Int) < (N : Int)) = true := by simp; omega
      cases s1 with
      | none =>
        have rc2 : wr.cell? ⟨gr, 2, none⟩ = some (.bool true) := rc2
        have HA := Lib.hid (dAs_end HI.out.2.2 (fun h => h.2 rfl))
        have HD := Lib.hid HI.out.1
        have HNO : Hid (dbOk s = false) := Lib.hid (by
          unfold dbOk
          rw [HSI.out, ← HT1.out]
          have e : (dRd t1.2).2 = none := by
            unfold dRd
            rw [← HTA.out, ← HTF.out, ← HTN.out, HN.out.1, Int.toNat_natCast, HA.out]
            rfl
          rw [e]
          rfl)
        clear HI HA rc2 HSI HT1 HTA HTF HTN
        go_wp2_with fail
        refine (refBytes_any2 gr gr xs none 64 _ HD.out.rd).mono ?_; rintro e w2 ⟨v, rfl, hs2, hR2, hg2, -⟩
        obtain ⟨vo, vc, rfl, -⟩ := hs2
        have e0 : (rdB none 64).1.length = 0 := rfl
        rw [e0]
        have HD2 := Lib.hid (HD.out.read hg2 hR2)
        clear hR2 hg2 HD e0
        go_wp2_with fail
        refine wp_loop_rounds 1 ?_
        rw [rounds_succ]
        go_wp2_with fail
        refine (refU_any gr gr xs none 1 _ HD2.out.rd).mono ?_; rintro e w3 ⟨rfl, hR3, hg3⟩
        have HD3 := Lib.hid (HD2.out.read hg3 hR3)
        have eu : (rdU none 1).1 = 0 := rfl
        rw [eu]
        clear hR3 hg3 HD2 eu
        go_wp2_with fail
        refine (refBytes_any2 gr gr xs none 0 _ HD3.out.rd).mono ?_; rintro e w4 ⟨v, rfl, hs4, hR4, hg4, -⟩
        obtain ⟨vo4, vc4, rfl, -⟩ := hs4
        have e0 : (rdB none 0).1.length = 0 := rfl
        rw [e0]
        have HD4 := Lib.hid (HD3.out.read hg4 hR4)
        clear hR4 hg4 HD3 e0
        go_wp2_with fail
        refine wp_loop_rounds 1 ?_
        rw [rounds_succ]
        obtain ⟨vv4, ii4, hrb, -⟩ := HD4.out.rd
        obtain ⟨-, -, rc4⟩ := cell3 hrb
        have rc4 : w4.cell? ⟨gr, 2, none⟩ = some (.bool true) := rc4
        clear hrb
        obtain ⟨y0, y1, y2, y3, y4⟩ := DocAt.cells HD4.out.res
        have f0 := DocAt.froz HD4.out.res 0
        have f1 := DocAt.froz HD4.out.res 1
        have f2 := DocAt.froz HD4.out.res 2
        have f3 := DocAt.froz HD4.out.res 3
        have f4 := DocAt.froz HD4.out.res 4
        have HZ : Hid (DocAt (((((w4.setCell ⟨w.heap.size, 0, none⟩ (.int .u32 0)).setCell ⟨w.heap.size, 1, none⟩ (.string ⟨#[]⟩)).setCell ⟨w.heap.size, 2, none⟩ NS).setCell ⟨w.heap.size, 3, none⟩ NS).setCell ⟨w.heap.size, 4, none⟩ NS) w.heap.size 0 ⟨#[]⟩ NS NS NS ∧ Below w.heap.size w (((((w4.setCell ⟨w.heap.size, 0, none⟩ (.int .u32 0)).setCell ⟨w.heap.size, 1, none⟩ (.string ⟨#[]⟩)).setCell ⟨w.heap.size, 2, none⟩ NS).setCell ⟨w.heap.size, 3, none⟩ NS).setCell ⟨w.heap.size, 4, none⟩ NS)) := Lib.hid ⟨vset5 HD4.out.res _ _ _ _ _, HD4.out.below.trans ((vtch5 w4 w.heap.size (.int .u32 0) (.string ⟨#[]⟩) NS NS NS).below (B := w.heap.size) HD4.out.below.size (fun i _ e => by have e : i = w.heap.size := e; omega))⟩
        go_wp2_with (refine wpList_skip (by rfl) ?_)
        refine bodyPost_ret (resB2 Tryz.results50 rfl (loadVarD HZ.out.1)) rfl ?_
        unfold DbPost
        rw [HNO.out, if_neg (by simp)]
        exact ⟨rfl, HZ.out.2⟩
      | some l =>
        have rc2 : wr.cell? ⟨gr, 2, none⟩ = some (.bool false) := rc2
        have HST := Lib.hid (dAs_step HI.out.2.2 hlt)
        have HLT := Lib.hid hlt
        have b2 : (i : Int) < 256 := by have := HN.out.2; omega
        have HXL := Lib.hid HI.out.2.1
        have HD := Lib.hid HI.out.1
        obtain ⟨p1, hp1⟩ : ∃ p1, p1 = rdT (some l) := ⟨_, rfl⟩
        obtain ⟨p2, hp2⟩ : ∃ p2, p2 = rdT p1.2 := ⟨_, rfl⟩
        rw [← hp1, ← hp2] at HST
        have HP1 := Lib.hid hp1
        have HP2 := Lib.hid hp2
        clear hp1 hp2 hlt HI
        go_wp2_with fail
        refine (refTextR_any gr gr xs (some l) _ HD.out.rd).mono ?_; rintro e w2 ⟨rfl, hR2, hg2⟩
        rw [← HP1.out] at hR2
        rw [← HP1.out]
        have HD2 := Lib.hid (HD.out.read hg2 hR2)
        clear hR2 hg2 rc2 HD
        go_upto_region 9 with fail
        obtain ⟨wd, hwd⟩ : ∃ wd, wd = w2.drew := ⟨_, rfl⟩
        have hbd : Below w2.heap.size w2 wd := by rw [hwd]; exact vdrew _
        have HDd := Lib.hid (HD2.out.still hbd)
        refine wp_region_held_drew (S := (fun _ => True)) (by kernel_rfl) trivial (fun r0 => ?_)
        rw [← hwd]
        clear hwd hbd HD2
        refine tk 0 rfl ?_
        try simp only [Act.put, qA, qB, qC, qD, qE, qF]
        refine tk 2 rfl ?_
        try simp only [Act.put, qA, qB, qC, qD, qE, qF]
        refine tk 3 rfl ?_
        try simp only [Act.put, qA, qB, qC, qD, qE, qF]
        refine wpAnyH_ready (rs := [1, 4]) (by kernel_rfl) (by simp) ?_
        refine AllReadyH.cons rfl (fun K hK => ?_) (AllReadyH.cons rfl (fun K hK => ?_) AllReadyH.nil)
        · have k4 := HDd.out.doc.cells.2.2.2.2
          go_simp
          refine hK.out _ _ trivial (fun _ => ?_)
          try simp only [Act.put, qA, qB, qC, qD, qE, qF]
          clear k4
          refine wpAnyH_ready (rs := [4]) (by kernel_rfl) (by simp) ?_
          refine AllReadyH.cons rfl (fun K hK => ?_) AllReadyH.nil
          go_simp
          refine (refTextR_any gr gr xs p1.2 _ HDd.out.rd).mono ?_; rintro x w3 ⟨rfl, hR3, hg3⟩
          rw [← HP2.out] at hR3
          rw [← HP2.out]
          have HD3 := Lib.hid (HDd.out.read hg3 hR3)
          clear hR3 hg3
          refine hK.out _ _ trivial (fun _ => ?_)
          try simp only [Act.put, qA, qB, qC, qD, qE, qF]
          refine tk 5 rfl ?_
          try simp only [Act.put, qA, qB, qC, qD, qE, qF]
          refine wpAnyH_ready (rs := [6]) (by kernel_rfl) (by simp) ?_
          refine AllReadyH.cons rfl (fun K hK => ?_) AllReadyH.nil
          go_simp
          refine hK.out _ _ trivial (fun _ => ?_)
          try simp only [Act.put, qA, qB, qC, qD, qE, qF]
          refine wpAnyH_ready (rs := [7]) (by kernel_rfl) (by simp) ?_
          refine AllReadyH.cons rfl (fun K hK => ?_) AllReadyH.nil
          rw [if_pos (by kernel_rfl)]
          refine wp_pushG (w0 := w3) (T := 47) (E := ERt) (enc := encA) Tryz.underlying47 infoRA rfl (by decide) (by decide) (fun _ => rfl) encA_1 (.tmp 43) (.tmp 48) rfl (gd + 1) (.slice o m c) X (strOfNums p1.1, strOfNums p2.1) w3.heap.size rfl rfl rfl HD3.out.r3 (by rw [HXL.out]; have := HLT.out; have := HN.out.2; omega) HD3.out.o.2.2.2 (fun v5 w5 hrow hb5 hg5 hat => ?_)
          obtain ⟨o5, c5, rfl⟩ := hrow.slice
          have hO := HD3.out.push3 hrow hg5 hat
          have hdoc : DocAt w5 gd ta.1 (strOfNums tf.1) NS NS (.slice o m c) := (hg5.block gd (heap_lt HD3.out.doc) (fun e => by have := (HD3.out.r3.form _ e.symm).1; omega)).trans HD3.out.doc
          have k5 := hdoc.cells.2.2.2.2
          have z5 := hdoc.froz 4
          have HO5 := Lib.hid hO
          clear hO hrow hb5 hg5 hat hdoc
          refine hK.out _ _ trivial (fun _ => ?_)
          try simp only [Act.put, qA, qB, qC, qD, qE, qF]
          refine tk 8 rfl ?_
          try simp only [Act.put, qA, qB, qC, qD, qE, qF]
          refine wpAnyH_ready (rs := [9]) (by kernel_rfl) (by simp) ?_
          refine AllReadyH.cons rfl (fun K hK => ?_) AllReadyH.nil
          go_simp
          have HO6 := HO5
          simp only [List.length_append, List.length_cons, List.length_nil, Nat.zero_add] at HO6
          clear HO5
          refine hK.out _ _ trivial (fun _ => ?_)
          try simp only [Act.put, qA, qB, qC, qD, qE, qF]
          refine wpAnyH_done (by kernel_rfl) ?_ _
          go_wp2_with fail
          go_roundw
          case rel => exact ⟨i + 1, X ++ [(strOfNums p1.1, strOfNums p2.1)], p2.2, o5, X.length + 1, c5, by go_num, HLT.out, Lib.hid ⟨HO6.out, by rw [List.length_append, HXL.out]; rfl, HST.out⟩⟩
          case measure => have h := HLT.out; simp [intOf]; omega
        · go_simp
          refine (refTextR_any gr gr xs p1.2 _ HDd.out.rd).mono ?_; rintro x w3 ⟨rfl, hR3, hg3⟩
          rw [← HP2.out] at hR3
          rw [← HP2.out]
          have HD3 := Lib.hid (HDd.out.read hg3 hR3)
          clear hR3 hg3
          refine hK.out _ _ trivial (fun _ => ?_)
          try simp only [Act.put, qA, qB, qC, qD, qE, qF]
          refine tk 5 rfl ?_
          try simp only [Act.put, qA, qB, qC, qD, qE, qF]
          refine wpAnyH_ready (rs := [1, 6]) (by kernel_rfl) (by simp) ?_
          refine AllReadyH.cons rfl (fun K hK => ?_) (AllReadyH.cons rfl (fun K hK => ?_) AllReadyH.nil)
          · have k4 := HD3.out.doc.cells.2.2.2.2
            go_simp
            refine hK.out _ _ trivial (fun _ => ?_)
            try simp only [Act.put, qA, qB, qC, qD, qE, qF]
            clear k4
            refine wpAnyH_ready (rs := [6]) (by kernel_rfl) (by simp) ?_
            refine AllReadyH.cons rfl (fun K hK => ?_) AllReadyH.nil
            go_simp
            refine hK.out _ _ trivial (fun _ => ?_)
            try simp only [Act.put, qA, qB, qC, qD, qE, qF]
            refine wpAnyH_ready (rs := [7]) (by kernel_rfl) (by simp) ?_
            refine AllReadyH.cons rfl (fun K hK => ?_) AllReadyH.nil
            rw [if_pos (by kernel_rfl)]
            refine wp_pushG (w0 := w3) (T := 47) (E := ERt) (enc := encA) Tryz.underlying47 infoRA rfl (by decide) (by decide) (fun _ => rfl) encA_1 (.tmp 43) (.tmp 48) rfl (gd + 1) (.slice o m c) X (strOfNums p1.1, strOfNums p2.1) w3.heap.size rfl rfl rfl HD3.out.r3 (by rw [HXL.out]; have := HLT.out; have := HN.out.2; omega) HD3.out.o.2.2.2 (fun v5 w5 hrow hb5 hg5 hat => ?_)
            obtain ⟨o5, c5, rfl⟩ := hrow.slice
            have hO := HD3.out.push3 hrow hg5 hat
            have hdoc : DocAt w5 gd ta.1 (strOfNums tf.1) NS NS (.slice o m c) := (hg5.block gd (heap_lt HD3.out.doc) (fun e => by have := (HD3.out.r3.form _ e.symm).1; omega)).trans HD3.out.doc
            have k5 := hdoc.cells.2.2.2.2
            have z5 := hdoc.froz 4
            have HO5 := Lib.hid hO
            clear hO hrow hb5 hg5 hat hdoc
            refine hK.out _ _ trivial (fun _ => ?_)
            try simp only [Act.put, qA, qB, qC, qD, qE, qF]
            refine tk 8 rfl ?_
            try simp only [Act.put, qA, qB, qC, qD, qE, qF]
            refine wpAnyH_ready (rs := [9]) (by kernel_rfl) (by simp) ?_
            refine AllReadyH.cons rfl (fun K hK => ?_) AllReadyH.nil
            go_simp
            have HO6 := HO5
            simp only [List.length_append, List.length_cons, List.length_nil, Nat.zero_add] at HO6
            clear HO5
            refine hK.out _ _ trivial (fun _ => ?_)
            try simp only [Act.put, qA, qB, qC, qD, qE, qF]
            refine wpAnyH_done (by kernel_rfl) ?_ _
            go_wp2_with fail
            go_roundw
            case rel => exact ⟨i + 1, X ++ [(strOfNums p1.1, strOfNums p2.1)], p2.2, o5, X.length + 1, c5, by go_num, HLT.out, Lib.hid ⟨HO6.out, by rw [List.length_append, HXL.out]; rfl, HST.out⟩⟩
            case measure => have h := HLT.out; simp [intOf]; omega
          · go_simp
            refine hK.out _ _ trivial (fun _ => ?_)
            try simp only [Act.put, qA, qB, qC, qD, qE, qF]
            refine wpAnyH_ready (rs := [1]) (by kernel_rfl) (by simp) ?_
            refine AllReadyH.cons rfl (fun K hK => ?_) AllReadyH.nil
            have k4 := (HD3.out.doc.below (belNew w3 (.cells #[.string (strOfNums p1.1), .string (strOfNums p2.1)] ERt))).cells.2.2.2.2
            go_simp
            refine hK.out _ _ trivial (fun _ => ?_)
            try simp only [Act.put, qA, qB, qC, qD, qE, qF]
            clear k4
            refine wpAnyH_ready (rs := [7]) (by kernel_rfl) (by simp) ?_
            refine AllReadyH.cons rfl (fun K hK => ?_) AllReadyH.nil
            rw [if_pos (by kernel_rfl)]
            refine wp_pushG (w0 := w3) (T := 47) (E := ERt) (enc := encA) Tryz.underlying47 infoRA rfl (by decide) (by decide) (fun _ => rfl) encA_1 (.tmp 43) (.tmp 48) rfl (gd + 1) (.slice o m c) X (strOfNums p1.1, strOfNums p2.1) w3.heap.size rfl rfl rfl HD3.out.r3 (by rw [HXL.out]; have := HLT.out; have := HN.out.2; omega) HD3.out.o.2.2.2 (fun v5 w5 hrow hb5 hg5 hat => ?_)
            obtain ⟨o5, c5, rfl⟩ := hrow.slice
            have hO := HD3.out.push3 hrow hg5 hat
            have hdoc : DocAt w5 gd ta.1 (strOfNums tf.1) NS NS (.slice o m c) := (hg5.block gd (heap_lt HD3.out.doc) (fun e => by have := (HD3.out.r3.form _ e.symm).1; omega)).trans HD3.out.doc
            have k5 := hdoc.cells.2.2.2.2
            have z5 := hdoc.froz 4
            have HO5 := Lib.hid hO
            clear hO hrow hb5 hg5 hat hdoc
            refine hK.out _ _ trivial (fun _ => ?_)
            try simp only [Act.put, qA, qB, qC, qD, qE, qF]
            refine tk 8 rfl ?_
            try simp only [Act.put, qA, qB, qC, qD, qE, qF]
            refine wpAnyH_ready (rs := [9]) (by kernel_rfl) (by simp) ?_
            refine AllReadyH.cons rfl (fun K hK => ?_) AllReadyH.nil
            go_simp
            have HO6 := HO5
            simp only [List.length_append, List.length_cons, List.length_nil, Nat.zero_add] at HO6
            clear HO5
            refine hK.out _ _ trivial (fun _ => ?_)
            try simp only [Act.put, qA, qB, qC, qD, qE, qF]
            refine wpAnyH_done (by kernel_rfl) ?_ _
            go_wp2_with fail
            go_roundw
            case rel => exact ⟨i + 1, X ++ [(strOfNums p1.1, strOfNums p2.1)], p2.2, o5, X.length + 1, c5, by go_num, HLT.out, Lib.hid ⟨HO6.out, by rw [List.length_append, HXL.out]; rfl, HST.out⟩⟩
            case measure => have h := HLT.out; simp [intOf]; omega
    · have d1 : decide ((i : Int) < (N : Int)) = false := by simp; omega
      have HA := Lib.hid (dAs_end HI.out.2.2 (fun h => hlt h.1))
      have hHD := HI.out.1
      have HD := Lib.hid hHD
      clear HI hHD rc2
      obtain ⟨t6, ht6⟩ : ∃ t6, t6 = rdB s1 64 := ⟨_, rfl⟩
      obtain ⟨um, hum⟩ : ∃ um, um = rdU t6.2 1 := ⟨_, rfl⟩
      obtain ⟨tb, htb⟩ : ∃ tb, tb = rdB um.2 um.1 := ⟨_, rfl⟩
      have HT6 := Lib.hid ht6
      have HUM := Lib.hid hum
      have HTB := Lib.hid htb
      clear ht6 hum htb
      go_wp2_with fail
      refine (refBytes_any2 gr gr xs s1 64 _ HD.out.rd).mono ?_; rintro e w2 ⟨v, rfl, hs2, hR2, hg2, hbk2⟩
      rw [← HT6.out] at hs2 hR2
      have hok6 : okB t6.1 := by
        rw [HT6.out]
        obtain ⟨_, ii, _, _, _, ho, _, _, _, hst⟩ := HD.out.rd
        refine rdB_ok ?_ 64
        cases s1 with
        | none => intro x hx; cases hx
        | some l => rw [Option.getD_some, hst l rfl]; exact ho.drop ii
      have hl6 : t6.1.length ≤ 1000 := by
        rw [HT6.out]
        cases s1 with
        | none => simp [rdB]
        | some l =>
          unfold rdB
          simp only []
          split
          · rw [List.length_take]; simp; omega
          · simp
      obtain ⟨vo, vc, rfl, hvl, hvn, hvc⟩ := hs2
      have HD2 := Lib.hid (HD.out.read hg2 hR2)
      have HBw2 : Hid ((vo = none → t6.1 = []) ∧ (∀ a, vo = some a → ∀ i, i < t6.1.length → w2.cell? (a.add i) = some (.int .u8 (t6.1.getD i 0))) ∧ (∀ (a : Addr) {i : Nat} {u : Value} {wr : World}, vo = some a → i < t6.1.length → w2.cell? (a.add i) = some u → Below gr w2 wr → wr.cell? (a.add i) = some u) ∧ okB t6.1 ∧ t6.1.length ≤ 1000) := Lib.hid ⟨hvn, hvc, (fun a i u wr ha hi hc hb => by
        subst ha
        rcases hbk2 with hx | hx
        · exact absurd (tb_nil HT6.out hx HD.out.rd) (fun e => by rw [e] at hi; cases hi)
        · exact (hb.cell (p := a.add i) (by rw [add_block]; exact hx a.block rfl)).trans hc), hok6, hl6⟩
      clear hR2 hg2 HD hvl hvn hvc hbk2 hok6 hl6
      go_wp2_with fail
      go_loopw [54] (fun j wr => ∃ (i : Nat) (o1 : Option Addr) (c1 : Nat), i ≤ t6.1.length ∧ j = .int .i64 i ∧ Hid (DB w gr gd (gd + 1) xs t6.2 ta.1 (strOfNums tf.1) (.slice o1 i c1) NS (.slice o m c) (t6.1.take i) [] X wr ∧ Below gr w2 wr)) (fun j _ => t6.1.length - (intOf j).toNat)
      case atStart => exact ⟨0, none, 0, Nat.zero_le _, rfl, Lib.hid ⟨by rw [List.take_zero]; exact HD2.out, Below.refl _ _⟩⟩
      case round =>
        clear HD2
        obtain ⟨i, o1, c1, hi, rfl, HI⟩ := hrel
        by_cases hlt : i < t6.1.length
        · have d1 : decide ((i : Int) < (t6.1.length : Int)) = true := by simp; omega
          obtain ⟨ba, rfl⟩ : ∃ ba, vo = some ba := by
            cases vo with
            | none => rw [HBw2.out.1 rfl] at hlt; simp at hlt
            | some ba => exact ⟨ba, rfl⟩
          have q0 := HBw2.out.2.2.1 ba rfl hlt (HBw2.out.2.1 ba rfl i hlt) HI.out.2
          have b0 : (0 : Int) ≤ (i : Int) := by omega
          have b1 : (i : Int) < (t6.1.length : Int) := by omega
          have hbx := okB_get HBw2.out.2.2.2.1 i
          have HSN : Hid (t6.1.take (i + 1) = t6.1.take i ++ [t6.1.getD i 0]) := Lib.hid (by rw [List.take_add_one, List.getD_eq_getElem?_getD, List.getElem?_eq_getElem hlt]; rfl)
          generalize t6.1.getD i 0 = x at q0 hbx HSN
          have s1 : IntKind.i64.wrap x = x := IntWalk.i64_in _ (by omega)
          have HD := Lib.hid HI.out.1
          have HBW := Lib.hid HI.out.2
          have HLT := Lib.hid hlt
          have k1 := HD.out.doc.cells.2.2.1
          have b2 : (i : Int) < 1001 := by have := HBw2.out.2.2.2.2; omega
          have hll : (t6.1.take i).length ≤ 1000001 := by rw [List.length_take]; have := HBw2.out.2.2.2.2; omega
          have hlen : (t6.1.take i).length = i := by rw [List.length_take]; omega
          have HLEN : Hid ((t6.1.take (i + 1)).length = i + 1) := Lib.hid (by rw [List.length_take]; omega)
          clear HI hlt hbx hlen
          go_wp2_with (at_builtin; refine wpList_pushG (w0 := wr) (T := 46) (E := 3) (enc := encI1) Tryz.underlying46 infoI rfl (by decide) (by decide) (fun _ => rfl) encI1_1 rfl (.tmp 59) (.tmp 62) rfl (gd + 1) (.slice o1 i c1) (t6.1.take i) x wr.heap.size rfl rfl rfl HD.out.r1 hll HD.out.o.2.2.2 ?_; intro v5 w5 ho5 hb5 hg5 hat5; have HO5 := Lib.hid ho5; have HG5 := Lib.hid hg5; have HAT5 := Lib.hid hat5; have HB5 := Lib.hid hb5; have HSL := Lib.hid ho5.slice; have k5 := (DocAt.cells ((hg5.block gd (heap_lt HD.out.doc) (fun e => by have := (HD.out.r1.form _ e.symm).1; omega)).trans HD.out.doc)).2.2.1; have z5 := DocAt.froz ((hg5.block gd (heap_lt HD.out.doc) (fun e => by have := (HD.out.r1.form _ e.symm).1; omega)).trans HD.out.doc) 2; clear ho5 hb5 hg5 hat5 k1; obtain ⟨o5, c5, rfl⟩ := HSL.out)
          have hO := HD.out.push1 HO5.out HG5.out HAT5.out
          rw [← HSN.out] at hO
          rw [HLEN.out] at hO
          have hBn := HBW.out.trans ((HB5.out.mono (by have := HD.out.o; omega)).setCell (p := ⟨gd, 2, none⟩) (by show gr ≤ gd; have := HD.out.o; omega) (.slice o5 (i + 1) c5))
          go_roundw
          case rel => exact ⟨i + 1, o5, c5, HLT.out, by go_num, Lib.hid ⟨hO, hBn⟩⟩
          case measure => have h := HLT.out; simp [intOf]; omega
        · obtain rfl : i = t6.1.length := by omega
          have d1 : decide ((t6.1.length : Int) < (t6.1.length : Int)) = false := by simp
          have hE := HI.out.1
          rw [List.take_length] at hE
          have HDA := Lib.hid hE
          clear HI hE
          obtain ⟨V1, hV1⟩ : ∃ V1, V1 = Value.slice o1 t6.1.length c1 := ⟨_, rfl⟩
          rw [← hV1] at HDA
          clear hV1
          go_wp2_with fail
          refine (refU_any gr gr xs t6.2 1 _ HDA.out.rd).mono ?_; rintro e w8 ⟨rfl, hR8, hg8⟩
          have hbd := refU_bd HDA.out.rd 1
          rw [← HUM.out] at hR8 hbd
          have e1 : rdU t6.2 1 = um := HUM.out.symm
          rw [e1]
          obtain ⟨M, hM⟩ : ∃ M : Nat, um.1 = (M : Int) := ⟨um.1.toNat, by omega⟩
          have hM2 : M < 256 := by have h : um.1 < 256 := hbd.2; omega
          rw [hM]
          have wm : IntKind.i64.wrap (M : Int) = M := IntWalk.i64_in _ (by omega)
          have HD8 := Lib.hid (HDA.out.read hg8 hR8)
          have HM := Lib.hid hM
          clear hR8 hg8 hbd hM e1 HDA
          go_wp2_with fail
          refine (refBytes_any2 gr gr xs um.2 (M : Int) _ HD8.out.rd).mono ?_; rintro e w9 ⟨v, rfl, hs9, hR9, hg9, hbk9⟩
          have e2 : rdB um.2 (M : Int) = tb := by rw [← HM.out]; exact HTB.out.symm
          rw [e2] at hs9 hR9
          have hok9 : okB tb.1 := by
            rw [HTB.out]
            obtain ⟨_, ii, _, _, _, ho, _, _, _, hst⟩ := HD8.out.rd
            refine rdB_ok ?_ um.1
            cases hu : um.2 with
            | none => intro x hx; cases hx
            | some l => rw [Option.getD_some, hst l hu]; exact ho.drop ii
          have hl9 : tb.1.length ≤ 1000 := by
            rw [← e2]
            unfold rdB
            split
            · split
              · rw [List.length_take]; simp; omega
              · simp
            · simp
          obtain ⟨xo, xc, rfl, hvl, hvn, hvc⟩ := hs9
          have HD9 := Lib.hid (HD8.out.read hg9 hR9)
          have HBw9 : Hid ((xo = none → tb.1 = []) ∧ (∀ a, xo = some a → ∀ i, i < tb.1.length → w9.cell? (a.add i) = some (.int .u8 (tb.1.getD i 0))) ∧ (∀ (a : Addr) {i : Nat} {u : Value} {wr : World}, xo = some a → i < tb.1.length → w9.cell? (a.add i) = some u → Below gr w9 wr → wr.cell? (a.add i) = some u) ∧ okB tb.1 ∧ tb.1.length ≤ 1000) := Lib.hid ⟨hvn, hvc, (fun a i u wr ha hi hc hb => by
            subst ha
            rcases hbk9 with hx | hx
            · exact absurd (tb_nil (show tb = rdB um.2 (M : Int) from e2.symm) hx HD8.out.rd) (fun e => by rw [e] at hi; cases hi)
            · exact (hb.cell (p := a.add i) (by rw [add_block]; exact hx a.block rfl)).trans hc), hok9, hl9⟩
          clear hR9 hg9 HD8 hvl hvn hvc hbk9 hok9 hl9 wm
          go_wp2_with fail
          go_loopw [72] (fun j wr => ∃ (i : Nat) (o1 : Option Addr) (c1 : Nat), i ≤ tb.1.length ∧ j = .int .i64 i ∧ Hid (DB w gr gd (gd + 1) xs tb.2 ta.1 (strOfNums tf.1) V1 (.slice o1 i c1) (.slice o m c) t6.1 (tb.1.take i) X wr ∧ Below gr w9 wr)) (fun j _ => tb.1.length - (intOf j).toNat)
          case atStart => exact ⟨0, none, 0, Nat.zero_le _, rfl, Lib.hid ⟨by rw [List.take_zero]; exact HD9.out, Below.refl _ _⟩⟩
          case round =>
            clear HD9
            obtain ⟨i, o1, c1, hi, rfl, HI⟩ := hrel
            by_cases hlt : i < tb.1.length
            · have d1 : decide ((i : Int) < (tb.1.length : Int)) = true := by simp; omega
              obtain ⟨ba, rfl⟩ : ∃ ba, xo = some ba := by
                cases xo with
                | none => rw [HBw9.out.1 rfl] at hlt; simp at hlt
                | some ba => exact ⟨ba, rfl⟩
              have q0 := HBw9.out.2.2.1 ba rfl hlt (HBw9.out.2.1 ba rfl i hlt) HI.out.2
              have b0 : (0 : Int) ≤ (i : Int) := by omega
              have b1 : (i : Int) < (tb.1.length : Int) := by omega
              have hbx := okB_get HBw9.out.2.2.2.1 i
              have HSN : Hid (tb.1.take (i + 1) = tb.1.take i ++ [tb.1.getD i 0]) := Lib.hid (by rw [List.take_add_one, List.getD_eq_getElem?_getD, List.getElem?_eq_getElem hlt]; rfl)
              generalize tb.1.getD i 0 = x at q0 hbx HSN
              have s1 : IntKind.i64.wrap x = x := IntWalk.i64_in _ (by omega)
              have HD := Lib.hid HI.out.1
              have HBW := Lib.hid HI.out.2
              have HLT := Lib.hid hlt
              have k1 := HD.out.doc.cells.2.2.2.1
              have b2 : (i : Int) < 1001 := by have := HBw9.out.2.2.2.2; omega
              have hll : (tb.1.take i).length ≤ 1000001 := by rw [List.length_take]; have := HBw9.out.2.2.2.2; omega
              have hlen : (tb.1.take i).length = i := by rw [List.length_take]; omega
              have HLEN : Hid ((tb.1.take (i + 1)).length = i + 1) := Lib.hid (by rw [List.length_take]; omega)
              clear HI hlt hbx hlen
              go_wp2_with (at_builtin; refine wpList_pushG (w0 := wr) (T := 46) (E := 3) (enc := encI1) Tryz.underlying46 infoI rfl (by decide) (by decide) (fun _ => rfl) encI1_1 rfl (.tmp 77) (.tmp 80) rfl (gd + 1) (.slice o1 i c1) (tb.1.take i) x wr.heap.size rfl rfl rfl HD.out.r2 hll HD.out.o.2.2.2 ?_; intro v5 w5 ho5 hb5 hg5 hat5; have HO5 := Lib.hid ho5; have HG5 := Lib.hid hg5; have HAT5 := Lib.hid hat5; have HB5 := Lib.hid hb5; have HSL := Lib.hid ho5.slice; have k5 := (DocAt.cells ((hg5.block gd (heap_lt HD.out.doc) (fun e => by have := (HD.out.r2.form _ e.symm).1; omega)).trans HD.out.doc)).2.2.2.1; have z5 := DocAt.froz ((hg5.block gd (heap_lt HD.out.doc) (fun e => by have := (HD.out.r2.form _ e.symm).1; omega)).trans HD.out.doc) 3; clear ho5 hb5 hg5 hat5 k1; obtain ⟨o5, c5, rfl⟩ := HSL.out)
              have hO := HD.out.push2 HO5.out HG5.out HAT5.out
              rw [← HSN.out] at hO
              rw [HLEN.out] at hO
              have hBn := HBW.out.trans ((HB5.out.mono (by have := HD.out.o; omega)).setCell (p := ⟨gd, 3, none⟩) (by show gr ≤ gd; have := HD.out.o; omega) (.slice o5 (i + 1) c5))
              go_roundw
              case rel => exact ⟨i + 1, o5, c5, HLT.out, by go_num, Lib.hid ⟨hO, hBn⟩⟩
              case measure => have h := HLT.out; simp [intOf]; omega
            · obtain rfl : i = tb.1.length := by omega
              have d1 : decide ((tb.1.length : Int) < (tb.1.length : Int)) = false := by simp
              have hE := HI.out.1
              rw [List.take_length] at hE
              have HDB := Lib.hid hE
              clear HI hE
              have HBK : Hid (dRd t1.2 = (⟨ta.1, strOfNums tf.1, t6.1, tb.1, X⟩, tb.2)) := Lib.hid (by
                unfold dRd
                rw [← HTA.out, ← HTF.out, ← HTN.out, HN.out.1, Int.toNat_natCast, HA.out]
                simp only []
                rw [← HT6.out, ← HUM.out, ← HTB.out])
              have HOK : Hid (dbOk s = (doneB tb.2 && rightB ⟨ta.1, strOfNums tf.1, t6.1, tb.1, X⟩ && decide (strOfNums (imB ⟨ta.1, strOfNums tf.1, t6.1, tb.1, X⟩) = s))) := Lib.hid (by
                unfold dbOk
                rw [HSI.out, ← HT1.out, HBK.out])
              obtain ⟨V2, hV2⟩ : ∃ V2, V2 = Value.slice o1 tb.1.length c1 := ⟨_, rfl⟩
              rw [← hV2] at HDB
              clear hV2
              obtain ⟨vv4, ii4, hrb, -⟩ := HDB.out.rd
              obtain ⟨-, -, rc4⟩ := cell3 hrb
              clear hrb
              cases hs3 : tb.2 with
              | none =>
                rw [hs3] at rc4
                have rc4 : wr.cell? ⟨gr, 2, none⟩ = some (.bool true) := rc4
                have HNO : Hid (dbOk s = false) := Lib.hid (by rw [HOK.out, hs3]; rfl)
                clear hs3 HOK HBK
                obtain ⟨y0, y1, y2, y3, y4⟩ := DocAt.cells HDB.out.res
                have f0 := DocAt.froz HDB.out.res 0
                have f1 := DocAt.froz HDB.out.res 1
                have f2 := DocAt.froz HDB.out.res 2
                have f3 := DocAt.froz HDB.out.res 3
                have f4 := DocAt.froz HDB.out.res 4
                have HZ : Hid (DocAt (((((wr.setCell ⟨w.heap.size, 0, none⟩ (.int .u32 0)).setCell ⟨w.heap.size, 1, none⟩ (.string ⟨#[]⟩)).setCell ⟨w.heap.size, 2, none⟩ NS).setCell ⟨w.heap.size, 3, none⟩ NS).setCell ⟨w.heap.size, 4, none⟩ NS) w.heap.size 0 ⟨#[]⟩ NS NS NS ∧ Below w.heap.size w (((((wr.setCell ⟨w.heap.size, 0, none⟩ (.int .u32 0)).setCell ⟨w.heap.size, 1, none⟩ (.string ⟨#[]⟩)).setCell ⟨w.heap.size, 2, none⟩ NS).setCell ⟨w.heap.size, 3, none⟩ NS).setCell ⟨w.heap.size, 4, none⟩ NS)) := Lib.hid ⟨vset5 HDB.out.res _ _ _ _ _, HDB.out.below.trans ((vtch5 wr w.heap.size (.int .u32 0) (.string ⟨#[]⟩) NS NS NS).below (B := w.heap.size) HDB.out.below.size (fun i _ e => by have e : i = w.heap.size := e; omega))⟩
                go_wp2_with (refine wpList_skip (by rfl) ?_)
                refine bodyPost_ret (resB2 Tryz.results50 rfl (loadVarD HZ.out.1)) rfl ?_
                unfold DbPost
                rw [HNO.out, if_neg (by simp)]
                exact ⟨rfl, HZ.out.2⟩
              | some l3 =>
                rw [hs3] at rc4
                have rc4 : wr.cell? ⟨gr, 2, none⟩ = some (.bool false) := rc4
                have HL := Lib.hid (refLeft_any gr gr xs tb.2 wr HDB.out.rd)
                rw [hs3, Option.getD_some] at HL
                by_cases h0 : l3 = []
                · subst h0
                  have hwf := imRd_wf t1.2 (by
                    rw [HT1.out]
                    exact (rdU_bd2 (some xs) (by rw [← HSI.out]; exact okB_strI s) 1 (by omega)).2.2)
                  rw [dRd_eq (by rw [HBK.out, hs3]; simp), HBK.out] at hwf
                  have hds : DocSees wr t6.1 tb.1 X V1 V2 (.slice o m c) := ⟨HDB.out.r1.sees (fun _ => rfl), HDB.out.r2.sees (fun _ => rfl), HDB.out.r3.sees (fun _ => rfl)⟩
                  have HC := Lib.hid (And.intro hwf hds)
                  have HS3 := Lib.hid hs3
                  obtain ⟨b1, b2, b3, b4, b5⟩ := HDB.out.doc.cells
                  have d5 : decide ((0 : Int) < 0) = false := by decide
                  clear hwf hds hs3
                  have e0 : ([] : List Int).length = 0 := rfl
                  rw [e0] at HL
                  clear e0
                  go_wp2_with (refine wpList_skip (by rfl) ?_)
                  refine HL.out.mono ?_; rintro e wq ⟨rfl, nq, rfl⟩
                  have hbq : Below wr.heap.size wr (wr.drewN nq) := ⟨rfl, rfl, rfl, Nat.le_refl _, fun _ _ => rfl⟩
                  have HDQ := Lib.hid (HDB.out.still hbq)
                  clear hbq b1 b2 b3 b4 b5 rc4
                  generalize wr.drewN nq = wq at *
                  obtain ⟨b1, b2, b3, b4, b5⟩ := HDQ.out.doc.cells
                  have hds : DocSees wq t6.1 tb.1 X V1 V2 (.slice o m c) := ⟨HDQ.out.r1.sees (fun _ => rfl), HDQ.out.r2.sees (fun _ => rfl), HDQ.out.r3.sees (fun _ => rfl)⟩
                  have HR := Lib.hid (refRight15_any ⟨ta.1, strOfNums tf.1, t6.1, tb.1, X⟩ V1 V2 (.slice o m c) wq hds HC.out.1.1 (Nat.le_trans HC.out.1.2.1 (by omega)))
                  have hL1 := HDQ.out.r1.slice
                  have hL2 := HDQ.out.r2.slice
                  obtain ⟨q1, qc1, hV1⟩ := hL1
                  obtain ⟨q2, qc2, hV2⟩ := hL2
                  have HV12 := Lib.hid (And.intro hV1 hV2)
                  clear hds hV1 hV2
                  generalize hrb : rightB ⟨ta.1, strOfNums tf.1, t6.1, tb.1, X⟩ = RB at HR HOK
                  cases RB with
                  | false =>
                    have HNO : Hid (dbOk s = false) := Lib.hid (by rw [HOK.out]; simp)
                    clear HOK HBK hrb
                    go_wp2_with (refine wpList_skip (by rfl) ?_)
                    refine HR.out.mono ?_; rintro e wy ⟨rfl, hby⟩
                    have HDY := Lib.hid (HDQ.out.still hby)
                    clear hby b1 b2 b3 b4 b5
                    obtain ⟨y0, y1, y2, y3, y4⟩ := DocAt.cells HDY.out.res
                    have f0 := DocAt.froz HDY.out.res 0
                    have f1 := DocAt.froz HDY.out.res 1
                    have f2 := DocAt.froz HDY.out.res 2
                    have f3 := DocAt.froz HDY.out.res 3
                    have f4 := DocAt.froz HDY.out.res 4
                    have HZ : Hid (DocAt (((((wy.setCell ⟨w.heap.size, 0, none⟩ (.int .u32 0)).setCell ⟨w.heap.size, 1, none⟩ (.string ⟨#[]⟩)).setCell ⟨w.heap.size, 2, none⟩ NS).setCell ⟨w.heap.size, 3, none⟩ NS).setCell ⟨w.heap.size, 4, none⟩ NS) w.heap.size 0 ⟨#[]⟩ NS NS NS ∧ Below w.heap.size w (((((wy.setCell ⟨w.heap.size, 0, none⟩ (.int .u32 0)).setCell ⟨w.heap.size, 1, none⟩ (.string ⟨#[]⟩)).setCell ⟨w.heap.size, 2, none⟩ NS).setCell ⟨w.heap.size, 3, none⟩ NS).setCell ⟨w.heap.size, 4, none⟩ NS)) := Lib.hid ⟨vset5 HDY.out.res _ _ _ _ _, HDY.out.below.trans ((vtch5 wy w.heap.size (.int .u32 0) (.string ⟨#[]⟩) NS NS NS).below (B := w.heap.size) HDY.out.below.size (fun i _ e => by have e : i = w.heap.size := e; omega))⟩
                    go_wp2_with (refine wpList_skip (by rfl) ?_)
                    refine bodyPost_ret (resB2 Tryz.results50 rfl (loadVarD HZ.out.1)) rfl ?_
                    unfold DbPost
                    rw [HNO.out, if_neg (by simp)]
                    exact ⟨rfl, HZ.out.2⟩
                  | true =>
                    have HPU := Lib.hid (fun (W : World) (h : DocSees W t6.1 tb.1 X V1 V2 (.slice o m c)) => imRef_any ⟨ta.1, strOfNums tf.1, t6.1, tb.1, X⟩ V1 V2 (.slice o m c) W h HC.out.1.1 hrb)
                    clear hrb
                    go_wp2_with (refine wpList_skip (by rfl) ?_)
                    refine HR.out.mono ?_; rintro e wy ⟨rfl, hby⟩
                    have HDY := Lib.hid (HDQ.out.still hby)
                    clear hby b1 b2 b3 b4 b5 HDQ HDB
                    obtain ⟨b1, b2, b3, b4, b5⟩ := HDY.out.doc.cells
                    have hds : DocSees wy t6.1 tb.1 X V1 V2 (.slice o m c) := ⟨HDY.out.r1.sees (fun _ => rfl), HDY.out.r2.sees (fun _ => rfl), HDY.out.r3.sees (fun _ => rfl)⟩
                    have HP := Lib.hid (HPU.out wy hds)
                    clear hds HPU
                    generalize hpt : strOfNums (imB ⟨ta.1, strOfNums tf.1, t6.1, tb.1, X⟩) = PT at HP HOK
                    clear hpt
                    go_wp2_with (refine wpList_skip (by rfl) ?_)
                    refine HP.out.mono ?_; rintro e wz ⟨rfl, hbz⟩
                    have HDZ := Lib.hid (HDY.out.still hbz)
                    clear hbz b1 b2 b3 b4 b5 HDY HP
                    by_cases heq : PT = s
                    · subst heq
                      have dn : (PT.toList != PT.toList) = false := by simp
                      have de : (PT.toList == PT.toList) = true := by simp
                      have HYES : Hid (dbOk PT = true) := Lib.hid (by rw [HOK.out, HS3.out]; simp [doneB])
                      have HIM : Hid (imC PT = ⟨ta.1, strOfNums tf.1, t6.1, tb.1, X⟩) := Lib.hid (by
                        have h := (dbOk_yes (dbOk_no HYES.out)).2
                        rw [HSI.out, ← HT1.out, HBK.out] at h
                        exact h.symm)
                      obtain ⟨rfl, rfl⟩ := HV12.out
                      obtain ⟨b1, b2, b3, b4, b5⟩ := HDZ.out.doc.cells
                      obtain ⟨y0, y1, y2, y3, y4⟩ := DocAt.cells HDZ.out.res
                      have f0 := DocAt.froz HDZ.out.res 0
                      have f1 := DocAt.froz HDZ.out.res 1
                      have f2 := DocAt.froz HDZ.out.res 2
                      have f3 := DocAt.froz HDZ.out.res 3
                      have f4 := DocAt.froz HDZ.out.res 4
                      have HTC := Lib.hid (vtch5 wz w.heap.size (.int .u32 ta.1) (.string (strOfNums tf.1)) (.slice q1 t6.1.length qc1) (.slice q2 tb.1.length qc2) (.slice o m c))
                      have HZ : Hid (DocAt (((((wz.setCell ⟨w.heap.size, 0, none⟩ (.int .u32 ta.1)).setCell ⟨w.heap.size, 1, none⟩ (.string (strOfNums tf.1))).setCell ⟨w.heap.size, 2, none⟩ (.slice q1 t6.1.length qc1)).setCell ⟨w.heap.size, 3, none⟩ (.slice q2 tb.1.length qc2)).setCell ⟨w.heap.size, 4, none⟩ (.slice o m c)) w.heap.size ta.1 (strOfNums tf.1) (.slice q1 t6.1.length qc1) (.slice q2 tb.1.length qc2) (.slice o m c)) := Lib.hid (vset5 HDZ.out.res _ _ _ _ _)
                      clear HOK HBK HL HR
                      go_wp2_with (refine wpList_skip (by rfl) ?_)
                      refine bodyPost_ret (resB2 Tryz.results50 rfl (loadVarD HZ.out)) rfl ?_
                      unfold DbPost
                      rw [HYES.out, if_pos rfl, HIM.out]
                      have ho := HDZ.out.o
                      refine ⟨_, _, _, rfl, ⟨(HDZ.out.r1.keep (fun d hd hl => HTC.out.block d hl (fun e => by have e : d = w.heap.size := e; have := (HDZ.out.r1.form d hd).1; omega))).sees (fun _ => rfl), (HDZ.out.r2.keep (fun d hd hl => HTC.out.block d hl (fun e => by have e : d = w.heap.size := e; have := (HDZ.out.r2.form d hd).1; omega))).sees (fun _ => rfl), (HDZ.out.r3.keep (fun d hd hl => HTC.out.block d hl (fun e => by have e : d = w.heap.size := e; have := (HDZ.out.r3.form d hd).1; omega))).sees (fun _ => rfl)⟩, HDZ.out.below.trans (HTC.out.below (B := w.heap.size) HDZ.out.below.size (fun i _ e => by have e : i = w.heap.size := e; omega)), fun d hd => ?_⟩
                      rcases hd with hd | hd | hd
                      · exact ⟨by have := (HDZ.out.r1.form d hd).1; omega, Nat.lt_of_lt_of_le (HDZ.out.r1.form d hd).2 HTC.out.size⟩
                      · exact ⟨by have := (HDZ.out.r2.form d hd).1; omega, Nat.lt_of_lt_of_le (HDZ.out.r2.form d hd).2 HTC.out.size⟩
                      · exact ⟨by have := (HDZ.out.r3.form d hd).1; omega, Nat.lt_of_lt_of_le (HDZ.out.r3.form d hd).2 HTC.out.size⟩
                    · have dn : (PT.toList != s.toList) = true := by
                        have h : ¬ PT.toList = s.toList := fun e => heq (klB_inj e)
                        simp [h]
                      have de : (PT.toList == s.toList) = false := by
                        have h : ¬ PT.toList = s.toList := fun e => heq (klB_inj e)
                        simp [h]
                      have HNO : Hid (dbOk s = false) := Lib.hid (by rw [HOK.out]; simp [heq])
                      clear HOK HBK heq HL HR
                      obtain ⟨y0, y1, y2, y3, y4⟩ := DocAt.cells HDZ.out.res
                      have f0 := DocAt.froz HDZ.out.res 0
                      have f1 := DocAt.froz HDZ.out.res 1
                      have f2 := DocAt.froz HDZ.out.res 2
                      have f3 := DocAt.froz HDZ.out.res 3
                      have f4 := DocAt.froz HDZ.out.res 4
                      have HZ : Hid (DocAt (((((wz.setCell ⟨w.heap.size, 0, none⟩ (.int .u32 0)).setCell ⟨w.heap.size, 1, none⟩ (.string ⟨#[]⟩)).setCell ⟨w.heap.size, 2, none⟩ NS).setCell ⟨w.heap.size, 3, none⟩ NS).setCell ⟨w.heap.size, 4, none⟩ NS) w.heap.size 0 ⟨#[]⟩ NS NS NS ∧ Below w.heap.size w (((((wz.setCell ⟨w.heap.size, 0, none⟩ (.int .u32 0)).setCell ⟨w.heap.size, 1, none⟩ (.string ⟨#[]⟩)).setCell ⟨w.heap.size, 2, none⟩ NS).setCell ⟨w.heap.size, 3, none⟩ NS).setCell ⟨w.heap.size, 4, none⟩ NS)) := Lib.hid ⟨vset5 HDZ.out.res _ _ _ _ _, HDZ.out.below.trans ((vtch5 wz w.heap.size (.int .u32 0) (.string ⟨#[]⟩) NS NS NS).below (B := w.heap.size) HDZ.out.below.size (fun i _ e => by have e : i = w.heap.size := e; omega))⟩
                      go_wp2_with (refine wpList_skip (by rfl) ?_)
                      refine bodyPost_ret (resB2 Tryz.results50 rfl (loadVarD HZ.out.1)) rfl ?_
                      unfold DbPost
                      rw [HNO.out, if_neg (by simp)]
                      exact ⟨rfl, HZ.out.2⟩
                · have hp : 0 < l3.length := List.length_pos_iff.2 h0
                  have HNO : Hid (dbOk s = false) := Lib.hid (by
                    rw [HOK.out, hs3]
                    have : doneB (some l3) = false := by
                      unfold doneB
                      simp [h0]
                    rw [this]
                    rfl)
                  generalize l3.length = kk at hp HL
                  have d5 : decide ((0 : Int) < (kk : Int)) = true := by simp; omega
                  have d6 : decide (0 < kk) = true := by simp; omega
                  clear hs3 HOK HBK h0 hp
                  go_wp2_with (refine wpList_skip (by rfl) ?_)
                  refine HL.out.mono ?_; rintro e wq ⟨rfl, nq, rfl⟩
                  have hbq : Below wr.heap.size wr (wr.drewN nq) := ⟨rfl, rfl, rfl, Nat.le_refl _, fun _ _ => rfl⟩
                  have HDQ := Lib.hid (HDB.out.still hbq)
                  clear hbq
                  generalize wr.drewN nq = wq at *
                  obtain ⟨y0, y1, y2, y3, y4⟩ := DocAt.cells HDQ.out.res
                  have f0 := DocAt.froz HDQ.out.res 0
                  have f1 := DocAt.froz HDQ.out.res 1
                  have f2 := DocAt.froz HDQ.out.res 2
                  have f3 := DocAt.froz HDQ.out.res 3
                  have f4 := DocAt.froz HDQ.out.res 4
                  have HZ : Hid (DocAt (((((wq.setCell ⟨w.heap.size, 0, none⟩ (.int .u32 0)).setCell ⟨w.heap.size, 1, none⟩ (.string ⟨#[]⟩)).setCell ⟨w.heap.size, 2, none⟩ NS).setCell ⟨w.heap.size, 3, none⟩ NS).setCell ⟨w.heap.size, 4, none⟩ NS) w.heap.size 0 ⟨#[]⟩ NS NS NS ∧ Below w.heap.size w (((((wq.setCell ⟨w.heap.size, 0, none⟩ (.int .u32 0)).setCell ⟨w.heap.size, 1, none⟩ (.string ⟨#[]⟩)).setCell ⟨w.heap.size, 2, none⟩ NS).setCell ⟨w.heap.size, 3, none⟩ NS).setCell ⟨w.heap.size, 4, none⟩ NS)) := Lib.hid ⟨vset5 HDQ.out.res _ _ _ _ _, HDQ.out.below.trans ((vtch5 wq w.heap.size (.int .u32 0) (.string ⟨#[]⟩) NS NS NS).below (B := w.heap.size) HDQ.out.below.size (fun i _ e => by have e : i = w.heap.size := e; omega))⟩
                  go_wp2_with (refine wpList_skip (by rfl) ?_)
                  refine bodyPost_ret (resB2 Tryz.results50 rfl (loadVarD HZ.out.1)) rfl ?_
                  unfold DbPost
                  rw [HNO.out, if_neg (by simp)]
                  exact ⟨rfl, HZ.out.2⟩
end Go.Proofs.YtiifbhiodegipaaGreatDoor
