/- The document's view: a handle's counts, of any bytes. -/
import Derived.Test.YtiifbhiodegipaaGreatDoorJIw
import Derived.Test.YtiifbhiodegipaaGreatDoorVwDbW
import Derived.Test.YtiifbhiodegipaaGreatDoorHnReadO
import Derived.Test.YtiifbhiodegipaaGreatDoorHnMath
import Derived.Test.YtiifbhiodegipaaGreatDoorHnRefA
import Derived.Test.YtiifbhiodegipaaGreatDoorHnSet
import Derived.Test.YtiifbhiodegipaaGreatDoorJPk
import Derived.Test.YtiifbhiodegipaaGreatDoorVwRn
namespace Go.Proofs.YtiifbhiodegipaaGreatDoor
open Go.RowKit
def dC (s : ByteArray) : HN.CntL × Option (List Int) := HN.rdC (rdU (rdU (some (strI s)) 1).2 2).1.toNat (rdU (rdU (some (strI s)) 1).2 2).2
theorem dC_yes {s : ByteArray} (h : HN.okHB s = true) : dC s = HN.readR s ∧ HN.rightH (HN.readR s).1 = true ∧ strOfNums (HN.hnB (HN.readR s).1) = s ∧ (HN.readR s).2 = some [] := by
  have hb := HN.read_back h
  have h' := h
  unfold HN.okHB at h'
  simp only [Bool.and_eq_true] at h'
  refine ⟨?_, hb.1, hb.2, HN.doneB_some h'.2.1⟩
  have hc := HN.strI_cons (s := s) (c := 72) h'.1
  unfold dC HN.readR HN.hst1
  rw [hc, rdU1_cons]
theorem dC_back {s : ByteArray} {X : HN.CntL} (hX : dC s = (X, some [])) (hr : HN.rightH X = true) (hp : strOfNums (HN.hnB X) = s) (hb : HN.CntBd X) (hl : X.length ≤ 4000) : HN.okHB s = true := by
  have := (HN.read_put hb hr hl).1
  rwa [hp] at this
theorem dC_bd (s : ByteArray) (hs : s.size ≤ 1000) : HN.CntBd (dC s).1 ∧ (dC s).1.length ≤ 1000 ∧ (rdU (rdU (some (strI s)) 1).2 2).1 < 65536 ∧ 0 ≤ (rdU (rdU (some (strI s)) 1).2 2).1 := by
  obtain ⟨-, -, a0⟩ := HN.rdU_bd2 (some (strI s)) (okB_strI _) 1 (by decide)
  obtain ⟨a1, a2, a3⟩ := HN.rdU_bd2 (rdU (some (strI s)) 1).2 a0 2 (by decide)
  have c2 : (256 : Int) ^ (2 : Int).toNat = 65536 := by decide
  rw [c2] at a2
  have hlen : ∀ (st : Option (List Int)) (k : Int), ((rdU st k).2.getD []).length ≤ (st.getD []).length := by
    intro st k
    unfold rdU rdB
    cases st with
    | none => split <;> simp
    | some l =>
      split
      · simp only []
        split <;> simp
      · simp
  refine ⟨fun p hp => ?_, ?_, a2, a1⟩
  · have := HN.rdC_bd _ _ a3 p hp
    omega
  · have h1 := HN.rdC_len (rdU (rdU (some (strI s)) 1).2 2).1.toNat (rdU (rdU (some (strI s)) 1).2 2).2
    have h2 := hlen (rdU (some (strI s)) 1).2 2
    have h3 := hlen (some (strI s)) 1
    have h4 : ((some (strI s)).getD []).length = s.size := strI_length s
    unfold dC
    omega
theorem rdC_step {N i : Nat} {st : Option (List Int)} {l : List Int} {X : HN.CntL} (h : HN.rdC N st = (X ++ (HN.rdC (N - i) (some l)).1, (HN.rdC (N - i) (some l)).2)) (hi : i < N) :
    HN.rdC N st = ((X ++ [((rdU (some l) 4).1, (rdU (rdU (some l) 4).2 2).1)]) ++ (HN.rdC (N - (i + 1)) (rdU (rdU (some l) 4).2 2).2).1, (HN.rdC (N - (i + 1)) (rdU (rdU (some l) 4).2 2).2).2) := by
  rw [h, show N - i = (N - (i + 1)) + 1 from by omega, HN.rdC]
  simp
theorem rdC_end {N i : Nat} {st s1 : Option (List Int)} {X : HN.CntL} (h : HN.rdC N st = (X ++ (HN.rdC (N - i) s1).1, (HN.rdC (N - i) s1).2)) (hi : ¬ (i < N ∧ s1 ≠ none)) : HN.rdC N st = (X, s1) := by
  rw [h]
  cases s1 with
  | none => rw [HN.rdC_none]; simp
  | some l =>
    have : N - i = 0 := by
      by_cases h : i < N
      · exact absurd ⟨h, by simp⟩ hi
      · omega
    rw [this]
    simp [HN.rdC]
def ctV (ok : Bool) (v : Value) : Value := if ok = true then .tuple #[v, .bool true] else .tuple #[NS, .bool false]
abbrev ECt : TypeId := 139
theorem encC_1 (p : Int × Int) : ∀ u ∈ HN.encC p, u.oneCell' = true := fun u hu => by simp at hu; rcases hu with rfl | rfl <;> rfl
set_option maxRecDepth 100000 in
set_option maxHeartbeats 16000000 in
theorem refCounts_any (s : ByteArray) (w : World) (hs : s.size ≤ 600) :
    Calls Tryz.prog 52 #[.string s] w fun e w' => ∃ v, e = .returned (ctV (HN.okHB s) v) ∧ (HN.okHB s = true → HN.SeesC w' v (HN.readR s).1 ∧ ∀ d, v.ownBlock = some d → w.heap.size ≤ d ∧ d < w'.heap.size) ∧ Below w.heap.size w w' := by
  have hcv := Lib.run_convert_string_bytes (P := Tryz.prog) w 9 56 5 s Tryz.underlying9 Tryz.underlying56 Tryz.underlying5
  have hbz := bytes_below w 5 s
  have hse := bytes_sees w s
  obtain ⟨W2, hW2⟩ : ∃ W2, W2 = Lib.bytesWorld w 5 s := ⟨_, rfl⟩
  rw [← hW2] at hcv hbz hse
  have hz2 : w.heap.size < W2.heap.size := by rw [hW2, Lib.bytesWorld_size]; omega
  obtain ⟨W3, hW3⟩ : ∃ W3, W3 = W2.alloc (rdO (.slice (some ⟨w.heap.size, 0, none⟩) s.size (grownCap w s.size 0 5))) := ⟨_, rfl⟩
  have hb3 : Below W2.heap.size W2 W3 := by rw [hW3]; exact belNew _ _
  have hR3 : RdR W2.heap.size W2.heap.size (strI s) (some (strI s)) W3 := by
    refine ⟨_, 0, by rw [hW3]; exact heap_alloc_new _ _, hse.keep hb3, Or.inr (fun d hd => ?_), okB_strI s, by rw [strI_length]; omega, Nat.le_refl _, Nat.zero_le _, fun l hl => by cases hl; rfl⟩
    cases hd
    exact hz2
  have HW := Lib.hid hW3
  have H3 := Lib.hid (And.intro hR3 (bel hbz hb3))
  have hgr : W2.heap.size < W3.heap.size := by obtain ⟨_, _, h, _⟩ := hR3; exact heap_lt h
  have HGR := Lib.hid (And.intro hgr hz2)
  have hbdS := dC_bd s (by omega)
  have HY := Lib.hid (fun h => dC_yes (s := s) h)
  have HBK := Lib.hid (fun X a b c d e => dC_back (s := s) (X := X) a b c d e)
  have HDC : Hid (dC s = HN.rdC (rdU (rdU (some (strI s)) 1).2 2).1.toNat (rdU (rdU (some (strI s)) 1).2 2).2) := Lib.hid rfl
  have HBD := Lib.hid hbdS
  clear hbz hse hz2 hb3 hR3 hW2 hW3 hgr hbdS
  generalize strI s = xs at *
  generalize hOK : HN.okHB s = OK at *
  generalize HN.readR s = RR at *
  generalize dC s = D at *
  clear hOK
  go_enter Tryz.func52, Tryz.ntmps52
  go_upto_region 3 with fail
  rw [← HW.out]
  obtain ⟨gr, hgr⟩ : ∃ gr, gr = W2.heap.size := ⟨_, rfl⟩
  rw [← hgr] at H3 HGR ⊢
  clear hgr hcv HW
  obtain ⟨t1, ht1⟩ : ∃ t1, t1 = rdU (some xs) 1 := ⟨_, rfl⟩
  obtain ⟨tn, htn⟩ : ∃ tn, tn = rdU t1.2 2 := ⟨_, rfl⟩
  rw [← ht1, ← htn] at HDC HBD
  have HT1 := Lib.hid ht1
  have HTN := Lib.hid htn
  clear ht1 htn
  go_wp2_with fail
  refine (refU_any gr gr xs (some xs) 1 _ H3.out.1).mono ?_; rintro e w4 ⟨rfl, hR4, hg4⟩
  rw [← HT1.out] at hR4
  have H4 := Lib.hid (And.intro hR4 hg4)
  clear hR4 hg4
  go_wp2_with fail
  refine (refU_any gr gr xs t1.2 2 _ H4.out.1).mono ?_; rintro e w5 ⟨rfl, hR5, hg5⟩
  have e1 : rdU t1.2 2 = tn := HTN.out.symm
  rw [e1] at hR5
  rw [e1]
  obtain ⟨N, hN⟩ : ∃ N : Nat, tn.1 = (N : Int) := ⟨tn.1.toNat, by have := HBD.out.2.2.2; omega⟩
  have hN2 : N < 65536 := by have := HBD.out.2.2.1; omega
  rw [hN] at HDC ⊢
  have HN2 := Lib.hid hN2
  have wn : IntKind.i64.wrap (N : Int) = N := IntWalk.i64_in _ (by omega)
  have hg35 := grown_trans H4.out.2 hg5
  have H5 : Hid (RdR gr gr xs tn.2 w5 ∧ Below w.heap.size w w5 ∧ gr + 1 ≤ w5.heap.size) := Lib.hid ⟨hR5, H3.out.2.grown hg35 H3.out.2.size (fun k hk => by cases hk; have := HGR.out.2; omega), by have := hg35.size; have := HGR.out.1; omega⟩
  clear hR5 hg5 hN hN2 e1 hg35
  go_wp2_with fail
  clear H3 H4 wn
  rw [Int.toNat_natCast] at HDC
  go_loopw [4, 7] (fun l k wr => ∃ (i : Nat) (X : HN.CntL) (s1 : Option (List Int)) (o : Option Addr) (c : Nat), l = .slice o i c ∧ k = .int .i64 i ∧ i ≤ N ∧ Hid (RdR gr gr xs s1 wr ∧ RowG ECt 2 HN.encC wr (gr + 1) (.slice o i c) X ∧ Below w.heap.size w wr ∧ gr + 1 ≤ wr.heap.size ∧ X.length = i ∧ HN.rdC N tn.2 = (X ++ (HN.rdC (N - i) s1).1, (HN.rdC (N - i) s1).2))) (fun _ k _ => N - (intOf k).toNat)
  case atStart => exact ⟨0, [], tn.2, none, 0, rfl, rfl, Nat.zero_le _, Lib.hid ⟨H5.out.1, RowG.nil _ _ _ _ _, H5.out.2.1, H5.out.2.2, rfl, by simp⟩⟩
  case round =>
    clear H5
    obtain ⟨i, X, s1, o, c, rfl, rfl, hi, HI⟩ := hrel
    obtain ⟨vv, ii, hrb, -⟩ := HI.out.1
    obtain ⟨-, -, rc2⟩ := cell3 hrb
    clear hrb
    cases s1 with
    | none =>
      have rc2 : wr.cell? ⟨gr, 2, none⟩ = some (.bool true) := rc2
      have HA := Lib.hid (HDC.out.trans (rdC_end HI.out.2.2.2.2.2 (fun h => h.2 rfl)))
      have HNO : Hid (OK = false) := Lib.hid (by
        cases hk : OK with
        | false => rfl
        | true =>
          obtain ⟨y1, -, -, y4⟩ := HY.out hk
          rw [HA.out] at y1
          rw [← y1] at y4
          cases y4)
      obtain rfl := HNO.out
      have HE := Lib.hid HI.out.2.2.1
      clear HA HI HNO HY HBK
      by_cases hlt : i < N
      · have d1 : decide ((i : Int) < (N : Int)) = true := by simp <;> omega
        go_wp2_with fail
        go_ret2
        exact ⟨NS, rfl, (fun h => by cases h), HE.out⟩
      · have d1 : decide ((i : Int) < (N : Int)) = false := by simp <;> omega
        go_wp2_with fail
        go_ret2
        exact ⟨NS, rfl, (fun h => by cases h), HE.out⟩
    | some l =>
      have rc2 : wr.cell? ⟨gr, 2, none⟩ = some (.bool false) := rc2
      by_cases hlt : i < N
      · have d1 : decide ((i : Int) < (N : Int)) = true := by simp <;> omega
        have HST := Lib.hid (rdC_step HI.out.2.2.2.2.2 hlt)
        have HLT := Lib.hid hlt
        have b2 : (i : Int) < 65536 := by have := HN2.out; omega
        obtain ⟨p1, hp1⟩ : ∃ p1, p1 = rdU (some l) 4 := ⟨_, rfl⟩
        obtain ⟨p2, hp2⟩ : ∃ p2, p2 = rdU p1.2 2 := ⟨_, rfl⟩
        rw [← hp1, ← hp2] at HST
        have HP1 := Lib.hid hp1
        have HP2 := Lib.hid hp2
        have HR := Lib.hid HI.out
        clear hp1 hp2 HI
        go_wp2_with fail
        refine (refU_any gr gr xs (some l) 4 _ HR.out.1).mono ?_; rintro e w6 ⟨rfl, hR6, hg6⟩
        have hbd := refU_bd HR.out.1 4
        rw [← HP1.out] at hR6 hbd
        rw [← HP1.out]
        have wa : IntKind.u32.wrap p1.1 = p1.1 := by have h : p1.1 < 4294967296 := hbd.2; rw [IntKind.wrap_u32]; omega
        have H6 := Lib.hid (And.intro hR6 hg6)
        clear hR6 hg6 hbd rc2
        go_wp2_with fail
        refine (refU_any gr gr xs p1.2 2 _ H6.out.1).mono ?_; rintro e w7 ⟨rfl, hR7, hg7⟩
        have hbd := refU_bd H6.out.1 2
        rw [← HP2.out] at hR7 hbd
        rw [← HP2.out]
        have wb : IntKind.i64.wrap p2.1 = p2.1 := IntWalk.i64_in _ (by have h : p2.1 < 65536 := hbd.2; have := hbd.1; omega)
        have hg67 := grown_trans H6.out.2 hg7
        have hrow := HR.out.2.1.keep (w' := w7) (fun d hd hl => hg67.block d hl (fun e => by cases e; have := (HR.out.2.1.form gr hd).1; omega))
        have H7 := Lib.hid (And.intro hR7 (And.intro hrow (And.intro (HR.out.2.2.1.grown hg67 HR.out.2.2.1.size (fun k hk => by cases hk; have := HGR.out.2; omega)) (Nat.le_trans HR.out.2.2.2.1 hg67.size))))
        have HXL := Lib.hid HR.out.2.2.2.2.1
        clear hR7 hg7 hbd hg67 hrow HR H6
        go_wp2_with (at_builtin; refine wpList_pushG (w0 := w7) (T := 50) (E := ECt) (enc := HN.encC) Tryz.underlying50 HN.infoR rfl (by decide) (by decide) (fun _ => rfl) encC_1 rfl (.tmp 33) (.tmp 39) rfl (gr + 1) (.slice o i c) X (p1.1, p2.1) w7.heap.size rfl rfl rfl H7.out.2.1 (by rw [HXL.out]; have := HN2.out; have := HLT.out; omega) H7.out.2.2.2 ?_; intro v8 w8 ho8 hb8 hg8 hat8; obtain ⟨o8, c8, he8⟩ := ho8.slice; rw [List.length_append, HXL.out] at he8; have he8 : v8 = .slice o8 (i + 1) c8 := he8; subst he8; have H8 := Lib.hid (And.intro ho8 hb8); clear ho8 hb8 hg8 hat8)
        go_roundw
        case rel => exact ⟨i + 1, X ++ [(p1.1, p2.1)], p2.2, o8, c8, rfl, by go_num, HLT.out, Lib.hid ⟨rdR_keep H7.out.1 (fun d hd _ => H8.out.2.block d (by omega)), H8.out.1, H7.out.2.2.1.trans (H8.out.2.mono (by have := HGR.out.2; omega)), Nat.le_trans H7.out.2.2.2 H8.out.2.size, by rw [List.length_append, HXL.out]; rfl, HST.out⟩⟩
        case measure => have h := HLT.out; simp [intOf]; omega
      · have d1 : decide ((i : Int) < (N : Int)) = false := by simp <;> omega
        have HA := Lib.hid (HDC.out.trans (rdC_end HI.out.2.2.2.2.2 (fun h => hlt h.1)))
        have HX : Hid (HN.CntBd X ∧ X.length ≤ 1000) := Lib.hid (by have h := HBD.out; rw [HA.out] at h; exact ⟨h.1, h.2.1⟩)
        have HR := Lib.hid HI.out
        clear HI
        go_wp2_with fail
        refine (refLeft_any gr gr xs (some l) _ HR.out.1).mono ?_; rintro e w6 ⟨rfl, m6, rfl⟩
        have hbw : Below wr.heap.size wr (wr.drewN m6) := below_drewN (Below.refl _ wr) m6
        obtain ⟨w6, hw6⟩ : ∃ w6, w6 = wr.drewN m6 := ⟨_, rfl⟩
        rw [← hw6] at hbw ⊢
        have H6 : Hid (HN.SeesC w6 (.slice o i c) X ∧ Below w.heap.size w w6) := Lib.hid ⟨(HN.RowE.sees HR.out.2.1).below hbw, bel HR.out.2.2.1 hbw⟩
        have HFO : Hid (∀ d, (Value.slice o i c).ownBlock = some d → w.heap.size ≤ d ∧ d < w6.heap.size) := Lib.hid (fun d hd => by have h := HR.out.2.1.form d hd; have := HGR.out.2; have := hbw.size; omega)
        clear hw6 hbw rc2
        cases l with
        | cons a l =>
          have HNO : Hid (OK = false) := Lib.hid (by
            cases hk : OK with
            | false => rfl
            | true =>
              obtain ⟨y1, -, -, y4⟩ := HY.out hk
              rw [HA.out] at y1
              rw [← y1] at y4
              cases y4)
          obtain rfl := HNO.out
          have dl : decide ((0 : Int) < (((some (a :: l)).getD []).length : Int)) = true := by simp <;> omega
          go_wp2_with fail
          go_ret2
          exact ⟨NS, rfl, (fun h => by cases h), H6.out.2⟩
        | nil =>
          have HRT := Lib.hid (fun w hs => HN.refRight_any (.slice o i c) X w hs HX.out.1 (by have := HX.out.2; omega))
          cases hrt : HN.rightH X with
          | false =>
            rw [hrt] at HRT
            have HNO : Hid (OK = false) := Lib.hid (by
              cases hk : OK with
              | false => rfl
              | true =>
                obtain ⟨y1, y2, -, -⟩ := HY.out hk
                rw [HA.out] at y1
                rw [← y1, hrt] at y2
                cases y2)
            obtain rfl := HNO.out
            clear hrt
            go_wp2_with fail
            refine (HRT.out _ H6.out.1).mono ?_; rintro e w7 ⟨rfl, hb7⟩
            have HB7 := Lib.hid hb7
            clear hb7
            go_wp2_with fail
            go_ret2
            exact ⟨NS, rfl, (fun h => by cases h), bel H6.out.2 HB7.out⟩
          | true =>
            rw [hrt] at HRT
            have HPT := Lib.hid (fun w hs => HN.hrefPut_any (.slice o i c) X w hs HX.out.1 ((HN.right_iff X).1 hrt).1 (by have := HX.out.2; omega))
            have HOKE : Hid (OK = decide (strOfNums (HN.hnB X) = s) ∧ (OK = true → RR.1 = X)) := Lib.hid (by
              cases hk : OK with
              | false =>
                refine ⟨?_, fun h => by cases h⟩
                symm
                rw [decide_eq_false_iff_not]
                intro e
                have := HBK.out X HA.out hrt e HX.out.1 (by have := HX.out.2; omega)
                rw [hk] at this
                cases this
              | true =>
                obtain ⟨y1, y2, y3, y4⟩ := HY.out hk
                rw [HA.out] at y1
                rw [← y1] at y3
                exact ⟨by rw [decide_eq_true y3], fun _ => by rw [← y1]⟩)
            clear hrt HY HBK
            generalize HN.hnB X = PB at *
            have de := bt_eq (strOfNums PB) s
            rw [← HOKE.out.1] at de
            generalize strOfNums PB = PS at *
            go_wp2_with fail
            refine (HRT.out _ H6.out.1).mono ?_; rintro e w7 ⟨rfl, hb7⟩
            have H7 : Hid (HN.SeesC w7 (.slice o i c) X ∧ Below w.heap.size w w7) := Lib.hid ⟨H6.out.1.below hb7, bel H6.out.2 hb7⟩
            have HZ7 := Lib.hid hb7.size
            clear hb7 H6
            go_wp2_with fail
            refine (HPT.out _ H7.out.1).mono ?_; rintro e w8 ⟨rfl, hb8⟩
            have H8 : Hid (HN.SeesC w8 (.slice o i c) X ∧ Below w.heap.size w w8) := Lib.hid ⟨H7.out.1.below hb8, bel H7.out.2 hb8⟩
            have HZ8 := Lib.hid hb8.size
            clear hb8 H7
            cases OK with
            | false =>
              go_wp2_with fail
              go_ret2
              exact ⟨NS, rfl, (fun h => by cases h), H8.out.2⟩
            | true =>
              go_wp2_with fail
              go_ret2
              refine ⟨.slice o i c, rfl, ?_, H8.out.2⟩
              rw [HOKE.out.2 trivial]
              exact ⟨H8.out.1, fun d hd => ⟨(HFO.out d hd).1, Nat.lt_of_lt_of_le (HFO.out d hd).2 (Nat.le_trans HZ7.out HZ8.out)⟩⟩
end Go.Proofs.YtiifbhiodegipaaGreatDoor
