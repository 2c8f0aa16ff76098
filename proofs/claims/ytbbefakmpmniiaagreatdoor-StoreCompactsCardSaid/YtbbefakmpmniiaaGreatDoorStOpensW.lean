/- The walk of StoreOpens. -/
import Derived.Test.YtbbefakmpmniiaaGreatDoorSm1
namespace Go.Proofs.YtbbefakmpmniiaaGreatDoor
open Go.RowKit Go.Maps
open KV (bcell bdrew)
/-- A store stays what it is where its disk alone is turned. -/
theorem SAll.moved {w w' : World} {s g l k : Nat} {P P' Pk : Nat → Prop} {T : WSt} {S : KV.KSt} {ev wr : Int} {dead : Bool} {D' : DSt} (h : SAll w s g l k P Pk T S ev wr dead) (hS : Step P P' w w') (hD : DiskAt w' g P' D') : SAll w' s g l k P' Pk ⟨D', T.size, T.dead⟩ S ev wr dead := by
  obtain ⟨h1, h2, h3, h4, h5, h6, h7, h8⟩ := h
  refine ⟨(hS.1.2.2.2.2 s (heap_lt h1) h7).trans h1, hD, h3.keep hS.1 h6, h4.keep hS.1 (fun i hi hp => (h5 i hi).1 hp), fun i hi => ⟨fun hp => ?_, (h5 i hi).2⟩, fun hp => ?_, fun hp => ?_, h8⟩
  · rcases hS.2 i hp with h | h
    · exact (h5 i hi).1 h
    · have := KV.KvAt.own h4 i hi; omega
  · rcases hS.2 l hp with h | h
    · exact h6 h
    · have := heap_lt h3; omega
  · rcases hS.2 s hp with h | h
    · exact h7 h
    · have := heap_lt h1; omega
theorem rise_of {S : KV.KSt} (h : KV.ofB S.rev S.L = true) : KV.Rising S.L := by
  unfold KV.ofB at h
  rw [Bool.and_eq_true] at h
  exact (KV.standB_all h.2).1
theorem rise_apply {S : KV.KSt} (h : KV.Rising S.L) (e : KV.KEff) : KV.Rising (KV.applyK S e).L := by
  unfold KV.applyK
  simp only []
  split
  · exact KV.Rising.del h _
  · exact KV.Rising.put h _ _
theorem rise_replay : ∀ {ls : List (List Int)} {S : KV.KSt}, KV.Rising S.L → KV.Rising (replayS S ls).2.L ∧ (replayS S ls).2.L.length ≤ S.L.length + ls.length ∧ ((replayS S ls).1 = 0 ∨ (replayS S ls).1 = 3)
  | [], S, h => by rw [replayS]; exact ⟨h, Nat.le_refl _, Or.inl rfl⟩
  | b :: t, S, h => by
    rw [replayS]
    cases decE b with
    | none => exact ⟨h, by simp only []; omega, Or.inr rfl⟩
    | some e =>
      simp only []
      split
      · have := rise_replay (ls := t) h
        exact ⟨this.1, by rw [List.length_cons]; omega, this.2.2⟩
      · split
        · have := rise_replay (ls := t) (rise_apply h e)
          have h2 := applyK_len S e
          exact ⟨this.1, by rw [List.length_cons]; omega, this.2.2⟩
        · exact ⟨h, by simp only []; omega, Or.inr rfl⟩
theorem opS_rise {D : DSt} (h : (opS D).1 = 0) (hs : FsSmall 90000 D.fs) : KV.Rising (opS D).2.L ∧ (opS D).2.L.length ≤ 1000000 := by
  unfold opS at h ⊢
  by_cases hz : (ldS D).1 = 0
  · rw [if_pos hz]
    obtain ⟨n, x, hall⟩ := recsOf_all (readD D nLog.data.toList).1
    have hrl : (readD D nLog.data.toList).1.length ≤ 90000 := Nat.le_trans (readD_len _) (hs.get _)
    have hrn := Steps.room _ _ _ hall.1
    have hln := Nat.le_trans (ldS_len D) (Nat.succ_le_succ (hs.get nSnap.data.toList))
    have h1 := rise_replay (ls := recsOf (readD D nLog.data.toList).1) (rise_of (ldS_ok hz).1)
    exact ⟨h1.1, by omega⟩
  · rw [if_neg hz] at h
    exact absurd h hz
/-- What Open tells of a disk that has a saved state is nothing else. -/
theorem opS_code {D : DSt} (hl : D.lost = false) : (opS D).1 = 0 ∨ (opS D).1 = 3 ∨ (opS D).1 = 5 := by
  have hld : (ldS D).1 = 0 ∨ (ldS D).1 = 3 ∨ (ldS D).1 = 5 := by
    unfold ldS
    split
    · exact Or.inl rfl
    · split
      · cases lst (loadD D nSnap.data.toList).1 with
        | some S => exact Or.inl rfl
        | none => exact Or.inr (Or.inl rfl)
      · rename_i h6 h0
        have hr : (readD D nSnap.data.toList).2 = 0 ∨ (readD D nSnap.data.toList).2 = 6 := by
          unfold readD
          split
          · exact Or.inr rfl
          · rw [if_neg (by rw [hl]; simp)]
            exact Or.inl rfl
        right; right
        show (loadD D nSnap.data.toList).2 = 5
        unfold loadD at h6 h0 ⊢
        rcases hr with hr | hr
        · rw [if_pos hr] at h6 h0 ⊢
          split
          · rename_i hw; rw [if_pos hw] at h0; exact absurd rfl h0
          · rfl
        · rw [if_neg (by rw [hr]; decide)] at h6
          exact absurd hr h6
  unfold opS
  split
  · rename_i hz
    exact (rise_replay (rise_of (ldS_ok hz).1)).2.2.elim Or.inl (fun h => Or.inr (Or.inl h))
  · rename_i hz
    exact hld
theorem so1 {xs : List Int} : appD ⟨[], false, false, 0⟩ nSnap.data.toList xs = (0, ⟨fs3 none (some (xs, 0)) none, false, false, 0⟩) := by
  unfold appD
  rfl
theorem so2 {xs ys : List Int} : appD ⟨fs3 none (some (xs, 0)) none, false, false, 0⟩ nLog.data.toList ys = (0, ⟨fs3 (some (ys, 0)) (some (xs, 0)) none, false, false, 0⟩) := by
  unfold appD
  rfl
theorem neNilT (w : World) (a : Option Addr) : (binOp .neq 27 (.pointer a) (.pointer none)).run Tryz.prog w = .ok (.bool a.isSome) w := by cases a <;> kernel_rfl
theorem neItemC (p q : KV.KEnt) (w : World) : (binOp .neq 86 (.agg #[.string ⟨p.1.toArray⟩, .string p.2.1, .int .i64 p.2.2]) (.agg #[.string ⟨q.1.toArray⟩, .string q.2.1, .int .i64 q.2.2])).run Tryz.prog w = .ok (.bool (!decide (p = q))) w := by
  rw [KV.neItem, KV.item_eq]
theorem own_lt {w : World} {ao : Option Addr} {n c : Nat} {xs : List Int} (h : Sees w (.slice ao n c) xs) : xs ≠ [] → ∀ d, (Value.slice ao n c).ownBlock = some d → d < w.heap.size := by
  intro hne d hd
  obtain ⟨ao', c', e, _, _, hcell⟩ := h
  obtain rfl : ao = ao' := by injection e
  cases ao with
  | none => cases hd
  | some b0 =>
    have := cell_lt8 (hcell b0 rfl 0 (List.length_pos_iff.2 hne))
    rw [add_block] at this
    cases hd
    exact this
set_option maxRecDepth 100000 in
set_option maxHeartbeats 16000000 in
theorem lawStoreOpens (w : World) (va : Value) (ya : List Int) (vb : Value) (yb : List Int) (h1 : Sees w va ya) (o1 : okB ya) (m1 : ya.length ≤ maxLen) (h2 : Sees w vb yb) (o2 : okB yb) (m2 : yb.length ≤ maxLen) (hE : Env w) :
    Calls Tryz.prog 5 #[va, vb] w fun e w' => e = .returned (.bool true) ∧ Below w.heap.size w w' := by
  obtain ⟨aa, ca, rfl, hla, -⟩ := id h1
  obtain ⟨ab, cb, rfl, hlb, -⟩ := id h2
  have HAw := Lib.hid (fun (w1 : World) (hb : Below w.heap.size w w1) => awake11_any w1 (hE.below hb))
  have HE := Lib.hid hE
  have H1 := Lib.hid (And.intro h1 (And.intro o1 m1))
  have H2 := Lib.hid (And.intro h2 (And.intro o2 m2))
  have hNE := neNilT
  clear hE
  go_enter Tryz.func5, Tryz.ntmps5
  go_upto_if 15 with (fail)
  go_cut [0] from 13 (fun s0 wx => ∃ xs ao c, s0 = .slice ao xs.length c ∧ Hid (Sees w (.slice ao xs.length c) xs ∧ okB xs ∧ xs.length ≤ 200) ∧ wx = w)
  case first =>
    by_cases h200 : ya.length ≤ 200
    · have d1 : decide (200 < (ya.length : Int)) = false := by simp; omega
      go_wp2_with fail
      go_meet
      case rel => exact ⟨ya, aa, ca, rfl, Lib.hid ⟨h1, o1, h200⟩, rfl⟩
    · have d1 : decide (200 < (ya.length : Int)) = true := by simp; omega
      have hh := sees_head h1 (n := 200) (by omega)
      have hlt : (ya.take 200).length = 200 := by rw [List.length_take]; omega
      have e5 : (200 : Int) ≤ (ca : Int) := by omega
      have e6 : 200 ≤ ca := by omega
      go_wp2_with fail
      go_meet
      case rel => exact ⟨ya.take 200, aa, ca, by rw [hlt], Lib.hid ⟨by rw [hlt]; exact hh, o1.take 200, by rw [hlt]; exact Nat.le_refl _⟩, rfl⟩
  case rest =>
    obtain ⟨xs, xa, xc, rfl, HX, rfl⟩ := hcut
    clear h1 o1 m1 H1 hla
    go_upto_if 20 with (fail)
    go_cut [1] from 18 (fun s1 wx => ∃ zs ao c, s1 = .slice ao zs.length c ∧ Hid (Sees wc (.slice ao zs.length c) zs ∧ okB zs ∧ zs.length ≤ 200) ∧ wx = wc)
    case first =>
      by_cases h200 : yb.length ≤ 200
      · have d1 : decide (200 < (yb.length : Int)) = false := by simp; omega
        go_wp2_with fail
        go_meet
        case rel => exact ⟨yb, ab, cb, rfl, Lib.hid ⟨h2, o2, h200⟩, rfl⟩
      · have d1 : decide (200 < (yb.length : Int)) = true := by simp; omega
        have hh := sees_head h2 (n := 200) (by omega)
        have hlt : (yb.take 200).length = 200 := by rw [List.length_take]; omega
        have e5 : (200 : Int) ≤ (cb : Int) := by omega
        have e6 : 200 ≤ cb := by omega
        go_wp2_with fail
        go_meet
        case rel => exact ⟨yb.take 200, ab, cb, by rw [hlt], Lib.hid ⟨by rw [hlt]; exact hh, o2.take 200, by rw [hlt]; exact Nat.le_refl _⟩, rfl⟩
    case rest =>
    obtain ⟨zs, za, zc, rfl, HZ, hwc⟩ := hcut
    subst hwc
    clear h2 o2 m2 H2 hlb
    have HVX : Hid (xs ≠ [] → ∀ d, (Value.slice xa xs.length xc).ownBlock = some d → d < wc.heap.size) := Lib.hid (own_lt HX.out.1)
    have HVZ : Hid (zs ≠ [] → ∀ d, (Value.slice za zs.length zc).ownBlock = some d → d < wc.heap.size) := Lib.hid (own_lt HZ.out.1)
    go_wp2_with fail
    refine (new_disk wc).mono ?_; rintro e w1 ⟨g, rfl, hD1, hg, hb1⟩
    have HA1 := Lib.hid (append_any g _ _ nSnap (.slice xa xs.length xc) xs w1 hD1 (by decide) (by decide) (by decide) (by have := HX.out.2.2; show 0 + _ ≤ _; omega) (HX.out.1.keep hb1) HX.out.2.1 (fun h0 d hd e => by have := HVX.out h0 d hd; omega))
    rw [so1] at HA1
    have HB1 := Lib.hid (And.intro hb1 hg)
    clear hD1 hb1 hg
    go_wp2_with fail
    refine HA1.out.mono ?_; rintro e w2 ⟨P2, rfl, hD2, hS2⟩
    obtain ⟨hP2, hb2⟩ := hS2.ge (n := wc.heap.size) (fun i e => by rw [e]; exact HB1.out.2) HB1.out.1.size
    have hB2 := HB1.out.1.trans hb2
    have HA2 := Lib.hid (append_any g _ _ nLog (.slice za zs.length zc) zs w2 hD2 (by decide) (by decide) (by show (fs3 none (some (xs, 0)) none).length ≤ _; exact Nat.le_trans (f3_len _ _ _) (by decide)) (by have := HZ.out.2.2; rw [kL_eq, f3_L]; show 0 + _ ≤ _; omega) (HZ.out.1.keep hB2) HZ.out.2.1 (fun h0 d hd e => by have h3 := HVZ.out h0 d hd; have h4 := hP2 g (DiskAt.self hD2); omega))
    rw [so2] at HA2
    have HB2 := Lib.hid (And.intro hB2 hP2)
    clear hD2 hS2 hP2 hb2 hB2
    go_wp2_with fail
    refine HA2.out.mono ?_; rintro e w3 ⟨P3, rfl, hD3, hS3⟩
    obtain ⟨hP3, hb3⟩ := hS3.ge (n := wc.heap.size) HB2.out.2 HB2.out.1.size
    have hB3 := HB2.out.1.trans hb3
    have hF : DFree 3 (⟨fs3 (some (zs, 0)) (some (xs, 0)) none, false, false, 0⟩ : DSt) := by
      refine ⟨rfl, rfl, f3_len _ _ _, fun f hf => ?_⟩
      have hx := HX.out.2.2
      have hz := HZ.out.2.2
      rcases (f3_mem hf).2 with h | h | h
      · rw [← Option.some.inj h]; show zs.length ≤ _; omega
      · rw [← Option.some.inj h]; show xs.length ≤ _; omega
      · cases h
    generalize (⟨fs3 (some (zs, 0)) (some (xs, 0)) none, false, false, 0⟩ : DSt) = D at hD3 hF
    have HO3 := Lib.hid (sopen_any g P3 3 D 5 w3 hD3 hF (by omega) (HE.out.below hB3))
    have HB3 := Lib.hid (And.intro hB3 (And.intro hP3 hF))
    clear hD3 hS3 hP3 hb3 hB3 hF
    go_wp2_with fail
    refine HO3.out.mono ?_; rintro e w4 ⟨P4, D4, hD4, hS4, hop4, hF4, -, hno4, hyes4⟩
    obtain ⟨hP4, hb4⟩ := hS4.ge (n := wc.heap.size) HB3.out.2.1 HB3.out.1.size
    have hB4 := HB3.out.1.trans hb4
    have HO4 := Lib.hid (sopen_any g P4 4 D4 5 w4 hD4 hF4 (by omega) (HE.out.below hB4))
    have HB4 := Lib.hid (And.intro hB4 (And.intro hP4 hS4))
    have hcode := opS_code HB3.out.2.2.1
    have hrise := fun h => opS_rise (D := D) h HB3.out.2.2.2.2.2
    generalize hR : opS D = R at hop4 hno4 hyes4 hcode hrise
    obtain ⟨c, S⟩ := R
    simp only [] at hno4 hyes4 hcode hrise
    have HOP := Lib.hid hop4
    clear hop4 hF4 hD4 hS4 hP4 hb4 hB4 hR
    by_cases hc : c = 0
    · subst hc
      obtain ⟨s, k, l, Pk, n, x, rfl, -, hA4, hpk4, hl4, hs4⟩ := hyes4 rfl
      have HR := Lib.hid (hrise rfl)
      have H4 := Lib.hid (And.intro hA4 (And.intro hpk4 (And.intro hl4 hs4)))
      clear hA4 hpk4 hl4 hs4 hno4 hyes4 hcode hrise
      go_wp2_with fail
      refine HO4.out.mono ?_; rintro e w5 ⟨P5, D5, hD5, hS5, -, hF5, -, -, hyes5⟩
      rw [HOP.out] at hyes5
      obtain ⟨s', k', l', Pk', n', x', rfl, -, hA5, hpk5, hl5, hs5⟩ := hyes5 rfl
      obtain ⟨hP5, hb5⟩ := hS5.ge (n := wc.heap.size) HB4.out.2.1 HB4.out.1.size
      have hA45 := H4.out.1.moved hS5 hD5
      have H5 := Lib.hid (And.intro (HB4.out.1.trans hb5) (And.intro hA5 hA45))
      have hn1 := hNE w5 (some ⟨s, 0, none⟩)
      have hn2 := hNE w5 (some ⟨s', 0, none⟩)
      clear hD5 hS5 hF5 hyes5 hA5 hpk5 hl5 hs5 hP5 hb5 hA45 hNE
      have HAl1 := Lib.hid (sall_any s g l k P5 Pk ⟨D5, n, false⟩ S (max 5 1) 0 false w5 H5.out.2.2 HR.out.1 HR.out.2)
      have HAl2 := Lib.hid (fun (w6 : World) (hb6 : Below w5.heap.size w5 w6) => sall_any s' g l' k' P5 Pk' ⟨D5, n', false⟩ S (max 5 1) 0 false w6 (H5.out.2.1.below hb6) HR.out.1 HR.out.2)
      go_wp2_with fail
      refine HAl1.out.mono ?_; rintro e w6 ⟨vx, rfl, hrx, hb6⟩
      obtain ⟨ax, cx, rfl⟩ := rowForm hrx
      have HX6 := Lib.hid (And.intro hrx hb6)
      clear hrx hb6
      go_wp2_with fail
      refine (HAl2.out w6 HX6.out.2).mono ?_; rintro e W7 ⟨vy, rfl, hry, hb7⟩
      obtain ⟨ay, cy, rfl⟩ := rowForm hry
      have hb57 := HX6.out.2.trans (hb7.mono HX6.out.2.size)
      have HRV1 := Lib.hid (srev_any s g l k P5 Pk ⟨D5, n, false⟩ S (max 5 1) 0 false W7 (H5.out.2.2.below hb57))
      have HRV2 := Lib.hid (srev_any s' g l' k' P5 Pk' ⟨D5, n', false⟩ S (max 5 1) 0 false W7 (H5.out.2.1.below hb57))
      have hsx := KV.SeesI.below (KV.RowE.sees HX6.out.1) hb7
      have hsy := KV.RowE.sees hry
      obtain ⟨ax', cx', ex, hlx, hnx, hcx⟩ := hsx
      obtain ⟨ay', cy', ey, hly, hny, hcy⟩ := hsy
      obtain ⟨rfl, rfl⟩ : ax = ax' ∧ cx = cx' := by simpa using ex
      obtain ⟨rfl, rfl⟩ : ay = ay' ∧ cy = cy' := by simpa using ey
      have HCX := Lib.hid (And.intro hnx hcx)
      have HCY := Lib.hid (And.intro hny hcy)
      have HB7 := Lib.hid (H5.out.1.trans (hb57.mono H5.out.1.size))
      have HNE := Lib.hid neItemC
      have hll : S.L.length ≤ 9223372036854775807 := by have := HR.out.2; omega
      clear hry hb7 hb57 ex ey hnx hcx hny hcy
      go_wp2_with fail
      refine HRV1.out.mono ?_; rintro e wz ⟨rfl, rfl⟩
      go_wp2_with fail
      refine HRV2.out.mono ?_; rintro e wz ⟨rfl, rfl⟩
      go_wp2_with fail
      go_loopw [86] (fun j wr => ∃ i : Nat, i ≤ S.L.length ∧ j = .int .i64 i ∧ Below W7.heap.size W7 wr) (fun j _ => S.L.length - (intOf j).toNat)
      case atStart => exact ⟨0, Nat.zero_le _, rfl, Below.refl _ _⟩
      case round =>
        obtain ⟨i, hi, rfl, hBw⟩ := hrel
        by_cases hlt : i < S.L.length
        · obtain ⟨a, rfl⟩ : ∃ a, ax = some a := by
            cases ax with
            | none => rw [HCX.out.1 rfl] at hlt; simp at hlt
            | some a => exact ⟨a, rfl⟩
          obtain ⟨a', rfl⟩ : ∃ a, ay = some a := by
            cases ay with
            | none => rw [HCY.out.1 rfl] at hlt; simp at hlt
            | some a => exact ⟨a, rfl⟩
          obtain ⟨p, hp⟩ : ∃ p, S.L[i]? = some p := ⟨_, List.getElem?_eq_getElem hlt⟩
          obtain ⟨p0, p1, p2⟩ := HCX.out.2 a rfl i p hp
          have p0 := bcell hBw p0
          have p1 := KV.ofs1 (bcell hBw p1)
          have p2 := KV.ofs2 (bcell hBw p2)
          obtain ⟨q0, q1, q2⟩ := HCY.out.2 a' rfl i p hp
          have q0 := bcell hBw q0
          have q1 := KV.ofs1 (bcell hBw q1)
          have q2 := KV.ofs2 (bcell hBw q2)
          have b0 : (0 : Int) ≤ (i : Int) := by omega
          have b1 : (i : Int) < (S.L.length : Int) := by omega
          have hne := HNE.out p p
          rw [decide_eq_true (rfl : p = p)] at hne
          have HLT : Hid (i < S.L.length ∧ i + 1 ≤ S.L.length ∧ S.L.length - (i + 1) < S.L.length - i) := Lib.hid ⟨hlt, by omega, by omega⟩
          clear hp
          go_upto_region 20 with fail
          obtain ⟨wx, hwx⟩ : ∃ wx, wx = wr := ⟨_, rfl⟩
          subst hwx
          refine wp_region_held_drew (S := (fun W => Below wx.heap.size wx W)) (by kernel_rfl) ?_ (fun r0 => ?_)
          · exact ⟨rfl, rfl, rfl, Nat.le_refl _, fun _ _ => rfl⟩
          refine wpAnyH_take (i := 0) (v := ?_) rfl (by kernel_rfl) (by kernel_rfl) (by kernel_rfl) (fun _ _ _ h => h) (Or.inl ⟨by rfl, ?_⟩) (by assumption) ?_
          rotate_left
          · intro wS hSw
            (try dsimp only at hSw)
            go_simp
            first | done | with_reducible rfl
          try simp only [Act.put, List.getElem_toArray, List.getElem_cons_succ, List.getElem_cons_zero, List.setIfInBounds_toArray, List.set_cons_zero, List.set_cons_succ]
          refine wpAnyH_take (i := 1) (v := ?_) rfl (by kernel_rfl) (by kernel_rfl) (by kernel_rfl) (fun _ _ _ h => h) (Or.inl ⟨by rfl, ?_⟩) (by assumption) ?_
          rotate_left
          · intro wS hSw
            (try dsimp only at hSw)
            go_simp
            first | done | with_reducible rfl
          try simp only [Act.put, List.getElem_toArray, List.getElem_cons_succ, List.getElem_cons_zero, List.setIfInBounds_toArray, List.set_cons_zero, List.set_cons_succ]
          refine wpAnyH_take (i := 2) (v := ?_) rfl (by kernel_rfl) (by kernel_rfl) (by kernel_rfl) (fun _ _ _ h => h) (Or.inl ⟨by rfl, ?_⟩) (by assumption) ?_
          rotate_left
          · intro wS hSw
            (try dsimp only at hSw)
            go_simp
            first | done | with_reducible rfl
          try simp only [Act.put, List.getElem_toArray, List.getElem_cons_succ, List.getElem_cons_zero, List.setIfInBounds_toArray, List.set_cons_zero, List.set_cons_succ]
          refine wpAnyH_take (i := 3) (v := ?_) rfl (by kernel_rfl) (by kernel_rfl) (by kernel_rfl) (fun _ _ _ h => h) (Or.inl ⟨by rfl, ?_⟩) (by assumption) ?_
          rotate_left
          · intro wS hSw
            (try dsimp only at hSw)
            have p0 := bcell hSw p0
            have p1 := bcell hSw p1
            have p2 := bcell hSw p2
            have q0 := bcell hSw q0
            have q1 := bcell hSw q1
            have q2 := bcell hSw q2
            go_simp
            first | done | with_reducible rfl
          try simp only [Act.put, List.getElem_toArray, List.getElem_cons_succ, List.getElem_cons_zero, List.setIfInBounds_toArray, List.set_cons_zero, List.set_cons_succ]
          refine wpAnyH_take (i := 4) (v := ?_) rfl (by kernel_rfl) (by kernel_rfl) (by kernel_rfl) (fun _ _ _ h => h) (Or.inl ⟨by rfl, ?_⟩) (by assumption) ?_
          rotate_left
          · intro wS hSw
            (try dsimp only at hSw)
            go_simp
            first | done | with_reducible rfl
          try simp only [Act.put, List.getElem_toArray, List.getElem_cons_succ, List.getElem_cons_zero, List.setIfInBounds_toArray, List.set_cons_zero, List.set_cons_succ]
          refine wpAnyH_take (i := 5) (v := ?_) rfl (by kernel_rfl) (by kernel_rfl) (by kernel_rfl) (fun _ _ _ h => h) (Or.inl ⟨by rfl, ?_⟩) (by assumption) ?_
          rotate_left
          · intro wS hSw
            (try dsimp only at hSw)
            go_simp
            first | done | with_reducible rfl
          try simp only [Act.put, List.getElem_toArray, List.getElem_cons_succ, List.getElem_cons_zero, List.setIfInBounds_toArray, List.set_cons_zero, List.set_cons_succ]
          refine wpAnyH_take (i := 6) (v := ?_) rfl (by kernel_rfl) (by kernel_rfl) (by kernel_rfl) (fun _ _ _ h => h) (Or.inl ⟨by rfl, ?_⟩) (by assumption) ?_
          rotate_left
          · intro wS hSw
            (try dsimp only at hSw)
            go_simp
            first | done | with_reducible rfl
          try simp only [Act.put, List.getElem_toArray, List.getElem_cons_succ, List.getElem_cons_zero, List.setIfInBounds_toArray, List.set_cons_zero, List.set_cons_succ]
          refine wpAnyH_take (i := 7) (v := ?_) rfl (by kernel_rfl) (by kernel_rfl) (by kernel_rfl) (fun _ _ _ h => h) (Or.inl ⟨by rfl, ?_⟩) (by assumption) ?_
          rotate_left
          · intro wS hSw
            (try dsimp only at hSw)
            have p0 := bcell hSw p0
            have p1 := bcell hSw p1
            have p2 := bcell hSw p2
            have q0 := bcell hSw q0
            have q1 := bcell hSw q1
            have q2 := bcell hSw q2
            go_simp
            first | done | with_reducible rfl
          try simp only [Act.put, List.getElem_toArray, List.getElem_cons_succ, List.getElem_cons_zero, List.setIfInBounds_toArray, List.set_cons_zero, List.set_cons_succ]
          refine wpAnyH_take (i := 8) (v := ?_) rfl (by kernel_rfl) (by kernel_rfl) (by kernel_rfl) (fun _ _ _ h => h) (Or.inl ⟨by rfl, ?_⟩) (by assumption) ?_
          rotate_left
          · intro wS hSw
            (try dsimp only at hSw)
            go_simp
            first | done | with_reducible rfl
          try simp only [Act.put, List.getElem_toArray, List.getElem_cons_succ, List.getElem_cons_zero, List.setIfInBounds_toArray, List.set_cons_zero, List.set_cons_succ]
          refine wpAnyH_done (by kernel_rfl) ?_ _
          have HBX := Lib.hid (hBw.trans (r0.mono hBw.size))
          clear r0 p0 p1 p2 q0 q1 q2 hBw
          go_wp2_with fail
          go_roundw
          case rel => exact ⟨i + 1, HLT.out.2.1, by go_num, HBX.out⟩
          case measure => simp [intOf]; have := HLT.out; omega
        · obtain rfl : i = S.L.length := by omega
          have HBW := Lib.hid (HB7.out.trans (hBw.mono HB7.out.size))
          clear hBw
          go_wp2_with fail
          refine (HAw.out _ HBW.out).mono ?_; rintro e w8 ⟨rfl, hb8⟩
          have HB8 := Lib.hid (HBW.out.trans (hb8.mono HBW.out.size))
          clear hb8
          go_wp2_with fail
          go_ret
          exact ⟨rfl, HB8.out⟩
    · have hcc := hcode.resolve_left hc
      obtain rfl := hno4 hc
      clear hno4 hyes4 hcode hrise hc
      rcases hcc with rfl | rfl
      · go_wp2_with fail
        refine HO4.out.mono ?_; rintro e w5 ⟨P5, D5, hD5, hS5, -, hF5, -, hno5, -⟩
        rw [HOP.out] at hno5
        obtain rfl := hno5 (by first | (show (3 : Int) ≠ 0; decide) | (show (5 : Int) ≠ 0; decide))
        obtain ⟨hP5, hb5⟩ := hS5.ge (n := wc.heap.size) HB4.out.2.1 HB4.out.1.size
        have HB5 := Lib.hid (HB4.out.1.trans hb5)
        have hn1 := hNE w5 none
        clear hD5 hS5 hF5 hno5 hP5 hb5 hNE
        go_wp2_with fail
        refine (HAw.out _ HB5.out).mono ?_; rintro e w6 ⟨rfl, hb6⟩
        have HB6 := Lib.hid (HB5.out.trans (hb6.mono HB5.out.size))
        clear hb6
        go_wp2_with fail
        go_ret
        exact ⟨rfl, HB6.out⟩
      · go_wp2_with fail
        refine HO4.out.mono ?_; rintro e w5 ⟨P5, D5, hD5, hS5, -, hF5, -, hno5, -⟩
        rw [HOP.out] at hno5
        obtain rfl := hno5 (by first | (show (3 : Int) ≠ 0; decide) | (show (5 : Int) ≠ 0; decide))
        obtain ⟨hP5, hb5⟩ := hS5.ge (n := wc.heap.size) HB4.out.2.1 HB4.out.1.size
        have HB5 := Lib.hid (HB4.out.1.trans hb5)
        have hn1 := hNE w5 none
        clear hD5 hS5 hF5 hno5 hP5 hb5 hNE
        go_wp2_with fail
        refine (HAw.out _ HB5.out).mono ?_; rintro e w6 ⟨rfl, hb6⟩
        have HB6 := Lib.hid (HB5.out.trans (hb6.mono HB5.out.size))
        clear hb6
        go_wp2_with fail
        go_ret
        exact ⟨rfl, HB6.out⟩
end Go.Proofs.YtbbefakmpmniiaaGreatDoor
