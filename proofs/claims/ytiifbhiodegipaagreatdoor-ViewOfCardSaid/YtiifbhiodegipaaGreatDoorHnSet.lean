/- Package handle: just so many in a block. -/
import Derived.Test.YtiifbhiodegipaaGreatDoorSq
import Derived.Test.YtiifbhiodegipaaGreatDoorRcNet
import Derived.Lib.Walk
import Derived.Deep.RegionLaw
import Derived.Lib.Overlaps
import Derived.Laws.Externs
import Derived.Test.YtiifbhiodegipaaGreatDoorHnRight
namespace Go.Proofs.YtiifbhiodegipaaGreatDoor.HN
open Go.RowKit
theorem row_lt {E : TypeId} {w : World} {B : Nat} {v : Value} {L : CntL} (h : RowE E w B v L) : ∀ k, v.ownBlock = some k → B ≤ k ∧ k < w.heap.size := h.lt
end Go.Proofs.YtiifbhiodegipaaGreatDoor.HN
namespace Go.Proofs.YtiifbhiodegipaaGreatDoor.HN
open Go.RowKit
abbrev ER : TypeId := 139
theorem take_snoc {L : CntL} {i : Nat} (h : i < L.length) : L.take (i + 1) = L.take i ++ [at2 L i] := by
  rw [List.take_add_one, at2_get h]; rfl
theorem CntBd.sub {L M : CntL} (h : CntBd L) (hs : ∀ p ∈ M, p ∈ L) : CntBd M := fun p hp => h p (hs p hp)
theorem CntBd.take {L : CntL} (h : CntBd L) (k : Nat) : CntBd (L.take k) := h.sub fun _ hp => List.mem_of_mem_take hp
set_option maxRecDepth 100000 in
set_option maxHeartbeats 4000000 in
theorem plain_any (v : Value) (L : CntL) (w : World) (h : SeesC w v L) (hl : L.length ≤ 1000000) :
    Calls Tryz.prog 30 #[hnV v] w fun e w' => ∃ v', e = .returned v' ∧ RowE ER w' w.heap.size v' L ∧ Below w.heap.size w w' := by
  obtain ⟨W, hW⟩ : ∃ W, W = w.alloc (hnO v) := ⟨_, rfl⟩
  have hb0 : Below w.heap.size w W := by rw [hW]; exact belNew _ _
  have hA : W.heap[w.heap.size]? = some (hnO v) := by rw [hW]; exact heap_new w _
  obtain ⟨ao, c, rfl, hlc, hnil, hc⟩ := h.below hb0
  have HW := Lib.hid hW
  have HC := Lib.hid (And.intro hnil hc)
  have HB0 := Lib.hid hb0
  have c0 := hcell hA
  clear hW hnil hc hb0 hA h
  go_enter Tryz.func30, Tryz.ntmps30
  go_upto_region 1 with fail
  change Code.wp _ _ _ _ (w.alloc (hnO (.slice ao L.length c)))
  rw [← HW.out]
  clear HW
  go_wp2_with fail
  go_loopw [3, 9] (fun u j wr => ∃ i : Nat, i ≤ L.length ∧ j = .int .i64 i ∧ Hid (RowE ER wr W.heap.size u (L.take i)) ∧ Hid (Below W.heap.size W wr)) (fun _ j _ => L.length - (intOf j).toNat)
  case atStart => exact ⟨0, Nat.zero_le _, rfl, Lib.hid (World.ownsRow_nil _ _ _ _), Lib.hid (Below.refl _ _)⟩
  case round =>
    obtain ⟨i, hi, rfl, HO, HBw⟩ := hrel
    by_cases hlt : i < L.length
    · obtain ⟨a, rfl⟩ : ∃ a, ao = some a := by
        cases ao with
        | none => rw [HC.out.1 rfl] at hlt; simp at hlt
        | some a => exact ⟨a, rfl⟩
      obtain ⟨q0, q1⟩ := HC.out.2 a rfl i _ (at2_get hlt)
      have q0 := bcell HBw.out q0
      have q1 := ofs1 (bcell HBw.out q1)
      have b0 : (0 : Int) ≤ (i : Int) := by omega
      have b1 : (i : Int) < (L.length : Int) := by omega
      have d1 : decide ((i : Int) < (L.length : Int)) = true := by simp; omega
      have HT := Lib.hid (take_snoc hlt)
      have HLT := Lib.hid hlt
      generalize at2 L i = p at q0 q1 HT
      obtain ⟨px, pn⟩ := p
      simp only [] at q0 q1
      have hlt2 : (L.take i).length ≤ 1000001 := by rw [List.length_take]; omega
      have HO1 := Lib.hid (row_keep (row_leE HO.out (Nat.le_refl _)) (belNew wr (cntO (px, pn) 140)))
      have HB1 := Lib.hid (belAlloc HBw.out (cntO (px, pn) 140))
      go_wp2_with (at_builtin; go_loud (refine wpList_push (w0 := wr.alloc (cntO (px, pn) 140)) Tryz.underlying50 infoR rfl (.tmp 13) (.tmp 19) rfl W.heap.size _ (L.take i) (px, pn) (wr.heap.size + 1) (by simp) rfl rfl HO1.out hlt2 HB1.out.size ?_); intro v' w' ho' hb' hg')
      have HO2 : Hid (RowE ER w' W.heap.size v' (L.take (i + 1))) := Lib.hid (by rw [HT.out]; exact ho')
      have HB2 := Lib.hid (HB1.out.trans hb')
      clear ho' hb' hg' q0 q1
      go_wp2_with fail
      go_roundw
      case rel => exact ⟨i + 1, HLT.out, by go_num, HO2, HB2⟩
      case measure => simp [intOf]; have := HLT.out; omega
    · obtain rfl : i = L.length := by omega
      have d1 : decide ((L.length : Int) < (L.length : Int)) = false := by simp
      have HE : Hid (RowE ER wr w.heap.size _ L) := Lib.hid (by have := HO.out; rw [List.take_length] at this; exact row_leE this HB0.out.size)
      go_wp2_with fail
      go_ret
      exact ⟨_, rfl, HE.out, HB0.out.trans (HBw.out.mono HB0.out.size)⟩
end Go.Proofs.YtiifbhiodegipaaGreatDoor.HN
namespace Go.Proofs.YtiifbhiodegipaaGreatDoor.HN
open Go.RowKit
theorem take_eq_all {L M : CntL} {i : Nat} (hl : L.length = M.length) (h : L.take i = M.take i) (hi : i < L.length) (e : at2 L i = at2 M i) : L.take (i + 1) = M.take (i + 1) := by
  rw [take_snoc hi, take_snoc (by omega), h, e]
set_option maxRecDepth 100000 in
set_option maxHeartbeats 8000000 in
theorem same_any (a b : Value) (L M : CntL) (w : World) (h : SeesC w a L) (h2 : SeesC w b M) (hl : L.length ≤ 1000000) (hl2 : M.length ≤ 1000000) :
    Calls Tryz.prog 29 #[a, b] w fun e w' => e = .returned (.bool (decide (L = M))) ∧ Below w.heap.size w w' := by
  obtain ⟨ao, c, rfl, hlc, hnil, hc⟩ := h
  obtain ⟨bo, c2, rfl, hlc2, hnil2, hc2⟩ := h2
  by_cases hlen : L.length = M.length
  · have HLN := Lib.hid hlen
    have dl : ((L.length : Int) != (M.length : Int)) = false := by simp [hlen]
    have HC := Lib.hid (And.intro hnil hc)
    have HC2 := Lib.hid (And.intro hnil2 hc2)
    obtain ⟨R, hR⟩ : ∃ R, R = decide (L = M) := ⟨_, rfl⟩
    rw [← hR]
    have HR := Lib.hid hR
    have hM : (M.length : Int) = (L.length : Int) := by omega
    clear hnil hc hnil2 hc2 hR hlen
    go_enter Tryz.func29, Tryz.ntmps29
    go_wp2_with fail
    go_loopw [13] (fun j wr => ∃ i : Nat, i ≤ L.length ∧ j = .int .i64 i ∧ Hid (L.take i = M.take i) ∧ Hid (Below w.heap.size w wr)) (fun j _ => L.length - (intOf j).toNat)
    case atStart => exact ⟨0, Nat.zero_le _, rfl, Lib.hid rfl, Lib.hid (Below.refl _ _)⟩
    case round =>
      obtain ⟨i, hi, rfl, HE, HBw⟩ := hrel
      by_cases hlt : i < L.length
      · have hlt2 : i < M.length := by have := HLN.out; omega
        obtain ⟨x, rfl⟩ : ∃ x, ao = some x := by
          cases ao with
          | none => rw [HC.out.1 rfl] at hlt; simp at hlt
          | some x => exact ⟨x, rfl⟩
        obtain ⟨y, rfl⟩ : ∃ y, bo = some y := by
          cases bo with
          | none => rw [HC2.out.1 rfl] at hlt2; simp at hlt2
          | some y => exact ⟨y, rfl⟩
        obtain ⟨q0, q1⟩ := HC.out.2 x rfl i _ (at2_get hlt)
        obtain ⟨z0, z1⟩ := HC2.out.2 y rfl i _ (at2_get hlt2)
        have q0 := bcell HBw.out q0
        have q1 := ofs1 (bcell HBw.out q1)
        have z0 := bcell HBw.out z0
        have z1 := ofs1 (bcell HBw.out z1)
        have b0 : (0 : Int) ≤ (i : Int) := by omega
        have b1 : (i : Int) < (L.length : Int) := by omega
        have b2 : (i : Int) < (M.length : Int) := by omega
        have d1 : decide ((i : Int) < (L.length : Int)) = true := by simp; omega
        have HT : Hid (at2 L i = at2 M i → L.take (i + 1) = M.take (i + 1)) := Lib.hid (take_eq_all HLN.out HE.out hlt)
        have HNE : Hid (at2 L i ≠ at2 M i → R = false) := Lib.hid (fun h => by
          rw [HR.out]
          exact decide_eq_false (fun e => h (by rw [e])))
        have HLT := Lib.hid hlt
        generalize at2 L i = p at q0 q1 HT HNE
        generalize at2 M i = q at z0 z1 HT HNE
        obtain ⟨px, pn⟩ := p
        obtain ⟨qx, qn⟩ := q
        simp only [] at q0 q1 z0 z1
        by_cases hx : px = qx
        · by_cases hn : pn = qn
          · have HN := Lib.hid (HT.out (by rw [hx, hn]))
            subst hx hn
            clear HT HNE hlt hlt2
            go_upto_region 6 with fail
            refine wp_region_held_drew (S := (fun W => Below wr.heap.size wr W)) (by kernel_rfl) ?_ (fun r0 => ?_)
            · exact ⟨rfl, rfl, rfl, Nat.le_refl _, fun _ _ => rfl⟩
            refine tk 0 rfl ?_
            try simp only [Act.put, qA, qB, qC, qD, qE, qF]
            refine tk 1 rfl ?_
            try simp only [Act.put, qA, qB, qC, qD, qE, qF]
            refine tk 2 rfl ?_
            try simp only [Act.put, qA, qB, qC, qD, qE, qF]
            refine tq (v := ?_) 3 rfl ?_ ?_
            rotate_left
            · intro wS hSw
              (try dsimp only at hSw)
              have q0 := bcell hSw q0
              have q1 := bcell hSw q1
              have z0 := bcell hSw z0
              have z1 := bcell hSw z1
              go_simp
              first | done | with_reducible rfl
            try simp only [Act.put, qA, qB, qC, qD, qE, qF]
            refine tk 4 rfl ?_
            try simp only [Act.put, qA, qB, qC, qD, qE, qF]
            refine tk 5 rfl ?_
            try simp only [Act.put, qA, qB, qC, qD, qE, qF]
            refine tk 6 rfl ?_
            try simp only [Act.put, qA, qB, qC, qD, qE, qF]
            refine tq (v := ?_) 7 rfl ?_ ?_
            rotate_left
            · intro wS hSw
              (try dsimp only at hSw)
              have q0 := bcell hSw q0
              have q1 := bcell hSw q1
              have z0 := bcell hSw z0
              have z1 := bcell hSw z1
              go_simp
              first | done | with_reducible rfl
            try simp only [Act.put, qA, qB, qC, qD, qE, qF]
            refine tk 8 rfl ?_
            try simp only [Act.put, qA, qB, qC, qD, qE, qF]
            refine wpAnyH_done (by kernel_rfl) ?_ _
            have HB1 := Lib.hid (bel HBw.out r0)
            clear q0 q1 z0 z1
            go_wp2_with fail
            go_roundw
            case rel => exact ⟨i + 1, HLT.out, by go_num, HN, HB1⟩
            case measure => simp [intOf]; have := HLT.out; omega
          · have HN := Lib.hid (HNE.out (by intro e; exact hn (by cases e; rfl)))
            have dn : (pn == qn) = false := by simpa using hn
            subst hx
            clear HT HNE hlt hlt2
            go_upto_region 6 with fail
            refine wp_region_held_drew (S := (fun W => Below wr.heap.size wr W)) (by kernel_rfl) ?_ (fun r0 => ?_)
            · exact ⟨rfl, rfl, rfl, Nat.le_refl _, fun _ _ => rfl⟩
            refine tk 0 rfl ?_
            try simp only [Act.put, qA, qB, qC, qD, qE, qF]
            refine tk 1 rfl ?_
            try simp only [Act.put, qA, qB, qC, qD, qE, qF]
            refine tk 2 rfl ?_
            try simp only [Act.put, qA, qB, qC, qD, qE, qF]
            refine tq (v := ?_) 3 rfl ?_ ?_
            rotate_left
            · intro wS hSw
              (try dsimp only at hSw)
              have q0 := bcell hSw q0
              have q1 := bcell hSw q1
              have z0 := bcell hSw z0
              have z1 := bcell hSw z1
              go_simp
              first | done | with_reducible rfl
            try simp only [Act.put, qA, qB, qC, qD, qE, qF]
            refine tk 4 rfl ?_
            try simp only [Act.put, qA, qB, qC, qD, qE, qF]
            refine tk 5 rfl ?_
            try simp only [Act.put, qA, qB, qC, qD, qE, qF]
            refine tk 6 rfl ?_
            try simp only [Act.put, qA, qB, qC, qD, qE, qF]
            refine tq (v := ?_) 7 rfl ?_ ?_
            rotate_left
            · intro wS hSw
              (try dsimp only at hSw)
              have q0 := bcell hSw q0
              have q1 := bcell hSw q1
              have z0 := bcell hSw z0
              have z1 := bcell hSw z1
              go_simp
              first | done | with_reducible rfl
            try simp only [Act.put, qA, qB, qC, qD, qE, qF]
            refine tk 8 rfl ?_
            try simp only [Act.put, qA, qB, qC, qD, qE, qF]
            refine wpAnyH_done (by kernel_rfl) ?_ _
            have HB1 := Lib.hid (bel HBw.out r0)
            clear q0 q1 z0 z1
            go_wp2_with fail
            go_ret
            exact ⟨by rw [HN.out]; rfl, HB1.out⟩
        · have HN := Lib.hid (HNE.out (by intro e; exact hx (by cases e; rfl)))
          have dx : (px == qx) = false := by simpa using hx
          clear HT HNE hlt hlt2
          go_upto_region 6 with fail
          refine wp_region_held_drew (S := (fun W => Below wr.heap.size wr W)) (by kernel_rfl) ?_ (fun r0 => ?_)
          · exact ⟨rfl, rfl, rfl, Nat.le_refl _, fun _ _ => rfl⟩
          refine tk 0 rfl ?_
          try simp only [Act.put, qA, qB, qC, qD, qE, qF]
          refine tk 1 rfl ?_
          try simp only [Act.put, qA, qB, qC, qD, qE, qF]
          refine tk 2 rfl ?_
          try simp only [Act.put, qA, qB, qC, qD, qE, qF]
          refine tq (v := ?_) 3 rfl ?_ ?_
          rotate_left
          · intro wS hSw
            (try dsimp only at hSw)
            have q0 := bcell hSw q0
            have q1 := bcell hSw q1
            have z0 := bcell hSw z0
            have z1 := bcell hSw z1
            go_simp
            first | done | with_reducible rfl
          try simp only [Act.put, qA, qB, qC, qD, qE, qF]
          refine tk 4 rfl ?_
          try simp only [Act.put, qA, qB, qC, qD, qE, qF]
          refine tk 5 rfl ?_
          try simp only [Act.put, qA, qB, qC, qD, qE, qF]
          refine tk 6 rfl ?_
          try simp only [Act.put, qA, qB, qC, qD, qE, qF]
          refine tq (v := ?_) 7 rfl ?_ ?_
          rotate_left
          · intro wS hSw
            (try dsimp only at hSw)
            have q0 := bcell hSw q0
            have q1 := bcell hSw q1
            have z0 := bcell hSw z0
            have z1 := bcell hSw z1
            go_simp
            first | done | with_reducible rfl
          try simp only [Act.put, qA, qB, qC, qD, qE, qF]
          refine tk 8 rfl ?_
          try simp only [Act.put, qA, qB, qC, qD, qE, qF]
          refine wpAnyH_done (by kernel_rfl) ?_ _
          have HB1 := Lib.hid (bel HBw.out r0)
          clear q0 q1 z0 z1
          go_wp2_with fail
          go_ret
          exact ⟨by rw [HN.out]; rfl, HB1.out⟩
      · obtain rfl : i = L.length := by omega
        have d1 : decide ((L.length : Int) < (L.length : Int)) = false := by simp
        have HV : Hid (R = true) := Lib.hid (by
          have := HE.out
          rw [List.take_length, HLN.out, List.take_length] at this
          rw [HR.out]
          exact decide_eq_true this)
        clear hM
        go_wp2_with fail
        go_ret
        exact ⟨by rw [HV.out]; rfl, HBw.out⟩
  · have dl : ((L.length : Int) != (M.length : Int)) = true := by simp; omega
    have HV : Hid (decide (L = M) = false) := Lib.hid (decide_eq_false (fun e => hlen (by rw [e])))
    rw [HV.out]
    clear hc hc2
    go_enter Tryz.func29, Tryz.ntmps29
    go_wp2_with fail
    go_ret
    exact ⟨rfl, Below.refl _ _⟩
end Go.Proofs.YtiifbhiodegipaaGreatDoor.HN
namespace Go.Proofs.YtiifbhiodegipaaGreatDoor.HN
open Go.RowKit
theorem wpAnyH_mono {P : Program} {ops : Array Oper} {Q : Exit → Act → World → Prop} {md : Region.Mode} {S S' : World → Prop} (hS : ∀ w, S' w → S w) :
    ∀ (fuel : Nat) (listed : Array Bool) (a : Act) (w : World), wpAnyH P md ops Q S' fuel listed a w → wpAnyH P md ops Q S fuel listed a w
  | 0, _, _, _, h => h
  | fuel + 1, _, _, _, h => ⟨h.1, fun i hi => wpOp_mono (fun a' w' h' => ⟨hS _ h'.1, wpAnyH_mono hS fuel _ a' w' h'.2⟩) (h.2 i hi)⟩
theorem strOfNums_append (a b : List Int) : strOfNums (a ++ b) = strOfNums a ++ strOfNums b := by
  apply ByteArray.ext
  simp [strOfNums]
set_option maxRecDepth 100000 in
set_option maxHeartbeats 8000000 in
theorem hrefPut_any (v : Value) (L : CntL) (w : World) (h : SeesC w v L) (hb : CntBd L) (hok : ∀ p ∈ L, CntOk p) (hl : L.length ≤ 4000) :
    Calls Tryz.prog 86 #[v] w fun e w' => e = .returned (.string (strOfNums (hnB L))) ∧ Below w.heap.size w w' := by
  obtain ⟨ao, c, rfl, hlc, hnil, hc⟩ := h
  have HC := Lib.hid (And.intro hnil hc)
  have HBD := Lib.hid hb
  have HOK := Lib.hid hok
  have hwl : IntKind.u64.wrap (L.length : Int) = (L.length : Int) := by rw [IntKind.wrap_u64]; omega
  have HP0 := Lib.hid (refPut_any L.length 2 w (by omega) (by omega))
  obtain ⟨A0, hA0⟩ : ∃ A0, A0 = strOfNums (putL L.length 2) := ⟨_, rfl⟩
  have hA0s : A0.size = 2 := by rw [hA0, strOfNums_size, putL_ne (by decide) (by decide)]; rfl
  have q0 : ¬ 9223372036854775807 < (⟨#[72]⟩ : ByteArray).size + A0.size := by
    have : (⟨#[72]⟩ : ByteArray).size = 1 := rfl
    omega
  have HA0 := Lib.hid hA0
  have HX0 : Hid ((⟨#[72]⟩ : ByteArray) ++ A0 = strOfNums (([72] ++ putL L.length 2) ++ ([] : CntL).flatMap cnt8)) := Lib.hid (by
    rw [List.flatMap_nil, List.append_nil, strOfNums_append, ← hA0]; rfl)
  clear hnil hc hb hok hA0 hA0s
  go_enter Tryz.func86, Tryz.ntmps86
  go_wp2_with fail
  refine HP0.out.mono ?_; rintro e w1 ⟨v1, rfl, ho1, hb1⟩
  have k0 := conv_sees ho1.sees
  rw [← HA0.out] at k0
  have HB1 := Lib.hid hb1
  clear ho1 hb1 HP0
  go_wp2_with fail
  go_loopw [3, 14] (fun u j wr => ∃ (i : Nat) (sb : ByteArray), i ≤ L.length ∧ j = .int .i64 i ∧ u = .string sb ∧ Hid (sb = strOfNums (([72] ++ putL L.length 2) ++ (L.take i).flatMap cnt8)) ∧ Hid (Below w.heap.size w wr)) (fun _ j _ => L.length - (intOf j).toNat)
  case atStart => exact ⟨0, _, Nat.zero_le _, rfl, rfl, Lib.hid (by simpa using HX0.out), HB1⟩
  case round =>
    obtain ⟨i, sb, hi, rfl, rfl, HE, HBw⟩ := hrel
    by_cases hlt : i < L.length
    · obtain ⟨a, rfl⟩ : ∃ a, ao = some a := by
        cases ao with
        | none => rw [HC.out.1 rfl] at hlt; simp at hlt
        | some a => exact ⟨a, rfl⟩
      obtain ⟨q0, q1⟩ := HC.out.2 a rfl i _ (at2_get hlt)
      have q0 := bcell HBw.out q0
      have q1 := ofs1 (bcell HBw.out q1)
      have b0 : (0 : Int) ≤ (i : Int) := by omega
      have b1 : (i : Int) < (L.length : Int) := by omega
      have d1 : decide ((i : Int) < (L.length : Int)) = true := by simp; omega
      have HT : Hid ((L.take (i + 1)).flatMap cnt8 = (L.take i).flatMap cnt8 ++ (putL (at2 L i).1 4 ++ putL (at2 L i).2 2)) := Lib.hid (by
        rw [List.take_add_one, at2_get hlt]
        simp [cnt8])
      have HLT := Lib.hid hlt
      have hok := HOK.out _ (List.mem_of_getElem? (at2_get hlt))
      have hpb := at2_bd HBD.out i
      have hsz : sb.size ≤ 50000 := by
        rw [HE.out, strOfNums_size, List.length_append, cnt8_len, List.length_append, putL_ne (by decide) (by decide), List.length_take]
        have : (2 : Int).toNat = 2 := rfl
        simp
        omega
      generalize at2 L i = p at q0 q1 HT hok hpb
      obtain ⟨px, pn⟩ := p
      simp only [] at q0 q1 HT hpb
      unfold CntOk at hok
      simp only [] at hok
      have hw1 : IntKind.u64.wrap px = px := by rw [IntKind.wrap_u64]; omega
      have hw2 : IntKind.u64.wrap pn = pn := by rw [IntKind.wrap_u64]; omega
      have HP4 := Lib.hid (fun w => refPut_any px 4 w hpb.1.1 (by omega))
      have HP2 := Lib.hid (fun w => refPut_any pn 2 w (by omega) (by omega))
      obtain ⟨A4, hA4⟩ : ∃ A4, A4 = strOfNums (putL px 4) := ⟨_, rfl⟩
      obtain ⟨A2, hA2⟩ : ∃ A2, A2 = strOfNums (putL pn 2) := ⟨_, rfl⟩
      have hs4 : A4.size = 4 := by rw [hA4, strOfNums_size, putL_ne (by decide) (by decide)]; rfl
      have hs2 : A2.size = 2 := by rw [hA2, strOfNums_size, putL_ne (by decide) (by decide)]; rfl
      have g1 : ¬ 9223372036854775807 < sb.size + A4.size := by omega
      have g2 : ¬ 9223372036854775807 < (sb ++ A4).size + A2.size := by rw [ByteArray.size_append]; omega
      have g3 : ¬ 9223372036854775807 < sb.size + A4.size + A2.size := by omega
      have HA4 := Lib.hid hA4
      have HA2 := Lib.hid hA2
      have HN : Hid (sb ++ A4 ++ A2 = strOfNums (([72] ++ putL L.length 2) ++ (L.take (i + 1)).flatMap cnt8)) := Lib.hid (by
        rw [HT.out, HE.out, hA4, hA2, ← strOfNums_append, ← strOfNums_append]
        congr 1
        simp)
      clear hA4 hA2 hs4 hs2 hpb hok hsz
      go_upto_region 5 with fail
      obtain ⟨wx, hwx⟩ : ∃ wx, wx = wr.alloc (cntO (px, pn) ER) := ⟨_, rfl⟩
      have hx1 : wx.heap[wr.heap.size]? = some (cntO (px, pn) ER) := by rw [hwx]; exact heap_new wr _
      have hbx : Below wr.heap.size wr wx := by rw [hwx]; exact belNew _ _
      change Code.wp _ _ _ _ (wr.alloc (cntO (px, pn) ER))
      rw [← hwx]
      obtain ⟨x0, x1⟩ := ccells hx1
      have HBX := Lib.hid (bel HBw.out hbx)
      clear hwx hbx hx1 q0 q1
      refine wp_region_held_drew (S := (fun W => Below wx.heap.size wx W)) (by kernel_rfl) ?_ (fun r0 => ?_)
      · exact ⟨rfl, rfl, rfl, Nat.le_refl _, fun _ _ => rfl⟩
      refine tk 0 rfl ?_
      try simp only [Act.put, qA, qB, qC, qD, qE, qF]
      refine tk 1 rfl ?_
      try simp only [Act.put, qA, qB, qC, qD, qE, qF]
      refine tq (v := ?_) 2 rfl ?_ ?_
      rotate_left
      · intro wS hSw
        (try dsimp only at hSw)
        have x0 := bcell hSw x0
        go_simp
        first | done | with_reducible rfl
      try simp only [Act.put, qA, qB, qC, qD, qE, qF]
      refine tk 3 rfl ?_
      try simp only [Act.put, qA, qB, qC, qD, qE, qF]
      refine tk 7 rfl ?_
      try simp only [Act.put, qA, qB, qC, qD, qE, qF]
      refine tq (v := ?_) 8 rfl ?_ ?_
      rotate_left
      · intro wS hSw
        (try dsimp only at hSw)
        have x1 := bcell hSw x1
        go_simp
        first | done | with_reducible rfl
      try simp only [Act.put, qA, qB, qC, qD, qE, qF]
      refine tk 9 rfl ?_
      try simp only [Act.put, qA, qB, qC, qD, qE, qF]
      refine wpAnyH_ready (rs := [4]) (by kernel_rfl) (by simp) ?_
      refine AllReadyH.cons rfl (fun K hK => ?_) AllReadyH.nil
      go_simp
      refine (HP4.out _).mono ?_; rintro e w4 ⟨v4, rfl, ho4, hb4⟩
      refine hK.out _ _ ?_ (fun r1 => ?_)
      · exact bel r0 hb4
      refine wpAnyH_mono (S' := (fun W => Below wx.heap.size wx W ∧ Sees W v4 (putL px 4))) (fun _ h => h.1) _ _ _ _ ?_
      have r1x := And.intro r1 ho4.sees
      try simp only [Act.put, qA, qB, qC, qD, qE, qF]
      refine tq (v := ?_) 5 rfl ?_ ?_
      rotate_left
      · intro wS hSw
        (try dsimp only at hSw)
        have k1 := conv_sees hSw.2
        rw [← HA4.out] at k1
        go_simp
        first | done | with_reducible rfl
      try simp only [Act.put, qA, qB, qC, qD, qE, qF]
      refine tk 6 rfl ?_
      try simp only [Act.put, qA, qB, qC, qD, qE, qF]
      refine wpAnyH_ready (rs := [10]) (by kernel_rfl) (by simp) ?_
      refine AllReadyH.cons rfl (fun K hK => ?_) AllReadyH.nil
      go_simp
      refine (HP2.out _).mono ?_; rintro e w5 ⟨v5, rfl, ho5, hb5⟩
      refine hK.out _ _ ?_ (fun r2 => ?_)
      · exact ⟨bel r1x.1 hb5, r1x.2.keep hb5⟩
      refine wpAnyH_mono (S' := (fun W => (Below wx.heap.size wx W ∧ Sees W v4 (putL px 4)) ∧ Sees W v5 (putL pn 2))) (fun _ h => h.1) _ _ _ _ ?_
      have r2x := And.intro r2 ho5.sees
      try simp only [Act.put, qA, qB, qC, qD, qE, qF]
      refine tq (v := ?_) 11 rfl ?_ ?_
      rotate_left
      · intro wS hSw
        (try dsimp only at hSw)
        have k1 := conv_sees hSw.2
        rw [← HA2.out] at k1
        go_simp
        first | done | with_reducible rfl
      try simp only [Act.put, qA, qB, qC, qD, qE, qF]
      refine tk 12 rfl ?_
      try simp only [Act.put, qA, qB, qC, qD, qE, qF]
      refine tk 13 rfl ?_
      try simp only [Act.put, qA, qB, qC, qD, qE, qF]
      refine wpAnyH_done (by kernel_rfl) ?_ _
      have HB6 := Lib.hid (bel HBX.out r2x.1.1)
      clear x0 x1
      go_wp2_with fail
      go_roundw
      case rel => exact ⟨i + 1, _, HLT.out, by go_num, rfl, HN, HB6⟩
      case measure => simp [intOf]; have := HLT.out; omega
    · obtain rfl : i = L.length := by omega
      have d1 : decide ((L.length : Int) < (L.length : Int)) = false := by simp
      have HV : Hid (sb = strOfNums (hnB L)) := Lib.hid (by rw [HE.out, List.take_length]; rfl)
      go_wp2_with fail
      go_ret
      exact ⟨by rw [← HV.out]; rfl, HBw.out⟩
end Go.Proofs.YtiifbhiodegipaaGreatDoor.HN
