/- The document's Right. Made by g_brr.py. -/
import Derived.Test.YtiifbhiodegipaaGreatDoorBrD
import Derived.Deep.DeepCutAuto
import Derived.Test.YtiifbhiodegipaaGreatDoorJQ
namespace Go.Proofs.YtiifbhiodegipaaGreatDoor
open Go.RowKit Go.Maps
theorem eqlRt (p q : PA) (w : World) : (binOp .eql 73 (atV p) (atV q)).run Tryz.prog w = .ok (.bool (decide (p = q))) w := by
  have hS : Tryz.prog.underlying 73 = some (.struct (Tryz.prog.fieldsOf 73)) := by kernel_rfl
  have hp : Tryz.prog.stoodInHeld 73 = false := by kernel_rfl
  have u3 := Tryz.underlying9
  have a3 := Tryz.isAgg9
  have z3 := Tryz.sizeOf9
  rw [run_eql_struct, show (10000 : Nat) = 9999 + 1 from rfl, run_equalIn_agg w 9999 73 _ _ hS hp]
  simp only [Program.fieldsOf, Tryz.underlying73]
  go_simp
  obtain ⟨a, b⟩ := p
  obtain ⟨c, d⟩ := q
  by_cases h1 : a.toList = c.toList <;> by_cases h2 : b.toList = d.toList
  · simp [klB_inj h1, klB_inj h2]
  · have : ¬ b = d := fun e => h2 (by rw [e])
    simp [h1, h2, this]
  · have : ¬ a = c := fun e => h1 (by rw [e])
    simp [h1, this]
  · have : ¬ a = c := fun e => h1 (by rw [e])
    simp [h1, this]
theorem SeesG.cnt {w : World} {v : Value} {l : List Int} (h : SeesG 1 encI1 w v l) : SeesN w v l := by
  obtain ⟨ao, c, rfl, h1, h2, h3⟩ := h
  refine ⟨ao, c, rfl, h1, h2, fun a ha i hi => ?_⟩
  have h4 : w.cell? (a.add (i * 1)) = some (.int .i64 (l.getD i 0)) := h3 a ha i (l.getD i 0) (by rw [List.getD_eq_getElem?_getD, List.getElem?_eq_getElem hi]; rfl) 0 _ rfl
  rwa [Nat.mul_one] at h4
def RdA (b : BlkS) (i : Nat) : Prop := mayP (b.attrs.getD i default) = true ∧ cntN b.sl ((i : Int) + 1) ≠ 0 ∧ b.attrs.getD i default ∉ b.attrs.take i
def RdS (b : BlkS) (i : Nat) : Prop := b.sl.getD i 0 ≤ (b.attrs.length : Int) ∧ cntN b.free i = if b.sl.getD i 0 = 0 then 1 else 0
set_option maxRecDepth 100000 in
set_option maxHeartbeats 16000000 in
theorem refRight15_any (b : BlkS) (v1 v2 v3 : Value) (w : World) (h : DocSees w b.sl b.free b.attrs v1 v2 v3) (hw : BWf b) (hfl : b.free.length ≤ 1000000) :
    Calls Tryz.prog 83 #[docV b.addr b.aff v1 v2 v3] w fun e w' => e = .returned (.bool (rightB b)) ∧ Below w.heap.size w w' := by
  have hl := hw.2.1
  obtain ⟨R, hR⟩ : ∃ R, R = rightB b := ⟨_, rfl⟩
  have HT : Hid (RightD b → R = true) := Lib.hid (fun h => by rw [hR]; exact (right_iff b hl).2 h)
  have HF : Hid (¬ RightD b → R = false) := Lib.hid (fun h => by
    rw [hR]
    cases hc : rightB b with
    | false => rfl
    | true => exact absurd ((right_iff b hl).1 hc) h)
  rw [← hR]
  clear hR
  obtain ⟨a1, c1, rfl⟩ := h.slots.slice
  obtain ⟨a2, c2, rfl⟩ := h.free.slice
  obtain ⟨a3, c3, rfl⟩ := h.attrs.slice
  obtain ⟨W, hW⟩ : ∃ W, W = w.alloc (docO b.addr b.aff (.slice a1 b.sl.length c1) (.slice a2 b.free.length c2) (.slice a3 b.attrs.length c3)) := ⟨_, rfl⟩
  have hb0 : Below w.heap.size w W := by rw [hW]; exact belNew _ _
  have hA : DocAt W w.heap.size b.addr b.aff (.slice a1 b.sl.length c1) (.slice a2 b.free.length c2) (.slice a3 b.attrs.length c3) := by rw [hW]; exact heap_new w _
  have HS := Lib.hid (h.below hb0)
  have HD := Lib.hid hA
  have HB := Lib.hid hb0
  have HW := Lib.hid hW
  have HOW := Lib.hid (fun w => refOwner_any b.aff hw.2.2.2.2.1 w)
  have HMY := Lib.hid (fun (p : PA) (w : World) (h1 : p.1.size ≤ maxLen) (h2 : p.2.size ≤ maxLen) => refMayA_any p h1 h2 w)
  have HCS := Lib.hid (fun (k : Int) (w : World) (h : SeesN w (.slice a1 b.sl.length c1) b.sl) => refCount_any _ b.sl k w h (by omega))
  have HCF := Lib.hid (fun (k : Int) (w : World) (h : SeesN w (.slice a2 b.free.length c2) b.free) => refCount_any _ b.free k w h hfl)
  have HPS := Lib.hid hw.2.2.2.2.2.2.2
  have HOS := Lib.hid (And.intro hw.2.2.1 hw.2.2.2.1)
  have h1 : b.addr.tmod 64 = b.addr % 64 := by rw [Int.tmod_eq_emod_of_nonneg hw.1.1]
  have h2 : IntKind.u32.wrap (b.addr % 64) = b.addr % 64 := IntWalk.u32_in _ (by omega)
  have n1 : ((b.sl.length : Int) != 64) = false := by rw [hl]; rfl
  have eqr := eqlRt
  obtain ⟨k0, k1, k2, k3, k4⟩ := hA.cells
  have HL64 := Lib.hid hl
  clear hW hb0 hA h hw hl
  go_enter Tryz.func83, Tryz.ntmps83
  go_upto_region 1 with fail
  change Code.wp _ _ _ _ (w.alloc (docO b.addr b.aff (.slice a1 b.sl.length c1) (.slice a2 b.free.length c2) (.slice a3 b.attrs.length c3)))
  rw [← HW.out]
  clear HW
  by_cases h64 : b.addr % 64 = 0
  rotate_left
  · have d0 : (b.addr % 64 != 0) = true := by simp [h64]
    have HN := Lib.hid (HF.out (fun h => h64 h.1))
    clear h64
    go_wp2_with fail
    go_ret
    exact ⟨congrArg (fun r => Ending.returned (.bool r)) HN.out.symm, HB.out⟩
  have d0 : (b.addr % 64 != 0) = false := by simp [h64]
  have H64 := Lib.hid h64
  clear h64
  go_wp2_with fail
  refine (HOW.out _).mono ?_; rintro e w1 ⟨rfl, hb1⟩
  have HB1 := Lib.hid hb1
  obtain ⟨k0, k1, k2, k3, k4⟩ := (HD.out.below hb1).cells
  clear hb1
  cases ho : ownB b.aff with
  | false =>
    have HN := Lib.hid (HF.out (fun h => by rw [h.2.1] at ho; cases ho))
    clear ho
    go_wp2_with fail
    go_ret
    exact ⟨congrArg (fun r => Ending.returned (.bool r)) HN.out.symm, HB.out.trans (HB1.out.mono HB.out.size)⟩
  | true =>
    have HOB := Lib.hid ho
    clear ho
    by_cases hal : b.attrs.length ≤ 64
    rotate_left
    · have d1 : decide (64 < (b.attrs.length : Int)) = true := by simp; omega
      have HN := Lib.hid (HF.out (fun h => hal h.2.2.1))
      clear hal
      go_wp2_with fail
      go_ret
      exact ⟨congrArg (fun r => Ending.returned (.bool r)) HN.out.symm, HB.out.trans (HB1.out.mono HB.out.size)⟩
    have d1 : decide (64 < (b.attrs.length : Int)) = false := by simp; omega
    go_wp2_with fail
    clear k0 k1 k2 k3 k4
    go_loopw [37] (fun j wr => ∃ i : Nat, i ≤ b.attrs.length ∧ j = .int .i64 i ∧ Hid ((∀ k, k < i → RdA b k) ∧ Below W.heap.size W wr)) (fun j _ => b.attrs.length - (intOf j).toNat)
    case atStart => exact ⟨0, Nat.zero_le _, rfl, Lib.hid ⟨fun k hk => absurd hk (Nat.not_lt_zero _), HB1.out⟩⟩
    case round =>
      obtain ⟨i, hi, rfl, HI⟩ := hrel
      obtain ⟨wo, rfl⟩ : ∃ wo, wo = wr := ⟨_, rfl⟩
      by_cases hlt : i < b.attrs.length
      · have hp : b.attrs[i]? = some (b.attrs[i]'hlt) := List.getElem?_eq_getElem hlt
        have HPM := Lib.hid (HPS.out (b.attrs[i]'hlt) (List.getElem_mem hlt))
        have hgd : b.attrs.getD i default = b.attrs[i]'hlt := by rw [List.getD_eq_getElem?_getD, hp]; rfl
        generalize b.attrs[i]'hlt = p at hp hgd HPM
        obtain ⟨a, rfl, -, hx⟩ := (HS.out.attrs.below HI.out.2).at hp
        have q0 : wo.cell? (a.add (i * 2)) = some (.string p.1) := hx 0 _ rfl
        have q1 : wo.cell? { block := (a.add (i * 2)).block, off := (a.add (i * 2)).off + 1 } = some (.string p.2) := hx 1 _ rfl
        have b0 : (0 : Int) ≤ (i : Int) := by omega
        have b1 : (i : Int) < (b.attrs.length : Int) := by omega
        have d2 : decide ((i : Int) < (b.attrs.length : Int)) = true := by simp; omega
        have s1 : IntKind.i64.wrap ((i : Int) + 1) = (i : Int) + 1 := IntWalk.i64_in _ (by omega)
        have HLT := Lib.hid hlt
        have HGD := Lib.hid hgd
        have HAL := Lib.hid hal
        clear hx hgd hlt hp
        go_upto_region 6 with fail
        obtain ⟨wx, hwx⟩ : ∃ wx, wx = wo.alloc (rtO p) := ⟨_, rfl⟩
        have hx1 : wx.heap[wo.heap.size]? = some (rtO p) := by rw [hwx]; exact heap_new wo _
        have hbx : Below wo.heap.size wo wx := by rw [hwx]; exact belNew wo _
        change Code.wp _ _ _ _ (wo.alloc (rtO p))
        rw [← hwx]
        obtain ⟨x0, x1⟩ := cells2 hx1
        obtain ⟨k0, k1, k2, k3, k4⟩ := (HD.out.below (bel HI.out.2 hbx)).cells
        have HBX := Lib.hid (bel HI.out.2 hbx)
        have HX1 := Lib.hid hx1
        clear hwx hx1 hbx q0 q1
        go_wp2_with fail
        refine (HMY.out p _ HPM.out.1 HPM.out.2).mono ?_; rintro e w2 ⟨rfl, hb2⟩
        have HB2 := Lib.hid (bel HBX.out hb2)
        have HX2 := Lib.hid ((hb2.block _ (heap_lt HX1.out)).trans HX1.out)
        obtain ⟨k0, k1, k2, k3, k4⟩ := (HD.out.below HB2.out).cells
        clear hb2 x0 x1
        cases hm : mayP p with
        | false =>
          have HN := Lib.hid (HF.out (fun h => by
            have := (h.2.2.2.1 i HLT.out).1
            rw [HGD.out, hm] at this
            cases this))
          clear hm
          go_wp2_with fail
          go_ret
          exact ⟨congrArg (fun r => Ending.returned (.bool r)) HN.out.symm, HB.out.trans (HB2.out.mono HB.out.size)⟩
        | true =>
          have HM := Lib.hid hm
          clear hm
          have HCT := Lib.hid (HCS.out ((i : Int) + 1) w2 ((HS.out.slots.below HB2.out).cnt))
          go_wp2_with fail
          refine HCT.out.mono ?_; rintro e w2' ⟨rfl, rfl⟩
          by_cases hc0 : cntN b.sl ((i : Int) + 1) = 0
          · have d3 : ((cntN b.sl ((i : Int) + 1) : Int) == 0) = true := by simp [hc0]
            have HN := Lib.hid (HF.out (fun h => (h.2.2.2.1 i HLT.out).2.1 hc0))
            clear hc0
            go_wp2_with fail
            go_ret
            exact ⟨congrArg (fun r => Ending.returned (.bool r)) HN.out.symm, HB.out.trans (HB2.out.mono HB.out.size)⟩
          · have d3 : ((cntN b.sl ((i : Int) + 1) : Int) == 0) = false := by simp; omega
            have HC0 := Lib.hid hc0
            clear hc0 HCT
            have b2 : (i : Int) ≤ (c3 : Int) := by
              obtain ⟨ao', c', e, h1, -⟩ := HS.out.attrs
              cases e
              have := HLT.out
              omega
            have b3 : i ≤ c3 := by omega
            go_wp2_with fail
            clear k0 k1 k2 k3 k4
            go_loopw [58] (fun j wq => ∃ k : Nat, k ≤ i ∧ j = .int .i64 k ∧ Hid ((∀ m, m < k → b.attrs.getD m default ≠ p) ∧ Below W.heap.size W wq ∧ wq.heap[wo.heap.size]? = some (rtO p))) (fun j _ => i - (intOf j).toNat)
            case atStart => exact ⟨0, Nat.zero_le _, rfl, Lib.hid ⟨fun k hk => absurd hk (Nat.not_lt_zero _), HB2.out, HX2.out⟩⟩
            case round =>
              obtain ⟨k, hk, rfl, HJ⟩ := hrel
              by_cases hkl : k < i
              · have hkn : k < b.attrs.length := by have := HLT.out; omega
                have hq : b.attrs[k]? = some (b.attrs[k]'hkn) := List.getElem?_eq_getElem hkn
                have hgq : b.attrs.getD k default = b.attrs[k]'hkn := by rw [List.getD_eq_getElem?_getD, hq]; rfl
                generalize b.attrs[k]'hkn = q at hq hgq
                obtain ⟨a', ea, -, hx⟩ := (HS.out.attrs.below HJ.out.2.1).at hq
                obtain rfl : a = a' := Option.some.inj ea
                have q0 : wr.cell? (a.add (k * 2)) = some (.string q.1) := hx 0 _ rfl
                have q1 : wr.cell? { block := (a.add (k * 2)).block, off := (a.add (k * 2)).off + 1 } = some (.string q.2) := hx 1 _ rfl
                have e0 : (0 : Int) ≤ (k : Int) := by omega
                have e1 : (k : Int) < (i : Int) := by omega
                have d4 : decide ((k : Int) < (i : Int)) = true := by simp; omega
                have HKL := Lib.hid hkl
                have HGQ := Lib.hid hgq
                clear hx hgq hkl hkn hq ea
                go_upto_region 11 with fail
                obtain ⟨wy, hwy⟩ : ∃ wy, wy = wr.alloc (rtO q) := ⟨_, rfl⟩
                have hy1 : wy.heap[wr.heap.size]? = some (rtO q) := by rw [hwy]; exact heap_new wr _
                have hby : Below wr.heap.size wr wy := by rw [hwy]; exact belNew wr _
                change Code.wp _ _ _ _ (wr.alloc (rtO q))
                rw [← hwy]
                have HBY := Lib.hid (bel HJ.out.2.1 hby)
                have HXY : Hid (wy.heap[wo.heap.size]? = some (rtO p)) := Lib.hid ((hby.block _ (heap_lt HJ.out.2.2)).trans HJ.out.2.2)
                obtain ⟨y0, y1⟩ := cells2 hy1
                obtain ⟨x0, x1⟩ := cells2 HXY.out
                clear hwy hy1 hby q0 q1
                by_cases hqp : q = p
                · have dq : decide (q = p) = true := decide_eq_true hqp
                  have HN := Lib.hid (HF.out (fun h => by
                    refine (h.2.2.2.1 i HLT.out).2.2 ?_
                    rw [HGD.out, ← hqp, ← HGQ.out, List.getD_eq_getElem?_getD]
                    have hkn : k < b.attrs.length := by have := HLT.out; have := HKL.out; omega
                    rw [List.getElem?_eq_getElem hkn, Option.getD_some]
                    exact List.mem_take_iff_getElem.2 ⟨k, by have := HKL.out; omega, rfl⟩))
                  clear hqp
                  go_wp2_with fail
                  go_ret
                  exact ⟨congrArg (fun r => Ending.returned (.bool r)) HN.out.symm, HB.out.trans (HBY.out.mono HB.out.size)⟩
                · have dq : decide (q = p) = false := decide_eq_false hqp
                  have HNE : Hid (∀ m, m < k + 1 → b.attrs.getD m default ≠ p) := Lib.hid (fun m hm => by
                    by_cases e : m = k
                    · rw [e, HGQ.out]; exact hqp
                    · exact HJ.out.1 m (by omega))
                  clear hqp
                  go_wp2_with fail
                  go_roundw
                  case rel => exact ⟨k + 1, HKL.out, by go_num, Lib.hid ⟨HNE.out, HBY.out, HXY.out⟩⟩
                  case measure => simp [intOf]; have := HKL.out; omega
              · obtain rfl : k = i := by omega
                have d4 : decide ((k : Int) < (k : Int)) = false := by simp
                have HNX : Hid (∀ j, j < k + 1 → RdA b j) := Lib.hid (fun j hj => by
                  by_cases e : j = k
                  · subst e
                    refine ⟨by rw [HGD.out]; exact HM.out, HC0.out, fun hmem => ?_⟩
                    rw [HGD.out] at hmem
                    obtain ⟨m, hm, e2⟩ := List.mem_take_iff_getElem.1 hmem
                    exact HJ.out.1 m (by omega) (by rw [List.getD_eq_getElem?_getD, List.getElem?_eq_getElem (by omega), e2]; rfl)
                  · exact HI.out.1 j (by omega))
                have HBJ := Lib.hid HJ.out.2.1
                clear HJ hkl
                go_wp2_with fail
                go_roundw
                case rel =>
                  exact ⟨k + 1, HLT.out, by go_num, Lib.hid ⟨HNX.out, HBJ.out⟩⟩
                case measure => simp [intOf]; have := HLT.out; omega
      · obtain rfl : i = b.attrs.length := by omega
        have d2 : decide ((b.attrs.length : Int) < (b.attrs.length : Int)) = false := by simp
        have HI1 := Lib.hid HI.out.1
        obtain ⟨k0, k1, k2, k3, k4⟩ := (HD.out.below HI.out.2).cells
        have HBI := Lib.hid HI.out.2
        clear HI hlt
        go_wp2_with fail
        clear k0 k1 k2 k3 k4
        go_loopw [70] (fun j wr => ∃ i : Nat, i ≤ 64 ∧ j = .int .i64 i ∧ Hid ((∀ k, k < i → RdS b k) ∧ Below W.heap.size W wr)) (fun j _ => 64 - (intOf j).toNat)
        case atStart => exact ⟨0, Nat.zero_le _, rfl, Lib.hid ⟨fun k hk => absurd hk (Nat.not_lt_zero _), HBI.out⟩⟩
        case round =>
          obtain ⟨i, hi, rfl, HI⟩ := hrel
          by_cases hlt : i < 64
          · have hp : b.sl[i]? = some (b.sl.getD i 0) := get64 HL64.out hlt
            have hbx := okB_get HOS.out.1 i
            obtain ⟨a, rfl, -, hx⟩ := (HS.out.slots.below HI.out.2).at hp
            have q0 : wr.cell? (a.add (i * 1)) = some (.int .i64 (b.sl.getD i 0)) := hx 0 _ rfl
            rw [Nat.mul_one] at q0
            have b0 : (0 : Int) ≤ (i : Int) := by omega
            have b1 : (i : Int) < (b.sl.length : Int) := by rw [HL64.out]; omega
            have d2 : decide ((i : Int) < (b.sl.length : Int)) = true := decide_eq_true b1
            have s1 : IntKind.i64.wrap ((i : Int) + 1) = (i : Int) + 1 := IntWalk.i64_in _ (by omega)
            have HLT := Lib.hid hlt
            have HRS : Hid (RdS b i ↔ (b.sl.getD i 0 ≤ (b.attrs.length : Int) ∧ cntN b.free i = if b.sl.getD i 0 = 0 then 1 else 0)) := Lib.hid Iff.rfl
            have HNO : Hid (¬ RdS b i → R = false) := Lib.hid (fun hn => HF.out (fun h => hn (h.2.2.2.2.1 i HLT.out)))
            generalize b.sl.getD i 0 = x at q0 hbx HRS
            have d3 : decide (x < 0) = false := by simp; omega
            obtain ⟨k0, k1, k2, k3, k4⟩ := (HD.out.below HI.out.2).cells
            have HCT := Lib.hid (HCF.out (i : Int) wr ((HS.out.free.below HI.out.2).cnt))
            clear hx hp hlt hbx
            by_cases hx : x ≤ (b.attrs.length : Int)
            rotate_left
            · have d4 : decide ((b.attrs.length : Int) < x) = true := by simp; omega
              have HN := Lib.hid (HNO.out (fun h => hx (HRS.out.1 h).1))
              clear hx
              go_wp2_with fail
              go_ret
              exact ⟨congrArg (fun r => Ending.returned (.bool r)) HN.out.symm, HB.out.trans (HI.out.2.mono HB.out.size)⟩
            have d4 : decide ((b.attrs.length : Int) < x) = false := by simp; omega
            have HXL := Lib.hid hx
            clear hx
            generalize hcn : cntN b.free i = cn at HCT HRS
            clear hcn
            by_cases hx0 : x = 0
            · have d5 : (x == 0) = true := by simp [hx0]
              rw [if_pos hx0] at HRS
              clear hx0
              go_wp2_with fail
              refine HCT.out.mono ?_; rintro e wc ⟨rfl, rfl⟩
              by_cases hc : cn = 1
              · have d6 : ((cn : Int) != 1) = false := by simp [hc]
                have HNX : Hid (∀ j, j < i + 1 → RdS b j) := Lib.hid (fun j hj => by
                  by_cases e : j = i
                  · subst e; exact HRS.out.2 ⟨HXL.out, hc⟩
                  · exact HI.out.1 j (by omega))
                have HBJ := Lib.hid HI.out.2
                clear hc HI
                go_wp2_with fail
                go_roundw
                case rel => exact ⟨i + 1, HLT.out, by go_num, Lib.hid ⟨HNX.out, HBJ.out⟩⟩
                case measure => simp [intOf]; have := HLT.out; omega
              · have d6 : ((cn : Int) != 1) = true := by simp; omega
                have HN := Lib.hid (HNO.out (fun h => hc (HRS.out.1 h).2))
                clear hc
                go_wp2_with fail
                go_ret
                exact ⟨congrArg (fun r => Ending.returned (.bool r)) HN.out.symm, HB.out.trans (HI.out.2.mono HB.out.size)⟩
            · have d5 : (x == 0) = false := by simp [hx0]
              rw [if_neg hx0] at HRS
              clear hx0
              go_wp2_with fail
              refine HCT.out.mono ?_; rintro e wc ⟨rfl, rfl⟩
              by_cases hc : cn = 0
              · have d6 : ((cn : Int) != 0) = false := by simp [hc]
                have HNX : Hid (∀ j, j < i + 1 → RdS b j) := Lib.hid (fun j hj => by
                  by_cases e : j = i
                  · subst e; exact HRS.out.2 ⟨HXL.out, hc⟩
                  · exact HI.out.1 j (by omega))
                have HBJ := Lib.hid HI.out.2
                clear hc HI
                go_wp2_with fail
                go_roundw
                case rel => exact ⟨i + 1, HLT.out, by go_num, Lib.hid ⟨HNX.out, HBJ.out⟩⟩
                case measure => simp [intOf]; have := HLT.out; omega
              · have d6 : ((cn : Int) != 0) = true := by simp; omega
                have HN := Lib.hid (HNO.out (fun h => hc (HRS.out.1 h).2))
                clear hc
                go_wp2_with fail
                go_ret
                exact ⟨congrArg (fun r => Ending.returned (.bool r)) HN.out.symm, HB.out.trans (HI.out.2.mono HB.out.size)⟩
          · obtain rfl : i = 64 := by omega
            have d2 : decide (((64 : Nat) : Int) < (b.sl.length : Int)) = false := by rw [HL64.out]; decide
            have d2' : decide ((64 : Int) < (b.sl.length : Int)) = false := by rw [HL64.out]; decide
            have HI2 := Lib.hid HI.out.1
            obtain ⟨k0, k1, k2, k3, k4⟩ := (HD.out.below HI.out.2).cells
            have HBI := Lib.hid HI.out.2
            clear HI hlt
            go_wp2_with fail
            clear k0 k1 k2 k3 k4
            go_loopw [96] (fun j wr => ∃ i : Nat, i ≤ b.free.length ∧ j = .int .i64 i ∧ Hid ((∀ k, k < i → b.free.getD k 0 < 64) ∧ Below W.heap.size W wr)) (fun j _ => b.free.length - (intOf j).toNat)
            case atStart => exact ⟨0, Nat.zero_le _, rfl, Lib.hid ⟨fun k hk => absurd hk (Nat.not_lt_zero _), HBI.out⟩⟩
            case round =>
              obtain ⟨i, hi, rfl, HI⟩ := hrel
              by_cases hlt : i < b.free.length
              · have hp : b.free[i]? = some (b.free.getD i 0) := by rw [List.getD_eq_getElem?_getD, List.getElem?_eq_getElem hlt]; rfl
                have hbx := okB_get HOS.out.2 i
                obtain ⟨a, rfl, -, hx⟩ := (HS.out.free.below HI.out.2).at hp
                have q0 : wr.cell? (a.add (i * 1)) = some (.int .i64 (b.free.getD i 0)) := hx 0 _ rfl
                rw [Nat.mul_one] at q0
                have b0 : (0 : Int) ≤ (i : Int) := by omega
                have b1 : (i : Int) < (b.free.length : Int) := by omega
                have d2 : decide ((i : Int) < (b.free.length : Int)) = true := by simp; omega
                have s1 : IntKind.i64.wrap ((i : Int) + 1) = (i : Int) + 1 := IntWalk.i64_in _ (by omega)
                have HLT := Lib.hid hlt
                have HNO : Hid (¬ b.free.getD i 0 < 64 → R = false) := Lib.hid (fun hn => HF.out (fun h => hn (h.2.2.2.2.2 _ (mem_getD.2 ⟨i, HLT.out, rfl⟩)).2))
                have HNX : Hid (b.free.getD i 0 < 64 → ∀ j, j < i + 1 → b.free.getD j 0 < 64) := Lib.hid (fun h j hj => by
                  by_cases e : j = i
                  · subst e; exact h
                  · exact HI.out.1 j (by omega))
                generalize b.free.getD i 0 = x at q0 hbx HNO HNX
                have d3 : decide (x < 0) = false := by simp; omega
                have HBJ := Lib.hid HI.out.2
                clear hx hp hlt hbx HI
                by_cases hx : x < 64
                rotate_left
                · have d4 : decide (63 < x) = true := by simp; omega
                  have HN := Lib.hid (HNO.out hx)
                  clear hx
                  go_wp2_with fail
                  go_ret
                  exact ⟨congrArg (fun r => Ending.returned (.bool r)) HN.out.symm, HB.out.trans (HBJ.out.mono HB.out.size)⟩
                have d4 : decide (63 < x) = false := by simp; omega
                have HN2 := Lib.hid (HNX.out hx)
                clear hx
                go_wp2_with fail
                go_roundw
                case rel => exact ⟨i + 1, HLT.out, by go_num, Lib.hid ⟨HN2.out, HBJ.out⟩⟩
                case measure => simp [intOf]; have := HLT.out; omega
              · obtain rfl : i = b.free.length := by omega
                have d2 : decide ((b.free.length : Int) < (b.free.length : Int)) = false := by simp
                have HTR := Lib.hid (HT.out ⟨H64.out, HOB.out, hal, HI1.out, HI2.out, fun f hf => by
                  obtain ⟨k, hk, rfl⟩ := mem_getD.1 hf
                  exact ⟨(okB_get HOS.out.2 k).1, HI.out.1 k hk⟩⟩)
                have HBJ := Lib.hid HI.out.2
                clear HI hlt
                go_wp2_with fail
                go_ret
                exact ⟨congrArg (fun r => Ending.returned (.bool r)) HTR.out.symm, HB.out.trans (HBJ.out.mono HB.out.size)⟩
end Go.Proofs.YtiifbhiodegipaaGreatDoor
namespace Go.Proofs.YtiifbhiodegipaaGreatDoor
section
open Go.RowKit
/-- A variable that holds a block, with its lists. -/
structure VarB (W : World) (g : Nat) (b : BlkS) (fv av : Value) : Prop where
  blk : BlkAt W g b fv av
  free : Sees W fv b.free
  attrs : SeesA W av b.attrs
theorem VarB.below {W W' : World} {g : Nat} {b : BlkS} {fv av : Value} (h : VarB W g b fv av) (hb : Below W.heap.size W W') : VarB W' g b fv av := ⟨h.blk.below hb, h.free.keep hb, h.attrs.below hb⟩
end
section
open Go.RowKit
theorem DocRet.sees {w w' : World} {b : BlkS} {v1 v2 v3 : Value} (h : DocRet w w' b v1 v2 v3) : DocSees w' b.sl b.free b.attrs v1 v2 v3 := by
  have h1 : RowI1 w' w.heap.size v1 b.sl := by have := h.slots; unfold OwnsI at this; rw [← flat_I1] at this; exact this
  have h2 : RowI1 w' w.heap.size v2 b.free := by have := h.free; unfold OwnsI at this; rw [← flat_I1] at this; exact this
  have h3 : RowG ERt 2 encA w' w.heap.size v3 b.attrs := h.attrs
  exact ⟨h1.sees (fun _ => rfl), h2.sees (fun _ => rfl), h3.sees (fun _ => rfl)⟩
/-- The law's variables: the block, the attribute. -/
def VarsB (w : World) (g : Nat) (c : BlkS) (fv av : Value) (ga : Nat) (a : PA) (X : World) : Prop := VarB X g c fv av ∧ X.heap[ga]? = some (rtO a) ∧ Below w.heap.size w X
theorem VarsB.below {w : World} {g : Nat} {c : BlkS} {fv av : Value} {ga : Nat} {a : PA} {X Y : World} (h : VarsB w g c fv av ga a X) (hb : Below X.heap.size X Y) : VarsB w g c fv av ga a Y :=
  ⟨h.1.below hb, (hb.block _ (heap_lt h.2.1)).trans h.2.1, h.2.2.trans (hb.mono h.2.2.size)⟩
end
end Go.Proofs.YtiifbhiodegipaaGreatDoor
