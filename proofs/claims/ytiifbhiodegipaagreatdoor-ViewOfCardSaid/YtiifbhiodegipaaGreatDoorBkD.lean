/- Package block: attributes sought in a row; a row of them that may be. -/
import Derived.Test.YtiifbhiodegipaaGreatDoorSq
import Derived.Test.YtiifbhiodegipaaGreatDoorJA
import Derived.Laws.StructEq
namespace Go.Proofs.YtiifbhiodegipaaGreatDoor
open Go.RowKit Go.Maps
abbrev PA := ByteArray × ByteArray
instance decPA (p : PA) (L : List PA) : Decidable (p ∈ L) := decidable_of_iff (L.any (fun q => decide (q = p)) = true) (by simp [List.any_eq_true])
theorem klB_inj {s t : ByteArray} (h : s.toList = t.toList) : s = t := by
  rw [ByteArray.toList_eq, ByteArray.toList_eq] at h
  cases s; cases t
  simp only [] at h
  congr 1
  exact Array.toList_inj.1 h
theorem eqlA (p q : PA) (w : World) : (binOp .eql 76 (atV p) (atV q)).run Tryz.prog w = .ok (.bool (decide (p = q))) w := by
  have hS : Tryz.prog.underlying 76 = some (.struct (Tryz.prog.fieldsOf 76)) := by kernel_rfl
  have hp : Tryz.prog.stoodInHeld 76 = false := by kernel_rfl
  have u3 := Tryz.underlying9
  have a3 := Tryz.isAgg9
  have z3 := Tryz.sizeOf9
  rw [run_eql_struct, show (10000 : Nat) = 9999 + 1 from rfl, run_equalIn_agg w 9999 76 _ _ hS hp]
  simp only [Program.fieldsOf, Tryz.underlying76]
  go_simp
  obtain ⟨a, b⟩ := p
  obtain ⟨c, d⟩ := q
  by_cases h1 : a.toList = c.toList <;> by_cases h2 : b.toList = d.toList
  · simp [klB_inj h1, klB_inj h2]
  · have : ¬ b = d := fun e => h2 (by rw [e])
    simp [h1, h2, this]
  · have : ¬ a = c := fun e => h1 (by rw [e])
    simp [h1, this]
  · have : ¬ a = c := fun e => h1 (by rw [e])
    simp [h1, this]
/-- The first place of one in a row; the row's length, if it is not there. -/
def ixA (p : PA) : List PA → Nat
  | [] => 0
  | q :: L => if q = p then 0 else ixA p L + 1
theorem ixA_at {p : PA} : ∀ {L : List PA} {i : Nat}, L[i]? = some p → (∀ j, j < i → L[j]? ≠ some p) → ixA p L = i
  | [], i, h, _ => by cases h
  | q :: L, 0, h, _ => by
    obtain rfl := Option.some.inj h
    unfold ixA
    rw [if_pos rfl]
  | q :: L, i + 1, h, hn => by
    have h0 : ¬ q = p := fun e => hn 0 (by omega) (by rw [← e]; rfl)
    unfold ixA
    rw [if_neg h0, ixA_at (L := L) (i := i) h (fun j hj => hn (j + 1) (by omega))]
def ixI (p : PA) (L : List PA) : Int := if p ∈ L then (ixA p L : Int) else -1
theorem ofsA {W : World} {a : Addr} {v : Value} (h : W.cell? (a.add 1) = some v) : W.cell? { block := a.block, off := a.off + 1 } = some v := h
set_option maxRecDepth 100000 in
set_option maxHeartbeats 2000000 in
theorem index_any (v : Value) (L : List PA) (p : PA) (w : World) (h : SeesA w v L) (hl : L.length ≤ maxLen) :
    Calls Tryz.prog 167 #[v, atV p] w fun e w' => e = .returned (.int .i64 (ixI p L)) ∧ Below w.heap.size w w' := by
  obtain ⟨ao, c, rfl, hlc, hnil, hc⟩ := h
  have HC := Lib.hid (And.intro hnil hc)
  obtain ⟨w1, hw1⟩ : ∃ w1, w1 = w.alloc (atO p) := ⟨_, rfl⟩
  have hx1 : w1.heap[w.heap.size]? = some (atO p) := by rw [hw1]; exact heap_alloc_new w _
  have hb : Below w.heap.size w w1 := by rw [hw1]; exact belNew w _
  obtain ⟨x0, x1⟩ := cells2 hx1
  have HB := Lib.hid hb
  have hll : L.length ≤ 9223372036854775807 := by unfold maxLen at hl; omega
  have HEQ := Lib.hid eqlA
  clear hnil hc hx1 hb hl
  go_enter Tryz.func167, Tryz.ntmps167
  go_upto_region 1 with fail
  change Code.wp _ _ _ _ (w.alloc (atO p))
  rw [← hw1]
  clear hw1
  go_wp2_with fail
  go_loopw [8] (fun j wr => ∃ i : Nat, i ≤ L.length ∧ j = .int .i64 i ∧ Hid ((∀ k, k < i → L[k]? ≠ some p) ∧ Below w1.heap.size w1 wr)) (fun j _ => L.length - (intOf j).toNat)
  case atStart => exact ⟨0, Nat.zero_le _, rfl, Lib.hid ⟨fun k hk => by omega, Below.refl _ _⟩⟩
  case round =>
    obtain ⟨i, hi, rfl, HJ⟩ := hrel
    by_cases hlt : i < L.length
    · obtain ⟨a, rfl⟩ : ∃ a, ao = some a := by
        cases ao with
        | none => rw [HC.out.1 rfl] at hlt; simp at hlt
        | some a => exact ⟨a, rfl⟩
      obtain ⟨q, hq⟩ : ∃ q, L[i]? = some q := ⟨_, List.getElem?_eq_getElem hlt⟩
      obtain ⟨p0, p1⟩ := HC.out.2 a rfl i q hq
      have hbw := HB.out.trans (HJ.out.2.mono HB.out.size)
      have p0 := bcellB hbw p0
      have p1 := ofsA (bcellB hbw p1)
      have x0 := bcellB HJ.out.2 x0
      have x1 := bcellB HJ.out.2 x1
      have b0 : (0 : Int) ≤ (i : Int) := by omega
      have b1 : (i : Int) < (L.length : Int) := by omega
      have heq := HEQ.out p q
      have HQ := Lib.hid hq
      have HLT := Lib.hid hlt
      clear hq hbw
      cases hd : decide (p = q) with
      | true =>
        rw [hd] at heq
        have HE : Hid (ixI p L = (i : Int)) := Lib.hid (by
          have e := of_decide_eq_true hd
          subst e
          unfold ixI
          rw [if_pos (List.mem_of_getElem? HQ.out), ixA_at HQ.out HJ.out.1])
        go_upto_region 4 with fail
        refine wp_region_held_drew (S := (fun W => Below wr.heap.size wr W)) (by kernel_rfl) ?_ (fun r0 => ?_)
        · exact ⟨rfl, rfl, rfl, Nat.le_refl _, fun _ _ => rfl⟩
        refine tq (v := ?_) 0 rfl ?_ ?_
        rotate_left
        · intro wS hSw
          (try dsimp only at hSw)
          have x0 := bcellB hSw x0
          have x1 := bcellB hSw x1
          have p0 := bcellB hSw p0
          have p1 := bcellB hSw p1
          go_simp
          first | done | with_reducible rfl
        try simp only [Act.put, List.getElem_toArray, List.getElem_cons_zero, List.setIfInBounds_toArray, List.set_cons_zero, List.set_cons_succ]
        refine tk 1 rfl ?_
        try simp only [Act.put, qA, qB, qC, qD, qE, qF]
        refine tk 2 rfl ?_
        try simp only [Act.put, qA, qB, qC, qD, qE, qF]
        refine tk 3 rfl ?_
        try simp only [Act.put, qA, qB, qC, qD, qE, qF]
        refine tq (v := ?_) 4 rfl ?_ ?_
        rotate_left
        · intro wS hSw
          (try dsimp only at hSw)
          have x0 := bcellB hSw x0
          have x1 := bcellB hSw x1
          have p0 := bcellB hSw p0
          have p1 := bcellB hSw p1
          go_simp
          first | done | with_reducible rfl
        try simp only [Act.put, qA, qB, qC, qD, qE, qF]
        refine tk 5 rfl ?_
        try simp only [Act.put, qA, qB, qC, qD, qE, qF]
        refine wpAnyH_done (by kernel_rfl) ?_ _
        have HBE := Lib.hid (HB.out.trans ((HJ.out.2.trans (r0.mono HJ.out.2.size)).mono HB.out.size))
        clear r0 x0 x1 p0 p1
        go_wp2_with fail
        go_ret
        exact ⟨by rw [HE.out]; rfl, HBE.out⟩
      | false =>
        rw [hd] at heq
        have HE : Hid (q ≠ p) := Lib.hid (fun e => of_decide_eq_false hd e.symm)
        go_upto_region 4 with fail
        refine wp_region_held_drew (S := (fun W => Below wr.heap.size wr W)) (by kernel_rfl) ?_ (fun r0 => ?_)
        · exact ⟨rfl, rfl, rfl, Nat.le_refl _, fun _ _ => rfl⟩
        refine tq (v := ?_) 0 rfl ?_ ?_
        rotate_left
        · intro wS hSw
          (try dsimp only at hSw)
          have x0 := bcellB hSw x0
          have x1 := bcellB hSw x1
          have p0 := bcellB hSw p0
          have p1 := bcellB hSw p1
          go_simp
          first | done | with_reducible rfl
        try simp only [Act.put, List.getElem_toArray, List.getElem_cons_zero, List.setIfInBounds_toArray, List.set_cons_zero, List.set_cons_succ]
        refine tk 1 rfl ?_
        try simp only [Act.put, qA, qB, qC, qD, qE, qF]
        refine tk 2 rfl ?_
        try simp only [Act.put, qA, qB, qC, qD, qE, qF]
        refine tk 3 rfl ?_
        try simp only [Act.put, qA, qB, qC, qD, qE, qF]
        refine tq (v := ?_) 4 rfl ?_ ?_
        rotate_left
        · intro wS hSw
          (try dsimp only at hSw)
          have x0 := bcellB hSw x0
          have x1 := bcellB hSw x1
          have p0 := bcellB hSw p0
          have p1 := bcellB hSw p1
          go_simp
          first | done | with_reducible rfl
        try simp only [Act.put, qA, qB, qC, qD, qE, qF]
        refine tk 5 rfl ?_
        try simp only [Act.put, qA, qB, qC, qD, qE, qF]
        refine wpAnyH_done (by kernel_rfl) ?_ _
        have HBE := Lib.hid (HJ.out.2.trans (r0.mono HJ.out.2.size))
        clear r0 x0 x1 p0 p1
        go_wp2_with fail
        go_roundw
        case rel => exact ⟨i + 1, HLT.out, by go_num, Lib.hid ⟨fun k hk e => by
          rcases Nat.lt_or_ge k i with h1 | h1
          · exact HJ.out.1 k h1 e
          · obtain rfl : k = i := by omega
            rw [HQ.out] at e
            exact HE.out (Option.some.inj e), HBE.out⟩⟩
        case measure => simp [intOf]; have := HLT.out; omega
    · obtain rfl : i = L.length := by omega
      have HE : Hid (ixI p L = -1) := Lib.hid (by
        unfold ixI
        rw [if_neg (fun hm => by
          obtain ⟨k, hk, he⟩ := List.getElem_of_mem hm
          exact HJ.out.1 k hk (by rw [List.getElem?_eq_getElem hk, he]))])
      go_wp2_with fail
      go_ret
      exact ⟨by rw [HE.out]; rfl, HB.out.trans (HJ.out.2.mono HB.out.size)⟩
theorem contains_any (v : Value) (L : List PA) (p : PA) (w : World) (h : SeesA w v L) (hl : L.length ≤ maxLen) :
    Calls Tryz.prog 137 #[v, atV p] w fun e w' => e = .returned (.bool (decide (p ∈ L))) ∧ Below w.heap.size w w' := by
  obtain ⟨w1, hw1⟩ : ∃ w1, w1 = w.alloc (atO p) := ⟨_, rfl⟩
  have hx1 : w1.heap[w.heap.size]? = some (atO p) := by rw [hw1]; exact heap_alloc_new w _
  have hb : Below w.heap.size w w1 := by rw [hw1]; exact belNew w _
  obtain ⟨x0, x1⟩ := cells2 hx1
  have HI := Lib.hid (index_any v L p w1 (h.below hb) hl)
  have HB := Lib.hid hb
  have HD : Hid (decide (0 ≤ ixI p L) = decide (p ∈ L)) := Lib.hid (by
    unfold ixI
    by_cases hm : p ∈ L
    · rw [if_pos hm, decide_eq_true hm]
      exact decide_eq_true (by omega)
    · rw [if_neg hm, decide_eq_false hm]
      rfl)
  obtain ⟨ao, c, rfl, -⟩ := h
  generalize ixI p L = x at HI HD
  generalize L.length = n at HI ⊢
  clear hx1 hb hl
  go_enter Tryz.func137, Tryz.ntmps137
  go_upto_region 1 with fail
  change Code.wp _ _ _ _ (w.alloc (atO p))
  rw [← hw1]
  clear hw1
  go_wp2_with fail
  refine HI.out.mono ?_; rintro e w2 ⟨rfl, hb2⟩
  have HB2 := Lib.hid (HB.out.trans (hb2.mono HB.out.size))
  clear hb2
  go_wp2_with fail
  go_ret
  exact ⟨by rw [← HD.out]; rfl, HB2.out⟩
/-- The first n may be, no two of them the same. -/
def attrsOk (L : List PA) : Nat → Bool
  | 0 => true
  | n + 1 => attrsOk L n && (mayP (L.getD n default) && !decide (L.getD n default ∈ L.take n))
theorem attrsOk_no {L : List PA} {i n : Nat} (h : attrsOk L i = false) (hn : i ≤ n) : attrsOk L n = false := by
  induction n with
  | zero => rwa [Nat.le_zero.1 hn] at h
  | succ n ih =>
    by_cases e : i = n + 1
    · rwa [← e]
    · unfold attrsOk
      rw [ih (by omega)]
      rfl
def rightA (L : List PA) : Bool := decide (L.length ≤ 64) && attrsOk L L.length
theorem SeesA.take {w : World} {ao : Option Addr} {n c : Nat} {L : List PA} (h : SeesA w (.slice ao n c) L) {k : Nat} (hk : k ≤ L.length) : SeesA w (.slice ao k c) (L.take k) := by
  obtain ⟨ao', c', e, hl, hn, hc⟩ := h
  obtain ⟨rfl, -, rfl⟩ : ao = ao' ∧ _ ∧ c = c' := by simpa using e
  have e2 : (L.take k).length = k := by rw [List.length_take]; omega
  refine ⟨ao, c, by rw [e2], by rw [e2]; omega, fun h => by rw [hn h]; simp, fun a ha i p hp => ?_⟩
  rw [List.getElem?_take] at hp
  split at hp
  · exact hc a ha i p hp
  · cases hp
set_option maxRecDepth 100000 in
set_option maxHeartbeats 4000000 in
theorem rightAttrs_any (v : Value) (L : List PA) (w : World) (h : SeesA w v L) (hl : L.length ≤ maxLen) (hs : ∀ p ∈ L, p.1.size ≤ maxLen ∧ p.2.size ≤ maxLen) :
    Calls Tryz.prog 101 #[v] w fun e w' => e = .returned (.bool (rightA L)) ∧ Below w.heap.size w w' := by
  obtain ⟨ao, c, rfl, hlc, hnil, hc⟩ := id h
  have HC := Lib.hid (And.intro hnil (And.intro hc h))
  have HS := Lib.hid hs
  have hll : L.length ≤ 9223372036854775807 := by unfold maxLen at hl; omega
  have HL := Lib.hid hl
  clear hnil hc hl h hs
  by_cases h64 : L.length ≤ 64
  · have d1 : decide (64 < (L.length : Int)) = false := by simp; omega
    have HR : Hid (rightA L = attrsOk L L.length) := Lib.hid (by unfold rightA; rw [decide_eq_true h64]; rfl)
    have HMB := Lib.hid (fun (p : PA) (w : World) (h1 : p.1.size ≤ maxLen) (h2 : p.2.size ≤ maxLen) => mayBe_any p h1 h2 w)
    clear h64
    go_enter Tryz.func101, Tryz.ntmps101
    go_wp2_with fail
    go_loopw [10] (fun j wr => ∃ i : Nat, i ≤ L.length ∧ j = .int .i64 i ∧ Hid (attrsOk L i = true ∧ Below w.heap.size w wr)) (fun j _ => L.length - (intOf j).toNat)
    case atStart => exact ⟨0, Nat.zero_le _, rfl, Lib.hid ⟨rfl, Below.refl _ _⟩⟩
    case round =>
      obtain ⟨i, hi, rfl, HJ⟩ := hrel
      by_cases hlt : i < L.length
      · obtain ⟨a, rfl⟩ : ∃ a, ao = some a := by
          cases ao with
          | none => rw [HC.out.1 rfl] at hlt; simp at hlt
          | some a => exact ⟨a, rfl⟩
        obtain ⟨p, hp⟩ : ∃ p, L[i]? = some p := ⟨_, List.getElem?_eq_getElem hlt⟩
        have hgd : L.getD i default = p := by rw [List.getD_eq_getElem?_getD, hp]; rfl
        obtain ⟨p0, p1⟩ := HC.out.2.1 a rfl i p hp
        have p0 := bcellB HJ.out.2 p0
        have p1 := ofsA (bcellB HJ.out.2 p1)
        have hpm := HS.out p (List.mem_of_getElem? hp)
        have hsk : SeesA wr (.slice (some a) i c) (L.take i) := (HC.out.2.2.take (by omega)).below HJ.out.2
        have b0 : (0 : Int) ≤ (i : Int) := by omega
        have b1 : (i : Int) < (L.length : Int) := by omega
        have b2 : (i : Int) ≤ (c : Int) := by omega
        have b3 : i ≤ c := by omega
        have HSUC : Hid (attrsOk L (i + 1) = (mayP p && !decide (p ∈ L.take i))) := Lib.hid (by rw [attrsOk, HJ.out.1, hgd]; rfl)
        have HLT : Hid (i < L.length ∧ i + 1 ≤ L.length) := Lib.hid ⟨hlt, by omega⟩
        clear hp hgd
        go_upto_region 6 with fail
        obtain ⟨wx, hwx⟩ : ∃ wx, wx = wr.alloc (atO p) := ⟨_, rfl⟩
        have hx1 : wx.heap[wr.heap.size]? = some (atO p) := by rw [hwx]; exact heap_alloc_new wr _
        have hbx : Below wr.heap.size wr wx := by rw [hwx]; exact belNew wr _
        change Code.wp _ _ _ _ (wr.alloc (atO p))
        rw [← hwx]
        obtain ⟨x0, x1⟩ := cells2 hx1
        have HBX := Lib.hid (HJ.out.2.trans (hbx.mono HJ.out.2.size))
        have HSK := Lib.hid (hsk.below hbx)
        have hcl : (L.take i).length ≤ maxLen := by rw [List.length_take]; have := HL.out; omega
        have HCT := Lib.hid (fun (w2 : World) (h2 : SeesA w2 (.slice (some a) i c) (L.take i)) => contains_any _ (L.take i) p w2 h2 hcl)
        clear hwx hx1 hbx hsk hcl p0 p1
        cases hm : mayP p with
        | false =>
          rw [hm] at HSUC
          have HV : Hid (rightA L = false) := Lib.hid (by rw [HR.out]; exact attrsOk_no HSUC.out HLT.out.2)
          have HMP : Hid (mayP p = false) := Lib.hid hm
          have HMB2 := HMB
          clear hm
          refine wp_region_held_drew (S := (fun W => Below wx.heap.size wx W)) (by kernel_rfl) ?_ (fun r0 => ?_)
          · exact ⟨rfl, rfl, rfl, Nat.le_refl _, fun _ _ => rfl⟩
          refine tq (v := ?_) 0 rfl ?_ ?_
          rotate_left
          · intro wS hSw
            (try dsimp only at hSw)
            have x0 := bcellB hSw x0
            have x1 := bcellB hSw x1
            go_simp
            first | done | with_reducible rfl
          try simp only [Act.put, List.getElem_toArray, List.getElem_cons_zero, List.setIfInBounds_toArray, List.set_cons_zero, List.set_cons_succ]
          refine wpAnyH_ready (rs := [1]) (by kernel_rfl) (by simp) ?_
          refine AllReadyH.cons rfl (fun K hK => ?_) AllReadyH.nil
          go_simp
          refine (HMB.out p _ hpm.1 hpm.2).mono ?_; rintro x wm ⟨hxm, hbm⟩; rw [HMP.out] at hxm; subst hxm
          refine hK.out _ _ ?_ (fun r1 => ?_)
          · exact bel r0 hbm
          try simp only [Act.put, qA, qB, qC, qD, qE, qF]
          refine tk 2 rfl ?_
          try simp only [Act.put, qA, qB, qC, qD, qE, qF]
          refine tk 3 rfl ?_
          try simp only [Act.put, qA, qB, qC, qD, qE, qF]
          refine sk 4 rfl ?_
          try simp only [Act.put, qA, qB, qC, qD, qE, qF]
          refine sk 5 rfl ?_
          try simp only [Act.put, qA, qB, qC, qD, qE, qF]
          refine sk 6 rfl ?_
          try simp only [Act.put, qA, qB, qC, qD, qE, qF]
          refine sk 7 rfl ?_
          try simp only [Act.put, qA, qB, qC, qD, qE, qF]
          refine sk 8 rfl ?_
          try simp only [Act.put, qA, qB, qC, qD, qE, qF]
          refine tk 9 rfl ?_
          try simp only [Act.put, qA, qB, qC, qD, qE, qF]
          refine wpAnyH_done (by kernel_rfl) ?_ _
          have HBE := Lib.hid (HBX.out.trans (r1.mono HBX.out.size))
          clear r0 x0 x1
          go_wp2_with fail
          go_ret
          exact ⟨by rw [HV.out]; rfl, HBE.out⟩
        | true =>
          rw [hm] at HSUC
          have HMP : Hid (mayP p = true) := Lib.hid hm
          clear hm
          cases hd : decide (p ∈ L.take i) with
          | true =>
            rw [hd] at HSUC HCT
            have HV : Hid (rightA L = false) := Lib.hid (by rw [HR.out]; exact attrsOk_no HSUC.out HLT.out.2)
            refine wp_region_held_drew (S := (fun W => Below wx.heap.size wx W)) (by kernel_rfl) ?_ (fun r0 => ?_)
            · exact ⟨rfl, rfl, rfl, Nat.le_refl _, fun _ _ => rfl⟩
            refine tq (v := ?_) 0 rfl ?_ ?_
            rotate_left
            · intro wS hSw
              (try dsimp only at hSw)
              have x0 := bcellB hSw x0
              have x1 := bcellB hSw x1
              go_simp
              first | done | with_reducible rfl
            try simp only [Act.put, List.getElem_toArray, List.getElem_cons_zero, List.setIfInBounds_toArray, List.set_cons_zero, List.set_cons_succ]
            refine wpAnyH_ready (rs := [1]) (by kernel_rfl) (by simp) ?_
            refine AllReadyH.cons rfl (fun K hK => ?_) AllReadyH.nil
            go_simp
            refine (HMB.out p _ hpm.1 hpm.2).mono ?_; rintro x wm ⟨hxm, hbm⟩; rw [HMP.out] at hxm; subst hxm
            refine hK.out _ _ ?_ (fun r1 => ?_)
            · exact bel r0 hbm
            try simp only [Act.put, qA, qB, qC, qD, qE, qF]
            refine tk 2 rfl ?_
            try simp only [Act.put, qA, qB, qC, qD, qE, qF]
            refine tk 3 rfl ?_
            try simp only [Act.put, qA, qB, qC, qD, qE, qF]
            refine tk 4 rfl ?_
            try simp only [Act.put, qA, qB, qC, qD, qE, qF]
            refine tk 5 rfl ?_
            try simp only [Act.put, qA, qB, qC, qD, qE, qF]
            refine tk 6 rfl ?_
            try simp only [Act.put, qA, qB, qC, qD, qE, qF]
            refine tq (v := ?_) 7 rfl ?_ ?_
            rotate_left
            · intro wS hSw
              (try dsimp only at hSw)
              have x0 := bcellB hSw x0
              have x1 := bcellB hSw x1
              go_simp
              first | done | with_reducible rfl
            try simp only [Act.put, qA, qB, qC, qD, qE, qF]
            refine wpAnyH_ready (rs := [8]) (by kernel_rfl) (by simp) ?_
            refine AllReadyH.cons rfl (fun K hK => ?_) AllReadyH.nil
            go_simp
            refine (HCT.out _ (HSK.out.below (bel r0 hbm))).mono ?_; rintro x wc ⟨rfl, hbc⟩
            refine hK.out _ _ ?_ (fun r2 => ?_)
            · exact bel r1 hbc
            try simp only [Act.put, qA, qB, qC, qD, qE, qF]
            refine tk 9 rfl ?_
            try simp only [Act.put, qA, qB, qC, qD, qE, qF]
            refine wpAnyH_done (by kernel_rfl) ?_ _
            have HBE := Lib.hid (HBX.out.trans (r2.mono HBX.out.size))
            clear r0 x0 x1
            go_wp2_with fail
            go_ret
            exact ⟨by rw [HV.out]; rfl, HBE.out⟩
          | false =>
            rw [hd] at HSUC HCT
            refine wp_region_held_drew (S := (fun W => Below wx.heap.size wx W)) (by kernel_rfl) ?_ (fun r0 => ?_)
            · exact ⟨rfl, rfl, rfl, Nat.le_refl _, fun _ _ => rfl⟩
            refine tq (v := ?_) 0 rfl ?_ ?_
            rotate_left
            · intro wS hSw
              (try dsimp only at hSw)
              have x0 := bcellB hSw x0
              have x1 := bcellB hSw x1
              go_simp
              first | done | with_reducible rfl
            try simp only [Act.put, List.getElem_toArray, List.getElem_cons_zero, List.setIfInBounds_toArray, List.set_cons_zero, List.set_cons_succ]
            refine wpAnyH_ready (rs := [1]) (by kernel_rfl) (by simp) ?_
            refine AllReadyH.cons rfl (fun K hK => ?_) AllReadyH.nil
            go_simp
            refine (HMB.out p _ hpm.1 hpm.2).mono ?_; rintro x wm ⟨hxm, hbm⟩; rw [HMP.out] at hxm; subst hxm
            refine hK.out _ _ ?_ (fun r1 => ?_)
            · exact bel r0 hbm
            try simp only [Act.put, qA, qB, qC, qD, qE, qF]
            refine tk 2 rfl ?_
            try simp only [Act.put, qA, qB, qC, qD, qE, qF]
            refine tk 3 rfl ?_
            try simp only [Act.put, qA, qB, qC, qD, qE, qF]
            refine tk 4 rfl ?_
            try simp only [Act.put, qA, qB, qC, qD, qE, qF]
            refine tk 5 rfl ?_
            try simp only [Act.put, qA, qB, qC, qD, qE, qF]
            refine tk 6 rfl ?_
            try simp only [Act.put, qA, qB, qC, qD, qE, qF]
            refine tq (v := ?_) 7 rfl ?_ ?_
            rotate_left
            · intro wS hSw
              (try dsimp only at hSw)
              have x0 := bcellB hSw x0
              have x1 := bcellB hSw x1
              go_simp
              first | done | with_reducible rfl
            try simp only [Act.put, qA, qB, qC, qD, qE, qF]
            refine wpAnyH_ready (rs := [8]) (by kernel_rfl) (by simp) ?_
            refine AllReadyH.cons rfl (fun K hK => ?_) AllReadyH.nil
            go_simp
            refine (HCT.out _ (HSK.out.below (bel r0 hbm))).mono ?_; rintro x wc ⟨rfl, hbc⟩
            refine hK.out _ _ ?_ (fun r2 => ?_)
            · exact bel r1 hbc
            try simp only [Act.put, qA, qB, qC, qD, qE, qF]
            refine tk 9 rfl ?_
            try simp only [Act.put, qA, qB, qC, qD, qE, qF]
            refine wpAnyH_done (by kernel_rfl) ?_ _
            have HBE := Lib.hid (HBX.out.trans (r2.mono HBX.out.size))
            clear r0 x0 x1
            go_wp2_with fail
            go_roundw
            case rel => exact ⟨i + 1, HLT.out.2, by go_num, Lib.hid ⟨HSUC.out, HBE.out⟩⟩
            case measure => simp [intOf]; have := HLT.out; omega
      · obtain rfl : i = L.length := by omega
        go_wp2_with fail
        go_ret
        exact ⟨by rw [HR.out, HJ.out.1]; rfl, HJ.out.2⟩
  · have d1 : decide (64 < (L.length : Int)) = true := by simp; omega
    have HR : Hid (rightA L = false) := Lib.hid (by unfold rightA; rw [decide_eq_false h64]; rfl)
    clear h64
    go_enter Tryz.func101, Tryz.ntmps101
    go_wp2_with fail
    go_ret
    exact ⟨by rw [HR.out]; rfl, Below.refl _ _⟩
end Go.Proofs.YtiifbhiodegipaaGreatDoor
namespace Go.Proofs.YtiifbhiodegipaaGreatDoor
open Go.RowKit Go.Maps
theorem BlkAt.below {w w' : World} {g : Nat} {b : BlkS} {fv av : Value} (h : BlkAt w g b fv av) (hb : Below w.heap.size w w') : BlkAt w' g b fv av :=
  (hb.block g (heap_lt (show w.heap[g]? = some (.cells (blkL b fv av).toArray 59 (0, 0)) from h))).trans h
theorem ldBIf {ops : Array Oper} {S : World → Prop} {op : Oper} {a : Act} (hw : Region.wanted op (yielded ops a.tmps) = true) (x : Operand) (ho : op.op = .load 59 x) {g : Nat} (hx : a.eval x = .pointer (some ⟨g, 0, none⟩)) {b : BlkS} {fv av : Value} (hS : ∀ W, S W → BlkAt W g b fv av) (hl : b.sl.length = 64) :
    YieldsIf Tryz.prog ops S op (.agg (blkL b fv av).toArray) a :=
  yieldsIf_load_mid hw _ x ho g 0 hx _ _ (fun W hW => (hS W hW).whole) Tryz.underlying59 rfl (by rw [infoB, blkL_len b hl])
/-- No slot below n has a number above m. -/
def slotsLe (sl : List Int) (m : Nat) : Nat → Bool
  | 0 => true
  | n + 1 => slotsLe sl m n && decide (sl.getD n 0 ≤ (m : Int))
theorem slotsLe_no {sl : List Int} {m i n : Nat} (h : slotsLe sl m i = false) (hn : i ≤ n) : slotsLe sl m n = false := by
  induction n with
  | zero => rwa [Nat.le_zero.1 hn] at h
  | succ n ih =>
    by_cases e : i = n + 1
    · rwa [← e]
    · unfold slotsLe
      rw [ih (by omega)]
      rfl
def rightS (b : BlkS) : Bool := slotsLe b.sl b.attrs.length 64 && (((usedN b.sl 64 : Nat) : Int) == ((2 ^ allM (b.attrs.length : Int) - 1 : Nat) : Int))
def rightF (b : BlkS) : Bool := (((mem (rowN b.free b.free.length)).length : Int) == (b.free.length : Int)) && (((rowN b.free b.free.length : Nat) : Int) == ((18446744073709551615 &&& (18446744073709551615 - takeN b.sl 64) : Nat) : Int))
set_option maxRecDepth 100000 in
set_option maxHeartbeats 4000000 in
theorem rightSlots_any (b : BlkS) (fv av : Value) (w : World) (hl : b.sl.length = 64) (hok : okB b.sl) (hat : SeesA w av b.attrs) (hal : b.attrs.length ≤ maxLen) :
    Calls Tryz.prog 102 #[.agg (blkL b fv av).toArray] w fun e w' => e = .returned (.bool (rightS b)) ∧ Below w.heap.size w w' := by
  obtain ⟨w1, hw1⟩ : ∃ w1, w1 = w.alloc (.cells (blkL b fv av).toArray 59) := ⟨_, rfl⟩
  have hx : BlkAt w1 w.heap.size b fv av := by rw [hw1]; exact BlkAt.new w b fv av
  have hb : Below w.heap.size w w1 := by rw [hw1]; exact belNew w _
  have c67 := hx.attrs hl
  have HX := Lib.hid hx
  have HB := Lib.hid hb
  obtain ⟨ao, ac, hav, -⟩ := hat
  have hall : b.attrs.length ≤ 9223372036854775807 := by unfold maxLen at hal; omega
  have HI := Lib.hid (fun (i : Nat) (hi : i < 64) (w : World) => index64 (get64 hl hi) hl w)
  have HUS := Lib.hid (fun w => used_any b fv av hl hok w)
  have HAL := Lib.hid (fun w => all_any (b.attrs.length : Int) w)
  have HO := Lib.hid hok
  obtain ⟨R, hR⟩ : ∃ R, R = rightS b := ⟨_, rfl⟩
  rw [← hR]
  have HRR := Lib.hid hR
  unfold rightS at hR
  rw [hav] at c67
  have HAV := Lib.hid hav
  clear hx hb hok hal hR hav
  go_enter Tryz.func102, Tryz.ntmps102
  go_upto_region 1 with fail
  change Code.wp _ _ _ _ (w.alloc (.cells (blkL b fv av).toArray 59))
  rw [← hw1]
  clear hw1
  go_wp2_with (refine wpLd64 rfl _ rfl rfl HX.out hl ?_)
  go_loop [7] (fun j => ∃ i : Nat, i ≤ 64 ∧ j = .int .i64 i ∧ Hid (slotsLe b.sl b.attrs.length i = true)) (fun j => 64 - (intOf j).toNat)
  case atStart => exact ⟨0, by omega, rfl, Lib.hid rfl⟩
  case round =>
    obtain ⟨i, hi, rfl, HJ⟩ := hrel
    by_cases hlt : i < 64
    · have d1 : decide ((i : Int) < 64) = true := by simp; omega
      have hix := HI.out i hlt w1
      have hbx := okB_get HO.out i
      have HSU : Hid (slotsLe b.sl b.attrs.length (i + 1) = decide (b.sl.getD i 0 ≤ (b.attrs.length : Int))) := Lib.hid (by rw [slotsLe, HJ.out]; rfl)
      generalize b.sl.getD i 0 = x at hix HSU hbx
      have s1 : IntKind.i64.wrap x = x := IntWalk.i64_in _ (by omega)
      by_cases hle : x ≤ (b.attrs.length : Int)
      · have d2 : decide ((b.attrs.length : Int) < x) = false := by simp; omega
        have HS2 : Hid (slotsLe b.sl b.attrs.length (i + 1) = true) := Lib.hid (by rw [HSU.out, decide_eq_true hle])
        clear hle
        go_wp2_with fail
        go_round
        case rel => exact ⟨i + 1, by omega, by go_num, HS2⟩
        case measure => simp [intOf]; omega
      · have d2 : decide ((b.attrs.length : Int) < x) = true := by simp; omega
        have HS2 : Hid (R = false) := Lib.hid (by
          rw [HRR.out]
          unfold rightS
          rw [slotsLe_no (i := i + 1) (by rw [HSU.out, decide_eq_false hle]) (by omega)]
          rfl)
        clear hle
        go_wp2_with fail
        go_ret
        exact ⟨by rw [HS2.out]; rfl, HB.out⟩
    · obtain rfl : i = 64 := by omega
      have HS2 : Hid (R = (((usedN b.sl 64 : Nat) : Int) == ((2 ^ allM (b.attrs.length : Int) - 1 : Nat) : Int))) := Lib.hid (by
        rw [HRR.out]
        unfold rightS
        rw [HJ.out]
        rfl)
      generalize ((usedN b.sl 64 : Nat) : Int) = x at HUS HS2
      generalize ((2 ^ allM (b.attrs.length : Int) - 1 : Nat) : Int) = y at HAL HS2
      go_upto_region 7 with fail
      refine wp_region_held_drew (S := (fun W => Below w1.heap.size w1 W)) (by kernel_rfl) ?_ (fun r0 => ?_)
      · exact ⟨rfl, rfl, rfl, Nat.le_refl _, fun _ _ => rfl⟩
      refine wpAnyH_take (i := 0) (v := _) rfl (by kernel_rfl) (by kernel_rfl) (by kernel_rfl) (fun _ _ _ h => h) (ldBIf (by rfl) _ rfl rfl (fun W hW => HX.out.below hW) hl) (by assumption) ?_
      try simp only [Act.put, List.getElem_toArray, List.getElem_cons_zero, List.setIfInBounds_toArray, List.set_cons_zero, List.set_cons_succ]
      refine tk 2 rfl ?_
      try simp only [Act.put, qA, qB, qC, qD, qE, qF]
      refine tq (v := ?_) 3 rfl ?_ ?_
      rotate_left
      · intro wS hSw
        (try dsimp only at hSw)
        have c67 := bcellB hSw c67
        go_simp
        first | done | with_reducible rfl
      try simp only [Act.put, qA, qB, qC, qD, qE, qF]
      refine tk 4 rfl ?_
      try simp only [Act.put, qA, qB, qC, qD, qE, qF]
      refine wpAnyH_ready (rs := [1]) (by kernel_rfl) (by simp) ?_
      refine AllReadyH.cons rfl (fun K hK => ?_) AllReadyH.nil
      go_simp
      refine (HUS.out _).mono ?_; rintro x wu ⟨rfl, hbu⟩
      refine hK.out _ _ ?_ (fun r1 => ?_)
      · exact bel r0 hbu
      try simp only [Act.put, qA, qB, qC, qD, qE, qF]
      refine wpAnyH_ready (rs := [5]) (by kernel_rfl) (by simp) ?_
      refine AllReadyH.cons rfl (fun K hK => ?_) AllReadyH.nil
      go_simp
      refine (HAL.out _).mono ?_; rintro x wz ⟨rfl, rfl⟩
      refine hK.out _ _ ?_ (fun r2 => ?_)
      · exact r1
      try simp only [Act.put, qA, qB, qC, qD, qE, qF]
      refine tk 6 rfl ?_
      try simp only [Act.put, qA, qB, qC, qD, qE, qF]
      refine tk 7 rfl ?_
      try simp only [Act.put, qA, qB, qC, qD, qE, qF]
      refine wpAnyH_done (by kernel_rfl) ?_ _
      have HBE := Lib.hid (HB.out.trans (r2.mono HB.out.size))
      clear r0 c67
      go_wp2_with fail
      go_ret
      exact ⟨by rw [HS2.out]; rfl, HBE.out⟩
theorem all64 : allM 64 = 64 := rfl
set_option maxRecDepth 100000 in
set_option maxHeartbeats 4000000 in
theorem rightFree_any (b : BlkS) (fv av : Value) (w : World) (hl : b.sl.length = 64) (hfr : Sees w fv b.free) (hfo : okB b.free) (hfl : b.free.length ≤ maxLen) :
    Calls Tryz.prog 103 #[.agg (blkL b fv av).toArray] w fun e w' => e = .returned (.bool (rightF b)) ∧ Below w.heap.size w w' := by
  obtain ⟨w1, hw1⟩ : ∃ w1, w1 = w.alloc (.cells (blkL b fv av).toArray 59) := ⟨_, rfl⟩
  have hx : BlkAt w1 w.heap.size b fv av := by rw [hw1]; exact BlkAt.new w b fv av
  have hb : Below w.heap.size w w1 := by rw [hw1]; exact belNew w _
  have c66 := hx.free hl
  have HX := Lib.hid hx
  have HB := Lib.hid hb
  obtain ⟨fo, fc, hfv, hfc, hfn, hcell⟩ := hfr.keep hb
  have HC := Lib.hid (And.intro hfn hcell)
  have hfl2 : b.free.length ≤ 9223372036854775807 := by unfold maxLen at hfl; omega
  have HLN := Lib.hid (fun w => len_any (rowN b.free b.free.length) (rowN_lt _ _) w)
  have HAL := Lib.hid (fun w => all_any 64 w)
  rw [all64] at HAL
  have HTK := Lib.hid (fun w => taken_any b fv av hl w)
  have HW := Lib.hid (fun (x : Nat) (i : Int) (h : x < M64) (w : World) => with_any x i h w)
  have HO := Lib.hid hfo
  have HAN : Hid (bits .andNot .u64 (((2 ^ 64 - 1 : Nat) : Int)) (((takeN b.sl 64 : Nat) : Int)) = ((18446744073709551615 &&& (18446744073709551615 - takeN b.sl 64) : Nat) : Int)) := Lib.hid (by
    have h1 := takeN_lt b.sl 64
    rw [show (2 ^ 64 - 1 : Nat) = 18446744073709551615 from rfl]
    generalize takeN b.sl 64 = t at h1
    exact u64_andNot_nat 18446744073709551615 t (by decide) h1)
  obtain ⟨R, hR⟩ : ∃ R, R = rightF b := ⟨_, rfl⟩
  rw [← hR]
  have HRR := Lib.hid hR
  rw [hfv] at c66
  clear hx hb hfo hfl hR hfn hcell hfr hfv
  go_enter Tryz.func103, Tryz.ntmps103
  go_upto_region 1 with fail
  change Code.wp _ _ _ _ (w.alloc (.cells (blkL b fv av).toArray 59))
  rw [← hw1]
  clear hw1
  go_wp2_with fail
  go_loop [3, 9] (fun s j => ∃ i : Nat, i ≤ b.free.length ∧ s = .int .u64 ((rowN b.free i : Nat) : Int) ∧ j = .int .i64 i) (fun _ j => b.free.length - (intOf j).toNat)
  case atStart => exact ⟨0, Nat.zero_le _, rfl, rfl⟩
  case round =>
    obtain ⟨i, hi, rfl, rfl⟩ := hrel
    by_cases hlt : i < b.free.length
    · obtain ⟨a, rfl⟩ : ∃ a, fo = some a := by
        cases fo with
        | none => rw [HC.out.1 rfl] at hlt; simp at hlt
        | some a => exact ⟨a, rfl⟩
      have hcl := HC.out.2 a rfl i hlt
      have hbx := okB_get HO.out i
      have HT : Hid (rowN b.free (i + 1) = rowN b.free i ||| oneN (b.free.getD i 0)) := Lib.hid rfl
      have HN := Lib.hid (HW.out (rowN b.free i) (b.free.getD i 0) (rowN_lt _ _))
      generalize b.free.getD i 0 = x at hcl HT HN hbx
      have s1 : IntKind.i64.wrap x = x := IntWalk.i64_in _ (by omega)
      have b0 : (0 : Int) ≤ (i : Int) := by omega
      have b1 : (i : Int) < (b.free.length : Int) := by omega
      go_wp2_with fail
      refine (HN.out _).mono ?_; rintro e w2 ⟨rfl, rfl⟩
      go_wp2_with fail
      go_round
      case rel => exact ⟨i + 1, by omega, by rw [HT.out], by go_num⟩
      case measure => simp [intOf]; omega
    · obtain rfl : i = b.free.length := by omega
      have HFD : Hid (R = ((((mem (rowN b.free b.free.length)).length : Int) == (b.free.length : Int)) && (((rowN b.free b.free.length : Nat) : Int) == ((18446744073709551615 &&& (18446744073709551615 - takeN b.sl 64) : Nat) : Int)))) := HRR
      generalize ((18446744073709551615 &&& (18446744073709551615 - takeN b.sl 64) : Nat) : Int) = z at HFD HAN
      generalize (((2 ^ 64 - 1 : Nat) : Int)) = f at HAL HAN
      generalize ((takeN b.sl 64 : Nat) : Int) = t at HTK HAN
      generalize ((mem (rowN b.free b.free.length)).length : Int) = m at HLN HFD
      generalize ((rowN b.free b.free.length : Nat) : Int) = q at HLN HFD ⊢
      have han := HAN.out
      go_upto_region 7 with fail
      cases hd : (m == (b.free.length : Int)) with
      | false =>
        rw [hd] at HFD
        refine wp_region_held_drew (S := (fun W => Below w1.heap.size w1 W)) (by kernel_rfl) ?_ (fun r0 => ?_)
        · exact ⟨rfl, rfl, rfl, Nat.le_refl _, fun _ _ => rfl⟩
        refine tk 0 rfl ?_
        try simp only [Act.put, List.getElem_toArray, List.getElem_cons_zero, List.setIfInBounds_toArray, List.set_cons_zero, List.set_cons_succ]
        refine tk 2 rfl ?_
        try simp only [Act.put, qA, qB, qC, qD, qE, qF]
        refine tq (v := ?_) 3 rfl ?_ ?_
        rotate_left
        · intro wS hSw
          (try dsimp only at hSw)
          have c66 := bcellB hSw c66
          go_simp
          first | done | with_reducible rfl
        try simp only [Act.put, qA, qB, qC, qD, qE, qF]
        refine tk 4 rfl ?_
        try simp only [Act.put, qA, qB, qC, qD, qE, qF]
        refine wpAnyH_ready (rs := [1]) (by kernel_rfl) (by simp) ?_
        refine AllReadyH.cons rfl (fun K hK => ?_) AllReadyH.nil
        go_simp
        refine (HLN.out _).mono ?_; rintro x wz ⟨rfl, rfl⟩
        refine hK.out _ _ ?_ (fun r1 => ?_)
        · exact r0
        try simp only [Act.put, qA, qB, qC, qD, qE, qF]
        refine tk 5 rfl ?_
        try simp only [Act.put, qA, qB, qC, qD, qE, qF]
        refine tk 6 rfl ?_
        try simp only [Act.put, qA, qB, qC, qD, qE, qF]
        refine sk 7 rfl ?_
        try simp only [Act.put, qA, qB, qC, qD, qE, qF]
        refine sk 8 rfl ?_
        try simp only [Act.put, qA, qB, qC, qD, qE, qF]
        refine sk 9 rfl ?_
        try simp only [Act.put, qA, qB, qC, qD, qE, qF]
        refine sk 10 rfl ?_
        try simp only [Act.put, qA, qB, qC, qD, qE, qF]
        refine sk 11 rfl ?_
        try simp only [Act.put, qA, qB, qC, qD, qE, qF]
        refine sk 12 rfl ?_
        try simp only [Act.put, qA, qB, qC, qD, qE, qF]
        refine tk 13 rfl ?_
        try simp only [Act.put, qA, qB, qC, qD, qE, qF]
        refine tk 14 rfl ?_
        try simp only [Act.put, qA, qB, qC, qD, qE, qF]
        refine wpAnyH_done (by kernel_rfl) ?_ _
        have HBE := Lib.hid (HB.out.trans (r1.mono HB.out.size))
        clear r0 c66
        go_wp2_with fail
        go_ret
        exact ⟨by rw [HFD.out]; rfl, HBE.out⟩
      | true =>
        rw [hd] at HFD
        refine wp_region_held_drew (S := (fun W => Below w1.heap.size w1 W)) (by kernel_rfl) ?_ (fun r0 => ?_)
        · exact ⟨rfl, rfl, rfl, Nat.le_refl _, fun _ _ => rfl⟩
        refine tk 0 rfl ?_
        try simp only [Act.put, List.getElem_toArray, List.getElem_cons_zero, List.setIfInBounds_toArray, List.set_cons_zero, List.set_cons_succ]
        refine tk 2 rfl ?_
        try simp only [Act.put, qA, qB, qC, qD, qE, qF]
        refine tq (v := ?_) 3 rfl ?_ ?_
        rotate_left
        · intro wS hSw
          (try dsimp only at hSw)
          have c66 := bcellB hSw c66
          go_simp
          first | done | with_reducible rfl
        try simp only [Act.put, qA, qB, qC, qD, qE, qF]
        refine tk 4 rfl ?_
        try simp only [Act.put, qA, qB, qC, qD, qE, qF]
        refine wpAnyH_ready (rs := [1]) (by kernel_rfl) (by simp) ?_
        refine AllReadyH.cons rfl (fun K hK => ?_) AllReadyH.nil
        go_simp
        refine (HLN.out _).mono ?_; rintro x wz ⟨rfl, rfl⟩
        refine hK.out _ _ ?_ (fun r1 => ?_)
        · exact r0
        try simp only [Act.put, qA, qB, qC, qD, qE, qF]
        refine tk 5 rfl ?_
        try simp only [Act.put, qA, qB, qC, qD, qE, qF]
        refine tk 6 rfl ?_
        try simp only [Act.put, qA, qB, qC, qD, qE, qF]
        refine tk 7 rfl ?_
        try simp only [Act.put, qA, qB, qC, qD, qE, qF]
        refine wpAnyH_take (i := 9) (v := _) rfl (by kernel_rfl) (by kernel_rfl) (by kernel_rfl) (fun _ _ _ h => h) (ldBIf (by rfl) _ rfl rfl (fun W hW => HX.out.below hW) hl) (by assumption) ?_
        try simp only [Act.put, qA, qB, qC, qD, qE, qF]
        refine wpAnyH_ready (rs := [8]) (by kernel_rfl) (by simp) ?_
        refine AllReadyH.cons rfl (fun K hK => ?_) AllReadyH.nil
        go_simp
        refine (HAL.out _).mono ?_; rintro x wz2 ⟨rfl, rfl⟩
        refine hK.out _ _ ?_ (fun r2 => ?_)
        · exact r1
        try simp only [Act.put, qA, qB, qC, qD, qE, qF]
        refine wpAnyH_ready (rs := [10]) (by kernel_rfl) (by simp) ?_
        refine AllReadyH.cons rfl (fun K hK => ?_) AllReadyH.nil
        go_simp
        refine (HTK.out _).mono ?_; rintro x wt ⟨rfl, hbt⟩
        refine hK.out _ _ ?_ (fun r3 => ?_)
        · exact bel r2 hbt
        try simp only [Act.put, qA, qB, qC, qD, qE, qF]
        refine tk 11 rfl ?_
        try simp only [Act.put, qA, qB, qC, qD, qE, qF]
        refine tk 12 rfl ?_
        try simp only [Act.put, qA, qB, qC, qD, qE, qF]
        refine tk 13 rfl ?_
        try simp only [Act.put, qA, qB, qC, qD, qE, qF]
        refine tk 14 rfl ?_
        try simp only [Act.put, qA, qB, qC, qD, qE, qF]
        refine wpAnyH_done (by kernel_rfl) ?_ _
        have HBE := Lib.hid (HB.out.trans (r3.mono HB.out.size))
        clear r0 c66
        go_wp2_with fail
        go_ret
        exact ⟨by rw [HFD.out]; rfl, HBE.out⟩
end Go.Proofs.YtiifbhiodegipaaGreatDoor
