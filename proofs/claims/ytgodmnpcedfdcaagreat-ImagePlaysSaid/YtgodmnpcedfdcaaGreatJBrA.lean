/- Joined: BrA BrB BrC. -/
import Derived.Test.YtgodmnpcedfdcaaGreatJY
namespace Go.Proofs.YtgodmnpcedfdcaaGreat
section
open Go.RowKit
/-- A block of the document's, as a value. -/
abbrev docV (a : Int) (s : ByteArray) (v1 v2 v3 : Value) : Value := .agg #[.int .u32 a, .string s, v1, v2, v3]
set_option maxRecDepth 100000 in
theorem inD_any (a : Int) (s : ByteArray) (v1 v2 v3 : Value) (x : Int) (w : World) (hx : 0 ≤ x) (hx' : x < 4294967296) :
    Calls Tryz.prog 52 #[docV a s v1 v2 v3, .int .u32 x] w fun e w' => e = .returned (.bool (inB a x)) ∧ Below w.heap.size w w' := by
  have h1 : x.tmod 64 = x % 64 := by rw [Int.tmod_eq_emod_of_nonneg hx]
  have h2 : IntKind.u32.wrap (x % 64) = x % 64 := IntWalk.u32_in _ (by omega)
  have h3 : IntKind.u32.wrap (x - x % 64) = x - x % 64 := IntWalk.u32_in _ (by omega)
  have h4 : inB a x = (x - x % 64 == a) := by unfold inB; by_cases h : x - x % 64 = a <;> simp [h]
  rw [h4]
  clear h4
  go_enter Tryz.func52, Tryz.ntmps52
  go_wp2_with fail
  go_ret
  exact ⟨rfl, belNew _ _⟩
set_option maxRecDepth 100000 in
theorem lawAttr_any (p : PA) (w : World) : Calls Tryz.prog 15 #[atV p] w fun e w' => e = .returned (atV p) ∧ Below w.heap.size w w' := by
  go_enter Tryz.func15, Tryz.ntmps15
  go_wp2_with fail
  refine bodyPost_ret (v := atV p) ?_ rfl ⟨rfl, belAlloc (belNew _ _) _⟩
  simp [results, Tryz.results15, go_sem]
theorem SeesA_nil (w : World) : SeesA w NS [] := ⟨none, 0, rfl, Nat.le_refl _, fun _ => rfl, fun _ h => by cases h⟩
set_option maxRecDepth 100000 in
set_option maxHeartbeats 4000000 in
theorem zero15_any (b : BlkS) (fv av : Value) (w : World) (hf : Sees w fv b.free) (ha : SeesA w av b.attrs) (hl : b.sl.length = 64) (h1 : b.free.length ≤ maxLen) (h3 : b.attrs.length ≤ maxLen) :
    Calls Tryz.prog 17 #[.agg (blkL b fv av).toArray] w fun e w' => e = .returned (.bool (sameS b zB)) ∧ Below w.heap.size w w' := by
  obtain ⟨W, hW⟩ : ∃ W, W = w.alloc (blkO b fv av) := ⟨_, rfl⟩
  have hb0 := belNew w (blkO b fv av)
  have hA := heap_new w (blkO b fv av)
  rw [← hW] at hb0 hA
  have HX0 : Hid (BlkAt W w.heap.size b fv av) := Lib.hid hA
  have HB0 := Lib.hid hb0
  have HW := Lib.hid hW
  have HSM := Lib.hid (same15_any b zB fv av NS NS W (hf.keep hb0) (ha.below hb0) (Sees.nil W) (SeesA_nil W) hl zB_len h1 (Nat.zero_le _) h3 (Nat.zero_le _))
  generalize sameS b zB = R at *
  clear hW hb0 hA hf ha h1 h3
  go_enter Tryz.func17, Tryz.ntmps17
  go_upto_region 1 with fail
  change Code.wp _ _ _ _ (w.alloc (blkO b fv av))
  rw [← HW.out]
  clear HW
  go_wp2_with (refine wpLdB rfl _ rfl rfl HX0.out hl ?_)
  refine HSM.out.mono ?_; rintro e w1 ⟨rfl, hb1⟩
  go_wp2_with fail
  go_ret
  exact ⟨rfl, HB0.out.trans (hb1.mono HB0.out.size)⟩
end
section
open Go.RowKit
set_option maxRecDepth 100000 in
set_option maxHeartbeats 8000000 in
theorem addrs_any (a b : Value) (L M : List Int) (w : World) (h : SeesU w a L) (h2 : SeesU w b M) (hl : L.length ≤ maxLen) (_ : M.length ≤ maxLen) :
    Calls Tryz.prog 19 #[a, b] w fun e w' => e = .returned (.bool (decide (L = M))) ∧ Below w.heap.size w w' := by
  have HS1 := Lib.hid h
  have HS2 := Lib.hid h2
  obtain ⟨ao, c, rfl, hlc, hnil, hc⟩ := h
  obtain ⟨bo, c2, rfl, hlc2, hnil2, hc2⟩ := h2
  have hll : L.length ≤ 9223372036854775807 := by unfold maxLen at hl; omega
  by_cases hlen : L.length = M.length
  · have HLN := Lib.hid hlen
    have dl : ((L.length : Int) != (M.length : Int)) = false := by simp [hlen]
    have dl2 : ((L.length : Int) == (M.length : Int)) = true := by simp [hlen]
    have HNL := Lib.hid (And.intro hnil hnil2)
    obtain ⟨R, hR⟩ : ∃ R, R = decide (L = M) := ⟨_, rfl⟩
    rw [← hR]
    have HR := Lib.hid hR
    clear hnil hc hnil2 hc2 hR hl
    go_enter Tryz.func19, Tryz.ntmps19
    go_wp2_with fail
    go_loopw [13] (fun j wr => ∃ i : Nat, i ≤ L.length ∧ j = .int .i64 i ∧ Hid (L.take i = M.take i) ∧ Hid (Below w.heap.size w wr)) (fun j _ => L.length - (intOf j).toNat)
    case atStart => exact ⟨0, Nat.zero_le _, rfl, Lib.hid rfl, Lib.hid (Below.refl _ _)⟩
    case round =>
      obtain ⟨i, hi, rfl, HE, HBw⟩ := hrel
      by_cases hlt : i < L.length
      · have hlt2 : i < M.length := by have := HLN.out; omega
        obtain ⟨x, rfl⟩ : ∃ x, ao = some x := by
          cases ao with
          | none => rw [HNL.out.1 rfl] at hlt; simp at hlt
          | some x => exact ⟨x, rfl⟩
        obtain ⟨y, rfl⟩ : ∃ y, bo = some y := by
          cases bo with
          | none => rw [HNL.out.2 rfl] at hlt2; simp at hlt2
          | some y => exact ⟨y, rfl⟩
        obtain ⟨ao', ac', e0, -, -, hcc⟩ := HS1.out.keep HBw.out
        obtain ⟨rfl, rfl⟩ : some x = ao' ∧ c = ac' := by cases e0; exact ⟨rfl, rfl⟩
        obtain ⟨bo', bc', e1, -, -, hcc2⟩ := HS2.out.keep HBw.out
        obtain ⟨rfl, rfl⟩ : some y = bo' ∧ c2 = bc' := by cases e1; exact ⟨rfl, rfl⟩
        have q0 := hcc x rfl i hlt
        have z0 := hcc2 y rfl i hlt2
        have b0 : (0 : Int) ≤ (i : Int) := by omega
        have b1 : (i : Int) < (L.length : Int) := by omega
        have b2 : (i : Int) < (M.length : Int) := by omega
        have d1 : decide ((i : Int) < (L.length : Int)) = true := by simp; omega
        have d1b : decide ((i : Int) < (M.length : Int)) = true := by simp; omega
        have HT : Hid (L.getD i 0 = M.getD i 0 → L.take (i + 1) = M.take (i + 1)) := Lib.hid (fun e => by
          rw [List.take_add_one, List.take_add_one, HE.out, get_getD hlt, get_getD hlt2, e])
        have HNE : Hid (L.getD i 0 ≠ M.getD i 0 → R = false) := Lib.hid (fun h => by
          rw [HR.out]
          exact decide_eq_false (fun e => h (by rw [e])))
        have HLT := Lib.hid hlt
        clear hcc hcc2 e0 e1
        generalize L.getD i 0 = p at *
        generalize M.getD i 0 = q at *
        clear hlt2
        by_cases hx : p = q
        · have HN := Lib.hid (HT.out hx)
          have dn : (p != p) = false := by simp
          have dn2 : (p == p) = true := by simp
          subst hx
          clear HT HNE hlt
          go_upto_region 6 with fail
          refine wp_region_held_drew (S := (fun W => Below wr.heap.size wr W)) (by kernel_rfl) ?_ (fun r0 => ?_)
          · exact ⟨rfl, rfl, rfl, Nat.le_refl _, fun _ _ => rfl⟩
          refine wpAnyH_take (i := 0) (v := ?_) rfl (by kernel_rfl) (by kernel_rfl) (by kernel_rfl) (fun _ _ _ h => h) (Or.inl ⟨by rfl, ?_⟩) (by assumption) ?_
          rotate_left
          · intro wS hSw
            (try dsimp only at hSw)
            go_simp
            first | done | with_reducible rfl
          try simp only [Act.put, List.getElem_toArray, List.getElem_cons_zero, List.setIfInBounds_toArray, List.set_cons_zero, List.set_cons_succ]
          refine wpAnyH_take (i := 1) (v := ?_) rfl (by kernel_rfl) (by kernel_rfl) (by kernel_rfl) (fun _ _ _ h => h) (Or.inl ⟨by rfl, ?_⟩) (by assumption) ?_
          rotate_left
          · intro wS hSw
            (try dsimp only at hSw)
            go_simp
            first | done | with_reducible rfl
          try simp only [Act.put, List.getElem_toArray, List.getElem_cons_succ, List.getElem_cons_zero, List.setIfInBounds_toArray, List.set_cons_zero, List.set_cons_succ]
          refine wpAnyH_take (i := 2) (v := ?_) rfl (by kernel_rfl) (by kernel_rfl) (by kernel_rfl) (fun _ _ _ h => h) (Or.inl ⟨by rfl, ?_⟩) (by assumption) ?_
          rotate_left
          · intro wS hSw
            (try dsimp only at hSw)
            go_simp
            first | done | with_reducible rfl
          try simp only [Act.put, List.getElem_toArray, List.getElem_cons_succ, List.getElem_cons_zero, List.setIfInBounds_toArray, List.set_cons_zero, List.set_cons_succ]
          refine wpAnyH_take (i := 3) (v := ?_) rfl (by kernel_rfl) (by kernel_rfl) (by kernel_rfl) (fun _ _ _ h => h) (Or.inl ⟨by rfl, ?_⟩) (by assumption) ?_
          rotate_left
          · intro wS hSw
            (try dsimp only at hSw)
            have q0 := bcell hSw q0
            have z0 := bcell hSw z0
            go_simp
            first | done | with_reducible rfl
          try simp only [Act.put, List.getElem_toArray, List.getElem_cons_succ, List.getElem_cons_zero, List.setIfInBounds_toArray, List.set_cons_zero, List.set_cons_succ]
          refine wpAnyH_take (i := 4) (v := ?_) rfl (by kernel_rfl) (by kernel_rfl) (by kernel_rfl) (fun _ _ _ h => h) (Or.inl ⟨by rfl, ?_⟩) (by assumption) ?_
          rotate_left
          · intro wS hSw
            (try dsimp only at hSw)
            go_simp
            first | done | with_reducible rfl
          try simp only [Act.put, List.getElem_toArray, List.getElem_cons_succ, List.getElem_cons_zero, List.setIfInBounds_toArray, List.set_cons_zero, List.set_cons_succ]
          refine wpAnyH_take (i := 5) (v := ?_) rfl (by kernel_rfl) (by kernel_rfl) (by kernel_rfl) (fun _ _ _ h => h) (Or.inl ⟨by rfl, ?_⟩) (by assumption) ?_
          rotate_left
          · intro wS hSw
            (try dsimp only at hSw)
            go_simp
            first | done | with_reducible rfl
          try simp only [Act.put, List.getElem_toArray, List.getElem_cons_succ, List.getElem_cons_zero, List.setIfInBounds_toArray, List.set_cons_zero, List.set_cons_succ]
          refine wpAnyH_take (i := 6) (v := ?_) rfl (by kernel_rfl) (by kernel_rfl) (by kernel_rfl) (fun _ _ _ h => h) (Or.inl ⟨by rfl, ?_⟩) (by assumption) ?_
          rotate_left
          · intro wS hSw
            (try dsimp only at hSw)
            go_simp
            first | done | with_reducible rfl
          try simp only [Act.put, List.getElem_toArray, List.getElem_cons_succ, List.getElem_cons_zero, List.setIfInBounds_toArray, List.set_cons_zero, List.set_cons_succ]
          refine wpAnyH_take (i := 7) (v := ?_) rfl (by kernel_rfl) (by kernel_rfl) (by kernel_rfl) (fun _ _ _ h => h) (Or.inl ⟨by rfl, ?_⟩) (by assumption) ?_
          rotate_left
          · intro wS hSw
            (try dsimp only at hSw)
            have q0 := bcell hSw q0
            have z0 := bcell hSw z0
            go_simp
            first | done | with_reducible rfl
          try simp only [Act.put, List.getElem_toArray, List.getElem_cons_succ, List.getElem_cons_zero, List.setIfInBounds_toArray, List.set_cons_zero, List.set_cons_succ]
          refine wpAnyH_take (i := 8) (v := ?_) rfl (by kernel_rfl) (by kernel_rfl) (by kernel_rfl) (fun _ _ _ h => h) (Or.inl ⟨by rfl, ?_⟩) (by assumption) ?_
          rotate_left
          · intro wS hSw
            (try dsimp only at hSw)
            go_simp
            first | done | with_reducible rfl
          try simp only [Act.put, List.getElem_toArray, List.getElem_cons_succ, List.getElem_cons_zero, List.setIfInBounds_toArray, List.set_cons_zero, List.set_cons_succ]
          refine wpAnyH_done (by kernel_rfl) ?_ _
          have HB1 := Lib.hid (bel HBw.out r0)
          go_wp2_with fail
          go_roundw
          case rel => exact ⟨i + 1, HLT.out, by go_num, HN, HB1⟩
          case measure => simp [intOf]; have := HLT.out; omega
        · have HN := Lib.hid (HNE.out hx)
          have dn : (p != q) = true := by simpa using hx
          have dn2 : (p == q) = false := by simpa using hx
          clear HT HNE hlt hx
          go_upto_region 6 with fail
          refine wp_region_held_drew (S := (fun W => Below wr.heap.size wr W)) (by kernel_rfl) ?_ (fun r0 => ?_)
          · exact ⟨rfl, rfl, rfl, Nat.le_refl _, fun _ _ => rfl⟩
          refine wpAnyH_take (i := 0) (v := ?_) rfl (by kernel_rfl) (by kernel_rfl) (by kernel_rfl) (fun _ _ _ h => h) (Or.inl ⟨by rfl, ?_⟩) (by assumption) ?_
          rotate_left
          · intro wS hSw
            (try dsimp only at hSw)
            go_simp
            first | done | with_reducible rfl
          try simp only [Act.put, List.getElem_toArray, List.getElem_cons_zero, List.setIfInBounds_toArray, List.set_cons_zero, List.set_cons_succ]
          refine wpAnyH_take (i := 1) (v := ?_) rfl (by kernel_rfl) (by kernel_rfl) (by kernel_rfl) (fun _ _ _ h => h) (Or.inl ⟨by rfl, ?_⟩) (by assumption) ?_
          rotate_left
          · intro wS hSw
            (try dsimp only at hSw)
            go_simp
            first | done | with_reducible rfl
          try simp only [Act.put, List.getElem_toArray, List.getElem_cons_succ, List.getElem_cons_zero, List.setIfInBounds_toArray, List.set_cons_zero, List.set_cons_succ]
          refine wpAnyH_take (i := 2) (v := ?_) rfl (by kernel_rfl) (by kernel_rfl) (by kernel_rfl) (fun _ _ _ h => h) (Or.inl ⟨by rfl, ?_⟩) (by assumption) ?_
          rotate_left
          · intro wS hSw
            (try dsimp only at hSw)
            go_simp
            first | done | with_reducible rfl
          try simp only [Act.put, List.getElem_toArray, List.getElem_cons_succ, List.getElem_cons_zero, List.setIfInBounds_toArray, List.set_cons_zero, List.set_cons_succ]
          refine wpAnyH_take (i := 3) (v := ?_) rfl (by kernel_rfl) (by kernel_rfl) (by kernel_rfl) (fun _ _ _ h => h) (Or.inl ⟨by rfl, ?_⟩) (by assumption) ?_
          rotate_left
          · intro wS hSw
            (try dsimp only at hSw)
            have q0 := bcell hSw q0
            have z0 := bcell hSw z0
            go_simp
            first | done | with_reducible rfl
          try simp only [Act.put, List.getElem_toArray, List.getElem_cons_succ, List.getElem_cons_zero, List.setIfInBounds_toArray, List.set_cons_zero, List.set_cons_succ]
          refine wpAnyH_take (i := 4) (v := ?_) rfl (by kernel_rfl) (by kernel_rfl) (by kernel_rfl) (fun _ _ _ h => h) (Or.inl ⟨by rfl, ?_⟩) (by assumption) ?_
          rotate_left
          · intro wS hSw
            (try dsimp only at hSw)
            go_simp
            first | done | with_reducible rfl
          try simp only [Act.put, List.getElem_toArray, List.getElem_cons_succ, List.getElem_cons_zero, List.setIfInBounds_toArray, List.set_cons_zero, List.set_cons_succ]
          refine wpAnyH_take (i := 5) (v := ?_) rfl (by kernel_rfl) (by kernel_rfl) (by kernel_rfl) (fun _ _ _ h => h) (Or.inl ⟨by rfl, ?_⟩) (by assumption) ?_
          rotate_left
          · intro wS hSw
            (try dsimp only at hSw)
            go_simp
            first | done | with_reducible rfl
          try simp only [Act.put, List.getElem_toArray, List.getElem_cons_succ, List.getElem_cons_zero, List.setIfInBounds_toArray, List.set_cons_zero, List.set_cons_succ]
          refine wpAnyH_take (i := 6) (v := ?_) rfl (by kernel_rfl) (by kernel_rfl) (by kernel_rfl) (fun _ _ _ h => h) (Or.inl ⟨by rfl, ?_⟩) (by assumption) ?_
          rotate_left
          · intro wS hSw
            (try dsimp only at hSw)
            go_simp
            first | done | with_reducible rfl
          try simp only [Act.put, List.getElem_toArray, List.getElem_cons_succ, List.getElem_cons_zero, List.setIfInBounds_toArray, List.set_cons_zero, List.set_cons_succ]
          refine wpAnyH_take (i := 7) (v := ?_) rfl (by kernel_rfl) (by kernel_rfl) (by kernel_rfl) (fun _ _ _ h => h) (Or.inl ⟨by rfl, ?_⟩) (by assumption) ?_
          rotate_left
          · intro wS hSw
            (try dsimp only at hSw)
            have q0 := bcell hSw q0
            have z0 := bcell hSw z0
            go_simp
            first | done | with_reducible rfl
          try simp only [Act.put, List.getElem_toArray, List.getElem_cons_succ, List.getElem_cons_zero, List.setIfInBounds_toArray, List.set_cons_zero, List.set_cons_succ]
          refine wpAnyH_take (i := 8) (v := ?_) rfl (by kernel_rfl) (by kernel_rfl) (by kernel_rfl) (fun _ _ _ h => h) (Or.inl ⟨by rfl, ?_⟩) (by assumption) ?_
          rotate_left
          · intro wS hSw
            (try dsimp only at hSw)
            go_simp
            first | done | with_reducible rfl
          try simp only [Act.put, List.getElem_toArray, List.getElem_cons_succ, List.getElem_cons_zero, List.setIfInBounds_toArray, List.set_cons_zero, List.set_cons_succ]
          refine wpAnyH_done (by kernel_rfl) ?_ _
          have HB1 := Lib.hid (bel HBw.out r0)
          go_wp2_with fail
          go_ret
          exact ⟨by rw [HN.out]; rfl, HB1.out⟩
      · obtain rfl : i = L.length := by omega
        have d1 : decide ((L.length : Int) < (L.length : Int)) = false := by simp
        have d1b : decide ((L.length : Int) < (M.length : Int)) = false := by have := HLN.out; simp; omega
        have HV : Hid (R = true) := Lib.hid (by
          have := HE.out
          rw [List.take_length, HLN.out, List.take_length] at this
          rw [HR.out]
          exact decide_eq_true this)
        go_wp2_with fail
        go_ret
        exact ⟨by rw [HV.out]; rfl, HBw.out⟩
  · have dl : ((L.length : Int) != (M.length : Int)) = true := by simp; omega
    have dl2 : ((L.length : Int) == (M.length : Int)) = false := by simp; omega
    have HV : Hid (decide (L = M) = false) := Lib.hid (decide_eq_false (fun e => hlen (by rw [e])))
    rw [HV.out]
    clear hc hc2
    go_enter Tryz.func19, Tryz.ntmps19
    go_wp2_with fail
    go_ret
    exact ⟨rfl, Below.refl _ _⟩
end
section
open Go.RowKit
abbrev TD : TypeId := 35
abbrev docO (a : Int) (s : ByteArray) (v1 v2 v3 : Value) : Obj := .cells #[.int .u32 a, .string s, v1, v2, v3] TD
/-- A block of the document's alone in block g. -/
def DocAt (w : World) (g : Nat) (a : Int) (s : ByteArray) (v1 v2 v3 : Value) : Prop := w.heap[g]? = some (docO a s v1 v2 v3)
section
variable {w w' : World} {g : Nat} {a : Int} {s : ByteArray} {v1 v2 v3 : Value}
theorem DocAt.cells (h : DocAt w g a s v1 v2 v3) : w.cell? ⟨g, 0, none⟩ = some (.int .u32 a) ∧ w.cell? ⟨g, 1, none⟩ = some (.string s) ∧ w.cell? ⟨g, 2, none⟩ = some v1 ∧ w.cell? ⟨g, 3, none⟩ = some v2 ∧ w.cell? ⟨g, 4, none⟩ = some v3 := by
  have h' : w.heap[g]? = some (.cells #[.int .u32 a, .string s, v1, v2, v3] TD (0, 0)) := h
  simp [World.cell?, h']
theorem DocAt.froz (h : DocAt w g a s v1 v2 v3) (i : Nat) : w.frozen? ⟨g, i, none⟩ = false := by
  have h' : w.heap[g]? = some (.cells #[.int .u32 a, .string s, v1, v2, v3] TD (0, 0)) := h
  simp [World.frozen?, h']
theorem DocAt.set2 (h : DocAt w g a s v1 v2 v3) (v : Value) : DocAt (w.setCell ⟨g, 2, none⟩ v) g a s v v2 v3 := by
  have h' : w.heap[g]? = some (.cells #[.int .u32 a, .string s, v1, v2, v3] TD (0, 0)) := h
  show (w.setCell _ _).heap[g]? = _
  simp [World.setCell, Array.getElem?_modify, h']
theorem DocAt.set3 (h : DocAt w g a s v1 v2 v3) (v : Value) : DocAt (w.setCell ⟨g, 3, none⟩ v) g a s v1 v v3 := by
  have h' : w.heap[g]? = some (.cells #[.int .u32 a, .string s, v1, v2, v3] TD (0, 0)) := h
  show (w.setCell _ _).heap[g]? = _
  simp [World.setCell, Array.getElem?_modify, h']
theorem DocAt.set4 (h : DocAt w g a s v1 v2 v3) (v : Value) : DocAt (w.setCell ⟨g, 4, none⟩ v) g a s v1 v2 v := by
  have h' : w.heap[g]? = some (.cells #[.int .u32 a, .string s, v1, v2, v3] TD (0, 0)) := h
  show (w.setCell _ _).heap[g]? = _
  simp [World.setCell, Array.getElem?_modify, h']
theorem DocAt.keepB {n : Nat} (h : DocAt w g a s v1 v2 v3) (hb : Below n w w') (hg : g < n) : DocAt w' g a s v1 v2 v3 := (hb.block g hg).trans h
theorem DocAt.below (h : DocAt w g a s v1 v2 v3) (hb : Below w.heap.size w w') : DocAt w' g a s v1 v2 v3 := (hb.block g (heap_lt h)).trans h
theorem DocAt.setO (h : DocAt w g a s v1 v2 v3) {p : Addr} (hp : g ≠ p.block) (u : Value) : DocAt (w.setCell p u) g a s v1 v2 v3 := by
  show (w.setCell p u).heap[g]? = _
  rw [Below.heap_setCell _ _ _ _ hp]
  exact h
end
/-- A row of attributes of the document's. -/
abbrev ERt : TypeId := 38
/-- The document's block in its parts, each of them the call's own. -/
structure DocRet (w w' : World) (b : BlkS) (v1 v2 v3 : Value) : Prop where
  slots : OwnsI w' w.heap.size v1 b.sl
  free : OwnsI w' w.heap.size v2 b.free
  attrs : RowA ERt w' w.heap.size v3 b.attrs
  below : Below w.heap.size w w'
end
end Go.Proofs.YtgodmnpcedfdcaaGreat
