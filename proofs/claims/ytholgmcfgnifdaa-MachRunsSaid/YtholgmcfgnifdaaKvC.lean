/- Package kv: refusal. -/
import Derived.Test.YtholgmcfgnifdaaKvB
namespace Go.Proofs.Ytholgmcfgnifdaa
open Go.RowKit Go.Maps
def refB (mw k3 th re ie st mx : Bool) : Int := if mw = false then 1 else if k3 && th then 7 else if !k3 && !th then 6 else if !k3 && !re then 8 else if !ie && !st then 8 else if mx then 1 else 0
def refuse (S : KSt) (o : KOp) : Int := refB (mayW o) (o.kind == 3) (there S.L o.key) (revOf S.L o.key == o.rev) (o.iff.toList == ([] : List UInt8)) (stands S.L o.iff o.ifRev) (S.rev == 9223372036854775807)
theorem bcell {w W : World} {a : Addr} {v : Value} (hb : Below w.heap.size w W) (h : w.cell? a = some v) : W.cell? a = some v := (hb.cell (cell_lt8 h)).trans h
theorem bne_of {α : Type} [BEq α] {a b : α} {t : Bool} (h : (a == b) = t) : (a != b) = !t := by rw [bne, h]
theorem bdrew {w W : World} {n : Nat} (h : Below n w W) : Below n w W.drew := ⟨h.os, h.tape, h.output, h.size, h.block⟩
theorem kv_cell {w : World} {g : Nat} {P : Nat → Prop} {S : KSt} (h : KvAt w g P S) : w.cell? ⟨g, 0, none⟩ = some (.int .i64 S.rev) := by
  obtain ⟨mb, c0, -⟩ := h.cells
  exact c0
theorem KvAt.facts {w : World} {g : Nat} {P : Nat → Prop} {S : KSt} (h : KvAt w g P S) (s : ByteArray) (hs : s.size ≤ maxLen) : ∀ w', Below w.heap.size w w' → ∃ mb, w'.cell? ⟨g, 0, none⟩ = some (.int .i64 S.rev) ∧ w'.cell? ⟨g, 1, none⟩ = some (.map mb) ∧
    ∀ w'', Below w'.heap.size w' w'' → (Instr.lookup 77 (.map mb) (.string s) true).run Try.prog w'' = .ok (.tuple #[.agg #[.string (gotU S.L s).1, .string (gotU S.L s).2.1, .int .i64 (gotU S.L s).2.2], .bool (there S.L s)]) w'' := fun w' hb => by
  obtain ⟨mb, c0, c1, hL⟩ := (h.below hb).cells
  exact ⟨mb, c0, c1, fun w'' hb' => hL _ hb' s hs⟩
theorem opcells {w : World} {g : Nat} {o : KOp} {t : TypeId} (h : w.heap[g]? = some (.cells #[.int .i64 o.kind, .string o.key, .string o.val, .int .i64 o.rev, .string o.iff, .int .i64 o.ifRev] t (0, 0))) :
    w.cell? ⟨g, 0, none⟩ = some (.int .i64 o.kind) ∧ w.cell? ⟨g, 1, none⟩ = some (.string o.key) ∧ w.cell? ⟨g, 2, none⟩ = some (.string o.val) ∧ w.cell? ⟨g, 3, none⟩ = some (.int .i64 o.rev) ∧ w.cell? ⟨g, 4, none⟩ = some (.string o.iff) ∧ w.cell? ⟨g, 5, none⟩ = some (.int .i64 o.ifRev) := by simp [World.cell?, h]
set_option maxRecDepth 100000 in
set_option maxHeartbeats 4000000 in
theorem refusal_any (g : Nat) (P : Nat → Prop) (S : KSt) (o : KOp) (w : World) (h : KvAt w g P S) (hs : o.key.size ≤ maxLen) (hs2 : o.iff.size ≤ maxLen) :
    Calls Try.prog 32 #[ptr g, opV o] w fun e w' => e = .returned (.int .i64 (refuse S o)) ∧ Below w.heap.size w w' := by
  have HB0 := Lib.hid (belNew w (.cells #[.int .i64 o.kind, .string o.key, .string o.val, .int .i64 o.rev, .string o.iff, .int .i64 o.ifRev] 37))
  have HX := Lib.hid (heap_alloc_new w (.cells #[.int .i64 o.kind, .string o.key, .string o.val, .int .i64 o.rev, .string o.iff, .int .i64 o.ifRev] 37))
  have HM := Lib.hid (mayWrite_any o (w.alloc (.cells #[.int .i64 o.kind, .string o.key, .string o.val, .int .i64 o.rev, .string o.iff, .int .i64 o.ifRev] 37)))
  have HH : Hid (∀ w', Below w.heap.size w w' → Calls Try.prog 45 #[ptr g, .string o.iff, .int .i64 o.ifRev] w' fun e w'' => e = .returned (.bool (stands S.L o.iff o.ifRev)) ∧ Below w'.heap.size w' w'') := Lib.hid (fun w' hb => has_any g P S _ _ w' (h.below hb) hs2)
  have HF := Lib.hid (h.facts o.key hs)
  unfold refuse revOf
  generalize mayW o = mw at HM
  generalize stands S.L o.iff o.ifRev = st at HH
  generalize there S.L o.key = th at HF
  generalize gotU S.L o.key = u at HF
  obtain ⟨u1, u2, u3⟩ := u
  generalize hR : refB mw (o.kind == 3) th (u3 == o.rev) (o.iff.toList == ([] : List UInt8)) st (S.rev == 9223372036854775807) = R
  have HR := Lib.hid hR
  clear h hR
  go_enter Try.func32, Try.ntmps32
  go_wp2_with fail
  refine HM.out.mono ?_; rintro e w1 ⟨rfl, hb1⟩
  cases mw with
  | false =>
    go_wp2_with fail
    go_ret
    exact ⟨congrArg (fun x => Ending.returned (.int .i64 x)) HR.out, HB0.out.trans (hb1.mono HB0.out.size)⟩
  | true =>
    have hB1 := HB0.out.trans (hb1.mono HB0.out.size)
    have HB1 := Lib.hid hB1
    have HBK := Lib.hid ((hb1.block w.heap.size (by simp)).trans HX.out)
    obtain ⟨k0, k1, k2, k3, k4, k5⟩ := opcells HBK.out
    obtain ⟨mb, c0, c1, hL1⟩ := HF.out w1 hB1
    clear hB1 hb1
    go_upto_region 3 with fail
    refine wp_region_held_drew (S := (fun W => Below w1.heap.size w1 W)) (by kernel_rfl) ?_ (fun r0 => ?_)
    · exact ⟨rfl, rfl, rfl, Nat.le_refl _, fun _ _ => rfl⟩
    refine wpAnyH_take (i := 0) (v := ?_) rfl (by kernel_rfl) (by kernel_rfl) (by kernel_rfl) (fun _ _ _ h => h) (Or.inl ⟨by rfl, ?_⟩) (by assumption) ?_
    rotate_left
    · intro wS hSw
      (try dsimp only at hSw)
      go_simp
      first | done | with_reducible rfl
    try simp only [Act.put, List.getElem_toArray, List.getElem_cons_zero, List.setIfInBounds_toArray, List.set_cons_zero, List.set_cons_succ]
    refine wpAnyH_take (i := 1) (v := ?_) rfl (by kernel_rfl) (by kernel_rfl) (by kernel_rfl) (fun _ _ _ h => h) (Or.inl ⟨by rfl, ?_⟩) (by assumption) ?_
    rotate_left
    · intro wS hSw
      (try dsimp only at hSw)
      go_simp
      first | done | with_reducible rfl
    try simp only [Act.put, List.getElem_toArray, List.getElem_cons_succ, List.getElem_cons_zero, List.setIfInBounds_toArray, List.set_cons_zero, List.set_cons_succ]
    refine wpAnyH_take (i := 2) (v := ?_) rfl (by kernel_rfl) (by kernel_rfl) (by kernel_rfl) (fun _ _ _ h => h) (Or.inl ⟨by rfl, ?_⟩) (by assumption) ?_
    rotate_left
    · intro wS hSw
      (try dsimp only at hSw)
      go_simp
      first | done | with_reducible rfl
    try simp only [Act.put, List.getElem_toArray, List.getElem_cons_succ, List.getElem_cons_zero, List.setIfInBounds_toArray, List.set_cons_zero, List.set_cons_succ]
    refine wpAnyH_take (i := 3) (v := ?_) rfl (by kernel_rfl) (by kernel_rfl) (by kernel_rfl) (fun _ _ _ h => h) (Or.inl ⟨by rfl, ?_⟩) (by assumption) ?_
    rotate_left
    · intro wS hSw
      (try dsimp only at hSw)
      have c1 := bcell hSw c1
      have k1 := bcell hSw k1
      go_simp
      first | done | with_reducible rfl
    try simp only [Act.put, List.getElem_toArray, List.getElem_cons_succ, List.getElem_cons_zero, List.setIfInBounds_toArray, List.set_cons_zero, List.set_cons_succ]
    refine wpAnyH_take (i := 4) (v := ?_) rfl (by kernel_rfl) (by kernel_rfl) (by kernel_rfl) (fun _ _ _ h => h) (Or.inl ⟨by rfl, ?_⟩) (by assumption) ?_
    rotate_left
    · intro wS hSw
      (try dsimp only at hSw)
      go_simp
      first | done | with_reducible rfl
    try simp only [Act.put, List.getElem_toArray, List.getElem_cons_succ, List.getElem_cons_zero, List.setIfInBounds_toArray, List.set_cons_zero, List.set_cons_succ]
    refine wpAnyH_take (i := 5) (v := ?_) rfl (by kernel_rfl) (by kernel_rfl) (by kernel_rfl) (fun _ _ _ h => h) (Or.inl ⟨by rfl, ?_⟩) (by assumption) ?_
    rotate_left
    · intro wS hSw
      (try dsimp only at hSw)
      have c1 := bcell hSw c1
      have k1 := bcell hSw k1
      go_simp
      first | done | with_reducible rfl
    try simp only [Act.put, List.getElem_toArray, List.getElem_cons_succ, List.getElem_cons_zero, List.setIfInBounds_toArray, List.set_cons_zero, List.set_cons_succ]
    refine wpAnyH_take (i := 6) (v := ?_) rfl (by kernel_rfl) (by kernel_rfl) (by kernel_rfl) (fun _ _ _ h => h) (Or.inl ⟨by rfl, ?_⟩) (by assumption) ?_
    rotate_left
    · intro wS hSw
      (try dsimp only at hSw)
      have hL0 := hL1 _ hSw
      go_simp
      first | done | with_reducible rfl
    try simp only [Act.put, List.getElem_toArray, List.getElem_cons_succ, List.getElem_cons_zero, List.setIfInBounds_toArray, List.set_cons_zero, List.set_cons_succ]
    refine wpAnyH_take (i := 7) (v := ?_) rfl (by kernel_rfl) (by kernel_rfl) (by kernel_rfl) (fun _ _ _ h => h) (Or.inl ⟨by rfl, ?_⟩) (by assumption) ?_
    rotate_left
    · intro wS hSw
      (try dsimp only at hSw)
      go_simp
      first | done | with_reducible rfl
    try simp only [Act.put, List.getElem_toArray, List.getElem_cons_succ, List.getElem_cons_zero, List.setIfInBounds_toArray, List.set_cons_zero, List.set_cons_succ]
    refine wpAnyH_take (i := 8) (v := ?_) rfl (by kernel_rfl) (by kernel_rfl) (by kernel_rfl) (fun _ _ _ h => h) (Or.inl ⟨by rfl, ?_⟩) (by assumption) ?_
    rotate_left
    · intro wS hSw
      (try dsimp only at hSw)
      go_simp
      first | done | with_reducible rfl
    try simp only [Act.put, List.getElem_toArray, List.getElem_cons_succ, List.getElem_cons_zero, List.setIfInBounds_toArray, List.set_cons_zero, List.set_cons_succ]
    refine wpAnyH_take (i := 9) (v := ?_) rfl (by kernel_rfl) (by kernel_rfl) (by kernel_rfl) (fun _ _ _ h => h) (Or.inl ⟨by rfl, ?_⟩) (by assumption) ?_
    rotate_left
    · intro wS hSw
      (try dsimp only at hSw)
      go_simp
      first | done | with_reducible rfl
    try simp only [Act.put, List.getElem_toArray, List.getElem_cons_succ, List.getElem_cons_zero, List.setIfInBounds_toArray, List.set_cons_zero, List.set_cons_succ]
    refine wpAnyH_ready (rs := [10]) (by kernel_rfl) (by simp) ?_
    refine AllReadyH.cons rfl (fun K hK => ?_) AllReadyH.nil
    go_simp
    refine hK.out _ _ ?_ (fun r1 => ?_)
    · show Below _ _ _
      repeat (first | exact r0 | exact Below.refl _ _ | refine bdrew ?_ | refine Below.setCell ?_ (by simp) _ | refine Below.alloc ?_ (by simp) _)
    try simp only [Act.put, List.getElem_toArray, List.getElem_cons_succ, List.getElem_cons_zero, List.setIfInBounds_toArray, List.set_cons_zero, List.set_cons_succ]
    refine wpAnyH_ready (rs := [11]) (by kernel_rfl) (by simp) ?_
    refine AllReadyH.cons rfl (fun K hK => ?_) AllReadyH.nil
    go_simp
    refine hK.out _ _ ?_ (fun r2 => ?_)
    · show Below _ _ _
      repeat (first | exact r1 | exact Below.refl _ _ | refine bdrew ?_ | refine Below.setCell ?_ (by simp) _ | refine Below.alloc ?_ (by simp) _)
    try simp only [Act.put, List.getElem_toArray, List.getElem_cons_succ, List.getElem_cons_zero, List.setIfInBounds_toArray, List.set_cons_zero, List.set_cons_succ]
    refine wpAnyH_take (i := 12) (v := ?_) rfl (by kernel_rfl) (by kernel_rfl) (by kernel_rfl) (fun _ _ _ h => h) (Or.inl ⟨by rfl, ?_⟩) (by assumption) ?_
    rotate_left
    · intro wS hSw
      (try dsimp only at hSw)
      go_simp
      first | done | with_reducible rfl
    try simp only [Act.put, List.getElem_toArray, List.getElem_cons_succ, List.getElem_cons_zero, List.setIfInBounds_toArray, List.set_cons_zero, List.set_cons_succ]
    refine wpAnyH_done (by kernel_rfl) ?_ _
    obtain ⟨w2, hw2⟩ : ∃ w2, w2 = (w1.alloc (.cells #[.string u1, .string u2, .int .i64 u3] 76)).drew := ⟨_, rfl⟩
    rw [← hw2]
    have hb2 : Below w1.heap.size w1 w2 := by rw [hw2]; exact bdrew (belNew _ _)
    have hn2 : w2.heap[w1.heap.size]? = some (.cells #[.string u1, .string u2, .int .i64 u3] 76 (0, 0)) := by rw [hw2]; exact heap_alloc_new w1 _
    obtain ⟨-, -, j2⟩ := rcells hn2
    have k0 := bcell hb2 k0
    have k1 := bcell hb2 k1
    have k2 := bcell hb2 k2
    have k3 := bcell hb2 k3
    have k4 := bcell hb2 k4
    have k5 := bcell hb2 k5
    have c0 := bcell hb2 c0
    have c1 := bcell hb2 c1
    have HB2 := Lib.hid (HB1.out.trans (hb2.mono HB1.out.size))
    clear hw2 hb2 hn2 hL1 r0 r1 r2
    cases hk : (o.kind == 3) <;> rw [hk] at HR <;> have hk2 := bne_of hk <;> cases th
    · go_wp2_with fail
      go_ret
      exact ⟨congrArg (fun x => Ending.returned (.int .i64 x)) HR.out, HB2.out⟩
    · cases hr : (u3 == o.rev) <;> rw [hr] at HR <;> have hr2 := bne_of hr
      · go_wp2_with fail
        go_ret
        exact ⟨congrArg (fun x => Ending.returned (.int .i64 x)) HR.out, HB2.out⟩
      · cases hi : (o.iff.toList == ([] : List UInt8)) <;> rw [hi] at HR <;> have hi2 := bne_of hi
        · have HH2 := Lib.hid (HH.out w2 HB2.out)
          cases st
          · go_wp2_with (first | (go_at_call 45; refine HH2.out.mono ?_; rintro e w3 ⟨rfl, hb3⟩))
            go_ret
            exact ⟨congrArg (fun x => Ending.returned (.int .i64 x)) HR.out, HB2.out.trans (hb3.mono HB2.out.size)⟩
          · cases hx : (S.rev == 9223372036854775807) <;> rw [hx] at HR
            · go_wp2_with (first | (go_at_call 45; refine HH2.out.mono ?_; rintro e w3 ⟨rfl, hb3⟩; have c0 := bcell hb3 c0))
              go_ret
              exact ⟨congrArg (fun x => Ending.returned (.int .i64 x)) HR.out, HB2.out.trans (hb3.mono HB2.out.size)⟩
            · go_wp2_with (first | (go_at_call 45; refine HH2.out.mono ?_; rintro e w3 ⟨rfl, hb3⟩; have c0 := bcell hb3 c0))
              go_ret
              exact ⟨congrArg (fun x => Ending.returned (.int .i64 x)) HR.out, HB2.out.trans (hb3.mono HB2.out.size)⟩
        · cases hx : (S.rev == 9223372036854775807) <;> rw [hx] at HR
          · go_wp2_with fail
            go_ret
            exact ⟨congrArg (fun x => Ending.returned (.int .i64 x)) HR.out, HB2.out⟩
          · go_wp2_with fail
            go_ret
            exact ⟨congrArg (fun x => Ending.returned (.int .i64 x)) HR.out, HB2.out⟩
    · cases hi : (o.iff.toList == ([] : List UInt8)) <;> rw [hi] at HR <;> have hi2 := bne_of hi
      · have HH2 := Lib.hid (HH.out w2 HB2.out)
        cases st
        · go_wp2_with (first | (go_at_call 45; refine HH2.out.mono ?_; rintro e w3 ⟨rfl, hb3⟩))
          go_ret
          exact ⟨congrArg (fun x => Ending.returned (.int .i64 x)) HR.out, HB2.out.trans (hb3.mono HB2.out.size)⟩
        · cases hx : (S.rev == 9223372036854775807) <;> rw [hx] at HR
          · go_wp2_with (first | (go_at_call 45; refine HH2.out.mono ?_; rintro e w3 ⟨rfl, hb3⟩; have c0 := bcell hb3 c0))
            go_ret
            exact ⟨congrArg (fun x => Ending.returned (.int .i64 x)) HR.out, HB2.out.trans (hb3.mono HB2.out.size)⟩
          · go_wp2_with (first | (go_at_call 45; refine HH2.out.mono ?_; rintro e w3 ⟨rfl, hb3⟩; have c0 := bcell hb3 c0))
            go_ret
            exact ⟨congrArg (fun x => Ending.returned (.int .i64 x)) HR.out, HB2.out.trans (hb3.mono HB2.out.size)⟩
      · cases hx : (S.rev == 9223372036854775807) <;> rw [hx] at HR
        · go_wp2_with fail
          go_ret
          exact ⟨congrArg (fun x => Ending.returned (.int .i64 x)) HR.out, HB2.out⟩
        · go_wp2_with fail
          go_ret
          exact ⟨congrArg (fun x => Ending.returned (.int .i64 x)) HR.out, HB2.out⟩
    · go_wp2_with fail
      go_ret
      exact ⟨congrArg (fun x => Ending.returned (.int .i64 x)) HR.out, HB2.out⟩
end Go.Proofs.Ytholgmcfgnifdaa
