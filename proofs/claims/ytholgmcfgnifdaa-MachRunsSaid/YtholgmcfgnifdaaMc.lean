/- The laws' chain: what it asks next, what it hears. -/
import Derived.Test.YtholgmcfgnifdaaMb
import Derived.Deep.Cut
namespace Go.Proofs.Ytholgmcfgnifdaa
open Go.RowKit Go.Maps
abbrev encO (o : KOp) : List Value := [.int .i64 o.kind, .string o.key, .string o.val, .int .i64 o.rev, .string o.iff, .int .i64 o.ifRev]
abbrev TEnt := (Int × Int × ByteArray) × (Option Addr × Nat × Nat)
abbrev encT (p : TEnt) : List Value := [.int .i64 p.1.1, .int .i64 p.1.2.1, .string p.1.2.2, .slice p.2.1 p.2.2.1 p.2.2.2]
theorem encO_len (p : KOp) : (encO p).length = 6 := rfl
theorem encT_len (p : TEnt) : (encT p).length = 4 := rfl
theorem encT_one (p : TEnt) : ∀ u ∈ encT p, u.oneCell' = true := by
  intro u hu
  simp only [List.mem_cons, List.not_mem_nil, or_false] at hu
  rcases hu with rfl | rfl | rfl | rfl <;> rfl
theorem encO_one (p : KOp) : ∀ u ∈ encO p, u.oneCell' = true := by
  intro u hu
  simp only [List.mem_cons, List.not_mem_nil, or_false] at hu
  rcases hu with rfl | rfl | rfl | rfl | rfl | rfl <;> rfl
/-- The rows of operations (the program's type), as what they are. -/
abbrev SeesO (w : World) (v : Value) (os : List KOp) : Prop := SeesG 6 encO w v os
abbrev RowT (w : World) (B : Nat) (v : Value) (T : List TEnt) : Prop := RowG 49 4 encT w B v T
theorem infoT : (Try.prog.info? 49).map (fun i => (i.zero, i.size, i.bytes)) = some (some (resV 0 0 emp (.slice none 0 0)), 4, 56) := by kernel_rfl
theorem opAt {w : World} {ao : Option Addr} {n c : Nat} {os : List KOp} (h : SeesO w (.slice ao n c) os) {i : Nat} {o : KOp} (hp : os[i]? = some o) : ∃ a, ao = some a ∧ n = os.length ∧ SeesOp9 w (a.add (i * 6)) o := by
  obtain ⟨a, e, en, hc⟩ := h.at hp
  exact ⟨a, e, en, hc 0 _ rfl, hc 1 _ rfl, hc 2 _ rfl, hc 3 _ rfl, hc 4 _ rfl, hc 5 _ rfl⟩
abbrev hearF (gc : Nat) : Value := .func (.func 24) #[ptr gc] #[]
abbrev chainO (gp : Nat) (lv tv : Value) : Obj := .cells #[ptr gp, lv, tv] 32 (0, 0)
theorem chcells {w : World} {gc gp : Nat} {lv tv : Value} (h : w.heap[gc]? = some (chainO gp lv tv)) : w.cell? ⟨gc, 0, none⟩ = some (ptr gp) ∧ w.cell? ⟨gc, 1, none⟩ = some lv ∧ w.cell? ⟨gc, 2, none⟩ = some tv := rcells h
theorem tcell {P : Nat → Prop} {w W : World} {a : Addr} {v : Value} (hb : Touch P w W) (hn : ¬ P a.block) (h : w.cell? a = some v) : W.cell? a = some v := (World.cell?_of_block (hb.2.2.2.2 _ (cell_lt8 h) hn)).trans h
/-- What the chain's procedure asks when so many were told. -/
def nextO (os : List KOp) (t : Nat) : KOp := if t < os.length then os.getD t opZ else opZ
def nextF (gc : Nat) (os : List KOp) (t : Nat) : Value := if t < os.length then hearF gc else .nilFunc
set_option maxRecDepth 100000 in
set_option maxHeartbeats 4000000 in
theorem next_yes (gc gp : Nat) (lv tv : Value) (os : List KOp) (t : Nat) (o : KOp) (a : Bool) (f : Value) (n : Int) (w : World) (hc : w.heap[gc]? = some (chainO gp lv tv)) (hp : ProcAt w gp o a f n) (hl : SeesO w lv os) (ht : ∃ ao c, tv = .slice ao t c) (hlt : t < os.length) (hlm : os.length ≤ 1000000) (hne : gc ≠ gp) (hnl : ∀ d, lv.ownBlock = some d → d ≠ gp) :
    Calls Try.prog 8 #[ptr gc] w fun e w' => e = .returned (.tuple #[]) ∧ ProcAt w' gp (os.getD t opZ) true (hearF gc) n ∧ Touch (· = gp) w w' := by
  obtain ⟨ao, c, rfl⟩ := ht
  obtain ⟨bo, bc, rfl⟩ := hl.slice
  have hx : os[t]? = some (os.getD t opZ) := by rw [List.getD_eq_getElem?_getD, List.getElem?_eq_getElem hlt]; rfl
  generalize os.getD t opZ = x at hx
  obtain ⟨b, rfl, -, q0, q1, q2, q3, q4, q5⟩ := opAt hl hx
  have q1 := off1 q1
  have q2 := off2 q2
  have q3 := off3 q3
  have q4 := off4 q4
  have q5 := off5 q5
  obtain ⟨c0, c1, c2⟩ := chcells hc
  have nb : ∀ k : Nat, (b.add (t * 6)).block ≠ gp := fun _ => by rw [add_block]; exact hnl _ rfl
  have b0 : (0 : Int) ≤ (t : Int) := by omega
  have b1 : (t : Int) < (os.length : Int) := by omega
  have d1 : decide ((t : Int) < (os.length : Int)) = true := by simp; omega
  have HA : Hid (∀ w', Below w.heap.size w w' → Calls Try.prog 23 #[ptr gp, opV x, hearF gc] w' fun e w'' => e = .returned (.tuple #[]) ∧ ProcAt w'' gp x true (hearF gc) n ∧ Touch (· = gp) w' w'') := Lib.hid (fun w' hb => askF_any gp x o a (.func 24) #[ptr gc] #[] f n w' (hp.below hb))
  clear hc hp hl hx hlt hlm
  go_enter Try.func8, Try.ntmps8
  go_upto_region 0 with fail
  refine wp_region_held_drew (S := (fun W => Below w.heap.size w W)) (by kernel_rfl) ?_ (fun r0 => ?_)
  · exact ⟨rfl, rfl, rfl, Nat.le_refl _, fun _ _ => rfl⟩
  refine wpAnyH_take (i := 0) (v := ?_) rfl (by kernel_rfl) (by kernel_rfl) (by kernel_rfl) (fun _ _ _ h => h) (Or.inl ⟨by rfl, ?_⟩) (by assumption) ?_
  rotate_left
  · intro wS hSw
    (try dsimp only at hSw)
    go_simp
    first | done | with_reducible rfl
  try simp only [Act.put, List.getElem_toArray, List.getElem_cons_succ, List.getElem_cons_zero, List.setIfInBounds_toArray, List.set_cons_zero, List.set_cons_succ]
  refine wpAnyH_take (i := 1) (v := ?_) rfl (by kernel_rfl) (by kernel_rfl) (by kernel_rfl) (fun _ _ _ h => h) (Or.inl ⟨by rfl, ?_⟩) (by assumption) ?_
  rotate_left
  · intro wS hSw
    (try dsimp only at hSw)
    go_simp
    first | done | with_reducible rfl
  try simp only [Act.put, List.getElem_toArray, List.getElem_cons_succ, List.getElem_cons_zero, List.setIfInBounds_toArray, List.set_cons_zero, List.set_cons_succ]
  refine wpAnyH_take (i := 2) (v := ?_) rfl (by kernel_rfl) (by kernel_rfl) (by kernel_rfl) (fun _ _ _ h => h) (Or.inl ⟨by rfl, ?_⟩) (by assumption) ?_
  rotate_left
  · intro wS hSw
    (try dsimp only at hSw)
    go_simp
    first | done | with_reducible rfl
  try simp only [Act.put, List.getElem_toArray, List.getElem_cons_succ, List.getElem_cons_zero, List.setIfInBounds_toArray, List.set_cons_zero, List.set_cons_succ]
  refine wpAnyH_take (i := 3) (v := ?_) rfl (by kernel_rfl) (by kernel_rfl) (by kernel_rfl) (fun _ _ _ h => h) (Or.inl ⟨by rfl, ?_⟩) (by assumption) ?_
  rotate_left
  · intro wS hSw
    (try dsimp only at hSw)
    have c0 := bcell hSw c0
    have c1 := bcell hSw c1
    have c2 := bcell hSw c2
    go_simp
    first | done | with_reducible rfl
  try simp only [Act.put, List.getElem_toArray, List.getElem_cons_succ, List.getElem_cons_zero, List.setIfInBounds_toArray, List.set_cons_zero, List.set_cons_succ]
  refine wpAnyH_take (i := 4) (v := ?_) rfl (by kernel_rfl) (by kernel_rfl) (by kernel_rfl) (fun _ _ _ h => h) (Or.inl ⟨by rfl, ?_⟩) (by assumption) ?_
  rotate_left
  · intro wS hSw
    (try dsimp only at hSw)
    go_simp
    first | done | with_reducible rfl
  try simp only [Act.put, List.getElem_toArray, List.getElem_cons_succ, List.getElem_cons_zero, List.setIfInBounds_toArray, List.set_cons_zero, List.set_cons_succ]
  refine wpAnyH_take (i := 5) (v := ?_) rfl (by kernel_rfl) (by kernel_rfl) (by kernel_rfl) (fun _ _ _ h => h) (Or.inl ⟨by rfl, ?_⟩) (by assumption) ?_
  rotate_left
  · intro wS hSw
    (try dsimp only at hSw)
    go_simp
    first | done | with_reducible rfl
  try simp only [Act.put, List.getElem_toArray, List.getElem_cons_succ, List.getElem_cons_zero, List.setIfInBounds_toArray, List.set_cons_zero, List.set_cons_succ]
  refine wpAnyH_take (i := 6) (v := ?_) rfl (by kernel_rfl) (by kernel_rfl) (by kernel_rfl) (fun _ _ _ h => h) (Or.inl ⟨by rfl, ?_⟩) (by assumption) ?_
  rotate_left
  · intro wS hSw
    (try dsimp only at hSw)
    go_simp
    first | done | with_reducible rfl
  try simp only [Act.put, List.getElem_toArray, List.getElem_cons_succ, List.getElem_cons_zero, List.setIfInBounds_toArray, List.set_cons_zero, List.set_cons_succ]
  refine wpAnyH_take (i := 7) (v := ?_) rfl (by kernel_rfl) (by kernel_rfl) (by kernel_rfl) (fun _ _ _ h => h) (Or.inl ⟨by rfl, ?_⟩) (by assumption) ?_
  rotate_left
  · intro wS hSw
    (try dsimp only at hSw)
    go_simp
    first | done | with_reducible rfl
  try simp only [Act.put, List.getElem_toArray, List.getElem_cons_succ, List.getElem_cons_zero, List.setIfInBounds_toArray, List.set_cons_zero, List.set_cons_succ]
  refine wpAnyH_take (i := 8) (v := ?_) rfl (by kernel_rfl) (by kernel_rfl) (by kernel_rfl) (fun _ _ _ h => h) (Or.inl ⟨by rfl, ?_⟩) (by assumption) ?_
  rotate_left
  · intro wS hSw
    (try dsimp only at hSw)
    have c0 := bcell hSw c0
    have c1 := bcell hSw c1
    have c2 := bcell hSw c2
    go_simp
    first | done | with_reducible rfl
  try simp only [Act.put, List.getElem_toArray, List.getElem_cons_succ, List.getElem_cons_zero, List.setIfInBounds_toArray, List.set_cons_zero, List.set_cons_succ]
  refine wpAnyH_take (i := 9) (v := ?_) rfl (by kernel_rfl) (by kernel_rfl) (by kernel_rfl) (fun _ _ _ h => h) (Or.inl ⟨by rfl, ?_⟩) (by assumption) ?_
  rotate_left
  · intro wS hSw
    (try dsimp only at hSw)
    go_simp
    first | done | with_reducible rfl
  try simp only [Act.put, List.getElem_toArray, List.getElem_cons_succ, List.getElem_cons_zero, List.setIfInBounds_toArray, List.set_cons_zero, List.set_cons_succ]
  refine wpAnyH_take (i := 10) (v := ?_) rfl (by kernel_rfl) (by kernel_rfl) (by kernel_rfl) (fun _ _ _ h => h) (Or.inl ⟨by rfl, ?_⟩) (by assumption) ?_
  rotate_left
  · intro wS hSw
    (try dsimp only at hSw)
    go_simp
    first | done | with_reducible rfl
  try simp only [Act.put, List.getElem_toArray, List.getElem_cons_succ, List.getElem_cons_zero, List.setIfInBounds_toArray, List.set_cons_zero, List.set_cons_succ]
  refine wpAnyH_done (by kernel_rfl) ?_ _
  obtain ⟨wd, hwd⟩ : ∃ wd, wd = w.drew := ⟨_, rfl⟩
  rw [← hwd] at r0 ⊢
  have c0 := bcell r0 c0
  have c1 := bcell r0 c1
  have c2 := bcell r0 c2
  have q0 := bcell r0 q0
  have q1 := bcell r0 q1
  have q2 := bcell r0 q2
  have q3 := bcell r0 q3
  have q4 := bcell r0 q4
  have q5 := bcell r0 q5
  have hR : ∀ X, Touch (· = gp) wd X → X.cell? ⟨gc, 0, none⟩ = some (ptr gp) ∧ X.cell? ⟨gc, 1, none⟩ = some (.slice (some b) os.length bc) ∧ X.cell? ⟨gc, 2, none⟩ = some (.slice ao t c) ∧ X.cell? (b.add (t * 6)) = some (.int .i64 x.kind) ∧ X.cell? { block := (b.add (t * 6)).block, off := (b.add (t * 6)).off + 1 } = some (.string x.key) ∧ X.cell? { block := (b.add (t * 6)).block, off := (b.add (t * 6)).off + 2 } = some (.string x.val) ∧ X.cell? { block := (b.add (t * 6)).block, off := (b.add (t * 6)).off + 3 } = some (.int .i64 x.rev) ∧ X.cell? { block := (b.add (t * 6)).block, off := (b.add (t * 6)).off + 4 } = some (.string x.iff) ∧ X.cell? { block := (b.add (t * 6)).block, off := (b.add (t * 6)).off + 5 } = some (.int .i64 x.ifRev) := fun X hX => ⟨tcell hX hne c0, tcell hX hne c1, tcell hX hne c2, tcell hX (nb 0) q0, tcell hX (nb 0) q1, tcell hX (nb 0) q2, tcell hX (nb 0) q3, tcell hX (nb 0) q4, tcell hX (nb 0) q5⟩
  have HR := Lib.hid hR
  have R0 := Lib.hid r0
  clear r0 hwd hR c0 c1 c2 q0 q1 q2 q3 q4 q5
  go_upto_region 1 with fail
  refine wp_region_held_drew (S := (fun X => Touch (· = gp) wd X)) (by kernel_rfl) ?_ (fun r1 => ?_)
  · exact ⟨rfl, rfl, rfl, Nat.le_refl _, fun _ _ _ => rfl⟩
  refine wpAnyH_take (i := 0) (v := ?_) rfl (by kernel_rfl) (by kernel_rfl) (by kernel_rfl) (fun _ _ _ h => h) (Or.inl ⟨by rfl, ?_⟩) (by assumption) ?_
  rotate_left
  · intro wS hSw
    (try dsimp only at hSw)
    go_simp
    first | done | with_reducible rfl
  try simp only [Act.put, List.getElem_toArray, List.getElem_cons_succ, List.getElem_cons_zero, List.setIfInBounds_toArray, List.set_cons_zero, List.set_cons_succ]
  refine wpAnyH_take (i := 1) (v := ?_) rfl (by kernel_rfl) (by kernel_rfl) (by kernel_rfl) (fun _ _ _ h => h) (Or.inl ⟨by rfl, ?_⟩) (by assumption) ?_
  rotate_left
  · intro wS hSw
    (try dsimp only at hSw)
    go_simp
    first | done | with_reducible rfl
  try simp only [Act.put, List.getElem_toArray, List.getElem_cons_succ, List.getElem_cons_zero, List.setIfInBounds_toArray, List.set_cons_zero, List.set_cons_succ]
  refine wpAnyH_take (i := 2) (v := ?_) rfl (by kernel_rfl) (by kernel_rfl) (by kernel_rfl) (fun _ _ _ h => h) (Or.inl ⟨by rfl, ?_⟩) (by assumption) ?_
  rotate_left
  · intro wS hSw
    (try dsimp only at hSw)
    go_simp
    first | done | with_reducible rfl
  try simp only [Act.put, List.getElem_toArray, List.getElem_cons_succ, List.getElem_cons_zero, List.setIfInBounds_toArray, List.set_cons_zero, List.set_cons_succ]
  refine wpAnyH_take (i := 3) (v := ?_) rfl (by kernel_rfl) (by kernel_rfl) (by kernel_rfl) (fun _ _ _ h => h) (Or.inl ⟨by rfl, ?_⟩) (by assumption) ?_
  rotate_left
  · intro wS hSw
    (try dsimp only at hSw)
    obtain ⟨c0, c1, c2, q0, q1, q2, q3, q4, q5⟩ := HR.out _ hSw
    go_simp
    first | done | with_reducible rfl
  try simp only [Act.put, List.getElem_toArray, List.getElem_cons_succ, List.getElem_cons_zero, List.setIfInBounds_toArray, List.set_cons_zero, List.set_cons_succ]
  refine wpAnyH_take (i := 4) (v := ?_) rfl (by kernel_rfl) (by kernel_rfl) (by kernel_rfl) (fun _ _ _ h => h) (Or.inl ⟨by rfl, ?_⟩) (by assumption) ?_
  rotate_left
  · intro wS hSw
    (try dsimp only at hSw)
    go_simp
    first | done | with_reducible rfl
  try simp only [Act.put, List.getElem_toArray, List.getElem_cons_succ, List.getElem_cons_zero, List.setIfInBounds_toArray, List.set_cons_zero, List.set_cons_succ]
  refine wpAnyH_take (i := 5) (v := ?_) rfl (by kernel_rfl) (by kernel_rfl) (by kernel_rfl) (fun _ _ _ h => h) (Or.inl ⟨by rfl, ?_⟩) (by assumption) ?_
  rotate_left
  · intro wS hSw
    (try dsimp only at hSw)
    go_simp
    first | done | with_reducible rfl
  try simp only [Act.put, List.getElem_toArray, List.getElem_cons_succ, List.getElem_cons_zero, List.setIfInBounds_toArray, List.set_cons_zero, List.set_cons_succ]
  refine wpAnyH_take (i := 6) (v := ?_) rfl (by kernel_rfl) (by kernel_rfl) (by kernel_rfl) (fun _ _ _ h => h) (Or.inl ⟨by rfl, ?_⟩) (by assumption) ?_
  rotate_left
  · intro wS hSw
    (try dsimp only at hSw)
    go_simp
    first | done | with_reducible rfl
  try simp only [Act.put, List.getElem_toArray, List.getElem_cons_succ, List.getElem_cons_zero, List.setIfInBounds_toArray, List.set_cons_zero, List.set_cons_succ]
  refine wpAnyH_take (i := 7) (v := ?_) rfl (by kernel_rfl) (by kernel_rfl) (by kernel_rfl) (fun _ _ _ h => h) (Or.inl ⟨by rfl, ?_⟩) (by assumption) ?_
  rotate_left
  · intro wS hSw
    (try dsimp only at hSw)
    obtain ⟨c0, c1, c2, q0, q1, q2, q3, q4, q5⟩ := HR.out _ hSw
    go_simp
    first | done | with_reducible rfl
  try simp only [Act.put, List.getElem_toArray, List.getElem_cons_succ, List.getElem_cons_zero, List.setIfInBounds_toArray, List.set_cons_zero, List.set_cons_succ]
  refine wpAnyH_take (i := 8) (v := ?_) rfl (by kernel_rfl) (by kernel_rfl) (by kernel_rfl) (fun _ _ _ h => h) (Or.inl ⟨by rfl, ?_⟩) (by assumption) ?_
  rotate_left
  · intro wS hSw
    (try dsimp only at hSw)
    go_simp
    first | done | with_reducible rfl
  try simp only [Act.put, List.getElem_toArray, List.getElem_cons_succ, List.getElem_cons_zero, List.setIfInBounds_toArray, List.set_cons_zero, List.set_cons_succ]
  refine wpAnyH_take (i := 9) (v := ?_) rfl (by kernel_rfl) (by kernel_rfl) (by kernel_rfl) (fun _ _ _ h => h) (Or.inl ⟨by rfl, ?_⟩) (by assumption) ?_
  rotate_left
  · intro wS hSw
    (try dsimp only at hSw)
    go_simp
    first | done | with_reducible rfl
  try simp only [Act.put, List.getElem_toArray, List.getElem_cons_succ, List.getElem_cons_zero, List.setIfInBounds_toArray, List.set_cons_zero, List.set_cons_succ]
  refine wpAnyH_take (i := 10) (v := ?_) rfl (by kernel_rfl) (by kernel_rfl) (by kernel_rfl) (fun _ _ _ h => h) (Or.inl ⟨by rfl, ?_⟩) (by assumption) ?_
  rotate_left
  · intro wS hSw
    (try dsimp only at hSw)
    go_simp
    first | done | with_reducible rfl
  try simp only [Act.put, List.getElem_toArray, List.getElem_cons_succ, List.getElem_cons_zero, List.setIfInBounds_toArray, List.set_cons_zero, List.set_cons_succ]
  refine wpAnyH_take (i := 11) (v := ?_) rfl (by kernel_rfl) (by kernel_rfl) (by kernel_rfl) (fun _ _ _ h => h) (Or.inl ⟨by rfl, ?_⟩) (by assumption) ?_
  rotate_left
  · intro wS hSw
    (try dsimp only at hSw)
    obtain ⟨c0, c1, c2, q0, q1, q2, q3, q4, q5⟩ := HR.out _ hSw
    go_simp
    first | done | with_reducible rfl
  try simp only [Act.put, List.getElem_toArray, List.getElem_cons_succ, List.getElem_cons_zero, List.setIfInBounds_toArray, List.set_cons_zero, List.set_cons_succ]
  refine wpAnyH_take (i := 12) (v := ?_) rfl (by kernel_rfl) (by kernel_rfl) (by kernel_rfl) (fun _ _ _ h => h) (Or.inl ⟨by rfl, ?_⟩) (by assumption) ?_
  rotate_left
  · intro wS hSw
    (try dsimp only at hSw)
    go_simp
    first | done | with_reducible rfl
  try simp only [Act.put, List.getElem_toArray, List.getElem_cons_succ, List.getElem_cons_zero, List.setIfInBounds_toArray, List.set_cons_zero, List.set_cons_succ]
  refine wpAnyH_take (i := 13) (v := ?_) rfl (by kernel_rfl) (by kernel_rfl) (by kernel_rfl) (fun _ _ _ h => h) (Or.inl ⟨by rfl, ?_⟩) (by assumption) ?_
  rotate_left
  · intro wS hSw
    (try dsimp only at hSw)
    go_simp
    first | done | with_reducible rfl
  try simp only [Act.put, List.getElem_toArray, List.getElem_cons_succ, List.getElem_cons_zero, List.setIfInBounds_toArray, List.set_cons_zero, List.set_cons_succ]
  refine wpAnyH_take (i := 14) (v := ?_) rfl (by kernel_rfl) (by kernel_rfl) (by kernel_rfl) (fun _ _ _ h => h) (Or.inl ⟨by rfl, ?_⟩) (by assumption) ?_
  rotate_left
  · intro wS hSw
    (try dsimp only at hSw)
    obtain ⟨c0, c1, c2, q0, q1, q2, q3, q4, q5⟩ := HR.out _ hSw
    go_simp
    first | done | with_reducible rfl
  try simp only [Act.put, List.getElem_toArray, List.getElem_cons_succ, List.getElem_cons_zero, List.setIfInBounds_toArray, List.set_cons_zero, List.set_cons_succ]
  refine wpAnyH_take (i := 15) (v := ?_) rfl (by kernel_rfl) (by kernel_rfl) (by kernel_rfl) (fun _ _ _ h => h) (Or.inl ⟨by rfl, ?_⟩) (by assumption) ?_
  rotate_left
  · intro wS hSw
    (try dsimp only at hSw)
    go_simp
    first | done | with_reducible rfl
  try simp only [Act.put, List.getElem_toArray, List.getElem_cons_succ, List.getElem_cons_zero, List.setIfInBounds_toArray, List.set_cons_zero, List.set_cons_succ]
  refine wpAnyH_take (i := 16) (v := ?_) rfl (by kernel_rfl) (by kernel_rfl) (by kernel_rfl) (fun _ _ _ h => h) (Or.inl ⟨by rfl, ?_⟩) (by assumption) ?_
  rotate_left
  · intro wS hSw
    (try dsimp only at hSw)
    go_simp
    first | done | with_reducible rfl
  try simp only [Act.put, List.getElem_toArray, List.getElem_cons_succ, List.getElem_cons_zero, List.setIfInBounds_toArray, List.set_cons_zero, List.set_cons_succ]
  refine wpAnyH_ready (rs := [17]) (by kernel_rfl) (by simp) ?_
  refine AllReadyH.cons rfl (fun K hK => ?_) AllReadyH.nil
  go_simp
  refine (HA.out _ (bdrew R0.out)).mono ?_; rintro e w2 ⟨rfl, hp2, ht2⟩
  refine hK.out _ _ ?_ (fun r2 => ?_)
  · exact r1.trans ht2 (fun _ _ h => h)
  try simp only [Act.put, List.getElem_toArray, List.getElem_cons_succ, List.getElem_cons_zero, List.setIfInBounds_toArray, List.set_cons_zero, List.set_cons_succ]
  refine wpAnyH_done (by kernel_rfl) ?_ _
  go_wp2_with fail
  go_end0
  exact ⟨rfl, hp2, (Touch.of_below (· = gp) R0.out).trans r2 (fun _ _ h => h)⟩
end Go.Proofs.Ytholgmcfgnifdaa
