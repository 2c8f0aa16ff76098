/- Package kv: under, All at a state without a map; Plan's way of List. -/
import Derived.Test.YtholgmcfgnifdaaKvUnder
namespace Go.Proofs.Ytholgmcfgnifdaa
open Go.RowKit Go.Maps Go.Shelf
set_option maxRecDepth 100000 in
set_option maxHeartbeats 4000000 in
theorem under_zero (pv : Value) (s : ByteArray) (w : World) (h : Calls Try.prog 39 #[pv] w fun e w' => e = .returned (.map none) ∧ w = w') :
    Calls Try.prog 30 #[pv, .string s] w fun e w' => ∃ v, e = .returned v ∧ RowI w' w.heap.size v [] ∧ Below w.heap.size w w' := by
  have HH := Lib.hid h
  have hrg := run_range_nilMap (P := Try.prog) w 77 _ _ Try.underlying77
  have hnx : ∀ ty, (Instr.next (.pointer (some ⟨w.heap.size, 0, none⟩)) false ty).run Try.prog (w.alloc (.mapIter none 0 #[] 0)) = _ := fun ty => run_next_nilMap _ ty 0 0 #[]
  clear h
  go_enter Try.func30, Try.ntmps30
  go_wp2_with (first
    | (go_at_call 39; refine HH.out.mono ?_; rintro e w' ⟨rfl, rfl⟩)
    | go_in)
  refine wp_loop_rounds 1 ?_
  rw [rounds_succ]
  go_wp2_with (first
    | (go_at_call 41; refine (sort_any _ 0 (.slice none 0 0) [] (World.ownsRow_nil _ _ _ _) List.Pairwise.nil (by simp)).mono ?_; rintro e w2 ⟨rfl, T', hperm, hris, hrow2, ht2⟩)
    | go_in)
  go_ret
  refine ⟨_, rfl, World.ownsRow_nil _ _ _ _, (belNew w _).trans (ht2.below (by simp) (fun i hi => by cases hi))⟩
theorem beginL_nil (s : ByteArray) : beginL [] s = [] := rfl
theorem beginL_emp (L : List KEnt) : beginL L emp = L := by
  unfold beginL begins
  rw [List.filter_eq_self]
  intro p _
  simp [Lib.hasPrefix, kl]
theorem under_any (g : Nat) (P : Nat → Prop) (S : KSt) (s : ByteArray) (w : World) (h : KvAt w g P S) (hr : Rising S.L) (hn : S.L.length ≤ 1000000) :
    Calls Try.prog 30 #[ptr g, .string s] w fun e w' => ∃ v, e = .returned v ∧ RowI w' w.heap.size v (beginL S.L s) ∧ Below w.heap.size w w' := by
  obtain ⟨mb, h1, h2, h3, -⟩ := h
  cases mb with
  | none =>
    rw [h3 rfl]
    exact under_zero (ptr g) s w (held_any g S.rev none w h1)
  | some b => exact under_some g b S.rev S.L s w h1 (h2 b rfl).1 hr hn
theorem all_any (g : Nat) (P : Nat → Prop) (S : KSt) (w : World) (h : KvAt w g P S) (hr : Rising S.L) (hn : S.L.length ≤ 1000000) :
    Calls Try.prog 22 #[ptr g] w fun e w' => ∃ v, e = .returned v ∧ RowI w' w.heap.size v S.L ∧ Below w.heap.size w w' := by
  have HU := Lib.hid (under_any g P S emp w h hr hn)
  rw [beginL_emp] at HU
  clear h hr hn
  go_enter Try.func22, Try.ntmps22
  go_wp2_with (first
    | (go_at_call 30; refine HU.out.mono ?_; rintro e w' ⟨v, rfl, hr, hb⟩)
    | go_in)
  go_ret
  exact ⟨_, rfl, hr, hb⟩
theorem all_nil (w : World) : Calls Try.prog 22 #[.pointer none] w fun e w' => ∃ v, e = .returned v ∧ RowI w' w.heap.size v [] ∧ Below w.heap.size w w' := by
  have HU := Lib.hid (under_zero (.pointer none) emp w (held_nil w))
  go_enter Try.func22, Try.ntmps22
  go_wp2_with (first
    | (go_at_call 30; refine HU.out.mono ?_; rintro e w' ⟨v, rfl, hr, hb⟩)
    | go_in)
  go_ret
  exact ⟨_, rfl, hr, hb⟩
end Go.Proofs.Ytholgmcfgnifdaa
