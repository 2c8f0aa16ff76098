/- append of bytes, nil or not, to bytes that lie alone, nil or not. -/
import Derived.Test.YtkjdfelmjanpcaaDoorPkRef
import Derived.Maps.AppendAt
import Derived.Deep.AppendSrc
namespace Go.Proofs.YtkjdfelmjanpcaaDoor
open Go.RowKit
theorem run_append_nils (w : World) (ty : TypeId) (c : Nat) : (Builtin.append_ #[32, 32] ty #[.slice none 0 0, .slice none 0 c]).run Tryd.prog w = .ok (.slice none 0 0) w := by
  kernel_rfl
theorem run_app (w : World) (ty : TypeId) (v src : Value) (xs t : List Int) (hown : Owns w 0 v xs) (hsee : Sees w src t) (hb : xs.length + t.length ≤ 100000000000) :
    ∃ v' w', (Builtin.append_ #[32, 32] ty #[v, src]).run Tryd.prog w = .ok v' w' ∧ Owns w' 0 v' (xs ++ t) ∧ w.grownBy w' v.ownBlock ∧ (v'.ownBlock = v.ownBlock ∨ v'.ownBlock = some w.heap.size) := by
  obtain ⟨i0, hi, hz0, hz1, hz2⟩ := info_parts info8
  obtain ⟨ao, c, rfl, hlc, hnil, hc⟩ := hsee
  cases ao with
  | none =>
    obtain rfl := hnil rfl
    have h0 := hown
    obtain ⟨_, ⟨rfl, hn⟩ | ⟨g, cap, cur, rfl, _, _, hnc, _⟩⟩ := hown
    · obtain rfl := List.eq_nil_of_length_eq_zero hn
      exact ⟨_, w, run_append_nils w ty c, h0, World.grownBy.refl _ _, Or.inl rfl⟩
    · have hr := run_append_room_src (P := Tryd.prog) w 32 32 ty 5 i0 Tryd.underlying32 hi g 0 xs.length cap (.slice none 0 c) 0 [] (Src.ofNil w Tryd.underlying32 c) (by omega) (fun j hj => by cases hj) (fun j hj => by cases hj)
      exact ⟨_, w, hr, by rw [List.append_nil]; exact h0, World.grownBy.refl _ _, Or.inl rfl⟩
  | some ad =>
    obtain ⟨v', w', hr, ho', hg', _, hat⟩ := run_append_own_at (P := Tryd.prog) w 0 32 ty 5 i0 (.int .u8 0) 1 1 Tryd.underlying32 hi hz0 hz1 hz2 rfl (by decide) v xs.length (cells8 xs) hown ad t.length c (cells8 t) (by simp) (fun j u hj => by
        have hjl : j < t.length := by
          have := (List.getElem?_eq_some_iff.1 hj).1
          simpa using this
        rw [getD_cells hjl] at hj
        rw [← hj]
        exact hc ad rfl j hjl) (fun u hu => by obtain ⟨z, _, rfl⟩ := List.mem_map.1 hu; rfl) (by unfold maxLen; omega) (by omega) (Nat.zero_le _)
    refine ⟨v', w', hr, ?_, hg', hat⟩
    unfold Owns cells8
    rw [List.length_append, List.map_append]
    exact ho'
theorem wpList_app {w : World} {ops : Array Oper} {rest : List Oper} {o : Oper} {a : Act} {Q : Exit → Act → World → Prop} (hgd : o.guard = none) (s x : Operand)
    (ho : o.op = .call { callee := .builtin .append, args := #[s, x], argTypes := #[32, 32] }) (v src : Value) (xs t : List Int)
    (hs : a.eval s = v) (hx : a.eval x = src) (hown : Owns w 0 v xs) (hsee : Sees w src t) (hb : xs.length + t.length ≤ 100000000000)
    (h : ∀ v' w', Owns w' 0 v' (xs ++ t) → w.grownBy w' v.ownBlock → (v'.ownBlock = v.ownBlock ∨ v'.ownBlock = some w.heap.size) → wpList Tryd.prog ops Q rest (a.put o.dst v') w') : wpList Tryd.prog ops Q (o :: rest) a w := by
  refine wpList_plain hgd fun _ hK => ?_
  obtain ⟨v', w', hr, h1, h2, h3⟩ := run_app w o.type v src xs t hown hsee hb
  unfold Oper.wp execOp
  simp only [ho, resolve, invoke, builtin, Sem.run_bind, Sem.run_pure, Result.andThen_ok, List.map_toArray, List.map_cons, List.map_nil, hs, hx, hr]
  exact hK _ _ (h v' w' h1 h2 h3)
end Go.Proofs.YtkjdfelmjanpcaaDoor
