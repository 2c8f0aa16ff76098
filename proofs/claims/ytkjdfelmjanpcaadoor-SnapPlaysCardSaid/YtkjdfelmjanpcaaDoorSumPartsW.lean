/- The walk of SumParts. -/
import Derived.Test.YtkjdfelmjanpcaaDoorSumW
import Derived.Deep.AppendSrc
namespace Go.Proofs.YtkjdfelmjanpcaaDoor
open Go.RowKit
/-- append of bytes, nil or not, to bytes of the call's own that are not nil. -/
theorem wpList_append_sees {w : World} {ops : Array Oper} {rest : List Oper} {o : Oper} {a : Act} {Q : Exit → Act → World → Prop} (hgd : o.guard = none) (s x : Operand)
    (ho : o.op = .call { callee := .builtin .append, args := #[s, x], argTypes := #[32, 32] }) (B g cap : Nat) (xs t : List Int) (src : Value)
    (hs : a.eval s = .slice (some ⟨g, 0, none⟩) xs.length cap) (hx : a.eval x = src) (hown : Owns w B (.slice (some ⟨g, 0, none⟩) xs.length cap) xs) (hsee : Sees w src t) (hb : xs.length + t.length ≤ 140737488355328) (hB : B ≤ w.heap.size)
    (h : ∀ g' cap' w', Owns w' B (.slice (some ⟨g', 0, none⟩) (xs ++ t).length cap') (xs ++ t) → w.grownBy w' (some g) → wpList Tryd.prog ops Q rest (a.put o.dst (.slice (some ⟨g', 0, none⟩) (xs ++ t).length cap')) w') : wpList Tryd.prog ops Q (o :: rest) a w := by
  obtain ⟨i0, hi, hz0, hz1, hz2⟩ := info_parts info8
  obtain ⟨ao, c, rfl, hlc, hnil, hc⟩ := hsee
  cases ao with
  | none =>
    obtain rfl := hnil rfl
    refine wpList_plain hgd fun _ hK => ?_
    have hcap : xs.length + 0 ≤ cap := by
      obtain ⟨_, ⟨h0, _⟩ | ⟨_, _, _, he, _, _, hnc, _⟩⟩ := hown
      · cases h0
      · cases he; exact hnc
    have hr := run_append_room_src (P := Tryd.prog) w 32 32 o.type 5 i0 Tryd.underlying32 hi g 0 xs.length cap (.slice none 0 c) 0 [] (Src.ofNil w Tryd.underlying32 c) hcap (fun j hj => by cases hj) (fun j hj => by cases hj)
    unfold Oper.wp execOp
    simp only [ho, resolve, invoke, builtin, Sem.run_bind, Sem.run_pure, Result.andThen_ok, List.map_toArray, List.map_cons, List.map_nil, hs, hx, List.length_nil, hr]
    have h2 := h g cap w (by rw [List.append_nil]; exact hown) (World.grownBy.refl _ _)
    rw [List.append_nil] at h2
    exact hK _ _ h2
  | some ad =>
    refine wpList_append_own w hgd s x 32 ho B 5 i0 (.int .u8 0) 1 1 Tryd.underlying32 hi hz0 hz1 hz2 rfl (by decide) _ _ _ hs hown ad t.length c (cells8 t) hx (by simp) (fun j u hj => ?_) (fun u hu => by obtain ⟨z, _, rfl⟩ := List.mem_map.1 hu; rfl) (by unfold maxLen; omega) (by omega) hB ?_
    · have hjl : j < t.length := by
        have := (List.getElem?_eq_some_iff.1 hj).1
        simpa using this
      rw [getD_cells hjl] at hj
      rw [← hj]
      exact hc ad rfl j hjl
    · intro v' w' ho' hg' hn'
      have ho2 : Owns w' B v' (xs ++ t) := by unfold Owns cells8; rw [List.length_append, List.map_append]; exact ho'
      obtain ⟨_, ⟨h0, _⟩ | ⟨g', cap', _, rfl, _⟩⟩ := id ho2
      · exact absurd (hn'.1 h0).1 (by simp)
      · exact h g' cap' w' ho2 hg'
end Go.Proofs.YtkjdfelmjanpcaaDoor
