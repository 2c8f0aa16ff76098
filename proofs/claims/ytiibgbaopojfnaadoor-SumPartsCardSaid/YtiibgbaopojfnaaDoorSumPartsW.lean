/- The walk of SumParts. -/
import Derived.Test.YtiibgbaopojfnaaDoorSumW
import Derived.Deep.AppendSrc
namespace Go.Proofs.YtiibgbaopojfnaaDoor
open Go.RowKit
/-- append of bytes, nil or not, to bytes of the call's own that are not nil. -/
theorem wpList_append_sees {w : World} {ops : Array Oper} {rest : List Oper} {o : Oper} {a : Act} {Q : Exit → Act → World → Prop} (hgd : o.guard = none) (s x : Operand)
    (ho : o.op = .call { callee := .builtin .append, args := #[s, x], argTypes := #[23, 23] }) (B g cap : Nat) (xs t : List Int) (src : Value)
    (hs : a.eval s = .slice (some ⟨g, 0, none⟩) xs.length cap) (hx : a.eval x = src) (hown : Owns w B (.slice (some ⟨g, 0, none⟩) xs.length cap) xs) (hsee : Sees w src t) (hb : xs.length + t.length ≤ 140737488355328) (hB : B ≤ w.heap.size)
    (h : ∀ g' cap' w', Owns w' B (.slice (some ⟨g', 0, none⟩) (xs ++ t).length cap') (xs ++ t) → w.grownBy w' (some g) → wpList Tryd.prog ops Q rest (a.put o.dst (.slice (some ⟨g', 0, none⟩) (xs ++ t).length cap')) w') : wpList Tryd.prog ops Q (o :: rest) a w := by
  obtain ⟨i0, hi, hz0, hz1, hz2⟩ := info_parts info8
  obtain ⟨ao, c, rfl, hlc, hnil, hc⟩ := hsee
  cases ao with
  | none =>
    obtain rfl := hnil rfl
    refine wpList_plain hgd fun _ hK => ?_
    have hcap : xs.length + 0 ≤ cap := by
      obtain ⟨_, ⟨h0, _⟩ | ⟨_, _, _, he, _, _, hnc, _⟩⟩ := hown
      · cases h0
      · cases he; exact hnc
    have hr := run_append_room_src (P := Tryd.prog) w 23 23 o.type 5 i0 Tryd.underlying23 hi g 0 xs.length cap (.slice none 0 c) 0 [] (Src.ofNil w Tryd.underlying23 c) hcap (fun j hj => by cases hj) (fun j hj => by cases hj)
    unfold Oper.wp execOp
    simp only [ho, resolve, invoke, builtin, Sem.run_bind, Sem.run_pure, Result.andThen_ok, List.map_toArray, List.map_cons, List.map_nil, hs, hx, List.length_nil, hr]
    have h2 := h g cap w (by rw [List.append_nil]; exact hown) (World.grownBy.refl _ _)
    rw [List.append_nil] at h2
    exact hK _ _ h2
  | some ad =>
    refine wpList_append_own w hgd s x 23 ho B 5 i0 (.int .u8 0) 1 1 Tryd.underlying23 hi hz0 hz1 hz2 rfl (by decide) _ _ _ hs hown ad t.length c (cells8 t) hx (by simp) (fun j u hj => ?_) (fun u hu => by obtain ⟨z, _, rfl⟩ := List.mem_map.1 hu; rfl) (by unfold maxLen; omega) (by omega) hB ?_
    · have hjl : j < t.length := by
        have := (List.getElem?_eq_some_iff.1 hj).1
        simpa using this
      rw [getD_cells hjl] at hj
      rw [← hj]
      exact hc ad rfl j hjl
    · intro v' w' ho' hg' hn'
      have ho2 : Owns w' B v' (xs ++ t) := by unfold Owns cells8; rw [List.length_append, List.map_append]; exact ho'
      obtain ⟨_, ⟨h0, _⟩ | ⟨g', cap', _, rfl, _⟩⟩ := id ho2
      · exact absurd (hn'.1 h0).1 (by simp)
      · exact h g' cap' w' ho2 hg'
set_option maxHeartbeats 2000000 in
theorem lawParts (w : World) (s : Int) (b : Value) (xs : List Int) (b2 : Value) (ys : List Int) (s0 : 0 ≤ s) (s1 : s < 4294967296) (h : Sees w b xs) (hok : okB xs) (hm : xs.length ≤ maxLen) (h2 : Sees w b2 ys) (hok2 : okB ys) (hm2 : ys.length ≤ maxLen) (hE : Env w) :
    Calls Tryd.prog 4 #[.int .u32 s, b, b2] w fun e w' => e = .returned (.bool true) ∧ Below w.heap.size w w' := by
  obtain ⟨S, rfl⟩ := Int.eq_ofNat_of_zero_le s0
  have HF := Lib.hid (few_any b xs w h hm)
  have HG := Lib.hid (few_any b2 ys w h2 hm2)
  obtain ⟨L, hL⟩ : ∃ L, L = xs.take 300 := ⟨_, rfl⟩
  obtain ⟨M, hM⟩ : ∃ M, M = ys.take 300 := ⟨_, rfl⟩
  have hLl : L.length ≤ 300 := by rw [hL, List.length_take]; omega
  have hMl : M.length ≤ 300 := by rw [hM, List.length_take]; omega
  have hLo := Lib.hid (show okB L by rw [hL]; exact hok.take _)
  have hMo := Lib.hid (show okB M by rw [hM]; exact hok2.take _)
  rw [← hL] at HF
  rw [← hM] at HG
  clear hL hM h hok hm h2 hok2 hm2
  have HP := Lib.hid (moreN_append S L M)
  have HO : Hid (okB (L ++ M)) := Lib.hid fun x hx => (List.mem_append.1 hx).elim (hLo.out x) (hMo.out x)
  have n1 : moreN S L < 4294967296 := moreN_lt (by omega) (okB_lt hLo.out)
  have ho0 : Owns (w.alloc (.cells #[] 5)) w.heap.size (.slice (some ⟨w.heap.size, 0, none⟩) ([] : List Int).length 0) [] := World.ownsRow_made w #[] 0 (Nat.le_refl _) (Nat.zero_le _) rfl
  have HO0 := Lib.hid ho0
  clear ho0
  go_enter Tryd.func4, Tryd.ntmps4
  go_wp2_with fail
  refine HF.out.mono ?_; rintro e w0 ⟨v0, rfl, hs0, rfl⟩
  go_wp2_with fail
  refine HG.out.mono ?_; rintro e w0 ⟨v2, rfl, hs2, rfl⟩
  have hsA := hs0.keep (belNew w (.cells #[] 5))
  go_wp2_with (first
    | (at_builtin; refine wpList_append_sees rfl (.tmp 12) (.tmp 13) rfl w.heap.size w.heap.size 0 [] L v0 rfl rfl HO0.out hsA (by simp; omega) (by simp) ?_; intro g1 c1 w1 ho1 hg1; rw [List.nil_append] at ho1; simp only [List.nil_append]; have hb1 := (belNew w (.cells #[] 5)).grown hg1 (by simp) (fun j hj => by cases hj; exact Nat.le_refl _))
    | (at_builtin; refine wpList_append_sees rfl (.tmp 14) (.tmp 15) rfl w.heap.size g1 c1 L M v2 rfl rfl ho1 (hs2.keep hb1) (by omega) hb1.size ?_; intro g2 c2 w2 ho2 hg2; have hb2 := hb1.grown hg2 hb1.size (fun j hj => by cases hj; exact (ho1.lt _ rfl).1)))
  refine (more_any S (by omega) v0 L _ (hs0.keep hb2) hLo.out (by omega) (hE.below hb2)).mono ?_; rintro e w' ⟨rfl, rfl⟩
  go_wp2_with fail
  refine (more_any (moreN S L) n1 v2 M _ (hs2.keep hb2) hMo.out (by omega) (hE.below hb2)).mono ?_; rintro e w' ⟨rfl, rfl⟩
  go_wp2_with fail
  rw [List.length_append] at ho2
  refine (more_any S (by omega) (.slice (some ⟨g2, 0, none⟩) (L.length + M.length) c2) (L ++ M) _ ho2.sees HO.out (by rw [List.length_append]; omega) (hE.below hb2)).mono ?_; rintro e w' ⟨rfl, rfl⟩
  rw [HP.out]
  go_wp2_with fail
  refine (awakeS_any _ (hE.below hb2)).mono ?_; rintro e w' ⟨rfl, hb3⟩
  go_wp2_with fail
  go_ret
  exact ⟨rfl, bel hb2 hb3⟩
end Go.Proofs.YtiibgbaopojfnaaDoor
