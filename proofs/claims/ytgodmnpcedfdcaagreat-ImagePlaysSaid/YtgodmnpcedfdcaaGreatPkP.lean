/- Package pack: the reference's Put, and texts as bytes. -/
import Derived.Test.YtgodmnpcedfdcaaGreatPkT
import Derived.Deep.AppendSrc
namespace Go.Proofs.YtgodmnpcedfdcaaGreat
open Go.RowKit
theorem set_zero (m : Nat) (l : List Int) (u : Int) : (List.replicate (m + 1) (0 : Int) ++ l).set m u = List.replicate m 0 ++ u :: l := by
  rw [List.replicate_succ', List.append_assoc, List.set_append_right _ _ (by simp)]
  simp
set_option maxHeartbeats 2000000 in
theorem refPut_any (n k : Int) (w : World) (hn : 0 ≤ n) (hn' : n < 18446744073709551616) :
    Calls Tryz.prog 39 #[.int .u64 n, .int .i64 k] w fun e w' => ∃ v, e = .returned v ∧ Owns w' w.heap.size v (putL n k) ∧ Below w.heap.size w w' := by
  obtain ⟨i0, hi, hz0, hz1, hz2⟩ := info_parts info8
  by_cases h0 : k < 1
  · have d0 : decide (k < 1) = true := by simpa using h0
    have HP : Hid (putL n k = []) := Lib.hid (by unfold putL wOk; rw [if_neg (by simp; omega)])
    go_enter Tryz.func39, Tryz.ntmps39
    go_wp2_with fail
    go_ret
    exact ⟨_, rfl, by rw [HP.out]; exact Owns.nil _ _, Below.refl _ _⟩
  · have d0 : decide (k < 1) = false := by simpa using h0
    by_cases h1 : 8 < k
    · have d1 : decide (8 < k) = true := by simpa using h1
      have HP : Hid (putL n k = []) := Lib.hid (by unfold putL wOk; rw [if_neg (by simp; omega)])
      go_enter Tryz.func39, Tryz.ntmps39
      go_wp2_with fail
      go_ret
      exact ⟨_, rfl, by rw [HP.out]; exact Owns.nil _ _, Below.refl _ _⟩
    · have d1 : decide (8 < k) = false := by simpa using h1
      obtain ⟨K, rfl⟩ := Int.eq_ofNat_of_zero_le (show 0 ≤ k by omega)
      have HP : Hid (putL n K = numBytes n K) := Lib.hid (by unfold putL wOk; rw [if_pos (by simp; omega), Int.toNat_natCast])
      have s0 : IntKind.i64.wrap ((K : Int) - 1) = K - 1 := IntWalk.i64_in _ (by omega)
      go_enter Tryz.func39, Tryz.ntmps39
      go_wp2_with (first | (refine wpList_make_full _ rfl _ _ 25 rfl w.heap.size 5 i0 (.int .u8 0) 1 Tryz.underlying25 hi hz0 hz1 .i64 .i64 K K K rfl rfl rfl rfl (by rw [hz2]; omega) (by unfold maxLen; omega) (Nat.le_refl _) ?_; intro w1 hown1 hgrow1) | go_in)
      have hown2 : w1.ownsRow w.heap.size 5 1 (.slice (some ⟨w.heap.size, 0, none⟩) K K) K (cells8 (List.replicate K 0 ++ numBytes n 0)) := by
        rw [numBytes, List.append_nil, cells8, List.map_replicate]
        simpa [toList_madeCells_one, Value.cells] using hown1
      have hb1 : Below w.heap.size w w1 := (Below.refl _ w).grown hgrow1 (Nat.le_refl _) (fun k hk => by cases hk)
      clear hown1 hgrow1
      go_loopw [0, 6] (fun x j wr => ∃ i : Nat, i ≤ K ∧ j = .int .i64 (K - 1 - i) ∧ x = .int .u64 (n / 256 ^ i) ∧ wr.ownsRow w.heap.size 5 1 (.slice (some ⟨w.heap.size, 0, none⟩) K K) K (cells8 (List.replicate (K - i) 0 ++ numBytes n i)) ∧ Below w.heap.size w wr)
        (fun _ j _ => (intOf j + 1).toNat)
      case atStart => exact ⟨0, by omega, by simp, by simp, hown2, hb1⟩
      case round =>
        obtain ⟨i, hi', hj, rfl, hown, hbel⟩ := hrel
        by_cases hlt : i < K
        · obtain ⟨m, rfl⟩ : ∃ m, K = i + 1 + m := ⟨K - i - 1, by omega⟩
          rw [show ((i + 1 + m : Nat) : Int) - 1 - i = m from by omega] at hj
          subst hj
          rw [show i + 1 + m - i = m + 1 from by omega] at hown
          have hc : wr.cell? ⟨w.heap.size, m, none⟩ = some (.int .u8 0) := by
            rw [World.ownsRow.cellAt hown m (by omega), getD_cells (by simp; omega)]
            simp [List.getD, List.getElem?_append]
          have hf := World.ownsRow.frozenAt hown m
          have hq : 0 ≤ n / 256 ^ i := Int.ediv_nonneg hn (Int.le_of_lt (Int.pow_pos (by omega)))
          have hq' : n / 256 ^ i < 18446744073709551616 := Int.lt_of_le_of_lt (Int.ediv_le_self _ hn) hn'
          go_wp2
          go_roundw
          case rel =>
            refine ⟨i + 1, by omega, by go_num, ?_, ?_, hbel.setCell (p := ⟨w.heap.size, m, none⟩) (Nat.le_refl _) _⟩
            · rw [Int.pow_succ, Int.ediv_ediv_of_nonneg (Int.le_of_lt (Int.pow_pos (by omega)))]
            · have h2 := World.ownsRow.stored hown m (.int .u8 (n / 256 ^ i % 256))
              rw [cells8, ← List.map_set, set_zero] at h2
              rw [show i + 1 + m - (i + 1) = m from by omega]
              exact h2.1
          case measure => simp [intOf]
        · obtain rfl : i = K := by omega
          rw [show (i : Int) - 1 - i = -1 from by omega] at hj
          subst hj
          rw [Nat.sub_self, List.replicate_zero, List.nil_append] at hown
          go_wp2
          go_ret
          refine ⟨_, rfl, ?_, hbel⟩
          rw [HP.out]
          unfold Owns
          rw [numBytes_length]
          exact hown
def strI (s : ByteArray) : List Int := s.data.toList.map fun b => (b.toNat : Int)
theorem byteCells_strI (s : ByteArray) : byteCells s = cells8 (strI s) := by unfold byteCells strI cells8; rw [List.map_map]; rfl
theorem strI_length (s : ByteArray) : (strI s).length = s.size := by unfold strI; rw [List.length_map, Array.length_toList]; rfl
theorem setCells_row (g : Nat) (e : TypeId) : ∀ (vs : List Value) (o : Nat) (w : World) (cur : Array Value), w.heap[g]? = some (.cells cur e (0, 0)) → o + vs.length ≤ cur.size →
    ∃ cur', (w.setCells g o vs).heap[g]? = some (.cells cur' e (0, 0)) ∧ cur'.size = cur.size ∧ cur'.toList.take (o + vs.length) = cur.toList.take o ++ vs ∧ w.grownBy (w.setCells g o vs) (some g)
  | [], o, w, cur, h, _ => ⟨cur, h, rfl, by simp, World.grownBy.refl _ _⟩
  | v :: r, o, w, cur, h, hl => by
    rw [List.length_cons] at hl
    have h1 : (w.setCell ⟨g, o, none⟩ v).heap[g]? = some (.cells (cur.setIfInBounds o v) e (0, 0)) := by
      simp [World.setCell, Array.getElem?_modify, h]
    obtain ⟨cur', h2, h3, h4, h5⟩ := setCells_row g e r (o + 1) _ _ h1 (by rw [Array.size_setIfInBounds]; omega)
    refine ⟨cur', h2, by rw [h3, Array.size_setIfInBounds], ?_, grown_trans (grown_set w g o v) h5⟩
    rw [List.length_cons, show o + (r.length + 1) = o + 1 + r.length from by omega, h4, Array.toList_setIfInBounds, List.take_set, List.take_add_one, List.append_cons]
    congr 1
    rw [List.getElem?_eq_getElem (by rw [Array.length_toList]; omega), Option.toList_some, List.set_append_right _ _ (by rw [List.length_take]; omega), List.length_take, show o - min o cur.toList.length = 0 from by (simp; omega)]
    rfl
/-- append of a string to bytes of the call's own. -/
theorem run_append_str (w : World) (B : Nat) (ty : TypeId) (g cap : Nat) (xs : List Int) (s : ByteArray) (hown : Owns w B (.slice (some ⟨g, 0, none⟩) xs.length cap) xs) (hb : (xs ++ strI s).length ≤ 140737488355328) (hB : B ≤ w.heap.size) :
    ∃ v' w', (Builtin.append_ #[25, 9] ty #[.slice (some ⟨g, 0, none⟩) xs.length cap, .string s]).run Tryz.prog w = .ok v' w' ∧ Owns w' B v' (xs ++ strI s) ∧ w.grownBy w' (some g) := by
  obtain ⟨i0, hi, hz0, hz1, hz2⟩ := info_parts info8
  have hown0 := hown
  obtain ⟨hxl, ⟨h0, _⟩ | ⟨g', cap', cur, he, hbg, hg, hnc, hcm, hcs, htake⟩⟩ := hown
  · cases h0
  cases he
  have hl : (xs ++ strI s).length = xs.length + s.size := by rw [List.length_append, strI_length]
  rw [hl] at hb
  have hsrc := Src.ofString (P := Tryz.prog) w Tryz.underlying9 s
  by_cases hroom : xs.length + s.size ≤ cap
  · have hc : ∀ j, j < (byteCells s).length → (w.cell? ⟨g, 0 + xs.length * i0.size + j, none⟩).isSome = true := fun j hj => by
      rw [byteCells_length] at hj
      rw [hz1, Nat.mul_one, Nat.zero_add]
      simp only [World.cell?, hg]
      simp
      omega
    have hf : ∀ j, j < (byteCells s).length → w.frozen? ⟨g, 0 + xs.length * i0.size + j, none⟩ = false := fun j _ => World.ownsRow.frozenAt hown0 _
    have hsrc' : Src Tryz.prog i0.size 9 (.string s) s.size (byteCells s) w := by rw [hz1]; exact hsrc
    have hr := run_append_room_src (P := Tryz.prog) w 25 9 ty 5 i0 Tryz.underlying25 hi g 0 xs.length cap (.string s) s.size (byteCells s) hsrc' hroom hc hf
    rw [hz1, Nat.mul_one, Nat.zero_add] at hr
    obtain ⟨cur', q1, q2, q3, q4⟩ := setCells_row g 5 (byteCells s) xs.length w cur hg (by rw [byteCells_length, hcs]; omega)
    refine ⟨_, _, hr, ⟨by rw [List.length_map, Nat.mul_one], Or.inr ⟨g, cap, cur', by rw [hl], hbg, q1, by rw [hl]; exact hroom, hcm, by rw [q2, hcs], ?_⟩⟩, q4⟩
    rw [hl, Nat.mul_one, ← byteCells_length s, q3]
    rw [Nat.mul_one] at htake
    rw [htake, byteCells_strI, cells8, ← List.map_append]
  · have hold : (Builtin.firstCells i0.size xs.length (.slice (some ⟨g, 0, none⟩) xs.length cap)).run Tryz.prog w.drew = .ok (cells8 xs).toArray w.drew := by
      rw [hz1]
      exact run_firstCells_some w.drew 1 xs.length ⟨g, 0, none⟩ xs.length cap (cells8 xs) (by simp) (fun j u hj => by simpa using World.ownsRow.cells hown0 (g := g) rfl j u hj)
    have hsrc' : Src Tryz.prog i0.size 9 (.string s) s.size (byteCells s) w := by rw [hz1]; exact hsrc
    have hr := run_append_grow_src (P := Tryz.prog) w 25 9 ty 5 i0 (.int .u8 0) Tryz.underlying25 hi hz0 (some ⟨g, 0, none⟩) xs.length cap (cells8 xs) hold (.string s) s.size (byteCells s) hsrc' (by omega) (by omega) (growslice_fits (by omega) (by rw [hz2]; omega))
    have hge := grownCap_ge w (xs.length + s.size) cap 5
    have hcm2 : grownCap w (xs.length + s.size) cap 5 ≤ maxLen := grownCap_le_maxLen w _ _ _ (by unfold maxLen; omega)
    refine ⟨_, _, hr, ⟨by rw [List.length_map, Nat.mul_one], Or.inr ⟨w.heap.size, _, _, by rw [hl], hB, heap_alloc_new w.drew _, by rw [hl]; exact hge, hcm2, ?_, ?_⟩⟩, ⟨rfl, rfl, rfl, by simp, fun k hk _ => Below.heap_alloc w.drew _ k hk⟩⟩
    · simp only [Array.size_append, List.size_toArray, List.length_append, byteCells_length, size_zeroCells, List.length_map]
      rw [show (Value.int .u8 0).cells.size = 1 from rfl]
      omega
    · rw [Array.toList_append, List.toList_toArray, byteCells_strI, cells8, cells8, ← List.map_append, Nat.mul_one]
      exact List.take_left' (by rw [List.length_map])
theorem wpList_append_str {w : World} {ops : Array Oper} {rest : List Oper} {o : Oper} {a : Act} {Q : Exit → Act → World → Prop} (hgd : o.guard = none) (s x : Operand)
    (ho : o.op = .call { callee := .builtin .append, args := #[s, x], argTypes := #[25, 9] }) (B g cap : Nat) (xs : List Int) (st : ByteArray)
    (hs : a.eval s = .slice (some ⟨g, 0, none⟩) xs.length cap) (hx : a.eval x = .string st) (hown : Owns w B (.slice (some ⟨g, 0, none⟩) xs.length cap) xs) (hb : (xs ++ strI st).length ≤ 140737488355328) (hB : B ≤ w.heap.size)
    (h : ∀ v' w', Owns w' B v' (xs ++ strI st) → w.grownBy w' (some g) → wpList Tryz.prog ops Q rest (a.put o.dst v') w') : wpList Tryz.prog ops Q (o :: rest) a w :=
  wpList_plain hgd fun _ hK => by
    obtain ⟨v', w', hr, h2, h3⟩ := run_append_str w B o.type g cap xs st hown hb hB
    unfold Oper.wp execOp
    simp only [ho, resolve, invoke, builtin, Sem.run_bind, Sem.run_pure, Result.andThen_ok, List.map_toArray, List.map_cons, List.map_nil, hs, hx, hr]
    exact hK _ _ (h v' w' h2 h3)
/-- A text as bytes. -/
def textL (s : ByteArray) : List Int := (s.size : Int) :: strI s
theorem putL_one (n : Nat) (h : n ≤ 64) : putL n 1 = [(n : Int)] := by
  have e : putL n 1 = numBytes n 1 := by unfold putL wOk; rw [if_pos (by decide)]; rfl
  rw [e]
  simp only [numBytes, Int.pow_zero, Int.ediv_one]
  rw [Int.emod_eq_of_lt (by omega) (by omega)]
set_option maxHeartbeats 1000000 in
theorem textPut_any (b : Value) (xs : List Int) (s : ByteArray) (w : World) (h : Sees w b xs) (hl : xs.length ≤ 1000) (hs : s.size ≤ 64) :
    Calls Tryz.prog 67 #[b, .string s] w fun e w' => ∃ v, e = .returned (.tuple #[v, .int .i64 0]) ∧ Owns w' w.heap.size v (xs ++ textL s) ∧ Below w.heap.size w w' := by
  have HP := Lib.hid (put_any b xs s.size 1 w h (by omega))
  rw [putL_one s.size hs] at HP
  obtain ⟨L, hL⟩ : ∃ L, L = xs ++ [(s.size : Int)] := ⟨_, rfl⟩
  rw [← hL] at HP
  have hLl : L.length ≤ 1001 := by rw [hL]; simp; omega
  have hL0 : L ≠ [] := by rw [hL]; simp
  have HL : Hid (L ++ strI s = xs ++ textL s) := Lib.hid (by rw [hL, List.append_assoc]; rfl)
  clear hL
  have d0 : decide (64 < (s.size : Int)) = false := by simp; omega
  have s0 : IntKind.u64.wrap (s.size : Int) = s.size := IntWalk.u64_in _ (by omega)
  go_enter Tryz.func67, Tryz.ntmps67
  go_wp2_with fail
  refine HP.out.mono ?_; rintro e w1 ⟨v1, rfl, ho1, hb1⟩
  obtain ⟨g, c, rfl, hB, -, -, -, -⟩ := ho1.at hL0
  go_wp2_with (first | (at_builtin; refine wpList_append_str rfl _ _ rfl w.heap.size g c L s rfl rfl ho1 (by rw [List.length_append, strI_length]; omega) hb1.size ?_; intro v2 w2 ho3 hg3) | go_in)
  rw [HL.out] at ho3
  refine bodyPost_ret (v := .tuple #[v2, .int .i64 0]) ?_ rfl ⟨v2, rfl, ho3, hb1.grown hg3 hb1.size (fun k hk => by cases hk; exact hB)⟩
  simp [results, Tryz.results67, go_sem]
set_option maxHeartbeats 1000000 in
theorem refText_any (s : ByteArray) (w : World) (hs : s.size ≤ 64) :
    Calls Tryz.prog 40 #[.string s] w fun e w' => ∃ v, e = .returned v ∧ Owns w' w.heap.size v (textL s) ∧ Below w.heap.size w w' := by
  have s0 : IntKind.u8.wrap (s.size : Int) = s.size := IntWalk.u8_in _ (by omega)
  have ho : Owns (w.alloc (.cells #[.int .u8 s.size] 5)) w.heap.size (.slice (some ⟨w.heap.size, 0, none⟩) [(s.size : Int)].length 1) [(s.size : Int)] :=
    World.ownsRow_lit w #[.int .u8 s.size] 1 (Nat.le_refl _) (by unfold maxLen; omega) rfl
  have HO := Lib.hid ho
  clear ho
  go_enter Tryz.func40, Tryz.ntmps40
  go_wp2_with (first | (at_builtin; refine wpList_append_str rfl _ _ rfl w.heap.size w.heap.size 1 [(s.size : Int)] s rfl rfl HO.out (by rw [List.length_append, strI_length]; simp; omega) (by simp) ?_; intro v2 w2 ho3 hg3) | go_in)
  go_ret
  exact ⟨_, rfl, ho3, (belNew w _).grown hg3 (by simp) (fun k hk => by cases hk; exact Nat.le_refl _)⟩
end Go.Proofs.YtgodmnpcedfdcaaGreat
