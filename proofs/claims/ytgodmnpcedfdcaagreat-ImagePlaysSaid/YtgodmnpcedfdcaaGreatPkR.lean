/- Package pack: a reader, alone in its block, and what its calls come to. -/
import Derived.Test.YtgodmnpcedfdcaaGreatPk
import Derived.OneCell
import Derived.Laws.BitsAllLaws
import Derived.Deep.QuietTactic
namespace Go.Proofs.YtgodmnpcedfdcaaGreat
open Go.RowKit
def okB (l : List Int) : Prop := ∀ x ∈ l, 0 ≤ x ∧ x ≤ 255
theorem okB.take {l : List Int} (h : okB l) (n : Nat) : okB (l.take n) := fun x hx => h x (List.mem_of_mem_take hx)
theorem okB.drop {l : List Int} (h : okB l) (n : Nat) : okB (l.drop n) := fun x hx => h x (List.mem_of_mem_drop hx)
/-- What a read of n bytes tells, and leaves; none: bad. -/
def rdB (st : Option (List Int)) (n : Int) : List Int × Option (List Int) := match st with
  | some l => if 0 ≤ n ∧ n ≤ l.length then (l.take n.toNat, some (l.drop n.toNat)) else ([], none)
  | none => ([], none)
/-- Bytes' number, the highest one first. -/
def numBE (l : List Int) : Int := l.foldl (fun n c => n * 256 + c) 0
def rdU (st : Option (List Int)) (k : Int) : Int × Option (List Int) := if wOk k = true then (numBE (rdB st k).1, (rdB st k).2) else (0, none)
def rdT (st : Option (List Int)) : List Int × Option (List Int) := if (rdU st 1).1 ≤ 64 then rdB (rdU st 1).2 (rdU st 1).1 else ([], none)
/-- A reader in block g; its bytes lie below block B. -/
def RdP (g B : Nat) (st : Option (List Int)) (w : World) : Prop :=
  ∃ v, w.heap[g]? = some (.cells #[v, .bool st.isNone] 108 (0, 0)) ∧ Sees w v (st.getD []) ∧ (∀ d, v.ownBlock = some d → d < B) ∧ okB (st.getD []) ∧ (st.getD []).length ≤ 100000000000000 ∧ B ≤ g
theorem sees_heap {w w' : World} {v : Value} {xs : List Int} (h : Sees w v xs) (hb : ∀ d, v.ownBlock = some d → d < w.heap.size → w'.heap[d]? = w.heap[d]?) : Sees w' v xs := by
  obtain ⟨ao, c, rfl, hl, hn, hc⟩ := h
  exact ⟨ao, c, rfl, hl, hn, fun a ha i hi => by
    have h1 := hc a ha i hi
    have h2 := cell_lt8 h1
    rw [World.cell?_of_block (w := w) (w' := w') (by subst ha; rw [add_block]; exact hb _ rfl (by rwa [add_block] at h2))]
    exact h1⟩
theorem heap_lt {w : World} {g : Nat} {o : Obj} (h : w.heap[g]? = some o) : g < w.heap.size := (Array.getElem?_eq_some_iff.1 h).1
theorem RdP.grown {g B h : Nat} {st : Option (List Int)} {w w' : World} (hr : RdP g B st w) (hg : w.grownBy w' (some h)) (h1 : h ≠ g) (h2 : B ≤ h) : RdP g B st w' := by
  obtain ⟨v, hb, hs, hd, ho, hl, hB⟩ := hr
  refine ⟨v, ?_, sees_heap hs (fun d hd' hlt => hg.block d hlt (fun e => ?_)), hd, ho, hl, hB⟩
  · rw [hg.block g (heap_lt hb) (fun e => h1 (Option.some.inj e).symm)]; exact hb
  · have := hd d hd'; cases e; omega
theorem RdP.below {g B : Nat} {st : Option (List Int)} {w w' : World} (hr : RdP g B st w) (hb : Below w.heap.size w w') : RdP g B st w' := by
  obtain ⟨v, h, hs, hd, ho, hl, hB⟩ := hr
  exact ⟨v, (hb.block g (heap_lt h)).trans h, hs.keep hb, hd, ho, hl, hB⟩
theorem cell0 {w : World} {g : Nat} {x y : Value} {t : TypeId} (h : w.heap[g]? = some (.cells #[x, y] t (0, 0))) : w.cell? ⟨g, 0, none⟩ = some x := by simp [World.cell?, h]
theorem cell1 {w : World} {g : Nat} {x y : Value} {t : TypeId} (h : w.heap[g]? = some (.cells #[x, y] t (0, 0))) : w.cell? ⟨g, 1, none⟩ = some y := by simp [World.cell?, h]
theorem froz {w : World} {g : Nat} {x y : Value} {t : TypeId} (h : w.heap[g]? = some (.cells #[x, y] t (0, 0))) (i : Nat) : w.frozen? ⟨g, i, none⟩ = false := by simp [World.frozen?, h]
set_option maxRecDepth 100000 in
set_option maxHeartbeats 400000 in
theorem left_any (g B : Nat) (st : Option (List Int)) (w : World) (h : RdP g B st w) :
    Calls Tryz.prog 74 #[.pointer (some ⟨g, 0, none⟩)] w fun e w' => e = .returned (.int .i64 (st.getD []).length) ∧ w = w' := by
  obtain ⟨v, hb, ⟨ao, c, rfl, _⟩, _⟩ := h
  have c0 := cell0 hb
  have q : ∀ (w : World) (a : Option Addr), (binOp .eql 74 (.pointer a) (.pointer none)).run Tryz.prog w = .ok (.bool a.isNone) w := fun w a => by cases a <;> rfl
  go_enter Tryz.func74, Tryz.ntmps74
  go_wp2
  go_ret
  exact ⟨rfl, rfl⟩
set_option maxHeartbeats 400000 in
theorem bad_any (g B : Nat) (st : Option (List Int)) (w : World) (h : RdP g B st w) :
    Calls Tryz.prog 73 #[.pointer (some ⟨g, 0, none⟩)] w fun e w' => e = .returned (.bool st.isNone) ∧ w = w' := by
  obtain ⟨v, hb, _⟩ := h
  have c1 := cell1 hb
  go_enter Tryz.func73, Tryz.ntmps73
  go_wp2
  go_ret
  exact ⟨rfl, rfl⟩
theorem two_set {w : World} {g : Nat} {x y : Value} {t : TypeId} (h : w.heap[g]? = some (.cells #[x, y] t (0, 0))) (a b : Value) :
    ((w.setCell ⟨g, 0, none⟩ a).setCell ⟨g, 1, none⟩ b).heap[g]? = some (.cells #[a, b] t (0, 0)) := by
  have hl := heap_lt h
  have hg : w.heap[g] = .cells #[x, y] t (0, 0) := by simpa [Array.getElem?_eq_getElem hl] using h
  simp [World.setCell, Array.getElem?_modify, h]
theorem one_set {w : World} {g : Nat} {x y : Value} {t : TypeId} (h : w.heap[g]? = some (.cells #[x, y] t (0, 0))) (a : Value) :
    (w.setCell ⟨g, 0, none⟩ a).heap[g]? = some (.cells #[a, y] t (0, 0)) := by
  have hl := heap_lt h
  simp [World.setCell, Array.getElem?_modify, h]
theorem grown_set (w : World) (g i : Nat) (a : Value) : w.grownBy (w.setCell ⟨g, i, none⟩ a) (some g) :=
  ⟨rfl, rfl, rfl, by simp [World.setCell], fun k _ hne => Below.heap_setCell _ _ _ _ (fun e => hne (by rw [e]))⟩
theorem grown_trans {a b c : World} {r : Option Nat} (h : a.grownBy b r) (k : b.grownBy c r) : a.grownBy c r :=
  ⟨k.os.trans h.os, k.tape.trans h.tape, k.output.trans h.output, Nat.le_trans h.size k.size, fun i hi hne => (k.block i (Nat.lt_of_lt_of_le hi h.size) hne).trans (h.block i hi hne)⟩
set_option maxHeartbeats 400000 in
theorem spoil_any (g B : Nat) (st : Option (List Int)) (w : World) (h : RdP g B st w) :
    Calls Tryz.prog 71 #[.pointer (some ⟨g, 0, none⟩)] w fun e w' => e = .returned (.tuple #[]) ∧ RdP g B none w' ∧ w.grownBy w' (some g) := by
  obtain ⟨v, hb, _, _, _, _, hB⟩ := h
  have c0 := cell0 hb
  have c1 := cell1 hb
  have f0 := froz hb 0
  have f1 := froz hb 1
  have K : Hid (RdP g B none ((w.setCell ⟨g, 0, none⟩ (.slice none 0 0)).setCell ⟨g, 1, none⟩ (.bool true)) ∧ w.grownBy ((w.setCell ⟨g, 0, none⟩ (.slice none 0 0)).setCell ⟨g, 1, none⟩ (.bool true)) (some g)) :=
    Lib.hid ⟨⟨_, two_set hb _ _, Sees.nil _, (fun d h => by cases h), (fun x h => by cases h), Nat.zero_le _, hB⟩, grown_trans (grown_set w g 0 _) (grown_set _ g 1 _)⟩
  clear hb
  go_enter Tryz.func71, Tryz.ntmps71
  go_wp2
  go_end0
  exact ⟨rfl, K.out⟩
theorem rdB_no {st : Option (List Int)} {n : Int} (h : ¬ (st.isNone = false ∧ 0 ≤ n ∧ n ≤ (st.getD []).length)) : rdB st n = ([], none) := by
  cases st with
  | none => rfl
  | some l => simp only [rdB]; rw [if_neg (fun hh => h ⟨rfl, hh.1, hh.2⟩)]
theorem rdB_yes {l : List Int} {n : Nat} (h : n ≤ l.length) : rdB (some l) n = (l.take n, some (l.drop n)) := by
  simp only [rdB]; rw [if_pos ⟨by omega, by omega⟩, Int.toNat_natCast]
set_option maxHeartbeats 1000000 in
theorem bytes_no (g B : Nat) (st : Option (List Int)) (n : Int) (w : World) (h : RdP g B st w) (hno : ¬ (st.isNone = false ∧ 0 ≤ n ∧ n ≤ (st.getD []).length)) :
    Calls Tryz.prog 72 #[.pointer (some ⟨g, 0, none⟩), .int .i64 n] w fun e w' => e = .returned (.slice none 0 0) ∧ RdP g B none w' ∧ w.grownBy w' (some g) := by
  have H1 := Lib.hid (bad_any g B st _ h)
  have H2 := Lib.hid (left_any g B st _ h)
  have H3 := Lib.hid (spoil_any g B st _ h)
  clear h
  by_cases h0 : n < 0
  · have d0 : decide (n < 0) = true := by simpa using h0
    clear hno
    go_enter Tryz.func72, Tryz.ntmps72
    go_wp2_with fail
    refine H3.out.mono ?_; rintro e w1 ⟨rfl, h1⟩
    go_wp2_with fail
    go_ret
    exact ⟨rfl, h1⟩
  · have d0 : decide (n < 0) = false := by simpa using h0
    by_cases h1 : ((st.getD []).length : Int) < n
    · have d1 : decide (((st.getD []).length : Int) < n) = true := by simpa using h1
      clear hno
      go_enter Tryz.func72, Tryz.ntmps72
      go_wp2_with fail
      refine H2.out.mono ?_; rintro e w1 ⟨rfl, rfl⟩
      go_wp2_with fail
      refine H3.out.mono ?_; rintro e w1 ⟨rfl, h1⟩
      go_wp2_with fail
      go_ret
      exact ⟨rfl, h1⟩
    · have d1 : decide (((st.getD []).length : Int) < n) = false := by simpa using h1
      have hb : st.isNone = true := by
        cases hs : st.isNone with
        | true => rfl
        | false => exact absurd ⟨hs, by omega, by omega⟩ hno
      rw [hb] at H1
      clear hno
      go_enter Tryz.func72, Tryz.ntmps72
      go_wp2_with fail
      refine H2.out.mono ?_; rintro e w1 ⟨rfl, rfl⟩
      go_wp2_with fail
      refine H1.out.mono ?_; rintro e w1 ⟨rfl, rfl⟩
      go_wp2_with fail
      refine H3.out.mono ?_; rintro e w1 ⟨rfl, h1⟩
      go_wp2_with fail
      go_ret
      exact ⟨rfl, h1⟩
theorem bytes_end {g B : Nat} {l : List Int} {n : Nat} {w : World} {ao : Option Addr} {c : Nat} {t0 : TypeId} (ht : t0 = 108) (hb : w.heap[g]? = some (.cells #[.slice ao l.length c, .bool false] t0 (0, 0))) (hc : ∀ a, ao = some a → ∀ i, i < l.length → w.cell? (a.add i) = some (.int .u8 (l.getD i 0)))
    (hlc : l.length ≤ c) (hnil : ao = none → l = []) (hd : ∀ d, (Value.slice ao l.length c).ownBlock = some d → d < B) (ho : okB l) (hl : l.length ≤ 100000000000000) (hB : B ≤ g) (hn : n ≤ l.length)
    (ao' : Option Addr) (h' : ao' = ao.map (fun x => x.add n) ∨ c = n ∧ ao' = ao) (v : Value) (hv : v = .slice ao' (l.length - n) (c - n)) :
    Sees (w.setCell ⟨g, 0, none⟩ v) (.slice ao n n) (l.take n) ∧ (∀ d, (Value.slice ao n n).ownBlock = some d → d < B) ∧ RdP g B (some (l.drop n)) (w.setCell ⟨g, 0, none⟩ v) ∧ w.grownBy (w.setCell ⟨g, 0, none⟩ v) (some g) := by
  subst hv ht
  have hcc : ∀ a, ao = some a → ∀ i, i < l.length → (w.setCell ⟨g, 0, none⟩ (.slice ao' (l.length - n) (c - n))).cell? (a.add i) = some (.int .u8 (l.getD i 0)) := fun a ha i hi => by
    rw [World.cell?_of_block (w := w) (Below.heap_setCell _ _ _ _ (by
      have h1 := hd a.block (by subst ha; rfl)
      rw [add_block]; simp only []; omega))]
    exact hc a ha i hi
  refine ⟨⟨ao, n, by rw [List.length_take, Nat.min_eq_left hn], by rw [List.length_take]; omega, fun h => by rw [hnil h]; exact List.take_nil, fun a ha i hi => ?_⟩, fun d h => hd d (by cases ao with | none => cases h | some a => exact h), ?_, grown_set _ _ _ _⟩
  · rw [List.length_take] at hi
    rw [hcc a ha i (by omega)]
    simp only [List.getD, List.getElem?_take, if_pos (show i < n by omega)]
  · refine ⟨_, one_set hb _, ⟨ao', c - n, by rw [Option.getD_some, List.length_drop], by rw [Option.getD_some, List.length_drop]; omega, fun h => ?_, fun a ha i hi => ?_⟩, fun d h => hd d ?_, fun x hx => ho x (List.mem_of_mem_drop hx), by rw [Option.getD_some, List.length_drop]; omega, hB⟩
    · rcases h' with h' | ⟨h1, h'⟩
      · rw [h] at h'
        cases ao with
        | none => rw [hnil rfl]; simp
        | some a => cases h'
      · rw [Option.getD_some]; exact List.drop_eq_nil_of_le (by omega)
    · rw [Option.getD_some, List.length_drop] at hi
      rcases h' with h' | ⟨h1, h'⟩
      · cases ao with
        | none => rw [h'] at ha; cases ha
        | some b =>
          rw [h'] at ha
          cases ha
          rw [Addr.add_add, hcc b rfl (n + i) (by omega)]
          simp [List.getD, List.getElem?_drop]
      · omega
    · rcases h' with h' | ⟨h1, h'⟩
      · cases ao with
        | none => rw [h'] at h; cases h
        | some b =>
          rw [h'] at h
          simp only [Option.map_some, Value.ownBlock, add_block] at h ⊢
          exact h
      · rw [h'] at h
        cases ao with
        | none => cases h
        | some b => exact h
set_option maxHeartbeats 1000000 in
theorem bytes_yes (g B : Nat) (l : List Int) (n : Nat) (w : World) (h : RdP g B (some l) w) (hn : n ≤ l.length) :
    Calls Tryz.prog 72 #[.pointer (some ⟨g, 0, none⟩), .int .i64 n] w fun e w' => ∃ v, e = .returned v ∧ Sees w' v (l.take n) ∧ (∀ d, v.ownBlock = some d → d < B) ∧ RdP g B (some (l.drop n)) w' ∧ w.grownBy w' (some g) := by
  have H1 := Lib.hid (bad_any g B (some l) _ h)
  have H2 := Lib.hid (left_any g B (some l) _ h)
  obtain ⟨v, hb, ⟨ao, c, rfl, hlc, hnil, hc⟩, hd, ho, hl, hB⟩ := h
  simp only [Option.getD_some] at hlc hnil hc hd ho hl hb
  have c0 := cell0 hb
  have f0 := froz hb 0
  have d0 : decide ((n : Int) < 0) = false := by simp
  have d1 : decide ((l.length : Int) < (n : Int)) = false := by simp; omega
  have A1 : Aside (w.heap[g]? = some (.cells #[.slice ao l.length c, .bool (some l).isNone] 108 (0, 0))) := hb
  have A2 : Aside (∀ a, ao = some a → ∀ i, i < l.length → w.cell? (a.add i) = some (.int .u8 (l.getD i 0))) := hc
  clear hb hc
  go_enter Tryz.func72, Tryz.ntmps72
  go_wp2_with fail
  refine H2.out.mono ?_; rintro e w1 ⟨rfl, rfl⟩
  go_wp2_with fail
  refine H1.out.mono ?_; rintro e w1 ⟨rfl, rfl⟩
  go_wp2_with fail
  all_goals go_ret
  all_goals refine ⟨_, rfl, ?_⟩
  · exact bytes_end rfl A1 A2 hlc hnil hd ho hl hB hn _ (Or.inr ⟨by assumption, rfl⟩) _ (by have hh : c = n := (by assumption); rw [hh, Nat.sub_self])
  · exact bytes_end rfl A1 A2 hlc hnil hd ho hl hB hn _ (Or.inl rfl) _ rfl
theorem bytes_any (g B : Nat) (st : Option (List Int)) (n : Int) (w : World) (h : RdP g B st w) :
    Calls Tryz.prog 72 #[.pointer (some ⟨g, 0, none⟩), .int .i64 n] w fun e w' => ∃ v, e = .returned v ∧ Sees w' v (rdB st n).1 ∧ (∀ d, v.ownBlock = some d → d < B) ∧ RdP g B (rdB st n).2 w' ∧ w.grownBy w' (some g) := by
  by_cases hy : st.isNone = false ∧ 0 ≤ n ∧ n ≤ (st.getD []).length
  · obtain ⟨h1, h2, h3⟩ := hy
    cases st with
    | none => cases h1
    | some l =>
      obtain ⟨k, rfl⟩ := Int.eq_ofNat_of_zero_le h2
      have hk : k ≤ l.length := by rw [Option.getD_some] at h3; omega
      rw [rdB_yes hk]
      exact bytes_yes g B l k w h hk
  · rw [rdB_no hy]
    exact (bytes_no g B st n w h hy).mono fun e w' ⟨he, hr, hg⟩ => ⟨_, he, Sees.nil _, (fun d hd => by cases hd), hr, hg⟩
theorem rdB_len (st : Option (List Int)) (n : Int) : ((rdB st n).1.length : Int) ≤ max n 0 := by
  cases st with
  | none => simp [rdB]; omega
  | some l =>
    simp only [rdB]
    split
    · simp only [List.length_take]; omega
    · simp; omega
theorem rdB_ok {st : Option (List Int)} (h : okB (st.getD [])) (n : Int) : okB (rdB st n).1 := by
  cases st with
  | none => intro x hx; cases hx
  | some l =>
    simp only [rdB]
    split
    · exact h.take _
    · intro x hx; cases hx
theorem numBE_snoc (l : List Int) (c : Int) : numBE (l ++ [c]) = numBE l * 256 + c := by simp [numBE]
theorem numBE_bdA : ∀ (l : List Int) (a : Int), okB l → 0 ≤ a → 0 ≤ l.foldl (fun n c => n * 256 + c) a ∧ l.foldl (fun n c => n * 256 + c) a < (a + 1) * 256 ^ l.length
  | [], a, _, h => by simp; omega
  | c :: l, a, ho, h => by
    have h2 := ho c (by simp)
    have ih := numBE_bdA l (a * 256 + c) (fun x hx => ho x (by simp [hx])) (by omega)
    rw [List.foldl_cons, List.length_cons, Int.pow_succ]
    refine ⟨ih.1, Int.lt_of_lt_of_le ih.2 ?_⟩
    rw [Int.mul_comm (256 ^ l.length), ← Int.mul_assoc]
    exact Int.mul_le_mul_of_nonneg_right (by omega) (Int.le_of_lt (Int.pow_pos (by omega)))
theorem numBE_bd (l : List Int) (h : okB l) : 0 ≤ numBE l ∧ numBE l < 256 ^ l.length := by
  have := numBE_bdA l 0 h (by omega)
  rwa [Int.zero_add, Int.one_mul] at this
theorem take_snocI (l : List Int) (i : Nat) (h : i < l.length) : l.take (i + 1) = l.take i ++ [l.getD i 0] := by
  rw [List.take_add_one, List.getElem?_eq_getElem h]
  simp [List.getD, List.getElem?_eq_getElem h]
theorem getD_ok {l : List Int} (h : okB l) {i : Nat} (hi : i < l.length) : 0 ≤ l.getD i 0 ∧ l.getD i 0 ≤ 255 := by
  simp only [List.getD, List.getElem?_eq_getElem hi, Option.getD_some]
  exact h _ (List.getElem_mem hi)
theorem getD_get {l : List Int} {i : Nat} (h : i < l.length) : l.getD i 0 = l[i] := by simp [List.getD, List.getElem?_eq_getElem h]
theorem or_byte (a c : Int) (ha : 0 ≤ a) (ha' : a * 256 < 18446744073709551616) (hc : 0 ≤ c) (hc' : c ≤ 255) : bits .or .u64 (a * 256) (IntKind.u64.wrap c) = a * 256 + c := by
  obtain ⟨A, rfl⟩ := Int.eq_ofNat_of_zero_le ha
  obtain ⟨C, rfl⟩ := Int.eq_ofNat_of_zero_le hc
  rw [IntWalk.u64_in _ ⟨by omega, by omega⟩, u64_or _ _ (by omega) (by omega) (by omega) (by omega), Int.toNat_natCast, show ((A : Int) * 256).toNat = A <<< 8 from by rw [Nat.shiftLeft_eq]; omega,
    ← Nat.shiftLeft_add_eq_or_of_lt (show C < 2 ^ 8 by omega), Nat.shiftLeft_eq]
  omega
theorem pow256 (i : Nat) (h : i ≤ 7) : (256 : Int) ^ i ≤ 72057594037927936 := by
  have h1 : (256 : Nat) ^ i ≤ 256 ^ 7 := Nat.pow_le_pow_right (by omega) h
  have h2 : ((256 ^ i : Nat) : Int) ≤ ((256 ^ 7 : Nat) : Int) := Int.ofNat_le.2 h1
  simpa using h2
set_option maxHeartbeats 1000000 in
theorem u_any (g B : Nat) (st : Option (List Int)) (k : Int) (w : World) (h : RdP g B st w) :
    Calls Tryz.prog 34 #[.pointer (some ⟨g, 0, none⟩), .int .i64 k] w fun e w' => e = .returned (.int .u64 (rdU st k).1) ∧ RdP g B (rdU st k).2 w' ∧ w.grownBy w' (some g) := by
  by_cases hk : wOk k = true
  · have HM : Hid (∀ w, Calls Tryz.prog 70 #[.int .i64 k] w fun e w' => e = .returned (.bool true) ∧ w = w') := Lib.hid (fun w => by rw [← hk]; exact mayWidth_any k w)
    have HP : Hid (rdU st k = (numBE (rdB st k).1, (rdB st k).2)) := Lib.hid (by unfold rdU; rw [if_pos hk])
    have HB := Lib.hid (bytes_any g B st k w h)
    obtain ⟨k0, k1⟩ : 1 ≤ k ∧ k ≤ 8 := by unfold wOk at hk; exact of_decide_eq_true hk
    have hlen := rdB_len st k
    have hok : okB (rdB st k).1 := by obtain ⟨_, _, _, _, ho, _⟩ := h; exact rdB_ok ho k
    obtain ⟨t, ht⟩ : ∃ t, (rdB st k).1 = t := ⟨_, rfl⟩
    rw [ht] at hlen hok HP HB
    have HO := Lib.hid hok
    clear hk h hok ht
    go_enter Tryz.func34, Tryz.ntmps34
    go_wp2_with fail
    refine (HM.out _).mono ?_; rintro e w1 ⟨rfl, rfl⟩
    go_wp2_with fail
    refine HB.out.mono ?_; rintro e w1 ⟨v, rfl, ⟨ao, c, rfl, hlc, hnil, hc⟩, -, hR⟩
    have A1 : Aside (∀ a, ao = some a → ∀ i, i < t.length → w1.cell? (a.add i) = some (.int .u8 (t.getD i 0))) := hc
    clear hc
    go_wp2_with fail
    go_loop [5, 7, 17] (fun n _ j => ∃ i : Nat, i ≤ t.length ∧ j = .int .i64 i ∧ n = .int .u64 (numBE (t.take i))) (fun _ _ j => t.length - (intOf j).toNat)
    case atStart => exact ⟨0, by omega, rfl, rfl⟩
    case round =>
      obtain ⟨i, hi, rfl, rfl⟩ := hrel
      by_cases hlt : i < t.length
      · obtain ⟨a, rfl⟩ : ∃ a, ao = some a := by
          cases ao with
          | none => rw [hnil rfl] at hlt; simp at hlt
          | some a => exact ⟨a, rfl⟩
        have hcell := A1 a rfl i hlt
        obtain ⟨b0, b1⟩ := getD_ok HO.out hlt
        obtain ⟨n0, n1⟩ := numBE_bd (t.take i) (HO.out.take i)
        have n2 := pow256 (t.take i).length (by rw [List.length_take]; omega)
        go_wp2
        go_round
        case rel =>
          refine ⟨i + 1, by omega, by go_num, ?_⟩
          rw [take_snocI t i hlt, numBE_snoc]
          rw [getD_get hlt] at b0 b1 ⊢
          exact congrArg (Value.int .u64) (or_byte _ _ n0 (by rw [List.length_take, Nat.min_eq_left hi] at n1 n2; omega) b0 b1)
        case measure => simp [intOf]; omega
      · have e : t.take i = t := List.take_of_length_le (by omega)
        have HV : Hid ((rdU st k).1 = numBE (t.take i) ∧ (rdU st k).2 = (rdB st k).2) := Lib.hid (by rw [HP.out, e]; exact ⟨rfl, rfl⟩)
        clear e
        go_wp2
        go_ret
        rw [HV.out.1, HV.out.2]
        exact ⟨rfl, hR⟩
  · have hkf : wOk k = false := by simpa using hk
    have HM : Hid (∀ w, Calls Tryz.prog 70 #[.int .i64 k] w fun e w' => e = .returned (.bool false) ∧ w = w') := Lib.hid (fun w => by rw [← hkf]; exact mayWidth_any k w)
    have HP : Hid (rdU st k = (0, none)) := Lib.hid (by unfold rdU; rw [if_neg hk])
    have HS := Lib.hid (spoil_any g B st w h)
    clear hk hkf h
    go_enter Tryz.func34, Tryz.ntmps34
    go_wp2_with fail
    refine (HM.out _).mono ?_; rintro e w1 ⟨rfl, rfl⟩
    go_wp2_with fail
    refine HS.out.mono ?_; rintro e w1 ⟨rfl, hR⟩
    go_wp2_with fail
    go_ret
    rw [HP.out]
    exact ⟨rfl, hR⟩
theorem conv_sees {w : World} {v : Value} {xs : List Int} (h : Sees w v xs) : (convert 25 9 v).run Tryz.prog w = .ok (.string (strOfNums xs)) w := by
  obtain ⟨ao, c, rfl, hlc, hnil, hc⟩ := h
  cases ao with
  | none =>
    obtain rfl := hnil rfl
    exact run_convert_bytes_nil w 25 5 Tryz.underlying25 Tryz.underlying5 _ _ 9 Tryz.underlying9
  | some a =>
    have hl : (loadCells a xs.length).run Tryz.prog w = .ok (xs.map (Value.int .u8)).toArray w := by
      have := run_loadCells_list (P := Tryz.prog) w a (xs.map (Value.int .u8)) (fun j v hj => by
        have hjl : j < xs.length := by
          rcases Nat.lt_or_ge j xs.length with h | h
          · exact h
          · simp [List.getElem?_eq_none (show (xs.map (Value.int .u8)).length ≤ j by simpa using h)] at hj
        rw [hc a rfl j hjl]
        simp [List.getElem?_eq_getElem hjl] at hj
        subst hj
        simp [List.getD, List.getElem?_eq_getElem hjl])
      simpa using this
    rw [run_convert_bytes_string w _ _ _ _ _ _ Tryz.underlying25 Tryz.underlying5 Tryz.underlying9, run_bytesToString w _ _ _ xs hl, foldl_push_bytes]
    simp [strOfNums, ByteArray.empty, ByteArray.emptyWithCapacity]
    rfl
set_option maxHeartbeats 1000000 in
theorem new_any (b : Value) (xs : List Int) (w : World) (h : Sees w b xs) (hok : okB xs) (hl : xs.length ≤ 100000000000000) :
    Calls Tryz.prog 33 #[b] w fun e w' => ∃ g, e = .returned (.pointer (some ⟨g, 0, none⟩)) ∧ RdP g g (some xs) w' ∧ w.heap.size ≤ g ∧ Below w.heap.size w w' := by
  have HC := Lib.hid (clone_any b xs w h (by omega))
  go_enter Tryz.func33, Tryz.ntmps33
  go_wp2_with fail
  refine HC.out.mono ?_; rintro e w1 ⟨v1, rfl, ho1, hb1⟩
  obtain ⟨ao1, c1, rfl, _⟩ := ho1.sees
  go_wp2_with fail
  go_ret
  refine ⟨w1.heap.size, rfl, ⟨.slice ao1 xs.length c1, ?_, ?_, ?_, hok, hl, Nat.le_refl _⟩, hb1.size, belAlloc hb1 _⟩
  · show (w1.heap.push _)[w1.heap.size]? = _
    simp
  · exact ho1.sees.keep (belNew _ _)
  · exact fun d hd => (ho1.lt d hd).2
theorem rdU_ok {g B : Nat} {st : Option (List Int)} {w : World} (h : RdP g B st w) (k : Int) : 0 ≤ (rdU st k).1 ∧ (rdU st k).1 < 256 ^ k.toNat := by
  obtain ⟨_, _, _, _, ho, _⟩ := h
  unfold rdU
  split
  · have h1 := numBE_bd _ (rdB_ok ho k)
    have h2 := rdB_len st k
    refine ⟨h1.1, Int.lt_of_lt_of_le h1.2 ?_⟩
    have h3 : (256 : Nat) ^ (rdB st k).1.length ≤ 256 ^ k.toNat := Nat.pow_le_pow_right (by omega) (by omega)
    have h4 : ((256 ^ (rdB st k).1.length : Nat) : Int) ≤ ((256 ^ k.toNat : Nat) : Int) := Int.ofNat_le.2 h3
    simpa using h4
  · exact ⟨Int.le_refl _, Int.pow_pos (by omega)⟩
theorem Owns.at {w : World} {B : Nat} {v : Value} {xs : List Int} (h : Owns w B v xs) (hx : xs ≠ []) :
    ∃ g cap, v = .slice (some ⟨g, 0, none⟩) xs.length cap ∧ B ≤ g ∧ g < w.heap.size ∧ xs.length ≤ cap ∧ (∀ i, i < xs.length → w.cell? ⟨g, i, none⟩ = some (.int .u8 (xs.getD i 0))) ∧ ∀ i, w.frozen? ⟨g, i, none⟩ = false := by
  have h0 := h
  obtain ⟨_, ⟨rfl, hn⟩ | ⟨g, cap, cur, rfl, hB, hb, hnc, _, _, _⟩⟩ := h
  · exact absurd (List.eq_nil_of_length_eq_zero hn) hx
  · refine ⟨g, cap, rfl, hB, heap_lt hb, hnc, fun i hi => ?_, fun i => World.ownsRow.frozenAt h0 i⟩
    rw [World.ownsRow.cellAt h0 i (by omega), getD_cells hi]
theorem Owns.le {w : World} {B B' : Nat} {v : Value} {xs : List Int} (h : Owns w B v xs) (hb : B' ≤ B) : Owns w B' v xs := ⟨h.1, h.2.imp id fun ⟨a, b, c, d, e, f⟩ => ⟨a, b, c, d, Nat.le_trans hb e, f⟩⟩
theorem Owns.keep {w w' : World} {B : Nat} {v : Value} {xs : List Int} (h : Owns w B v xs) (hb : Below w.heap.size w w') : Owns w' B v xs :=
  ⟨h.1, h.2.imp id fun ⟨g, cap, cur, e, hB, hg, r⟩ => ⟨g, cap, cur, e, hB, (hb.block g (heap_lt hg)).trans hg, r⟩⟩
end Go.Proofs.YtgodmnpcedfdcaaGreat
