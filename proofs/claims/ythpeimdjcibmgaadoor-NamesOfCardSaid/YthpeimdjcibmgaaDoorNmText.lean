/- Package names: a net in a key, the keys. -/
import Derived.Test.YthpeimdjcibmgaaDoorNmRight
namespace Go.Proofs.YthpeimdjcibmgaaDoor
open Go.RowKit Go.Maps
/-- The first of one sign by another one. -/
def repl (a b : UInt8) : List UInt8 → List UInt8
  | [] => []
  | c :: r => if c = a then b :: r else c :: repl a b r
theorem index_one (a c : UInt8) (l : List UInt8) : Lib.index (c :: l) [a] = if c = a then 0 else if Lib.index l [a] == -1 then -1 else Lib.index l [a] + 1 := by
  rw [Lib.index]
  by_cases h : c = a
  · subst h; simp
  · have : ([a] : List UInt8).isPrefixOf (c :: l) = false := by simp [List.isPrefixOf]; exact fun e => h e.symm
    rw [this, if_neg h]; rfl
theorem idx_case (l : List UInt8) (a : UInt8) : Lib.index l [a] = -1 ∨ ∃ i : Nat, Lib.index l [a] = i := by
  induction l with
  | nil => exact Or.inl rfl
  | cons c l ih =>
    rw [index_one]
    split
    · exact Or.inr ⟨0, rfl⟩
    · rcases ih with h | ⟨i, h⟩
      · rw [h]; exact Or.inl rfl
      · rw [h]
        exact Or.inr ⟨i + 1, if_neg (by simp)⟩
theorem repl_at (a b : UInt8) : ∀ l : List UInt8, (Lib.index l [a] = -1 → repl a b l = l) ∧ (∀ i : Nat, Lib.index l [a] = i → i < l.length ∧ repl a b l = l.take i ++ [b] ++ l.drop (i + 1))
  | [] => ⟨fun _ => rfl, fun i h => by have h2 : Lib.index [] [a] = -1 := rfl; omega⟩
  | c :: l => by
    obtain ⟨h1, h2⟩ := repl_at a b l
    rw [index_one]
    by_cases hc : c = a
    · rw [if_pos hc]
      refine ⟨fun h => by omega, fun i h => ?_⟩
      obtain rfl : i = 0 := by omega
      exact ⟨Nat.succ_pos _, by rw [repl, if_pos hc]; rfl⟩
    · rw [if_neg hc]
      by_cases hi : Lib.index l [a] = -1
      · have e : (Lib.index l [a] == -1) = true := by simpa using hi
        rw [if_pos e]
        exact ⟨fun _ => by rw [repl, if_neg hc, h1 hi], fun i h => by omega⟩
      · have e : ¬ (Lib.index l [a] == -1) = true := by simpa using hi
        rw [if_neg e]
        refine ⟨fun h => ?_, fun i h => ?_⟩
        · exfalso
          rcases idx_case l a with h5 | ⟨j, h5⟩
          · exact hi h5
          · omega
        · cases i with
          | zero =>
            exfalso
            omega
          | succ i =>
            obtain ⟨h3, h4⟩ := h2 i (by omega)
            exact ⟨Nat.succ_lt_succ h3, by rw [repl, if_neg hc, h4]; rfl⟩
theorem repl_len (a b : UInt8) : ∀ l : List UInt8, (repl a b l).length = l.length
  | [] => rfl
  | c :: l => by
    rw [repl]
    split
    · rfl
    · rw [List.length_cons, repl_len a b l]; rfl
theorem repl_app {a b : UInt8} : ∀ {x : List UInt8} {y : List UInt8}, a ∉ x → repl a b (x ++ a :: y) = x ++ b :: y
  | [], y, _ => by rw [List.nil_append, repl, if_pos rfl]; rfl
  | c :: x, y, h => by
    have hc : c ≠ a := fun e => h (by rw [e]; exact List.mem_cons_self)
    rw [List.cons_append, repl, if_neg hc, repl_app (fun hm => h (List.mem_cons_of_mem _ hm))]; rfl
theorem replace1_any (s : ByteArray) (a b : UInt8) (hab : a ≠ b) (w : World) (hE : Env w) (hs : s.size ≤ 1000) :
    Calls Tryd.prog 39 #[.string s, .string ⟨#[a]⟩, .string ⟨#[b]⟩, .int .i64 1] w fun e w' => e = .returned (.string ⟨(repl a b s.data.toList).toArray⟩) ∧ Below w.heap.size w w' := by
  obtain ⟨m, hm⟩ := hE.max
  have hne : (⟨#[a]⟩ : ByteArray) ≠ ⟨#[b]⟩ := fun e => hab (by
    have h1 := congrArg (fun x : ByteArray => x.data.toList) e
    simpa using h1)
  rcases idx_case s.data.toList a with hi | ⟨i, hi⟩
  · have h0 : Lib.countB s ⟨#[a]⟩ = 0 := Lib.count_miss hi
    refine (Tryd.strings_Replace_absent s ⟨#[a]⟩ ⟨#[b]⟩ 1 m w (by omega) hm (Nat.le_refl 1) hne (by decide) h0).mono ?_
    rintro e w' ⟨rfl, rfl⟩
    refine ⟨?_, Below.refl _ _⟩
    rw [(repl_at a b s.data.toList).1 hi]
  · have h1 : Lib.countB s ⟨#[a]⟩ = 1 + Lib.count (s.data.toList.drop (i + 1)) [a] := Lib.count_hit (by simp) hi
    have hle : Lib.countB s ⟨#[a]⟩ ≤ s.size := Lib.countB_le ⟨#[a]⟩ (Nat.le_refl 1) s.size s (Nat.le_refl _)
    obtain ⟨hl, hr⟩ := (repl_at a b s.data.toList).2 i hi
    refine (Tryd.strings_Replace_some s ⟨#[a]⟩ ⟨#[b]⟩ 1 m w (by omega) hm (Nat.le_refl 1) hne (by decide) (by omega) (by have : (⟨#[b]⟩ : ByteArray).size = 1 := rfl; rw [this]; omega)).mono ?_
    rintro e w' ⟨rfl, hb⟩
    refine ⟨?_, hb⟩
    have hn : Lib.replaceNum s.data.toList [a] 1 = 1 := by
      unfold Lib.replaceNum
      have : Lib.count s.data.toList [a] = Lib.countB s ⟨#[a]⟩ := rfl
      rw [if_neg (by rw [this]; omega)]
      rfl
    have hk : Lib.replaceK [a] [b] 1 s.data.toList = repl a b s.data.toList := by
      rw [hr]
      exact Lib.replaceK_hit [a] [b] 0 s.data.toList i hi
    show Ending.returned (.string ⟨(Lib.replaceK [a] [b] (Lib.replaceNum s.data.toList [a] 1) s.data.toList).toArray⟩) = _
    rw [hn, hk]
/-- A net in a key. -/
def keyTxt (a b : Int) : List UInt8 := repl 47 45 (netText a b)
theorem keyTxt_len (a b : Int) (ha : 0 ≤ a) (ha' : a < 4294967296) : (keyTxt a b).length ≤ 20 := by
  unfold keyTxt
  rw [repl_len]
  unfold netText
  split
  · rename_i hm
    have hb0 : 0 ≤ b ∧ b ≤ 32 := bitsOk_iff.1 (by unfold mayB at hm; rw [Bool.and_eq_true] at hm; exact hm.1)
    have h1 : (ipTxt a).length ≤ 16 := txt_len a ha ha' 4
    have h2 := size_dec b hb0.1 (by omega)
    rw [netTxt_eq]
    simp only [List.length_append, List.length_singleton]
    omega
  · exact Nat.zero_le _
theorem putNet_any (a b : Int) (ha : 0 ≤ a) (ha' : a < 4294967296) (w : World) (hE : Env w) :
    Calls Tryd.prog 26 #[.agg #[.int .u32 a, .int .i64 b]] w fun e w' => e = .returned (.string ⟨(keyTxt a b).toArray⟩) ∧ Below w.heap.size w w' := by
  have hb0 : Below w.heap.size w (w.alloc (.cells #[.int .u32 a, .int .i64 b] 28)) := belNew _ _
  have HP := Lib.hid (netPrint_any a b ha ha' _ (hE.below hb0))
  have hlen : (⟨(netText a b).toArray⟩ : ByteArray).size ≤ 1000 := by
    have h1 := keyTxt_len a b ha ha'
    unfold keyTxt at h1
    rw [repl_len] at h1
    simp [ByteArray.size]
    omega
  have HR : Hid (∀ w', Below w.heap.size w w' → Calls Tryd.prog 39 #[.string ⟨(netText a b).toArray⟩, .string ⟨#[47]⟩, .string ⟨#[45]⟩, .int .i64 1] w' fun e w'' => e = .returned (.string ⟨(keyTxt a b).toArray⟩) ∧ Below w'.heap.size w' w'') := Lib.hid (fun w' hb => replace1_any ⟨(netText a b).toArray⟩ 47 45 (by decide) w' (hE.below hb) hlen)
  have HB := Lib.hid hb0
  clear hb0 hlen hE
  go_enter Tryd.func26, Tryd.ntmps26
  go_wp2_with (first
    | (go_at_call 40; refine HP.out.mono ?_; rintro e w1 ⟨rfl, hb1⟩)
    | (go_at_call 39; refine (HR.out w1 (bel HB.out hb1)).mono ?_; rintro e w2 ⟨rfl, hb2⟩)
    | go_in)
  go_ret
  exact ⟨rfl, bel (bel HB.out hb1) hb2⟩
theorem hole26 : hole 26 = 64 := by decide
/-- The block of an address in a key. -/
def blkTxt (a : Int) : List UInt8 := keyTxt (a - a % 64) 26
theorem blockOf_any (a : Int) (ha : 0 ≤ a) (ha' : a < 4294967296) (w : World) (hE : Env w) :
    Calls Tryd.prog 32 #[.int .u32 a] w fun e w' => e = .returned (.string ⟨(blkTxt a).toArray⟩) ∧ Below w.heap.size w w' := by
  have HB := Lib.hid (block_yes a 26 ha ha' (by decide) (by decide) w)
  rw [hole26] at HB
  have HP : Hid (∀ w', Below w.heap.size w w' → Calls Tryd.prog 26 #[.agg #[.int .u32 (a - a % 64), .int .i64 26]] w' fun e w'' => e = .returned (.string ⟨(blkTxt a).toArray⟩) ∧ Below w'.heap.size w' w'') := Lib.hid (fun w' hb => putNet_any (a - a % 64) 26 (by omega) (by omega) w' (hE.below hb))
  clear hE
  generalize a - a % 64 = f at HB HP
  go_enter Tryd.func32, Tryd.ntmps32
  go_wp2_with (first
    | (go_at_call 46; refine HB.out.mono ?_; rintro e w1 ⟨rfl, hb1⟩)
    | (go_at_call 26; refine (HP.out _ (belAlloc hb1 _)).mono ?_; rintro e w2 ⟨rfl, hb2⟩)
    | go_in)
  go_ret
  exact ⟨rfl, bel (belAlloc hb1 _) hb2⟩
theorem blkTxt_len (a : Int) (ha : 0 ≤ a) (ha' : a < 4294967296) : (blkTxt a).length ≤ 20 := keyTxt_len _ _ (by omega) (by omega)
theorem blockKey_any (a : Int) (ha : 0 ≤ a) (ha' : a < 4294967296) (w : World) (hE : Env w) :
    Calls Tryd.prog 11 #[.int .u32 a] w fun e w' => e = .returned (.string ⟨([98, 108, 111, 99, 107, 47] ++ blkTxt a).toArray⟩) ∧ Below w.heap.size w w' := by
  have HB := Lib.hid (blockOf_any a ha ha' w hE)
  have hl := blkTxt_len a ha ha'
  have q : ¬ 9223372036854775807 < 6 + (blkTxt a).length := by omega
  have HV : Hid ((⟨#[98, 108, 111, 99, 107, 47]⟩ : ByteArray) ++ ⟨(blkTxt a).toArray⟩ = ⟨([98, 108, 111, 99, 107, 47] ++ blkTxt a).toArray⟩) := Lib.hid (mk_append [98, 108, 111, 99, 107, 47] (blkTxt a))
  clear hl hE
  go_enter Tryd.func11, Tryd.ntmps11
  go_wp2_with (first
    | (go_at_call 32; refine HB.out.mono ?_; rintro e w1 ⟨rfl, hb1⟩)
    | go_in)
  go_ret
  exact ⟨congrArg (fun t : ByteArray => Ending.returned (.string t)) HV.out, hb1⟩
end Go.Proofs.YthpeimdjcibmgaaDoor
