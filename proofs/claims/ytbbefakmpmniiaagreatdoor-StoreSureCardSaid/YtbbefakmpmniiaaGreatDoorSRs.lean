/- Joined: RdItems RdState RdRef RdPutS RdSt. -/
import Derived.Test.YtbbefakmpmniiaaGreatDoorSRd
import Derived.Test.YtbbefakmpmniiaaGreatDoorSKr
namespace Go.Proofs.YtbbefakmpmniiaaGreatDoor.KV
section
open Go.RowKit Go.Maps
/-- The item that is read next. -/
def itemOf (st : Option (List Int)) : KEnt := (kl (strOfNums (rdK st).1), (strOfNums (rdV st).1, rdRev st))
/-- So many items, one behind the other. -/
def rdN : Nat → Option (List Int) → List KEnt × Option (List Int)
  | 0, st => ([], st)
  | k + 1, st => ((rdN k st).1 ++ [itemOf (rdN k st).2], (rdV (rdN k st).2).2)
theorem rdN_len (st : Option (List Int)) : ∀ k, (rdN k st).1.length = k
  | 0 => rfl
  | k + 1 => by rw [rdN, List.length_append, rdN_len st k]; rfl
theorem _root_.Go.Proofs.YtbbefakmpmniiaaGreatDoor.RdP.belowN {g B n : Nat} {st : Option (List Int)} {w w' : World} (hr : RdP g B st w) (hb : Below n w w') (hg : g < n) : RdP g B st w' := by
  obtain ⟨v, hv, hs, ho, hok, hl, hB⟩ := hr
  exact ⟨v, (hb.block g hg).trans hv, sees_heap hs (fun d hd _ => hb.block d (by have := ho d hd; omega)), ho, hok, hl, hB⟩
theorem row_sliceI {w : World} {B : Nat} {v : Value} {L : List KEnt} (h : RowI w B v L) : ∃ ao c, v = .slice ao L.length c := by
  obtain ⟨ao, c, e, _⟩ := RowE.sees h
  exact ⟨ao, c, e⟩
/-- How much there is to read; nothing of one that is bad. -/
def left (st : Option (List Int)) : Nat := match st with
  | some l => l.length + 1
  | none => 0
theorem rdB_left {st : Option (List Int)} (n : Int) : left (rdB st n).2 ≤ left st := by
  cases h : (rdB st n).2 with
  | none => exact Nat.zero_le _
  | some l' =>
    obtain ⟨l, rfl, e, _⟩ := rdB_back h
    show l'.length + 1 ≤ l.length + 1
    have := congrArg List.length e
    rw [List.length_append] at this
    omega
theorem rdU_left {st : Option (List Int)} (k : Int) : left (rdU st k).2 ≤ left st := by
  unfold rdU
  split
  · exact rdB_left k
  · exact Nat.zero_le _
theorem rdL_left (st : Option (List Int)) : left (rdL st).2 ≤ left st := Nat.le_trans (rdB_left _) (rdU_left 4)
theorem rdU8_left {l : List Int} : left (rdU (some l) 8).2 < left (some l) := by
  cases h : (rdU (some l) 8).2 with
  | none => exact Nat.succ_pos _
  | some l' =>
    unfold rdU at h
    rw [if_pos (by decide)] at h
    obtain ⟨l2, e2, e, hn⟩ := rdB_back h
    obtain rfl := Option.some.inj e2
    show l'.length + 1 < l.length + 1
    have := congrArg List.length e
    rw [List.length_append] at this
    omega
theorem rdV_left (l : List Int) : left (rdV (some l)).2 < left (some l) :=
  Nat.lt_of_le_of_lt (rdL_left _) (Nat.lt_of_le_of_lt (rdL_left _) rdU8_left)
theorem rdN_left (st : Option (List Int)) : ∀ k, (∀ j, j < k → (rdN j st).2 ≠ none) → k + left (rdN k st).2 ≤ left st
  | 0, _ => by show 0 + left st ≤ left st; omega
  | k + 1, h => by
    have ih := rdN_left st k (fun j hj => h j (by omega))
    have hk := h k (by omega)
    rw [rdN]
    cases hs : (rdN k st).2 with
    | none => exact absurd hs hk
    | some l =>
      have := rdV_left l
      rw [hs] at ih
      simp only []
      omega
theorem grown_belowN {a b c : World} {r : Option Nat} (h : a.grownBy b r) (k : Below a.heap.size b c) : a.grownBy c r := ⟨k.os.trans h.os, k.tape.trans h.tape, k.output.trans h.output, Nat.le_trans h.size k.size, fun i hi hne => (k.block i hi).trans (h.block i hi hne)⟩
set_option maxRecDepth 100000 in
set_option maxHeartbeats 8000000 in
theorem readItems_any (g B : Nat) (st : Option (List Int)) (n : Nat) (w : World) (h : RdP g B st w) (hl : left st ≤ 100000) (hn : n < 4294967296) :
    Calls Tryz.prog 97 #[.pointer (some ⟨g, 0, none⟩), .int .u64 n] w fun e w' => ∃ (k : Nat) (v : Value), e = .returned v ∧ RowI w' w.heap.size v (rdN k st).1 ∧ RdP g B (rdN k st).2 w' ∧ k ≤ n ∧ (k = n ∨ (rdN k st).2 = none) ∧ k ≤ 100000 ∧ w.grownBy w' (some g) := by
  have hgl : g < w.heap.size := by obtain ⟨v, hv, _⟩ := h; exact heap_lt hv
  have H := Lib.hid (And.intro h (And.intro hl hgl))
  have hBg : B ≤ g := by obtain ⟨v, _, _, _, _, _, hB⟩ := h; exact hB
  have HBG := Lib.hid hBg
  clear h hl hgl hBg
  go_enter Tryz.func97, Tryz.ntmps97
  go_wp2_with fail
  go_loopw [5] (fun v wr => ∃ (k : Nat) (ao : Option Addr) (c : Nat), k ≤ n ∧ v = .slice ao k c ∧ RowI wr w.heap.size v (rdN k st).1 ∧ RdP g B (rdN k st).2 wr ∧ Aside (∀ j, j < k → (rdN j st).2 ≠ none) ∧ w.grownBy wr (some g)) (fun v _ => match v with | .slice _ k _ => left (rdN k st).2 | _ => 0)
  case atStart => exact ⟨0, none, 0, Nat.zero_le _, rfl, World.ownsRow_nil _ _ _ _, H.out.1, fun j hj => by omega, grown_below (Below.refl _ _)⟩
  case round =>
    obtain ⟨k, ao, c, hk, rfl, hrow, hrd, hgood, hg⟩ := hrel
    have hkl := rdN_left st k hgood.out
    have hk5 : k ≤ 100000 := by have := H.out.2.1; omega
    have s1 : IntKind.u64.wrap (k : Int) = (k : Int) := IntWalk.u64_in _ (by omega)
    have HR := Lib.hid (And.intro hrow (And.intro hrd (And.intro hg hgood.out)))
    clear hrow hrd hg hgood
    by_cases hlt : k < n
    · have d1 : decide ((k : Int) < (n : Int)) = true := by simp; omega
      have HBd := Lib.hid (bad_any g B _ wr HR.out.2.1)
      have HIt := Lib.hid (readItem_any g B _ wr HR.out.2.1)
      cases hs : (rdN k st).2 with
      | none =>
        rw [hs] at HBd
        have HN := Lib.hid hs
        clear hs HIt
        go_wp2_with (first
          | (go_at_call 144; refine HBd.out.mono ?_; rintro e wx ⟨rfl, rfl⟩)
          | go_in)
        go_ret
        exact ⟨k, _, rfl, HR.out.1, HR.out.2.1, hk, Or.inr HN.out, hk5, HR.out.2.2.1⟩
      | some l =>
        rw [hs] at HBd
        have HN := Lib.hid hs
        have hlen : (rdN k st).1.length ≤ 1000000 := by rw [rdN_len]; omega
        clear hs
        go_wp2_with (first
          | (go_at_call 144; refine HBd.out.mono ?_; rintro e wx ⟨rfl, rfl⟩)
          | (go_at_call 104; refine HIt.out.mono ?_; rintro e w2 ⟨rfl, hR2, hg2⟩
             have hrow2 : RowI w2 w.heap.size (.slice ao k c) (rdN k st).1 := World.ownsRow.kept HR.out.1 hg2 (row_neE HR.out.1 H.out.2.2)
             have hz2 := HR.out.2.2.1.size
             have hz3 := hg2.size)
          | (at_builtin; refine wpList_push Tryz.underlying47 infoK rfl (.tmp 16) (.tmp 19) rfl w.heap.size (.slice ao k c) (rdN k st).1 (strOfNums (rdK (rdN k st).2).1) (strOfNums (rdV (rdN k st).2).1, rdRev (rdN k st).2) w2.heap.size rfl rfl rfl hrow2 (by omega) (by omega) ?_; intro v3 w3 hrow3 hb3 hg3; obtain ⟨ao3, c3, hv3⟩ := row_sliceI hrow3; have hl3 : ((rdN k st).1 ++ [((strOfNums (rdK (rdN k st).2).1).data.toList, (strOfNums (rdV (rdN k st).2).1, rdRev (rdN k st).2))]).length = k + 1 := by rw [List.length_append, rdN_len, List.length_singleton]
             rw [hl3] at hv3; subst hv3)
          | go_in)
        go_roundw
        case rel =>
          refine ⟨k + 1, ao3, c3, by omega, rfl, hrow3, hR2.belowN hb3 H.out.2.2, fun j hj => ?_, grown_belowN (grown_trans HR.out.2.2.1 hg2) hb3⟩
          by_cases hjk : j = k
          · rw [hjk, HN.out]; simp
          · exact HR.out.2.2.2 j (by omega)
        case measure =>
          show left (rdV (rdN k st).2).2 < left (rdN k st).2
          rw [HN.out]
          exact rdV_left l
    · have d1 : decide ((k : Int) < (n : Int)) = false := by simp; omega
      go_wp2_with fail
      go_ret
      exact ⟨k, _, rfl, HR.out.1, HR.out.2.1, hk, Or.inl (by omega), hk5, HR.out.2.2.1⟩
end
section
open Go.RowKit Go.Maps
set_option maxRecDepth 100000 in
set_option maxHeartbeats 8000000 in
theorem readState_any (b : Value) (xs : List Int) (w : World) (h : Sees w b xs) (hok : okB xs) (hl : xs.length ≤ 90000) :
    Calls Tryz.prog 59 #[b] w fun x w' => ∃ n k : Nat, (rdU (rdU (some xs) 8).2 4).1 = (n : Int) ∧ k ≤ n ∧ (k = n ∨ (rdN k (rdU (rdU (some xs) 8).2 4).2).2 = none) ∧ k ≤ 100000 ∧
      ((doneB (rdN k (rdU (rdU (some xs) 8).2 4).2).2 && ofB (rdRev (some xs)) (rdN k (rdU (rdU (some xs) 8).2 4).2).1) = true → ∃ g P, x = .returned (.tuple #[ptr g, .int .i64 0]) ∧ KvAt w' g P ⟨rdRev (some xs), (rdN k (rdU (rdU (some xs) 8).2 4).2).1⟩ ∧ (∀ i, P i → w.heap.size ≤ i)) ∧
      ((doneB (rdN k (rdU (rdU (some xs) 8).2 4).2).2 && ofB (rdRev (some xs)) (rdN k (rdU (rdU (some xs) 8).2 4).2).1) = false → x = .returned (.tuple #[.pointer none, .int .i64 3])) ∧ Below w.heap.size w w' := by
  have HN := Lib.hid (new_any b xs w h hok (by omega))
  obtain ⟨R, hR⟩ : ∃ R, R = rdRev (some xs) := ⟨_, rfl⟩
  obtain ⟨st1, hs1⟩ : ∃ s, s = (rdU (some xs) 8).2 := ⟨_, rfl⟩
  obtain ⟨st2, hs2⟩ : ∃ s, s = (rdU st1 4).2 := ⟨_, rfl⟩
  have s8 : IntKind.i64.wrap (rdU (some xs) 8).1 = R := hR.symm
  have hleft : left st2 ≤ 100000 := by
    have h1 := rdU_left (st := some xs) 8
    have h2 := rdU_left (st := st1) 4
    rw [← hs1] at h1
    rw [← hs2] at h2
    have h3 : left (some xs) = xs.length + 1 := rfl
    omega
  rw [← hs1, ← hs2, ← hR]
  have HL := Lib.hid hleft
  have HU8 : Hid (∀ g w, RdP g g (some xs) w → Calls Tryz.prog 96 #[.pointer (some ⟨g, 0, none⟩), .int .i64 8] w fun e w' => e = .returned (.int .u64 (rdU (some xs) 8).1) ∧ RdP g g st1 w' ∧ w.grownBy w' (some g)) := Lib.hid (fun g w h => by rw [hs1]; exact u_any g g _ 8 w h)
  have HU4 : Hid (∀ g w, RdP g g st1 w → ∃ n : Nat, (rdU st1 4).1 = (n : Int) ∧ n < 4294967296 ∧ Calls Tryz.prog 96 #[.pointer (some ⟨g, 0, none⟩), .int .i64 4] w fun e w' => e = .returned (.int .u64 (n : Int)) ∧ RdP g g st2 w' ∧ w.grownBy w' (some g)) := Lib.hid (fun g w h => by
    obtain ⟨b0, b1⟩ := rdU_ok h 4
    have b1' : (rdU st1 4).1 < 4294967296 := b1
    have hn : (rdU st1 4).1 = (((rdU st1 4).1.toNat : Nat) : Int) := by omega
    refine ⟨(rdU st1 4).1.toNat, hn, by omega, ?_⟩
    rw [← hn, hs2]
    exact u_any g g _ 4 w h)
  clear hR hs1 hs2 hleft h hok hl
  go_enter Tryz.func59, Tryz.ntmps59
  go_upto_region 2 with (first
    | (go_at_call 95; refine HN.out.mono ?_; rintro e w1 ⟨g, rfl, hR1, hg1, hb1⟩)
    | go_in)
  go_upto_region 3 with (first
    | (go_at_call 96; refine (HU8.out g w1 hR1).mono ?_; rintro e w2 ⟨rfl, hR2, hg2⟩)
    | go_in)
  obtain ⟨n, hn, hn2, hU4⟩ := HU4.out g w2 hR2
  have HU := Lib.hid hU4
  have HNN := Lib.hid (And.intro hn hn2)
  clear HU4 HU8 HN hU4 hn hn2
  go_upto_region 4 with (first
    | (go_at_call 96; refine HU.out.mono ?_; rintro e w3 ⟨rfl, hR3, hg3⟩)
    | (go_at_call 97; refine (readItems_any g g st2 n w3 hR3 HL.out HNN.out.2).mono ?_; rintro e w4 ⟨k, v, rfl, hrow, hR4, hk, hkn, hk5, hg4⟩)
    | go_in)
  have hgA := grown_trans (grown_trans hg2 hg3) hg4
  have HB4 : Hid (Below w.heap.size w w4) := Lib.hid (hb1.grown hgA hb1.size (fun j e => by have := Option.some.inj e; omega))
  have HX := Lib.hid (And.intro hR4 (And.intro hrow (And.intro hk (And.intro hkn hk5))))
  have hlen := rdN_len st2 k
  clear hgA hg2 hg3 hg4 hb1 hg1 hR1 hR2 hR3 hR4 hrow hk hkn HU s8
  have HD := Lib.hid (done_any g g _ w4 HX.out.1)
  generalize hrn : rdN k st2 = rn at HX HD hlen
  obtain ⟨L, st3⟩ := rn
  simp only [] at HX HD hlen
  have HRN : Hid ((rdN k st2).1 = L ∧ (rdN k st2).2 = st3) := Lib.hid (by rw [hrn]; exact ⟨rfl, rfl⟩)
  clear hrn
  cases hD : doneB st3 with
  | false =>
    rw [hD] at HD
    have HDf := Lib.hid hD
    clear hD
    go_wp2_with (first
      | (go_at_call 98; refine HD.out.mono ?_; rintro e w5 ⟨rfl, rfl⟩)
      | go_in)
    go_ret2
    refine ⟨n, k, HNN.out.1, HX.out.2.2.1, by rw [HRN.out.2]; exact HX.out.2.2.2.1, HX.out.2.2.2.2, ?_, fun _ => rfl, HB4.out⟩
    rw [HRN.out.2, HDf.out]
    intro h
    cases h
  | true =>
    rw [hD] at HD
    have HDf := Lib.hid hD
    clear hD
    cases hO : ofB R L with
    | false =>
      have HOf := Lib.hid (of_no R v L w4 (RowE.sees HX.out.2.1) (by unfold maxLen; omega) hO)
      have HOv := Lib.hid hO
      clear hO
      go_wp2_with (first
        | (go_at_call 98; refine HD.out.mono ?_; rintro e w5 ⟨rfl, rfl⟩)
        | (go_at_call 99; refine HOf.out.mono ?_; rintro e w6 ⟨rfl, hb6⟩)
        | go_in)
      go_ret2
      refine ⟨n, k, HNN.out.1, HX.out.2.2.1, by rw [HRN.out.2]; exact HX.out.2.2.2.1, HX.out.2.2.2.2, ?_, fun _ => rfl, HB4.out.trans (hb6.mono HB4.out.size)⟩
      rw [HRN.out.1, HOv.out, Bool.and_false]
      intro h
      cases h
    | true =>
      have HOf := Lib.hid (of_yes R v L w4 (RowE.sees HX.out.2.1) (by omega) hO)
      have HOv := Lib.hid hO
      clear hO
      go_wp2_with (first
        | (go_at_call 98; refine HD.out.mono ?_; rintro e w5 ⟨rfl, rfl⟩)
        | (go_at_call 99; refine HOf.out.mono ?_; rintro e w6 ⟨g6, P6, rfl, hk6, hP6, hb6⟩)
        | go_in)
      go_ret2
      refine ⟨n, k, HNN.out.1, HX.out.2.2.1, by rw [HRN.out.2]; exact HX.out.2.2.2.1, HX.out.2.2.2.2, ?_, ?_, HB4.out.trans (hb6.mono HB4.out.size)⟩
      · intro _
        refine ⟨g6, P6, rfl, ?_, fun i hi => Nat.le_trans HB4.out.size (hP6 i hi)⟩
        rw [HRN.out.1]
        exact hk6
      · rw [HRN.out.1, HRN.out.2, HDf.out, HOv.out]
        intro h
        cases h
/-- A state's bytes. -/
def stL (S : KSt) : List Int := putL S.rev 8 ++ (putL (S.L.length : Int) 4 ++ S.L.flatMap itemL)
end
section
open Go.RowKit Go.Maps
end
section
open Go.RowKit Go.Maps
/-- May a state be written: how large it is. -/
def StOk (S : KSt) : Prop := (0 ≤ S.rev ∧ S.rev ≤ 9223372036854775807) ∧ S.L.length ≤ 300 ∧ ∀ p ∈ S.L, (⟨p.1.toArray⟩ : ByteArray).size ≤ 300 ∧ p.2.1.size ≤ 300 ∧ 0 ≤ p.2.2 ∧ p.2.2 ≤ 9223372036854775807
theorem itemL_len {p : KEnt} (hk : (⟨p.1.toArray⟩ : ByteArray).size ≤ 300) (hv : p.2.1.size ≤ 300) : (itemL p).length ≤ 700 := by
  unfold itemL longL
  simp only [List.length_append, strI_length]
  have h1 := putL_len p.2.2 8
  have h2 := putL_len ((⟨p.1.toArray⟩ : ByteArray).size : Int) 4
  have h3 := putL_len (p.2.1.size : Int) 4
  omega
theorem items_len : ∀ {L : List KEnt}, (∀ p ∈ L, (⟨p.1.toArray⟩ : ByteArray).size ≤ 300 ∧ p.2.1.size ≤ 300 ∧ 0 ≤ p.2.2 ∧ p.2.2 ≤ 9223372036854775807) → (L.flatMap itemL).length ≤ 700 * L.length
  | [], _ => Nat.zero_le _
  | p :: L, h => by
    have h1 := itemL_len (h p (by simp)).1 (h p (by simp)).2.1
    have h2 := items_len (fun q hq => h q (List.mem_cons_of_mem _ hq))
    rw [List.flatMap_cons, List.length_append, List.length_cons]
    omega
/-- The bytes behind so many items. -/
def accL (S : KSt) (i : Nat) : List Int := putL S.rev 8 ++ (putL (S.L.length : Int) 4 ++ (S.L.take i).flatMap itemL)
theorem accL_all (S : KSt) : accL S S.L.length = stL S := by unfold accL stL; rw [List.take_length]
theorem accL_next {S : KSt} {i : Nat} {p : KEnt} (hp : S.L[i]? = some p) : accL S (i + 1) = accL S i ++ itemL p := by
  unfold accL
  rw [List.take_add_one, hp]
  simp [List.append_assoc]
theorem accL_len {S : KSt} (h : StOk S) (i : Nat) : (accL S i).length ≤ 300000 := by
  have h1 := putL_len S.rev 8
  have h2 := putL_len (S.L.length : Int) 4
  have h3 := items_len (L := S.L.take i) (fun p hp => h.2.2 p (List.mem_of_mem_take hp))
  have h4 : (S.L.take i).length ≤ S.L.length := by rw [List.length_take]; omega
  have h5 := h.2.1
  unfold accL
  simp only [List.length_append]
  omega
theorem row_Kp {E : TypeId} {w w' : World} {B B' : Nat} {v : Value} {L : List KEnt} (h : RowE E w B v L) (k : Kp B' w w') (ht : E ≠ 5) : RowE E w' B v L :=
  ⟨h.1, h.2.imp id fun ⟨g, cap, cur, e, b, hg, r⟩ => ⟨g, cap, cur, e, b, k.cells hg ht, r⟩⟩
set_option maxRecDepth 100000 in
set_option maxHeartbeats 8000000 in
theorem putState_any (g : Nat) (P : Nat → Prop) (S : KSt) (w : World) (h : KvAt w g P S) (hr : Rising S.L) (hs : StOk S) :
    Calls Tryz.prog 77 #[ptr g] w fun e w' => ∃ v, e = .returned (.tuple #[v, .int .i64 0]) ∧ Owns w' w.heap.size v (stL S) ∧ Below w.heap.size w w' := by
  have q := eqNilK
  have HK := Lib.hid h
  have HR := Lib.hid hr
  have HS := Lib.hid hs
  have c8 : IntKind.u64.wrap S.rev = S.rev := IntWalk.u64_in _ (by have := hs.1; omega)
  have c4 : IntKind.u64.wrap (S.L.length : Int) = (S.L.length : Int) := IntWalk.u64_in _ (by have := hs.2.1; omega)
  have hl2 : S.L.length ≤ 300 := hs.2.1
  clear h hr hs
  go_enter Tryz.func77, Tryz.ntmps77
  go_upto_region 4 with (first
    | (go_at_call 48; refine (rev_any g P S w HK.out).mono ?_; rintro e wx ⟨rfl, rfl⟩)
    | (go_at_call 111; refine (putNumber_any w.heap.size _ [] S.rev 8 w (Owns.nil w _) rfl (by simp) (Nat.le_refl _)).mono ?_; rintro e w1 ⟨v1, rfl, ho1, hk1⟩)
    | go_in)
  rw [List.nil_append] at ho1
  have H1 := Lib.hid (And.intro ho1 hk1)
  clear ho1 hk1
  go_upto_region 5 with (first
    | (go_at_call 112; refine (len_any g P S w1 (HK.out.below H1.out.2.1)).mono ?_; rintro e wx ⟨rfl, rfl⟩)
    | (go_at_call 111; refine (putNumber_any w.heap.size _ (putL S.rev 8) (S.L.length : Int) 4 w1 H1.out.1 rfl (by have := putL_len S.rev 8; omega) H1.out.2.1.size).mono ?_; rintro e w2 ⟨v2, rfl, ho2, hk2⟩)
    | go_in)
  have H2 := Lib.hid (And.intro ho2 (H1.out.2.1.trans (hk2.1)))
  clear ho2 hk2 H1
  have HA := Lib.hid (all_any g P S w2 (HK.out.below H2.out.2) HR.out (by omega))
  go_wp2_with (first
    | (go_at_call 49; refine HA.out.mono ?_; rintro e w3 ⟨va, rfl, hra, hb3⟩; obtain ⟨aoA, cA, rfl, hlc, hnil, -⟩ := RowE.sees hra)
    | go_in)
  have H3 := Lib.hid (And.intro (H2.out.1.keep hb3) (And.intro hra (And.intro (H2.out.2.trans (hb3.mono H2.out.2.size)) hnil)))
  clear hra hb3 hnil
  go_loopw [4, 21] (fun b j wr => ∃ i : Nat, i ≤ S.L.length ∧ j = .int .i64 i ∧ Owns wr w.heap.size b (accL S i) ∧ RowI wr w2.heap.size (.slice aoA S.L.length cA) S.L ∧ Below w.heap.size w wr) (fun _ j _ => S.L.length - (intOf j).toNat)
  case atStart =>
    refine ⟨0, Nat.zero_le _, rfl, ?_, H3.out.2.1, H3.out.2.2.1⟩
    have : accL S 0 = putL S.rev 8 ++ putL (S.L.length : Int) 4 := by unfold accL; simp
    rw [this]
    exact H3.out.1
  case round =>
    obtain ⟨i, hi, rfl, ho, hrow, hB⟩ := hrel
    by_cases hlt : i < S.L.length
    · obtain ⟨a, rfl⟩ : ∃ a, aoA = some a := by
        cases aoA with
        | none => rw [H3.out.2.2.2 rfl] at hlt; simp at hlt
        | some a => exact ⟨a, rfl⟩
      obtain ⟨p, hgi⟩ : ∃ p, S.L[i]? = some p := ⟨_, List.getElem?_eq_getElem hlt⟩
      have hp := HS.out.2.2 p (List.mem_of_getElem? hgi)
      obtain ⟨ao5, c5, e5, _, _, hc5⟩ := RowE.sees hrow
      injection e5 with e51 e52 e53
      subst e51
      obtain ⟨q0, q1, q2⟩ := hc5 a rfl i p hgi
      have q1 := off1 q1
      have q2 := off2 q2
      have b0 : (0 : Int) ≤ (i : Int) := by omega
      have b1 : (i : Int) < (S.L.length : Int) := by omega
      have HN : Hid (accL S (i + 1) = accL S i ++ itemL p) := Lib.hid (accL_next hgi)
      have hal := accL_len HS.out i
      obtain ⟨wx, hwx⟩ : ∃ wx, wx = wr.alloc (.cells #[.string ⟨p.1.toArray⟩, .string p.2.1, .int .i64 p.2.2] 86) := ⟨_, rfl⟩
      have hbx : Below wr.heap.size wr wx := by rw [hwx]; exact belNew _ _
      have hx1 : wx.heap[wr.heap.size]? = some (.cells #[.string ⟨p.1.toArray⟩, .string p.2.1, .int .i64 p.2.2] 86 (0, 0)) := by rw [hwx]; exact heap_alloc_new wr _
      have HX := Lib.hid (And.intro (ho.keep hbx) (And.intro (row_keep hrow hbx) (hB.trans (hbx.mono hB.size))))
      have HP := Lib.hid (putItem_any w.heap.size u4 (accL S i) p wx HX.out.1 (by omega) (by omega) (by omega) ⟨hp.2.2.1, hp.2.2.2⟩ HX.out.2.2.size)
      have HWX := Lib.hid hwx
      obtain ⟨x0, x1, x2⟩ := rcells hx1
      clear hgi hp hwx hbx hx1 ho hrow hB hc5 e52 e53
      go_upto_region 8 with fail
      change Code.wp _ _ _ _ (wr.alloc (.cells #[.string ⟨p.1.toArray⟩, .string p.2.1, .int .i64 p.2.2] 86))
      rw [← HWX.out]
      clear q0 q1 q2
      go_wp2_with (first
        | (go_at_call 113; refine HP.out.mono ?_; rintro e w5 ⟨v5, rfl, ho5, hk5⟩)
        | go_in)
      go_roundw
      case rel => exact ⟨i + 1, by omega, by go_num, by rw [HN.out]; exact ho5, row_Kp HX.out.2.1 hk5 (by decide), HX.out.2.2.trans hk5.1⟩
      case measure => simp [intOf]; omega
    · obtain rfl : i = S.L.length := by omega
      rw [accL_all] at ho
      have HX := Lib.hid (And.intro ho hB)
      clear ho hB hrow
      go_wp2_with fail
      go_ret2
      exact ⟨_, rfl, HX.out.1, HX.out.2⟩
end
section
open Go.RowKit Go.Maps
theorem rdN_fwd (L : List KEnt) (hp : ∀ p ∈ L, (0 ≤ p.2.2 ∧ p.2.2 ≤ 9223372036854775807) ∧ (⟨p.1.toArray⟩ : ByteArray).size < 4294967296 ∧ p.2.1.size < 4294967296) : ∀ k, k ≤ L.length → rdN k (some (L.flatMap itemL)) = (L.take k, some ((L.drop k).flatMap itemL))
  | 0, _ => by simp [rdN]
  | k + 1, h => by
    have ih := rdN_fwd L hp k (by omega)
    have hlt : k < L.length := by omega
    have hd : L.drop k = L[k] :: L.drop (k + 1) := List.drop_eq_getElem_cons hlt
    have hm := hp L[k] (List.getElem_mem hlt)
    obtain ⟨i1, i2, i3, i4⟩ := item_read (p := L[k]) hm.1 hm.2.1 hm.2.2 ((L.drop (k + 1)).flatMap itemL)
    rw [rdN, ih, hd, List.flatMap_cons]
    simp only []
    unfold itemOf
    rw [i1, i2, i3, i4, List.take_add_one, List.getElem?_eq_getElem hlt]
    rfl
theorem okB_items : ∀ L : List KEnt, okB (L.flatMap itemL)
  | [] => fun x hx => by cases hx
  | p :: L => by
    rw [List.flatMap_cons]
    unfold itemL longL
    exact okB_append (okB_append (okB_put _ _) (okB_append (okB_append (okB_put _ _) (okB_str _)) (okB_append (okB_put _ _) (okB_str _)))) (okB_items L)
theorem okB_state (S : KSt) : okB (stL S) := by
  unfold stL
  exact okB_append (okB_put _ _) (okB_append (okB_put _ _) (okB_items _))
end
end Go.Proofs.YtbbefakmpmniiaaGreatDoor.KV
