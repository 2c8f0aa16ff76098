/- Package handle: what is read of bytes is just those that were put: lists of bytes. -/
import Derived.Test.YtiifbhiodegipaaGreatDoorHnRight
import Derived.Test.YtiifbhiodegipaaGreatDoorRcNet
import Derived.Lib.Walk
import Derived.Deep.RegionLaw
import Derived.Lib.Overlaps
import Derived.Laws.Externs
import Derived.Test.YtiifbhiodegipaaGreatDoorHnSet
import Derived.Lib.ConvBytes
namespace Go.Proofs.YtiifbhiodegipaaGreatDoor.HN
open Go.RowKit
abbrev rest (s p : ByteArray) : ByteArray := ⟨(Lib.trimPrefix s.data.toList p.data.toList).toArray⟩
abbrev starts (s p : ByteArray) : Bool := Lib.hasPrefix s.data.toList p.data.toList
abbrev em : ByteArray := ⟨#[]⟩
theorem rest_size (s p : ByteArray) : (rest s p).size ≤ s.size := by
  have h : (Lib.trimPrefix s.data.toList p.data.toList).length ≤ s.data.toList.length := by
    unfold Lib.trimPrefix
    split
    · rw [List.length_drop]; omega
    · exact Nat.le_refl _
  have e1 : (rest s p).size = (Lib.trimPrefix s.data.toList p.data.toList).length := List.size_toArray
  have e2 : s.data.toList.length = s.size := Array.length_toList
  rw [e1]; omega
theorem bytes_below (w : World) (e : TypeId) (s : ByteArray) : Below w.heap.size w (Lib.bytesWorld w e s) :=
  ⟨rfl, rfl, rfl, by rw [Lib.bytesWorld_size]; omega, fun k hk => Lib.bytesWorld_at_old w e s k hk⟩
theorem bytes_sees (w : World) (s : ByteArray) : Sees (Lib.bytesWorld w 5 s) (.slice (some ⟨w.heap.size, 0, none⟩) s.size (grownCap w s.size 0 5)) (strI s) := by
  refine ⟨some ⟨w.heap.size, 0, none⟩, grownCap w s.size 0 5, by rw [strI_length], by rw [strI_length]; exact grownCap_ge w s.size 0 5, (fun h => by cases h), fun a ha i hi => ?_⟩
  cases ha
  rw [strI_length] at hi
  rw [add0, Lib.bytesWorld_cell w _ s i hi]
  have hl : i < s.data.toList.length := by rw [Array.length_toList]; exact hi
  unfold strI
  simp [List.getD, List.getElem?_eq_getElem hl]
theorem okB_strI (s : ByteArray) : okB (strI s) := fun x hx => by
  unfold strI at hx
  obtain ⟨b, _, rfl⟩ := List.mem_map.1 hx
  have := b.toNat_lt
  omega
theorem numBytes_add (m c : Int) (n : Nat) : ∀ k, k ≤ n → numBytes (m + c * 256 ^ n) k = numBytes m k
  | 0, _ => rfl
  | k + 1, h => by
    have ih := numBytes_add m c n k (by omega)
    have e : (256 : Int) ^ n = 256 ^ (n - k - 1) * 256 * 256 ^ k := by
      rw [← Int.pow_succ, ← Int.pow_add]; congr 1; omega
    have h2 : (m + c * 256 ^ n) / 256 ^ k % 256 = m / 256 ^ k % 256 := by
      rw [e, ← Int.mul_assoc, Int.add_mul_ediv_right _ _ (Int.ne_of_gt (Int.pow_pos (by omega))), ← Int.mul_assoc, Int.add_mul_emod_self_right]
    show _ :: _ = _ :: _
    rw [h2, ih]
theorem numBE_fold : ∀ (l : List Int) (a : Int), l.foldl (fun n c => n * 256 + c) a = a * 256 ^ l.length + numBE l
  | [], a => by simp [numBE]
  | c :: l, a => by
    have h1 := numBE_fold l (a * 256 + c)
    have h2 := numBE_fold l (0 * 256 + c)
    have h3 : numBE (c :: l) = l.foldl (fun n c => n * 256 + c) (0 * 256 + c) := rfl
    rw [List.foldl_cons, h1, h3, h2, List.length_cons, Int.pow_succ]
    grind
theorem numBytes_back : ∀ l : List Int, okB l → numBytes (numBE l) l.length = l
  | [], _ => rfl
  | c :: l, h => by
    have hc := h c (by simp)
    have hl : okB l := fun x hx => h x (by simp [hx])
    have ih := numBytes_back l hl
    have e : numBE (c :: l) = numBE l + c * 256 ^ l.length := by
      have := numBE_fold l (0 * 256 + c)
      show l.foldl (fun n c => n * 256 + c) (0 * 256 + c) = _
      rw [this]; grind
    obtain ⟨b0, b1⟩ := numBE_bd l hl
    rw [e, List.length_cons]
    show (numBE l + c * 256 ^ l.length) / 256 ^ l.length % 256 :: numBytes (numBE l + c * 256 ^ l.length) l.length = c :: l
    rw [numBytes_add _ _ _ _ (Nat.le_refl _), ih, Int.add_mul_ediv_right _ _ (Int.ne_of_gt (Int.pow_pos (by omega))), Int.ediv_eq_zero_of_lt b0 b1]
    congr 1
    omega
theorem rdB_back {st : Option (List Int)} {n : Int} {l' : List Int} (h : (rdB st n).2 = some l') : ∃ l, st = some l ∧ l = (rdB st n).1 ++ l' ∧ ((rdB st n).1.length : Int) = n := by
  cases st with
  | none => cases h
  | some l =>
    refine ⟨l, rfl, ?_⟩
    by_cases hc : 0 ≤ n ∧ n ≤ l.length
    · have e : rdB (some l) n = (l.take n.toNat, some (l.drop n.toNat)) := by unfold rdB; exact if_pos hc
      rw [e] at h ⊢
      obtain rfl := Option.some.inj h
      refine ⟨(List.take_append_drop _ _).symm, ?_⟩
      rw [List.length_take]
      omega
    · have e : rdB (some l) n = ([], none) := by unfold rdB; exact if_neg hc
      rw [e] at h
      cases h
theorem rdU_back {st : Option (List Int)} {k : Int} {l' : List Int} (hok : okB (st.getD [])) (h : (rdU st k).2 = some l') (hk : wOk k = true) : ∃ l, st = some l ∧ l = putL (rdU st k).1 k ++ l' ∧ okB l' ∧ 0 ≤ (rdU st k).1 ∧ (rdU st k).1 < 256 ^ k.toNat := by
  unfold rdU at h ⊢
  rw [if_pos hk] at h ⊢
  obtain ⟨l, rfl, e, hn⟩ := rdB_back h
  have ho := rdB_ok hok k
  have ho' : okB l' := fun x hx => hok x (by show x ∈ l; rw [e]; exact List.mem_append_right _ hx)
  have hb := numBE_bd _ ho
  have hlen : (rdB (some l) k).1.length = k.toNat := by omega
  refine ⟨l, rfl, ?_, ho', hb.1, by rw [← hlen]; exact hb.2⟩
  unfold putL
  rw [if_pos hk, ← hlen, numBytes_back _ ho]
  exact e
theorem strNums_size (l : List Int) : (strOfNums l).size = l.length := by
  unfold strOfNums ByteArray.size
  simp

theorem strOf_strI (s : ByteArray) : strOfNums (strI s) = s := by
  apply ByteArray.ext
  unfold strOfNums strI
  simp only [List.map_map]
  rw [show ((fun n : Int => UInt8.ofNat n.toNat) ∘ fun b : UInt8 => (b.toNat : Int)) = id from funext fun b => by simp]
  simp
theorem rd_ahead (a b : List Int) : rdB (some (a ++ b)) a.length = (a, some b) := by
  rw [rdB_yes (by simp)]
  simp
theorem rd_put {n k : Int} (b : List Int) (hk : wOk k = true) : rdU (some (putL n k ++ b)) k = (numBE (putL n k), some b) := by
  have e : (putL n k).length = k.toNat := by unfold putL; rw [if_pos hk, numBytes_length]
  have h1 := of_decide_eq_true hk
  unfold rdU
  have h2 := rd_ahead (putL n k) b
  rw [e, show ((k.toNat : Nat) : Int) = k from by omega] at h2
  rw [if_pos hk, h2]

theorem numBE_put4' {n : Int} (h : 0 ≤ n ∧ n < 4294967296) : numBE (putL n 4) = n := by
  show numBE (numBytes n 4) = n
  simp only [numBytes, numBE, List.foldl_cons, List.foldl_nil]
  simp
  omega
theorem doneB_some {st : Option (List Int)} (h : doneB st = true) : st = some [] := by
  unfold doneB at h
  cases st with
  | none => cases h
  | some l =>
    cases l with
    | nil => rfl
    | cons a t =>
      simp at h
      omega
theorem strI_cons {s : ByteArray} {c : UInt8} (h : starts s ⟨#[c]⟩ = true) : strI s = (c.toNat : Int) :: strI (rest s ⟨#[c]⟩) := by
  have h1 : Lib.hasPrefix s.data.toList [c] = true := h
  obtain ⟨t, ht⟩ := List.isPrefixOf_iff_prefix.1 (show [c].isPrefixOf s.data.toList = true from h1)
  have h2 : (rest s ⟨#[c]⟩).data.toList = t := by
    show Lib.trimPrefix s.data.toList [c] = t
    unfold Lib.trimPrefix
    rw [if_pos h1, ← ht]
    rfl
  unfold strI
  rw [h2, ← ht]
  rfl
theorem str_eq {s : ByteArray} {l : List Int} (h : strI s = l) : strOfNums l = s := by rw [← h, strOf_strI]
theorem wOk1 : wOk 1 = true := rfl
theorem wOk4 : wOk 4 = true := rfl
theorem starts_cons (c : Int) (hc : 0 ≤ c ∧ c ≤ 255) (l : List Int) (hl : okB l) : starts (strOfNums (c :: l)) ⟨#[UInt8.ofNat c.toNat]⟩ = true ∧ strI (rest (strOfNums (c :: l)) ⟨#[UInt8.ofNat c.toNat]⟩) = l := by
  have hd : (strOfNums (c :: l)).data.toList = UInt8.ofNat c.toNat :: l.map (fun n => UInt8.ofNat n.toNat) := rfl
  have h1 : Lib.hasPrefix (strOfNums (c :: l)).data.toList [UInt8.ofNat c.toNat] = true := by
    unfold Lib.hasPrefix
    rw [hd]
    simp
  refine ⟨h1, ?_⟩
  have h2 : (rest (strOfNums (c :: l)) ⟨#[UInt8.ofNat c.toNat]⟩).data.toList = l.map (fun n => UInt8.ofNat n.toNat) := by
    show Lib.trimPrefix (strOfNums (c :: l)).data.toList [UInt8.ofNat c.toNat] = _
    unfold Lib.trimPrefix
    rw [if_pos h1, hd]
    rfl
  unfold strI
  rw [h2, List.map_map]
  have h3 : ∀ x ∈ l, ((fun b : UInt8 => (b.toNat : Int)) ∘ fun n : Int => UInt8.ofNat n.toNat) x = x := fun x hx => by
    have := hl x hx
    simp
    omega
  rw [List.map_congr_left h3, List.map_id']
theorem okB_app {a b : List Int} (ha : okB a) (hb : okB b) : okB (a ++ b) := fun x hx => (List.mem_append.1 hx).elim (ha x) (hb x)
theorem okB_numB (n : Int) : ∀ k, okB (numBytes n k)
  | 0 => fun x hx => by cases hx
  | k + 1 => fun x hx => by
    rcases List.mem_cons.1 hx with rfl | hx
    · omega
    · exact okB_numB n k x hx
theorem okB_putL (n k : Int) : okB (putL n k) := by
  unfold putL
  split
  · exact okB_numB _ _
  · intro x hx; cases hx
abbrev pH : ByteArray := ⟨#[72]⟩
theorem numBE_put2' {n : Int} (h : 0 ≤ n ∧ n < 65536) : numBE (putL n 2) = n := by
  have e : putL n 2 = [n / 256 % 256, n % 256] := by
    unfold putL
    rw [if_pos (by decide)]
    simp [numBytes]
  rw [e]
  simp [numBE]
  omega
theorem wOk2 : wOk 2 = true := rfl
/-- The counts that are read of bytes, so many at the most; what is left. -/
def rdC : Nat → Option (List Int) → CntL × Option (List Int)
  | 0, st => ([], st)
  | _ + 1, none => ([], none)
  | k + 1, some l => (((rdU (some l) 4).1, (rdU (rdU (some l) 4).2 2).1) :: (rdC k (rdU (rdU (some l) 4).2 2).2).1, (rdC k (rdU (rdU (some l) 4).2 2).2).2)
theorem rdC_none (k : Nat) : rdC k none = ([], none) := by cases k <;> rfl
theorem rdU_short {l : List Int} {k : Int} (hk : wOk k = true) (h : (l.length : Int) < k) : (rdU (some l) k).2 = none := by
  unfold rdU
  rw [if_pos hk, rdB_no (by simp; omega)]
theorem rdU_left {l : List Int} {k : Int} (hk : wOk k = true) (h : k ≤ (l.length : Int)) : (rdU (some l) k).2 = some (l.drop k.toNat) := by
  have h1 := of_decide_eq_true hk
  unfold rdU rdB
  rw [if_pos hk]
  simp only []
  rw [if_pos ⟨by omega, h⟩]
theorem rdU_none (k : Int) : (rdU none k).2 = none := by
  unfold rdU rdB
  split <;> rfl
theorem rdC_len : ∀ (k : Nat) (st : Option (List Int)), (rdC k st).1.length * 6 ≤ (st.getD []).length + 6
  | 0, st => by simp [rdC]
  | k + 1, none => by simp [rdC]
  | k + 1, some l => by
    have ih := rdC_len k (rdU (rdU (some l) 4).2 2).2
    have e : (rdC (k + 1) (some l)).1.length = (rdC k (rdU (rdU (some l) 4).2 2).2).1.length + 1 := rfl
    rw [e]
    by_cases h4 : (4 : Int) ≤ (l.length : Int)
    · rw [rdU_left wOk4 h4] at ih ⊢
      by_cases h2 : (2 : Int) ≤ ((l.drop (4 : Int).toNat).length : Int)
      · rw [rdU_left wOk2 h2] at ih ⊢
        have t4 : (4 : Int).toNat = 4 := rfl
        have t2 : (2 : Int).toNat = 2 := rfl
        simp only [Option.getD_some, List.length_drop, t4, t2] at ih h2 ⊢
        omega
      · rw [rdU_short wOk2 (by omega), rdC_none] at ih ⊢
        simp
    · rw [rdU_short wOk4 (by omega), rdU_none, rdC_none] at ih ⊢
      simp
theorem rdC_back : ∀ (k : Nat) (st : Option (List Int)) (l' : List Int), okB (st.getD []) → (rdC k st).2 = some l' → ∃ l, st = some l ∧ l = (rdC k st).1.flatMap cnt8 ++ l' ∧ (rdC k st).1.length = k
  | 0, st, l', _, h => ⟨l', h, by simp [rdC], rfl⟩
  | k + 1, none, l', _, h => by cases h
  | k + 1, some l, l', hok, h => by
    have e1 : (rdC (k + 1) (some l)).1 = ((rdU (some l) 4).1, (rdU (rdU (some l) 4).2 2).1) :: (rdC k (rdU (rdU (some l) 4).2 2).2).1 := rfl
    have h0 : (rdC k (rdU (rdU (some l) 4).2 2).2).2 = some l' := h
    -- the bytes left behind the two numbers are there
    cases h4 : (rdU (some l) 4).2 with
    | none => rw [h4, rdU_none, rdC_none] at h0; cases h0
    | some m =>
      obtain ⟨x, hx, hxe, hxo, -, -⟩ := rdU_back hok h4 wOk4
      cases h2 : (rdU (some m) 2).2 with
      | none => rw [h4, h2, rdC_none] at h0; cases h0
      | some q =>
        obtain ⟨y, hy, hye, hyo, -, -⟩ := rdU_back (st := some m) hxo h2 wOk2
        rw [h4, h2] at h0
        obtain ⟨z, hz, hze, hzl⟩ := rdC_back k (some q) l' hyo h0
        cases hx; cases hy; cases hz
        have E : l = putL (rdU (some l) 4).1 4 ++ (putL (rdU (some m) 2).1 2 ++ ((rdC k (some q)).1.flatMap cnt8 ++ l')) := hxe.trans (congrArg _ (hye.trans (congrArg _ hze)))
        refine ⟨l, rfl, ?_, ?_⟩
        · rw [e1, h4, h2, List.flatMap_cons]
          exact E.trans (by simp [cnt8])
        · rw [e1, h4, h2, List.length_cons, hzl]
theorem rdC_put : ∀ (L : CntL) (r : List Int), (∀ p ∈ L, (0 ≤ p.1 ∧ p.1 < 4294967296) ∧ 0 ≤ p.2 ∧ p.2 < 65536) → rdC L.length (some (L.flatMap cnt8 ++ r)) = (L, some r)
  | [], r, _ => by simp [rdC]
  | p :: L, r, h => by
    obtain ⟨h1, h2⟩ := h p (by simp)
    have ih := rdC_put L r (fun q hq => h q (by simp [hq]))
    have e : (p :: L).flatMap cnt8 ++ r = putL p.1 4 ++ (putL p.2 2 ++ (L.flatMap cnt8 ++ r)) := by
      rw [List.flatMap_cons]; simp [cnt8]
    rw [List.length_cons, e, rdC, rd_put _ wOk4, rd_put _ wOk2, numBE_put4' h1, numBE_put2' h2, ih]
theorem rdU_bd2 (st : Option (List Int)) (hst : okB (st.getD [])) (k : Int) (_ : 0 ≤ k) : 0 ≤ (rdU st k).1 ∧ (rdU st k).1 < 256 ^ k.toNat ∧ okB ((rdU st k).2.getD []) := by
  unfold rdU
  split
  · have h1 := numBE_bd _ (rdB_ok hst k)
    have h2 := rdB_len st k
    refine ⟨h1.1, Int.lt_of_lt_of_le h1.2 ?_, ?_⟩
    · have h3 : (rdB st k).1.length ≤ k.toNat := by omega
      have h4 : (256 : Nat) ^ (rdB st k).1.length ≤ 256 ^ k.toNat := Nat.pow_le_pow_right (by omega) h3
      have h5 : ((256 ^ (rdB st k).1.length : Nat) : Int) ≤ ((256 ^ k.toNat : Nat) : Int) := Int.ofNat_le.2 h4
      rw [Int.natCast_pow, Int.natCast_pow] at h5
      exact h5
    · unfold rdB
      cases st with
      | none => intro x hx; cases hx
      | some l =>
        simp only []
        split
        · exact okB.drop hst _
        · intro x hx; cases hx
  · refine ⟨Int.le_refl _, Int.pow_pos (by omega), ?_⟩
    intro x hx; cases hx
theorem rdC_bd : ∀ (k : Nat) (st : Option (List Int)), okB (st.getD []) → ∀ p ∈ (rdC k st).1, (0 ≤ p.1 ∧ p.1 < 4294967296) ∧ 0 ≤ p.2 ∧ p.2 < 65536
  | 0, st, _, p, hp => by cases hp
  | k + 1, none, _, p, hp => by cases hp
  | k + 1, some l, hok, p, hp => by
    obtain ⟨a1, a2, a3⟩ := rdU_bd2 (some l) hok 4 (by decide)
    obtain ⟨b1, b2, b3⟩ := rdU_bd2 (rdU (some l) 4).2 a3 2 (by decide)
    rcases List.mem_cons.1 hp with rfl | hp
    · exact ⟨⟨a1, a2⟩, b1, b2⟩
    · exact rdC_bd k _ b3 p hp
end Go.Proofs.YtiifbhiodegipaaGreatDoor.HN
namespace Go.Proofs.YtiifbhiodegipaaGreatDoor.HN
open Go.RowKit
theorem _root_.Go.Proofs.YtiifbhiodegipaaGreatDoor.RdP.belowN {g B n : Nat} {st : Option (List Int)} {w w' : World} (hr : RdP g B st w) (hb : Below n w w') (hg : g < n) : RdP g B st w' := by
  obtain ⟨v, h, hs, hd, ho, hl, hB⟩ := hr
  refine ⟨v, (hb.block g hg).trans h, sees_heap hs (fun d hd' _ => hb.block d (by have := hd d hd'; omega)), hd, ho, hl, hB⟩
theorem row_grown {E : TypeId} {B g : Nat} {w w' : World} {v : Value} {L : CntL} (h : RowE E w B v L) (hg : w.grownBy w' (some g)) (hB : g < B) : RowE E w' B v L :=
  ⟨h.1, h.2.imp id fun ⟨b, cap, cur, e, hb, hh, r⟩ => ⟨b, cap, cur, e, hb, (hg.block b (heap_lt hh) (fun e => by have := Option.some.inj e; omega)).trans hh, r⟩⟩
theorem grown_belowB {g B : Nat} {w a b : World} (h : w.grownBy a (some g)) (k : Below B a b) (hB : w.heap.size ≤ B) : w.grownBy b (some g) :=
  ⟨k.os.trans h.os, k.tape.trans h.tape, k.output.trans h.output, Nat.le_trans h.size k.size, fun i hi hne => (k.block i (by omega)).trans (h.block i hi hne)⟩
theorem sl_len {E : TypeId} {w : World} {B : Nat} {v : Value} {L : CntL} (h : RowE E w B v L) : ∃ ao n c, v = .slice ao n c ∧ n = L.length := by
  obtain ⟨ao, c, e, -⟩ := h.sees
  exact ⟨ao, _, c, e, rfl⟩
def lenV : Value → Nat
  | .slice _ n _ => n
  | _ => 0
set_option maxRecDepth 100000 in
set_option maxHeartbeats 4000000 in
theorem readCounts_any (g : Nat) (st : Option (List Int)) (n : Nat) (w : World) (h : RdP g g st w) (hn : n ≤ 65535) :
    Calls Tryz.prog 134 #[.pointer (some ⟨g, 0, none⟩), .int .i64 n] w fun e w' => ∃ v', e = .returned v' ∧ RowE EC w' w.heap.size v' (rdC n st).1 ∧ RdP g g (rdC n st).2 w' ∧ w.grownBy w' (some g) := by
  have hgw : g < w.heap.size := by obtain ⟨_, hh, _⟩ := h; exact heap_lt hh
  have HR := Lib.hid h
  have HGW := Lib.hid hgw
  clear h hgw
  go_enter Tryz.func134, Tryz.ntmps134
  go_wp2_with fail
  go_loopw [5] (fun u wr => ∃ (X : CntL) (ao : Option Addr) (c : Nat) (s1 : Option (List Int)), u = .slice ao X.length c ∧ X.length ≤ n ∧ Hid (rdC n st = (X ++ (rdC (n - X.length) s1).1, (rdC (n - X.length) s1).2)) ∧ Hid (RowE EC wr w.heap.size u X) ∧ Hid (RdP g g s1 wr) ∧ Hid (w.grownBy wr (some g))) (fun u _ => n - lenV u)
  case atStart => exact ⟨[], none, 0, st, rfl, Nat.zero_le _, Lib.hid (by simp), Lib.hid (World.ownsRow_nil _ _ _ _), HR, Lib.hid (World.grownBy.refl _ _)⟩
  case round =>
    obtain ⟨X, ao, c, s1, rfl, hXn, HE, HO, HRd, HG⟩ := hrel
    by_cases hlt : X.length < n
    · have d1 : decide ((X.length : Int) < (n : Int)) = true := by simp; omega
      have HBA := Lib.hid (bad_any g g s1 _ HRd.out)
      cases s1 with
      | none =>
        have HV : Hid (rdC n st = (X, none)) := Lib.hid (by rw [HE.out, rdC_none]; simp)
        go_wp2_with fail
        refine HBA.out.mono ?_; rintro e w2 ⟨rfl, rfl⟩
        go_wp2_with fail
        go_ret
        exact ⟨_, rfl, by rw [HV.out]; exact HO.out, by rw [HV.out]; exact HRd.out, HG.out⟩
      | some l =>
        have hok : okB l := by obtain ⟨_, _, _, _, ho, _⟩ := HRd.out; exact ho
        obtain ⟨a1, a2, a3⟩ := rdU_bd2 (some l) hok 4 (by decide)
        obtain ⟨b1, b2, b3⟩ := rdU_bd2 (rdU (some l) 4).2 a3 2 (by decide)
        have HU1 := Lib.hid (u_any g g (some l) 4 _ HRd.out)
        have HU2 := Lib.hid (fun w h => u_any g g (rdU (some l) 4).2 2 w h)
        have HN : Hid (rdC n st = ((X ++ [((rdU (some l) 4).1, (rdU (rdU (some l) 4).2 2).1)]) ++ (rdC (n - (X.length + 1)) (rdU (rdU (some l) 4).2 2).2).1, (rdC (n - (X.length + 1)) (rdU (rdU (some l) 4).2 2).2).2)) := Lib.hid (by
          rw [HE.out, show n - X.length = (n - (X.length + 1)) + 1 from by omega, rdC]
          simp)
        generalize rdU (rdU (some l) 4).2 2 = U2 at *
        generalize rdU (some l) 4 = U1 at *
        obtain ⟨x1, s2⟩ := U1
        obtain ⟨x2, s3⟩ := U2
        simp only [] at *
        have c4 : (256 : Int) ^ (4 : Int).toNat = 4294967296 := by decide
        have c2 : (256 : Int) ^ (2 : Int).toNat = 65536 := by decide
        rw [c4] at a2
        rw [c2] at b2
        have hw1 : IntKind.u32.wrap x1 = x1 := by rw [IntKind.wrap_u32]; omega
        have hw2 : IntKind.i64.wrap x2 = x2 := IntWalk.i64_in _ (by omega)
        have hXl : X.length ≤ 1000001 := by omega
        have HLT := Lib.hid hlt
        clear c4 c2 a3 b3 hok hlt
        go_wp2_with fail
        refine HBA.out.mono ?_; rintro e w2 ⟨rfl, rfl⟩
        go_wp2_with fail
        refine HU1.out.mono ?_; rintro e w3 ⟨rfl, hR3, hg3⟩
        have HO3 := Lib.hid (row_grown HO.out hg3 HGW.out)
        have HG3 := Lib.hid (grown_trans HG.out hg3)
        have HU3 := Lib.hid (HU2.out _ hR3)
        clear hR3 hg3
        go_wp2_with fail
        refine HU3.out.mono ?_; rintro e w4 ⟨rfl, hR4, hg4⟩
        have HO4 := Lib.hid (row_grown HO3.out hg4 HGW.out)
        have HG4 := Lib.hid (grown_trans HG3.out hg4)
        have HR4 := Lib.hid hR4
        clear hR4 hg4
        go_wp2_with (at_builtin; refine wpList_push (w0 := w4) Tryz.underlying99 infoC rfl (.tmp 19) (.tmp 25) rfl w.heap.size _ X (x1, x2) w4.heap.size rfl rfl rfl HO4.out hXl HG4.out.size ?_; intro v' w5 ho5 hb5 hg5; have HO5 := Lib.hid ho5; have HG5 := Lib.hid (grown_belowB HG4.out hb5 (Nat.le_refl _)); have HR5 := Lib.hid (HR4.out.belowN hb5 HGW.out); obtain ⟨ao5, n5, c5, rfl, hn5⟩ := sl_len ho5; have HN5 := Lib.hid hn5; clear ho5 hb5 hg5 hn5)
        go_roundw
        case rel => exact ⟨X ++ [(x1, x2)], _, _, s3, by rw [HN5.out], by have := HLT.out; simp; omega, Lib.hid (by rw [HN.out]; simp), HO5, HR5, HG5⟩
        case measure => have := HLT.out; have := HN5.out; simp [lenV] at *; omega
    · have d1 : decide ((X.length : Int) < (n : Int)) = false := by simp; omega
      have HV : Hid (rdC n st = (X, s1)) := Lib.hid (by
        rw [HE.out, show n - X.length = 0 from by omega]; simp [rdC])
      go_wp2_with fail
      go_ret
      exact ⟨_, rfl, by rw [HV.out]; exact HO.out, by rw [HV.out]; exact HRd.out, HG.out⟩
end Go.Proofs.YtiifbhiodegipaaGreatDoor.HN
namespace Go.Proofs.YtiifbhiodegipaaGreatDoor.HN
open Go.RowKit
def hst1 (s : ByteArray) : Int × Option (List Int) := rdU (some (strI (rest s pH))) 2
def readR (s : ByteArray) : CntL × Option (List Int) := rdC (hst1 s).1.toNat (hst1 s).2
def okHB (s : ByteArray) : Bool := starts s pH && (doneB (readR s).2 && rightH (readR s).1)
def resH (ok : Bool) (v : Value) : Value := if ok = true then .tuple #[hnV v, .int .i64 0] else .tuple #[hnV (.slice none 0 0), .int .i64 3]
theorem strI_rest_len (s : ByteArray) : (strI (rest s pH)).length ≤ s.size := by rw [strI_length]; exact rest_size s pH
theorem read_bd (s : ByteArray) (hs : s.size ≤ 1000) : CntBd (readR s).1 ∧ (readR s).1.length ≤ 1000 ∧ 0 ≤ (hst1 s).1 ∧ (hst1 s).1 < 65536 := by
  obtain ⟨a1, a2, a3⟩ := rdU_bd2 (some (strI (rest s pH))) (okB_strI _) 2 (by decide)
  have c2 : (256 : Int) ^ (2 : Int).toNat = 65536 := by decide
  rw [c2] at a2
  refine ⟨fun p hp => ?_, ?_, a1, a2⟩
  · have := rdC_bd (hst1 s).1.toNat (hst1 s).2 a3 p hp
    omega
  · have h1 := rdC_len (hst1 s).1.toNat (hst1 s).2
    have h2 : ((hst1 s).2.getD []).length ≤ (strI (rest s pH)).length := by
      unfold hst1 rdU rdB
      split
      · simp only []
        split
        · simp
        · simp
      · simp
    have h3 := strI_rest_len s
    unfold readR
    omega
end Go.Proofs.YtiifbhiodegipaaGreatDoor.HN
namespace Go.Proofs.YtiifbhiodegipaaGreatDoor.HN
open Go.RowKit
theorem okB_cnt8 (L : CntL) : okB (L.flatMap cnt8) := fun x hx => by
  obtain ⟨p, _, hp⟩ := List.mem_flatMap.1 hx
  unfold cnt8 at hp
  rcases List.mem_append.1 hp with h | h
  · exact okB_putL _ _ x h
  · exact okB_putL _ _ x h
theorem read_back {s : ByteArray} (h : okHB s = true) : rightH (readR s).1 = true ∧ strOfNums (hnB (readR s).1) = s := by
  unfold okHB at h
  simp only [Bool.and_eq_true] at h
  obtain ⟨h1, h2, h3⟩ := h
  refine ⟨h3, str_eq ?_⟩
  have hd := doneB_some h2
  obtain ⟨a1, a2, a3⟩ := rdU_bd2 (some (strI (rest s pH))) (okB_strI _) 2 (by decide)
  obtain ⟨l, e1, e2, e3⟩ := rdC_back (hst1 s).1.toNat (hst1 s).2 [] a3 hd
  obtain ⟨m, f1, f2, -, -, -⟩ := rdU_back (st := some (strI (rest s pH))) (okB_strI _) e1 wOk2
  cases f1
  have hc := strI_cons (s := s) (c := 72) h1
  have hr : (rdU (some (strI (rest s pH))) 2).1 = ((readR s).1.length : Int) := by
    have : ((hst1 s).1.toNat : Int) = (hst1 s).1 := Int.toNat_of_nonneg a1
    rw [show (readR s).1.length = (hst1 s).1.toNat from e3, this]; rfl
  rw [hc, show rest s ⟨#[72]⟩ = rest s pH from rfl, f2, hr, e2, List.append_nil]
  unfold hnB readR
  simp
theorem read_put {L : CntL} (hb : CntBd L) (hr : rightH L = true) (hl : L.length ≤ 4000) : okHB (strOfNums (hnB L)) = true ∧ (readR (strOfNums (hnB L))).1 = L := by
  have hok := ((right_iff L).1 hr).1
  have hl0 : okB (putL L.length 2 ++ L.flatMap cnt8) := okB_app (okB_putL _ _) (okB_cnt8 L)
  obtain ⟨h1, h2⟩ := starts_cons 72 (by decide) (putL L.length 2 ++ L.flatMap cnt8) hl0
  have e0 : hnB L = 72 :: (putL L.length 2 ++ L.flatMap cnt8) := by unfold hnB; simp
  have ep : (⟨#[UInt8.ofNat (72 : Int).toNat]⟩ : ByteArray) = pH := rfl
  rw [ep] at h1 h2
  rw [← e0] at h1 h2
  have e1 : hst1 (strOfNums (hnB L)) = ((L.length : Int), some (L.flatMap cnt8)) := by
    unfold hst1
    rw [h2, rd_put _ wOk2, numBE_put2' ⟨by omega, by omega⟩]
  have e2 : readR (strOfNums (hnB L)) = (L, some []) := by
    unfold readR
    rw [e1]
    have := rdC_put L [] (fun p hp => by
      have h3 := hb p hp
      have h4 := hok p hp
      unfold CntOk at h4
      omega)
    rw [List.append_nil] at this
    simpa using this
  refine ⟨?_, by rw [e2]⟩
  unfold okHB
  rw [h1, e2, hr]
  rfl
end Go.Proofs.YtiifbhiodegipaaGreatDoor.HN
