/- An effect's bytes read are the effect: redo.Read of them; kv.Effect's equality. -/
import Derived.Test.YtogcjginifcbpaaRdRead2
namespace Go.Proofs.Ytogcjginifcbpaa
open Go.RowKit Go.Maps
theorem numBE_put8 {n : Int} (h : 0 ≤ n ∧ n < 18446744073709551616) : numBE (putL n 8) = n := by
  show numBE (numBytes n 8) = n
  simp only [numBytes, numBE, List.foldl_cons, List.foldl_nil]
  simp
  omega
theorem numBE_put4' {n : Int} (h : 0 ≤ n ∧ n < 4294967296) : numBE (putL n 4) = n := by
  show numBE (numBytes n 4) = n
  simp only [numBytes, numBE, List.foldl_cons, List.foldl_nil]
  simp
  omega
theorem rdL_long {s : ByteArray} (hs : s.size < 4294967296) (t : List Int) : rdL (some (longL s ++ t)) = (strI s, some t) := by
  unfold rdL longL
  rw [List.append_assoc, rd_put _ rfl, numBE_put4' (by omega)]
  have h := rd_ahead (strI s) t
  rw [strI_length] at h
  exact h
theorem kind_read (e : KEff) (t : List Int) : rdU (some (putL (kindOf e) 1 ++ t)) 1 = (kindOf e, some t) := by
  rw [rd_put _ rfl]
  unfold kindOf
  cases e.gone <;> rfl
theorem kind_gone (e : KEff) : (kindOf e == 2) = e.gone ∧ (kindOf e == 1 || kindOf e == 2) = true := by
  unfold kindOf
  cases e.gone <;> exact ⟨rfl, rfl⟩
theorem item_read {p : KEnt} (hr : 0 ≤ p.2.2 ∧ p.2.2 ≤ 9223372036854775807) (hk : (⟨p.1.toArray⟩ : ByteArray).size < 4294967296) (hv : p.2.1.size < 4294967296) (t : List Int) :
    rdRev (some (itemL p ++ t)) = p.2.2 ∧ strOfNums (rdK (some (itemL p ++ t))).1 = ⟨p.1.toArray⟩ ∧ strOfNums (rdV (some (itemL p ++ t))).1 = p.2.1 ∧ (rdV (some (itemL p ++ t))).2 = some t := by
  have h1 : rdU (some (itemL p ++ t)) 8 = (p.2.2, some (longL ⟨p.1.toArray⟩ ++ (longL p.2.1 ++ t))) := by
    unfold itemL
    rw [List.append_assoc, List.append_assoc, rd_put _ rfl, numBE_put8 (by omega)]
  have h2 : rdK (some (itemL p ++ t)) = (strI ⟨p.1.toArray⟩, some (longL p.2.1 ++ t)) := by
    unfold rdK
    rw [h1]
    exact rdL_long hk _
  have h3 : rdV (some (itemL p ++ t)) = (strI p.2.1, some t) := by
    unfold rdV
    rw [h2]
    exact rdL_long hv _
  refine ⟨?_, by rw [h2, strOf_strI], by rw [h3, strOf_strI], by rw [h3]⟩
  unfold rdRev
  rw [h1]
  exact IntWalk.i64_in _ (by omega)
theorem len_eff {e : KEff} (hk : e.key.size ≤ 128) (hv : e.val.size ≤ 65536) : (effL e).length ≤ 100000 := by
  unfold effL itemL longL
  simp only [List.length_append, strI_length, kl_str]
  have h1 := putL_len (kindOf e) 1
  have h2 := putL_len e.rev 8
  have h3 := putL_len (e.key.size : Int) 4
  have h4 := putL_len (e.val.size : Int) 4
  omega
theorem read10_put (e : KEff) (hr : rightB e = true) (hm : e.rev ≤ 9223372036854775807) (b : Value) (w : World) (h : Sees w b (effL e)) :
    Calls Try.prog 40 #[b] w fun x w' => x = .returned (.tuple #[effV e, .int .i64 0]) ∧ Below w.heap.size w w' := by
  obtain ⟨_, r2, r3, r4, _⟩ := rightB_ok hr
  obtain ⟨i1, i2, i3, i4⟩ := item_read (p := (kl e.key, (e.val, e.rev))) ⟨by show 0 ≤ e.rev; omega, hm⟩ (by rw [kl_str]; omega) (by show e.val.size < _; omega) []
  rw [List.append_nil] at i1 i2 i3 i4
  have hk := kind_read e (itemL (kl e.key, (e.val, e.rev)))
  obtain ⟨g1, g2⟩ := kind_gone e
  have hv : effV e = .agg #[.string e.key, .string e.val, .int .i64 e.rev, .bool (kindOf e == 2)] := by rw [g1]
  refine (read_core b (effL e) w h (okB_eff e) (by have := len_eff r2 r3; omega) (kindOf e) e.rev (some (itemL (kl e.key, (e.val, e.rev)))) (some []) e.key e.val true true
    (Lib.hid (fun g w h => ?_)) (Lib.hid (fun g w h => ?_)) (Lib.hid (fun g w h => done_any g g _ w h)) (Lib.hid (fun w => ?_))).mono ?_
  · have := u_any g g _ 1 w h
    unfold effL at this
    rw [hk] at this
    exact this
  · have := readItem_any g g _ w h
    rw [i4] at this
    refine this.mono ?_
    rintro x w' ⟨rfl, h2, h3⟩
    refine ⟨?_, h2, h3⟩
    unfold rdItV
    rw [i1, i2, i3, kl_str]
  · rw [← hv]
    have := right_any e w
    rw [hr] at this
    exact this
  · rintro x w' ⟨rfl, h2⟩
    refine ⟨?_, h2⟩
    rw [g2, hv]
    rfl
end Go.Proofs.Ytogcjginifcbpaa
