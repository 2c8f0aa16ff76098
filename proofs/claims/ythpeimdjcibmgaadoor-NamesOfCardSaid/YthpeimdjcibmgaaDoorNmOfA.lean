/- Package names: the affinity that a key is of. -/
import Derived.Test.YthpeimdjcibmgaaDoorNmOfC
namespace Go.Proofs.YthpeimdjcibmgaaDoor
open Go.RowKit Go.Maps
abbrev cutN (s : ByteArray) : ByteArray := ⟨(Lib.cut s.data.toList slash.data.toList).1.toArray⟩
abbrev cutB (s : ByteArray) : ByteArray := ⟨(Lib.cut s.data.toList slash.data.toList).2.1.toArray⟩
theorem cut_le1 (s p : List UInt8) : (Lib.cut s p).1.length ≤ s.length := by
  unfold Lib.cut
  split
  · simp; omega
  · exact Nat.le_refl _
theorem cut_le2 (s p : List UInt8) : (Lib.cut s p).2.1.length ≤ s.length := by
  unfold Lib.cut
  split
  · simp
  · simp
def affV (S : Bool) (R : Option Int) (K : Bool) (n : ByteArray) : Value := match R with
  | some a => if S && K then .tuple #[.string n, .int .u32 a, .bool true] else .tuple #[.string em, .int .u32 0, .bool false]
  | none => .tuple #[.string em, .int .u32 0, .bool false]
set_option maxRecDepth 100000 in
set_option maxHeartbeats 4000000 in
theorem ofAff_any (s : ByteArray) (w : World) (hE : Env w) (hs : s.size ≤ 900) :
    Calls Tryd.prog 21 #[.string s] w fun e w' => e = .returned (affV (starts s pAff) (rblk (cutB (rest s pAff)).data.toList) (okName (cutN (rest s pAff)).data.toList) (cutN (rest s pAff))) ∧ Below w.heap.size w w' := by
  have HC := Lib.hid (Tryd.strings_CutPrefix s pAff w)
  have hr : (⟨(Lib.trimPrefix s.data.toList pAff.data.toList).toArray⟩ : ByteArray) = rest s pAff := rfl
  rw [hr] at HC
  have hsz : (rest s pAff).size ≤ 900 := Nat.le_trans (rest_size s pAff) hs
  have hz : (Lib.hasPrefix s.data.toList pAff.data.toList) = starts s pAff := rfl
  rw [hz] at HC
  clear hr hz hs
  generalize starts s pAff = S at *
  generalize rest s pAff = r at *
  obtain ⟨m, hm⟩ := hE.max
  have HK := Lib.hid (Tryd.strings_Cut r slash m w (by omega) hm)
  have hn : (⟨(Lib.cut r.data.toList slash.data.toList).1.toArray⟩ : ByteArray) = cutN r := rfl
  have hb : (⟨(Lib.cut r.data.toList slash.data.toList).2.1.toArray⟩ : ByteArray) = cutB r := rfl
  have hnz : (cutN r).size ≤ 900 := by rw [size_mk]; exact Nat.le_trans (cut_le1 _ _) hsz
  have hbz : (cutB r).size ≤ 900 := by rw [size_mk]; exact Nat.le_trans (cut_le2 _ _) hsz
  rw [hn, hb] at HK
  generalize (Lib.cut r.data.toList slash.data.toList).2.2 = C at HK
  generalize cutN r = N at *
  generalize cutB r = B at *
  have HR : Hid (∀ w', Below w.heap.size w w' → Calls Tryd.prog 31 #[.string B] w' fun e w'' => e = .returned (rblkV (rblk B.data.toList)) ∧ Below w'.heap.size w' w'') := Lib.hid (fun w' hb => readBlock_any B w' (hE.below hb) hbz)
  have HO : Hid (∀ w', Calls Tryd.prog 19 #[.string N] w' fun e w'' => e = .returned (.bool (okName N.data.toList)) ∧ Below w'.heap.size w' w'') := Lib.hid (fun w' => right_any N w' (Nat.le_trans hnz (by unfold maxLen; omega)))
  clear hn hb hnz hbz hsz hm hE
  generalize rblk B.data.toList = R at *
  generalize okName N.data.toList = K at *
  cases R with
  | none =>
    simp only [rblkV] at HR
    simp only [affV]
    cases S with
    | false =>
      go_enter Tryd.func21, Tryd.ntmps21
      go_upto_region 3 with (first
        | (go_at_call 29; refine HC.out.mono ?_; rintro e w1 ⟨rfl, rfl⟩)
        | (go_at_call 35; refine HK.out.mono ?_; rintro e w2 ⟨rfl, k, rfl⟩)
        | go_in)
      have hb2 : Below w1.heap.size w1 (w1.drewN k) := ⟨rfl, rfl, rfl, Nat.le_refl _, fun _ _ => rfl⟩
      generalize w1.drewN k = W2 at *
      go_upto_region 4 with (first
        | (go_at_call 31; refine (HR.out W2 hb2).mono ?_; rintro e w3 ⟨rfl, hb3⟩)
        | go_in)
      have hb5 := hb2.trans (hb3.mono hb2.size)
      clear hb3
      go_wp2_with (first
        | (go_at_call 19; refine (HO.out w3).mono ?_; rintro e w4 ⟨rfl, hb4⟩)
        | go_in)
      refine bodyPost_ret (v := .tuple #[.string em, .int .u32 0, .bool false]) (by simp [results, Tryd.results21, go_sem]) rfl ⟨rfl, hb5⟩
    | true =>
      go_enter Tryd.func21, Tryd.ntmps21
      go_upto_region 3 with (first
        | (go_at_call 29; refine HC.out.mono ?_; rintro e w1 ⟨rfl, rfl⟩)
        | (go_at_call 35; refine HK.out.mono ?_; rintro e w2 ⟨rfl, k, rfl⟩)
        | go_in)
      have hb2 : Below w1.heap.size w1 (w1.drewN k) := ⟨rfl, rfl, rfl, Nat.le_refl _, fun _ _ => rfl⟩
      generalize w1.drewN k = W2 at *
      go_upto_region 4 with (first
        | (go_at_call 31; refine (HR.out W2 hb2).mono ?_; rintro e w3 ⟨rfl, hb3⟩)
        | go_in)
      have hb5 := hb2.trans (hb3.mono hb2.size)
      clear hb3
      go_wp2_with (first
        | (go_at_call 19; refine (HO.out w3).mono ?_; rintro e w4 ⟨rfl, hb4⟩)
        | go_in)
      refine bodyPost_ret (v := .tuple #[.string em, .int .u32 0, .bool false]) (by simp [results, Tryd.results21, go_sem]) rfl ⟨rfl, hb5⟩
  | some a =>
    simp only [rblkV] at HR
    simp only [affV]
    cases S with
    | false =>
      go_enter Tryd.func21, Tryd.ntmps21
      go_upto_region 3 with (first
        | (go_at_call 29; refine HC.out.mono ?_; rintro e w1 ⟨rfl, rfl⟩)
        | (go_at_call 35; refine HK.out.mono ?_; rintro e w2 ⟨rfl, k, rfl⟩)
        | go_in)
      have hb2 : Below w1.heap.size w1 (w1.drewN k) := ⟨rfl, rfl, rfl, Nat.le_refl _, fun _ _ => rfl⟩
      generalize w1.drewN k = W2 at *
      go_upto_region 4 with (first
        | (go_at_call 31; refine (HR.out W2 hb2).mono ?_; rintro e w3 ⟨rfl, hb3⟩)
        | go_in)
      have hb5 := hb2.trans (hb3.mono hb2.size)
      clear hb3
      go_wp2_with (first
        | (go_at_call 19; refine (HO.out w3).mono ?_; rintro e w4 ⟨rfl, hb4⟩)
        | go_in)
      refine bodyPost_ret (v := .tuple #[.string em, .int .u32 0, .bool false]) (by simp [results, Tryd.results21, go_sem]) rfl ⟨rfl, hb5⟩
    | true =>
      cases K with
      | true =>
        go_enter Tryd.func21, Tryd.ntmps21
        go_upto_region 3 with (first
          | (go_at_call 29; refine HC.out.mono ?_; rintro e w1 ⟨rfl, rfl⟩)
          | (go_at_call 35; refine HK.out.mono ?_; rintro e w2 ⟨rfl, k, rfl⟩)
          | go_in)
        have hb2 : Below w1.heap.size w1 (w1.drewN k) := ⟨rfl, rfl, rfl, Nat.le_refl _, fun _ _ => rfl⟩
        generalize w1.drewN k = W2 at *
        go_upto_region 4 with (first
          | (go_at_call 31; refine (HR.out W2 hb2).mono ?_; rintro e w3 ⟨rfl, hb3⟩)
          | go_in)
        have hb5 := hb2.trans (hb3.mono hb2.size)
        clear hb3
        go_wp2_with (first
          | (go_at_call 19; refine (HO.out w3).mono ?_; rintro e w4 ⟨rfl, hb4⟩)
          | go_in)
        refine bodyPost_ret (v := .tuple #[.string N, .int .u32 a, .bool true]) (by simp [results, Tryd.results21, go_sem]) rfl ⟨rfl, (hb5.trans (hb4.mono hb5.size))⟩
      | false =>
        go_enter Tryd.func21, Tryd.ntmps21
        go_upto_region 3 with (first
          | (go_at_call 29; refine HC.out.mono ?_; rintro e w1 ⟨rfl, rfl⟩)
          | (go_at_call 35; refine HK.out.mono ?_; rintro e w2 ⟨rfl, k, rfl⟩)
          | go_in)
        have hb2 : Below w1.heap.size w1 (w1.drewN k) := ⟨rfl, rfl, rfl, Nat.le_refl _, fun _ _ => rfl⟩
        generalize w1.drewN k = W2 at *
        go_upto_region 4 with (first
          | (go_at_call 31; refine (HR.out W2 hb2).mono ?_; rintro e w3 ⟨rfl, hb3⟩)
          | go_in)
        have hb5 := hb2.trans (hb3.mono hb2.size)
        clear hb3
        go_wp2_with (first
          | (go_at_call 19; refine (HO.out w3).mono ?_; rintro e w4 ⟨rfl, hb4⟩)
          | go_in)
        refine bodyPost_ret (v := .tuple #[.string em, .int .u32 0, .bool false]) (by simp [results, Tryd.results21, go_sem]) rfl ⟨rfl, (hb5.trans (hb4.mono hb5.size))⟩
end Go.Proofs.YthpeimdjcibmgaaDoor
