/- Joined: BkM BkN. -/
import Derived.Test.YtgodmnpcedfdcaaGreatJK
import Derived.Laws.CopyRow
namespace Go.Proofs.YtgodmnpcedfdcaaGreat
section
open Go.RowKit
/-- Is a slot given? -/
def gvn (sl : List Int) (x : Int) : Bool := sl.getD x.toNat 0 != 0
theorem given1_any (g : Nat) (b : BlkS) (fv av : Value) (x : Int) (w : World) (h : BlkAt w g b fv av) (hl : b.sl.length = 64) (h0 : 0 ≤ x) (h1 : x < 64) :
    Calls Tryz.prog 80 #[.int .u8 x, .pointer (some ⟨g, 0, none⟩)] w fun e w' => e = .returned (.bool (gvn b.sl x)) ∧ w = w' := by
  obtain ⟨i, rfl⟩ := Int.eq_ofNat_of_zero_le h0
  have hi : i < 64 := by omega
  have ks := h.slot (get64 hl hi)
  rw [Nat.add_comm] at ks
  have hv : gvn b.sl (i : Int) = (b.sl.getD i 0 != 0) := by unfold gvn; rw [Int.toNat_natCast]
  generalize b.sl.getD i 0 = k at *
  generalize gvn b.sl (i : Int) = q at *
  have HV := Lib.hid hv
  have b0 : (0 : Int) ≤ (i : Int) := by omega
  have b1 : (i : Int) < 64 := by omega
  clear h hv h0 h1
  go_enter Tryz.func80, Tryz.ntmps80
  go_wp2_with fail
  go_ret
  exact ⟨by rw [HV.out]; rfl, rfl⟩
set_option maxRecDepth 100000 in
set_option maxHeartbeats 4000000 in
/-- The first that is given; -1, if none is. -/
theorem indexF_any (v : Value) (xs : List Int) (g : Nat) (b : BlkS) (fv av : Value) (w : World) (h : Sees w v xs) (hx : BlkAt w g b fv av) (hl : b.sl.length = 64) (hlx : xs.length ≤ 1000000) (hok : ∀ x ∈ xs, 0 ≤ x ∧ x < 64) (r : Int)
    (hr : (r = -1 ∧ ∀ i, i < xs.length → gvn b.sl (xs.getD i 0) = false) ∨ ∃ k : Nat, r = k ∧ k < xs.length ∧ gvn b.sl (xs.getD k 0) = true ∧ ∀ i, i < k → gvn b.sl (xs.getD i 0) = false) :
    Calls Tryz.prog 94 #[v, .func (.func 80) #[] #[.pointer (some ⟨g, 0, none⟩)]] w fun e w' => e = .returned (.int .i64 r) ∧ w = w' := by
  obtain ⟨ao, c, rfl, hlc, hnil, hc⟩ := h
  have HC := Lib.hid (And.intro hnil hc)
  have HP := Lib.hid (fun x h0 h1 => given1_any g b fv av x w hx hl h0 h1)
  have HOK := Lib.hid hok
  have HR := Lib.hid hr
  clear hnil hc hok hr hx
  go_enter Tryz.func94, Tryz.ntmps94
  go_wp2_with fail
  go_loop [8] (fun j => ∃ i : Nat, i ≤ xs.length ∧ j = .int .i64 i ∧ Hid (∀ m, m < i → gvn b.sl (xs.getD m 0) = false)) (fun j => xs.length - (intOf j).toNat)
  case atStart => exact ⟨0, Nat.zero_le _, rfl, Lib.hid (fun m hm => by omega)⟩
  case round =>
    obtain ⟨i, hi, rfl, HN⟩ := hrel
    by_cases hlt : i < xs.length
    · obtain ⟨a, rfl⟩ : ∃ a, ao = some a := by
        cases ao with
        | none => rw [HC.out.1 rfl] at hlt; simp at hlt
        | some a => exact ⟨a, rfl⟩
      have q0 := HC.out.2 a rfl i hlt
      have hm := HOK.out (xs.getD i 0) (by
        rw [List.getD_eq_getElem?_getD, List.getElem?_eq_getElem hlt]
        exact List.getElem_mem hlt)
      have HPC := Lib.hid (HP.out _ hm.1 hm.2)
      have b0 : (0 : Int) ≤ (i : Int) := by omega
      have b1 : (i : Int) < (xs.length : Int) := by omega
      have d1 : decide ((i : Int) < (xs.length : Int)) = true := by simp; omega
      have HLT := Lib.hid hlt
      have HX : Hid (xs.getD i 0 = xs.getD i 0) := rfl
      cases hq : gvn b.sl (xs.getD i 0) with
      | true =>
        rw [hq] at HPC
        have HV : Hid (r = (i : Int)) := Lib.hid (by
          rcases HR.out with ⟨_, h2⟩ | ⟨k, h1, h2, h3, h4⟩
          · rw [h2 i hlt] at hq; cases hq
          · rw [h1]
            rcases Nat.lt_trichotomy i k with h | h | h
            · rw [h4 i h] at hq; cases hq
            · rw [h]
            · rw [HN.out k h] at h3; cases h3)
        generalize xs.getD i 0 = x at *
        clear hq hm hlt
        go_wp2_with fail
        refine HPC.out.mono ?_; rintro e w' ⟨rfl, rfl⟩
        go_wp2_with fail
        go_ret
        exact ⟨by rw [HV.out]; rfl, rfl⟩
      | false =>
        rw [hq] at HPC
        have HN2 : Hid (∀ m, m < i + 1 → gvn b.sl (xs.getD m 0) = false) := Lib.hid (fun m hm' => by
          rcases Nat.lt_or_ge m i with h | h
          · exact HN.out m h
          · obtain rfl : m = i := by omega
            exact hq)
        generalize xs.getD i 0 = x at *
        clear hq hm hlt
        go_wp2_with fail
        refine HPC.out.mono ?_; rintro e w' ⟨rfl, rfl⟩
        go_wp2_with fail
        go_round
        case rel => exact ⟨i + 1, HLT.out, by go_num, HN2⟩
        case measure => simp [intOf]; have := HLT.out; omega
    · obtain rfl : i = xs.length := by omega
      have d1 : decide ((xs.length : Int) < (xs.length : Int)) = false := by simp
      have HV : Hid (r = -1) := Lib.hid (by
        rcases HR.out with ⟨h, _⟩ | ⟨k, h1, h2, h3, h4⟩
        · exact h
        · rw [HN.out k h2] at h3; cases h3)
      go_wp2_with fail
      go_ret
      exact ⟨by rw [HV.out]; rfl, rfl⟩
end
section
open Go.RowKit
/-- Those that are not given. -/
def kp (sl xs : List Int) : List Int := xs.filter (fun x => !gvn sl x)
theorem kp_snoc (sl xs : List Int) (i : Nat) (h : i < xs.length) : kp sl (xs.take (i + 1)) = if gvn sl (xs.getD i 0) = true then kp sl (xs.take i) else kp sl (xs.take i) ++ [xs.getD i 0] := by
  have e : xs.take (i + 1) = xs.take i ++ [xs.getD i 0] := by
    rw [List.take_add_one, List.getD_eq_getElem?_getD, List.getElem?_eq_getElem h]; rfl
  unfold kp
  rw [e, List.filter_append]
  generalize xs.getD i 0 = x
  cases hq : gvn sl x <;> simp [hq]
theorem kp_all (sl xs : List Int) (k : Nat) (hk : k ≤ xs.length) (h : ∀ i, i < k → gvn sl (xs.getD i 0) = false) : kp sl (xs.take k) = xs.take k := by
  induction k with
  | zero => rfl
  | succ k ih =>
    rw [kp_snoc sl xs k (by omega), if_neg (by rw [h k (by omega)]; simp), ih (by omega) (fun i hi => h i (by omega)), List.take_add_one, List.getD_eq_getElem?_getD, List.getElem?_eq_getElem (by omega)]
    rfl
theorem own_parts {B : Nat} {w : World} {v : Value} {xs : List Int} (h : Owns w B v xs) (hx : xs ≠ []) : ∃ g cap cur, v = .slice (some ⟨g, 0, none⟩) xs.length cap ∧ B ≤ g ∧ w.heap[g]? = some (.cells cur 5 (0, 0)) ∧ xs.length ≤ cap ∧ cap ≤ maxLen ∧ cur.size = cap ∧ cur.toList.take xs.length = cells8 xs := by
  obtain ⟨_, ⟨_, h0⟩ | ⟨g, cap, cur, e, hb, hg, hn, hm, hs, ht⟩⟩ := h
  · exact absurd (List.eq_nil_of_length_eq_zero h0) hx
  · exact ⟨g, cap, cur, e, hb, hg, hn, hm, by omega, by rwa [Nat.mul_one] at ht⟩
theorem own_ne {w : World} {B B' : Nat} {E E' : TypeId} {s s' n n' : Nat} {v v' : Value} {xs xs' : List Value} (h : w.ownsRow B E s v n xs) (h' : w.ownsRow B' E' s' v' n' xs') (hE : E ≠ E') : ∀ k, v.ownBlock = some k → v'.ownBlock ≠ some k := fun k hk hk' => by
  rcases h.2 with ⟨e, _⟩ | ⟨g, cap, cur, e, _, hg, _⟩
  · rw [e] at hk; cases hk
  · rcases h'.2 with ⟨e', _⟩ | ⟨g', cap', cur', e', _, hg', _⟩
    · rw [e'] at hk'; cases hk'
    · rw [e] at hk; rw [e'] at hk'
      cases hk; cases hk'
      rw [hg] at hg'
      exact hE (by injection hg' with h1; injection h1)
theorem own_grownO {w w' : World} {B : Nat} {E : TypeId} {s n : Nat} {v : Value} {xs : List Value} {r : Option Nat} (h : w.ownsRow B E s v n xs) (hg : w.grownBy w' r) (hne : ∀ k, v.ownBlock = some k → r ≠ some k) : w'.ownsRow B E s v n xs :=
  ⟨h.1, h.2.imp id fun ⟨b, cap, cur, e, hb, hh, q⟩ => ⟨b, cap, cur, e, hb, (hg.block b (heap_lt hh) (fun e2 => hne b (by rw [e]; rfl) e2.symm)).trans hh, q⟩⟩
theorem first_given (sl xs : List Int) : (∀ i, i < xs.length → gvn sl (xs.getD i 0) = false) ∨ ∃ k : Nat, k < xs.length ∧ gvn sl (xs.getD k 0) = true ∧ ∀ i, i < k → gvn sl (xs.getD i 0) = false := by
  have key : ∀ n, n ≤ xs.length → (∀ i, i < n → gvn sl (xs.getD i 0) = false) ∨ ∃ k : Nat, k < n ∧ gvn sl (xs.getD k 0) = true ∧ ∀ i, i < k → gvn sl (xs.getD i 0) = false := by
    intro n
    induction n with
    | zero => intro _; exact Or.inl (fun i hi => by omega)
    | succ n ih =>
      intro hn
      rcases ih (by omega) with h | ⟨k, h1, h2⟩
      · cases hq : gvn sl (xs.getD n 0) with
        | true => exact Or.inr ⟨n, by omega, hq, h⟩
        | false => exact Or.inl (fun i hi => by
            rcases Nat.lt_or_ge i n with h3 | h3
            · exact h i h3
            · obtain rfl : i = n := by omega
              exact hq)
      · exact Or.inr ⟨k, by omega, h2⟩
  exact key _ (Nat.le_refl _)
set_option maxRecDepth 100000 in
set_option maxHeartbeats 8000000 in
theorem deleteF_any (B : Nat) (v : Value) (xs : List Int) (g : Nat) (b : BlkS) (fv av : Value) (w : World) (h : Owns w B v xs) (hx : BlkAt w g b fv av) (hgB : g < B) (hl : b.sl.length = 64) (hlx : xs.length ≤ 1000000) (hok : ∀ x ∈ xs, 0 ≤ x ∧ x < 64) (hB : B ≤ w.heap.size) :
    Calls Tryz.prog 79 #[v, .func (.func 80) #[] #[.pointer (some ⟨g, 0, none⟩)]] w fun e w' => ∃ v', e = .returned v' ∧ Owns w' B v' (kp b.sl xs) ∧ Below B w w' ∧ w.grownBy w' v.ownBlock := by
  rcases first_given b.sl xs with hno | ⟨k, hk, hq, hbe⟩
  · have HI := Lib.hid (indexF_any v xs g b fv av w h.sees hx hl hlx hok (-1) (Or.inl ⟨rfl, hno⟩))
    have HE : Hid (Owns w B v (kp b.sl xs)) := Lib.hid (by
      have := kp_all b.sl xs xs.length (Nat.le_refl _) hno
      rw [List.take_length] at this
      rw [this]; exact h)
    clear h hx hok hno
    go_enter Tryz.func79, Tryz.ntmps79
    go_wp2_with fail
    refine HI.out.mono ?_; rintro e w' ⟨rfl, rfl⟩
    go_wp2_with fail
    go_ret
    exact ⟨_, rfl, HE.out, Below.refl _ _, World.grownBy.refl _ _⟩
  · have HI := Lib.hid (indexF_any v xs g b fv av w h.sees hx hl hlx hok k (Or.inr ⟨k, rfl, hk, hq, hbe⟩))
    obtain ⟨gb, cap, cur, rfl, hBg, -, hnc, hm, -, -⟩ := own_parts h (by intro e; rw [e] at hk; simp at hk)
    have HP := Lib.hid (fun wr (hb : Below B w wr) x h0 h1 => given1_any g b fv av x wr (hx.keepB hb hgB) hl h0 h1)
    have HOK := Lib.hid hok
    have HO : Hid (w.ownsRow B 5 1 (.slice (some ⟨gb, 0, none⟩) xs.length cap) xs.length (cells8 xs)) := Lib.hid h
    have HBG := Lib.hid hBg
    have HK0 : Hid (kp b.sl (xs.take (k + 1)) = xs.take k) := Lib.hid (by
      rw [kp_snoc b.sl xs k hk, if_pos hq]
      exact kp_all b.sl xs k (by omega) hbe)
    have HKL : Hid ((xs.take k).length = k) := Lib.hid (by rw [List.length_take]; omega)
    obtain ⟨n, hn⟩ : ∃ n, n = xs.length := ⟨_, rfl⟩
    have HN := Lib.hid hn
    have dk : (((k : Nat) : Int) == -1) = false := by simp
    have hw1 : IntKind.i64.wrap ((k : Int) + 1) = (k : Int) + 1 := IntWalk.i64_in _ (by omega)
    have HKN := Lib.hid hk
    rw [← hn] at HI hnc hlx
    rw [← hn] at HO
    rw [← hn]
    clear h hx hok hbe hq hn hBg hk
    go_enter Tryz.func79, Tryz.ntmps79
    go_wp2_with fail
    refine HI.out.mono ?_; rintro e w' ⟨rfl, rfl⟩
    go_wp2_with fail
    go_loopw [5, 6] (fun p j wr => ∃ (i jn : Nat) (ys : List Int), jn ≤ n ∧ j = .int .i64 jn ∧ p = .int .i64 i ∧ Hid (i = (kp b.sl (xs.take jn)).length ∧ ys.length = n ∧ ys.take i = kp b.sl (xs.take jn) ∧ ys.drop jn = xs.drop jn ∧ i < jn) ∧ Hid (wr.ownsRow B 5 1 (.slice (some ⟨gb, 0, none⟩) n cap) n (cells8 ys)) ∧ Hid (w.grownBy wr (some gb))) (fun _ j _ => n - (intOf j).toNat)
    case atStart =>
      refine ⟨k, k + 1, xs, by have := HKN.out; have := HN.out; omega, by go_num, rfl, Lib.hid ⟨?_, HN.out.symm, ?_, rfl, by omega⟩, HO, Lib.hid (World.grownBy.refl _ _)⟩
      · rw [HK0.out, HKL.out]
      · rw [HK0.out]
    case round =>
      obtain ⟨i, jn, ys, hjn, rfl, rfl, HY, HOr, HG⟩ := hrel
      have HBw : Hid (Below B w wr) := Lib.hid ((Below.refl B w).grown HG.out hB (fun k hk => by cases hk; exact HBG.out))
      by_cases hlt : jn < n
      · have hj2 : jn < xs.length := by have := HN.out; omega
        have hyl : ys.length = n := HY.out.2.1
        have hyj : ys.getD jn 0 = xs.getD jn 0 := by
          have h3 := HY.out.2.2.2.1
          have e1 : ys[jn]? = xs[jn]? := by
            have := congrArg (fun l => l[0]?) h3
            simpa [List.getElem?_drop] using this
          rw [List.getD_eq_getElem?_getD, List.getD_eq_getElem?_getD, e1]
        have q0 : wr.cell? ⟨gb, jn, none⟩ = some (.int .u8 (xs.getD jn 0)) := by
          rw [← hyj]
          have := World.ownsRow.cellAt (g := gb) HOr.out jn (by omega)
          rw [this, getD_cells (by omega)]
        have hm := HOK.out (xs.getD jn 0) (by
          rw [List.getD_eq_getElem?_getD, List.getElem?_eq_getElem hj2]
          exact List.getElem_mem hj2)
        have HPC := Lib.hid (HP.out wr HBw.out _ hm.1 hm.2)
        have b0 : (0 : Int) ≤ (jn : Int) := by omega
        have b1 : (jn : Int) < (n : Int) := by omega
        have d1 : decide ((jn : Int) < (n : Int)) = true := by simp; omega
        have hwj : IntKind.i64.wrap ((jn : Int) + 1) = (jn : Int) + 1 := IntWalk.i64_in _ (by omega)
        have hwi : IntKind.i64.wrap ((i : Int) + 1) = (i : Int) + 1 := IntWalk.i64_in _ (by have := HY.out.2.2.2.2; omega)
        have HSN := Lib.hid (kp_snoc b.sl xs jn hj2)
        have HLT := Lib.hid hlt
        have HGD : Hid (xs.drop (jn + 1) = (xs.drop jn).drop 1 ∧ ys.drop (jn + 1) = (ys.drop jn).drop 1) := Lib.hid (by simp [List.drop_drop])
        cases hq : gvn b.sl (xs.getD jn 0) with
        | true =>
          rw [hq] at HPC
          have HY2 : Hid (i = (kp b.sl (xs.take (jn + 1))).length ∧ ys.length = n ∧ ys.take i = kp b.sl (xs.take (jn + 1)) ∧ ys.drop (jn + 1) = xs.drop (jn + 1) ∧ i < jn + 1) := Lib.hid (by
            obtain ⟨h1, h2, h3, h4, h5⟩ := HY.out
            rw [HSN.out, if_pos hq]
            exact ⟨h1, h2, h3, by rw [HGD.out.1, HGD.out.2, h4], by omega⟩)
          generalize xs.getD jn 0 = x at *
          clear hq hm hlt hyj hj2
          go_wp2_with fail
          refine HPC.out.mono ?_; rintro e w' ⟨rfl, rfl⟩
          go_wp2_with fail
          clear q0
          go_roundw
          case rel => exact ⟨i, jn + 1, ys, HLT.out, by go_num, rfl, HY2, HOr, HG⟩
          case measure => simp [intOf]; have := HLT.out; omega
        | false =>
          rw [hq] at HPC
          have hst := World.ownsRow.stored (g := gb) (cap := cap) HOr.out i (.int .u8 (xs.getD jn 0))
          have hin : i < n := by have := HY.out.2.2.2.2; omega
          have HOs : Hid ((wr.setCell ⟨gb, i, none⟩ (.int .u8 (xs.getD jn 0))).ownsRow B 5 1 (.slice (some ⟨gb, 0, none⟩) n cap) n (cells8 (ys.set i (xs.getD jn 0)))) := Lib.hid (by
            have h1 := hst.1
            rw [show cells8 (ys.set i (xs.getD jn 0)) = (cells8 ys).set i (.int .u8 (xs.getD jn 0)) from by unfold cells8; rw [List.map_set]]
            exact h1)
          have HBs : Hid (w.grownBy (wr.setCell ⟨gb, i, none⟩ (.int .u8 (xs.getD jn 0))) (some gb)) := Lib.hid (grown_trans HG.out (grown_set wr gb i _))
          have HY2 : Hid (i + 1 = (kp b.sl (xs.take (jn + 1))).length ∧ (ys.set i (xs.getD jn 0)).length = n ∧ (ys.set i (xs.getD jn 0)).take (i + 1) = kp b.sl (xs.take (jn + 1)) ∧ (ys.set i (xs.getD jn 0)).drop (jn + 1) = xs.drop (jn + 1) ∧ i + 1 < jn + 1) := Lib.hid (by
            obtain ⟨h1, h2, h3, h4, h5⟩ := HY.out
            rw [HSN.out, if_neg (by rw [hq]; simp)]
            refine ⟨by rw [List.length_append, ← h1]; rfl, by rw [List.length_set]; exact h2, ?_, ?_, by omega⟩
            · rw [← h3, List.take_add_one, List.take_set_of_le (Nat.le_refl _), List.getElem?_set_self (by omega)]; rfl
            · rw [List.drop_set_of_lt (by omega), HGD.out.1, HGD.out.2, h4])
          have k1 : wr.cell? ⟨gb, i, none⟩ = some (.int .u8 (ys.getD i 0)) := by
            have := World.ownsRow.cellAt (g := gb) HOr.out i (by omega)
            rw [this, getD_cells (by omega)]
          have k2 : wr.frozen? ⟨gb, i, none⟩ = false := World.ownsRow.frozenAt (g := gb) HOr.out i
          have i0 : (0 : Int) ≤ (i : Int) := by omega
          have i1 : (i : Int) < (n : Int) := by omega
          generalize xs.getD jn 0 = x at *
          clear hq hm hlt hyj hj2 hst hin
          go_wp2_with fail
          refine HPC.out.mono ?_; rintro e w' ⟨rfl, rfl⟩
          go_wp2_with fail
          clear q0 k1 k2
          go_roundw
          case rel => exact ⟨i + 1, jn + 1, _, HLT.out, by go_num, by go_num, HY2, HOs, HBs⟩
          case measure => simp [intOf]; have := HLT.out; omega
      · obtain rfl : jn = n := by omega
        have d1 : decide ((jn : Int) < (jn : Int)) = false := by simp
        have hin : i < jn := HY.out.2.2.2.2
        have hyl : ys.length = jn := HY.out.2.1
        have hyt : ys.take i = kp b.sl xs := by
          have := HY.out.2.2.1
          rwa [HN.out, List.take_length] at this
        obtain ⟨g', cap', cur, he, -, hg, hnc', -, hs, ht⟩ := own_parts (xs := ys) (show Owns wr B _ ys by have := HOr.out; unfold Owns; rw [hyl]; exact this) (by intro e; rw [e] at hyl; simp at hyl; omega)
        obtain ⟨rfl, rfl⟩ : gb = g' ∧ cap = cap' := by cases he; exact ⟨rfl, rfl⟩
        obtain ⟨cur', h1, h2, h3, h4⟩ := setCells_row gb 5 (List.replicate (jn - i) (.int .u8 0)) i wr cur hg (by simp; omega)
        have hcl : ∀ ty c', (Builtin.clear_ #[25] ty #[.slice (some ⟨gb, i, none⟩) (jn - i) c']).run Tryz.prog wr = .ok (.tuple #[]) (wr.setCells gb i (List.replicate (jn - i) (.int .u8 0))) := fun ty c' =>
          Lib.run_clear_slice wr 25 5 ty (.int .u8 0) Tryz.underlying25 (fun w => Tryz.zeroValue5 w) rfl rfl gb i (jn - i) c' (by omega) (fun t ht => by
            rw [World.ownsRow.cellAt (g := gb) HOr.out (i + t) (by omega), getD_cells (by omega)]; rfl) (fun t _ => World.ownsRow.frozenAt (g := gb) HOr.out _)
        have HKN2 : Hid ((kp b.sl xs).length = i) := Lib.hid (by rw [← hyt, List.length_take]; omega)
        have HEND : Hid (Owns (wr.setCells gb i (List.replicate (jn - i) (.int .u8 0))) B (.slice (some ⟨gb, 0, none⟩) i cap) (kp b.sl xs) ∧ Below B w (wr.setCells gb i (List.replicate (jn - i) (.int .u8 0))) ∧ w.grownBy (wr.setCells gb i (List.replicate (jn - i) (.int .u8 0))) (some gb)) := Lib.hid (by
          refine ⟨⟨by simp, Or.inr ⟨gb, cap, cur', by rw [HKN2.out], HBG.out, h1, by rw [HKN2.out]; omega, hm, by omega, ?_⟩⟩, HBw.out.grown h4 (Nat.le_trans hB HBw.out.size) (fun k hk => by cases hk; exact HBG.out), grown_trans HG.out h4⟩
          rw [Nat.mul_one, HKN2.out, ← hyt]
          have e1 := congrArg (List.take i) h3
          rw [List.take_take, Nat.min_eq_left (by omega), List.take_append_of_le_length (by rw [List.length_take]; simp; omega), List.take_take, Nat.min_self] at e1
          rw [e1]
          have e2 := congrArg (List.take i) ht
          rw [List.take_take, Nat.min_eq_left (by omega)] at e2
          rw [e2]
          unfold cells8
          rw [List.map_take])
        have hci : ¬ (cap = i) := by omega
        have i0 : (0 : Int) ≤ (i : Int) := by omega
        have i1 : (i : Int) ≤ (jn : Int) := by omega
        have i2 : (i : Int) ≤ (cap : Int) := by omega
        have hc63 : (cap : Int) ≤ 9223372036854775807 := by unfold maxLen at hm; omega
        clear hyt he hg hnc' hs ht h1 h2 h3 h4 hyl
        go_wp2_with fail
        go_ret
        exact ⟨_, rfl, HEND.out⟩
end
end Go.Proofs.YtgodmnpcedfdcaaGreat
