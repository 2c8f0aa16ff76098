/- Package recs: the document's row of a pool's blocks. -/
import Derived.Test.YtcfmknocpjjklaaRcFrom
namespace Go.Proofs.Ytcfmknocpjjklaa
open Go.RowKit
theorem info32 : (Try.prog.info? 22).map (fun i => (i.zero, i.size, i.bytes)) = some (some (.int .u32 0), 1, 4) := by kernel_rfl
abbrev cells32 (xs : List Int) : List Value := xs.map (Value.int .u32)
/-- A row of the call's own that holds these numbers. -/
abbrev OwnsU (w : World) (B : Nat) (v : Value) (xs : List Int) : Prop := w.ownsRow B 22 1 v xs.length (cells32 xs)
theorem OwnsU.keep {w w' : World} {B : Nat} {v : Value} {xs : List Int} (h : OwnsU w B v xs) (hb : Below w.heap.size w w') : OwnsU w' B v xs :=
  ⟨h.1, h.2.imp id fun ⟨g, cap, cur, e, hB, hg, r⟩ => ⟨g, cap, cur, e, hB, (hb.block g (heap_lt hg)).trans hg, r⟩⟩
theorem OwnsU.nil (w : World) (B : Nat) : OwnsU w B (.slice none 0 0) [] := World.ownsRow_nil _ _ _ _
def blkL (a : Int) (n : Nat) : List Int := (List.range n).map (fun (i : Nat) => a + 64 * (i : Int))
theorem blkL_length (a : Int) (n : Nat) : (blkL a n).length = n := by unfold blkL; simp
theorem blkL_snoc (a : Int) (n : Nat) : blkL a (n + 1) = blkL a n ++ [a + 64 * (n : Int)] := by
  unfold blkL
  rw [List.range_succ, List.map_append]
  rfl
theorem Cell3.grown {g : Nat} {a b : Int} {o : Bool} {w w' : World} {r : Option Nat} (h : Cell3 g a b o w) (k : w.grownBy w' r) (hr : r ≠ some g) : Cell3 g a b o w' := by
  have he := k.block g h.2.2.2 (fun e => hr e.symm)
  have hc : ∀ i, w'.cell? ⟨g, i, none⟩ = w.cell? ⟨g, i, none⟩ := fun i => by simp only [World.cell?, he]
  exact ⟨(hc 0).trans h.1, (hc 1).trans h.2.1, (hc 2).trans h.2.2.1, Nat.lt_of_lt_of_le h.2.2.2 k.size⟩
theorem size_blocks {a b : Int} (hr : rightB a b = true) : sizeI a b = nB a b * 64 := by
  obtain ⟨hm, h1, h2⟩ := right_may hr
  obtain ⟨e1, e2⟩ := nB_yes hr
  have hh := hole_mul (b := b) (c := 26) (by omega) h2 (by decide)
  rw [hole26] at hh
  unfold sizeI
  rw [if_pos hm, e1, e2]
  exact hh.symm
set_option maxRecDepth 100000 in
set_option maxHeartbeats 8000000 in
theorem refBlocks_any (a b : Int) (o : Bool) (ha : 0 ≤ a) (ha' : a < 4294967296) (hb : -9223372036854775808 ≤ b) (hb' : b ≤ 9223372036854775807) (w : World) :
    Calls Try.prog 19 #[.agg #[.int .u32 a, .int .i64 b, .bool o]] w fun e w' => ∃ v, e = .returned v ∧ OwnsU w' w.heap.size v (blkL a (nB a b).toNat) ∧ Below w.heap.size w w' := by
  obtain ⟨i0, hi, hz0, hz1, hz2⟩ := info_parts info32
  have HQ := Lib.hid (fun w => refRight13_any a b o ha ha' hb hb' w)
  have HZ := Lib.hid (fun w => refSize_any a b ha ha' hb hb' w)
  obtain ⟨n0, n1, n2, n3⟩ := nB_bd (b := b) ha ha'
  have hc := Cell3.new w a b o 26
  have hb0 := belNew w (poolO a b o 26)
  cases hr : rightB a b with
  | false =>
    rw [hr] at HQ
    have HN : Hid (blkL a (nB a b).toNat = []) := Lib.hid (by rw [nB_no hr]; rfl)
    clear hr n0 n1 n2 n3
    go_enter Try.func19, Try.ntmps19
    obtain ⟨c0, c1, c2, c3⟩ := id hc
    go_wp2_with fail
    refine (HQ.out _).mono ?_; rintro e w1 ⟨rfl, hb1⟩
    go_wp2_with fail
    go_ret
    exact ⟨_, rfl, by rw [HN.out]; exact OwnsU.nil _ _, bel hb0 hb1⟩
  | true =>
    rw [hr] at HQ
    rw [size_blocks hr] at HZ
    replace n3 := n3 hr
    clear n2 hr
    obtain ⟨N, hN⟩ : ∃ N : Nat, nB a b = (N : Int) := ⟨(nB a b).toNat, by omega⟩
    rw [hN] at HZ n0 n1 n3 ⊢
    have hNt : ((N : Int)).toNat = N := by omega
    rw [hNt]
    have hdv : (N : Int) * 64 / 64 = (N : Int) := by omega
    clear hN hNt
    go_enter Try.func19, Try.ntmps19
    obtain ⟨c0, c1, c2, c3⟩ := id hc
    go_wp2_with fail
    refine (HQ.out _).mono ?_; rintro e w1 ⟨rfl, hb1⟩
    have hc1 := hc.keep hb1
    have hB1 := bel hb0 hb1
    clear c0 c1 c2 c3 hb1 hb0
    go_wp2_with fail
    go_loopw [3, 4] (fun v j wr => ∃ i : Nat, i ≤ N ∧ j = .int .i64 i ∧ OwnsU wr (w.heap.size + 1) v (blkL a i) ∧ Cell3 w.heap.size a b o wr ∧ Below w.heap.size w wr) (fun _ j _ => N - (intOf j).toNat)
    case atStart => exact ⟨0, Nat.zero_le _, rfl, OwnsU.nil _ _, hc1, hB1⟩
    case round =>
      obtain ⟨i, hik, rfl, hown, hcr, hbel⟩ := hrel
      obtain ⟨x0, x1, x2, x3⟩ := id hcr
      by_cases hlt : i < N
      · go_wp2_with fail
        refine (HZ.out _).mono ?_; rintro e w2 ⟨rfl, hb2⟩
        have hc2 := hcr.keep hb2
        have hB2 := bel hbel hb2
        have hown2 := hown.keep hb2
        have hs2 := hc2.2.2.2
        clear hown hcr hbel x0 x1 x2 x3 hb2
        obtain ⟨y0, y1, y2, y3⟩ := id hc2
        have hlen := blkL_length a i
        have s1 : IntKind.i64.wrap (64 * (i : Int)) = 64 * i := IntWalk.i64_in _ (by omega)
        go_wp2_with (first | (at_builtin; refine wpList_append_own _ rfl _ _ 49 rfl (w.heap.size + 1) 22 i0 (.int .u32 0) 1 4 Try.underlying49 hi hz0 hz1 hz2 rfl (by decide) _ _ _ rfl (hown2.alloc _) ⟨w2.heap.size, 0, none⟩ 1 1 [.int .u32 (a + 64 * (i : Int))] rfl rfl ?qc1 ?qc2 ?qc3 ?qc4 ?qc5 ?_) | go_in)
        case qc1 =>
          intro j u hj
          match j, hj with
          | 0, hj =>
            simp at hj
            subst hj
            rw [add0]
            simp
          | j + 1, hj => simp at hj
        case qc2 => first | rfl | (intro u hu; simp at hu; subst hu; rfl)
        case qc3 => unfold maxLen; omega
        case qc4 => omega
        case qc5 => first | omega | (simp; omega)
        intro v' w3 hown' hgrow _
        go_wp2
        go_roundw
        case rel =>
          refine ⟨i + 1, by omega, by go_num, ?_, ?_, ?_⟩
          · unfold OwnsU cells32
            rw [blkL_snoc, List.length_append, hlen]
            simpa only [List.length_singleton, List.map_append, List.map_cons, List.map_nil] using hown'
          · exact (hc2.keep (belNew _ _)).grown hgrow (fun e => by have := (hown2.lt _ e).1; omega)
          · exact (belAlloc hB2 _).grown hgrow (by simp; omega) (fun g hg => by have := (hown2.lt g hg).1; omega)
        case measure => simp [intOf]; omega
      · obtain rfl : i = N := by omega
        go_wp2_with fail
        refine (HZ.out _).mono ?_; rintro e w2 ⟨rfl, hb2⟩
        have hown2 := hown.keep hb2
        go_wp2_with fail
        go_ret
        exact ⟨_, rfl, ⟨hown2.1, hown2.2.imp id fun ⟨g, cap, cur, e, hB, r⟩ => ⟨g, cap, cur, e, by omega, r⟩⟩, bel hbel hb2⟩
end Go.Proofs.Ytcfmknocpjjklaa
