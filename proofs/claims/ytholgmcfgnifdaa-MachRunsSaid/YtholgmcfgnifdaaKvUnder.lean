/- Package kv: under, All: the items whose keys begin so, in order, in memory of the call's own. -/
import Derived.Test.YtholgmcfgnifdaaKvRow
import Derived.Deep.LoopGhost
import Derived.LoopN
import Derived.Laws.IdiomRangeMap
namespace Go.Proofs.Ytholgmcfgnifdaa
open Go.RowKit Go.Maps Go.Shelf
/-- Those whose keys begin so. -/
def begins (s : ByteArray) (k : List UInt8) : Bool := Lib.hasPrefix k (kl s)
def beginL (L : List KEnt) (s : ByteArray) : List KEnt := L.filter (fun p => begins s p.1)
theorem rising_ents {L : List KEnt} : Rising L → True := fun _ => trivial
set_option maxRecDepth 100000 in
set_option maxHeartbeats 4000000 in
theorem under_some (g b : Nat) (rv : Int) (L : List KEnt) (s : ByteArray) (w : World) (h : w.heap[g]? = some (.cells #[.int .i64 rv, .map (some b)] 79 (0, 0))) (hm : MapIs w b L.length (entsV L)) (hr : Rising L) (hn : L.length ≤ 1000000) :
    Calls Try.prog 30 #[ptr g, .string s] w fun e w' => ∃ v, e = .returned v ∧ RowI w' w.heap.size v (beginL L s) ∧ Below w.heap.size w w' := by
  have HH := Lib.hid (held_any g rv (some b) w h)
  have HR := Lib.hid hr
  have hown : w.ownsMap Try.prog 9 Rv b L.length (datum (entsV L)) := hm
  have HSZ : Hid (Maps.size (datum (entsV L)) = L.length) := Lib.hid (datum_size L)
  have HP : Hid (∀ (k : List UInt8) (w' : World), Calls Try.prog 40 #[.string ⟨k.toArray⟩, .string s] w' fun e w'' => e = .returned (.bool (begins s k)) ∧ w'' = w') := Lib.hid (fun k w' => Try.strings_HasPrefix ⟨k.toArray⟩ s w')
  have hbl := hm.lt
  clear h hr hm
  go_enter Try.func30, Try.ntmps30
  go_wp2_with (first
    | (go_at_call 39; refine HH.out.mono ?_; rintro e w' ⟨rfl, rfl⟩)
    | (at_range; refine wpList_range_own _ rfl _ 77 rfl 9 76 keyedS Try.underlying77 Rv b L.length (datum (entsV L)) rfl hown ?_; intro w0 hrg0 hg0 hs0)
    | go_in)
  go_frame
  have HG0 := Lib.hid hg0
  clear hs0
  go_loopw [5] (fun v wr => ∃ (T : List KEnt) (left : Lit → Bool) (cnt : Nat), wr.ranges Try.prog 9 Rv b w.heap.size L.length (datum (entsV L)) left cnt ∧ RowI wr (w.heap.size + 1) v T ∧ Aside (Met L (begins s) left T) ∧ T.length + cnt ≤ L.length ∧ Below w.heap.size w wr ∧ w.heap.size < wr.heap.size)
    (fun _ wr => wr.rangeLeft b w.heap.size)
  case atStart =>
    refine ⟨[], _, _, hrg0, World.ownsRow_nil _ _ _ _, Met.start L _, by rw [HSZ.out]; simp, (Below.refl _ w).grown hg0 (Nat.le_refl _) (fun j hj => by cases hj), hrg0.lt⟩
  case round =>
    obtain ⟨T, left, cnt, hrg, hrow, hM, hcnt, hB, hlt0⟩ := hrel
    go_wp2_with (first
      | (at_next; refine wpList_next_ranges _ rfl _ rfl 9 keyedS Rv encStr id (fun key kl hk => by obtain ⟨x, hx, _⟩ := Maps.keyOf_str Try.underlying9 hk; exact ⟨x, hx⟩) (fun v _ _ => ⟨v, rfl⟩) b w.heap.size L.length _ _ _ rfl hrg ?_ ?_)
      | go_in)
    · -- nothing is left
      intro _ hl0
      have HL0 := Lib.hid hl0
      have HB := Lib.hid hB
      go_wp2_with (first
        | (go_at_call 41; refine (sort_any wr (w.heap.size + 1) u5 T hrow hM.out.1 (by omega)).mono ?_; rintro e w2 ⟨rfl, T', hperm, hris, hrow2, ht2⟩)
        | fail)
      go_ret
      have e := hM.out.done HR.out HL0.out hperm hris
      refine ⟨_, rfl, ?_, HB.out.trans (ht2.below HB.out.size (fun i hi => Nat.le_of_succ_le (World.ownsRow.lt hrow i hi).1))⟩
      rw [e] at hrow2
      exact row_leE hrow2 (Nat.le_succ _)
    · intro x c kl0 yd yp w1 cnt1 hkey hlx hv hat hrg1 hlt hg1 hs1 hen
      obtain ⟨x', ex, rfl, hxl⟩ := Maps.keyOf_str Try.underlying9 hkey
      obtain rfl : x = x' := encStr_inj ex
      have hy : yd = .held c := by unfold Rv at hv; exact (congrArg Prod.fst (Option.some.inj hv)).symm
      subst hy
      obtain ⟨u, hu, rfl⟩ := dat_at hat
      have hM2 := hM.out.step HR.out (getE_memL hu) hlx
      have hb1 : Below w.heap.size w w1 := hB.grown hg1 (by omega) (fun j hj => by cases hj; exact Nat.le_refl _)
      have hrow1 : RowI w1 (w.heap.size + 1) u5 T := World.ownsRow.kept hrow hg1 (by
        cases hv : u5.ownBlock with
        | none => exact Or.inl rfl
        | some d => exact Or.inr (fun e => by have h1 := (World.ownsRow.lt hrow d hv).1; have h2 := Option.some.inj e; omega))
      have hl1 : w.heap.size < w1.heap.size := by rw [hs1]; exact hlt0
      have HLX := Lib.hid (And.intro hg1 (And.intro hlt hrg1))
      have HB1 := Lib.hid hb1
      clear hs1 hat hu hkey hv ex hb1 hlx
      simp only [itV, encStr] at hen ⊢
      cases hp : begins s x with
      | true =>
        have HPx := HP.out x
        rw [hp] at HPx
        rw [if_pos hp] at hM2
        have HPX := Lib.hid HPx
        have HM2 := Lib.hid hM2
        clear HPx hM2 hp
        have hrow2 := hrow1.alloc (.cells #[.string ⟨x.toArray⟩, .string u.1, .int .i64 u.2] 76)
        go_wp2_with (first
          | (go_at_call 40; refine (HPX.out _).mono ?_; rintro e w' ⟨rfl, rfl⟩)
          | (at_builtin; refine wpList_push Try.underlying47 infoK rfl (.tmp 19) (.tmp 21) rfl (w.heap.size + 1) u5 T ⟨x.toArray⟩ u (w1.heap.size + 1) (by simp) rfl rfl hrow2 (by omega) (by simp; omega) ?_; intro v2 w2 hrow3 hb2 hg2)
          | go_in)
        have hn0 : u5.ownBlock ≠ some w.heap.size := fun e => by have h1 := (World.ownsRow.lt hrow1 _ e).1; omega
        have hnb : u5.ownBlock ≠ some b := fun e => by have h1 := (World.ownsRow.lt hrow1 _ e).1; omega
        have hrg2 := (HLX.out.2.2.alloc (.cells #[.string ⟨x.toArray⟩, .string u.1, .int .i64 u.2] 76)).kept hg2 (fun e => hnb e.symm) (fun e => hn0 e.symm)
        go_roundw
        case rel =>
          refine ⟨T ++ [(x, u)], _, cnt1, hrg2, hrow3, HM2.out, by have := HLX.out.2.1; rw [List.length_append]; simp; omega, (belAlloc HB1.out _).trans (hb2.mono (Nat.le_succ _)), ?_⟩
          have := hb2.size
          have h4 := HLX.out.1
          have := hg2.size
          simp at this
          omega
        case measure => rw [hrg2.left_eq, hrg.left_eq]; exact HLX.out.2.1
      | false =>
        have HPx := HP.out x
        rw [hp] at HPx
        rw [if_neg (by rw [hp]; simp)] at hM2
        have HPX := Lib.hid HPx
        have HM2 := Lib.hid hM2
        clear HPx hM2 hp
        go_wp2_with (first
          | (go_at_call 40; refine (HPX.out _).mono ?_; rintro e w' ⟨rfl, rfl⟩)
          | go_in)
        have hrg2 := HLX.out.2.2.alloc (.cells #[.string ⟨x.toArray⟩, .string u.1, .int .i64 u.2] 76)
        go_roundw
        case rel =>
          refine ⟨T, _, cnt1, hrg2, hrow1.alloc _, HM2.out, by have := HLX.out.2.1; omega, belAlloc HB1.out _, by simp; omega⟩
        case measure => rw [hrg2.left_eq, hrg.left_eq]; exact HLX.out.2.1
end Go.Proofs.Ytholgmcfgnifdaa
