/- maps.Equal at maps of items; kv.Same. -/
import Derived.Test.YtogcjginifcbpaaKvUnder2
import Derived.Test.YtogcjginifcbpaaKvInv
namespace Go.Proofs.Ytogcjginifcbpaa
open Go.RowKit Go.Maps Go.Shelf
/-- A map, or none, that has these. -/
def MapL (w : World) (mb : Option Nat) (L : List KEnt) : Prop := (∀ b, mb = some b → MapIs w b L.length (entsV L)) ∧ (mb = none → L = [])
theorem MapL.below {w w' : World} {mb : Option Nat} {L : List KEnt} (h : MapL w mb L) (hb : Below w.heap.size w w') : MapL w' mb L :=
  ⟨fun b e => (h.1 b e).heap (hb.block b (h.1 b e).lt), h.2⟩
theorem mapLen {w : World} {mb : Option Nat} {L : List KEnt} (h : MapL w mb L) (ty : TypeId) : (Builtin.len_ #[90] ty #[.map mb]).run Try.prog w = .ok (.int .i64 L.length) w := by
  cases mb with
  | none => rw [h.2 rfl]; simp [Builtin.len_, run_underlying Try.underlying90, goInt, Result.andThen]
  | some b =>
    have := World.ownsMap.len (h.1 b rfl) (t := 90) Try.underlying90 ty
    rw [datum_size] at this
    exact this
theorem rising_ext {A B : List KEnt} (ha : Rising A) (hb : Rising B) (h : ∀ p, p ∈ A ↔ p ∈ B) : A = B := by
  have nd : ∀ {M : List KEnt}, Rising M → M.Nodup := fun hM => hM.imp fun {a b} hab e => by rw [e, WideAt.bytes_irrefl] at hab; cases hab
  have hperm : A.Perm B := (List.perm_ext_iff_of_nodup (nd ha) (nd hb)).2 h
  refine List.Perm.eq_of_pairwise (le := fun (a b : KEnt) => bytesBefore a.1 b.1 = true) (fun a b _ _ h1 h2 => ?_) ha hb hperm
  have := WideShapes.bytes_trans _ _ _ h1 h2
  rw [WideAt.bytes_irrefl] at this; cases this
open Classical in
theorem rising_sub {A B : List KEnt} (ha : Rising A) (hb : Rising B) (hl : A.length = B.length) (h : ∀ p ∈ A, p ∈ B) : A = B := by
  have hf : A = B.filter (fun p => decide (p ∈ A)) := rising_ext ha (List.Pairwise.filter _ hb) (fun p => by
    rw [List.mem_filter]
    exact ⟨fun hp => ⟨h p hp, by simpa using hp⟩, fun hp => by simpa using hp.2⟩)
  have hlen : (B.filter (fun p => decide (p ∈ A))).length = B.length := by rw [← hf]; exact hl
  have hall := List.length_filter_eq_length_iff.1 hlen
  rw [hf]
  exact List.filter_eq_self.2 hall
theorem getE_of_mem {L : List KEnt} (hr : Rising L) {k : List UInt8} {u : ByteArray × Int} (h : (k, u) ∈ L) : getE L k = some u := by
  cases hg : getE L k with
  | none =>
    unfold getE at hg
    rw [Option.map_eq_none_iff] at hg
    have := List.find?_eq_none.1 hg (k, u) h
    simp at this
  | some v =>
    have hv := getE_memL hg
    have := hr.keys h hv rfl
    rw [Prod.mk.injEq] at this
    rw [this.2]
set_option maxRecDepth 100000 in
set_option maxHeartbeats 4000000 in
theorem mapsEq_some (b : Nat) (mb2 : Option Nat) (L1 L2 : List KEnt) (w : World) (hm : MapIs w b L1.length (entsV L1)) (h2 : MapL w mb2 L2) (hr1 : Rising L1) (hr2 : Rising L2) (_ : L1.length ≤ 1000000) (hks : ∀ p ∈ L1, p.1.length ≤ maxLen) (hl : L1.length = L2.length) :
    Calls Try.prog 56 #[.map (some b), .map mb2] w fun e w' => e = .returned (.bool (decide (L1 = L2))) ∧ Below w.heap.size w w' := by
  have hl1 := mapLen (w := w) (mb := some b) (L := L1) ⟨fun b' e => by cases e; exact hm, fun e => by cases e⟩
  have hl2 := mapLen h2
  rw [← hl] at hl2
  have dne : ((L1.length : Int) != (L1.length : Int)) = false := by simp
  have hown : w.ownsMap Try.prog 9 Rv b L1.length (datum (entsV L1)) := hm
  have HR := Lib.hid (And.intro hr1 (And.intro hr2 (And.intro hks hl)))
  have HSZ : Hid (Maps.size (datum (entsV L1)) = L1.length) := Lib.hid (datum_size L1)
  have HLK : Hid (∀ w', Below w.heap.size w w' → LookL w' mb2 L2) := Lib.hid (fun w' hb => look_of (h2.below hb).1 h2.2)
  have HNE := Lib.hid neItem
  have hbl := hm.lt
  generalize hB : decide (L1 = L2) = B
  have HB := Lib.hid hB
  clear hB hm h2 hr1 hr2 hks hl
  go_enter Try.func56, Try.ntmps56
  go_wp2_with (first
    | (at_range; refine wpList_range_own _ rfl _ 90 rfl 9 73 keyedS Try.underlying90 Rv b L1.length (datum (entsV L1)) rfl hown ?_; intro w0 hrg0 hg0 hs0)
    | go_in)
  go_frame
  have HG0 := Lib.hid hg0
  clear hs0 hl1 hl2
  go_loopw [] (fun wr => ∃ (T : List KEnt) (left : Lit → Bool) (cnt : Nat), wr.ranges Try.prog 9 Rv b w.heap.size L1.length (datum (entsV L1)) left cnt ∧ Aside (Met L1 (fun _ => true) left T) ∧ Aside (∀ p ∈ T, p ∈ L2) ∧ Below w.heap.size w wr ∧ w.heap.size < wr.heap.size)
    (fun wr => wr.rangeLeft b w.heap.size)
  case atStart =>
    refine ⟨[], _, _, hrg0, Met.start L1 _, fun p hp => (by cases hp), (Below.refl _ w).grown hg0 (Nat.le_refl _) (fun j hj => by cases hj), hrg0.lt⟩
  case round =>
    obtain ⟨T, left, cnt, hrg, hM, hT, hBw, hlt0⟩ := hrel
    go_wp2_with (first
      | (at_next; refine wpList_next_ranges _ rfl _ rfl 9 keyedS Rv encStr id (fun key kl hk => by obtain ⟨x, hx, _⟩ := Maps.keyOf_str Try.underlying9 hk; exact ⟨x, hx⟩) (fun v _ _ => ⟨v, rfl⟩) b w.heap.size L1.length _ _ _ rfl hrg ?_ ?_)
      | go_in)
    · -- nothing is left
      intro _ hl0
      have HL0 := Lib.hid hl0
      have HBw := Lib.hid hBw
      go_wp2_with fail
      go_ret
      refine ⟨congrArg (fun b : Bool => Ending.returned (.bool b)) ?_, HBw.out⟩
      rw [← HB.out]
      refine (decide_eq_true (rising_sub HR.out.1 HR.out.2.1 HR.out.2.2.2 (fun p hp => hT.out p ?_))).symm
      exact (hM.out.2 p).2 ⟨hp, rfl, HL0.out _⟩
    · intro x c kl0 yd yp w1 cnt1 hkey hlx hv hat hrg1 hlt hg1 hs1 hen
      obtain ⟨x', ex, rfl, hxl⟩ := Maps.keyOf_str Try.underlying9 hkey
      obtain rfl : x = x' := encStr_inj ex
      have hy : yd = .held c := by unfold Rv at hv; exact (congrArg Prod.fst (Option.some.inj hv)).symm
      subst hy
      obtain ⟨u, hu, rfl⟩ := dat_at hat
      have hmem := getE_memL hu
      have hM2 := hM.out.step HR.out.1 hmem hlx
      rw [if_pos rfl] at hM2
      have hb1 : Below w.heap.size w w1 := hBw.grown hg1 (by omega) (fun j hj => by cases hj; exact Nat.le_refl _)
      have hl1 : w.heap.size < w1.heap.size := by rw [hs1]; exact hlt0
      have hxs : (⟨x.toArray⟩ : ByteArray).size ≤ maxLen := by have := HR.out.2.2.1 (x, u) hmem; simpa [ByteArray.size] using this
      have HLX := Lib.hid (And.intro hg1 (And.intro hlt (And.intro hrg1 hl1)))
      have HB1 := Lib.hid hb1
      have HM2 := Lib.hid hM2
      have HME := Lib.hid hmem
      have HCN := Lib.hid hrg.left_eq
      obtain ⟨w2, hw2⟩ : ∃ w2, w2 = w1.alloc (.cells #[.string ⟨x.toArray⟩, .string u.1, .int .i64 u.2] 73) := ⟨_, rfl⟩
      have hb2 : Below w1.heap.size w1 w2 := by rw [hw2]; exact belNew _ _
      have hx2 : w2.heap[w1.heap.size]? = some (.cells #[.string ⟨x.toArray⟩, .string u.1, .int .i64 u.2] 73 (0, 0)) := by rw [hw2]; exact heap_alloc_new w1 _
      have hrg2 := hrg1.alloc (.cells #[.string ⟨x.toArray⟩, .string u.1, .int .i64 u.2] 73)
      rw [← hw2] at hrg2
      have hlk := HLK.out w2 (hb1.trans (hb2.mono hb1.size)) ⟨x.toArray⟩ hxs
      have HW2 := Lib.hid hw2
      have HR2 := Lib.hid (And.intro hrg2 (hb1.trans (hb2.mono hb1.size)))
      have hgu : gotU L2 ⟨x.toArray⟩ = match getE L2 x with | some u => (⟨x.toArray⟩, u) | none => (emp, emp, 0) := rfl
      have hth : there L2 ⟨x.toArray⟩ = (getE L2 x).isSome := rfl
      rw [hgu, hth] at hlk
      clear hs1 hat hu hkey hv ex hb1 hlx hgu hth hw2 hb2 hrg2 hmem hM2 hrg hM
      simp only [itV, encStr] at hen ⊢
      cases hg2 : getE L2 x with
      | none =>
        rw [hg2] at hlk
        simp only [Option.isSome_none] at hlk
        have HNO : Hid (B = false) := Lib.hid (by
          rw [← HB.out]
          refine decide_eq_false (fun e => ?_)
          have := getE_of_mem (e ▸ HR.out.1) (e ▸ HME.out)
          rw [this] at hg2
          cases hg2)
        clear hg2
        go_upto_region 6 with fail
        change Code.wp _ _ _ _ (w1.alloc (.cells #[.string ⟨x.toArray⟩, .string u.1, .int .i64 u.2] 73))
        rw [← HW2.out]
        go_wp2_with fail
        go_ret
        exact ⟨congrArg (fun b : Bool => Ending.returned (.bool b)) HNO.out.symm, belAlloc HR2.out.2 _⟩
      | some u2 =>
        rw [hg2] at hlk
        simp only [Option.isSome_some] at hlk
        obtain ⟨y0, y1, y2⟩ := rcells (((belNew w2 (.cells #[.string ⟨x.toArray⟩, .string u2.1, .int .i64 u2.2] 73)).block _ (heap_lt hx2)).trans hx2)
        have hne : ∀ w', (binOp .neq 73 (.agg #[.string ⟨x.toArray⟩, .string u.1, .int .i64 u.2]) (.agg #[.string ⟨x.toArray⟩, .string u2.1, .int .i64 u2.2])).run Try.prog w' = .ok (.bool (!decide (u = u2))) w' := fun w' => by
          have h1 := neItem ⟨x.toArray⟩ u.1 ⟨x.toArray⟩ u2.1 u.2 u2.2 w'
          have h2 := item_eq (p := (x, u)) (q := (x, u2))
          simp only [] at h2
          rw [h2] at h1
          rw [h1]
          simp
        cases huu : decide (u = u2) with
        | false =>
          have HNO : Hid (B = false) := Lib.hid (by
            rw [← HB.out]
            refine decide_eq_false (fun e => ?_)
            have := getE_of_mem (e ▸ HR.out.1) (e ▸ HME.out)
            rw [this] at hg2
            exact absurd (Option.some.inj hg2) (of_decide_eq_false huu))
          rw [huu] at hne
          clear hg2 huu
          go_upto_region 6 with fail
          change Code.wp _ _ _ _ (w1.alloc (.cells #[.string ⟨x.toArray⟩, .string u.1, .int .i64 u.2] 73))
          rw [← HW2.out]
          go_wp2_with fail
          go_ret
          exact ⟨congrArg (fun b : Bool => Ending.returned (.bool b)) HNO.out.symm, belAlloc HR2.out.2 _⟩
        | true =>
          have HIN : Hid ((x, u) ∈ L2) := Lib.hid (by rw [of_decide_eq_true huu]; exact getE_memL hg2)
          rw [huu] at hne
          clear hg2 huu
          go_upto_region 6 with fail
          change Code.wp _ _ _ _ (w1.alloc (.cells #[.string ⟨x.toArray⟩, .string u.1, .int .i64 u.2] 73))
          rw [← HW2.out]
          go_wp2_with fail
          go_roundw
          case rel =>
            refine ⟨T ++ [(x, u)], _, cnt1, HR2.out.1.alloc _, HM2.out, ?_, belAlloc HR2.out.2 _, ?_⟩
            · intro p hp
              rcases List.mem_append.1 hp with hp | hp
              · exact hT.out p hp
              · rw [List.mem_singleton.1 hp]; exact HIN.out
            · have := HLX.out.2.2.2
              have h3 : w2.heap.size = w1.heap.size + 1 := by rw [HW2.out]; simp
              simp
              omega
          case measure =>
            rw [(HR2.out.1.alloc _).left_eq, HCN.out]
            exact HLX.out.2.1
set_option maxRecDepth 100000 in
set_option maxHeartbeats 4000000 in
theorem mapsEq_any (mb1 mb2 : Option Nat) (L1 L2 : List KEnt) (w : World) (h1 : MapL w mb1 L1) (h2 : MapL w mb2 L2) (hr1 : Rising L1) (hr2 : Rising L2) (hn : L1.length ≤ 1000000) (hks : ∀ p ∈ L1, p.1.length ≤ maxLen) :
    Calls Try.prog 56 #[.map mb1, .map mb2] w fun e w' => e = .returned (.bool (decide (L1 = L2))) ∧ Below w.heap.size w w' := by
  have hl1 := mapLen h1
  have hl2 := mapLen h2
  by_cases hl : L1.length = L2.length
  · cases mb1 with
    | some b => exact mapsEq_some b mb2 L1 L2 w (h1.1 b rfl) h2 hr1 hr2 hn hks hl
    | none =>
      have e1 := h1.2 rfl
      subst e1
      have e2 : L2 = [] := List.eq_nil_of_length_eq_zero hl.symm
      subst e2
      have hrg := run_range_nilMap (P := Try.prog) w 90 _ _ Try.underlying90
      have hnx : ∀ ty, (Instr.next (.pointer (some ⟨w.heap.size, 0, none⟩)) false ty).run Try.prog (w.alloc (.mapIter none 0 #[] 0)) = _ := fun ty => run_next_nilMap _ ty 0 0 #[]
      clear h1 h2 hr1 hr2 hn hks hl
      go_enter Try.func56, Try.ntmps56
      go_wp2_with fail
      refine wp_loop_rounds 1 ?_
      rw [rounds_succ]
      go_wp2_with fail
      go_ret
      exact ⟨rfl, belNew w _⟩
  · have d : ((L1.length : Int) != (L2.length : Int)) = true := by simp; omega
    have HB : Hid (decide (L1 = L2) = false) := Lib.hid (decide_eq_false (fun e => hl (by rw [e])))
    clear h1 h2 hr1 hr2 hn hks hl
    go_enter Try.func56, Try.ntmps56
    go_wp2_with fail
    go_ret
    exact ⟨congrArg (fun b : Bool => Ending.returned (.bool b)) HB.out.symm, Below.refl _ _⟩
/-- A state, or none: its revision, its map. -/
def StateAt (w : World) (v : Value) (S : KSt) : Prop := (v = .pointer none ∧ S = ⟨0, []⟩) ∨ ∃ g P, v = ptr g ∧ KvAt w g P S
theorem state_rev {w : World} {v : Value} {S : KSt} (h : StateAt w v S) : Calls Try.prog 22 #[v] w fun e w' => e = .returned (.int .i64 S.rev) ∧ w = w' := by
  rcases h with ⟨rfl, rfl⟩ | ⟨g, P, rfl, hk⟩
  · exact rev_nil w
  · exact rev_any g P S w hk
theorem state_held {w : World} {v : Value} {S : KSt} (h : StateAt w v S) : ∃ mb, MapL w mb S.L ∧ Calls Try.prog 53 #[v] w fun e w' => e = .returned (.map mb) ∧ w = w' := by
  rcases h with ⟨rfl, rfl⟩ | ⟨g, P, rfl, hk⟩
  · exact ⟨none, ⟨fun b e => (by cases e), fun _ => rfl⟩, held_nil w⟩
  · obtain ⟨mb, h1, h2, h3, -⟩ := hk
    exact ⟨mb, ⟨fun b e => (h2 b e).1, h3⟩, held_any g S.rev mb w h1⟩
set_option maxRecDepth 100000 in
set_option maxHeartbeats 4000000 in
theorem kvSame_any (v1 v2 : Value) (S1 S2 : KSt) (w : World) (h1 : StateAt w v1 S1) (h2 : StateAt w v2 S2) (hr1 : Rising S1.L) (hr2 : Rising S2.L) (hn : S1.L.length ≤ 1000000) (hks : ∀ p ∈ S1.L, p.1.length ≤ maxLen) :
    Calls Try.prog 33 #[v1, v2] w fun e w' => e = .returned (.bool (decide (S1.rev = S2.rev) && decide (S1.L = S2.L))) ∧ Below w.heap.size w w' := by
  obtain ⟨mb1, hm1, hh1⟩ := state_held h1
  obtain ⟨mb2, hm2, hh2⟩ := state_held h2
  have HR1 := Lib.hid (state_rev h1)
  have HR2 := Lib.hid (state_rev h2)
  have HH1 := Lib.hid hh1
  have HH2 := Lib.hid hh2
  have HM := Lib.hid (mapsEq_any mb1 mb2 S1.L S2.L w hm1 hm2 hr1 hr2 hn hks)
  have HV : Hid (decide (S1.rev = S2.rev) = (S1.rev == S2.rev)) := Lib.hid (by by_cases h : S1.rev = S2.rev <;> simp [h])
  rw [HV.out]
  generalize decide (S1.L = S2.L) = t at HM
  clear h1 h2 hm1 hm2 hh1 hh2 hr1 hr2 hn hks HV
  cases hrv : (S1.rev == S2.rev) with
  | false =>
    have NEXT : True := trivial
    have NEXT2 : True := trivial
    go_enter Try.func33, Try.ntmps33
    go_wp2_with (first
      | (go_at_call 22; clear NEXT; refine HR1.out.mono ?_; rintro e wx ⟨rfl, rfl⟩)
      | (go_at_call 22; refine HR2.out.mono ?_; rintro e wx ⟨rfl, rfl⟩)
      | go_in)
    go_ret
    exact ⟨rfl, Below.refl _ _⟩
  | true =>
    have NEXT : True := trivial
    have NEXT2 : True := trivial
    go_enter Try.func33, Try.ntmps33
    go_wp2_with (first
      | (go_at_call 22; clear NEXT; refine HR1.out.mono ?_; rintro e wx ⟨rfl, rfl⟩)
      | (go_at_call 22; refine HR2.out.mono ?_; rintro e wx ⟨rfl, rfl⟩)
      | (go_at_call 53; clear NEXT2; refine HH1.out.mono ?_; rintro e wx ⟨rfl, rfl⟩)
      | (go_at_call 53; refine HH2.out.mono ?_; rintro e wx ⟨rfl, rfl⟩)
      | (go_at_call 56; refine HM.out.mono ?_; rintro e wx ⟨rfl, hbx⟩)
      | go_in)
    go_ret
    exact ⟨rfl, hbx⟩
end Go.Proofs.Ytogcjginifcbpaa
