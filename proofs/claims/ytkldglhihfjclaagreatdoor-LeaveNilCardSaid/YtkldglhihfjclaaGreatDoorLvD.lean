/- The walk of LeaveNil. -/
import Derived.Test.YtkldglhihfjclaaGreatDoorLvC
namespace Go.Proofs.YtkldglhihfjclaaGreatDoor
open Go.RowKit Go.Maps Go.Ev
set_option maxRecDepth 100000 in
set_option maxHeartbeats 1000000 in
theorem newP_any (w : World) : Calls Tryz.prog 9 #[] w fun e w' => e = .returned (pt (w.heap.size, 0)) ∧ w'.heap[w.heap.size]? = some (.cells procZ.toArray 87 (0, 0)) ∧ Below w.heap.size w w' := by
  go_enter Tryz.func9, Tryz.ntmps9
  go_wp2_with fail
  go_ret
  exact ⟨rfl, alloc_new w _, alloc_below w _⟩
def dropSeq : Nat → Code → Code
  | 0, c => c
  | n + 1, .seq _ b => dropSeq n b
  | _, c => c
def ab : ByteArray := ⟨#[97, 32, 98]⟩
theorem ab_bad (s : ByteArray) : NM.okName (ab ++ s).data.toList = false := by
  have h : (ab ++ s).data.toList = 97 :: 32 :: 98 :: s.data.toList := by simp [ab]
  rw [h]
  unfold NM.okName
  have : NM.signI ((32 : UInt8).toNat : Int) = false := by decide
  simp only [List.all_cons, this, Bool.false_and, Bool.and_false]
noncomputable def codeN : Code := match Tryz.f6.body with
  | some c => dropSeq 3 c
  | none => .skip
def p0 : Value := .pointer (some ⟨0, 0, none⟩)
def p1 : Value := .pointer (some ⟨1, 0, none⟩)
def p2 : Value := .pointer (some ⟨2, 0, none⟩)
def tmN (s : ByteArray) : List Value := [.string s, undef, .bool false, p0, p1, p2, undef, undef, undef, undef, undef, p0, .agg #[.int .i64 0, .int .i64 0], p1, .agg #[.int .i64 0, .int .i64 0], p2, p0, .string s, .string (ab ++ s), p1, hearV p1, .tuple #[]] ++ List.replicate 54 undef
theorem runN (s : ByteArray) : okRun (tailV Tryz.prog (xOr (xOne 120) (xCl 20 aAwake vAwake lAwake)) 1000 60 codeN Tryz.f6.results.toList (tmN s) (stB [procZ, endC 1 1, endC 0 0]))
    (fun v _ => veq v (.bool true)) = true := by kernel_rfl
theorem okN {E : Env} : ∀ cs ∈ [procZ, endC 1 1, endC 0 0], ∀ v ∈ cs, ok 3 E v ∧ v.oneCell' = true := by
  intro cs hcs v hv
  simp only [List.mem_cons, List.not_mem_nil, or_false] at hcs
  rcases hcs with rfl | rfl | rfl <;> simp only [procZ, endC, List.mem_cons, List.not_mem_nil, or_false] at hv <;> rcases hv with rfl | rfl | rfl | rfl | rfl | rfl | rfl | rfl | rfl <;> simp [ok, Value.oneCell']
theorem goodN (s : ByteArray) (E : Env) : Go.Ev.Good 3 E (tmN s) := by
  intro v hv
  rcases List.mem_append.mp hv with hv | hv
  · simp only [List.mem_cons, List.not_mem_nil, or_false] at hv
    rcases hv with rfl | rfl | rfl | rfl | rfl | rfl | rfl | rfl | rfl | rfl | rfl | rfl | rfl | rfl | rfl | rfl | rfl | rfl | rfl | rfl | rfl | rfl <;> simp [ok, okA, okL, undef, p0, p1, p2]
  · rw [(List.mem_replicate.mp hv).2]; simp [undef, ok, okA, okL]
set_option maxRecDepth 100000 in
set_option maxHeartbeats 1000000 in
theorem lawLeaveNil (s : ByteArray) (w : World) (hs : s.size ≤ 140737488351232) (hE : NM.Env w) : Calls Tryz.prog 6 #[.string s] w fun e w' => e = .returned (.bool true) ∧ Below w.heap.size w w' := by
  have q : ¬ 9223372036854775807 < (3 + (s.size : Int)) := by omega
  have HN := Lib.hid (newP_any w)
  have HS := Lib.hid hs
  have HE := Lib.hid hE
  clear hs hE
  go_enter Tryz.func6, Tryz.ntmps6
  go_upto_region 2 with (go_at_call 9; refine HN.out.mono ?_; rintro e w1 ⟨rfl, hp1, hb1⟩)
  have hz : w.heap.size < w1.heap.size := (Array.getElem?_eq_some_iff.mp hp1).1
  have hx2 : ((w1.alloc (.cells (endC 0 0).toArray 37 (0, 0))).alloc (.cells (endC 0 0).toArray 37 (0, 0))).heap[w1.heap.size]? = some (.cells (endC 0 0).toArray 37 (0, 0)) :=
    ((alloc_below _ _).block _ (by show _ < (w1.heap.push _).size; simp)).trans (alloc_new w1 _)
  have hy2 : ((w1.alloc (.cells (endC 0 0).toArray 37 (0, 0))).alloc (.cells (endC 0 0).toArray 37 (0, 0))).heap[w1.heap.size + 1]? = some (.cells (endC 0 0).toArray 37 (0, 0)) := by
    have := alloc_new (w1.alloc (.cells (endC 0 0).toArray 37 (0, 0))) (.cells (endC 0 0).toArray 37 (0, 0))
    rwa [show (w1.alloc (.cells (endC 0 0).toArray 37 (0, 0))).heap.size = w1.heap.size + 1 by show (w1.heap.push _).size = _; simp] at this
  have hb12 : Below w1.heap.size w1 ((w1.alloc (.cells (endC 0 0).toArray 37 (0, 0))).alloc (.cells (endC 0 0).toArray 37 (0, 0))) := NM.bel (alloc_below _ _) (alloc_below _ _)
  change Code.wp _ _ _ _ ((w1.alloc (.cells (endC 0 0).toArray 37 (0, 0))).alloc (.cells (endC 0 0).toArray 37 (0, 0)))
  generalize ((w1.alloc (.cells (endC 0 0).toArray 37 (0, 0))).alloc (.cells (endC 0 0).toArray 37 (0, 0))) = w2 at *
  have hp2 := (hb12.block _ hz).trans hp1
  have hb2 := NM.bel hb1 hb12
  obtain ⟨xb, hxb⟩ : ∃ xb, xb = w1.heap.size := ⟨_, rfl⟩
  rw [← hxb] at hx2 hy2 hz ⊢
  obtain ⟨pb, hpb⟩ : ∃ pb, pb = w.heap.size := ⟨_, rfl⟩
  rw [← hpb] at hp2 hz ⊢
  have hgm : 0 < w.heap.size := NM.cell_lt HE.out.max.choose_spec
  have HG : Hid (Calls Tryz.prog 10 #[pt (pb, 0), .string (ab ++ s), .int .u32 0, hearV (pt (xb, 0))] w2 fun e w' => e = .returned (.tuple #[]) ∧ Has w' (pb, 0) procZ ∧ Has w' (xb, 0) (endC 1 1) ∧ Keeps [pb, xb] w2 w') :=
    Lib.hid (go_bad (pb, 0) (xb, 0) (ab ++ s) w2 (HE.out.below hb2) (by
      have := HS.out
      have h3 : (ab ++ s).size = 3 + s.size := by simp [ab]; rfl
      rw [h3]; unfold maxLen; omega) (ab_bad s) (Has.block hp2) (Has.block hx2) (by simp only []; omega) (by
        simp only [List.mem_cons, List.not_mem_nil, or_false, not_or]; omega))
  have HY := Lib.hid (And.intro (Has.block hy2) (And.intro hb2 (And.intro hz (And.intro hpb hgm))))
  clear hx2 hy2 hp2 hb12 hp1 hb1 hxb hb2 hz hpb hgm HN
  go_upto_region 3 with (go_at_call 10; refine HG.out.mono ?_; rintro e w3 ⟨rfl, k1, k2, k3⟩)
  obtain ⟨hy, hb2, hz, hpb, hgm⟩ := HY.out
  have hy3 : Has w3 (xb + 1, 0) (endC 0 0) := hy.same (k3.2.2 _ hy.lt (by simp only [List.mem_cons, List.not_mem_nil, or_false, not_or]; omega))
  have hb3 : Below w.heap.size w w3 := k3.below hb2 (by
    intro r hr
    simp only [List.mem_cons, List.not_mem_nil, or_false] at hr
    omega)
  rename_i J hJ
  obtain ⟨o, m, ho, hm⟩ := gmax (HE.out.below hb3)
  have hX := oneX hm
  have hA : CallOk Tryz.prog (gOne 0 o) (xCl 20 aAwake vAwake lAwake) :=
    xCl_sound (xOr_sound hX (xCl_sound (xOr_sound hX (xCl_sound hX mix_ok clMake)) mix_ok clWorld)) mix_ok clAwake
  obtain ⟨v, σ', hrun, hf⟩ := okRun_spec (runN s)
  have hf := veq_eq _ _ hf
  subst hf
  have hall : AllHas w3 (slotE [(pb, 0), (xb, 0), (xb + 1, 0)]) [(pb, 0), (xb, 0), (xb + 1, 0)] [procZ, endC 1 1, endC 0 0] := ⟨k1, k2, hy3, trivial⟩
  have hd : ([(pb, 0), (xb, 0), (xb + 1, 0)].map (Prod.fst (α := Nat) (β := Nat))).Nodup := by
    simp only [List.map_cons, List.map_nil, List.nodup_cons, List.mem_cons, List.not_mem_nil, or_false, not_or, not_false_eq_true, List.nodup_nil, and_true]
    omega
  have hK : Held (gOne 0 o) (kOf [(pb, 0), (xb, 0), (xb + 1, 0)]) w3 := gOne_held ho (kOf_false fun q hq => by
    simp only [List.mem_cons, List.not_mem_nil, or_false] at hq
    rcases hq with rfl | rfl | rfl <;> simp only [] <;> omega)
  exact led_tailK (xOr_sound hX hA) mix_ok (fn := Tryz.f6) (tm := tmN s) (Q := fun e w' => e = .returned (.bool true) ∧ Below w.heap.size w w') hJ (by simp) rfl hall hd okN hK (goodN s _) hrun
    (fun E' w' hled => ⟨rfl, (Keeps.of_led hled).below hb3 (by
      intro r hr
      simp only [List.map_cons, List.map_nil, List.mem_cons, List.not_mem_nil, or_false] at hr
      omega)⟩) (fun c w' h => by cases h.1)
end Go.Proofs.YtkldglhihfjclaaGreatDoor
