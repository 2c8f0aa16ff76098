/- Package virgatelaw17: the chapter's example. -/
import Derived.Test.YtcgkambkfaeceaaHnLaw
namespace Go.Proofs.Ytcgkambkfaeceaa
open Go.RowKit
theorem bdOne : CntBd [((64 : Int), (3 : Int))] := by
  intro p hp
  obtain rfl : p = (64, 3) := by simpa using hp
  exact ⟨⟨by decide, by decide⟩, by decide, by decide⟩
theorem bdNil : CntBd [] := fun p hp => by cases hp
theorem add0_any (w : World) : Calls Try.prog 20 #[hnV (.slice none 0 0), .int .u32 70, .int .i64 3] w fun e w' => ∃ ao c, e = .returned (.tuple #[hnV (.slice (some ao) 1 c), .int .i64 0]) ∧ SeesC w' (.slice (some ao) 1 c) [(64, 3)] ∧ Below w.heap.size w w' := by
  refine (add_any (.slice none 0 0) [] 70 3 w (SeesC.nil w) bdNil (by simp) (by decide) (by decide) rfl rfl (by decide)).mono ?_
  rintro e w' ⟨v', rfl, ho, hb⟩
  have e1 : setH [] ((70 : Int) - 70 % 64) (ofH [] ((70 : Int) - 70 % 64) + 3) = [(64, 3)] := by decide
  rw [e1] at ho
  obtain ⟨g, cap, cur, rfl, -⟩ := row_parts ho (by simp)
  exact ⟨_, _, rfl, ho.sees, hb⟩
theorem sub1_any (v : Value) (w : World) (h : SeesC w v [(64, 3)]) : Calls Try.prog 21 #[hnV v, .int .u32 64, .int .i64 5] w fun e w' => ∃ ao c, e = .returned (.tuple #[hnV (.slice ao 0 c), .int .i64 0]) ∧ Below w.heap.size w w' := by
  refine (sub_any v [(64, 3)] 64 5 w h bdOne (by simp) (by decide) (by decide) rfl rfl).mono ?_
  rintro e w' ⟨v', rfl, ho, hb⟩
  have e1 : setH [((64 : Int), (3 : Int))] ((64 : Int) - 64 % 64) (max (ofH [(64, 3)] ((64 : Int) - 64 % 64) - 5) 0) = [] := by decide
  rw [e1] at ho
  obtain ⟨ao, c, rfl, -⟩ := ho.sees
  exact ⟨ao, c, rfl, hb⟩
theorem of1h_any (v : Value) (w : World) (h : SeesC w v [(64, 3)]) : Calls Try.prog 24 #[hnV v, .int .u32 64] w fun e w' => e = .returned (.int .i64 3) ∧ Below w.heap.size w w' :=
  of_any v [(64, 3)] 64 w h (by simp) (by simp) (by decide) (by decide)
set_option maxRecDepth 100000 in
set_option maxHeartbeats 8000000 in
theorem awake17_any (w : World) : Calls Try.prog 13 #[] w fun e w' => e = .returned (.bool true) ∧ Below w.heap.size w w' := by
  have H1 := Lib.hid (add0_any w)
  have H2 := Lib.hid (fun v w1 h => sub1_any v w1 h)
  have H3 := Lib.hid (fun v w1 h => of1h_any v w1 h)
  go_enter Try.func13, Try.ntmps13
  go_wp2_with fail
  refine H1.out.mono ?_; rintro e w1 ⟨ao, c, rfl, hs1, hb1⟩
  have HS1 := Lib.hid (hs1.below (belNew w1 (hnO (.slice (some ao) 1 c))))
  have HB1 := Lib.hid (belAlloc hb1 (hnO (.slice (some ao) 1 c)))
  clear hs1 hb1
  go_wp2_with fail
  refine (H2.out _ _ HS1.out).mono ?_; rintro e w2 ⟨ao2, c2, rfl, hb2⟩
  have HS2 := Lib.hid ((HS1.out.below hb2).below (belNew w2 (hnO (.slice ao2 0 c2))))
  have HB2 := Lib.hid (bel HB1.out (belAlloc hb2 (hnO (.slice ao2 0 c2))))
  have h1 : w2.heap[w1.heap.size]? = some (hnO (.slice (some ao) 1 c)) := (hb2.block _ (by show w1.heap.size < (w1.heap.push _).size; simp)).trans (heap_new w1 _)
  have h1 := (belNew w2 (hnO (.slice ao2 0 c2))).block _ (heap_lt h1) |>.trans h1
  have h2 := heap_new w2 (hnO (.slice ao2 0 c2))
  obtain ⟨w3, hw3⟩ : ∃ w3, w3 = w2.alloc (hnO (.slice ao2 0 c2)) := ⟨_, rfl⟩
  have HW3 := Lib.hid hw3
  rw [← hw3] at h1 h2 HS2 HB2
  have c1 := hcell h1
  have c2' := hcell h2
  obtain ⟨ax, cx, e0, -, -, hx⟩ := id HS2.out
  obtain rfl : ax = some ao := by cases e0; rfl
  have q0 := (hx ao rfl 0 (64, 3) rfl).1
  clear e0 hx hw3 h1 h2 hb2
  go_upto_region 3 with fail
  change Code.wp _ _ _ _ (w2.alloc (hnO (.slice ao2 0 c2)))
  rw [← HW3.out]
  clear HW3
  go_wp2_with fail
  refine (H3.out _ _ HS2.out).mono ?_; rintro e w4 ⟨rfl, hb4⟩
  have c1 := bcell hb4 c1
  have c2' := bcell hb4 c2'
  have q0 := bcell hb4 q0
  have q0' : w4.cell? ao = some (.int .u32 64) := by
    have := q0
    unfold Addr.add at this
    simpa using this
  have HB4 := Lib.hid (bel HB2.out hb4)
  clear hb4
  go_wp2_with fail
  go_ret
  exact ⟨rfl, HB4.out⟩
end Go.Proofs.Ytcgkambkfaeceaa
