/- Package names: the document's own keys. -/
import Derived.Test.YthpeimdjcibmgaaDoorNmAwake
namespace Go.Proofs.YthpeimdjcibmgaaDoor
open Go.RowKit Go.Maps
theorem dec_no47 (u : Nat) : (47 : UInt8) ∉ Lib.decDigits u := fun h => by
  have := List.all_eq_true.1 (dec_all u) 47 h
  revert this
  decide
theorem ip_no47 (a : Int) : (47 : UInt8) ∉ ipTxt a := by
  rw [ipTxt_eq]
  have h (u : Nat) := dec_no47 u
  simp only [List.mem_append, List.mem_cons, List.not_mem_nil, or_false, h, false_or]
  decide
theorem keyTxt_eq {a b : Int} (h : mayB a b = true) : keyTxt a b = ipTxt a ++ [45] ++ Lib.decDigits b.toNat := by
  unfold keyTxt netText
  rw [if_pos h]
  unfold netTxt
  rw [repl_app (ip_no47 a)]
  simp
theorem refFirst_any (a : Int) (ha : 0 ≤ a) (ha' : a < 4294967296) (w : World) :
    Calls Tryd.prog 13 #[.int .u32 a] w fun e w' => e = .returned (.int .u32 (a - a % 64)) ∧ Below w.heap.size w w' := by
  have m1 : a.tmod 64 = a % 64 := Int.tmod_eq_emod_of_nonneg ha
  have m2 : (a - a % 64) % 4294967296 = a - a % 64 := Int.emod_eq_of_lt (by omega) (by omega)
  have m3 : (a % 64) % 4294967296 = a % 64 := Int.emod_eq_of_lt (by omega) (by omega)
  go_enter Tryd.func13, Tryd.ntmps13
  go_wp2_with fail
  refine bodyPost_ret (v := .int .u32 (a - a % 64)) (by simp [results, Tryd.results13, go_sem]) rfl ⟨rfl, Below.refl _ _⟩
theorem bcell {w W : World} {a : Addr} {v : Value} (hb : Below w.heap.size w W) (h : w.cell? a = some v) : W.cell? a = some v := by
  have hl : a.block < w.heap.size := by
    rcases Nat.lt_or_ge a.block w.heap.size with hlt | hge
    · exact hlt
    · simp [World.cell?, Array.getElem?_eq_none hge] at h
  exact (hb.cell hl).trans h
theorem bdrew {w W : World} {n : Nat} (h : Below n w W) : Below n w W.drew := ⟨h.os, h.tape, h.output, h.size, h.block⟩
set_option maxRecDepth 100000 in
set_option maxHeartbeats 1000000 in
theorem refNet_any (a b : Int) (hm : mayB a b = true) (ha : 0 ≤ a) (ha' : a < 4294967296) (hb : 0 ≤ b) (hb' : b ≤ 32) (w : World) :
    Calls Tryd.prog 28 #[.agg #[.int .u32 a, .int .i64 b]] w fun e w' => e = .returned (.string ⟨(keyTxt a b).toArray⟩) ∧ Below w.heap.size w w' := by
  rw [keyTxt_eq hm]
  have HP : Hid (∀ w, Calls Tryd.prog 42 #[.int .u32 a] w fun e w' => e = .returned (.string ⟨(ipTxt a).toArray⟩) ∧ Below w.heap.size w w') := Lib.hid (fun w => refPrint_any a ha ha' w)
  have HN : Hid (∀ w, Calls Tryd.prog 43 #[.int .i64 b] w fun e w' => e = .returned (.string ⟨(Lib.decDigits b.toNat).toArray⟩) ∧ Below w.heap.size w w') := Lib.hid (fun w => refNum_any b hb (by omega) w)
  have q1 : (⟨(ipTxt a).toArray⟩ : ByteArray).size ≤ 16 := by rw [size_mk]; exact txt_len a ha ha' 4
  have q2 : (⟨(Lib.decDigits b.toNat).toArray⟩ : ByteArray).size ≤ 3 := by rw [size_mk]; exact dec_len _ (by omega)
  have HZ : Hid ((⟨(ipTxt a ++ [45] ++ Lib.decDigits b.toNat).toArray⟩ : ByteArray) = ⟨(ipTxt a).toArray⟩ ++ ⟨#[45]⟩ ++ ⟨(Lib.decDigits b.toNat).toArray⟩) := Lib.hid (by rw [show (⟨#[45]⟩ : ByteArray) = ⟨[45].toArray⟩ from rfl]; simp only [mk_append])
  rw [HZ.out]
  generalize (⟨(ipTxt a).toArray⟩ : ByteArray) = X at *
  generalize (⟨(Lib.decDigits b.toNat).toArray⟩ : ByteArray) = Y at *
  clear HZ hm ha ha' hb hb'
  have hx := heap_alloc_new w (.cells #[.int .u32 a, .int .i64 b] 24)
  obtain ⟨wv, hW⟩ : ∃ wv, wv = w.alloc (.cells #[.int .u32 a, .int .i64 b] 24) := ⟨_, rfl⟩
  have hb0 : Below w.heap.size w wv := by rw [hW]; exact belNew _ _
  rw [← hW] at hx
  go_enter Tryd.func28, Tryd.ntmps28
  go_upto_region 1 with fail
  change Code.wp _ _ _ _ (w.alloc (.cells #[.int .u32 a, .int .i64 b] 24))
  rw [← hW]
  clear hW
  obtain ⟨x0, x1, -, -⟩ := netc hx
  have z1 : ¬ 9223372036854775807 < X.size + 1 := by omega
  have z2 : ¬ 9223372036854775807 < X.size + 1 + Y.size := by omega
  refine wp_region_held_drew (S := (fun W => Below wv.heap.size wv W)) (by kernel_rfl) ?_ (fun r0 => ?_)
  · exact ⟨rfl, rfl, rfl, Nat.le_refl _, fun _ _ => rfl⟩
  refine wpAnyH_take (i := 0) (v := ?_) rfl (by kernel_rfl) (by kernel_rfl) (by kernel_rfl) (fun _ _ _ h => h) (Or.inl ⟨by rfl, ?_⟩) (by assumption) ?_
  rotate_left
  · intro wS hSw
    (try dsimp only at hSw)
    go_simp
    first | done | with_reducible rfl
  try simp only [Act.put, List.getElem_toArray, List.getElem_cons_succ, List.getElem_cons_zero, List.setIfInBounds_toArray, List.set_cons_zero, List.set_cons_succ]
  refine wpAnyH_take (i := 1) (v := ?_) rfl (by kernel_rfl) (by kernel_rfl) (by kernel_rfl) (fun _ _ _ h => h) (Or.inl ⟨by rfl, ?_⟩) (by assumption) ?_
  rotate_left
  · intro wS hSw
    (try dsimp only at hSw)
    have x0 := bcell hSw x0
    have x1 := bcell hSw x1
    go_simp
    first | done | with_reducible rfl
  try simp only [Act.put, List.getElem_toArray, List.getElem_cons_succ, List.getElem_cons_zero, List.setIfInBounds_toArray, List.set_cons_zero, List.set_cons_succ]
  refine wpAnyH_take (i := 4) (v := ?_) rfl (by kernel_rfl) (by kernel_rfl) (by kernel_rfl) (fun _ _ _ h => h) (Or.inl ⟨by rfl, ?_⟩) (by assumption) ?_
  rotate_left
  · intro wS hSw
    (try dsimp only at hSw)
    go_simp
    first | done | with_reducible rfl
  try simp only [Act.put, List.getElem_toArray, List.getElem_cons_succ, List.getElem_cons_zero, List.setIfInBounds_toArray, List.set_cons_zero, List.set_cons_succ]
  refine wpAnyH_take (i := 5) (v := ?_) rfl (by kernel_rfl) (by kernel_rfl) (by kernel_rfl) (fun _ _ _ h => h) (Or.inl ⟨by rfl, ?_⟩) (by assumption) ?_
  rotate_left
  · intro wS hSw
    (try dsimp only at hSw)
    have x0 := bcell hSw x0
    have x1 := bcell hSw x1
    go_simp
    first | done | with_reducible rfl
  try simp only [Act.put, List.getElem_toArray, List.getElem_cons_succ, List.getElem_cons_zero, List.setIfInBounds_toArray, List.set_cons_zero, List.set_cons_succ]
  refine wpAnyH_ready (rs := [2]) (by kernel_rfl) (by simp) ?_
  refine AllReadyH.cons rfl (fun K hK => ?_) AllReadyH.nil
  go_simp
  refine (HP.out _).mono ?_; rintro x wx ⟨rfl, hbp⟩
  refine hK.out _ _ ?_ (fun r1 => ?_)
  · exact bel r0 hbp
  try simp only [Act.put, List.getElem_toArray, List.getElem_cons_succ, List.getElem_cons_zero, List.setIfInBounds_toArray, List.set_cons_zero, List.set_cons_succ]
  refine wpAnyH_take (i := 3) (v := ?_) rfl (by kernel_rfl) (by kernel_rfl) (by kernel_rfl) (fun _ _ _ h => h) (Or.inl ⟨by rfl, ?_⟩) (by assumption) ?_
  rotate_left
  · intro wS hSw
    (try dsimp only at hSw)
    go_simp
    first | done | with_reducible rfl
  try simp only [Act.put, List.getElem_toArray, List.getElem_cons_succ, List.getElem_cons_zero, List.setIfInBounds_toArray, List.set_cons_zero, List.set_cons_succ]
  refine wpAnyH_ready (rs := [6]) (by kernel_rfl) (by simp) ?_
  refine AllReadyH.cons rfl (fun K hK => ?_) AllReadyH.nil
  go_simp
  refine (HN.out _).mono ?_; rintro x wx ⟨rfl, hbn⟩
  refine hK.out _ _ ?_ (fun r2 => ?_)
  · exact bel r1 hbn
  try simp only [Act.put, List.getElem_toArray, List.getElem_cons_succ, List.getElem_cons_zero, List.setIfInBounds_toArray, List.set_cons_zero, List.set_cons_succ]
  refine wpAnyH_take (i := 7) (v := ?_) rfl (by kernel_rfl) (by kernel_rfl) (by kernel_rfl) (fun _ _ _ h => h) (Or.inl ⟨by rfl, ?_⟩) (by assumption) ?_
  rotate_left
  · intro wS hSw
    (try dsimp only at hSw)
    go_simp
    first | done | with_reducible rfl
  try simp only [Act.put, List.getElem_toArray, List.getElem_cons_succ, List.getElem_cons_zero, List.setIfInBounds_toArray, List.set_cons_zero, List.set_cons_succ]
  refine wpAnyH_take (i := 8) (v := ?_) rfl (by kernel_rfl) (by kernel_rfl) (by kernel_rfl) (fun _ _ _ h => h) (Or.inl ⟨by rfl, ?_⟩) (by assumption) ?_
  rotate_left
  · intro wS hSw
    (try dsimp only at hSw)
    go_simp
    first | done | with_reducible rfl
  try simp only [Act.put, List.getElem_toArray, List.getElem_cons_succ, List.getElem_cons_zero, List.setIfInBounds_toArray, List.set_cons_zero, List.set_cons_succ]
  refine wpAnyH_done (by kernel_rfl) ?_ _
  go_wp2_with fail
  refine bodyPost_ret (v := .string (X ++ ⟨#[45]⟩ ++ Y)) (by simp [results, Tryd.results28, go_sem]) rfl ⟨rfl, hb0.trans (Below.mono r2 hb0.size)⟩
end Go.Proofs.YthpeimdjcibmgaaDoor
