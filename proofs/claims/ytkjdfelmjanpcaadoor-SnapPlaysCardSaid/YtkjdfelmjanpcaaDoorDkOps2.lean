/- Package disk: Sync, Read, Sure. -/
import Derived.Test.YtkjdfelmjanpcaaDoorDkOps
namespace Go.Proofs.YtkjdfelmjanpcaaDoor
open Go.RowKit Go.Maps
/-- What Sync answers, and leaves. -/
def syncD (D : DSt) (k : List UInt8) : Int × DSt :=
  match getE D.fs k with
  | none => (6, D)
  | some u => if lost1 D.lost D.armed D.left = true then (12, { D with lost := true, left := left1 D.lost D.armed D.left })
    else (0, { fs := putE k (u.1, u.1.length) D.fs, lost := false, armed := D.armed, left := left1 D.lost D.armed D.left })
theorem touch_file {w w1 : World} {g : Nat} {mb : Option Nat} {es : List Ent} {fs : List FEnt} {P : Nat → Prop} {lost armed : Bool} {left : Int} (h : DiskE w g mb es lost armed left) (hall : All2 (FileOk w P) es fs) (ht : Touch (· = g) w w1) : All2 (FileOk w1 P) es fs :=
  All2.imp (fun e _ f hf => hf.keep ht (fun d hd e2 => by
    obtain ⟨_, sv, he, ho, _⟩ := hf
    have h9 := own_ne_cells ho h.1 (by decide)
    unfold blkE at hd
    rw [he] at hd
    exact h9 (hd.trans (congrArg some e2))) (fun _ h => h)) hall
theorem DiskAt.wrote {w w1 : World} {g : Nat} {mb : Option Nat} {es : List Ent} {fs : List FEnt} {P : Nat → Prop} {lost armed : Bool} {left : Int} {l2 a2 : Bool} {n2 : Int} (h : DiskE w g mb es lost armed left) (h2 : P g) (h3 : ∀ b, mb = some b → P b) (h4 : All2 (FileOk w P) es fs) (h5 : es.Pairwise Apart) (h6 : Rising es) (h7 : ∀ i, P i → i < w.heap.size)
    (hd : DiskE w1 g mb es l2 a2 n2) (ht : Touch (· = g) w w1) (h8 : 0 ≤ n2) (h9 : n2 ≤ 9223372036854775807) : DiskAt w1 g P ⟨fs, l2, a2, n2⟩ :=
  ⟨mb, es, hd, h2, h3, touch_file h h4 ht, h5, h6, (fun i hi => Nat.lt_of_lt_of_le (h7 i hi) ht.2.2.2.1), h8, h9⟩
theorem sure_any (g : Nat) (P : Nat → Prop) (D : DSt) (s : ByteArray) (w : World) (h : DiskAt w g P D) (hs : s.size ≤ maxLen) :
    Calls Tryd.prog 28 #[ptr g, .string s] w fun e w' => e = .returned (.int .i64 (((getE D.fs s.data.toList).getD ([], 0)).2 : Nat)) ∧ Below w.heap.size w w' := by
  obtain ⟨mb, es, h, h2, h3, h4, h5, h6, h7, h8, h9⟩ := h
  have HF := Lib.hid (find_any g mb es _ _ _ s w h hs)
  obtain ⟨sv, hv, ho, hko, hsu, hsv, -⟩ := file_of h4 s.data.toList
  obtain ⟨ao, c, rfl, -⟩ := id ho.sees
  rw [hv] at HF
  obtain ⟨er, hr⟩ : ∃ er : Int, er = if (getE es s.data.toList).isSome = true then 0 else 6 := ⟨_, rfl⟩
  rw [← hr] at HF
  clear h h4 hv ho hko hsu hsv hr
  go_enter Tryd.func28, Tryd.ntmps28
  go_wp2_with fail
  refine HF.out.mono ?_; rintro e w1 ⟨rfl, hb1⟩
  go_wp2_with fail
  go_ret
  refine ⟨rfl, hb1.trans ?_⟩
  repeat (first | exact Below.refl _ _ | refine Below.setCell ?_ (by simp) _ | refine Below.alloc ?_ (by have := hb1.size; simp; omega) _)
theorem sure_nil (s : ByteArray) (w : World) : Calls Tryd.prog 28 #[.pointer none, .string s] w fun e w' => e = .returned (.int .i64 0) ∧ Below w.heap.size w w' := by
  have HF := Lib.hid (find_nil s w)
  unfold zeroF at HF
  go_enter Tryd.func28, Tryd.ntmps28
  go_wp2_with fail
  refine HF.out.mono ?_; rintro e w1 ⟨rfl, hb1⟩
  go_wp2_with fail
  go_ret
  refine ⟨rfl, hb1.trans ?_⟩
  repeat (first | exact Below.refl _ _ | refine Below.setCell ?_ (by simp) _ | refine Below.alloc ?_ (by have := hb1.size; simp; omega) _)
/-- What Read answers. -/
def readD (D : DSt) (k : List UInt8) : List Int × Int :=
  match getE D.fs k with
  | none => ([], 6)
  | some u => if D.lost = true then ([], 12) else (u.1, 0)
set_option maxHeartbeats 1000000 in
theorem read_any (g : Nat) (P : Nat → Prop) (D : DSt) (s : ByteArray) (w : World) (h : DiskAt w g P D) (hs : s.size ≤ maxLen) (hlen : ((getE D.fs s.data.toList).getD ([], 0)).1.length ≤ 140737488355328) :
    Calls Tryd.prog 17 #[ptr g, .string s] w fun e w' => ∃ v, e = .returned (.tuple #[v, .int .i64 (readD D s.data.toList).2]) ∧ Owns w' w.heap.size v (readD D s.data.toList).1 ∧ Below w.heap.size w w' := by
  obtain ⟨mb, es, h, h2, h3, h4, h5, h6, h7, h8, h9⟩ := h
  have HF := Lib.hid (find_any g mb es _ _ _ s w h hs)
  obtain ⟨sv, hv, ho, hko, hsu, hsv, hsome⟩ := file_of h4 s.data.toList
  have hsee := ho.sees
  obtain ⟨ao, c, rfl, -⟩ := id hsee
  rw [hv, hsome] at HF
  have HS := Lib.hid hsee
  obtain ⟨c0, c1, c2, c3⟩ := dcells h.1
  have hg := h.1
  cases hgf : getE D.fs s.data.toList with
  | none =>
    have e1 : readD D s.data.toList = ([], 6) := by unfold readD; rw [hgf]
    rw [hgf] at HF
    rw [e1]
    have HF : Hid _ := HF
    simp only [Option.isSome_none, Bool.false_eq_true, if_false] at HF
    clear h h4 hv ho hko hsu hsv hsome hsee HS hgf e1
    go_enter Tryd.func17, Tryd.ntmps17
    go_wp2_with fail
    refine HF.out.mono ?_; rintro e w1 ⟨rfl, hb1⟩
    go_wp2_with fail
    go_ret2
    refine ⟨_, rfl, Owns.nil _ _, hb1.trans ?_⟩
    repeat (first | exact Below.refl _ _ | refine Below.setCell ?_ (by simp) _ | refine Below.alloc ?_ (by have := hb1.size; simp; omega) _)
  | some u =>
    rw [hgf] at HF HS hlen
    have HF : Hid _ := HF
    simp only [Option.isSome_some, if_true, Option.getD_some] at HF HS hlen
    have hz : g < w.heap.size := heap_lt hg
    cases hl : D.lost with
    | true =>
      have e1 : readD D s.data.toList = ([], 12) := by unfold readD; rw [hgf]; simp [hl]
      rw [e1]
      rw [hl] at c1 hg
      clear h h4 hv ho hko hsu hsv hsome hsee HS hgf e1
      go_enter Tryd.func17, Tryd.ntmps17
      go_wp2_with fail
      refine HF.out.mono ?_; rintro e w1 ⟨rfl, hb1⟩
      have hg1 := (hb1.block g hz).trans hg
      obtain ⟨-, d1, -, -⟩ := dcells hg1
      have d2 : (w1.alloc (.cells #[.slice ao u.1.length c, .int .i64 (u.2 : Nat)] 85)).cell? ⟨g, 1, none⟩ = some (.bool true) := by rw [World.cell?_alloc_lt w1 _ ⟨g, 1, none⟩ (by have := hb1.size; show g < _; omega)]; exact d1
      clear hg1
      go_wp2_with fail
      go_ret2
      refine ⟨_, rfl, Owns.nil _ _, hb1.trans ?_⟩
      repeat (first | exact Below.refl _ _ | refine Below.setCell ?_ (by simp) _ | refine Below.alloc ?_ (by have := hb1.size; simp; omega) _)
    | false =>
      have e1 : readD D s.data.toList = (u.1, 0) := by unfold readD; rw [hgf]; simp [hl]
      rw [e1]
      rw [hl] at c1 hg
      clear h h4 hv ho hko hsu hsv hsome hsee hgf e1
      go_enter Tryd.func17, Tryd.ntmps17
      go_wp2_with fail
      refine HF.out.mono ?_; rintro e w1 ⟨rfl, hb1⟩
      have hg1 := (hb1.block g hz).trans hg
      obtain ⟨-, d1, -, -⟩ := dcells hg1
      have d2 : (w1.alloc (.cells #[.slice ao u.1.length c, .int .i64 (u.2 : Nat)] 85)).cell? ⟨g, 1, none⟩ = some (.bool false) := by rw [World.cell?_alloc_lt w1 _ ⟨g, 1, none⟩ (by have := hb1.size; show g < _; omega)]; exact d1
      have hb2 := belAlloc hb1 (.cells #[.slice ao u.1.length c, .int .i64 (u.2 : Nat)] 85)
      have hk := HS.out.keep hb2
      clear hg1
      go_wp2_with fail
      refine (clone_any _ u.1 _ hk hlen).mono ?_; rintro e w2 ⟨v, rfl, ho2, hb3⟩
      go_wp2_with fail
      go_ret2
      exact ⟨_, rfl, ho2.le hb2.size, bel hb2 hb3⟩
theorem read_nil (s : ByteArray) (w : World) : Calls Tryd.prog 17 #[.pointer none, .string s] w fun e w' => e = .returned (.tuple #[.slice none 0 0, .int .i64 2]) ∧ Below w.heap.size w w' := by
  have HF := Lib.hid (find_nil s w)
  unfold zeroF at HF
  go_enter Tryd.func17, Tryd.ntmps17
  go_wp2_with fail
  refine HF.out.mono ?_; rintro e w1 ⟨rfl, hb1⟩
  go_wp2_with fail
  go_ret2
  refine ⟨rfl, hb1.trans ?_⟩
  repeat (first | exact Below.refl _ _ | refine Below.setCell ?_ (by simp) _ | refine Below.alloc ?_ (by have := hb1.size; simp; omega) _)
end Go.Proofs.YtkjdfelmjanpcaaDoor
