/- Package store: what is saved, where nothing was; a disk that is not there; a store that is not there. -/
import Derived.Test.YtbbefakmpmniiaaGreatDoorSt
namespace Go.Proofs.YtbbefakmpmniiaaGreatDoor
open Go.RowKit Go.Maps
def nSnap : ByteArray := ⟨#[115, 110, 97, 112]⟩
def nLog : ByteArray := ⟨#[108, 111, 103]⟩
set_option maxRecDepth 100000 in
theorem sload_new (g : Nat) (P : Nat → Prop) (D : DSt) (w : World) (h : DiskAt w g P D) (hn : ((getE D.fs nSnap.data.toList).getD ([], 0)).1.length ≤ 1000000) (hE : Env w) (hl : (loadD D nSnap.data.toList).2 = 6) :
    Calls Tryz.prog 33 #[ptr g] w fun e w' => ∃ k, e = .returned (.tuple #[ptr k, .int .i64 0]) ∧ KV.KvAt w' k (· = k) ⟨0, []⟩ ∧ w.heap.size ≤ k ∧ Below w.heap.size w w' := by
  have HL := Lib.hid (load_any g P D nSnap w h (by decide) hn hE)
  rw [hl] at HL
  have HN := Lib.hid (fun w => KV.new_kv w)
  clear h hn hE hl
  go_enter Tryz.func33, Tryz.ntmps33
  go_wp2_with fail
  refine HL.out.mono ?_; rintro e w1 ⟨v, rfl, _, _, hb1⟩
  go_wp2_with fail
  refine (HN.out w1).mono ?_; rintro e w2 ⟨k, rfl, hk, hkk, hb2⟩
  go_wp2_with fail
  go_ret2
  exact ⟨k, rfl, hk, Nat.le_trans hb1.size hkk, hb1.trans (hb2.mono hb1.size)⟩
set_option maxRecDepth 100000 in
theorem sload_nil (w : World) : Calls Tryz.prog 33 #[.pointer none] w fun e w' => e = .returned (.tuple #[.pointer none, .int .i64 2]) ∧ Below w.heap.size w w' := by
  have HL := Lib.hid (load_nil nSnap w)
  go_enter Tryz.func33, Tryz.ntmps33
  go_wp2_with fail
  refine HL.out.mono ?_; rintro e w1 ⟨rfl, hb1⟩
  go_wp2_with fail
  go_ret2
  exact ⟨rfl, hb1⟩
set_option maxRecDepth 100000 in
theorem sopen_nil (ev : Int) (w : World) : Calls Tryz.prog 10 #[.pointer none, .int .i64 ev] w fun e w' => e = .returned (.tuple #[.pointer none, .int .i64 2]) ∧ Below w.heap.size w w' := by
  have HL := Lib.hid (sload_nil w)
  go_enter Tryz.func10, Tryz.ntmps10
  go_wp2_with fail
  refine HL.out.mono ?_; rintro e w1 ⟨rfl, hb1⟩
  go_wp2_with fail
  go_ret2
  exact ⟨rfl, hb1⟩
set_option maxRecDepth 100000 in
set_option maxHeartbeats 4000000 in
theorem sdo_nil (o : KV.KOp) (w : World) : Calls Tryz.prog 16 #[.pointer none, KV.opV o] w fun e w' => e = .returned (.agg #[.int .i64 2, .int .i64 0, .string KV.emp, .slice none 0 0]) ∧ Below w.heap.size w w' := by
  have HR := Lib.hid (fun w => sready_nil w)
  obtain ⟨W, hW⟩ : ∃ W, W = (w.alloc (KV.opO o)).alloc (KV.resO 0 0 KV.emp (.slice none 0 0)) := ⟨_, rfl⟩
  have hb : Below w.heap.size w W := by rw [hW]; exact belAlloc (belNew w _) _
  have hB : W.heap[w.heap.size + 1]? = some (KV.resO 0 0 KV.emp (.slice none 0 0)) := by rw [hW]; simpa using heap_alloc_new (w.alloc (KV.opO o)) (KV.resO 0 0 KV.emp (.slice none 0 0))
  obtain ⟨a0, a1, a2, a3, b0, b1, b2, b3⟩ := KV.four hB
  have hE := KV.put4_at hB (.int .i64 2) (.int .i64 0) (.string KV.emp) (.slice none 0 0)
  have hBl := KV.put4_below hb (show w.heap.size ≤ w.heap.size + 1 by omega) (.int .i64 2) (.int .i64 0) (.string KV.emp) (.slice none 0 0)
  unfold KV.put4 at hE hBl
  have HW := Lib.hid hW
  have HBl := Lib.hid hBl
  have HE := Lib.hid hE
  clear hW hb hB hBl hE
  go_enter Tryz.func16, Tryz.ntmps16
  go_upto_region 1 with fail
  change Code.wp _ _ _ _ ((w.alloc (KV.opO o)).alloc (KV.resO 0 0 KV.emp (.slice none 0 0)))
  rw [← HW.out]
  clear HW
  go_wp2_with fail
  refine (HR.out _).mono ?_; rintro e w1 ⟨rfl, rfl⟩
  go_wp2_with fail
  have hE := HE.out
  refine bodyPost_ret (v := .agg #[.int .i64 2, .int .i64 0, .string KV.emp, .slice none 0 0]) (by simp [results, Tryz.results16, go_sem, World.cell?, hE]) rfl ⟨rfl, HBl.out⟩
end Go.Proofs.YtbbefakmpmniiaaGreatDoor
