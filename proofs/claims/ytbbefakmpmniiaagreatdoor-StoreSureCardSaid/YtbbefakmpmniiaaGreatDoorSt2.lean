/- Package store: what is saved, where nothing was; a disk that is not there; a store that is not there. -/
import Derived.Test.YtbbefakmpmniiaaGreatDoorSt
namespace Go.Proofs.YtbbefakmpmniiaaGreatDoor
open Go.RowKit Go.Maps
def nSnap : ByteArray := ⟨#[115, 110, 97, 112]⟩
def nLog : ByteArray := ⟨#[108, 111, 103]⟩
set_option maxRecDepth 100000 in
theorem sload_new (g : Nat) (P : Nat → Prop) (D : DSt) (w : World) (h : DiskAt w g P D) (hn : ((getE D.fs nSnap.data.toList).getD ([], 0)).1.length ≤ 1000000) (hE : Env w) (hl : (loadD D nSnap.data.toList).2 = 6) :
    Calls Tryz.prog 33 #[ptr g] w fun e w' => ∃ k, e = .returned (.tuple #[ptr k, .int .i64 0]) ∧ KV.KvAt w' k (· = k) ⟨0, []⟩ ∧ w.heap.size ≤ k ∧ Below w.heap.size w w' := by
  have HL := Lib.hid (load_any g P D nSnap w h (by decide) hn hE)
  rw [hl] at HL
  have HN := Lib.hid (fun w => KV.new_kv w)
  clear h hn hE hl
  go_enter Tryz.func33, Tryz.ntmps33
  go_wp2_with fail
  refine HL.out.mono ?_; rintro e w1 ⟨v, rfl, _, _, hb1⟩
  go_wp2_with fail
  refine (HN.out w1).mono ?_; rintro e w2 ⟨k, rfl, hk, hkk, hb2⟩
  go_wp2_with fail
  go_ret2
  exact ⟨k, rfl, hk, Nat.le_trans hb1.size hkk, hb1.trans (hb2.mono hb1.size)⟩
end Go.Proofs.YtbbefakmpmniiaaGreatDoor
