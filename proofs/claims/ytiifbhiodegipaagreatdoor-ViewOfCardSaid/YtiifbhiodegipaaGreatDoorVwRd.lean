/- The document's view: Read of a block's key. -/
import Derived.Test.YtiifbhiodegipaaGreatDoorVwNet
import Derived.Test.YtiifbhiodegipaaGreatDoorVwBh
import Derived.Test.YtiifbhiodegipaaGreatDoorVwDbW
import Derived.Test.YtiifbhiodegipaaGreatDoorVwBlk
import Derived.Test.YtiifbhiodegipaaGreatDoorVwB
namespace Go.Proofs.YtiifbhiodegipaaGreatDoor
open Go.RowKit
abbrev TRec : TypeId := 52
def recL (k : Int) (ba : Int) (bf : ByteArray) (v1 v2 v3 : Value) : List Value := [.int .i64 k, .string ⟨#[]⟩, .int .u32 0, .int .u32 0, .int .i64 0, .bool false, .int .u32 ba, .string bf, v1, v2, v3, .int .i64 0, NS, .bool false]
theorem infoRec : (Tryz.prog.info? TRec).map (·.size) = some 14 := by kernel_rfl
theorem recL_one (k ba : Int) (bf : ByteArray) (a1 a2 a3 : Option Addr) (n1 c1 n2 c2 n3 c3 : Nat) : ∀ v ∈ recL k ba bf (.slice a1 n1 c1) (.slice a2 n2 c2) (.slice a3 n3 c3), v.oneCell' = true := by
  intro v hv
  simp only [recL, List.mem_cons, List.not_mem_nil, or_false] at hv
  rcases hv with rfl | rfl | rfl | rfl | rfl | rfl | rfl | rfl | rfl | rfl | rfl | rfl | rfl | rfl <;> rfl
end Go.Proofs.YtiifbhiodegipaaGreatDoor
