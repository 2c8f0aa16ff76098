/- Package image: Size; the chapter's example; the walk of ImageFits. -/
import Derived.Test.YtlbgjmnihenmaaaGreatDoorJIm
import Derived.Test.YtlbgjmnihenmaaaGreatDoorJBrA
import Derived.Test.YtlbgjmnihenmaaaGreatDoorGr
namespace Go.Proofs.YtlbgjmnihenmaaaGreatDoor
open Go.RowKit
theorem wpLdBg {ops : Array Oper} {rest : List Oper} {o : Oper} {a : Act} {w : World} {Q : Exit → Act → World → Prop} {g : Nat} {b : BlkS} {fv av : Value} (hw : Region.wanted o (yielded ops a.tmps) = true) (x : Operand) (ho : o.op = .load 59 x) (hx : a.eval x = .pointer (some ⟨g, 0, none⟩)) (h : BlkAt w g b fv av) (hl : b.sl.length = 64)
    (hK : wpList Tryz.prog ops Q rest (a.put o.dst (.agg (blkL b fv av).toArray)) w) : wpList Tryz.prog ops Q (o :: rest) a w :=
  wpList_step fun K hK2 => by
    rw [if_pos hw]
    exact wp_load_mid 59 x ho g 0 hx _ _ h.whole Tryz.underlying59 rfl (by rw [infoB, blkL_len b hl]) (hK2 _ _ hK)
theorem BlkRet.sees {w w' : World} {b : BlkS} {fv av : Value} (h : BlkRet w w' b fv av) : Sees w' fv b.free ∧ SeesA w' av b.attrs := ⟨h.free.sees, RowA.sees h.attrs⟩
end Go.Proofs.YtlbgjmnihenmaaaGreatDoor
