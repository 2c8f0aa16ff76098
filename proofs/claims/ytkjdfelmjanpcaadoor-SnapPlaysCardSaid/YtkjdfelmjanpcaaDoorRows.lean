/-
  NARROWER THAN 'FOR EVERY INPUT', by the rows' own cells (each row's printed sentence says how): WalPlays: laid · WalSure: laid · WalOpens: laid · WalNil: laid · SnapPlays: laid · SnapOnce: laid · SnapNil: laid.
  DERIVED. THE GIVEN ROWS OF THIS SEAT. 7 by the template 'for every input the law returns true; each argument reads behind the call as it read before'; 0 by the template 'total and deterministic' (their statements: YtkjdfelmjanpcaaDoorTotals.lean).
  GIVEN WITH THE SEED: the statements are not yours to turn. If you find one false, say at which input.
  Laid BY PROGRAM, IN A SANDBOX (cutbox-rows.mjs): the forced cells as the released guide's own fill.sh prints them over the translation 373d8b7fd1a46b0c… (all of the seat's roots in one cut). By AI agents, Wed Nov 11 2026. No macro, syntax, notation, axiom, sorry.
-/
import Derived.Test.YtkjdfelmjanpcaaDoorChecked
import GoSem.Claim
import GoSem.ClaimJoined
import GoSem.ClaimMapViews
import Derived.JoinedTies
import Derived.KernelRfl
namespace Go.Proofs.YtkjdfelmjanpcaaDoor
/- THE CELL 'sum', in the pinned program and in every row, IS THE sha256 OF THE DUMP (.gsa) THAT YtkjdfelmjanpcaaDoorProg.lean LOADS. Nothing in Lean hashes anything: it is a label: what it is worth is what the hold of that sum in a sandbox is worth. -/
noncomputable def Tryd.pinned : Pinned := { name := "ytkjdfelmjanpcaadoor", sum := "373d8b7fd1a46b0c35414d05994015d7edb449e7a5a0b399d029a7c014dac56e", checked := Tryd.checked }
namespace Rows
def none {H : Type} : Left H := { results := [], args := [] }

/- WHAT THE LISTED PACKAGE-LEVEL VARIABLES READ AS WHEN THE CALL BEGINS. Each datum BY PROGRAM (the guide's laid-datum.mjs) off the statement by which the dump's own 'gosem.cut.vars' lays the variable. In a bare row this is a premise. The card (YtkjdfelmjanpcaaDoorCards.lean) ties it to the program's text. -/
def laid_virgate_sum_halves {H : Type} : DataW H := .agg [.lit (.int .u32 0), .lit (.int .u32 274646895), .lit (.int .u32 549293790), .lit (.int .u32 820201905), .lit (.int .u32 1098587580), .lit (.int .u32 1361435347), .lit (.int .u32 1640403810), .lit (.int .u32 1905808397), .lit (.int .u32 2197175160), .lit (.int .u32 2460548119), .lit (.int .u32 2722870694), .lit (.int .u32 2987750089), .lit (.int .u32 3280807620), .lit (.int .u32 3553878443), .lit (.int .u32 3811616794), .lit (.int .u32 4084100981)]

/-- 'virgatelaw07.WalPlays': WHATEVER THE INPUT: true; the input reads as it did. -/
def walPlaysSpec : ChangeSpec := { name := "walPlays", fn := fun _ => fun
  | [d] => { results := [.lit (.bool true)], args := [d] }
  | _ => none }
def walPlaysRow : OpenClaim := { program := "ytkjdfelmjanpcaadoor", sum := "373d8b7fd1a46b0c35414d05994015d7edb449e7a5a0b399d029a7c014dac56e", func := "virgate/virgatelaw07.WalPlays", spec := "walPlays", unfollowed := true, recurses := true, named := ["virgate/sum.halves"], apart := false, laid := [("virgate/sum.halves", laid_virgate_sum_halves)] }
def WalPlaysSaid : Prop := walPlaysRow.holds Tryd.pinned (OpenSpec.ofChange walPlaysSpec)

/-- ITS FALSE NEIGHBOUR: 'it returns false'. Refute it at one input. -/
def walPlaysWrong : ChangeSpec := { name := "walPlays", fn := fun _ => fun
  | [d] => { results := [.lit (.bool false)], args := [d] }
  | _ => none }
def WalPlaysWrongFalsely : Prop := walPlaysRow.holds Tryd.pinned (OpenSpec.ofChange walPlaysWrong)

/-- 'virgatelaw07.WalSure': WHATEVER THE INPUT: true; the input reads as it did. -/
def walSureSpec : ChangeSpec := { name := "walSure", fn := fun _ => fun
  | [d1, d2, d3] => { results := [.lit (.bool true)], args := [d1, d2, d3] }
  | _ => none }
def walSureRow : OpenClaim := { program := "ytkjdfelmjanpcaadoor", sum := "373d8b7fd1a46b0c35414d05994015d7edb449e7a5a0b399d029a7c014dac56e", func := "virgate/virgatelaw07.WalSure", spec := "walSure", unfollowed := true, recurses := true, named := ["virgate/sum.halves"], apart := false, laid := [("virgate/sum.halves", laid_virgate_sum_halves)] }
def WalSureSaid : Prop := walSureRow.holds Tryd.pinned (OpenSpec.ofChange walSureSpec)

/-- ITS FALSE NEIGHBOUR: 'it returns false'. Refute it at one input. -/
def walSureWrong : ChangeSpec := { name := "walSure", fn := fun _ => fun
  | [d1, d2, d3] => { results := [.lit (.bool false)], args := [d1, d2, d3] }
  | _ => none }
def WalSureWrongFalsely : Prop := walSureRow.holds Tryd.pinned (OpenSpec.ofChange walSureWrong)

/-- 'virgatelaw07.WalOpens': WHATEVER THE INPUT: true; the input reads as it did. -/
def walOpensSpec : ChangeSpec := { name := "walOpens", fn := fun _ => fun
  | [d] => { results := [.lit (.bool true)], args := [d] }
  | _ => none }
def walOpensRow : OpenClaim := { program := "ytkjdfelmjanpcaadoor", sum := "373d8b7fd1a46b0c35414d05994015d7edb449e7a5a0b399d029a7c014dac56e", func := "virgate/virgatelaw07.WalOpens", spec := "walOpens", unfollowed := true, recurses := true, named := ["virgate/sum.halves"], apart := false, laid := [("virgate/sum.halves", laid_virgate_sum_halves)] }
def WalOpensSaid : Prop := walOpensRow.holds Tryd.pinned (OpenSpec.ofChange walOpensSpec)

/-- ITS FALSE NEIGHBOUR: 'it returns false'. Refute it at one input. -/
def walOpensWrong : ChangeSpec := { name := "walOpens", fn := fun _ => fun
  | [d] => { results := [.lit (.bool false)], args := [d] }
  | _ => none }
def WalOpensWrongFalsely : Prop := walOpensRow.holds Tryd.pinned (OpenSpec.ofChange walOpensWrong)

/-- 'virgatelaw07.WalNil': WHATEVER THE INPUT: true; the input reads as it did. -/
def walNilSpec : ChangeSpec := { name := "walNil", fn := fun _ => fun
  | [d] => { results := [.lit (.bool true)], args := [d] }
  | _ => none }
def walNilRow : OpenClaim := { program := "ytkjdfelmjanpcaadoor", sum := "373d8b7fd1a46b0c35414d05994015d7edb449e7a5a0b399d029a7c014dac56e", func := "virgate/virgatelaw07.WalNil", spec := "walNil", unfollowed := true, recurses := true, named := ["virgate/sum.halves"], apart := false, laid := [("virgate/sum.halves", laid_virgate_sum_halves)] }
def WalNilSaid : Prop := walNilRow.holds Tryd.pinned (OpenSpec.ofChange walNilSpec)

/-- ITS FALSE NEIGHBOUR: 'it returns false'. Refute it at one input. -/
def walNilWrong : ChangeSpec := { name := "walNil", fn := fun _ => fun
  | [d] => { results := [.lit (.bool false)], args := [d] }
  | _ => none }
def WalNilWrongFalsely : Prop := walNilRow.holds Tryd.pinned (OpenSpec.ofChange walNilWrong)

/-- 'virgatelaw08.SnapPlays': WHATEVER THE INPUT: true; the input reads as it did. -/
def snapPlaysSpec : ChangeSpec := { name := "snapPlays", fn := fun _ => fun
  | [d1, d2] => { results := [.lit (.bool true)], args := [d1, d2] }
  | _ => none }
def snapPlaysRow : OpenClaim := { program := "ytkjdfelmjanpcaadoor", sum := "373d8b7fd1a46b0c35414d05994015d7edb449e7a5a0b399d029a7c014dac56e", func := "virgate/virgatelaw08.SnapPlays", spec := "snapPlays", unfollowed := true, recurses := true, named := ["virgate/sum.halves"], apart := false, laid := [("virgate/sum.halves", laid_virgate_sum_halves)] }
def SnapPlaysSaid : Prop := snapPlaysRow.holds Tryd.pinned (OpenSpec.ofChange snapPlaysSpec)

/-- ITS FALSE NEIGHBOUR: 'it returns false'. Refute it at one input. -/
def snapPlaysWrong : ChangeSpec := { name := "snapPlays", fn := fun _ => fun
  | [d1, d2] => { results := [.lit (.bool false)], args := [d1, d2] }
  | _ => none }
def SnapPlaysWrongFalsely : Prop := snapPlaysRow.holds Tryd.pinned (OpenSpec.ofChange snapPlaysWrong)

/-- 'virgatelaw08.SnapOnce': WHATEVER THE INPUT: true; the input reads as it did. -/
def snapOnceSpec : ChangeSpec := { name := "snapOnce", fn := fun _ => fun
  | [d1, d2, d3, d4, d5] => { results := [.lit (.bool true)], args := [d1, d2, d3, d4, d5] }
  | _ => none }
def snapOnceRow : OpenClaim := { program := "ytkjdfelmjanpcaadoor", sum := "373d8b7fd1a46b0c35414d05994015d7edb449e7a5a0b399d029a7c014dac56e", func := "virgate/virgatelaw08.SnapOnce", spec := "snapOnce", unfollowed := true, recurses := true, named := ["virgate/sum.halves"], apart := false, laid := [("virgate/sum.halves", laid_virgate_sum_halves)] }
def SnapOnceSaid : Prop := snapOnceRow.holds Tryd.pinned (OpenSpec.ofChange snapOnceSpec)

/-- ITS FALSE NEIGHBOUR: 'it returns false'. Refute it at one input. -/
def snapOnceWrong : ChangeSpec := { name := "snapOnce", fn := fun _ => fun
  | [d1, d2, d3, d4, d5] => { results := [.lit (.bool false)], args := [d1, d2, d3, d4, d5] }
  | _ => none }
def SnapOnceWrongFalsely : Prop := snapOnceRow.holds Tryd.pinned (OpenSpec.ofChange snapOnceWrong)

/-- 'virgatelaw08.SnapNil': WHATEVER THE INPUT: true; the input reads as it did. -/
def snapNilSpec : ChangeSpec := { name := "snapNil", fn := fun _ => fun
  | [d] => { results := [.lit (.bool true)], args := [d] }
  | _ => none }
def snapNilRow : OpenClaim := { program := "ytkjdfelmjanpcaadoor", sum := "373d8b7fd1a46b0c35414d05994015d7edb449e7a5a0b399d029a7c014dac56e", func := "virgate/virgatelaw08.SnapNil", spec := "snapNil", unfollowed := true, recurses := true, named := ["virgate/sum.halves"], apart := false, laid := [("virgate/sum.halves", laid_virgate_sum_halves)] }
def SnapNilSaid : Prop := snapNilRow.holds Tryd.pinned (OpenSpec.ofChange snapNilSpec)

/-- ITS FALSE NEIGHBOUR: 'it returns false'. Refute it at one input. -/
def snapNilWrong : ChangeSpec := { name := "snapNil", fn := fun _ => fun
  | [d] => { results := [.lit (.bool false)], args := [d] }
  | _ => none }
def SnapNilWrongFalsely : Prop := snapNilRow.holds Tryd.pinned (OpenSpec.ofChange snapNilWrong)

/- THE SECOND FORM. 'bulk': how many values and letters a reading holds, each counted each time it is reached (what is shared counts as often as it is met; a slice's spare places count too). A statement '..UptoSaid' is the law's where the arguments, and the package variables that the reading takes, are together of bulk at most 1048576: NARROWER than '..Said'. Prove '..Said' where nothing that the law and all that it calls make is longer than what came in: it says more and counts as full. Else prove '..UptoSaid'. A law counts once. -/
mutual
def uptoBulk {H : Type} : DataW H → Nat
  | .lit (.string bytes) => bytes.length + 1
  | .lit _ => 1
  | .nil => 1
  | .ptr d => uptoBulk d + 1
  | .slice elems spare => uptoBulkAll elems + uptoBulkAll spare + 1
  | .agg parts => uptoBulkAll parts + 1
  | .iface _ d => uptoBulk d + 1
  | .map entries => uptoBulkEntries entries + 1
  | .held _ => 1
def uptoBulkAll {H : Type} : List (DataW H) → Nat
  | [] => 0
  | d :: r => uptoBulk d + uptoBulkAll r
def uptoBulkEntries {H : Type} : List (Lit × DataW H) → Nat
  | [] => 0
  | x :: r => uptoBulkEntry x + uptoBulkEntries r
def uptoBulkEntry {H : Type} : Lit × DataW H → Nat
  | (.string bytes, d) => bytes.length + uptoBulk d + 1
  | (_, d) => uptoBulk d + 1
 end
def uptoSmall : (H : Type) → List (DataW H) → Bool := fun _ ds => decide (uptoBulkAll ds ≤ 1048576)
def OpenSpec.upto (s : _root_.Go.ChangeSpec) : _root_.Go.OpenSpec := { _root_.Go.OpenSpec.ofChange s with cond := some uptoSmall }

/-- 'virgatelaw07.WalPlays', WHERE WHAT IT READS IS OF BULK AT MOST 1048576: true; the input reads as it did. -/
def walPlaysUptoRow : OpenClaim := { program := "ytkjdfelmjanpcaadoor", sum := "373d8b7fd1a46b0c35414d05994015d7edb449e7a5a0b399d029a7c014dac56e", func := "virgate/virgatelaw07.WalPlays", spec := "walPlays", unfollowed := true, recurses := true, named := ["virgate/sum.halves"], apart := false, laid := [("virgate/sum.halves", laid_virgate_sum_halves)], narrowed := true }
def WalPlaysUptoSaid : Prop := walPlaysUptoRow.holds Tryd.pinned (OpenSpec.upto walPlaysSpec)

/-- 'virgatelaw07.WalSure', WHERE WHAT IT READS IS OF BULK AT MOST 1048576: true; the input reads as it did. -/
def walSureUptoRow : OpenClaim := { program := "ytkjdfelmjanpcaadoor", sum := "373d8b7fd1a46b0c35414d05994015d7edb449e7a5a0b399d029a7c014dac56e", func := "virgate/virgatelaw07.WalSure", spec := "walSure", unfollowed := true, recurses := true, named := ["virgate/sum.halves"], apart := false, laid := [("virgate/sum.halves", laid_virgate_sum_halves)], narrowed := true }
def WalSureUptoSaid : Prop := walSureUptoRow.holds Tryd.pinned (OpenSpec.upto walSureSpec)

/-- 'virgatelaw07.WalOpens', WHERE WHAT IT READS IS OF BULK AT MOST 1048576: true; the input reads as it did. -/
def walOpensUptoRow : OpenClaim := { program := "ytkjdfelmjanpcaadoor", sum := "373d8b7fd1a46b0c35414d05994015d7edb449e7a5a0b399d029a7c014dac56e", func := "virgate/virgatelaw07.WalOpens", spec := "walOpens", unfollowed := true, recurses := true, named := ["virgate/sum.halves"], apart := false, laid := [("virgate/sum.halves", laid_virgate_sum_halves)], narrowed := true }
def WalOpensUptoSaid : Prop := walOpensUptoRow.holds Tryd.pinned (OpenSpec.upto walOpensSpec)

/-- 'virgatelaw07.WalNil', WHERE WHAT IT READS IS OF BULK AT MOST 1048576: true; the input reads as it did. -/
def walNilUptoRow : OpenClaim := { program := "ytkjdfelmjanpcaadoor", sum := "373d8b7fd1a46b0c35414d05994015d7edb449e7a5a0b399d029a7c014dac56e", func := "virgate/virgatelaw07.WalNil", spec := "walNil", unfollowed := true, recurses := true, named := ["virgate/sum.halves"], apart := false, laid := [("virgate/sum.halves", laid_virgate_sum_halves)], narrowed := true }
def WalNilUptoSaid : Prop := walNilUptoRow.holds Tryd.pinned (OpenSpec.upto walNilSpec)

/-- 'virgatelaw08.SnapPlays', WHERE WHAT IT READS IS OF BULK AT MOST 1048576: true; the input reads as it did. -/
def snapPlaysUptoRow : OpenClaim := { program := "ytkjdfelmjanpcaadoor", sum := "373d8b7fd1a46b0c35414d05994015d7edb449e7a5a0b399d029a7c014dac56e", func := "virgate/virgatelaw08.SnapPlays", spec := "snapPlays", unfollowed := true, recurses := true, named := ["virgate/sum.halves"], apart := false, laid := [("virgate/sum.halves", laid_virgate_sum_halves)], narrowed := true }
def SnapPlaysUptoSaid : Prop := snapPlaysUptoRow.holds Tryd.pinned (OpenSpec.upto snapPlaysSpec)

/-- 'virgatelaw08.SnapOnce', WHERE WHAT IT READS IS OF BULK AT MOST 1048576: true; the input reads as it did. -/
def snapOnceUptoRow : OpenClaim := { program := "ytkjdfelmjanpcaadoor", sum := "373d8b7fd1a46b0c35414d05994015d7edb449e7a5a0b399d029a7c014dac56e", func := "virgate/virgatelaw08.SnapOnce", spec := "snapOnce", unfollowed := true, recurses := true, named := ["virgate/sum.halves"], apart := false, laid := [("virgate/sum.halves", laid_virgate_sum_halves)], narrowed := true }
def SnapOnceUptoSaid : Prop := snapOnceUptoRow.holds Tryd.pinned (OpenSpec.upto snapOnceSpec)

/-- 'virgatelaw08.SnapNil', WHERE WHAT IT READS IS OF BULK AT MOST 1048576: true; the input reads as it did. -/
def snapNilUptoRow : OpenClaim := { program := "ytkjdfelmjanpcaadoor", sum := "373d8b7fd1a46b0c35414d05994015d7edb449e7a5a0b399d029a7c014dac56e", func := "virgate/virgatelaw08.SnapNil", spec := "snapNil", unfollowed := true, recurses := true, named := ["virgate/sum.halves"], apart := false, laid := [("virgate/sum.halves", laid_virgate_sum_halves)], narrowed := true }
def SnapNilUptoSaid : Prop := snapNilUptoRow.holds Tryd.pinned (OpenSpec.upto snapNilSpec)

end Rows
end Go.Proofs.YtkjdfelmjanpcaaDoor
