/-
  NARROWER THAN 'FOR EVERY INPUT', by the rows' own cells (each row's printed sentence says how): FramePut: laid · FrameAll: laid · FrameTorn: laid · FrameSize: laid · FrameMany: laid.
  DERIVED. THE GIVEN ROWS OF THIS SEAT. 5 by the template 'for every input the law returns true; each argument reads behind the call as it read before'; 0 by the template 'total and deterministic' (their statements: YtmniihpfnmpcfaaDoorTotals.lean).
  GIVEN WITH THE SEED: the statements are not yours to turn. If you find one false, say at which input.
  Laid BY PROGRAM, IN A SANDBOX (cutbox-rows.mjs): the forced cells as the released guide's own fill.sh prints them over the translation 7e33f8cceb722cc1… (all of the seat's roots in one cut). By AI agents, Wed Nov 11 2026. No macro, syntax, notation, axiom, sorry.
-/
import Derived.Test.YtmniihpfnmpcfaaDoorChecked
import GoSem.Claim
import GoSem.ClaimJoined
import GoSem.ClaimMapViews
import Derived.JoinedTies
import Derived.KernelRfl
namespace Go.Proofs.YtmniihpfnmpcfaaDoor
/- THE CELL 'sum', in the pinned program and in every row, IS THE sha256 OF THE DUMP (.gsa) THAT YtmniihpfnmpcfaaDoorProg.lean LOADS. Nothing in Lean hashes anything: it is a label: what it is worth is what the hold of that sum in a sandbox is worth. -/
noncomputable def Tryd.pinned : Pinned := { name := "ytmniihpfnmpcfaadoor", sum := "7e33f8cceb722cc18a2afa740063c10b42781753f123bce7437f3ef94ebdee0b", checked := Tryd.checked }
namespace Rows
def none {H : Type} : Left H := { results := [], args := [] }

/- WHAT THE LISTED PACKAGE-LEVEL VARIABLES READ AS WHEN THE CALL BEGINS. Each datum BY PROGRAM (the guide's laid-datum.mjs) off the statement by which the dump's own 'gosem.cut.vars' lays the variable. In a bare row this is a premise. The card (YtmniihpfnmpcfaaDoorCards.lean) ties it to the program's text. -/
def laid_virgate_sum_halves {H : Type} : DataW H := .agg [.lit (.int .u32 0), .lit (.int .u32 274646895), .lit (.int .u32 549293790), .lit (.int .u32 820201905), .lit (.int .u32 1098587580), .lit (.int .u32 1361435347), .lit (.int .u32 1640403810), .lit (.int .u32 1905808397), .lit (.int .u32 2197175160), .lit (.int .u32 2460548119), .lit (.int .u32 2722870694), .lit (.int .u32 2987750089), .lit (.int .u32 3280807620), .lit (.int .u32 3553878443), .lit (.int .u32 3811616794), .lit (.int .u32 4084100981)]

/-- 'virgatelaw05.FramePut': WHATEVER THE INPUT: true; the input reads as it did. -/
def framePutSpec : ChangeSpec := { name := "framePut", fn := fun _ => fun
  | [d1, d2] => { results := [.lit (.bool true)], args := [d1, d2] }
  | _ => none }
def framePutRow : OpenClaim := { program := "ytmniihpfnmpcfaadoor", sum := "7e33f8cceb722cc18a2afa740063c10b42781753f123bce7437f3ef94ebdee0b", func := "virgate/virgatelaw05.FramePut", spec := "framePut", named := ["virgate/sum.halves"], apart := false, laid := [("virgate/sum.halves", laid_virgate_sum_halves)] }
def FramePutSaid : Prop := framePutRow.holds Tryd.pinned (OpenSpec.ofChange framePutSpec)

/-- ITS FALSE NEIGHBOUR: 'it returns false'. Refute it at one input. -/
def framePutWrong : ChangeSpec := { name := "framePut", fn := fun _ => fun
  | [d1, d2] => { results := [.lit (.bool false)], args := [d1, d2] }
  | _ => none }
def FramePutWrongFalsely : Prop := framePutRow.holds Tryd.pinned (OpenSpec.ofChange framePutWrong)

/-- 'virgatelaw05.FrameAll': WHATEVER THE INPUT: true; the input reads as it did. -/
def frameAllSpec : ChangeSpec := { name := "frameAll", fn := fun _ => fun
  | [d] => { results := [.lit (.bool true)], args := [d] }
  | _ => none }
def frameAllRow : OpenClaim := { program := "ytmniihpfnmpcfaadoor", sum := "7e33f8cceb722cc18a2afa740063c10b42781753f123bce7437f3ef94ebdee0b", func := "virgate/virgatelaw05.FrameAll", spec := "frameAll", named := ["virgate/sum.halves"], apart := false, laid := [("virgate/sum.halves", laid_virgate_sum_halves)] }
def FrameAllSaid : Prop := frameAllRow.holds Tryd.pinned (OpenSpec.ofChange frameAllSpec)

/-- ITS FALSE NEIGHBOUR: 'it returns false'. Refute it at one input. -/
def frameAllWrong : ChangeSpec := { name := "frameAll", fn := fun _ => fun
  | [d] => { results := [.lit (.bool false)], args := [d] }
  | _ => none }
def FrameAllWrongFalsely : Prop := frameAllRow.holds Tryd.pinned (OpenSpec.ofChange frameAllWrong)

/-- 'virgatelaw05.FrameTorn': WHATEVER THE INPUT: true; the input reads as it did. -/
def frameTornSpec : ChangeSpec := { name := "frameTorn", fn := fun _ => fun
  | [d1, d2] => { results := [.lit (.bool true)], args := [d1, d2] }
  | _ => none }
def frameTornRow : OpenClaim := { program := "ytmniihpfnmpcfaadoor", sum := "7e33f8cceb722cc18a2afa740063c10b42781753f123bce7437f3ef94ebdee0b", func := "virgate/virgatelaw05.FrameTorn", spec := "frameTorn", named := ["virgate/sum.halves"], apart := false, laid := [("virgate/sum.halves", laid_virgate_sum_halves)] }
def FrameTornSaid : Prop := frameTornRow.holds Tryd.pinned (OpenSpec.ofChange frameTornSpec)

/-- ITS FALSE NEIGHBOUR: 'it returns false'. Refute it at one input. -/
def frameTornWrong : ChangeSpec := { name := "frameTorn", fn := fun _ => fun
  | [d1, d2] => { results := [.lit (.bool false)], args := [d1, d2] }
  | _ => none }
def FrameTornWrongFalsely : Prop := frameTornRow.holds Tryd.pinned (OpenSpec.ofChange frameTornWrong)

/-- 'virgatelaw05.FrameSize': WHATEVER THE INPUT: true; the input reads as it did. -/
def frameSizeSpec : ChangeSpec := { name := "frameSize", fn := fun _ => fun
  | [d] => { results := [.lit (.bool true)], args := [d] }
  | _ => none }
def frameSizeRow : OpenClaim := { program := "ytmniihpfnmpcfaadoor", sum := "7e33f8cceb722cc18a2afa740063c10b42781753f123bce7437f3ef94ebdee0b", func := "virgate/virgatelaw05.FrameSize", spec := "frameSize", named := ["virgate/sum.halves"], apart := false, laid := [("virgate/sum.halves", laid_virgate_sum_halves)] }
def FrameSizeSaid : Prop := frameSizeRow.holds Tryd.pinned (OpenSpec.ofChange frameSizeSpec)

/-- ITS FALSE NEIGHBOUR: 'it returns false'. Refute it at one input. -/
def frameSizeWrong : ChangeSpec := { name := "frameSize", fn := fun _ => fun
  | [d] => { results := [.lit (.bool false)], args := [d] }
  | _ => none }
def FrameSizeWrongFalsely : Prop := frameSizeRow.holds Tryd.pinned (OpenSpec.ofChange frameSizeWrong)

/-- 'virgatelaw05.FrameMany': WHATEVER THE INPUT: true; the input reads as it did. -/
def frameManySpec : ChangeSpec := { name := "frameMany", fn := fun _ => fun
  | [d] => { results := [.lit (.bool true)], args := [d] }
  | _ => none }
def frameManyRow : OpenClaim := { program := "ytmniihpfnmpcfaadoor", sum := "7e33f8cceb722cc18a2afa740063c10b42781753f123bce7437f3ef94ebdee0b", func := "virgate/virgatelaw05.FrameMany", spec := "frameMany", named := ["virgate/sum.halves"], apart := false, laid := [("virgate/sum.halves", laid_virgate_sum_halves)] }
def FrameManySaid : Prop := frameManyRow.holds Tryd.pinned (OpenSpec.ofChange frameManySpec)

/-- ITS FALSE NEIGHBOUR: 'it returns false'. Refute it at one input. -/
def frameManyWrong : ChangeSpec := { name := "frameMany", fn := fun _ => fun
  | [d] => { results := [.lit (.bool false)], args := [d] }
  | _ => none }
def FrameManyWrongFalsely : Prop := frameManyRow.holds Tryd.pinned (OpenSpec.ofChange frameManyWrong)

/- THE SECOND FORM. 'bulk': how many values and letters a reading holds, each counted each time it is reached (what is shared counts as often as it is met; a slice's spare places count too). A statement '..UptoSaid' is the law's where the arguments, and the package variables that the reading takes, are together of bulk at most 1048576: NARROWER than '..Said'. Prove '..Said' where nothing that the law and all that it calls make is longer than what came in: it says more and counts as full. Else prove '..UptoSaid'. A law counts once. -/
mutual
def uptoBulk {H : Type} : DataW H → Nat
  | .lit (.string bytes) => bytes.length + 1
  | .lit _ => 1
  | .nil => 1
  | .ptr d => uptoBulk d + 1
  | .slice elems spare => uptoBulkAll elems + uptoBulkAll spare + 1
  | .agg parts => uptoBulkAll parts + 1
  | .iface _ d => uptoBulk d + 1
  | .map entries => uptoBulkEntries entries + 1
  | .held _ => 1
def uptoBulkAll {H : Type} : List (DataW H) → Nat
  | [] => 0
  | d :: r => uptoBulk d + uptoBulkAll r
def uptoBulkEntries {H : Type} : List (Lit × DataW H) → Nat
  | [] => 0
  | x :: r => uptoBulkEntry x + uptoBulkEntries r
def uptoBulkEntry {H : Type} : Lit × DataW H → Nat
  | (.string bytes, d) => bytes.length + uptoBulk d + 1
  | (_, d) => uptoBulk d + 1
 end
def uptoSmall : (H : Type) → List (DataW H) → Bool := fun _ ds => decide (uptoBulkAll ds ≤ 1048576)
def OpenSpec.upto (s : _root_.Go.ChangeSpec) : _root_.Go.OpenSpec := { _root_.Go.OpenSpec.ofChange s with cond := some uptoSmall }

/-- 'virgatelaw05.FramePut', WHERE WHAT IT READS IS OF BULK AT MOST 1048576: true; the input reads as it did. -/
def framePutUptoRow : OpenClaim := { program := "ytmniihpfnmpcfaadoor", sum := "7e33f8cceb722cc18a2afa740063c10b42781753f123bce7437f3ef94ebdee0b", func := "virgate/virgatelaw05.FramePut", spec := "framePut", named := ["virgate/sum.halves"], apart := false, laid := [("virgate/sum.halves", laid_virgate_sum_halves)], narrowed := true }
def FramePutUptoSaid : Prop := framePutUptoRow.holds Tryd.pinned (OpenSpec.upto framePutSpec)

/-- 'virgatelaw05.FrameAll', WHERE WHAT IT READS IS OF BULK AT MOST 1048576: true; the input reads as it did. -/
def frameAllUptoRow : OpenClaim := { program := "ytmniihpfnmpcfaadoor", sum := "7e33f8cceb722cc18a2afa740063c10b42781753f123bce7437f3ef94ebdee0b", func := "virgate/virgatelaw05.FrameAll", spec := "frameAll", named := ["virgate/sum.halves"], apart := false, laid := [("virgate/sum.halves", laid_virgate_sum_halves)], narrowed := true }
def FrameAllUptoSaid : Prop := frameAllUptoRow.holds Tryd.pinned (OpenSpec.upto frameAllSpec)

/-- 'virgatelaw05.FrameTorn', WHERE WHAT IT READS IS OF BULK AT MOST 1048576: true; the input reads as it did. -/
def frameTornUptoRow : OpenClaim := { program := "ytmniihpfnmpcfaadoor", sum := "7e33f8cceb722cc18a2afa740063c10b42781753f123bce7437f3ef94ebdee0b", func := "virgate/virgatelaw05.FrameTorn", spec := "frameTorn", named := ["virgate/sum.halves"], apart := false, laid := [("virgate/sum.halves", laid_virgate_sum_halves)], narrowed := true }
def FrameTornUptoSaid : Prop := frameTornUptoRow.holds Tryd.pinned (OpenSpec.upto frameTornSpec)

/-- 'virgatelaw05.FrameSize', WHERE WHAT IT READS IS OF BULK AT MOST 1048576: true; the input reads as it did. -/
def frameSizeUptoRow : OpenClaim := { program := "ytmniihpfnmpcfaadoor", sum := "7e33f8cceb722cc18a2afa740063c10b42781753f123bce7437f3ef94ebdee0b", func := "virgate/virgatelaw05.FrameSize", spec := "frameSize", named := ["virgate/sum.halves"], apart := false, laid := [("virgate/sum.halves", laid_virgate_sum_halves)], narrowed := true }
def FrameSizeUptoSaid : Prop := frameSizeUptoRow.holds Tryd.pinned (OpenSpec.upto frameSizeSpec)

/-- 'virgatelaw05.FrameMany', WHERE WHAT IT READS IS OF BULK AT MOST 1048576: true; the input reads as it did. -/
def frameManyUptoRow : OpenClaim := { program := "ytmniihpfnmpcfaadoor", sum := "7e33f8cceb722cc18a2afa740063c10b42781753f123bce7437f3ef94ebdee0b", func := "virgate/virgatelaw05.FrameMany", spec := "frameMany", named := ["virgate/sum.halves"], apart := false, laid := [("virgate/sum.halves", laid_virgate_sum_halves)], narrowed := true }
def FrameManyUptoSaid : Prop := frameManyUptoRow.holds Tryd.pinned (OpenSpec.upto frameManySpec)

end Rows
end Go.Proofs.YtmniihpfnmpcfaaDoor
