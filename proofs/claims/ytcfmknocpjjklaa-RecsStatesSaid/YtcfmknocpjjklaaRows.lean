/-
  No cell of these rows narrows 'for every input' (looked for: loops, veiled, ifaces, maps, wideKeys, modest, calm, conditions, laid).
  DERIVED. THE GIVEN ROWS OF THIS SEAT. 4 by the template 'for every input the law returns true; each argument reads behind the call as it read before'; 0 by the template 'total and deterministic' (their statements: YtcfmknocpjjklaaTotals.lean).
  GIVEN WITH THE SEED: the statements are not yours to turn. If you find one false, say at which input.
  Laid BY PROGRAM, IN A SANDBOX (cutbox-rows.mjs): the forced cells as the released guide's own fill.sh prints them over the translation 0d2c32656a3ee871… (all of the seat's roots in one cut). By AI agents, Wed Nov 11 2026. No macro, syntax, notation, axiom, sorry.
-/
import Derived.Test.YtcfmknocpjjklaaChecked
import GoSem.Claim
import GoSem.ClaimJoined
import GoSem.ClaimMapViews
import Derived.JoinedTies
import Derived.KernelRfl
namespace Go.Proofs.Ytcfmknocpjjklaa
/- THE CELL 'sum', in the pinned program and in every row, IS THE sha256 OF THE DUMP (.gsa) THAT YtcfmknocpjjklaaProg.lean LOADS. Nothing in Lean hashes anything: it is a label: what it is worth is what the hold of that sum in a sandbox is worth. -/
noncomputable def Try.pinned : Pinned := { name := "ytcfmknocpjjklaa", sum := "0d2c32656a3ee87121704aa87b744b8ea1500843c59e163bb8dbb0aceeb94bba", checked := Try.checked }
namespace Rows
def none {H : Type} : Left H := { results := [], args := [] }

/-- 'virgatelaw13.RecsPool': WHATEVER THE INPUT: true; the input reads as it did. -/
def recsPoolSpec : ChangeSpec := { name := "recsPool", fn := fun _ => fun
  | [d] => { results := [.lit (.bool true)], args := [d] }
  | _ => none }
def recsPoolRow : OpenClaim := { program := "ytcfmknocpjjklaa", sum := "0d2c32656a3ee87121704aa87b744b8ea1500843c59e163bb8dbb0aceeb94bba", func := "virgate/virgatelaw13.RecsPool", spec := "recsPool", apart := false }
def RecsPoolSaid : Prop := recsPoolRow.holds Try.pinned (OpenSpec.ofChange recsPoolSpec)

/-- ITS FALSE NEIGHBOUR: 'it returns false'. Refute it at one input. -/
def recsPoolWrong : ChangeSpec := { name := "recsPool", fn := fun _ => fun
  | [d] => { results := [.lit (.bool false)], args := [d] }
  | _ => none }
def RecsPoolWrongFalsely : Prop := recsPoolRow.holds Try.pinned (OpenSpec.ofChange recsPoolWrong)

/-- 'virgatelaw13.RecsRead': WHATEVER THE INPUT: true; the input reads as it did. -/
def recsReadSpec : ChangeSpec := { name := "recsRead", fn := fun _ => fun
  | [d] => { results := [.lit (.bool true)], args := [d] }
  | _ => none }
def recsReadRow : OpenClaim := { program := "ytcfmknocpjjklaa", sum := "0d2c32656a3ee87121704aa87b744b8ea1500843c59e163bb8dbb0aceeb94bba", func := "virgate/virgatelaw13.RecsRead", spec := "recsRead", apart := false }
def RecsReadSaid : Prop := recsReadRow.holds Try.pinned (OpenSpec.ofChange recsReadSpec)

/-- ITS FALSE NEIGHBOUR: 'it returns false'. Refute it at one input. -/
def recsReadWrong : ChangeSpec := { name := "recsRead", fn := fun _ => fun
  | [d] => { results := [.lit (.bool false)], args := [d] }
  | _ => none }
def RecsReadWrongFalsely : Prop := recsReadRow.holds Try.pinned (OpenSpec.ofChange recsReadWrong)

/-- 'virgatelaw13.RecsBlocks': WHATEVER THE INPUT: true; the input reads as it did. -/
def recsBlocksSpec : ChangeSpec := { name := "recsBlocks", fn := fun _ => fun
  | [d1, d2, d3] => { results := [.lit (.bool true)], args := [d1, d2, d3] }
  | _ => none }
def recsBlocksRow : OpenClaim := { program := "ytcfmknocpjjklaa", sum := "0d2c32656a3ee87121704aa87b744b8ea1500843c59e163bb8dbb0aceeb94bba", func := "virgate/virgatelaw13.RecsBlocks", spec := "recsBlocks", apart := false }
def RecsBlocksSaid : Prop := recsBlocksRow.holds Try.pinned (OpenSpec.ofChange recsBlocksSpec)

/-- ITS FALSE NEIGHBOUR: 'it returns false'. Refute it at one input. -/
def recsBlocksWrong : ChangeSpec := { name := "recsBlocks", fn := fun _ => fun
  | [d1, d2, d3] => { results := [.lit (.bool false)], args := [d1, d2, d3] }
  | _ => none }
def RecsBlocksWrongFalsely : Prop := recsBlocksRow.holds Try.pinned (OpenSpec.ofChange recsBlocksWrong)

/-- 'virgatelaw13.RecsStates': WHATEVER THE INPUT: true; the input reads as it did. -/
def recsStatesSpec : ChangeSpec := { name := "recsStates", fn := fun _ => fun
  | [d1, d2, d3] => { results := [.lit (.bool true)], args := [d1, d2, d3] }
  | _ => none }
def recsStatesRow : OpenClaim := { program := "ytcfmknocpjjklaa", sum := "0d2c32656a3ee87121704aa87b744b8ea1500843c59e163bb8dbb0aceeb94bba", func := "virgate/virgatelaw13.RecsStates", spec := "recsStates", apart := false }
def RecsStatesSaid : Prop := recsStatesRow.holds Try.pinned (OpenSpec.ofChange recsStatesSpec)

/-- ITS FALSE NEIGHBOUR: 'it returns false'. Refute it at one input. -/
def recsStatesWrong : ChangeSpec := { name := "recsStates", fn := fun _ => fun
  | [d1, d2, d3] => { results := [.lit (.bool false)], args := [d1, d2, d3] }
  | _ => none }
def RecsStatesWrongFalsely : Prop := recsStatesRow.holds Try.pinned (OpenSpec.ofChange recsStatesWrong)

/- THE SECOND FORM. 'bulk': how many values and letters a reading holds, each counted each time it is reached (what is shared counts as often as it is met; a slice's spare places count too). A statement '..UptoSaid' is the law's where the arguments, and the package variables that the reading takes, are together of bulk at most 1048576: NARROWER than '..Said'. Prove '..Said' where nothing that the law and all that it calls make is longer than what came in: it says more and counts as full. Else prove '..UptoSaid'. A law counts once. -/
mutual
def uptoBulk {H : Type} : DataW H → Nat
  | .lit (.string bytes) => bytes.length + 1
  | .lit _ => 1
  | .nil => 1
  | .ptr d => uptoBulk d + 1
  | .slice elems spare => uptoBulkAll elems + uptoBulkAll spare + 1
  | .agg parts => uptoBulkAll parts + 1
  | .iface _ d => uptoBulk d + 1
  | .map entries => uptoBulkEntries entries + 1
  | .held _ => 1
def uptoBulkAll {H : Type} : List (DataW H) → Nat
  | [] => 0
  | d :: r => uptoBulk d + uptoBulkAll r
def uptoBulkEntries {H : Type} : List (Lit × DataW H) → Nat
  | [] => 0
  | x :: r => uptoBulkEntry x + uptoBulkEntries r
def uptoBulkEntry {H : Type} : Lit × DataW H → Nat
  | (.string bytes, d) => bytes.length + uptoBulk d + 1
  | (_, d) => uptoBulk d + 1
 end
def uptoSmall : (H : Type) → List (DataW H) → Bool := fun _ ds => decide (uptoBulkAll ds ≤ 1048576)
def OpenSpec.upto (s : _root_.Go.ChangeSpec) : _root_.Go.OpenSpec := { _root_.Go.OpenSpec.ofChange s with cond := some uptoSmall }

/-- 'virgatelaw13.RecsPool', WHERE WHAT IT READS IS OF BULK AT MOST 1048576: true; the input reads as it did. -/
def recsPoolUptoRow : OpenClaim := { program := "ytcfmknocpjjklaa", sum := "0d2c32656a3ee87121704aa87b744b8ea1500843c59e163bb8dbb0aceeb94bba", func := "virgate/virgatelaw13.RecsPool", spec := "recsPool", apart := false, narrowed := true }
def RecsPoolUptoSaid : Prop := recsPoolUptoRow.holds Try.pinned (OpenSpec.upto recsPoolSpec)

/-- 'virgatelaw13.RecsRead', WHERE WHAT IT READS IS OF BULK AT MOST 1048576: true; the input reads as it did. -/
def recsReadUptoRow : OpenClaim := { program := "ytcfmknocpjjklaa", sum := "0d2c32656a3ee87121704aa87b744b8ea1500843c59e163bb8dbb0aceeb94bba", func := "virgate/virgatelaw13.RecsRead", spec := "recsRead", apart := false, narrowed := true }
def RecsReadUptoSaid : Prop := recsReadUptoRow.holds Try.pinned (OpenSpec.upto recsReadSpec)

/-- 'virgatelaw13.RecsBlocks', WHERE WHAT IT READS IS OF BULK AT MOST 1048576: true; the input reads as it did. -/
def recsBlocksUptoRow : OpenClaim := { program := "ytcfmknocpjjklaa", sum := "0d2c32656a3ee87121704aa87b744b8ea1500843c59e163bb8dbb0aceeb94bba", func := "virgate/virgatelaw13.RecsBlocks", spec := "recsBlocks", apart := false, narrowed := true }
def RecsBlocksUptoSaid : Prop := recsBlocksUptoRow.holds Try.pinned (OpenSpec.upto recsBlocksSpec)

/-- 'virgatelaw13.RecsStates', WHERE WHAT IT READS IS OF BULK AT MOST 1048576: true; the input reads as it did. -/
def recsStatesUptoRow : OpenClaim := { program := "ytcfmknocpjjklaa", sum := "0d2c32656a3ee87121704aa87b744b8ea1500843c59e163bb8dbb0aceeb94bba", func := "virgate/virgatelaw13.RecsStates", spec := "recsStates", apart := false, narrowed := true }
def RecsStatesUptoSaid : Prop := recsStatesUptoRow.holds Try.pinned (OpenSpec.upto recsStatesSpec)

end Rows
end Go.Proofs.Ytcfmknocpjjklaa
