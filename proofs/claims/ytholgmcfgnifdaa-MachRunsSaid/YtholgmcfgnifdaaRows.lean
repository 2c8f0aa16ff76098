/-
  No cell of these rows narrows 'for every input' (looked for: loops, veiled, ifaces, maps, wideKeys, modest, calm, conditions, laid).
  DERIVED. THE GIVEN ROWS OF THIS SEAT. 3 by the template 'for every input the law returns true; each argument reads behind the call as it read before'; 0 by the template 'total and deterministic' (their statements: YtholgmcfgnifdaaTotals.lean).
  GIVEN WITH THE SEED: the statements are not yours to turn. If you find one false, say at which input.
  Laid BY PROGRAM, IN A SANDBOX (cutbox-rows.mjs): the forced cells as the released guide's own fill.sh prints them over the translation b7596cae2dbabd0b… (all of the seat's roots in one cut). By AI agents, Wed Nov 11 2026. No macro, syntax, notation, axiom, sorry.
-/
import Derived.Test.YtholgmcfgnifdaaChecked
import GoSem.Claim
import GoSem.ClaimJoined
import GoSem.ClaimMapViews
import Derived.JoinedTies
import Derived.KernelRfl
namespace Go.Proofs.Ytholgmcfgnifdaa
/- THE CELL 'sum', in the pinned program and in every row, IS THE sha256 OF THE DUMP (.gsa) THAT YtholgmcfgnifdaaProg.lean LOADS. Nothing in Lean hashes anything: it is a label: what it is worth is what the hold of that sum in a sandbox is worth. -/
noncomputable def Try.pinned : Pinned := { name := "ytholgmcfgnifdaa", sum := "b7596cae2dbabd0bd5eeb14c7f73e5467b9890f6ffcf35504fc97b38d34983a7", checked := Try.checked }
namespace Rows
def none {H : Type} : Left H := { results := [], args := [] }

/-- 'virgatelaw19.MachAsks': WHATEVER THE INPUT: true; the input reads as it did. -/
def machAsksSpec : ChangeSpec := { name := "machAsks", fn := fun _ => fun
  | [d1, d2] => { results := [.lit (.bool true)], args := [d1, d2] }
  | _ => none }
def machAsksRow : OpenClaim := { program := "ytholgmcfgnifdaa", sum := "b7596cae2dbabd0bd5eeb14c7f73e5467b9890f6ffcf35504fc97b38d34983a7", func := "virgate/virgatelaw19.MachAsks", spec := "machAsks", unfollowed := true, recurses := true, apart := false }
def MachAsksSaid : Prop := machAsksRow.holds Try.pinned (OpenSpec.ofChange machAsksSpec)

/-- ITS FALSE NEIGHBOUR: 'it returns false'. Refute it at one input. -/
def machAsksWrong : ChangeSpec := { name := "machAsks", fn := fun _ => fun
  | [d1, d2] => { results := [.lit (.bool false)], args := [d1, d2] }
  | _ => none }
def MachAsksWrongFalsely : Prop := machAsksRow.holds Try.pinned (OpenSpec.ofChange machAsksWrong)

/-- 'virgatelaw19.MachRuns': WHATEVER THE INPUT: true; the input reads as it did. -/
def machRunsSpec : ChangeSpec := { name := "machRuns", fn := fun _ => fun
  | [d1, d2] => { results := [.lit (.bool true)], args := [d1, d2] }
  | _ => none }
def machRunsRow : OpenClaim := { program := "ytholgmcfgnifdaa", sum := "b7596cae2dbabd0bd5eeb14c7f73e5467b9890f6ffcf35504fc97b38d34983a7", func := "virgate/virgatelaw19.MachRuns", spec := "machRuns", inPlace := ["internal/bytealg.abigen_runtime_cmpstring"], unfollowed := true, recurses := true, apart := false }
def MachRunsSaid : Prop := machRunsRow.holds Try.pinned (OpenSpec.ofChange machRunsSpec)

/-- ITS FALSE NEIGHBOUR: 'it returns false'. Refute it at one input. -/
def machRunsWrong : ChangeSpec := { name := "machRuns", fn := fun _ => fun
  | [d1, d2] => { results := [.lit (.bool false)], args := [d1, d2] }
  | _ => none }
def MachRunsWrongFalsely : Prop := machRunsRow.holds Try.pinned (OpenSpec.ofChange machRunsWrong)

/-- 'virgatelaw19.MachNil': WHATEVER THE INPUT: true; the input reads as it did. -/
def machNilSpec : ChangeSpec := { name := "machNil", fn := fun _ => fun
  | [d] => { results := [.lit (.bool true)], args := [d] }
  | _ => none }
def machNilRow : OpenClaim := { program := "ytholgmcfgnifdaa", sum := "b7596cae2dbabd0bd5eeb14c7f73e5467b9890f6ffcf35504fc97b38d34983a7", func := "virgate/virgatelaw19.MachNil", spec := "machNil", unfollowed := true, recurses := true, apart := false }
def MachNilSaid : Prop := machNilRow.holds Try.pinned (OpenSpec.ofChange machNilSpec)

/-- ITS FALSE NEIGHBOUR: 'it returns false'. Refute it at one input. -/
def machNilWrong : ChangeSpec := { name := "machNil", fn := fun _ => fun
  | [d] => { results := [.lit (.bool false)], args := [d] }
  | _ => none }
def MachNilWrongFalsely : Prop := machNilRow.holds Try.pinned (OpenSpec.ofChange machNilWrong)

/- THE SECOND FORM. 'bulk': how many values and letters a reading holds, each counted each time it is reached (what is shared counts as often as it is met; a slice's spare places count too). A statement '..UptoSaid' is the law's where the arguments, and the package variables that the reading takes, are together of bulk at most 1048576: NARROWER than '..Said'. Prove '..Said' where nothing that the law and all that it calls make is longer than what came in: it says more and counts as full. Else prove '..UptoSaid'. A law counts once. -/
mutual
def uptoBulk {H : Type} : DataW H → Nat
  | .lit (.string bytes) => bytes.length + 1
  | .lit _ => 1
  | .nil => 1
  | .ptr d => uptoBulk d + 1
  | .slice elems spare => uptoBulkAll elems + uptoBulkAll spare + 1
  | .agg parts => uptoBulkAll parts + 1
  | .iface _ d => uptoBulk d + 1
  | .map entries => uptoBulkEntries entries + 1
  | .held _ => 1
def uptoBulkAll {H : Type} : List (DataW H) → Nat
  | [] => 0
  | d :: r => uptoBulk d + uptoBulkAll r
def uptoBulkEntries {H : Type} : List (Lit × DataW H) → Nat
  | [] => 0
  | x :: r => uptoBulkEntry x + uptoBulkEntries r
def uptoBulkEntry {H : Type} : Lit × DataW H → Nat
  | (.string bytes, d) => bytes.length + uptoBulk d + 1
  | (_, d) => uptoBulk d + 1
 end
def uptoSmall : (H : Type) → List (DataW H) → Bool := fun _ ds => decide (uptoBulkAll ds ≤ 1048576)
def OpenSpec.upto (s : _root_.Go.ChangeSpec) : _root_.Go.OpenSpec := { _root_.Go.OpenSpec.ofChange s with cond := some uptoSmall }

/-- 'virgatelaw19.MachAsks', WHERE WHAT IT READS IS OF BULK AT MOST 1048576: true; the input reads as it did. -/
def machAsksUptoRow : OpenClaim := { program := "ytholgmcfgnifdaa", sum := "b7596cae2dbabd0bd5eeb14c7f73e5467b9890f6ffcf35504fc97b38d34983a7", func := "virgate/virgatelaw19.MachAsks", spec := "machAsks", unfollowed := true, recurses := true, apart := false, narrowed := true }
def MachAsksUptoSaid : Prop := machAsksUptoRow.holds Try.pinned (OpenSpec.upto machAsksSpec)

/-- 'virgatelaw19.MachRuns', WHERE WHAT IT READS IS OF BULK AT MOST 1048576: true; the input reads as it did. -/
def machRunsUptoRow : OpenClaim := { program := "ytholgmcfgnifdaa", sum := "b7596cae2dbabd0bd5eeb14c7f73e5467b9890f6ffcf35504fc97b38d34983a7", func := "virgate/virgatelaw19.MachRuns", spec := "machRuns", inPlace := ["internal/bytealg.abigen_runtime_cmpstring"], unfollowed := true, recurses := true, apart := false, narrowed := true }
def MachRunsUptoSaid : Prop := machRunsUptoRow.holds Try.pinned (OpenSpec.upto machRunsSpec)

/-- 'virgatelaw19.MachNil', WHERE WHAT IT READS IS OF BULK AT MOST 1048576: true; the input reads as it did. -/
def machNilUptoRow : OpenClaim := { program := "ytholgmcfgnifdaa", sum := "b7596cae2dbabd0bd5eeb14c7f73e5467b9890f6ffcf35504fc97b38d34983a7", func := "virgate/virgatelaw19.MachNil", spec := "machNil", unfollowed := true, recurses := true, apart := false, narrowed := true }
def MachNilUptoSaid : Prop := machNilUptoRow.holds Try.pinned (OpenSpec.upto machNilSpec)

end Rows
end Go.Proofs.Ytholgmcfgnifdaa
