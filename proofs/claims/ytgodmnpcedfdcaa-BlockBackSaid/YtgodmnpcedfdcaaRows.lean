/-
  No cell of these rows narrows 'for every input' (looked for: loops, veiled, ifaces, maps, wideKeys, modest, calm, conditions, laid).
  DERIVED. THE GIVEN ROWS OF THIS SEAT. 7 by the template 'for every input the law returns true; each argument reads behind the call as it read before'; 0 by the template 'total and deterministic' (their statements: YtgodmnpcedfdcaaTotals.lean).
  GIVEN WITH THE SEED: the statements are not yours to turn. If you find one false, say at which input.
  Laid BY PROGRAM, IN A SANDBOX (cutbox-rows.mjs): the forced cells as the released guide's own fill.sh prints them over the translation 0b6ea8d6bc399387… (all of the seat's roots in one cut). By AI agents, Wed Nov 11 2026. No macro, syntax, notation, axiom, sorry.
-/
import Derived.Test.YtgodmnpcedfdcaaChecked
import GoSem.Claim
import GoSem.ClaimJoined
import GoSem.ClaimMapViews
import Derived.JoinedTies
import Derived.KernelRfl
namespace Go.Proofs.Ytgodmnpcedfdcaa
/- THE CELL 'sum', in the pinned program and in every row, IS THE sha256 OF THE DUMP (.gsa) THAT YtgodmnpcedfdcaaProg.lean LOADS. Nothing in Lean hashes anything: it is a label: what it is worth is what the hold of that sum in a sandbox is worth. -/
noncomputable def Try.pinned : Pinned := { name := "ytgodmnpcedfdcaa", sum := "0b6ea8d6bc39938760709cbeed81af6255fb6f2a6b31ce8bc2a6e38906ceba12", checked := Try.checked }
namespace Rows
def none {H : Type} : Left H := { results := [], args := [] }

/-- 'virgatelaw15.BlockRight': WHATEVER THE INPUT: true; the input reads as it did. -/
def blockRightSpec : ChangeSpec := { name := "blockRight", fn := fun _ => fun
  | [d1, d2, d3] => { results := [.lit (.bool true)], args := [d1, d2, d3] }
  | _ => none }
def blockRightRow : OpenClaim := { program := "ytgodmnpcedfdcaa", sum := "0b6ea8d6bc39938760709cbeed81af6255fb6f2a6b31ce8bc2a6e38906ceba12", func := "virgate/virgatelaw15.BlockRight", spec := "blockRight", unfollowed := true, recurses := true, plainKeys := false, apart := false }
def BlockRightSaid : Prop := blockRightRow.holds Try.pinned (OpenSpec.ofChange blockRightSpec)

/-- ITS FALSE NEIGHBOUR: 'it returns false'. Refute it at one input. -/
def blockRightWrong : ChangeSpec := { name := "blockRight", fn := fun _ => fun
  | [d1, d2, d3] => { results := [.lit (.bool false)], args := [d1, d2, d3] }
  | _ => none }
def BlockRightWrongFalsely : Prop := blockRightRow.holds Try.pinned (OpenSpec.ofChange blockRightWrong)

/-- 'virgatelaw15.BlockPlays': WHATEVER THE INPUT: true; the input reads as it did. -/
def blockPlaysSpec : ChangeSpec := { name := "blockPlays", fn := fun _ => fun
  | [d1, d2, d3] => { results := [.lit (.bool true)], args := [d1, d2, d3] }
  | _ => none }
def blockPlaysRow : OpenClaim := { program := "ytgodmnpcedfdcaa", sum := "0b6ea8d6bc39938760709cbeed81af6255fb6f2a6b31ce8bc2a6e38906ceba12", func := "virgate/virgatelaw15.BlockPlays", spec := "blockPlays", unfollowed := true, recurses := true, plainKeys := false, apart := false }
def BlockPlaysSaid : Prop := blockPlaysRow.holds Try.pinned (OpenSpec.ofChange blockPlaysSpec)

/-- ITS FALSE NEIGHBOUR: 'it returns false'. Refute it at one input. -/
def blockPlaysWrong : ChangeSpec := { name := "blockPlays", fn := fun _ => fun
  | [d1, d2, d3] => { results := [.lit (.bool false)], args := [d1, d2, d3] }
  | _ => none }
def BlockPlaysWrongFalsely : Prop := blockPlaysRow.holds Try.pinned (OpenSpec.ofChange blockPlaysWrong)

/-- 'virgatelaw15.BlockTells': WHATEVER THE INPUT: true; the input reads as it did. -/
def blockTellsSpec : ChangeSpec := { name := "blockTells", fn := fun _ => fun
  | [d1, d2, d3] => { results := [.lit (.bool true)], args := [d1, d2, d3] }
  | _ => none }
def blockTellsRow : OpenClaim := { program := "ytgodmnpcedfdcaa", sum := "0b6ea8d6bc39938760709cbeed81af6255fb6f2a6b31ce8bc2a6e38906ceba12", func := "virgate/virgatelaw15.BlockTells", spec := "blockTells", unfollowed := true, recurses := true, plainKeys := false, apart := false }
def BlockTellsSaid : Prop := blockTellsRow.holds Try.pinned (OpenSpec.ofChange blockTellsSpec)

/-- ITS FALSE NEIGHBOUR: 'it returns false'. Refute it at one input. -/
def blockTellsWrong : ChangeSpec := { name := "blockTells", fn := fun _ => fun
  | [d1, d2, d3] => { results := [.lit (.bool false)], args := [d1, d2, d3] }
  | _ => none }
def BlockTellsWrongFalsely : Prop := blockTellsRow.holds Try.pinned (OpenSpec.ofChange blockTellsWrong)

/-- 'virgatelaw15.BlockBack': WHATEVER THE INPUT: true; the input reads as it did. -/
def blockBackSpec : ChangeSpec := { name := "blockBack", fn := fun _ => fun
  | [d1, d2, d3, d4] => { results := [.lit (.bool true)], args := [d1, d2, d3, d4] }
  | _ => none }
def blockBackRow : OpenClaim := { program := "ytgodmnpcedfdcaa", sum := "0b6ea8d6bc39938760709cbeed81af6255fb6f2a6b31ce8bc2a6e38906ceba12", func := "virgate/virgatelaw15.BlockBack", spec := "blockBack", unfollowed := true, recurses := true, plainKeys := false, apart := false }
def BlockBackSaid : Prop := blockBackRow.holds Try.pinned (OpenSpec.ofChange blockBackSpec)

/-- ITS FALSE NEIGHBOUR: 'it returns false'. Refute it at one input. -/
def blockBackWrong : ChangeSpec := { name := "blockBack", fn := fun _ => fun
  | [d1, d2, d3, d4] => { results := [.lit (.bool false)], args := [d1, d2, d3, d4] }
  | _ => none }
def BlockBackWrongFalsely : Prop := blockBackRow.holds Try.pinned (OpenSpec.ofChange blockBackWrong)

/-- 'virgatelaw16.ImagePut': WHATEVER THE INPUT: true; the input reads as it did. -/
def imagePutSpec : ChangeSpec := { name := "imagePut", fn := fun _ => fun
  | [d] => { results := [.lit (.bool true)], args := [d] }
  | _ => none }
def imagePutRow : OpenClaim := { program := "ytgodmnpcedfdcaa", sum := "0b6ea8d6bc39938760709cbeed81af6255fb6f2a6b31ce8bc2a6e38906ceba12", func := "virgate/virgatelaw16.ImagePut", spec := "imagePut", plainKeys := false, apart := false }
def ImagePutSaid : Prop := imagePutRow.holds Try.pinned (OpenSpec.ofChange imagePutSpec)

/-- ITS FALSE NEIGHBOUR: 'it returns false'. Refute it at one input. -/
def imagePutWrong : ChangeSpec := { name := "imagePut", fn := fun _ => fun
  | [d] => { results := [.lit (.bool false)], args := [d] }
  | _ => none }
def ImagePutWrongFalsely : Prop := imagePutRow.holds Try.pinned (OpenSpec.ofChange imagePutWrong)

/-- 'virgatelaw16.ImageRead': WHATEVER THE INPUT: true; the input reads as it did. -/
def imageReadSpec : ChangeSpec := { name := "imageRead", fn := fun _ => fun
  | [d] => { results := [.lit (.bool true)], args := [d] }
  | _ => none }
def imageReadRow : OpenClaim := { program := "ytgodmnpcedfdcaa", sum := "0b6ea8d6bc39938760709cbeed81af6255fb6f2a6b31ce8bc2a6e38906ceba12", func := "virgate/virgatelaw16.ImageRead", spec := "imageRead", plainKeys := false, apart := false }
def ImageReadSaid : Prop := imageReadRow.holds Try.pinned (OpenSpec.ofChange imageReadSpec)

/-- ITS FALSE NEIGHBOUR: 'it returns false'. Refute it at one input. -/
def imageReadWrong : ChangeSpec := { name := "imageRead", fn := fun _ => fun
  | [d] => { results := [.lit (.bool false)], args := [d] }
  | _ => none }
def ImageReadWrongFalsely : Prop := imageReadRow.holds Try.pinned (OpenSpec.ofChange imageReadWrong)

/-- 'virgatelaw16.ImageFits': WHATEVER THE INPUT: true; the input reads as it did. -/
def imageFitsSpec : ChangeSpec := { name := "imageFits", fn := fun _ => fun
  | [d] => { results := [.lit (.bool true)], args := [d] }
  | _ => none }
def imageFitsRow : OpenClaim := { program := "ytgodmnpcedfdcaa", sum := "0b6ea8d6bc39938760709cbeed81af6255fb6f2a6b31ce8bc2a6e38906ceba12", func := "virgate/virgatelaw16.ImageFits", spec := "imageFits", plainKeys := false, apart := false }
def ImageFitsSaid : Prop := imageFitsRow.holds Try.pinned (OpenSpec.ofChange imageFitsSpec)

/-- ITS FALSE NEIGHBOUR: 'it returns false'. Refute it at one input. -/
def imageFitsWrong : ChangeSpec := { name := "imageFits", fn := fun _ => fun
  | [d] => { results := [.lit (.bool false)], args := [d] }
  | _ => none }
def ImageFitsWrongFalsely : Prop := imageFitsRow.holds Try.pinned (OpenSpec.ofChange imageFitsWrong)

/- THE SECOND FORM. 'bulk': how many values and letters a reading holds, each counted each time it is reached (what is shared counts as often as it is met; a slice's spare places count too). A statement '..UptoSaid' is the law's where the arguments, and the package variables that the reading takes, are together of bulk at most 1048576: NARROWER than '..Said'. Prove '..Said' where nothing that the law and all that it calls make is longer than what came in: it says more and counts as full. Else prove '..UptoSaid'. A law counts once. -/
mutual
def uptoBulk {H : Type} : DataW H → Nat
  | .lit (.string bytes) => bytes.length + 1
  | .lit _ => 1
  | .nil => 1
  | .ptr d => uptoBulk d + 1
  | .slice elems spare => uptoBulkAll elems + uptoBulkAll spare + 1
  | .agg parts => uptoBulkAll parts + 1
  | .iface _ d => uptoBulk d + 1
  | .map entries => uptoBulkEntries entries + 1
  | .held _ => 1
def uptoBulkAll {H : Type} : List (DataW H) → Nat
  | [] => 0
  | d :: r => uptoBulk d + uptoBulkAll r
def uptoBulkEntries {H : Type} : List (Lit × DataW H) → Nat
  | [] => 0
  | x :: r => uptoBulkEntry x + uptoBulkEntries r
def uptoBulkEntry {H : Type} : Lit × DataW H → Nat
  | (.string bytes, d) => bytes.length + uptoBulk d + 1
  | (_, d) => uptoBulk d + 1
 end
def uptoSmall : (H : Type) → List (DataW H) → Bool := fun _ ds => decide (uptoBulkAll ds ≤ 1048576)
def OpenSpec.upto (s : _root_.Go.ChangeSpec) : _root_.Go.OpenSpec := { _root_.Go.OpenSpec.ofChange s with cond := some uptoSmall }

/-- 'virgatelaw15.BlockRight', WHERE WHAT IT READS IS OF BULK AT MOST 1048576: true; the input reads as it did. -/
def blockRightUptoRow : OpenClaim := { program := "ytgodmnpcedfdcaa", sum := "0b6ea8d6bc39938760709cbeed81af6255fb6f2a6b31ce8bc2a6e38906ceba12", func := "virgate/virgatelaw15.BlockRight", spec := "blockRight", unfollowed := true, recurses := true, plainKeys := false, apart := false, narrowed := true }
def BlockRightUptoSaid : Prop := blockRightUptoRow.holds Try.pinned (OpenSpec.upto blockRightSpec)

/-- 'virgatelaw15.BlockPlays', WHERE WHAT IT READS IS OF BULK AT MOST 1048576: true; the input reads as it did. -/
def blockPlaysUptoRow : OpenClaim := { program := "ytgodmnpcedfdcaa", sum := "0b6ea8d6bc39938760709cbeed81af6255fb6f2a6b31ce8bc2a6e38906ceba12", func := "virgate/virgatelaw15.BlockPlays", spec := "blockPlays", unfollowed := true, recurses := true, plainKeys := false, apart := false, narrowed := true }
def BlockPlaysUptoSaid : Prop := blockPlaysUptoRow.holds Try.pinned (OpenSpec.upto blockPlaysSpec)

/-- 'virgatelaw15.BlockTells', WHERE WHAT IT READS IS OF BULK AT MOST 1048576: true; the input reads as it did. -/
def blockTellsUptoRow : OpenClaim := { program := "ytgodmnpcedfdcaa", sum := "0b6ea8d6bc39938760709cbeed81af6255fb6f2a6b31ce8bc2a6e38906ceba12", func := "virgate/virgatelaw15.BlockTells", spec := "blockTells", unfollowed := true, recurses := true, plainKeys := false, apart := false, narrowed := true }
def BlockTellsUptoSaid : Prop := blockTellsUptoRow.holds Try.pinned (OpenSpec.upto blockTellsSpec)

/-- 'virgatelaw15.BlockBack', WHERE WHAT IT READS IS OF BULK AT MOST 1048576: true; the input reads as it did. -/
def blockBackUptoRow : OpenClaim := { program := "ytgodmnpcedfdcaa", sum := "0b6ea8d6bc39938760709cbeed81af6255fb6f2a6b31ce8bc2a6e38906ceba12", func := "virgate/virgatelaw15.BlockBack", spec := "blockBack", unfollowed := true, recurses := true, plainKeys := false, apart := false, narrowed := true }
def BlockBackUptoSaid : Prop := blockBackUptoRow.holds Try.pinned (OpenSpec.upto blockBackSpec)

/-- 'virgatelaw16.ImagePut', WHERE WHAT IT READS IS OF BULK AT MOST 1048576: true; the input reads as it did. -/
def imagePutUptoRow : OpenClaim := { program := "ytgodmnpcedfdcaa", sum := "0b6ea8d6bc39938760709cbeed81af6255fb6f2a6b31ce8bc2a6e38906ceba12", func := "virgate/virgatelaw16.ImagePut", spec := "imagePut", plainKeys := false, apart := false, narrowed := true }
def ImagePutUptoSaid : Prop := imagePutUptoRow.holds Try.pinned (OpenSpec.upto imagePutSpec)

/-- 'virgatelaw16.ImageRead', WHERE WHAT IT READS IS OF BULK AT MOST 1048576: true; the input reads as it did. -/
def imageReadUptoRow : OpenClaim := { program := "ytgodmnpcedfdcaa", sum := "0b6ea8d6bc39938760709cbeed81af6255fb6f2a6b31ce8bc2a6e38906ceba12", func := "virgate/virgatelaw16.ImageRead", spec := "imageRead", plainKeys := false, apart := false, narrowed := true }
def ImageReadUptoSaid : Prop := imageReadUptoRow.holds Try.pinned (OpenSpec.upto imageReadSpec)

/-- 'virgatelaw16.ImageFits', WHERE WHAT IT READS IS OF BULK AT MOST 1048576: true; the input reads as it did. -/
def imageFitsUptoRow : OpenClaim := { program := "ytgodmnpcedfdcaa", sum := "0b6ea8d6bc39938760709cbeed81af6255fb6f2a6b31ce8bc2a6e38906ceba12", func := "virgate/virgatelaw16.ImageFits", spec := "imageFits", plainKeys := false, apart := false, narrowed := true }
def ImageFitsUptoSaid : Prop := imageFitsUptoRow.holds Try.pinned (OpenSpec.upto imageFitsSpec)

end Rows
end Go.Proofs.Ytgodmnpcedfdcaa
