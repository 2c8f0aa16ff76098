/-
  NARROWER THAN 'FOR EVERY INPUT', by the rows' own cells (each row's printed sentence says how): IpPrint: laid · IpParse: laid · IpBytes: laid · IpAdd: laid · IpBits: laid · CidrPrint: laid · CidrParse: laid · CidrHas: laid · CidrCovers: laid · CidrSplit: laid · CidrBlock: laid.
  DERIVED. THE GIVEN ROWS OF THIS SEAT. 11 by the template 'for every input the law returns true; each argument reads behind the call as it read before'; 0 by the template 'total and deterministic' (their statements: YtdhkacejefkejaaDoorTotals.lean).
  GIVEN WITH THE SEED: the statements are not yours to turn. If you find one false, say at which input.
  Laid BY PROGRAM, IN A SANDBOX (cutbox-rows.mjs): the forced cells as the released guide's own fill.sh prints them over the translation 9175da3f0b6030f8… (all of the seat's roots in one cut). By AI agents, Wed Nov 11 2026. No macro, syntax, notation, axiom, sorry.
-/
import Derived.Test.YtdhkacejefkejaaDoorChecked
import GoSem.Claim
import GoSem.ClaimJoined
import GoSem.ClaimMapViews
import Derived.JoinedTies
import Derived.KernelRfl
namespace Go.Proofs.YtdhkacejefkejaaDoor
/- THE CELL 'sum', in the pinned program and in every row, IS THE sha256 OF THE DUMP (.gsa) THAT YtdhkacejefkejaaDoorProg.lean LOADS. Nothing in Lean hashes anything: it is a label: what it is worth is what the hold of that sum in a sandbox is worth. -/
noncomputable def Tryd.pinned : Pinned := { name := "ytdhkacejefkejaadoor", sum := "9175da3f0b6030f8e6325ccfbca81f9887162c4c40b1bf1e74e7a7ffbf28bdeb", checked := Tryd.checked }
namespace Rows
def none {H : Type} : Left H := { results := [], args := [] }

/- WHAT THE LISTED PACKAGE-LEVEL VARIABLES READ AS WHEN THE CALL BEGINS. Each datum BY PROGRAM (the guide's laid-datum.mjs) off the statement by which the dump's own 'gosem.cut.vars' lays the variable. In a bare row this is a premise. The card (YtdhkacejefkejaaDoorCards.lean) ties it to the program's text. -/
def laid_math_bits_deBruijn32tab {H : Type} : DataW H := .agg [.lit (.int .u8 0), .lit (.int .u8 1), .lit (.int .u8 28), .lit (.int .u8 2), .lit (.int .u8 29), .lit (.int .u8 14), .lit (.int .u8 24), .lit (.int .u8 3), .lit (.int .u8 30), .lit (.int .u8 22), .lit (.int .u8 20), .lit (.int .u8 15), .lit (.int .u8 25), .lit (.int .u8 17), .lit (.int .u8 4), .lit (.int .u8 8), .lit (.int .u8 31), .lit (.int .u8 27), .lit (.int .u8 13), .lit (.int .u8 23), .lit (.int .u8 21), .lit (.int .u8 19), .lit (.int .u8 16), .lit (.int .u8 7), .lit (.int .u8 26), .lit (.int .u8 12), .lit (.int .u8 18), .lit (.int .u8 6), .lit (.int .u8 11), .lit (.int .u8 5), .lit (.int .u8 10), .lit (.int .u8 9)]
def laid_math_bits_deBruijn64tab {H : Type} : DataW H := .agg [.lit (.int .u8 0), .lit (.int .u8 1), .lit (.int .u8 56), .lit (.int .u8 2), .lit (.int .u8 57), .lit (.int .u8 49), .lit (.int .u8 28), .lit (.int .u8 3), .lit (.int .u8 61), .lit (.int .u8 58), .lit (.int .u8 42), .lit (.int .u8 50), .lit (.int .u8 38), .lit (.int .u8 29), .lit (.int .u8 17), .lit (.int .u8 4), .lit (.int .u8 62), .lit (.int .u8 47), .lit (.int .u8 59), .lit (.int .u8 36), .lit (.int .u8 45), .lit (.int .u8 43), .lit (.int .u8 51), .lit (.int .u8 22), .lit (.int .u8 53), .lit (.int .u8 39), .lit (.int .u8 33), .lit (.int .u8 30), .lit (.int .u8 24), .lit (.int .u8 18), .lit (.int .u8 12), .lit (.int .u8 5), .lit (.int .u8 63), .lit (.int .u8 55), .lit (.int .u8 48), .lit (.int .u8 27), .lit (.int .u8 60), .lit (.int .u8 41), .lit (.int .u8 37), .lit (.int .u8 16), .lit (.int .u8 46), .lit (.int .u8 35), .lit (.int .u8 44), .lit (.int .u8 21), .lit (.int .u8 52), .lit (.int .u8 32), .lit (.int .u8 23), .lit (.int .u8 11), .lit (.int .u8 54), .lit (.int .u8 26), .lit (.int .u8 40), .lit (.int .u8 15), .lit (.int .u8 34), .lit (.int .u8 20), .lit (.int .u8 31), .lit (.int .u8 10), .lit (.int .u8 25), .lit (.int .u8 14), .lit (.int .u8 19), .lit (.int .u8 9), .lit (.int .u8 13), .lit (.int .u8 8), .lit (.int .u8 7), .lit (.int .u8 6)]
def laid_internal_strconv_uint64pow10 {H : Type} : DataW H := .agg [.lit (.int .u64 1), .lit (.int .u64 10), .lit (.int .u64 100), .lit (.int .u64 1000), .lit (.int .u64 10000), .lit (.int .u64 100000), .lit (.int .u64 1000000), .lit (.int .u64 10000000), .lit (.int .u64 100000000), .lit (.int .u64 1000000000), .lit (.int .u64 10000000000), .lit (.int .u64 100000000000), .lit (.int .u64 1000000000000), .lit (.int .u64 10000000000000), .lit (.int .u64 100000000000000), .lit (.int .u64 1000000000000000), .lit (.int .u64 10000000000000000), .lit (.int .u64 100000000000000000), .lit (.int .u64 1000000000000000000), .lit (.int .u64 10000000000000000000)]

/-- 'virgatelaw01.IpPrint': WHATEVER THE INPUT: true; the input reads as it did. -/
def ipPrintSpec : ChangeSpec := { name := "ipPrint", fn := fun _ => fun
  | [d] => { results := [.lit (.bool true)], args := [d] }
  | _ => none }
def ipPrintRow : OpenClaim := { program := "ytdhkacejefkejaadoor", sum := "9175da3f0b6030f8e6325ccfbca81f9887162c4c40b1bf1e74e7a7ffbf28bdeb", func := "virgate/virgatelaw01.IpPrint", spec := "ipPrint", inPlace := ["internal/bytealg.IndexByteString", "internal/bytealg.IndexString"], recurses := true, named := ["internal/strconv.uint64pow10", "math/bits.deBruijn32tab", "math/bits.deBruijn64tab", "internal/bytealg.MaxLen"], apart := false, laid := [("math/bits.deBruijn32tab", laid_math_bits_deBruijn32tab), ("math/bits.deBruijn64tab", laid_math_bits_deBruijn64tab), ("internal/strconv.uint64pow10", laid_internal_strconv_uint64pow10)] }
def IpPrintSaid : Prop := ipPrintRow.holds Tryd.pinned (OpenSpec.ofChange ipPrintSpec)

/-- ITS FALSE NEIGHBOUR: 'it returns false'. Refute it at one input. -/
def ipPrintWrong : ChangeSpec := { name := "ipPrint", fn := fun _ => fun
  | [d] => { results := [.lit (.bool false)], args := [d] }
  | _ => none }
def IpPrintWrongFalsely : Prop := ipPrintRow.holds Tryd.pinned (OpenSpec.ofChange ipPrintWrong)

/-- 'virgatelaw01.IpParse': WHATEVER THE INPUT: true; the input reads as it did. -/
def ipParseSpec : ChangeSpec := { name := "ipParse", fn := fun _ => fun
  | [d] => { results := [.lit (.bool true)], args := [d] }
  | _ => none }
def ipParseRow : OpenClaim := { program := "ytdhkacejefkejaadoor", sum := "9175da3f0b6030f8e6325ccfbca81f9887162c4c40b1bf1e74e7a7ffbf28bdeb", func := "virgate/virgatelaw01.IpParse", spec := "ipParse", inPlace := ["internal/bytealg.IndexByteString", "internal/bytealg.IndexString"], recurses := true, named := ["internal/bytealg.MaxLen", "internal/strconv.uint64pow10", "math/bits.deBruijn32tab", "math/bits.deBruijn64tab"], apart := false, laid := [("math/bits.deBruijn32tab", laid_math_bits_deBruijn32tab), ("math/bits.deBruijn64tab", laid_math_bits_deBruijn64tab), ("internal/strconv.uint64pow10", laid_internal_strconv_uint64pow10)] }
def IpParseSaid : Prop := ipParseRow.holds Tryd.pinned (OpenSpec.ofChange ipParseSpec)

/-- ITS FALSE NEIGHBOUR: 'it returns false'. Refute it at one input. -/
def ipParseWrong : ChangeSpec := { name := "ipParse", fn := fun _ => fun
  | [d] => { results := [.lit (.bool false)], args := [d] }
  | _ => none }
def IpParseWrongFalsely : Prop := ipParseRow.holds Tryd.pinned (OpenSpec.ofChange ipParseWrong)

/-- 'virgatelaw01.IpBytes': WHATEVER THE INPUT: true; the input reads as it did. -/
def ipBytesSpec : ChangeSpec := { name := "ipBytes", fn := fun _ => fun
  | [d1, d2] => { results := [.lit (.bool true)], args := [d1, d2] }
  | _ => none }
def ipBytesRow : OpenClaim := { program := "ytdhkacejefkejaadoor", sum := "9175da3f0b6030f8e6325ccfbca81f9887162c4c40b1bf1e74e7a7ffbf28bdeb", func := "virgate/virgatelaw01.IpBytes", spec := "ipBytes", inPlace := ["internal/bytealg.IndexByteString", "internal/bytealg.IndexString"], named := ["internal/bytealg.MaxLen", "internal/strconv.uint64pow10", "math/bits.deBruijn32tab", "math/bits.deBruijn64tab"], apart := false, laid := [("math/bits.deBruijn32tab", laid_math_bits_deBruijn32tab), ("math/bits.deBruijn64tab", laid_math_bits_deBruijn64tab), ("internal/strconv.uint64pow10", laid_internal_strconv_uint64pow10)] }
def IpBytesSaid : Prop := ipBytesRow.holds Tryd.pinned (OpenSpec.ofChange ipBytesSpec)

/-- ITS FALSE NEIGHBOUR: 'it returns false'. Refute it at one input. -/
def ipBytesWrong : ChangeSpec := { name := "ipBytes", fn := fun _ => fun
  | [d1, d2] => { results := [.lit (.bool false)], args := [d1, d2] }
  | _ => none }
def IpBytesWrongFalsely : Prop := ipBytesRow.holds Tryd.pinned (OpenSpec.ofChange ipBytesWrong)

/-- 'virgatelaw01.IpAdd': WHATEVER THE INPUT: true; the input reads as it did. -/
def ipAddSpec : ChangeSpec := { name := "ipAdd", fn := fun _ => fun
  | [d1, d2, d3] => { results := [.lit (.bool true)], args := [d1, d2, d3] }
  | _ => none }
def ipAddRow : OpenClaim := { program := "ytdhkacejefkejaadoor", sum := "9175da3f0b6030f8e6325ccfbca81f9887162c4c40b1bf1e74e7a7ffbf28bdeb", func := "virgate/virgatelaw01.IpAdd", spec := "ipAdd", inPlace := ["internal/bytealg.IndexByteString", "internal/bytealg.IndexString"], named := ["internal/bytealg.MaxLen", "internal/strconv.uint64pow10", "math/bits.deBruijn32tab", "math/bits.deBruijn64tab"], apart := false, laid := [("math/bits.deBruijn32tab", laid_math_bits_deBruijn32tab), ("math/bits.deBruijn64tab", laid_math_bits_deBruijn64tab), ("internal/strconv.uint64pow10", laid_internal_strconv_uint64pow10)] }
def IpAddSaid : Prop := ipAddRow.holds Tryd.pinned (OpenSpec.ofChange ipAddSpec)

/-- ITS FALSE NEIGHBOUR: 'it returns false'. Refute it at one input. -/
def ipAddWrong : ChangeSpec := { name := "ipAdd", fn := fun _ => fun
  | [d1, d2, d3] => { results := [.lit (.bool false)], args := [d1, d2, d3] }
  | _ => none }
def IpAddWrongFalsely : Prop := ipAddRow.holds Tryd.pinned (OpenSpec.ofChange ipAddWrong)

/-- 'virgatelaw01.IpBits': WHATEVER THE INPUT: true; the input reads as it did. -/
def ipBitsSpec : ChangeSpec := { name := "ipBits", fn := fun _ => fun
  | [d1, d2, d3] => { results := [.lit (.bool true)], args := [d1, d2, d3] }
  | _ => none }
def ipBitsRow : OpenClaim := { program := "ytdhkacejefkejaadoor", sum := "9175da3f0b6030f8e6325ccfbca81f9887162c4c40b1bf1e74e7a7ffbf28bdeb", func := "virgate/virgatelaw01.IpBits", spec := "ipBits", inPlace := ["internal/bytealg.IndexByteString", "internal/bytealg.IndexString"], named := ["internal/bytealg.MaxLen", "internal/strconv.uint64pow10", "math/bits.deBruijn32tab", "math/bits.deBruijn64tab"], apart := false, laid := [("math/bits.deBruijn32tab", laid_math_bits_deBruijn32tab), ("math/bits.deBruijn64tab", laid_math_bits_deBruijn64tab), ("internal/strconv.uint64pow10", laid_internal_strconv_uint64pow10)] }
def IpBitsSaid : Prop := ipBitsRow.holds Tryd.pinned (OpenSpec.ofChange ipBitsSpec)

/-- ITS FALSE NEIGHBOUR: 'it returns false'. Refute it at one input. -/
def ipBitsWrong : ChangeSpec := { name := "ipBits", fn := fun _ => fun
  | [d1, d2, d3] => { results := [.lit (.bool false)], args := [d1, d2, d3] }
  | _ => none }
def IpBitsWrongFalsely : Prop := ipBitsRow.holds Tryd.pinned (OpenSpec.ofChange ipBitsWrong)

/-- 'virgatelaw02.CidrPrint': WHATEVER THE INPUT: true; the input reads as it did. -/
def cidrPrintSpec : ChangeSpec := { name := "cidrPrint", fn := fun _ => fun
  | [d] => { results := [.lit (.bool true)], args := [d] }
  | _ => none }
def cidrPrintRow : OpenClaim := { program := "ytdhkacejefkejaadoor", sum := "9175da3f0b6030f8e6325ccfbca81f9887162c4c40b1bf1e74e7a7ffbf28bdeb", func := "virgate/virgatelaw02.CidrPrint", spec := "cidrPrint", inPlace := ["internal/bytealg.IndexByteString", "internal/bytealg.IndexString"], recurses := true, named := ["internal/strconv.uint64pow10", "math/bits.deBruijn32tab", "math/bits.deBruijn64tab", "internal/bytealg.MaxLen"], apart := false, laid := [("math/bits.deBruijn32tab", laid_math_bits_deBruijn32tab), ("math/bits.deBruijn64tab", laid_math_bits_deBruijn64tab), ("internal/strconv.uint64pow10", laid_internal_strconv_uint64pow10)] }
def CidrPrintSaid : Prop := cidrPrintRow.holds Tryd.pinned (OpenSpec.ofChange cidrPrintSpec)

/-- ITS FALSE NEIGHBOUR: 'it returns false'. Refute it at one input. -/
def cidrPrintWrong : ChangeSpec := { name := "cidrPrint", fn := fun _ => fun
  | [d] => { results := [.lit (.bool false)], args := [d] }
  | _ => none }
def CidrPrintWrongFalsely : Prop := cidrPrintRow.holds Tryd.pinned (OpenSpec.ofChange cidrPrintWrong)

/-- 'virgatelaw02.CidrParse': WHATEVER THE INPUT: true; the input reads as it did. -/
def cidrParseSpec : ChangeSpec := { name := "cidrParse", fn := fun _ => fun
  | [d] => { results := [.lit (.bool true)], args := [d] }
  | _ => none }
def cidrParseRow : OpenClaim := { program := "ytdhkacejefkejaadoor", sum := "9175da3f0b6030f8e6325ccfbca81f9887162c4c40b1bf1e74e7a7ffbf28bdeb", func := "virgate/virgatelaw02.CidrParse", spec := "cidrParse", inPlace := ["internal/bytealg.IndexByteString", "internal/bytealg.IndexString"], recurses := true, named := ["internal/bytealg.MaxLen", "internal/strconv.uint64pow10", "math/bits.deBruijn32tab", "math/bits.deBruijn64tab"], apart := false, laid := [("math/bits.deBruijn32tab", laid_math_bits_deBruijn32tab), ("math/bits.deBruijn64tab", laid_math_bits_deBruijn64tab), ("internal/strconv.uint64pow10", laid_internal_strconv_uint64pow10)] }
def CidrParseSaid : Prop := cidrParseRow.holds Tryd.pinned (OpenSpec.ofChange cidrParseSpec)

/-- ITS FALSE NEIGHBOUR: 'it returns false'. Refute it at one input. -/
def cidrParseWrong : ChangeSpec := { name := "cidrParse", fn := fun _ => fun
  | [d] => { results := [.lit (.bool false)], args := [d] }
  | _ => none }
def CidrParseWrongFalsely : Prop := cidrParseRow.holds Tryd.pinned (OpenSpec.ofChange cidrParseWrong)

/-- 'virgatelaw02.CidrHas': WHATEVER THE INPUT: true; the input reads as it did. -/
def cidrHasSpec : ChangeSpec := { name := "cidrHas", fn := fun _ => fun
  | [d1, d2, d3] => { results := [.lit (.bool true)], args := [d1, d2, d3] }
  | _ => none }
def cidrHasRow : OpenClaim := { program := "ytdhkacejefkejaadoor", sum := "9175da3f0b6030f8e6325ccfbca81f9887162c4c40b1bf1e74e7a7ffbf28bdeb", func := "virgate/virgatelaw02.CidrHas", spec := "cidrHas", inPlace := ["internal/bytealg.IndexByteString", "internal/bytealg.IndexString"], named := ["internal/bytealg.MaxLen", "internal/strconv.uint64pow10", "math/bits.deBruijn32tab", "math/bits.deBruijn64tab"], apart := false, laid := [("math/bits.deBruijn32tab", laid_math_bits_deBruijn32tab), ("math/bits.deBruijn64tab", laid_math_bits_deBruijn64tab), ("internal/strconv.uint64pow10", laid_internal_strconv_uint64pow10)] }
def CidrHasSaid : Prop := cidrHasRow.holds Tryd.pinned (OpenSpec.ofChange cidrHasSpec)

/-- ITS FALSE NEIGHBOUR: 'it returns false'. Refute it at one input. -/
def cidrHasWrong : ChangeSpec := { name := "cidrHas", fn := fun _ => fun
  | [d1, d2, d3] => { results := [.lit (.bool false)], args := [d1, d2, d3] }
  | _ => none }
def CidrHasWrongFalsely : Prop := cidrHasRow.holds Tryd.pinned (OpenSpec.ofChange cidrHasWrong)

/-- 'virgatelaw02.CidrCovers': WHATEVER THE INPUT: true; the input reads as it did. -/
def cidrCoversSpec : ChangeSpec := { name := "cidrCovers", fn := fun _ => fun
  | [d1, d2] => { results := [.lit (.bool true)], args := [d1, d2] }
  | _ => none }
def cidrCoversRow : OpenClaim := { program := "ytdhkacejefkejaadoor", sum := "9175da3f0b6030f8e6325ccfbca81f9887162c4c40b1bf1e74e7a7ffbf28bdeb", func := "virgate/virgatelaw02.CidrCovers", spec := "cidrCovers", inPlace := ["internal/bytealg.IndexByteString", "internal/bytealg.IndexString"], named := ["internal/bytealg.MaxLen", "internal/strconv.uint64pow10", "math/bits.deBruijn32tab", "math/bits.deBruijn64tab"], apart := false, laid := [("math/bits.deBruijn32tab", laid_math_bits_deBruijn32tab), ("math/bits.deBruijn64tab", laid_math_bits_deBruijn64tab), ("internal/strconv.uint64pow10", laid_internal_strconv_uint64pow10)] }
def CidrCoversSaid : Prop := cidrCoversRow.holds Tryd.pinned (OpenSpec.ofChange cidrCoversSpec)

/-- ITS FALSE NEIGHBOUR: 'it returns false'. Refute it at one input. -/
def cidrCoversWrong : ChangeSpec := { name := "cidrCovers", fn := fun _ => fun
  | [d1, d2] => { results := [.lit (.bool false)], args := [d1, d2] }
  | _ => none }
def CidrCoversWrongFalsely : Prop := cidrCoversRow.holds Tryd.pinned (OpenSpec.ofChange cidrCoversWrong)

/-- 'virgatelaw02.CidrSplit': WHATEVER THE INPUT: true; the input reads as it did. -/
def cidrSplitSpec : ChangeSpec := { name := "cidrSplit", fn := fun _ => fun
  | [d1, d2, d3] => { results := [.lit (.bool true)], args := [d1, d2, d3] }
  | _ => none }
def cidrSplitRow : OpenClaim := { program := "ytdhkacejefkejaadoor", sum := "9175da3f0b6030f8e6325ccfbca81f9887162c4c40b1bf1e74e7a7ffbf28bdeb", func := "virgate/virgatelaw02.CidrSplit", spec := "cidrSplit", inPlace := ["internal/bytealg.IndexByteString", "internal/bytealg.IndexString"], named := ["internal/bytealg.MaxLen", "internal/strconv.uint64pow10", "math/bits.deBruijn32tab", "math/bits.deBruijn64tab"], apart := false, laid := [("math/bits.deBruijn32tab", laid_math_bits_deBruijn32tab), ("math/bits.deBruijn64tab", laid_math_bits_deBruijn64tab), ("internal/strconv.uint64pow10", laid_internal_strconv_uint64pow10)] }
def CidrSplitSaid : Prop := cidrSplitRow.holds Tryd.pinned (OpenSpec.ofChange cidrSplitSpec)

/-- ITS FALSE NEIGHBOUR: 'it returns false'. Refute it at one input. -/
def cidrSplitWrong : ChangeSpec := { name := "cidrSplit", fn := fun _ => fun
  | [d1, d2, d3] => { results := [.lit (.bool false)], args := [d1, d2, d3] }
  | _ => none }
def CidrSplitWrongFalsely : Prop := cidrSplitRow.holds Tryd.pinned (OpenSpec.ofChange cidrSplitWrong)

/-- 'virgatelaw02.CidrBlock': WHATEVER THE INPUT: true; the input reads as it did. -/
def cidrBlockSpec : ChangeSpec := { name := "cidrBlock", fn := fun _ => fun
  | [d1, d2] => { results := [.lit (.bool true)], args := [d1, d2] }
  | _ => none }
def cidrBlockRow : OpenClaim := { program := "ytdhkacejefkejaadoor", sum := "9175da3f0b6030f8e6325ccfbca81f9887162c4c40b1bf1e74e7a7ffbf28bdeb", func := "virgate/virgatelaw02.CidrBlock", spec := "cidrBlock", inPlace := ["internal/bytealg.IndexByteString", "internal/bytealg.IndexString"], named := ["internal/bytealg.MaxLen", "internal/strconv.uint64pow10", "math/bits.deBruijn32tab", "math/bits.deBruijn64tab"], apart := false, laid := [("math/bits.deBruijn32tab", laid_math_bits_deBruijn32tab), ("math/bits.deBruijn64tab", laid_math_bits_deBruijn64tab), ("internal/strconv.uint64pow10", laid_internal_strconv_uint64pow10)] }
def CidrBlockSaid : Prop := cidrBlockRow.holds Tryd.pinned (OpenSpec.ofChange cidrBlockSpec)

/-- ITS FALSE NEIGHBOUR: 'it returns false'. Refute it at one input. -/
def cidrBlockWrong : ChangeSpec := { name := "cidrBlock", fn := fun _ => fun
  | [d1, d2] => { results := [.lit (.bool false)], args := [d1, d2] }
  | _ => none }
def CidrBlockWrongFalsely : Prop := cidrBlockRow.holds Tryd.pinned (OpenSpec.ofChange cidrBlockWrong)

/- THE SECOND FORM. 'bulk': how many values and letters a reading holds, each counted each time it is reached (what is shared counts as often as it is met; a slice's spare places count too). A statement '..UptoSaid' is the law's where the arguments, and the package variables that the reading takes, are together of bulk at most 1048576: NARROWER than '..Said'. Prove '..Said' where nothing that the law and all that it calls make is longer than what came in: it says more and counts as full. Else prove '..UptoSaid'. A law counts once. -/
mutual
def uptoBulk {H : Type} : DataW H → Nat
  | .lit (.string bytes) => bytes.length + 1
  | .lit _ => 1
  | .nil => 1
  | .ptr d => uptoBulk d + 1
  | .slice elems spare => uptoBulkAll elems + uptoBulkAll spare + 1
  | .agg parts => uptoBulkAll parts + 1
  | .iface _ d => uptoBulk d + 1
  | .map entries => uptoBulkEntries entries + 1
  | .held _ => 1
def uptoBulkAll {H : Type} : List (DataW H) → Nat
  | [] => 0
  | d :: r => uptoBulk d + uptoBulkAll r
def uptoBulkEntries {H : Type} : List (Lit × DataW H) → Nat
  | [] => 0
  | x :: r => uptoBulkEntry x + uptoBulkEntries r
def uptoBulkEntry {H : Type} : Lit × DataW H → Nat
  | (.string bytes, d) => bytes.length + uptoBulk d + 1
  | (_, d) => uptoBulk d + 1
 end
def uptoSmall : (H : Type) → List (DataW H) → Bool := fun _ ds => decide (uptoBulkAll ds ≤ 1048576)
def OpenSpec.upto (s : _root_.Go.ChangeSpec) : _root_.Go.OpenSpec := { _root_.Go.OpenSpec.ofChange s with cond := some uptoSmall }

/-- 'virgatelaw01.IpPrint', WHERE WHAT IT READS IS OF BULK AT MOST 1048576: true; the input reads as it did. -/
def ipPrintUptoRow : OpenClaim := { program := "ytdhkacejefkejaadoor", sum := "9175da3f0b6030f8e6325ccfbca81f9887162c4c40b1bf1e74e7a7ffbf28bdeb", func := "virgate/virgatelaw01.IpPrint", spec := "ipPrint", inPlace := ["internal/bytealg.IndexByteString", "internal/bytealg.IndexString"], recurses := true, named := ["internal/strconv.uint64pow10", "math/bits.deBruijn32tab", "math/bits.deBruijn64tab", "internal/bytealg.MaxLen"], apart := false, laid := [("math/bits.deBruijn32tab", laid_math_bits_deBruijn32tab), ("math/bits.deBruijn64tab", laid_math_bits_deBruijn64tab), ("internal/strconv.uint64pow10", laid_internal_strconv_uint64pow10)], narrowed := true }
def IpPrintUptoSaid : Prop := ipPrintUptoRow.holds Tryd.pinned (OpenSpec.upto ipPrintSpec)

/-- 'virgatelaw01.IpParse', WHERE WHAT IT READS IS OF BULK AT MOST 1048576: true; the input reads as it did. -/
def ipParseUptoRow : OpenClaim := { program := "ytdhkacejefkejaadoor", sum := "9175da3f0b6030f8e6325ccfbca81f9887162c4c40b1bf1e74e7a7ffbf28bdeb", func := "virgate/virgatelaw01.IpParse", spec := "ipParse", inPlace := ["internal/bytealg.IndexByteString", "internal/bytealg.IndexString"], recurses := true, named := ["internal/bytealg.MaxLen", "internal/strconv.uint64pow10", "math/bits.deBruijn32tab", "math/bits.deBruijn64tab"], apart := false, laid := [("math/bits.deBruijn32tab", laid_math_bits_deBruijn32tab), ("math/bits.deBruijn64tab", laid_math_bits_deBruijn64tab), ("internal/strconv.uint64pow10", laid_internal_strconv_uint64pow10)], narrowed := true }
def IpParseUptoSaid : Prop := ipParseUptoRow.holds Tryd.pinned (OpenSpec.upto ipParseSpec)

/-- 'virgatelaw01.IpBytes', WHERE WHAT IT READS IS OF BULK AT MOST 1048576: true; the input reads as it did. -/
def ipBytesUptoRow : OpenClaim := { program := "ytdhkacejefkejaadoor", sum := "9175da3f0b6030f8e6325ccfbca81f9887162c4c40b1bf1e74e7a7ffbf28bdeb", func := "virgate/virgatelaw01.IpBytes", spec := "ipBytes", inPlace := ["internal/bytealg.IndexByteString", "internal/bytealg.IndexString"], named := ["internal/bytealg.MaxLen", "internal/strconv.uint64pow10", "math/bits.deBruijn32tab", "math/bits.deBruijn64tab"], apart := false, laid := [("math/bits.deBruijn32tab", laid_math_bits_deBruijn32tab), ("math/bits.deBruijn64tab", laid_math_bits_deBruijn64tab), ("internal/strconv.uint64pow10", laid_internal_strconv_uint64pow10)], narrowed := true }
def IpBytesUptoSaid : Prop := ipBytesUptoRow.holds Tryd.pinned (OpenSpec.upto ipBytesSpec)

/-- 'virgatelaw01.IpAdd', WHERE WHAT IT READS IS OF BULK AT MOST 1048576: true; the input reads as it did. -/
def ipAddUptoRow : OpenClaim := { program := "ytdhkacejefkejaadoor", sum := "9175da3f0b6030f8e6325ccfbca81f9887162c4c40b1bf1e74e7a7ffbf28bdeb", func := "virgate/virgatelaw01.IpAdd", spec := "ipAdd", inPlace := ["internal/bytealg.IndexByteString", "internal/bytealg.IndexString"], named := ["internal/bytealg.MaxLen", "internal/strconv.uint64pow10", "math/bits.deBruijn32tab", "math/bits.deBruijn64tab"], apart := false, laid := [("math/bits.deBruijn32tab", laid_math_bits_deBruijn32tab), ("math/bits.deBruijn64tab", laid_math_bits_deBruijn64tab), ("internal/strconv.uint64pow10", laid_internal_strconv_uint64pow10)], narrowed := true }
def IpAddUptoSaid : Prop := ipAddUptoRow.holds Tryd.pinned (OpenSpec.upto ipAddSpec)

/-- 'virgatelaw01.IpBits', WHERE WHAT IT READS IS OF BULK AT MOST 1048576: true; the input reads as it did. -/
def ipBitsUptoRow : OpenClaim := { program := "ytdhkacejefkejaadoor", sum := "9175da3f0b6030f8e6325ccfbca81f9887162c4c40b1bf1e74e7a7ffbf28bdeb", func := "virgate/virgatelaw01.IpBits", spec := "ipBits", inPlace := ["internal/bytealg.IndexByteString", "internal/bytealg.IndexString"], named := ["internal/bytealg.MaxLen", "internal/strconv.uint64pow10", "math/bits.deBruijn32tab", "math/bits.deBruijn64tab"], apart := false, laid := [("math/bits.deBruijn32tab", laid_math_bits_deBruijn32tab), ("math/bits.deBruijn64tab", laid_math_bits_deBruijn64tab), ("internal/strconv.uint64pow10", laid_internal_strconv_uint64pow10)], narrowed := true }
def IpBitsUptoSaid : Prop := ipBitsUptoRow.holds Tryd.pinned (OpenSpec.upto ipBitsSpec)

/-- 'virgatelaw02.CidrPrint', WHERE WHAT IT READS IS OF BULK AT MOST 1048576: true; the input reads as it did. -/
def cidrPrintUptoRow : OpenClaim := { program := "ytdhkacejefkejaadoor", sum := "9175da3f0b6030f8e6325ccfbca81f9887162c4c40b1bf1e74e7a7ffbf28bdeb", func := "virgate/virgatelaw02.CidrPrint", spec := "cidrPrint", inPlace := ["internal/bytealg.IndexByteString", "internal/bytealg.IndexString"], recurses := true, named := ["internal/strconv.uint64pow10", "math/bits.deBruijn32tab", "math/bits.deBruijn64tab", "internal/bytealg.MaxLen"], apart := false, laid := [("math/bits.deBruijn32tab", laid_math_bits_deBruijn32tab), ("math/bits.deBruijn64tab", laid_math_bits_deBruijn64tab), ("internal/strconv.uint64pow10", laid_internal_strconv_uint64pow10)], narrowed := true }
def CidrPrintUptoSaid : Prop := cidrPrintUptoRow.holds Tryd.pinned (OpenSpec.upto cidrPrintSpec)

/-- 'virgatelaw02.CidrParse', WHERE WHAT IT READS IS OF BULK AT MOST 1048576: true; the input reads as it did. -/
def cidrParseUptoRow : OpenClaim := { program := "ytdhkacejefkejaadoor", sum := "9175da3f0b6030f8e6325ccfbca81f9887162c4c40b1bf1e74e7a7ffbf28bdeb", func := "virgate/virgatelaw02.CidrParse", spec := "cidrParse", inPlace := ["internal/bytealg.IndexByteString", "internal/bytealg.IndexString"], recurses := true, named := ["internal/bytealg.MaxLen", "internal/strconv.uint64pow10", "math/bits.deBruijn32tab", "math/bits.deBruijn64tab"], apart := false, laid := [("math/bits.deBruijn32tab", laid_math_bits_deBruijn32tab), ("math/bits.deBruijn64tab", laid_math_bits_deBruijn64tab), ("internal/strconv.uint64pow10", laid_internal_strconv_uint64pow10)], narrowed := true }
def CidrParseUptoSaid : Prop := cidrParseUptoRow.holds Tryd.pinned (OpenSpec.upto cidrParseSpec)

/-- 'virgatelaw02.CidrHas', WHERE WHAT IT READS IS OF BULK AT MOST 1048576: true; the input reads as it did. -/
def cidrHasUptoRow : OpenClaim := { program := "ytdhkacejefkejaadoor", sum := "9175da3f0b6030f8e6325ccfbca81f9887162c4c40b1bf1e74e7a7ffbf28bdeb", func := "virgate/virgatelaw02.CidrHas", spec := "cidrHas", inPlace := ["internal/bytealg.IndexByteString", "internal/bytealg.IndexString"], named := ["internal/bytealg.MaxLen", "internal/strconv.uint64pow10", "math/bits.deBruijn32tab", "math/bits.deBruijn64tab"], apart := false, laid := [("math/bits.deBruijn32tab", laid_math_bits_deBruijn32tab), ("math/bits.deBruijn64tab", laid_math_bits_deBruijn64tab), ("internal/strconv.uint64pow10", laid_internal_strconv_uint64pow10)], narrowed := true }
def CidrHasUptoSaid : Prop := cidrHasUptoRow.holds Tryd.pinned (OpenSpec.upto cidrHasSpec)

/-- 'virgatelaw02.CidrCovers', WHERE WHAT IT READS IS OF BULK AT MOST 1048576: true; the input reads as it did. -/
def cidrCoversUptoRow : OpenClaim := { program := "ytdhkacejefkejaadoor", sum := "9175da3f0b6030f8e6325ccfbca81f9887162c4c40b1bf1e74e7a7ffbf28bdeb", func := "virgate/virgatelaw02.CidrCovers", spec := "cidrCovers", inPlace := ["internal/bytealg.IndexByteString", "internal/bytealg.IndexString"], named := ["internal/bytealg.MaxLen", "internal/strconv.uint64pow10", "math/bits.deBruijn32tab", "math/bits.deBruijn64tab"], apart := false, laid := [("math/bits.deBruijn32tab", laid_math_bits_deBruijn32tab), ("math/bits.deBruijn64tab", laid_math_bits_deBruijn64tab), ("internal/strconv.uint64pow10", laid_internal_strconv_uint64pow10)], narrowed := true }
def CidrCoversUptoSaid : Prop := cidrCoversUptoRow.holds Tryd.pinned (OpenSpec.upto cidrCoversSpec)

/-- 'virgatelaw02.CidrSplit', WHERE WHAT IT READS IS OF BULK AT MOST 1048576: true; the input reads as it did. -/
def cidrSplitUptoRow : OpenClaim := { program := "ytdhkacejefkejaadoor", sum := "9175da3f0b6030f8e6325ccfbca81f9887162c4c40b1bf1e74e7a7ffbf28bdeb", func := "virgate/virgatelaw02.CidrSplit", spec := "cidrSplit", inPlace := ["internal/bytealg.IndexByteString", "internal/bytealg.IndexString"], named := ["internal/bytealg.MaxLen", "internal/strconv.uint64pow10", "math/bits.deBruijn32tab", "math/bits.deBruijn64tab"], apart := false, laid := [("math/bits.deBruijn32tab", laid_math_bits_deBruijn32tab), ("math/bits.deBruijn64tab", laid_math_bits_deBruijn64tab), ("internal/strconv.uint64pow10", laid_internal_strconv_uint64pow10)], narrowed := true }
def CidrSplitUptoSaid : Prop := cidrSplitUptoRow.holds Tryd.pinned (OpenSpec.upto cidrSplitSpec)

/-- 'virgatelaw02.CidrBlock', WHERE WHAT IT READS IS OF BULK AT MOST 1048576: true; the input reads as it did. -/
def cidrBlockUptoRow : OpenClaim := { program := "ytdhkacejefkejaadoor", sum := "9175da3f0b6030f8e6325ccfbca81f9887162c4c40b1bf1e74e7a7ffbf28bdeb", func := "virgate/virgatelaw02.CidrBlock", spec := "cidrBlock", inPlace := ["internal/bytealg.IndexByteString", "internal/bytealg.IndexString"], named := ["internal/bytealg.MaxLen", "internal/strconv.uint64pow10", "math/bits.deBruijn32tab", "math/bits.deBruijn64tab"], apart := false, laid := [("math/bits.deBruijn32tab", laid_math_bits_deBruijn32tab), ("math/bits.deBruijn64tab", laid_math_bits_deBruijn64tab), ("internal/strconv.uint64pow10", laid_internal_strconv_uint64pow10)], narrowed := true }
def CidrBlockUptoSaid : Prop := cidrBlockUptoRow.holds Tryd.pinned (OpenSpec.upto cidrBlockSpec)

end Rows
end Go.Proofs.YtdhkacejefkejaaDoor
