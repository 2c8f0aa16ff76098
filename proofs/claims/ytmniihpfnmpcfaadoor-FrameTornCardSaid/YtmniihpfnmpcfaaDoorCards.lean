/-
  DERIVED. GIVEN WITH THE SEED: THE CARDS: each row of YtmniihpfnmpcfaaDoorRows.lean that lists a variable, with what it lists TIED to the program's text (the seventh form; the later family's looks); each row that meets fmt, with fmt's text TOLD by the authors' own Lean function (tested against real Go, not proved from fmt's source: count such statements apart). THE CARD IS WHAT COUNTS. Prove the row's statement (the work); the ties are given (YtmniihpfnmpcfaaDoorTie.lean); close each card by the builder's one call (the guide's Derived/Test/ToyasCard.lean, 'card_holds'). Laid BY PROGRAM, IN A SANDBOX (cutbox-door.mjs). By AI agents, Wed Nov 11 2026. No macro, syntax, notation, axiom, sorry.
-/
import Derived.Test.YtmniihpfnmpcfaaDoorRows
import GoSem.ClaimSeven
namespace Go.Proofs.YtmniihpfnmpcfaaDoor
namespace Rows

/-- THE TIED CARD OF 'virgatelaw05.FramePut'. -/
def framePutCard : Claim7 := { stood := { row := framePutRow, standIns := [], harness := (true, "015e528f21f0a68d3239830d151ebff5ed522443eb1702e4471082f5e3c8bbc9"), looks := false }, kinds := [], alts := [], laidByText := true, laidKinds := [.data], laidTests := true, laidLooks := .later }
def FramePutCardSaid : Prop := Claim7.holds Tryd.pinned (.plain (OpenSpec.ofChange framePutSpec)) framePutCard

/-- THE TIED CARD OF 'virgatelaw05.FrameAll'. -/
def frameAllCard : Claim7 := { stood := { row := frameAllRow, standIns := [], harness := (true, "015e528f21f0a68d3239830d151ebff5ed522443eb1702e4471082f5e3c8bbc9"), looks := false }, kinds := [], alts := [], laidByText := true, laidKinds := [.data], laidTests := true, laidLooks := .later }
def FrameAllCardSaid : Prop := Claim7.holds Tryd.pinned (.plain (OpenSpec.ofChange frameAllSpec)) frameAllCard

/-- THE TIED CARD OF 'virgatelaw05.FrameTorn'. -/
def frameTornCard : Claim7 := { stood := { row := frameTornRow, standIns := [], harness := (true, "015e528f21f0a68d3239830d151ebff5ed522443eb1702e4471082f5e3c8bbc9"), looks := false }, kinds := [], alts := [], laidByText := true, laidKinds := [.data], laidTests := true, laidLooks := .later }
def FrameTornCardSaid : Prop := Claim7.holds Tryd.pinned (.plain (OpenSpec.ofChange frameTornSpec)) frameTornCard

/-- THE TIED CARD OF 'virgatelaw05.FrameSize'. -/
def frameSizeCard : Claim7 := { stood := { row := frameSizeRow, standIns := [], harness := (true, "015e528f21f0a68d3239830d151ebff5ed522443eb1702e4471082f5e3c8bbc9"), looks := false }, kinds := [], alts := [], laidByText := true, laidKinds := [.data], laidTests := true, laidLooks := .later }
def FrameSizeCardSaid : Prop := Claim7.holds Tryd.pinned (.plain (OpenSpec.ofChange frameSizeSpec)) frameSizeCard

/-- THE TIED CARD OF 'virgatelaw05.FrameMany'. -/
def frameManyCard : Claim7 := { stood := { row := frameManyRow, standIns := [], harness := (true, "015e528f21f0a68d3239830d151ebff5ed522443eb1702e4471082f5e3c8bbc9"), looks := false }, kinds := [], alts := [], laidByText := true, laidKinds := [.data], laidTests := true, laidLooks := .later }
def FrameManyCardSaid : Prop := Claim7.holds Tryd.pinned (.plain (OpenSpec.ofChange frameManySpec)) frameManyCard

/-- THE SECOND FORM's CARD OF 'virgatelaw05.FramePut'. -/
def framePutUptoCard : Claim7 := { stood := { row := framePutUptoRow, standIns := [], harness := (true, "015e528f21f0a68d3239830d151ebff5ed522443eb1702e4471082f5e3c8bbc9"), looks := false }, kinds := [], alts := [], laidByText := true, laidKinds := [.data], laidTests := true, laidLooks := .later }
def FramePutUptoCardSaid : Prop := Claim7.holds Tryd.pinned (.plain (OpenSpec.upto framePutSpec)) framePutUptoCard

/-- THE SECOND FORM's CARD OF 'virgatelaw05.FrameAll'. -/
def frameAllUptoCard : Claim7 := { stood := { row := frameAllUptoRow, standIns := [], harness := (true, "015e528f21f0a68d3239830d151ebff5ed522443eb1702e4471082f5e3c8bbc9"), looks := false }, kinds := [], alts := [], laidByText := true, laidKinds := [.data], laidTests := true, laidLooks := .later }
def FrameAllUptoCardSaid : Prop := Claim7.holds Tryd.pinned (.plain (OpenSpec.upto frameAllSpec)) frameAllUptoCard

/-- THE SECOND FORM's CARD OF 'virgatelaw05.FrameTorn'. -/
def frameTornUptoCard : Claim7 := { stood := { row := frameTornUptoRow, standIns := [], harness := (true, "015e528f21f0a68d3239830d151ebff5ed522443eb1702e4471082f5e3c8bbc9"), looks := false }, kinds := [], alts := [], laidByText := true, laidKinds := [.data], laidTests := true, laidLooks := .later }
def FrameTornUptoCardSaid : Prop := Claim7.holds Tryd.pinned (.plain (OpenSpec.upto frameTornSpec)) frameTornUptoCard

/-- THE SECOND FORM's CARD OF 'virgatelaw05.FrameSize'. -/
def frameSizeUptoCard : Claim7 := { stood := { row := frameSizeUptoRow, standIns := [], harness := (true, "015e528f21f0a68d3239830d151ebff5ed522443eb1702e4471082f5e3c8bbc9"), looks := false }, kinds := [], alts := [], laidByText := true, laidKinds := [.data], laidTests := true, laidLooks := .later }
def FrameSizeUptoCardSaid : Prop := Claim7.holds Tryd.pinned (.plain (OpenSpec.upto frameSizeSpec)) frameSizeUptoCard

/-- THE SECOND FORM's CARD OF 'virgatelaw05.FrameMany'. -/
def frameManyUptoCard : Claim7 := { stood := { row := frameManyUptoRow, standIns := [], harness := (true, "015e528f21f0a68d3239830d151ebff5ed522443eb1702e4471082f5e3c8bbc9"), looks := false }, kinds := [], alts := [], laidByText := true, laidKinds := [.data], laidTests := true, laidLooks := .later }
def FrameManyUptoCardSaid : Prop := Claim7.holds Tryd.pinned (.plain (OpenSpec.upto frameManySpec)) frameManyUptoCard
end Rows
end Go.Proofs.YtmniihpfnmpcfaaDoor
