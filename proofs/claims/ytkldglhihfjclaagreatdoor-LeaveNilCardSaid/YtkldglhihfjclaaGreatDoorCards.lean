/-
  DERIVED. GIVEN WITH THE SEED: THE CARDS: each row of YtkldglhihfjclaaGreatDoorRows.lean that lists a variable, with what it lists TIED to the program's text (the seventh form; the later family's looks); each row that meets fmt, with fmt's text TOLD by the authors' own Lean function (tested against real Go, not proved from fmt's source: count such statements apart). THE CARD IS WHAT COUNTS. Prove the row's statement (the work); the ties are given (YtkldglhihfjclaaGreatDoorTie.lean); close each card by the builder's one call (the guide's Derived/Test/ToyasCard.lean, 'card_holds'). Laid BY PROGRAM, IN A SANDBOX (cutbox-door.mjs). By AI agents, Wed Nov 11 2026. No macro, syntax, notation, axiom, sorry.
-/
import Derived.Test.YtkldglhihfjclaaGreatDoorRows
import GoSem.ClaimSeven
namespace Go.Proofs.YtkldglhihfjclaaGreatDoor
namespace Rows

/-- THE TIED CARD OF 'virgatelaw20.LeaveAlone'. -/
def leaveAloneCard : Claim7 := { stood := { row := leaveAloneRow, standIns := [], harness := (true, "ffed8c94349743824e56b753097397bf1333f79e3af85b71ba87498353e5887d"), looks := false }, kinds := [], alts := [], laidByText := true, laidKinds := [.data, .data, .data, .data, .pinned], laidTests := true, laidLooks := .later }
def LeaveAloneCardSaid : Prop := Claim7.holds Tryz.pinned (.plain (OpenSpec.ofChange leaveAloneSpec)) leaveAloneCard

/-- THE TIED CARD OF 'virgatelaw20.LeaveAmong'. -/
def leaveAmongCard : Claim7 := { stood := { row := leaveAmongRow, standIns := [], harness := (true, "ffed8c94349743824e56b753097397bf1333f79e3af85b71ba87498353e5887d"), looks := false }, kinds := [], alts := [], laidByText := true, laidKinds := [.data, .data, .data, .data, .pinned], laidTests := true, laidLooks := .later }
def LeaveAmongCardSaid : Prop := Claim7.holds Tryz.pinned (.plain (OpenSpec.ofChange leaveAmongSpec)) leaveAmongCard

/-- THE TIED CARD OF 'virgatelaw20.LeaveEnds'. -/
def leaveEndsCard : Claim7 := { stood := { row := leaveEndsRow, standIns := [], harness := (true, "ffed8c94349743824e56b753097397bf1333f79e3af85b71ba87498353e5887d"), looks := false }, kinds := [], alts := [], laidByText := true, laidKinds := [.data, .data, .data, .data, .pinned], laidTests := true, laidLooks := .later }
def LeaveEndsCardSaid : Prop := Claim7.holds Tryz.pinned (.plain (OpenSpec.ofChange leaveEndsSpec)) leaveEndsCard

/-- THE TIED CARD OF 'virgatelaw20.LeaveNil'. -/
def leaveNilCard : Claim7 := { stood := { row := leaveNilRow, standIns := [], harness := (true, "ffed8c94349743824e56b753097397bf1333f79e3af85b71ba87498353e5887d"), looks := false }, kinds := [], alts := [], laidByText := true, laidKinds := [.data, .data, .data, .data, .pinned], laidTests := true, laidLooks := .later }
def LeaveNilCardSaid : Prop := Claim7.holds Tryz.pinned (.plain (OpenSpec.ofChange leaveNilSpec)) leaveNilCard

/-- THE SECOND FORM's CARD OF 'virgatelaw20.LeaveAlone'. -/
def leaveAloneUptoCard : Claim7 := { stood := { row := leaveAloneUptoRow, standIns := [], harness := (true, "ffed8c94349743824e56b753097397bf1333f79e3af85b71ba87498353e5887d"), looks := false }, kinds := [], alts := [], laidByText := true, laidKinds := [.data, .data, .data, .data, .pinned], laidTests := true, laidLooks := .later }
def LeaveAloneUptoCardSaid : Prop := Claim7.holds Tryz.pinned (.plain (OpenSpec.upto leaveAloneSpec)) leaveAloneUptoCard

/-- THE SECOND FORM's CARD OF 'virgatelaw20.LeaveAmong'. -/
def leaveAmongUptoCard : Claim7 := { stood := { row := leaveAmongUptoRow, standIns := [], harness := (true, "ffed8c94349743824e56b753097397bf1333f79e3af85b71ba87498353e5887d"), looks := false }, kinds := [], alts := [], laidByText := true, laidKinds := [.data, .data, .data, .data, .pinned], laidTests := true, laidLooks := .later }
def LeaveAmongUptoCardSaid : Prop := Claim7.holds Tryz.pinned (.plain (OpenSpec.upto leaveAmongSpec)) leaveAmongUptoCard

/-- THE SECOND FORM's CARD OF 'virgatelaw20.LeaveEnds'. -/
def leaveEndsUptoCard : Claim7 := { stood := { row := leaveEndsUptoRow, standIns := [], harness := (true, "ffed8c94349743824e56b753097397bf1333f79e3af85b71ba87498353e5887d"), looks := false }, kinds := [], alts := [], laidByText := true, laidKinds := [.data, .data, .data, .data, .pinned], laidTests := true, laidLooks := .later }
def LeaveEndsUptoCardSaid : Prop := Claim7.holds Tryz.pinned (.plain (OpenSpec.upto leaveEndsSpec)) leaveEndsUptoCard

/-- THE SECOND FORM's CARD OF 'virgatelaw20.LeaveNil'. -/
def leaveNilUptoCard : Claim7 := { stood := { row := leaveNilUptoRow, standIns := [], harness := (true, "ffed8c94349743824e56b753097397bf1333f79e3af85b71ba87498353e5887d"), looks := false }, kinds := [], alts := [], laidByText := true, laidKinds := [.data, .data, .data, .data, .pinned], laidTests := true, laidLooks := .later }
def LeaveNilUptoCardSaid : Prop := Claim7.holds Tryz.pinned (.plain (OpenSpec.upto leaveNilSpec)) leaveNilUptoCard
end Rows
end Go.Proofs.YtkldglhihfjclaaGreatDoor
