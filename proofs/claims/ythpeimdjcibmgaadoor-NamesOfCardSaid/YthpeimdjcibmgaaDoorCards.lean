/-
  DERIVED. GIVEN WITH THE SEED: THE CARDS: each row of YthpeimdjcibmgaaDoorRows.lean that lists a variable, with what it lists TIED to the program's text (the seventh form; the later family's looks); each row that meets fmt, with fmt's text TOLD by the authors' own Lean function (tested against real Go, not proved from fmt's source: count such statements apart). THE CARD IS WHAT COUNTS. Prove the row's statement (the work); the ties are given (YthpeimdjcibmgaaDoorTie.lean); close each card by the builder's one call (the guide's Derived/Test/ToyasCard.lean, 'card_holds'). Laid BY PROGRAM, IN A SANDBOX (cutbox-door.mjs). By AI agents, Wed Nov 11 2026. No macro, syntax, notation, axiom, sorry.
-/
import Derived.Test.YthpeimdjcibmgaaDoorRows
import GoSem.ClaimSeven
namespace Go.Proofs.YthpeimdjcibmgaaDoor
namespace Rows

/-- THE TIED CARD OF 'virgatelaw12.NamesNets'. -/
def namesNetsCard : Claim7 := { stood := { row := namesNetsRow, standIns := [], harness := (true, "f8eb8ca3e4db89d41ab182139d15ba89f3dbc3b3653f129fe9f17bf0ff1bca26"), looks := false }, kinds := [], alts := [], laidByText := true, laidKinds := [.data, .data, .data, .data, .pinned], laidTests := true, laidLooks := .later }
def NamesNetsCardSaid : Prop := Claim7.holds Tryd.pinned (.plain (OpenSpec.ofChange namesNetsSpec)) namesNetsCard

/-- THE TIED CARD OF 'virgatelaw12.NamesNamed'. -/
def namesNamedCard : Claim7 := { stood := { row := namesNamedRow, standIns := [], harness := (true, "f8eb8ca3e4db89d41ab182139d15ba89f3dbc3b3653f129fe9f17bf0ff1bca26"), looks := false }, kinds := [], alts := [], laidByText := true, laidKinds := [.data, .data, .data, .data, .pinned], laidTests := true, laidLooks := .later }
def NamesNamedCardSaid : Prop := Claim7.holds Tryd.pinned (.plain (OpenSpec.ofChange namesNamedSpec)) namesNamedCard

/-- THE TIED CARD OF 'virgatelaw12.NamesOf'. -/
def namesOfCard : Claim7 := { stood := { row := namesOfRow, standIns := [], harness := (true, "f8eb8ca3e4db89d41ab182139d15ba89f3dbc3b3653f129fe9f17bf0ff1bca26"), looks := false }, kinds := [], alts := [], laidByText := true, laidKinds := [.data, .data, .data, .data, .pinned], laidTests := true, laidLooks := .later }
def NamesOfCardSaid : Prop := Claim7.holds Tryd.pinned (.plain (OpenSpec.ofChange namesOfSpec)) namesOfCard

/-- THE TIED CARD OF 'virgatelaw12.NamesFit'. -/
def namesFitCard : Claim7 := { stood := { row := namesFitRow, standIns := [], harness := (true, "f8eb8ca3e4db89d41ab182139d15ba89f3dbc3b3653f129fe9f17bf0ff1bca26"), looks := false }, kinds := [], alts := [], laidByText := true, laidKinds := [.data, .data, .data, .data, .pinned], laidTests := true, laidLooks := .later }
def NamesFitCardSaid : Prop := Claim7.holds Tryd.pinned (.plain (OpenSpec.ofChange namesFitSpec)) namesFitCard

/-- THE SECOND FORM's CARD OF 'virgatelaw12.NamesNets'. -/
def namesNetsUptoCard : Claim7 := { stood := { row := namesNetsUptoRow, standIns := [], harness := (true, "f8eb8ca3e4db89d41ab182139d15ba89f3dbc3b3653f129fe9f17bf0ff1bca26"), looks := false }, kinds := [], alts := [], laidByText := true, laidKinds := [.data, .data, .data, .data, .pinned], laidTests := true, laidLooks := .later }
def NamesNetsUptoCardSaid : Prop := Claim7.holds Tryd.pinned (.plain (OpenSpec.upto namesNetsSpec)) namesNetsUptoCard

/-- THE SECOND FORM's CARD OF 'virgatelaw12.NamesNamed'. -/
def namesNamedUptoCard : Claim7 := { stood := { row := namesNamedUptoRow, standIns := [], harness := (true, "f8eb8ca3e4db89d41ab182139d15ba89f3dbc3b3653f129fe9f17bf0ff1bca26"), looks := false }, kinds := [], alts := [], laidByText := true, laidKinds := [.data, .data, .data, .data, .pinned], laidTests := true, laidLooks := .later }
def NamesNamedUptoCardSaid : Prop := Claim7.holds Tryd.pinned (.plain (OpenSpec.upto namesNamedSpec)) namesNamedUptoCard

/-- THE SECOND FORM's CARD OF 'virgatelaw12.NamesOf'. -/
def namesOfUptoCard : Claim7 := { stood := { row := namesOfUptoRow, standIns := [], harness := (true, "f8eb8ca3e4db89d41ab182139d15ba89f3dbc3b3653f129fe9f17bf0ff1bca26"), looks := false }, kinds := [], alts := [], laidByText := true, laidKinds := [.data, .data, .data, .data, .pinned], laidTests := true, laidLooks := .later }
def NamesOfUptoCardSaid : Prop := Claim7.holds Tryd.pinned (.plain (OpenSpec.upto namesOfSpec)) namesOfUptoCard

/-- THE SECOND FORM's CARD OF 'virgatelaw12.NamesFit'. -/
def namesFitUptoCard : Claim7 := { stood := { row := namesFitUptoRow, standIns := [], harness := (true, "f8eb8ca3e4db89d41ab182139d15ba89f3dbc3b3653f129fe9f17bf0ff1bca26"), looks := false }, kinds := [], alts := [], laidByText := true, laidKinds := [.data, .data, .data, .data, .pinned], laidTests := true, laidLooks := .later }
def NamesFitUptoCardSaid : Prop := Claim7.holds Tryd.pinned (.plain (OpenSpec.upto namesFitSpec)) namesFitUptoCard
end Rows
end Go.Proofs.YthpeimdjcibmgaaDoor
