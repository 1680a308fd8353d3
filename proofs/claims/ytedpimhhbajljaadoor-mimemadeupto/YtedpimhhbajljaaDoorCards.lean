/-
  DERIVED. GIVEN WITH THE SEED: THE CARDS: each row of YtedpimhhbajljaaDoorRows.lean that lists a variable, with what it lists TIED to the program's text (the seventh form; the later family's looks); each row that meets fmt, with fmt's text TOLD by the authors' own Lean function (tested against real Go, not proved from fmt's source: count such statements apart). THE CARD IS WHAT COUNTS. Prove the row's statement (the work); the ties are given (YtedpimhhbajljaaDoorTie.lean); close each card by the builder's one call (the guide's Derived/Test/ToyasCard.lean, 'card_holds'). Laid BY PROGRAM, IN A SANDBOX (cutbox-door.mjs). By AI agents, Wed Nov 11 2026. No macro, syntax, notation, axiom, sorry.
-/
import Derived.Test.YtedpimhhbajljaaDoorRows
import GoSem.ClaimSeven
namespace Go.Proofs.YtedpimhhbajljaaDoor
namespace Rows

/-- THE TIED CARD OF 'missivelaw11.MimeLevels'. -/
def mimeLevelsCard : Claim7 := { stood := { row := mimeLevelsRow, standIns := [], harness := (true, "d487a7ed34fa5ce627933343ca3e479a841f4d43a59cd0d74dddd2012273d8c3"), looks := false }, kinds := [], alts := [], laidByText := true, laidKinds := [.data, .data, .data, .data, .pinned], laidTests := true, laidLooks := .later }
def MimeLevelsCardSaid : Prop := Claim7.holds Tryd.pinned (.plain (OpenSpec.ofChange mimeLevelsSpec)) mimeLevelsCard

/-- THE TIED CARD OF 'missivelaw11.MimeWithin'. -/
def mimeWithinCard : Claim7 := { stood := { row := mimeWithinRow, standIns := [], harness := (true, "d487a7ed34fa5ce627933343ca3e479a841f4d43a59cd0d74dddd2012273d8c3"), looks := false }, kinds := [], alts := [], laidByText := true, laidKinds := [.data, .data, .data, .data, .pinned], laidTests := true, laidLooks := .later }
def MimeWithinCardSaid : Prop := Claim7.holds Tryd.pinned (.plain (OpenSpec.ofChange mimeWithinSpec)) mimeWithinCard

/-- THE TIED CARD OF 'missivelaw11.MimeMade'. -/
def mimeMadeCard : Claim7 := { stood := { row := mimeMadeRow, standIns := [], harness := (true, "d487a7ed34fa5ce627933343ca3e479a841f4d43a59cd0d74dddd2012273d8c3"), looks := false }, kinds := [], alts := [], laidByText := true, laidKinds := [.data, .data, .data, .data, .pinned], laidTests := true, laidLooks := .later }
def MimeMadeCardSaid : Prop := Claim7.holds Tryd.pinned (.plain (OpenSpec.ofChange mimeMadeSpec)) mimeMadeCard

/-- THE TIED CARD OF 'missivelaw11.MimePlain'. -/
def mimePlainCard : Claim7 := { stood := { row := mimePlainRow, standIns := [], harness := (true, "d487a7ed34fa5ce627933343ca3e479a841f4d43a59cd0d74dddd2012273d8c3"), looks := false }, kinds := [], alts := [], laidByText := true, laidKinds := [.data, .data, .data, .data, .pinned], laidTests := true, laidLooks := .later }
def MimePlainCardSaid : Prop := Claim7.holds Tryd.pinned (.plain (OpenSpec.ofChange mimePlainSpec)) mimePlainCard

/-- THE SECOND FORM's CARD OF 'missivelaw11.MimeLevels'. -/
def mimeLevelsUptoCard : Claim7 := { stood := { row := mimeLevelsUptoRow, standIns := [], harness := (true, "d487a7ed34fa5ce627933343ca3e479a841f4d43a59cd0d74dddd2012273d8c3"), looks := false }, kinds := [], alts := [], laidByText := true, laidKinds := [.data, .data, .data, .data, .pinned], laidTests := true, laidLooks := .later }
def MimeLevelsUptoCardSaid : Prop := Claim7.holds Tryd.pinned (.plain (OpenSpec.upto mimeLevelsSpec)) mimeLevelsUptoCard

/-- THE SECOND FORM's CARD OF 'missivelaw11.MimeWithin'. -/
def mimeWithinUptoCard : Claim7 := { stood := { row := mimeWithinUptoRow, standIns := [], harness := (true, "d487a7ed34fa5ce627933343ca3e479a841f4d43a59cd0d74dddd2012273d8c3"), looks := false }, kinds := [], alts := [], laidByText := true, laidKinds := [.data, .data, .data, .data, .pinned], laidTests := true, laidLooks := .later }
def MimeWithinUptoCardSaid : Prop := Claim7.holds Tryd.pinned (.plain (OpenSpec.upto mimeWithinSpec)) mimeWithinUptoCard

/-- THE SECOND FORM's CARD OF 'missivelaw11.MimeMade'. -/
def mimeMadeUptoCard : Claim7 := { stood := { row := mimeMadeUptoRow, standIns := [], harness := (true, "d487a7ed34fa5ce627933343ca3e479a841f4d43a59cd0d74dddd2012273d8c3"), looks := false }, kinds := [], alts := [], laidByText := true, laidKinds := [.data, .data, .data, .data, .pinned], laidTests := true, laidLooks := .later }
def MimeMadeUptoCardSaid : Prop := Claim7.holds Tryd.pinned (.plain (OpenSpec.upto mimeMadeSpec)) mimeMadeUptoCard

/-- THE SECOND FORM's CARD OF 'missivelaw11.MimePlain'. -/
def mimePlainUptoCard : Claim7 := { stood := { row := mimePlainUptoRow, standIns := [], harness := (true, "d487a7ed34fa5ce627933343ca3e479a841f4d43a59cd0d74dddd2012273d8c3"), looks := false }, kinds := [], alts := [], laidByText := true, laidKinds := [.data, .data, .data, .data, .pinned], laidTests := true, laidLooks := .later }
def MimePlainUptoCardSaid : Prop := Claim7.holds Tryd.pinned (.plain (OpenSpec.upto mimePlainSpec)) mimePlainUptoCard
end Rows
end Go.Proofs.YtedpimhhbajljaaDoor
