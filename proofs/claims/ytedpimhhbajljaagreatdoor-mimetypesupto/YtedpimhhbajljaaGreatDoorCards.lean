/-
  DERIVED. GIVEN WITH THE SEED: THE CARDS: each row of YtedpimhhbajljaaGreatDoorRows.lean that lists a variable, with what it lists TIED to the program's text (the seventh form; the later family's looks); each row that meets fmt, with fmt's text TOLD by the authors' own Lean function (tested against real Go, not proved from fmt's source: count such statements apart). THE CARD IS WHAT COUNTS. Prove the row's statement (the work); the ties are given (YtedpimhhbajljaaGreatDoorTie.lean); close each card by the builder's one call (the guide's Derived/Test/ToyasCard.lean, 'card_holds'). Laid BY PROGRAM, IN A SANDBOX (cutbox-door.mjs). By AI agents, Wed Nov 11 2026. No macro, syntax, notation, axiom, sorry.
-/
import Derived.Test.YtedpimhhbajljaaGreatDoorRows
import GoSem.ClaimSeven
namespace Go.Proofs.YtedpimhhbajljaaGreatDoor
namespace Rows

/-- THE TIED CARD OF 'missivelaw11.MimeTypes'. -/
def mimeTypesCard : Claim7 := { stood := { row := mimeTypesRow, standIns := [], harness := (true, "0c5ba2a1f045636e66a75b3ee3b4338ed88547f4fe5333e5abdf770150c44b44"), looks := false }, kinds := [], alts := [], laidByText := true, laidKinds := [.data, .data, .data, .data, .pinned], laidTests := true, laidLooks := .later }
def MimeTypesCardSaid : Prop := Claim7.holds Tryz.pinned (.plain (OpenSpec.ofChange mimeTypesSpec)) mimeTypesCard

/-- THE SECOND FORM's CARD OF 'missivelaw11.MimeTypes'. -/
def mimeTypesUptoCard : Claim7 := { stood := { row := mimeTypesUptoRow, standIns := [], harness := (true, "0c5ba2a1f045636e66a75b3ee3b4338ed88547f4fe5333e5abdf770150c44b44"), looks := false }, kinds := [], alts := [], laidByText := true, laidKinds := [.data, .data, .data, .data, .pinned], laidTests := true, laidLooks := .later }
def MimeTypesUptoCardSaid : Prop := Claim7.holds Tryz.pinned (.plain (OpenSpec.upto mimeTypesSpec)) mimeTypesUptoCard
end Rows
end Go.Proofs.YtedpimhhbajljaaGreatDoor
