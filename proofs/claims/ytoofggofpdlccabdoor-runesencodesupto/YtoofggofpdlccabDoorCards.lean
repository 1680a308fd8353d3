/-
  DERIVED. GIVEN WITH THE SEED: THE CARDS: each row of YtoofggofpdlccabDoorRows.lean that lists a variable, with what it lists TIED to the program's text (the seventh form; the later family's looks); each row that meets fmt, with fmt's text TOLD by the authors' own Lean function (tested against real Go, not proved from fmt's source: count such statements apart). THE CARD IS WHAT COUNTS. Prove the row's statement (the work); the ties are given (YtoofggofpdlccabDoorTie.lean); close each card by the builder's one call (the guide's Derived/Test/ToyasCard.lean, 'card_holds'). Laid BY PROGRAM, IN A SANDBOX (cutbox-door.mjs). By AI agents, Wed Nov 11 2026. No macro, syntax, notation, axiom, sorry.
-/
import Derived.Test.YtoofggofpdlccabDoorRows
import GoSem.ClaimSeven
namespace Go.Proofs.YtoofggofpdlccabDoor
namespace Rows

/-- THE TIED CARD OF 'missivelaw06.RunesDecodes'. -/
def runesDecodesCard : Claim7 := { stood := { row := runesDecodesRow, standIns := [], harness := (true, "4af2a1df007a235f410f736d6cedd033b03d6ededd31f1ca45961a09d5b5e33d"), looks := false }, kinds := [], alts := [], laidByText := true, laidKinds := [.data, .data, .data, .data, .pinned], laidTests := true, laidLooks := .later }
def RunesDecodesCardSaid : Prop := Claim7.holds Tryd.pinned (.plain (OpenSpec.ofChange runesDecodesSpec)) runesDecodesCard

/-- THE TIED CARD OF 'missivelaw06.RunesEncodes'. -/
def runesEncodesCard : Claim7 := { stood := { row := runesEncodesRow, standIns := [], harness := (true, "4af2a1df007a235f410f736d6cedd033b03d6ededd31f1ca45961a09d5b5e33d"), looks := false }, kinds := [], alts := [], laidByText := true, laidKinds := [.data, .data, .data, .data, .pinned], laidTests := true, laidLooks := .later }
def RunesEncodesCardSaid : Prop := Claim7.holds Tryd.pinned (.plain (OpenSpec.ofChange runesEncodesSpec)) runesEncodesCard

/-- THE TIED CARD OF 'missivelaw06.RunesBack'. -/
def runesBackCard : Claim7 := { stood := { row := runesBackRow, standIns := [], harness := (true, "4af2a1df007a235f410f736d6cedd033b03d6ededd31f1ca45961a09d5b5e33d"), looks := false }, kinds := [], alts := [], laidByText := true, laidKinds := [.data, .data, .data, .data, .pinned], laidTests := true, laidLooks := .later }
def RunesBackCardSaid : Prop := Claim7.holds Tryd.pinned (.plain (OpenSpec.ofChange runesBackSpec)) runesBackCard

/-- THE TIED CARD OF 'missivelaw06.RunesAlways'. -/
def runesAlwaysCard : Claim7 := { stood := { row := runesAlwaysRow, standIns := [], harness := (true, "4af2a1df007a235f410f736d6cedd033b03d6ededd31f1ca45961a09d5b5e33d"), looks := false }, kinds := [], alts := [], laidByText := true, laidKinds := [.data, .data, .data, .data, .pinned], laidTests := true, laidLooks := .later }
def RunesAlwaysCardSaid : Prop := Claim7.holds Tryd.pinned (.plain (OpenSpec.ofChange runesAlwaysSpec)) runesAlwaysCard

/-- THE TIED CARD OF 'missivelaw06.RunesParts'. -/
def runesPartsCard : Claim7 := { stood := { row := runesPartsRow, standIns := [], harness := (true, "4af2a1df007a235f410f736d6cedd033b03d6ededd31f1ca45961a09d5b5e33d"), looks := false }, kinds := [], alts := [], laidByText := true, laidKinds := [.data, .data, .data, .data, .pinned], laidTests := true, laidLooks := .later }
def RunesPartsCardSaid : Prop := Claim7.holds Tryd.pinned (.plain (OpenSpec.ofChange runesPartsSpec)) runesPartsCard

/-- THE TIED CARD OF 'missivetop.TopMailed'. -/
def topMailedCard : Claim7 := { stood := { row := topMailedRow, standIns := [], harness := (true, "4af2a1df007a235f410f736d6cedd033b03d6ededd31f1ca45961a09d5b5e33d"), looks := false }, kinds := [], alts := [], laidByText := true, laidKinds := [.data, .data, .data, .pinned], laidTests := true, laidLooks := .later }
def TopMailedCardSaid : Prop := Claim7.holds Tryd.pinned (.plain (OpenSpec.ofChange topMailedSpec)) topMailedCard

/-- THE SECOND FORM's CARD OF 'missivelaw06.RunesDecodes'. -/
def runesDecodesUptoCard : Claim7 := { stood := { row := runesDecodesUptoRow, standIns := [], harness := (true, "4af2a1df007a235f410f736d6cedd033b03d6ededd31f1ca45961a09d5b5e33d"), looks := false }, kinds := [], alts := [], laidByText := true, laidKinds := [.data, .data, .data, .data, .pinned], laidTests := true, laidLooks := .later }
def RunesDecodesUptoCardSaid : Prop := Claim7.holds Tryd.pinned (.plain (OpenSpec.upto runesDecodesSpec)) runesDecodesUptoCard

/-- THE SECOND FORM's CARD OF 'missivelaw06.RunesEncodes'. -/
def runesEncodesUptoCard : Claim7 := { stood := { row := runesEncodesUptoRow, standIns := [], harness := (true, "4af2a1df007a235f410f736d6cedd033b03d6ededd31f1ca45961a09d5b5e33d"), looks := false }, kinds := [], alts := [], laidByText := true, laidKinds := [.data, .data, .data, .data, .pinned], laidTests := true, laidLooks := .later }
def RunesEncodesUptoCardSaid : Prop := Claim7.holds Tryd.pinned (.plain (OpenSpec.upto runesEncodesSpec)) runesEncodesUptoCard

/-- THE SECOND FORM's CARD OF 'missivelaw06.RunesBack'. -/
def runesBackUptoCard : Claim7 := { stood := { row := runesBackUptoRow, standIns := [], harness := (true, "4af2a1df007a235f410f736d6cedd033b03d6ededd31f1ca45961a09d5b5e33d"), looks := false }, kinds := [], alts := [], laidByText := true, laidKinds := [.data, .data, .data, .data, .pinned], laidTests := true, laidLooks := .later }
def RunesBackUptoCardSaid : Prop := Claim7.holds Tryd.pinned (.plain (OpenSpec.upto runesBackSpec)) runesBackUptoCard

/-- THE SECOND FORM's CARD OF 'missivelaw06.RunesAlways'. -/
def runesAlwaysUptoCard : Claim7 := { stood := { row := runesAlwaysUptoRow, standIns := [], harness := (true, "4af2a1df007a235f410f736d6cedd033b03d6ededd31f1ca45961a09d5b5e33d"), looks := false }, kinds := [], alts := [], laidByText := true, laidKinds := [.data, .data, .data, .data, .pinned], laidTests := true, laidLooks := .later }
def RunesAlwaysUptoCardSaid : Prop := Claim7.holds Tryd.pinned (.plain (OpenSpec.upto runesAlwaysSpec)) runesAlwaysUptoCard

/-- THE SECOND FORM's CARD OF 'missivelaw06.RunesParts'. -/
def runesPartsUptoCard : Claim7 := { stood := { row := runesPartsUptoRow, standIns := [], harness := (true, "4af2a1df007a235f410f736d6cedd033b03d6ededd31f1ca45961a09d5b5e33d"), looks := false }, kinds := [], alts := [], laidByText := true, laidKinds := [.data, .data, .data, .data, .pinned], laidTests := true, laidLooks := .later }
def RunesPartsUptoCardSaid : Prop := Claim7.holds Tryd.pinned (.plain (OpenSpec.upto runesPartsSpec)) runesPartsUptoCard

/-- THE SECOND FORM's CARD OF 'missivetop.TopMailed'. -/
def topMailedUptoCard : Claim7 := { stood := { row := topMailedUptoRow, standIns := [], harness := (true, "4af2a1df007a235f410f736d6cedd033b03d6ededd31f1ca45961a09d5b5e33d"), looks := false }, kinds := [], alts := [], laidByText := true, laidKinds := [.data, .data, .data, .pinned], laidTests := true, laidLooks := .later }
def TopMailedUptoCardSaid : Prop := Claim7.holds Tryd.pinned (.plain (OpenSpec.upto topMailedSpec)) topMailedUptoCard
end Rows
end Go.Proofs.YtoofggofpdlccabDoor
