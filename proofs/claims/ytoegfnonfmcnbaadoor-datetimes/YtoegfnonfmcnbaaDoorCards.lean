/-
  DERIVED. GIVEN WITH THE SEED: THE CARDS: each row of YtoegfnonfmcnbaaDoorRows.lean that lists a variable, with what it lists TIED to the program's text (the seventh form; the later family's looks); each row that meets fmt, with fmt's text TOLD by the authors' own Lean function (tested against real Go, not proved from fmt's source: count such statements apart). THE CARD IS WHAT COUNTS. Prove the row's statement (the work); the ties are given (YtoegfnonfmcnbaaDoorTie.lean); close each card by the builder's one call (the guide's Derived/Test/ToyasCard.lean, 'card_holds'). Laid BY PROGRAM, IN A SANDBOX (cutbox-door.mjs). By AI agents, Wed Nov 11 2026. No macro, syntax, notation, axiom, sorry.
-/
import Derived.Test.YtoegfnonfmcnbaaDoorRows
import GoSem.ClaimSeven
namespace Go.Proofs.YtoegfnonfmcnbaaDoor
namespace Rows

/-- THE TIED CARD OF 'missivelaw10.DateTexts'. -/
def dateTextsCard : Claim7 := { stood := { row := dateTextsRow, standIns := [], harness := (true, "f2688444b9c78398632eb5c6891385b913c1990ff5aea77a02bf3c5380c3ae57"), looks := false }, kinds := [], alts := [], laidByText := true, laidKinds := [.data, .data, .pinned], laidTests := true, laidLooks := .later }
def DateTextsCardSaid : Prop := Claim7.holds Tryd.pinned (.plain (OpenSpec.ofChange dateTextsSpec)) dateTextsCard

/-- THE TIED CARD OF 'missivelaw10.DateTimes'. -/
def dateTimesCard : Claim7 := { stood := { row := dateTimesRow, standIns := [], harness := (true, "f2688444b9c78398632eb5c6891385b913c1990ff5aea77a02bf3c5380c3ae57"), looks := false }, kinds := [], alts := [], laidByText := true, laidKinds := [.data, .data, .pinned], laidTests := true, laidLooks := .later }
def DateTimesCardSaid : Prop := Claim7.holds Tryd.pinned (.plain (OpenSpec.ofChange dateTimesSpec)) dateTimesCard

/-- THE SECOND FORM's CARD OF 'missivelaw10.DateTexts'. -/
def dateTextsUptoCard : Claim7 := { stood := { row := dateTextsUptoRow, standIns := [], harness := (true, "f2688444b9c78398632eb5c6891385b913c1990ff5aea77a02bf3c5380c3ae57"), looks := false }, kinds := [], alts := [], laidByText := true, laidKinds := [.data, .data, .pinned], laidTests := true, laidLooks := .later }
def DateTextsUptoCardSaid : Prop := Claim7.holds Tryd.pinned (.plain (OpenSpec.upto dateTextsSpec)) dateTextsUptoCard

/-- THE SECOND FORM's CARD OF 'missivelaw10.DateTimes'. -/
def dateTimesUptoCard : Claim7 := { stood := { row := dateTimesUptoRow, standIns := [], harness := (true, "f2688444b9c78398632eb5c6891385b913c1990ff5aea77a02bf3c5380c3ae57"), looks := false }, kinds := [], alts := [], laidByText := true, laidKinds := [.data, .data, .pinned], laidTests := true, laidLooks := .later }
def DateTimesUptoCardSaid : Prop := Claim7.holds Tryd.pinned (.plain (OpenSpec.upto dateTimesSpec)) dateTimesUptoCard
end Rows
end Go.Proofs.YtoegfnonfmcnbaaDoor
