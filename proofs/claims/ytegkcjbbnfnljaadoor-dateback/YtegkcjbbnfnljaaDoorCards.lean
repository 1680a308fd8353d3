/-
  DERIVED. GIVEN WITH THE SEED: THE CARDS: each row of YtegkcjbbnfnljaaDoorRows.lean that lists a variable, with what it lists TIED to the program's text (the seventh form; the later family's looks); each row that meets fmt, with fmt's text TOLD by the authors' own Lean function (tested against real Go, not proved from fmt's source: count such statements apart). THE CARD IS WHAT COUNTS. Prove the row's statement (the work); the ties are given (YtegkcjbbnfnljaaDoorTie.lean); close each card by the builder's one call (the guide's Derived/Test/ToyasCard.lean, 'card_holds'). Laid BY PROGRAM, IN A SANDBOX (cutbox-door.mjs). By AI agents, Wed Nov 11 2026. No macro, syntax, notation, axiom, sorry.
-/
import Derived.Test.YtegkcjbbnfnljaaDoorRows
import GoSem.ClaimSeven
namespace Go.Proofs.YtegkcjbbnfnljaaDoor
namespace Rows

/-- THE TIED CARD OF 'missivelaw10.DateDays'. -/
def dateDaysCard : Claim7 := { stood := { row := dateDaysRow, standIns := [], harness := (true, "e815b2faabff5c6360e8f7a2fc91b2abc1aadf34805f65138e367ba1ba1863af"), looks := false }, kinds := [], alts := [], laidByText := true, laidKinds := [.data], laidTests := true, laidLooks := .later }
def DateDaysCardSaid : Prop := Claim7.holds Tryd.pinned (.plain (OpenSpec.ofChange dateDaysSpec)) dateDaysCard

/-- THE TIED CARD OF 'missivelaw10.DateTexts'. -/
def dateTextsCard : Claim7 := { stood := { row := dateTextsRow, standIns := [], harness := (true, "e815b2faabff5c6360e8f7a2fc91b2abc1aadf34805f65138e367ba1ba1863af"), looks := false }, kinds := [], alts := [], laidByText := true, laidKinds := [.data, .data, .pinned], laidTests := true, laidLooks := .later }
def DateTextsCardSaid : Prop := Claim7.holds Tryd.pinned (.plain (OpenSpec.ofChange dateTextsSpec)) dateTextsCard

/-- THE TIED CARD OF 'missivelaw10.DateTimes'. -/
def dateTimesCard : Claim7 := { stood := { row := dateTimesRow, standIns := [], harness := (true, "e815b2faabff5c6360e8f7a2fc91b2abc1aadf34805f65138e367ba1ba1863af"), looks := false }, kinds := [], alts := [], laidByText := true, laidKinds := [.data, .data, .pinned], laidTests := true, laidLooks := .later }
def DateTimesCardSaid : Prop := Claim7.holds Tryd.pinned (.plain (OpenSpec.ofChange dateTimesSpec)) dateTimesCard

/-- THE TIED CARD OF 'missivelaw10.DateBack'. -/
def dateBackCard : Claim7 := { stood := { row := dateBackRow, standIns := [], harness := (true, "e815b2faabff5c6360e8f7a2fc91b2abc1aadf34805f65138e367ba1ba1863af"), looks := false }, kinds := [], alts := [], laidByText := true, laidKinds := [.data, .data, .pinned], laidTests := true, laidLooks := .later }
def DateBackCardSaid : Prop := Claim7.holds Tryd.pinned (.plain (OpenSpec.ofChange dateBackSpec)) dateBackCard

/-- THE TIED CARD OF 'missivelaw10.DateNext'. -/
def dateNextCard : Claim7 := { stood := { row := dateNextRow, standIns := [], harness := (true, "e815b2faabff5c6360e8f7a2fc91b2abc1aadf34805f65138e367ba1ba1863af"), looks := false }, kinds := [], alts := [], laidByText := true, laidKinds := [.data], laidTests := true, laidLooks := .later }
def DateNextCardSaid : Prop := Claim7.holds Tryd.pinned (.plain (OpenSpec.ofChange dateNextSpec)) dateNextCard

/-- THE TIED CARD OF 'missivelaw10.DateTold'. -/
def dateToldCard : Claim7 := { stood := { row := dateToldRow, standIns := [], harness := (true, "e815b2faabff5c6360e8f7a2fc91b2abc1aadf34805f65138e367ba1ba1863af"), looks := false }, kinds := [], alts := [], laidByText := true, laidKinds := [.data, .data, .pinned], laidTests := true, laidLooks := .later }
def DateToldCardSaid : Prop := Claim7.holds Tryd.pinned (.plain (OpenSpec.ofChange dateToldSpec)) dateToldCard

/-- THE SECOND FORM's CARD OF 'missivelaw10.DateDays'. -/
def dateDaysUptoCard : Claim7 := { stood := { row := dateDaysUptoRow, standIns := [], harness := (true, "e815b2faabff5c6360e8f7a2fc91b2abc1aadf34805f65138e367ba1ba1863af"), looks := false }, kinds := [], alts := [], laidByText := true, laidKinds := [.data], laidTests := true, laidLooks := .later }
def DateDaysUptoCardSaid : Prop := Claim7.holds Tryd.pinned (.plain (OpenSpec.upto dateDaysSpec)) dateDaysUptoCard

/-- THE SECOND FORM's CARD OF 'missivelaw10.DateTexts'. -/
def dateTextsUptoCard : Claim7 := { stood := { row := dateTextsUptoRow, standIns := [], harness := (true, "e815b2faabff5c6360e8f7a2fc91b2abc1aadf34805f65138e367ba1ba1863af"), looks := false }, kinds := [], alts := [], laidByText := true, laidKinds := [.data, .data, .pinned], laidTests := true, laidLooks := .later }
def DateTextsUptoCardSaid : Prop := Claim7.holds Tryd.pinned (.plain (OpenSpec.upto dateTextsSpec)) dateTextsUptoCard

/-- THE SECOND FORM's CARD OF 'missivelaw10.DateTimes'. -/
def dateTimesUptoCard : Claim7 := { stood := { row := dateTimesUptoRow, standIns := [], harness := (true, "e815b2faabff5c6360e8f7a2fc91b2abc1aadf34805f65138e367ba1ba1863af"), looks := false }, kinds := [], alts := [], laidByText := true, laidKinds := [.data, .data, .pinned], laidTests := true, laidLooks := .later }
def DateTimesUptoCardSaid : Prop := Claim7.holds Tryd.pinned (.plain (OpenSpec.upto dateTimesSpec)) dateTimesUptoCard

/-- THE SECOND FORM's CARD OF 'missivelaw10.DateBack'. -/
def dateBackUptoCard : Claim7 := { stood := { row := dateBackUptoRow, standIns := [], harness := (true, "e815b2faabff5c6360e8f7a2fc91b2abc1aadf34805f65138e367ba1ba1863af"), looks := false }, kinds := [], alts := [], laidByText := true, laidKinds := [.data, .data, .pinned], laidTests := true, laidLooks := .later }
def DateBackUptoCardSaid : Prop := Claim7.holds Tryd.pinned (.plain (OpenSpec.upto dateBackSpec)) dateBackUptoCard

/-- THE SECOND FORM's CARD OF 'missivelaw10.DateNext'. -/
def dateNextUptoCard : Claim7 := { stood := { row := dateNextUptoRow, standIns := [], harness := (true, "e815b2faabff5c6360e8f7a2fc91b2abc1aadf34805f65138e367ba1ba1863af"), looks := false }, kinds := [], alts := [], laidByText := true, laidKinds := [.data], laidTests := true, laidLooks := .later }
def DateNextUptoCardSaid : Prop := Claim7.holds Tryd.pinned (.plain (OpenSpec.upto dateNextSpec)) dateNextUptoCard

/-- THE SECOND FORM's CARD OF 'missivelaw10.DateTold'. -/
def dateToldUptoCard : Claim7 := { stood := { row := dateToldUptoRow, standIns := [], harness := (true, "e815b2faabff5c6360e8f7a2fc91b2abc1aadf34805f65138e367ba1ba1863af"), looks := false }, kinds := [], alts := [], laidByText := true, laidKinds := [.data, .data, .pinned], laidTests := true, laidLooks := .later }
def DateToldUptoCardSaid : Prop := Claim7.holds Tryd.pinned (.plain (OpenSpec.upto dateToldSpec)) dateToldUptoCard
end Rows
end Go.Proofs.YtegkcjbbnfnljaaDoor
