/-
  DERIVED. GIVEN WITH THE SEED: THE CARDS: each row of YtekcbkaanlngdabDoorRows.lean that lists a variable, with what it lists TIED to the program's text (the seventh form; the later family's looks); each row that meets fmt, with fmt's text TOLD by the authors' own Lean function (tested against real Go, not proved from fmt's source: count such statements apart). THE CARD IS WHAT COUNTS. Prove the row's statement (the work); the ties are given (YtekcbkaanlngdabDoorTie.lean); close each card by the builder's one call (the guide's Derived/Test/ToyasCard.lean, 'card_holds'). Laid BY PROGRAM, IN A SANDBOX (cutbox-door.mjs). By AI agents, Wed Nov 11 2026. No macro, syntax, notation, axiom, sorry.
-/
import Derived.Test.YtekcbkaanlngdabDoorRows
import GoSem.ClaimSeven
namespace Go.Proofs.YtekcbkaanlngdabDoor
namespace Rows

/-- THE TIED CARD OF 'missivelaw02.RecFrames'. -/
def recFramesCard : Claim7 := { stood := { row := recFramesRow, standIns := [], harness := (true, "3e12d572504d8f02086a4edf59c65ecfa0f397093977dc8181e6437321c09c40"), looks := false }, kinds := [], alts := [], laidByText := true, laidKinds := [.data], laidTests := true, laidLooks := .later }
def RecFramesCardSaid : Prop := Claim7.holds Tryd.pinned (.plain (OpenSpec.ofChange recFramesSpec)) recFramesCard

/-- THE TIED CARD OF 'missivelaw02.RecMany'. -/
def recManyCard : Claim7 := { stood := { row := recManyRow, standIns := [], harness := (true, "3e12d572504d8f02086a4edf59c65ecfa0f397093977dc8181e6437321c09c40"), looks := false }, kinds := [], alts := [], laidByText := true, laidKinds := [.data], laidTests := true, laidLooks := .later }
def RecManyCardSaid : Prop := Claim7.holds Tryd.pinned (.plain (OpenSpec.ofChange recManySpec)) recManyCard

/-- THE TIED CARD OF 'missivelaw02.RecBack'. -/
def recBackCard : Claim7 := { stood := { row := recBackRow, standIns := [], harness := (true, "3e12d572504d8f02086a4edf59c65ecfa0f397093977dc8181e6437321c09c40"), looks := false }, kinds := [], alts := [], laidByText := true, laidKinds := [.data], laidTests := true, laidLooks := .later }
def RecBackCardSaid : Prop := Claim7.holds Tryd.pinned (.plain (OpenSpec.ofChange recBackSpec)) recBackCard

/-- THE TIED CARD OF 'missivelaw02.RecTorn'. -/
def recTornCard : Claim7 := { stood := { row := recTornRow, standIns := [], harness := (true, "3e12d572504d8f02086a4edf59c65ecfa0f397093977dc8181e6437321c09c40"), looks := false }, kinds := [], alts := [], laidByText := true, laidKinds := [.data], laidTests := true, laidLooks := .later }
def RecTornCardSaid : Prop := Claim7.holds Tryd.pinned (.plain (OpenSpec.ofChange recTornSpec)) recTornCard

/-- THE TIED CARD OF 'missivelaw02.RecTurned'. -/
def recTurnedCard : Claim7 := { stood := { row := recTurnedRow, standIns := [], harness := (true, "3e12d572504d8f02086a4edf59c65ecfa0f397093977dc8181e6437321c09c40"), looks := false }, kinds := [], alts := [], laidByText := true, laidKinds := [.data], laidTests := true, laidLooks := .later }
def RecTurnedCardSaid : Prop := Claim7.holds Tryd.pinned (.plain (OpenSpec.ofChange recTurnedSpec)) recTurnedCard

/-- THE TIED CARD OF 'missivetop.TopFramed'. -/
def topFramedCard : Claim7 := { stood := { row := topFramedRow, standIns := [], harness := (true, "3e12d572504d8f02086a4edf59c65ecfa0f397093977dc8181e6437321c09c40"), looks := false }, kinds := [], alts := [], laidByText := true, laidKinds := [.data], laidTests := true, laidLooks := .later }
def TopFramedCardSaid : Prop := Claim7.holds Tryd.pinned (.plain (OpenSpec.ofChange topFramedSpec)) topFramedCard

/-- THE SECOND FORM's CARD OF 'missivelaw02.RecFrames'. -/
def recFramesUptoCard : Claim7 := { stood := { row := recFramesUptoRow, standIns := [], harness := (true, "3e12d572504d8f02086a4edf59c65ecfa0f397093977dc8181e6437321c09c40"), looks := false }, kinds := [], alts := [], laidByText := true, laidKinds := [.data], laidTests := true, laidLooks := .later }
def RecFramesUptoCardSaid : Prop := Claim7.holds Tryd.pinned (.plain (OpenSpec.upto recFramesSpec)) recFramesUptoCard

/-- THE SECOND FORM's CARD OF 'missivelaw02.RecMany'. -/
def recManyUptoCard : Claim7 := { stood := { row := recManyUptoRow, standIns := [], harness := (true, "3e12d572504d8f02086a4edf59c65ecfa0f397093977dc8181e6437321c09c40"), looks := false }, kinds := [], alts := [], laidByText := true, laidKinds := [.data], laidTests := true, laidLooks := .later }
def RecManyUptoCardSaid : Prop := Claim7.holds Tryd.pinned (.plain (OpenSpec.upto recManySpec)) recManyUptoCard

/-- THE SECOND FORM's CARD OF 'missivelaw02.RecBack'. -/
def recBackUptoCard : Claim7 := { stood := { row := recBackUptoRow, standIns := [], harness := (true, "3e12d572504d8f02086a4edf59c65ecfa0f397093977dc8181e6437321c09c40"), looks := false }, kinds := [], alts := [], laidByText := true, laidKinds := [.data], laidTests := true, laidLooks := .later }
def RecBackUptoCardSaid : Prop := Claim7.holds Tryd.pinned (.plain (OpenSpec.upto recBackSpec)) recBackUptoCard

/-- THE SECOND FORM's CARD OF 'missivelaw02.RecTorn'. -/
def recTornUptoCard : Claim7 := { stood := { row := recTornUptoRow, standIns := [], harness := (true, "3e12d572504d8f02086a4edf59c65ecfa0f397093977dc8181e6437321c09c40"), looks := false }, kinds := [], alts := [], laidByText := true, laidKinds := [.data], laidTests := true, laidLooks := .later }
def RecTornUptoCardSaid : Prop := Claim7.holds Tryd.pinned (.plain (OpenSpec.upto recTornSpec)) recTornUptoCard

/-- THE SECOND FORM's CARD OF 'missivelaw02.RecTurned'. -/
def recTurnedUptoCard : Claim7 := { stood := { row := recTurnedUptoRow, standIns := [], harness := (true, "3e12d572504d8f02086a4edf59c65ecfa0f397093977dc8181e6437321c09c40"), looks := false }, kinds := [], alts := [], laidByText := true, laidKinds := [.data], laidTests := true, laidLooks := .later }
def RecTurnedUptoCardSaid : Prop := Claim7.holds Tryd.pinned (.plain (OpenSpec.upto recTurnedSpec)) recTurnedUptoCard

/-- THE SECOND FORM's CARD OF 'missivetop.TopFramed'. -/
def topFramedUptoCard : Claim7 := { stood := { row := topFramedUptoRow, standIns := [], harness := (true, "3e12d572504d8f02086a4edf59c65ecfa0f397093977dc8181e6437321c09c40"), looks := false }, kinds := [], alts := [], laidByText := true, laidKinds := [.data], laidTests := true, laidLooks := .later }
def TopFramedUptoCardSaid : Prop := Claim7.holds Tryd.pinned (.plain (OpenSpec.upto topFramedSpec)) topFramedUptoCard
end Rows
end Go.Proofs.YtekcbkaanlngdabDoor
