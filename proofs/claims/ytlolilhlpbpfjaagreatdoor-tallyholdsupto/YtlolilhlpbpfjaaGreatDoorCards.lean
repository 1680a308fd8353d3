/-
  DERIVED. GIVEN WITH THE SEED: THE CARDS: each row of YtlolilhlpbpfjaaGreatDoorRows.lean that lists a variable, with what it lists TIED to the program's text (the seventh form; the later family's looks); each row that meets fmt, with fmt's text TOLD by the authors' own Lean function (tested against real Go, not proved from fmt's source: count such statements apart). THE CARD IS WHAT COUNTS. Prove the row's statement (the work); the ties are given (YtlolilhlpbpfjaaGreatDoorTie.lean); close each card by the builder's one call (the guide's Derived/Test/ToyasCard.lean, 'card_holds'). Laid BY PROGRAM, IN A SANDBOX (cutbox-door.mjs). By AI agents, Wed Nov 11 2026. No macro, syntax, notation, axiom, sorry.
-/
import Derived.Test.YtlolilhlpbpfjaaGreatDoorRows
import GoSem.ClaimSeven
namespace Go.Proofs.YtlolilhlpbpfjaaGreatDoor
namespace Rows

/-- THE TIED CARD OF 'missivelaw27.TallyHolds'. -/
def tallyHoldsCard : Claim7 := { stood := { row := tallyHoldsRow, standIns := [], harness := (true, "ed59c90cf4c0878436094c5ffc7932ce4bc022d811b6fc39b444d7f1f04ede33"), looks := true }, kinds := [], alts := [], laidByText := true, laidKinds := [.data, .data, .data, .sentinel, .sentinel, .data], laidTests := true, laidLooks := .later }
def TallyHoldsCardSaid : Prop := Claim7.holds Tryz.pinned (.plain (OpenSpec.ofChange tallyHoldsSpec)) tallyHoldsCard

/-- THE SECOND FORM's CARD OF 'missivelaw27.TallyHolds'. -/
def tallyHoldsUptoCard : Claim7 := { stood := { row := tallyHoldsUptoRow, standIns := [], harness := (true, "ed59c90cf4c0878436094c5ffc7932ce4bc022d811b6fc39b444d7f1f04ede33"), looks := true }, kinds := [], alts := [], laidByText := true, laidKinds := [.data, .data, .data, .sentinel, .sentinel, .data], laidTests := true, laidLooks := .later }
def TallyHoldsUptoCardSaid : Prop := Claim7.holds Tryz.pinned (.plain (OpenSpec.upto tallyHoldsSpec)) tallyHoldsUptoCard
end Rows
end Go.Proofs.YtlolilhlpbpfjaaGreatDoor
