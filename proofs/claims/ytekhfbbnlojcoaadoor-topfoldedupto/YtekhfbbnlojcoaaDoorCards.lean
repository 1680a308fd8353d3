/-
  DERIVED. GIVEN WITH THE SEED: THE CARDS: each row of YtekhfbbnlojcoaaDoorRows.lean that lists a variable, with what it lists TIED to the program's text (the seventh form; the later family's looks); each row that meets fmt, with fmt's text TOLD by the authors' own Lean function (tested against real Go, not proved from fmt's source: count such statements apart). THE CARD IS WHAT COUNTS. Prove the row's statement (the work); the ties are given (YtekhfbbnlojcoaaDoorTie.lean); close each card by the builder's one call (the guide's Derived/Test/ToyasCard.lean, 'card_holds'). Laid BY PROGRAM, IN A SANDBOX (cutbox-door.mjs). By AI agents, Wed Nov 11 2026. No macro, syntax, notation, axiom, sorry.
-/
import Derived.Test.YtekhfbbnlojcoaaDoorRows
import GoSem.ClaimSeven
namespace Go.Proofs.YtekhfbbnlojcoaaDoor
namespace Rows

/-- THE TIED CARD OF 'missivelaw08.HeadLike'. -/
def headLikeCard : Claim7 := { stood := { row := headLikeRow, standIns := [], harness := (true, "03c3502adbdb0f069d232404910a5722ee177c16101ba0783e9eeb97e2937303"), looks := false }, kinds := [], alts := [], laidByText := true, laidKinds := [.data, .pinned], laidTests := true, laidLooks := .later }
def HeadLikeCardSaid : Prop := Claim7.holds Tryd.pinned (.plain (OpenSpec.ofChange headLikeSpec)) headLikeCard

/-- THE TIED CARD OF 'missivetop.TopFolded'. -/
def topFoldedCard : Claim7 := { stood := { row := topFoldedRow, standIns := [], harness := (true, "03c3502adbdb0f069d232404910a5722ee177c16101ba0783e9eeb97e2937303"), looks := false }, kinds := [], alts := [], laidByText := true, laidKinds := [.data, .data, .data, .pinned], laidTests := true, laidLooks := .later }
def TopFoldedCardSaid : Prop := Claim7.holds Tryd.pinned (.plain (OpenSpec.ofChange topFoldedSpec)) topFoldedCard

/-- THE SECOND FORM's CARD OF 'missivelaw08.HeadLike'. -/
def headLikeUptoCard : Claim7 := { stood := { row := headLikeUptoRow, standIns := [], harness := (true, "03c3502adbdb0f069d232404910a5722ee177c16101ba0783e9eeb97e2937303"), looks := false }, kinds := [], alts := [], laidByText := true, laidKinds := [.data, .pinned], laidTests := true, laidLooks := .later }
def HeadLikeUptoCardSaid : Prop := Claim7.holds Tryd.pinned (.plain (OpenSpec.upto headLikeSpec)) headLikeUptoCard

/-- THE SECOND FORM's CARD OF 'missivetop.TopFolded'. -/
def topFoldedUptoCard : Claim7 := { stood := { row := topFoldedUptoRow, standIns := [], harness := (true, "03c3502adbdb0f069d232404910a5722ee177c16101ba0783e9eeb97e2937303"), looks := false }, kinds := [], alts := [], laidByText := true, laidKinds := [.data, .data, .data, .pinned], laidTests := true, laidLooks := .later }
def TopFoldedUptoCardSaid : Prop := Claim7.holds Tryd.pinned (.plain (OpenSpec.upto topFoldedSpec)) topFoldedUptoCard
end Rows
end Go.Proofs.YtekhfbbnlojcoaaDoor
