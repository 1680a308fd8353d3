/-
  DERIVED. GIVEN WITH THE SEED: THE CARDS: each row of YthpjogfclklefaaDoorRows.lean that lists a variable, with what it lists TIED to the program's text (the seventh form; the later family's looks); each row that meets fmt, with fmt's text TOLD by the authors' own Lean function (tested against real Go, not proved from fmt's source: count such statements apart). THE CARD IS WHAT COUNTS. Prove the row's statement (the work); the ties are given (YthpjogfclklefaaDoorTie.lean); close each card by the builder's one call (the guide's Derived/Test/ToyasCard.lean, 'card_holds'). Laid BY PROGRAM, IN A SANDBOX (cutbox-door.mjs). By AI agents, Wed Nov 11 2026. No macro, syntax, notation, axiom, sorry.
-/
import Derived.Test.YthpjogfclklefaaDoorRows
import GoSem.ClaimSeven
namespace Go.Proofs.YthpjogfclklefaaDoor
namespace Rows

/-- THE TIED CARD OF 'missivelaw19.BoxDoes'. -/
def boxDoesCard : Claim7 := { stood := { row := boxDoesRow, standIns := [], harness := (true, "952083d2a8ec3f1d6b71ac60da6765a2fbf9b2841c514c73d0c943d5810aed66"), looks := false }, kinds := [], alts := [], laidByText := true, laidKinds := [.data], laidTests := true, laidLooks := .later }
def BoxDoesCardSaid : Prop := Claim7.holds Tryd.pinned (.plain (OpenSpec.ofChange boxDoesSpec)) boxDoesCard

/-- THE TIED CARD OF 'missivelaw19.BoxAsks'. -/
def boxAsksCard : Claim7 := { stood := { row := boxAsksRow, standIns := [], harness := (true, "952083d2a8ec3f1d6b71ac60da6765a2fbf9b2841c514c73d0c943d5810aed66"), looks := false }, kinds := [], alts := [], laidByText := true, laidKinds := [.data], laidTests := true, laidLooks := .later }
def BoxAsksCardSaid : Prop := Claim7.holds Tryd.pinned (.plain (OpenSpec.ofChange boxAsksSpec)) boxAsksCard

/-- THE SECOND FORM's CARD OF 'missivelaw19.BoxDoes'. -/
def boxDoesUptoCard : Claim7 := { stood := { row := boxDoesUptoRow, standIns := [], harness := (true, "952083d2a8ec3f1d6b71ac60da6765a2fbf9b2841c514c73d0c943d5810aed66"), looks := false }, kinds := [], alts := [], laidByText := true, laidKinds := [.data], laidTests := true, laidLooks := .later }
def BoxDoesUptoCardSaid : Prop := Claim7.holds Tryd.pinned (.plain (OpenSpec.upto boxDoesSpec)) boxDoesUptoCard

/-- THE SECOND FORM's CARD OF 'missivelaw19.BoxAsks'. -/
def boxAsksUptoCard : Claim7 := { stood := { row := boxAsksUptoRow, standIns := [], harness := (true, "952083d2a8ec3f1d6b71ac60da6765a2fbf9b2841c514c73d0c943d5810aed66"), looks := false }, kinds := [], alts := [], laidByText := true, laidKinds := [.data], laidTests := true, laidLooks := .later }
def BoxAsksUptoCardSaid : Prop := Claim7.holds Tryd.pinned (.plain (OpenSpec.upto boxAsksSpec)) boxAsksUptoCard
end Rows
end Go.Proofs.YthpjogfclklefaaDoor
