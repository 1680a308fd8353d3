/-
  DERIVED. GIVEN WITH THE SEED: THE CARDS: each row of YtcoknclifgkcgaaDoorRows.lean that lists a variable, with what it lists TIED to the program's text (the seventh form; the later family's looks); each row that meets fmt, with fmt's text TOLD by the authors' own Lean function (tested against real Go, not proved from fmt's source: count such statements apart). THE CARD IS WHAT COUNTS. Prove the row's statement (the work); the ties are given (YtcoknclifgkcgaaDoorTie.lean); close each card by the builder's one call (the guide's Derived/Test/ToyasCard.lean, 'card_holds'). Laid BY PROGRAM, IN A SANDBOX (cutbox-door.mjs). By AI agents, Wed Nov 11 2026. No macro, syntax, notation, axiom, sorry.
-/
import Derived.Test.YtcoknclifgkcgaaDoorRows
import GoSem.ClaimSeven
namespace Go.Proofs.YtcoknclifgkcgaaDoor
namespace Rows

/-- THE TIED CARD OF 'missivelaw03.NsetNumbers'. -/
def nsetNumbersCard : Claim7 := { stood := { row := nsetNumbersRow, standIns := [], harness := (true, "f92365258b7d69c5fc73626c82ed977099fa60b4d77fa005a0596f5e793640ef"), looks := true }, kinds := [], alts := [], laidByText := true, laidKinds := [.data, .data, .data, .sentinel, .sentinel], laidTests := true, laidLooks := .later }
def NsetNumbersCardSaid : Prop := Claim7.holds Tryd.pinned (.plain (OpenSpec.ofChange nsetNumbersSpec)) nsetNumbersCard

/-- THE TIED CARD OF 'missivelaw03.NsetBack'. -/
def nsetBackCard : Claim7 := { stood := { row := nsetBackRow, standIns := [], harness := (true, "f92365258b7d69c5fc73626c82ed977099fa60b4d77fa005a0596f5e793640ef"), looks := true }, kinds := [], alts := [], laidByText := true, laidKinds := [.data, .data, .data, .sentinel, .sentinel], laidTests := true, laidLooks := .later }
def NsetBackCardSaid : Prop := Claim7.holds Tryd.pinned (.plain (OpenSpec.ofChange nsetBackSpec)) nsetBackCard

/-- THE SECOND FORM's CARD OF 'missivelaw03.NsetNumbers'. -/
def nsetNumbersUptoCard : Claim7 := { stood := { row := nsetNumbersUptoRow, standIns := [], harness := (true, "f92365258b7d69c5fc73626c82ed977099fa60b4d77fa005a0596f5e793640ef"), looks := true }, kinds := [], alts := [], laidByText := true, laidKinds := [.data, .data, .data, .sentinel, .sentinel], laidTests := true, laidLooks := .later }
def NsetNumbersUptoCardSaid : Prop := Claim7.holds Tryd.pinned (.plain (OpenSpec.upto nsetNumbersSpec)) nsetNumbersUptoCard

/-- THE SECOND FORM's CARD OF 'missivelaw03.NsetBack'. -/
def nsetBackUptoCard : Claim7 := { stood := { row := nsetBackUptoRow, standIns := [], harness := (true, "f92365258b7d69c5fc73626c82ed977099fa60b4d77fa005a0596f5e793640ef"), looks := true }, kinds := [], alts := [], laidByText := true, laidKinds := [.data, .data, .data, .sentinel, .sentinel], laidTests := true, laidLooks := .later }
def NsetBackUptoCardSaid : Prop := Claim7.holds Tryd.pinned (.plain (OpenSpec.upto nsetBackSpec)) nsetBackUptoCard
end Rows
end Go.Proofs.YtcoknclifgkcgaaDoor
