/-
  DERIVED. GIVEN WITH THE SEED: THE CARDS: each row of YtihgmpebpkjmkaaGreatDoorRows.lean that lists a variable, with what it lists TIED to the program's text (the seventh form; the later family's looks); each row that meets fmt, with fmt's text TOLD by the authors' own Lean function (tested against real Go, not proved from fmt's source: count such statements apart). THE CARD IS WHAT COUNTS. Prove the row's statement (the work); the ties are given (YtihgmpebpkjmkaaGreatDoorTie.lean); close each card by the builder's one call (the guide's Derived/Test/ToyasCard.lean, 'card_holds'). Laid BY PROGRAM, IN A SANDBOX (cutbox-door.mjs). By AI agents, Wed Nov 11 2026. No macro, syntax, notation, axiom, sorry.
-/
import Derived.Test.YtihgmpebpkjmkaaGreatDoorRows
import GoSem.ClaimSeven
namespace Go.Proofs.YtihgmpebpkjmkaaGreatDoor
namespace Rows

/-- THE TIED CARD OF 'missivetop.TopTallied'. -/
def topTalliedCard : Claim7 := { stood := { row := topTalliedRow, standIns := [], harness := (true, "fa759542dc0cfb15cfb88ffa2e0ee86d01d50e57ddbe2d8df2a2a3b9c5990836"), looks := true }, kinds := [], alts := [], laidByText := true, laidKinds := [.data, .data, .data, .data, .sentinel, .sentinel, .data, .pinned], laidTests := true, laidLooks := .later }
def TopTalliedCardSaid : Prop := Claim7.holds Tryz.pinned (.plain (OpenSpec.ofChange topTalliedSpec)) topTalliedCard

/-- THE SECOND FORM's CARD OF 'missivetop.TopTallied'. -/
def topTalliedUptoCard : Claim7 := { stood := { row := topTalliedUptoRow, standIns := [], harness := (true, "fa759542dc0cfb15cfb88ffa2e0ee86d01d50e57ddbe2d8df2a2a3b9c5990836"), looks := true }, kinds := [], alts := [], laidByText := true, laidKinds := [.data, .data, .data, .data, .sentinel, .sentinel, .data, .pinned], laidTests := true, laidLooks := .later }
def TopTalliedUptoCardSaid : Prop := Claim7.holds Tryz.pinned (.plain (OpenSpec.upto topTalliedSpec)) topTalliedUptoCard
end Rows
end Go.Proofs.YtihgmpebpkjmkaaGreatDoor
