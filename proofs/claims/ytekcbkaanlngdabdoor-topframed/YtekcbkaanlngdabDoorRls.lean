/-
  What the document's own List and Same do, over this seat's program.
-/
import Derived.Test.YtekcbkaanlngdabDoorLst
set_option linter.unusedVariables false
namespace Go.Proofs.YtekcbkaanlngdabDoor
open Go.RowKit Go.Proofs.Num

/-- The least number that may stand at place k. -/
def leastAt (l : List Nat) (k : Nat) : Nat := if k = 0 then 0 else l.getD (k - 1) 0 + 1

theorem leastAt_next {l : List Nat} {k : Nat} (h : k < l.length) : leastAt l (k + 1) = l[k] + 1 := by
  simp [leastAt, List.getD, List.getElem?_eq_getElem h]

end Go.Proofs.YtekcbkaanlngdabDoor
