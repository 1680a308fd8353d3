/-
  NARROWER THAN 'FOR EVERY INPUT', by the rows' own cells (each row's printed sentence says how): BoxDoes: laid · BoxAsks: laid.
  DERIVED. THE GIVEN ROWS OF THIS SEAT. 2 by the template 'for every input the law returns true; each argument reads behind the call as it read before'; 0 by the template 'total and deterministic' (their statements: YthpjogfclklefaaDoorTotals.lean).
  GIVEN WITH THE SEED: the statements are not yours to turn. If you find one false, say at which input.
  Laid BY PROGRAM, IN A SANDBOX (cutbox-rows.mjs): the forced cells as the released guide's own fill.sh prints them over the translation 9b343fba902eb0d2… (all of the seat's roots in one cut). By AI agents, Wed Nov 11 2026. No macro, syntax, notation, axiom, sorry.
-/
import Derived.Test.YthpjogfclklefaaDoorChecked
import GoSem.Claim
import GoSem.ClaimJoined
import GoSem.ClaimMapViews
import Derived.JoinedTies
import Derived.KernelRfl
namespace Go.Proofs.YthpjogfclklefaaDoor
/- THE CELL 'sum', in the pinned program and in every row, IS THE sha256 OF THE DUMP (.gsa) THAT YthpjogfclklefaaDoorProg.lean LOADS. Nothing in Lean hashes anything: it is a label: what it is worth is what the hold of that sum in a sandbox is worth. -/
noncomputable def Tryd.pinned : Pinned := { name := "ythpjogfclklefaadoor", sum := "9b343fba902eb0d22e85056a2551736121d6da2bd93548b2e18f9f0891c105a7", checked := Tryd.checked }
namespace Rows
def none {H : Type} : Left H := { results := [], args := [] }

/- WHAT THE LISTED PACKAGE-LEVEL VARIABLES READ AS WHEN THE CALL BEGINS. Each datum BY PROGRAM (the guide's laid-datum.mjs) off the statement by which the dump's own 'gosem.cut.vars' lays the variable. In a bare row this is a premise. The card (YthpjogfclklefaaDoorCards.lean) ties it to the program's text. -/
def laid_missive_date_lengths {H : Type} : DataW H := .agg [.lit (.int .i64 31), .lit (.int .i64 28), .lit (.int .i64 31), .lit (.int .i64 30), .lit (.int .i64 31), .lit (.int .i64 30), .lit (.int .i64 31), .lit (.int .i64 31), .lit (.int .i64 30), .lit (.int .i64 31), .lit (.int .i64 30), .lit (.int .i64 31)]

/-- 'missivelaw19.BoxDoes': WHATEVER THE INPUT: true; the input reads as it did. -/
def boxDoesSpec : ChangeSpec := { name := "boxDoes", fn := fun _ => fun
  | [d1, d2, d3] => { results := [.lit (.bool true)], args := [d1, d2, d3] }
  | _ => none }
def boxDoesRow : OpenClaim := { program := "ythpjogfclklefaadoor", sum := "9b343fba902eb0d22e85056a2551736121d6da2bd93548b2e18f9f0891c105a7", func := "missive/missivelaw19.BoxDoes", spec := "boxDoes", inPlace := ["internal/abi.NoEscape"], unfollowed := true, recurses := true, named := ["missive/date.lengths"], apart := false, laid := [("missive/date.lengths", laid_missive_date_lengths)] }
def BoxDoesSaid : Prop := boxDoesRow.holds Tryd.pinned (OpenSpec.ofChange boxDoesSpec)

/-- ITS FALSE NEIGHBOUR: 'it returns false'. Refute it at one input. -/
def boxDoesWrong : ChangeSpec := { name := "boxDoes", fn := fun _ => fun
  | [d1, d2, d3] => { results := [.lit (.bool false)], args := [d1, d2, d3] }
  | _ => none }
def BoxDoesWrongFalsely : Prop := boxDoesRow.holds Tryd.pinned (OpenSpec.ofChange boxDoesWrong)

/-- 'missivelaw19.BoxAsks': WHATEVER THE INPUT: true; the input reads as it did. -/
def boxAsksSpec : ChangeSpec := { name := "boxAsks", fn := fun _ => fun
  | [d1, d2] => { results := [.lit (.bool true)], args := [d1, d2] }
  | _ => none }
def boxAsksRow : OpenClaim := { program := "ythpjogfclklefaadoor", sum := "9b343fba902eb0d22e85056a2551736121d6da2bd93548b2e18f9f0891c105a7", func := "missive/missivelaw19.BoxAsks", spec := "boxAsks", inPlace := ["internal/abi.NoEscape"], unfollowed := true, recurses := true, named := ["missive/date.lengths"], apart := false, laid := [("missive/date.lengths", laid_missive_date_lengths)] }
def BoxAsksSaid : Prop := boxAsksRow.holds Tryd.pinned (OpenSpec.ofChange boxAsksSpec)

/-- ITS FALSE NEIGHBOUR: 'it returns false'. Refute it at one input. -/
def boxAsksWrong : ChangeSpec := { name := "boxAsks", fn := fun _ => fun
  | [d1, d2] => { results := [.lit (.bool false)], args := [d1, d2] }
  | _ => none }
def BoxAsksWrongFalsely : Prop := boxAsksRow.holds Tryd.pinned (OpenSpec.ofChange boxAsksWrong)

/- THE SECOND FORM. 'bulk': how many values and letters a reading holds, each counted each time it is reached (what is shared counts as often as it is met; a slice's spare places count too). A statement '..UptoSaid' is the law's where the arguments, and the package variables that the reading takes, are together of bulk at most 1048576: NARROWER than '..Said'. Prove '..Said' where nothing that the law and all that it calls make is longer than what came in: it says more and counts as full. Else prove '..UptoSaid'. A law counts once. -/
mutual
def uptoBulk {H : Type} : DataW H → Nat
  | .lit (.string bytes) => bytes.length + 1
  | .lit _ => 1
  | .nil => 1
  | .ptr d => uptoBulk d + 1
  | .slice elems spare => uptoBulkAll elems + uptoBulkAll spare + 1
  | .agg parts => uptoBulkAll parts + 1
  | .iface _ d => uptoBulk d + 1
  | .map entries => uptoBulkEntries entries + 1
  | .held _ => 1
def uptoBulkAll {H : Type} : List (DataW H) → Nat
  | [] => 0
  | d :: r => uptoBulk d + uptoBulkAll r
def uptoBulkEntries {H : Type} : List (Lit × DataW H) → Nat
  | [] => 0
  | x :: r => uptoBulkEntry x + uptoBulkEntries r
def uptoBulkEntry {H : Type} : Lit × DataW H → Nat
  | (.string bytes, d) => bytes.length + uptoBulk d + 1
  | (_, d) => uptoBulk d + 1
 end
def uptoSmall : (H : Type) → List (DataW H) → Bool := fun _ ds => decide (uptoBulkAll ds ≤ 1048576)
def OpenSpec.upto (s : _root_.Go.ChangeSpec) : _root_.Go.OpenSpec := { _root_.Go.OpenSpec.ofChange s with cond := some uptoSmall }

/-- 'missivelaw19.BoxDoes', WHERE WHAT IT READS IS OF BULK AT MOST 1048576: true; the input reads as it did. -/
def boxDoesUptoRow : OpenClaim := { program := "ythpjogfclklefaadoor", sum := "9b343fba902eb0d22e85056a2551736121d6da2bd93548b2e18f9f0891c105a7", func := "missive/missivelaw19.BoxDoes", spec := "boxDoes", inPlace := ["internal/abi.NoEscape"], unfollowed := true, recurses := true, named := ["missive/date.lengths"], apart := false, laid := [("missive/date.lengths", laid_missive_date_lengths)], narrowed := true }
def BoxDoesUptoSaid : Prop := boxDoesUptoRow.holds Tryd.pinned (OpenSpec.upto boxDoesSpec)

/-- 'missivelaw19.BoxAsks', WHERE WHAT IT READS IS OF BULK AT MOST 1048576: true; the input reads as it did. -/
def boxAsksUptoRow : OpenClaim := { program := "ythpjogfclklefaadoor", sum := "9b343fba902eb0d22e85056a2551736121d6da2bd93548b2e18f9f0891c105a7", func := "missive/missivelaw19.BoxAsks", spec := "boxAsks", inPlace := ["internal/abi.NoEscape"], unfollowed := true, recurses := true, named := ["missive/date.lengths"], apart := false, laid := [("missive/date.lengths", laid_missive_date_lengths)], narrowed := true }
def BoxAsksUptoSaid : Prop := boxAsksUptoRow.holds Tryd.pinned (OpenSpec.upto boxAsksSpec)

end Rows
end Go.Proofs.YthpjogfclklefaaDoor
