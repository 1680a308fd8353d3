/-
  NARROWER THAN 'FOR EVERY INPUT', by the rows' own cells (each row's printed sentence says how): RecFrames: laid · RecMany: laid · RecBack: laid · RecTorn: laid · RecTurned: laid · TopFramed: laid.
  DERIVED. THE GIVEN ROWS OF THIS SEAT. 6 by the template 'for every input the law returns true; each argument reads behind the call as it read before'; 0 by the template 'total and deterministic' (their statements: YtekcbkaanlngdabDoorTotals.lean).
  GIVEN WITH THE SEED: the statements are not yours to turn. If you find one false, say at which input.
  Laid BY PROGRAM, IN A SANDBOX (cutbox-rows.mjs): the forced cells as the released guide's own fill.sh prints them over the translation 02ec91f9d949008b… (all of the seat's roots in one cut). By AI agents, Wed Nov 11 2026. No macro, syntax, notation, axiom, sorry.
-/
import Derived.Test.YtekcbkaanlngdabDoorChecked
import GoSem.Claim
import GoSem.ClaimJoined
import GoSem.ClaimMapViews
import Derived.JoinedTies
import Derived.KernelRfl
namespace Go.Proofs.YtekcbkaanlngdabDoor
/- THE CELL 'sum', in the pinned program and in every row, IS THE sha256 OF THE DUMP (.gsa) THAT YtekcbkaanlngdabDoorProg.lean LOADS. Nothing in Lean hashes anything: it is a label: what it is worth is what the hold of that sum in a sandbox is worth. -/
noncomputable def Tryd.pinned : Pinned := { name := "ytekcbkaanlngdabdoor", sum := "02ec91f9d949008b9ff330a3974bd4f8fa5f9ddc8da7bfdd4e646c54bb9ffe09", checked := Tryd.checked }
namespace Rows
def none {H : Type} : Left H := { results := [], args := [] }

/- WHAT THE LISTED PACKAGE-LEVEL VARIABLES READ AS WHEN THE CALL BEGINS. Each datum BY PROGRAM (the guide's laid-datum.mjs) off the statement by which the dump's own 'gosem.cut.vars' lays the variable. In a bare row this is a premise. The card (YtekcbkaanlngdabDoorCards.lean) ties it to the program's text. -/
def laid_missive_rec_halves {H : Type} : DataW H := .agg [.lit (.int .u32 0), .lit (.int .u32 498536548), .lit (.int .u32 997073096), .lit (.int .u32 651767980), .lit (.int .u32 1994146192), .lit (.int .u32 1802195444), .lit (.int .u32 1303535960), .lit (.int .u32 1342533948), .lit (.int .u32 3988292384), .lit (.int .u32 4027552580), .lit (.int .u32 3604390888), .lit (.int .u32 3412177804), .lit (.int .u32 2607071920), .lit (.int .u32 2262029012), .lit (.int .u32 2685067896), .lit (.int .u32 3183342108)]

/-- 'missivelaw02.RecFrames': WHATEVER THE INPUT: true; the input reads as it did. -/
def recFramesSpec : ChangeSpec := { name := "recFrames", fn := fun _ => fun
  | [d1, d2] => { results := [.lit (.bool true)], args := [d1, d2] }
  | _ => none }
def recFramesRow : OpenClaim := { program := "ytekcbkaanlngdabdoor", sum := "02ec91f9d949008b9ff330a3974bd4f8fa5f9ddc8da7bfdd4e646c54bb9ffe09", func := "missive/missivelaw02.RecFrames", spec := "recFrames", inPlace := ["internal/abi.NoEscape"], named := ["missive/rec.halves"], apart := false, laid := [("missive/rec.halves", laid_missive_rec_halves)] }
def RecFramesSaid : Prop := recFramesRow.holds Tryd.pinned (OpenSpec.ofChange recFramesSpec)

/-- ITS FALSE NEIGHBOUR: 'it returns false'. Refute it at one input. -/
def recFramesWrong : ChangeSpec := { name := "recFrames", fn := fun _ => fun
  | [d1, d2] => { results := [.lit (.bool false)], args := [d1, d2] }
  | _ => none }
def RecFramesWrongFalsely : Prop := recFramesRow.holds Tryd.pinned (OpenSpec.ofChange recFramesWrong)

/-- 'missivelaw02.RecMany': WHATEVER THE INPUT: true; the input reads as it did. -/
def recManySpec : ChangeSpec := { name := "recMany", fn := fun _ => fun
  | [d1, d2] => { results := [.lit (.bool true)], args := [d1, d2] }
  | _ => none }
def recManyRow : OpenClaim := { program := "ytekcbkaanlngdabdoor", sum := "02ec91f9d949008b9ff330a3974bd4f8fa5f9ddc8da7bfdd4e646c54bb9ffe09", func := "missive/missivelaw02.RecMany", spec := "recMany", inPlace := ["internal/abi.NoEscape"], named := ["missive/rec.halves"], apart := false, laid := [("missive/rec.halves", laid_missive_rec_halves)] }
def RecManySaid : Prop := recManyRow.holds Tryd.pinned (OpenSpec.ofChange recManySpec)

/-- ITS FALSE NEIGHBOUR: 'it returns false'. Refute it at one input. -/
def recManyWrong : ChangeSpec := { name := "recMany", fn := fun _ => fun
  | [d1, d2] => { results := [.lit (.bool false)], args := [d1, d2] }
  | _ => none }
def RecManyWrongFalsely : Prop := recManyRow.holds Tryd.pinned (OpenSpec.ofChange recManyWrong)

/-- 'missivelaw02.RecBack': WHATEVER THE INPUT: true; the input reads as it did. -/
def recBackSpec : ChangeSpec := { name := "recBack", fn := fun _ => fun
  | [d1, d2] => { results := [.lit (.bool true)], args := [d1, d2] }
  | _ => none }
def recBackRow : OpenClaim := { program := "ytekcbkaanlngdabdoor", sum := "02ec91f9d949008b9ff330a3974bd4f8fa5f9ddc8da7bfdd4e646c54bb9ffe09", func := "missive/missivelaw02.RecBack", spec := "recBack", inPlace := ["internal/abi.NoEscape"], named := ["missive/rec.halves"], apart := false, laid := [("missive/rec.halves", laid_missive_rec_halves)] }
def RecBackSaid : Prop := recBackRow.holds Tryd.pinned (OpenSpec.ofChange recBackSpec)

/-- ITS FALSE NEIGHBOUR: 'it returns false'. Refute it at one input. -/
def recBackWrong : ChangeSpec := { name := "recBack", fn := fun _ => fun
  | [d1, d2] => { results := [.lit (.bool false)], args := [d1, d2] }
  | _ => none }
def RecBackWrongFalsely : Prop := recBackRow.holds Tryd.pinned (OpenSpec.ofChange recBackWrong)

/-- 'missivelaw02.RecTorn': WHATEVER THE INPUT: true; the input reads as it did. -/
def recTornSpec : ChangeSpec := { name := "recTorn", fn := fun _ => fun
  | [d1, d2] => { results := [.lit (.bool true)], args := [d1, d2] }
  | _ => none }
def recTornRow : OpenClaim := { program := "ytekcbkaanlngdabdoor", sum := "02ec91f9d949008b9ff330a3974bd4f8fa5f9ddc8da7bfdd4e646c54bb9ffe09", func := "missive/missivelaw02.RecTorn", spec := "recTorn", inPlace := ["internal/abi.NoEscape"], named := ["missive/rec.halves"], apart := false, laid := [("missive/rec.halves", laid_missive_rec_halves)] }
def RecTornSaid : Prop := recTornRow.holds Tryd.pinned (OpenSpec.ofChange recTornSpec)

/-- ITS FALSE NEIGHBOUR: 'it returns false'. Refute it at one input. -/
def recTornWrong : ChangeSpec := { name := "recTorn", fn := fun _ => fun
  | [d1, d2] => { results := [.lit (.bool false)], args := [d1, d2] }
  | _ => none }
def RecTornWrongFalsely : Prop := recTornRow.holds Tryd.pinned (OpenSpec.ofChange recTornWrong)

/-- 'missivelaw02.RecTurned': WHATEVER THE INPUT: true; the input reads as it did. -/
def recTurnedSpec : ChangeSpec := { name := "recTurned", fn := fun _ => fun
  | [d1, d2, d3] => { results := [.lit (.bool true)], args := [d1, d2, d3] }
  | _ => none }
def recTurnedRow : OpenClaim := { program := "ytekcbkaanlngdabdoor", sum := "02ec91f9d949008b9ff330a3974bd4f8fa5f9ddc8da7bfdd4e646c54bb9ffe09", func := "missive/missivelaw02.RecTurned", spec := "recTurned", inPlace := ["internal/abi.NoEscape"], named := ["missive/rec.halves"], apart := false, laid := [("missive/rec.halves", laid_missive_rec_halves)] }
def RecTurnedSaid : Prop := recTurnedRow.holds Tryd.pinned (OpenSpec.ofChange recTurnedSpec)

/-- ITS FALSE NEIGHBOUR: 'it returns false'. Refute it at one input. -/
def recTurnedWrong : ChangeSpec := { name := "recTurned", fn := fun _ => fun
  | [d1, d2, d3] => { results := [.lit (.bool false)], args := [d1, d2, d3] }
  | _ => none }
def RecTurnedWrongFalsely : Prop := recTurnedRow.holds Tryd.pinned (OpenSpec.ofChange recTurnedWrong)

/-- 'missivetop.TopFramed': WHATEVER THE INPUT: true; the input reads as it did. -/
def topFramedSpec : ChangeSpec := { name := "topFramed", fn := fun _ => fun
  | [d1, d2, d3] => { results := [.lit (.bool true)], args := [d1, d2, d3] }
  | _ => none }
def topFramedRow : OpenClaim := { program := "ytekcbkaanlngdabdoor", sum := "02ec91f9d949008b9ff330a3974bd4f8fa5f9ddc8da7bfdd4e646c54bb9ffe09", func := "missive/missivetop.TopFramed", spec := "topFramed", inPlace := ["internal/abi.NoEscape"], named := ["missive/rec.halves"], apart := false, laid := [("missive/rec.halves", laid_missive_rec_halves)] }
def TopFramedSaid : Prop := topFramedRow.holds Tryd.pinned (OpenSpec.ofChange topFramedSpec)

/-- ITS FALSE NEIGHBOUR: 'it returns false'. Refute it at one input. -/
def topFramedWrong : ChangeSpec := { name := "topFramed", fn := fun _ => fun
  | [d1, d2, d3] => { results := [.lit (.bool false)], args := [d1, d2, d3] }
  | _ => none }
def TopFramedWrongFalsely : Prop := topFramedRow.holds Tryd.pinned (OpenSpec.ofChange topFramedWrong)

/- THE SECOND FORM. 'bulk': how many values and letters a reading holds, each counted each time it is reached (what is shared counts as often as it is met; a slice's spare places count too). A statement '..UptoSaid' is the law's where the arguments, and the package variables that the reading takes, are together of bulk at most 1048576: NARROWER than '..Said'. Prove '..Said' where nothing that the law and all that it calls make is longer than what came in: it says more and counts as full. Else prove '..UptoSaid'. A law counts once. -/
mutual
def uptoBulk {H : Type} : DataW H → Nat
  | .lit (.string bytes) => bytes.length + 1
  | .lit _ => 1
  | .nil => 1
  | .ptr d => uptoBulk d + 1
  | .slice elems spare => uptoBulkAll elems + uptoBulkAll spare + 1
  | .agg parts => uptoBulkAll parts + 1
  | .iface _ d => uptoBulk d + 1
  | .map entries => uptoBulkEntries entries + 1
  | .held _ => 1
def uptoBulkAll {H : Type} : List (DataW H) → Nat
  | [] => 0
  | d :: r => uptoBulk d + uptoBulkAll r
def uptoBulkEntries {H : Type} : List (Lit × DataW H) → Nat
  | [] => 0
  | x :: r => uptoBulkEntry x + uptoBulkEntries r
def uptoBulkEntry {H : Type} : Lit × DataW H → Nat
  | (.string bytes, d) => bytes.length + uptoBulk d + 1
  | (_, d) => uptoBulk d + 1
 end
def uptoSmall : (H : Type) → List (DataW H) → Bool := fun _ ds => decide (uptoBulkAll ds ≤ 1048576)
def OpenSpec.upto (s : _root_.Go.ChangeSpec) : _root_.Go.OpenSpec := { _root_.Go.OpenSpec.ofChange s with cond := some uptoSmall }

/-- 'missivelaw02.RecFrames', WHERE WHAT IT READS IS OF BULK AT MOST 1048576: true; the input reads as it did. -/
def recFramesUptoRow : OpenClaim := { program := "ytekcbkaanlngdabdoor", sum := "02ec91f9d949008b9ff330a3974bd4f8fa5f9ddc8da7bfdd4e646c54bb9ffe09", func := "missive/missivelaw02.RecFrames", spec := "recFrames", inPlace := ["internal/abi.NoEscape"], named := ["missive/rec.halves"], apart := false, laid := [("missive/rec.halves", laid_missive_rec_halves)], narrowed := true }
def RecFramesUptoSaid : Prop := recFramesUptoRow.holds Tryd.pinned (OpenSpec.upto recFramesSpec)

/-- 'missivelaw02.RecMany', WHERE WHAT IT READS IS OF BULK AT MOST 1048576: true; the input reads as it did. -/
def recManyUptoRow : OpenClaim := { program := "ytekcbkaanlngdabdoor", sum := "02ec91f9d949008b9ff330a3974bd4f8fa5f9ddc8da7bfdd4e646c54bb9ffe09", func := "missive/missivelaw02.RecMany", spec := "recMany", inPlace := ["internal/abi.NoEscape"], named := ["missive/rec.halves"], apart := false, laid := [("missive/rec.halves", laid_missive_rec_halves)], narrowed := true }
def RecManyUptoSaid : Prop := recManyUptoRow.holds Tryd.pinned (OpenSpec.upto recManySpec)

/-- 'missivelaw02.RecBack', WHERE WHAT IT READS IS OF BULK AT MOST 1048576: true; the input reads as it did. -/
def recBackUptoRow : OpenClaim := { program := "ytekcbkaanlngdabdoor", sum := "02ec91f9d949008b9ff330a3974bd4f8fa5f9ddc8da7bfdd4e646c54bb9ffe09", func := "missive/missivelaw02.RecBack", spec := "recBack", inPlace := ["internal/abi.NoEscape"], named := ["missive/rec.halves"], apart := false, laid := [("missive/rec.halves", laid_missive_rec_halves)], narrowed := true }
def RecBackUptoSaid : Prop := recBackUptoRow.holds Tryd.pinned (OpenSpec.upto recBackSpec)

/-- 'missivelaw02.RecTorn', WHERE WHAT IT READS IS OF BULK AT MOST 1048576: true; the input reads as it did. -/
def recTornUptoRow : OpenClaim := { program := "ytekcbkaanlngdabdoor", sum := "02ec91f9d949008b9ff330a3974bd4f8fa5f9ddc8da7bfdd4e646c54bb9ffe09", func := "missive/missivelaw02.RecTorn", spec := "recTorn", inPlace := ["internal/abi.NoEscape"], named := ["missive/rec.halves"], apart := false, laid := [("missive/rec.halves", laid_missive_rec_halves)], narrowed := true }
def RecTornUptoSaid : Prop := recTornUptoRow.holds Tryd.pinned (OpenSpec.upto recTornSpec)

/-- 'missivelaw02.RecTurned', WHERE WHAT IT READS IS OF BULK AT MOST 1048576: true; the input reads as it did. -/
def recTurnedUptoRow : OpenClaim := { program := "ytekcbkaanlngdabdoor", sum := "02ec91f9d949008b9ff330a3974bd4f8fa5f9ddc8da7bfdd4e646c54bb9ffe09", func := "missive/missivelaw02.RecTurned", spec := "recTurned", inPlace := ["internal/abi.NoEscape"], named := ["missive/rec.halves"], apart := false, laid := [("missive/rec.halves", laid_missive_rec_halves)], narrowed := true }
def RecTurnedUptoSaid : Prop := recTurnedUptoRow.holds Tryd.pinned (OpenSpec.upto recTurnedSpec)

/-- 'missivetop.TopFramed', WHERE WHAT IT READS IS OF BULK AT MOST 1048576: true; the input reads as it did. -/
def topFramedUptoRow : OpenClaim := { program := "ytekcbkaanlngdabdoor", sum := "02ec91f9d949008b9ff330a3974bd4f8fa5f9ddc8da7bfdd4e646c54bb9ffe09", func := "missive/missivetop.TopFramed", spec := "topFramed", inPlace := ["internal/abi.NoEscape"], named := ["missive/rec.halves"], apart := false, laid := [("missive/rec.halves", laid_missive_rec_halves)], narrowed := true }
def TopFramedUptoSaid : Prop := topFramedUptoRow.holds Tryd.pinned (OpenSpec.upto topFramedSpec)

end Rows
end Go.Proofs.YtekcbkaanlngdabDoor
