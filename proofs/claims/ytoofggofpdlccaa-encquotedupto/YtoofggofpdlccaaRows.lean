/-
  No cell of these rows narrows 'for every input' (looked for: loops, veiled, ifaces, maps, wideKeys, modest, calm, conditions, laid).
  DERIVED. THE GIVEN ROWS OF THIS SEAT. 5 by the template 'for every input the law returns true; each argument reads behind the call as it read before'; 0 by the template 'total and deterministic' (their statements: YtoofggofpdlccaaTotals.lean).
  GIVEN WITH THE SEED: the statements are not yours to turn. If you find one false, say at which input.
  Laid BY PROGRAM, IN A SANDBOX (cutbox-rows.mjs): the forced cells as the released guide's own fill.sh prints them over the translation ed0faf2dda58a84e… (all of the seat's roots in one cut). By AI agents, Wed Nov 11 2026. No macro, syntax, notation, axiom, sorry.
-/
import Derived.Test.YtoofggofpdlccaaChecked
import GoSem.Claim
import GoSem.ClaimJoined
import GoSem.ClaimMapViews
import Derived.JoinedTies
import Derived.KernelRfl
namespace Go.Proofs.Ytoofggofpdlccaa
/- THE CELL 'sum', in the pinned program and in every row, IS THE sha256 OF THE DUMP (.gsa) THAT YtoofggofpdlccaaProg.lean LOADS. Nothing in Lean hashes anything: it is a label: what it is worth is what the hold of that sum in a sandbox is worth. -/
noncomputable def Try.pinned : Pinned := { name := "ytoofggofpdlccaa", sum := "ed0faf2dda58a84e5fdd973850b9393c075c84ce301448572e05aee4db54fa60", checked := Try.checked }
namespace Rows
def none {H : Type} : Left H := { results := [], args := [] }

/-- 'missivelaw05.EncBase': WHATEVER THE INPUT: true; the input reads as it did. -/
def encBaseSpec : ChangeSpec := { name := "encBase", fn := fun _ => fun
  | [d1, d2] => { results := [.lit (.bool true)], args := [d1, d2] }
  | _ => none }
def encBaseRow : OpenClaim := { program := "ytoofggofpdlccaa", sum := "ed0faf2dda58a84e5fdd973850b9393c075c84ce301448572e05aee4db54fa60", func := "missive/missivelaw05.EncBase", spec := "encBase", inPlace := ["internal/abi.NoEscape", "internal/bytealg.MakeNoZero"], apart := false }
def EncBaseSaid : Prop := encBaseRow.holds Try.pinned (OpenSpec.ofChange encBaseSpec)

/-- ITS FALSE NEIGHBOUR: 'it returns false'. Refute it at one input. -/
def encBaseWrong : ChangeSpec := { name := "encBase", fn := fun _ => fun
  | [d1, d2] => { results := [.lit (.bool false)], args := [d1, d2] }
  | _ => none }
def EncBaseWrongFalsely : Prop := encBaseRow.holds Try.pinned (OpenSpec.ofChange encBaseWrong)

/-- 'missivelaw05.EncQuoted': WHATEVER THE INPUT: true; the input reads as it did. -/
def encQuotedSpec : ChangeSpec := { name := "encQuoted", fn := fun _ => fun
  | [d1, d2] => { results := [.lit (.bool true)], args := [d1, d2] }
  | _ => none }
def encQuotedRow : OpenClaim := { program := "ytoofggofpdlccaa", sum := "ed0faf2dda58a84e5fdd973850b9393c075c84ce301448572e05aee4db54fa60", func := "missive/missivelaw05.EncQuoted", spec := "encQuoted", inPlace := ["internal/abi.NoEscape", "internal/bytealg.MakeNoZero"], apart := false }
def EncQuotedSaid : Prop := encQuotedRow.holds Try.pinned (OpenSpec.ofChange encQuotedSpec)

/-- ITS FALSE NEIGHBOUR: 'it returns false'. Refute it at one input. -/
def encQuotedWrong : ChangeSpec := { name := "encQuoted", fn := fun _ => fun
  | [d1, d2] => { results := [.lit (.bool false)], args := [d1, d2] }
  | _ => none }
def EncQuotedWrongFalsely : Prop := encQuotedRow.holds Try.pinned (OpenSpec.ofChange encQuotedWrong)

/-- 'missivelaw05.EncBack': WHATEVER THE INPUT: true; the input reads as it did. -/
def encBackSpec : ChangeSpec := { name := "encBack", fn := fun _ => fun
  | [d] => { results := [.lit (.bool true)], args := [d] }
  | _ => none }
def encBackRow : OpenClaim := { program := "ytoofggofpdlccaa", sum := "ed0faf2dda58a84e5fdd973850b9393c075c84ce301448572e05aee4db54fa60", func := "missive/missivelaw05.EncBack", spec := "encBack", inPlace := ["internal/abi.NoEscape", "internal/bytealg.MakeNoZero"], apart := false }
def EncBackSaid : Prop := encBackRow.holds Try.pinned (OpenSpec.ofChange encBackSpec)

/-- ITS FALSE NEIGHBOUR: 'it returns false'. Refute it at one input. -/
def encBackWrong : ChangeSpec := { name := "encBack", fn := fun _ => fun
  | [d] => { results := [.lit (.bool false)], args := [d] }
  | _ => none }
def EncBackWrongFalsely : Prop := encBackRow.holds Try.pinned (OpenSpec.ofChange encBackWrong)

/-- 'missivelaw05.EncFewer': WHATEVER THE INPUT: true; the input reads as it did. -/
def encFewerSpec : ChangeSpec := { name := "encFewer", fn := fun _ => fun
  | [d] => { results := [.lit (.bool true)], args := [d] }
  | _ => none }
def encFewerRow : OpenClaim := { program := "ytoofggofpdlccaa", sum := "ed0faf2dda58a84e5fdd973850b9393c075c84ce301448572e05aee4db54fa60", func := "missive/missivelaw05.EncFewer", spec := "encFewer", inPlace := ["internal/abi.NoEscape", "internal/bytealg.MakeNoZero"], apart := false }
def EncFewerSaid : Prop := encFewerRow.holds Try.pinned (OpenSpec.ofChange encFewerSpec)

/-- ITS FALSE NEIGHBOUR: 'it returns false'. Refute it at one input. -/
def encFewerWrong : ChangeSpec := { name := "encFewer", fn := fun _ => fun
  | [d] => { results := [.lit (.bool false)], args := [d] }
  | _ => none }
def EncFewerWrongFalsely : Prop := encFewerRow.holds Try.pinned (OpenSpec.ofChange encFewerWrong)

/-- 'missivelaw05.EncParts': WHATEVER THE INPUT: true; the input reads as it did. -/
def encPartsSpec : ChangeSpec := { name := "encParts", fn := fun _ => fun
  | [d1, d2] => { results := [.lit (.bool true)], args := [d1, d2] }
  | _ => none }
def encPartsRow : OpenClaim := { program := "ytoofggofpdlccaa", sum := "ed0faf2dda58a84e5fdd973850b9393c075c84ce301448572e05aee4db54fa60", func := "missive/missivelaw05.EncParts", spec := "encParts", inPlace := ["internal/abi.NoEscape", "internal/bytealg.MakeNoZero"], apart := false }
def EncPartsSaid : Prop := encPartsRow.holds Try.pinned (OpenSpec.ofChange encPartsSpec)

/-- ITS FALSE NEIGHBOUR: 'it returns false'. Refute it at one input. -/
def encPartsWrong : ChangeSpec := { name := "encParts", fn := fun _ => fun
  | [d1, d2] => { results := [.lit (.bool false)], args := [d1, d2] }
  | _ => none }
def EncPartsWrongFalsely : Prop := encPartsRow.holds Try.pinned (OpenSpec.ofChange encPartsWrong)

/- THE SECOND FORM. 'bulk': how many values and letters a reading holds, each counted each time it is reached (what is shared counts as often as it is met; a slice's spare places count too). A statement '..UptoSaid' is the law's where the arguments, and the package variables that the reading takes, are together of bulk at most 1048576: NARROWER than '..Said'. Prove '..Said' where nothing that the law and all that it calls make is longer than what came in: it says more and counts as full. Else prove '..UptoSaid'. A law counts once. -/
mutual
def uptoBulk {H : Type} : DataW H → Nat
  | .lit (.string bytes) => bytes.length + 1
  | .lit _ => 1
  | .nil => 1
  | .ptr d => uptoBulk d + 1
  | .slice elems spare => uptoBulkAll elems + uptoBulkAll spare + 1
  | .agg parts => uptoBulkAll parts + 1
  | .iface _ d => uptoBulk d + 1
  | .map entries => uptoBulkEntries entries + 1
  | .held _ => 1
def uptoBulkAll {H : Type} : List (DataW H) → Nat
  | [] => 0
  | d :: r => uptoBulk d + uptoBulkAll r
def uptoBulkEntries {H : Type} : List (Lit × DataW H) → Nat
  | [] => 0
  | x :: r => uptoBulkEntry x + uptoBulkEntries r
def uptoBulkEntry {H : Type} : Lit × DataW H → Nat
  | (.string bytes, d) => bytes.length + uptoBulk d + 1
  | (_, d) => uptoBulk d + 1
 end
def uptoSmall : (H : Type) → List (DataW H) → Bool := fun _ ds => decide (uptoBulkAll ds ≤ 1048576)
def OpenSpec.upto (s : _root_.Go.ChangeSpec) : _root_.Go.OpenSpec := { _root_.Go.OpenSpec.ofChange s with cond := some uptoSmall }

/-- 'missivelaw05.EncBase', WHERE WHAT IT READS IS OF BULK AT MOST 1048576: true; the input reads as it did. -/
def encBaseUptoRow : OpenClaim := { program := "ytoofggofpdlccaa", sum := "ed0faf2dda58a84e5fdd973850b9393c075c84ce301448572e05aee4db54fa60", func := "missive/missivelaw05.EncBase", spec := "encBase", inPlace := ["internal/abi.NoEscape", "internal/bytealg.MakeNoZero"], apart := false, narrowed := true }
def EncBaseUptoSaid : Prop := encBaseUptoRow.holds Try.pinned (OpenSpec.upto encBaseSpec)

/-- 'missivelaw05.EncQuoted', WHERE WHAT IT READS IS OF BULK AT MOST 1048576: true; the input reads as it did. -/
def encQuotedUptoRow : OpenClaim := { program := "ytoofggofpdlccaa", sum := "ed0faf2dda58a84e5fdd973850b9393c075c84ce301448572e05aee4db54fa60", func := "missive/missivelaw05.EncQuoted", spec := "encQuoted", inPlace := ["internal/abi.NoEscape", "internal/bytealg.MakeNoZero"], apart := false, narrowed := true }
def EncQuotedUptoSaid : Prop := encQuotedUptoRow.holds Try.pinned (OpenSpec.upto encQuotedSpec)

/-- 'missivelaw05.EncBack', WHERE WHAT IT READS IS OF BULK AT MOST 1048576: true; the input reads as it did. -/
def encBackUptoRow : OpenClaim := { program := "ytoofggofpdlccaa", sum := "ed0faf2dda58a84e5fdd973850b9393c075c84ce301448572e05aee4db54fa60", func := "missive/missivelaw05.EncBack", spec := "encBack", inPlace := ["internal/abi.NoEscape", "internal/bytealg.MakeNoZero"], apart := false, narrowed := true }
def EncBackUptoSaid : Prop := encBackUptoRow.holds Try.pinned (OpenSpec.upto encBackSpec)

/-- 'missivelaw05.EncFewer', WHERE WHAT IT READS IS OF BULK AT MOST 1048576: true; the input reads as it did. -/
def encFewerUptoRow : OpenClaim := { program := "ytoofggofpdlccaa", sum := "ed0faf2dda58a84e5fdd973850b9393c075c84ce301448572e05aee4db54fa60", func := "missive/missivelaw05.EncFewer", spec := "encFewer", inPlace := ["internal/abi.NoEscape", "internal/bytealg.MakeNoZero"], apart := false, narrowed := true }
def EncFewerUptoSaid : Prop := encFewerUptoRow.holds Try.pinned (OpenSpec.upto encFewerSpec)

/-- 'missivelaw05.EncParts', WHERE WHAT IT READS IS OF BULK AT MOST 1048576: true; the input reads as it did. -/
def encPartsUptoRow : OpenClaim := { program := "ytoofggofpdlccaa", sum := "ed0faf2dda58a84e5fdd973850b9393c075c84ce301448572e05aee4db54fa60", func := "missive/missivelaw05.EncParts", spec := "encParts", inPlace := ["internal/abi.NoEscape", "internal/bytealg.MakeNoZero"], apart := false, narrowed := true }
def EncPartsUptoSaid : Prop := encPartsUptoRow.holds Try.pinned (OpenSpec.upto encPartsSpec)

end Rows
end Go.Proofs.Ytoofggofpdlccaa
