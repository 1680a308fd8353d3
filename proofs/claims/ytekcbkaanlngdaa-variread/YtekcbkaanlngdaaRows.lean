/-
  No cell of these rows narrows 'for every input' (looked for: loops, veiled, ifaces, maps, wideKeys, modest, calm, conditions, laid).
  DERIVED. THE GIVEN ROWS OF THIS SEAT. 6 by the template 'for every input the law returns true; each argument reads behind the call as it read before'; 0 by the template 'total and deterministic' (their statements: YtekcbkaanlngdaaTotals.lean).
  GIVEN WITH THE SEED: the statements are not yours to turn. If you find one false, say at which input.
  Laid BY PROGRAM, IN A SANDBOX (cutbox-rows.mjs): the forced cells as the released guide's own fill.sh prints them over the translation 5efba2e15d5213d1… (all of the seat's roots in one cut). By AI agents, Wed Nov 11 2026. No macro, syntax, notation, axiom, sorry.
-/
import Derived.Test.YtekcbkaanlngdaaChecked
import GoSem.Claim
import GoSem.ClaimJoined
import GoSem.ClaimMapViews
import Derived.JoinedTies
import Derived.KernelRfl
namespace Go.Proofs.Ytekcbkaanlngdaa
/- THE CELL 'sum', in the pinned program and in every row, IS THE sha256 OF THE DUMP (.gsa) THAT YtekcbkaanlngdaaProg.lean LOADS. Nothing in Lean hashes anything: it is a label: what it is worth is what the hold of that sum in a sandbox is worth. -/
noncomputable def Try.pinned : Pinned := { name := "ytekcbkaanlngdaa", sum := "5efba2e15d5213d184e81122aa17b7486035201219977286b42fbbcc83cfe4a3", checked := Try.checked }
namespace Rows
def none {H : Type} : Left H := { results := [], args := [] }

/-- 'missivelaw01.VariNumbers': WHATEVER THE INPUT: true; the input reads as it did. -/
def variNumbersSpec : ChangeSpec := { name := "variNumbers", fn := fun _ => fun
  | [d1, d2] => { results := [.lit (.bool true)], args := [d1, d2] }
  | _ => none }
def variNumbersRow : OpenClaim := { program := "ytekcbkaanlngdaa", sum := "5efba2e15d5213d184e81122aa17b7486035201219977286b42fbbcc83cfe4a3", func := "missive/missivelaw01.VariNumbers", spec := "variNumbers", inPlace := ["internal/abi.NoEscape"], apart := false }
def VariNumbersSaid : Prop := variNumbersRow.holds Try.pinned (OpenSpec.ofChange variNumbersSpec)

/-- ITS FALSE NEIGHBOUR: 'it returns false'. Refute it at one input. -/
def variNumbersWrong : ChangeSpec := { name := "variNumbers", fn := fun _ => fun
  | [d1, d2] => { results := [.lit (.bool false)], args := [d1, d2] }
  | _ => none }
def VariNumbersWrongFalsely : Prop := variNumbersRow.holds Try.pinned (OpenSpec.ofChange variNumbersWrong)

/-- 'missivelaw01.VariEven': WHATEVER THE INPUT: true; the input reads as it did. -/
def variEvenSpec : ChangeSpec := { name := "variEven", fn := fun _ => fun
  | [d1, d2] => { results := [.lit (.bool true)], args := [d1, d2] }
  | _ => none }
def variEvenRow : OpenClaim := { program := "ytekcbkaanlngdaa", sum := "5efba2e15d5213d184e81122aa17b7486035201219977286b42fbbcc83cfe4a3", func := "missive/missivelaw01.VariEven", spec := "variEven", inPlace := ["internal/abi.NoEscape"], apart := false }
def VariEvenSaid : Prop := variEvenRow.holds Try.pinned (OpenSpec.ofChange variEvenSpec)

/-- ITS FALSE NEIGHBOUR: 'it returns false'. Refute it at one input. -/
def variEvenWrong : ChangeSpec := { name := "variEven", fn := fun _ => fun
  | [d1, d2] => { results := [.lit (.bool false)], args := [d1, d2] }
  | _ => none }
def VariEvenWrongFalsely : Prop := variEvenRow.holds Try.pinned (OpenSpec.ofChange variEvenWrong)

/-- 'missivelaw01.VariLists': WHATEVER THE INPUT: true; the input reads as it did. -/
def variListsSpec : ChangeSpec := { name := "variLists", fn := fun _ => fun
  | [d1, d2] => { results := [.lit (.bool true)], args := [d1, d2] }
  | _ => none }
def variListsRow : OpenClaim := { program := "ytekcbkaanlngdaa", sum := "5efba2e15d5213d184e81122aa17b7486035201219977286b42fbbcc83cfe4a3", func := "missive/missivelaw01.VariLists", spec := "variLists", inPlace := ["internal/abi.NoEscape"], apart := false }
def VariListsSaid : Prop := variListsRow.holds Try.pinned (OpenSpec.ofChange variListsSpec)

/-- ITS FALSE NEIGHBOUR: 'it returns false'. Refute it at one input. -/
def variListsWrong : ChangeSpec := { name := "variLists", fn := fun _ => fun
  | [d1, d2] => { results := [.lit (.bool false)], args := [d1, d2] }
  | _ => none }
def VariListsWrongFalsely : Prop := variListsRow.holds Try.pinned (OpenSpec.ofChange variListsWrong)

/-- 'missivelaw01.VariBack': WHATEVER THE INPUT: true; the input reads as it did. -/
def variBackSpec : ChangeSpec := { name := "variBack", fn := fun _ => fun
  | [d1, d2] => { results := [.lit (.bool true)], args := [d1, d2] }
  | _ => none }
def variBackRow : OpenClaim := { program := "ytekcbkaanlngdaa", sum := "5efba2e15d5213d184e81122aa17b7486035201219977286b42fbbcc83cfe4a3", func := "missive/missivelaw01.VariBack", spec := "variBack", inPlace := ["internal/abi.NoEscape"], apart := false }
def VariBackSaid : Prop := variBackRow.holds Try.pinned (OpenSpec.ofChange variBackSpec)

/-- ITS FALSE NEIGHBOUR: 'it returns false'. Refute it at one input. -/
def variBackWrong : ChangeSpec := { name := "variBack", fn := fun _ => fun
  | [d1, d2] => { results := [.lit (.bool false)], args := [d1, d2] }
  | _ => none }
def VariBackWrongFalsely : Prop := variBackRow.holds Try.pinned (OpenSpec.ofChange variBackWrong)

/-- 'missivelaw01.VariFew': WHATEVER THE INPUT: true; the input reads as it did. -/
def variFewSpec : ChangeSpec := { name := "variFew", fn := fun _ => fun
  | [d1, d2, d3] => { results := [.lit (.bool true)], args := [d1, d2, d3] }
  | _ => none }
def variFewRow : OpenClaim := { program := "ytekcbkaanlngdaa", sum := "5efba2e15d5213d184e81122aa17b7486035201219977286b42fbbcc83cfe4a3", func := "missive/missivelaw01.VariFew", spec := "variFew", inPlace := ["internal/abi.NoEscape"], apart := false }
def VariFewSaid : Prop := variFewRow.holds Try.pinned (OpenSpec.ofChange variFewSpec)

/-- ITS FALSE NEIGHBOUR: 'it returns false'. Refute it at one input. -/
def variFewWrong : ChangeSpec := { name := "variFew", fn := fun _ => fun
  | [d1, d2, d3] => { results := [.lit (.bool false)], args := [d1, d2, d3] }
  | _ => none }
def VariFewWrongFalsely : Prop := variFewRow.holds Try.pinned (OpenSpec.ofChange variFewWrong)

/-- 'missivelaw01.VariRead': WHATEVER THE INPUT: true; the input reads as it did. -/
def variReadSpec : ChangeSpec := { name := "variRead", fn := fun _ => fun
  | [d1, d2] => { results := [.lit (.bool true)], args := [d1, d2] }
  | _ => none }
def variReadRow : OpenClaim := { program := "ytekcbkaanlngdaa", sum := "5efba2e15d5213d184e81122aa17b7486035201219977286b42fbbcc83cfe4a3", func := "missive/missivelaw01.VariRead", spec := "variRead", inPlace := ["internal/abi.NoEscape"], apart := false }
def VariReadSaid : Prop := variReadRow.holds Try.pinned (OpenSpec.ofChange variReadSpec)

/-- ITS FALSE NEIGHBOUR: 'it returns false'. Refute it at one input. -/
def variReadWrong : ChangeSpec := { name := "variRead", fn := fun _ => fun
  | [d1, d2] => { results := [.lit (.bool false)], args := [d1, d2] }
  | _ => none }
def VariReadWrongFalsely : Prop := variReadRow.holds Try.pinned (OpenSpec.ofChange variReadWrong)

/- THE SECOND FORM. 'bulk': how many values and letters a reading holds, each counted each time it is reached (what is shared counts as often as it is met; a slice's spare places count too). A statement '..UptoSaid' is the law's where the arguments, and the package variables that the reading takes, are together of bulk at most 1048576: NARROWER than '..Said'. Prove '..Said' where nothing that the law and all that it calls make is longer than what came in: it says more and counts as full. Else prove '..UptoSaid'. A law counts once. -/
mutual
def uptoBulk {H : Type} : DataW H → Nat
  | .lit (.string bytes) => bytes.length + 1
  | .lit _ => 1
  | .nil => 1
  | .ptr d => uptoBulk d + 1
  | .slice elems spare => uptoBulkAll elems + uptoBulkAll spare + 1
  | .agg parts => uptoBulkAll parts + 1
  | .iface _ d => uptoBulk d + 1
  | .map entries => uptoBulkEntries entries + 1
  | .held _ => 1
def uptoBulkAll {H : Type} : List (DataW H) → Nat
  | [] => 0
  | d :: r => uptoBulk d + uptoBulkAll r
def uptoBulkEntries {H : Type} : List (Lit × DataW H) → Nat
  | [] => 0
  | x :: r => uptoBulkEntry x + uptoBulkEntries r
def uptoBulkEntry {H : Type} : Lit × DataW H → Nat
  | (.string bytes, d) => bytes.length + uptoBulk d + 1
  | (_, d) => uptoBulk d + 1
 end
def uptoSmall : (H : Type) → List (DataW H) → Bool := fun _ ds => decide (uptoBulkAll ds ≤ 1048576)
def OpenSpec.upto (s : _root_.Go.ChangeSpec) : _root_.Go.OpenSpec := { _root_.Go.OpenSpec.ofChange s with cond := some uptoSmall }

/-- 'missivelaw01.VariNumbers', WHERE WHAT IT READS IS OF BULK AT MOST 1048576: true; the input reads as it did. -/
def variNumbersUptoRow : OpenClaim := { program := "ytekcbkaanlngdaa", sum := "5efba2e15d5213d184e81122aa17b7486035201219977286b42fbbcc83cfe4a3", func := "missive/missivelaw01.VariNumbers", spec := "variNumbers", inPlace := ["internal/abi.NoEscape"], apart := false, narrowed := true }
def VariNumbersUptoSaid : Prop := variNumbersUptoRow.holds Try.pinned (OpenSpec.upto variNumbersSpec)

/-- 'missivelaw01.VariEven', WHERE WHAT IT READS IS OF BULK AT MOST 1048576: true; the input reads as it did. -/
def variEvenUptoRow : OpenClaim := { program := "ytekcbkaanlngdaa", sum := "5efba2e15d5213d184e81122aa17b7486035201219977286b42fbbcc83cfe4a3", func := "missive/missivelaw01.VariEven", spec := "variEven", inPlace := ["internal/abi.NoEscape"], apart := false, narrowed := true }
def VariEvenUptoSaid : Prop := variEvenUptoRow.holds Try.pinned (OpenSpec.upto variEvenSpec)

/-- 'missivelaw01.VariLists', WHERE WHAT IT READS IS OF BULK AT MOST 1048576: true; the input reads as it did. -/
def variListsUptoRow : OpenClaim := { program := "ytekcbkaanlngdaa", sum := "5efba2e15d5213d184e81122aa17b7486035201219977286b42fbbcc83cfe4a3", func := "missive/missivelaw01.VariLists", spec := "variLists", inPlace := ["internal/abi.NoEscape"], apart := false, narrowed := true }
def VariListsUptoSaid : Prop := variListsUptoRow.holds Try.pinned (OpenSpec.upto variListsSpec)

/-- 'missivelaw01.VariBack', WHERE WHAT IT READS IS OF BULK AT MOST 1048576: true; the input reads as it did. -/
def variBackUptoRow : OpenClaim := { program := "ytekcbkaanlngdaa", sum := "5efba2e15d5213d184e81122aa17b7486035201219977286b42fbbcc83cfe4a3", func := "missive/missivelaw01.VariBack", spec := "variBack", inPlace := ["internal/abi.NoEscape"], apart := false, narrowed := true }
def VariBackUptoSaid : Prop := variBackUptoRow.holds Try.pinned (OpenSpec.upto variBackSpec)

/-- 'missivelaw01.VariFew', WHERE WHAT IT READS IS OF BULK AT MOST 1048576: true; the input reads as it did. -/
def variFewUptoRow : OpenClaim := { program := "ytekcbkaanlngdaa", sum := "5efba2e15d5213d184e81122aa17b7486035201219977286b42fbbcc83cfe4a3", func := "missive/missivelaw01.VariFew", spec := "variFew", inPlace := ["internal/abi.NoEscape"], apart := false, narrowed := true }
def VariFewUptoSaid : Prop := variFewUptoRow.holds Try.pinned (OpenSpec.upto variFewSpec)

/-- 'missivelaw01.VariRead', WHERE WHAT IT READS IS OF BULK AT MOST 1048576: true; the input reads as it did. -/
def variReadUptoRow : OpenClaim := { program := "ytekcbkaanlngdaa", sum := "5efba2e15d5213d184e81122aa17b7486035201219977286b42fbbcc83cfe4a3", func := "missive/missivelaw01.VariRead", spec := "variRead", inPlace := ["internal/abi.NoEscape"], apart := false, narrowed := true }
def VariReadUptoSaid : Prop := variReadUptoRow.holds Try.pinned (OpenSpec.upto variReadSpec)

end Rows
end Go.Proofs.Ytekcbkaanlngdaa
