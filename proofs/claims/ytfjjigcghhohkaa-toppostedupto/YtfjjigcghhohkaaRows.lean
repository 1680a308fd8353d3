/-
  No cell of these rows narrows 'for every input' (looked for: loops, veiled, ifaces, maps, wideKeys, modest, calm, conditions, laid).
  DERIVED. THE GIVEN ROWS OF THIS SEAT. 3 by the template 'for every input the law returns true; each argument reads behind the call as it read before'; 0 by the template 'total and deterministic' (their statements: YtfjjigcghhohkaaTotals.lean).
  GIVEN WITH THE SEED: the statements are not yours to turn. If you find one false, say at which input.
  Laid BY PROGRAM, IN A SANDBOX (cutbox-rows.mjs): the forced cells as the released guide's own fill.sh prints them over the translation 77a9fb2ed59630bd… (all of the seat's roots in one cut). By AI agents, Wed Nov 11 2026. No macro, syntax, notation, axiom, sorry.
-/
import Derived.Test.YtfjjigcghhohkaaChecked
import GoSem.Claim
import GoSem.ClaimJoined
import GoSem.ClaimMapViews
import Derived.JoinedTies
import Derived.KernelRfl
namespace Go.Proofs.Ytfjjigcghhohkaa
/- THE CELL 'sum', in the pinned program and in every row, IS THE sha256 OF THE DUMP (.gsa) THAT YtfjjigcghhohkaaProg.lean LOADS. Nothing in Lean hashes anything: it is a label: what it is worth is what the hold of that sum in a sandbox is worth. -/
noncomputable def Try.pinned : Pinned := { name := "ytfjjigcghhohkaa", sum := "77a9fb2ed59630bd82dc3449e19c79af290f87dfa9bb0414256e51ea6589a24e", checked := Try.checked }
namespace Rows
def none {H : Type} : Left H := { results := [], args := [] }

/-- 'missivelaw13.PostBack': WHATEVER THE INPUT: true; the input reads as it did. -/
def postBackSpec : ChangeSpec := { name := "postBack", fn := fun _ => fun
  | [d1, d2] => { results := [.lit (.bool true)], args := [d1, d2] }
  | _ => none }
def postBackRow : OpenClaim := { program := "ytfjjigcghhohkaa", sum := "77a9fb2ed59630bd82dc3449e19c79af290f87dfa9bb0414256e51ea6589a24e", func := "missive/missivelaw13.PostBack", spec := "postBack", inPlace := ["internal/abi.NoEscape"], unfollowed := true, recurses := true, apart := false }
def PostBackSaid : Prop := postBackRow.holds Try.pinned (OpenSpec.ofChange postBackSpec)

/-- ITS FALSE NEIGHBOUR: 'it returns false'. Refute it at one input. -/
def postBackWrong : ChangeSpec := { name := "postBack", fn := fun _ => fun
  | [d1, d2] => { results := [.lit (.bool false)], args := [d1, d2] }
  | _ => none }
def PostBackWrongFalsely : Prop := postBackRow.holds Try.pinned (OpenSpec.ofChange postBackWrong)

/-- 'missivelaw13.PostBlocks': WHATEVER THE INPUT: true; the input reads as it did. -/
def postBlocksSpec : ChangeSpec := { name := "postBlocks", fn := fun _ => fun
  | [d1, d2] => { results := [.lit (.bool true)], args := [d1, d2] }
  | _ => none }
def postBlocksRow : OpenClaim := { program := "ytfjjigcghhohkaa", sum := "77a9fb2ed59630bd82dc3449e19c79af290f87dfa9bb0414256e51ea6589a24e", func := "missive/missivelaw13.PostBlocks", spec := "postBlocks", inPlace := ["internal/abi.NoEscape"], unfollowed := true, recurses := true, apart := false }
def PostBlocksSaid : Prop := postBlocksRow.holds Try.pinned (OpenSpec.ofChange postBlocksSpec)

/-- ITS FALSE NEIGHBOUR: 'it returns false'. Refute it at one input. -/
def postBlocksWrong : ChangeSpec := { name := "postBlocks", fn := fun _ => fun
  | [d1, d2] => { results := [.lit (.bool false)], args := [d1, d2] }
  | _ => none }
def PostBlocksWrongFalsely : Prop := postBlocksRow.holds Try.pinned (OpenSpec.ofChange postBlocksWrong)

/-- 'missivetop.TopPosted': WHATEVER THE INPUT: true; the input reads as it did. -/
def topPostedSpec : ChangeSpec := { name := "topPosted", fn := fun _ => fun
  | [d1, d2, d3] => { results := [.lit (.bool true)], args := [d1, d2, d3] }
  | _ => none }
def topPostedRow : OpenClaim := { program := "ytfjjigcghhohkaa", sum := "77a9fb2ed59630bd82dc3449e19c79af290f87dfa9bb0414256e51ea6589a24e", func := "missive/missivetop.TopPosted", spec := "topPosted", inPlace := ["internal/abi.NoEscape"], unfollowed := true, recurses := true, apart := false }
def TopPostedSaid : Prop := topPostedRow.holds Try.pinned (OpenSpec.ofChange topPostedSpec)

/-- ITS FALSE NEIGHBOUR: 'it returns false'. Refute it at one input. -/
def topPostedWrong : ChangeSpec := { name := "topPosted", fn := fun _ => fun
  | [d1, d2, d3] => { results := [.lit (.bool false)], args := [d1, d2, d3] }
  | _ => none }
def TopPostedWrongFalsely : Prop := topPostedRow.holds Try.pinned (OpenSpec.ofChange topPostedWrong)

/- THE SECOND FORM. 'bulk': how many values and letters a reading holds, each counted each time it is reached (what is shared counts as often as it is met; a slice's spare places count too). A statement '..UptoSaid' is the law's where the arguments, and the package variables that the reading takes, are together of bulk at most 1048576: NARROWER than '..Said'. Prove '..Said' where nothing that the law and all that it calls make is longer than what came in: it says more and counts as full. Else prove '..UptoSaid'. A law counts once. -/
mutual
def uptoBulk {H : Type} : DataW H → Nat
  | .lit (.string bytes) => bytes.length + 1
  | .lit _ => 1
  | .nil => 1
  | .ptr d => uptoBulk d + 1
  | .slice elems spare => uptoBulkAll elems + uptoBulkAll spare + 1
  | .agg parts => uptoBulkAll parts + 1
  | .iface _ d => uptoBulk d + 1
  | .map entries => uptoBulkEntries entries + 1
  | .held _ => 1
def uptoBulkAll {H : Type} : List (DataW H) → Nat
  | [] => 0
  | d :: r => uptoBulk d + uptoBulkAll r
def uptoBulkEntries {H : Type} : List (Lit × DataW H) → Nat
  | [] => 0
  | x :: r => uptoBulkEntry x + uptoBulkEntries r
def uptoBulkEntry {H : Type} : Lit × DataW H → Nat
  | (.string bytes, d) => bytes.length + uptoBulk d + 1
  | (_, d) => uptoBulk d + 1
 end
def uptoSmall : (H : Type) → List (DataW H) → Bool := fun _ ds => decide (uptoBulkAll ds ≤ 1048576)
def OpenSpec.upto (s : _root_.Go.ChangeSpec) : _root_.Go.OpenSpec := { _root_.Go.OpenSpec.ofChange s with cond := some uptoSmall }

/-- 'missivelaw13.PostBack', WHERE WHAT IT READS IS OF BULK AT MOST 1048576: true; the input reads as it did. -/
def postBackUptoRow : OpenClaim := { program := "ytfjjigcghhohkaa", sum := "77a9fb2ed59630bd82dc3449e19c79af290f87dfa9bb0414256e51ea6589a24e", func := "missive/missivelaw13.PostBack", spec := "postBack", inPlace := ["internal/abi.NoEscape"], unfollowed := true, recurses := true, apart := false, narrowed := true }
def PostBackUptoSaid : Prop := postBackUptoRow.holds Try.pinned (OpenSpec.upto postBackSpec)

/-- 'missivelaw13.PostBlocks', WHERE WHAT IT READS IS OF BULK AT MOST 1048576: true; the input reads as it did. -/
def postBlocksUptoRow : OpenClaim := { program := "ytfjjigcghhohkaa", sum := "77a9fb2ed59630bd82dc3449e19c79af290f87dfa9bb0414256e51ea6589a24e", func := "missive/missivelaw13.PostBlocks", spec := "postBlocks", inPlace := ["internal/abi.NoEscape"], unfollowed := true, recurses := true, apart := false, narrowed := true }
def PostBlocksUptoSaid : Prop := postBlocksUptoRow.holds Try.pinned (OpenSpec.upto postBlocksSpec)

/-- 'missivetop.TopPosted', WHERE WHAT IT READS IS OF BULK AT MOST 1048576: true; the input reads as it did. -/
def topPostedUptoRow : OpenClaim := { program := "ytfjjigcghhohkaa", sum := "77a9fb2ed59630bd82dc3449e19c79af290f87dfa9bb0414256e51ea6589a24e", func := "missive/missivetop.TopPosted", spec := "topPosted", inPlace := ["internal/abi.NoEscape"], unfollowed := true, recurses := true, apart := false, narrowed := true }
def TopPostedUptoSaid : Prop := topPostedUptoRow.holds Try.pinned (OpenSpec.upto topPostedSpec)

end Rows
end Go.Proofs.Ytfjjigcghhohkaa
