/-
  Files, texts and numbers that came in, for the frame of a second form (frame2.py): a bound that isn't wanted.
-/
import Derived.Test.YtmfkhbofmaonkaaDog
set_option linter.unusedVariables false
namespace Go.Proofs.Ytmfkhbofmaonkaa
open Go.ChangeShapes Go.WideShapes Go.RowKit Go.Proofs.Dsk
section
variable {H : Type} {enc : TypeId × Value → H} {W : World} {base : Nat} {held : Bool} {fuel : Nat} {v : Value} {x : DataW H × List MemPlace}
theorem open_rowFb (hv : ∃ a len cap, v = .slice a len cap) (hf : DataW.trod enc Try.prog W base (fun _ => true) held fuel 22 v.cells.toList = some x) (hb : Rows.uptoBulk x.1 ≤ 1048576) : ∃ l, RowF W v l ∧ sumF l + 1 ≤ Rows.uptoBulk x.1 := open_rowF hv hf
theorem open_rowSb (hv : ∃ a len cap, v = .slice a len cap) (hf : DataW.trod enc Try.prog W base (fun _ => true) held fuel 30 v.cells.toList = some x) (hb : Rows.uptoBulk x.1 ≤ 1048576) : ∃ l, RowS W v l ∧ sumS l + 1 ≤ Rows.uptoBulk x.1 := open_rowS hv hf
theorem open_rowIb (hv : ∃ a len cap, v = .slice a len cap) (hf : DataW.trod enc Try.prog W base (fun _ => true) held fuel 39 v.cells.toList = some x) (hb : Rows.uptoBulk x.1 ≤ 1048576) : ∃ l, RowI W v l ∧ List.length l + 1 ≤ Rows.uptoBulk x.1 := open_rowI hv hf
end
end Go.Proofs.Ytmfkhbofmaonkaa
