/-
  What date.Day and the document's Day do, over this seat's program.
-/
import Derived.Test.YthpjogfclklefaaDoorDda
set_option linter.unusedVariables false
namespace Go.Proofs.YthpjogfclklefaaDoor
open Go.RowKit Go.Proofs.Dcl

/-- What Day tells. -/
def dayV (y m d : Int) : Value := if vldB y m d then .tuple #[.int .i64 (num y m d), .int .i64 0] else .tuple #[.int .i64 0, .int .i64 1]
theorem dayV_t {y m d : Int} (h : vldB y m d = true) : dayV y m d = .tuple #[.int .i64 (num y m d), .int .i64 0] := by simp [dayV, h]
theorem dayV_f {y m d : Int} (h : vldB y m d = false) : dayV y m d = .tuple #[.int .i64 0, .int .i64 1] := by simp [dayV, h]

theorem ret_two {a b : Int} {k : IntKind} {v : Value} (h : a = b) : Ending.returned (.tuple #[.int k a, v]) = .returned (.tuple #[.int k b, v]) := by rw [h]


end Go.Proofs.YthpjogfclklefaaDoor
