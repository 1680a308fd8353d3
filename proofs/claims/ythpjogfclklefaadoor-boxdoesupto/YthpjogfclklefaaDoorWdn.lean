/-
  The walks of missivelaw10.days, DateNext and DateDays, over this seat's program.
-/
import Derived.Test.YthpjogfclklefaaDoorDse
set_option linter.unusedVariables false
namespace Go.Proofs.YthpjogfclklefaaDoor
open Go.RowKit Go.Proofs.Dcl

theorem belowsD {w a b : World} (h1 : Below w.heap.size w a) (h2 : Below a.heap.size a b) : Below w.heap.size w b := h1.trans (h2.mono h1.size)

theorem civ_known {n y m d : Int} {v : Value} (h : CivIs n v) (hv : vldB y m d = true) (hn : num y m d = n) : v = .tuple #[.int .i64 y, .int .i64 m, .int .i64 d, .int .i64 0] := by
  have hd : dayB n = true := by rw [← hn]; exact day_of_vld hv
  obtain ⟨y', m', d', hv', hn', rfl⟩ := h.yes hd
  obtain ⟨rfl, rfl, rfl⟩ := num_inj hv' hv (by rw [hn, hn'])
  rfl

end Go.Proofs.YthpjogfclklefaaDoor
