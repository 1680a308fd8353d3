/-
  The table of the months' lengths out of what a row lays; the world of the witness.
-/
import Derived.Test.YthpjogfclklefaaDoorRows
import Derived.Test.YthpjogfclklefaaDoorDda
import Derived.Lib.LaidU8
import Derived.Lib.LaidTab
set_option linter.unusedVariables false
namespace Go.Proofs.YthpjogfclklefaaDoor
open Go.RowKit Go.Lib

def lenT : List Int := [31, 28, 31, 30, 31, 30, 31, 31, 30, 31, 30, 31]
theorem gLen : Tryd.prog.globalNamed "missive/date.lengths" = some 0 := by kernel_rfl
theorem yLen : (Tryd.prog.globals[0]?).map (·.type) = some 113 := by kernel_rfl
theorem cInt : Tryd.prog.cellsOf 3 = 1 := by kernel_rfl
theorem cLen : Tryd.prog.cellsOf 113 = 12 := by kernel_rfl
theorem len_laid : (Rows.laid_missive_date_lengths : DataW Unit) = tabData .i64 lenT := by kernel_rfl

theorem ltab_of {W : World} (h : VarReads Tryd.prog W "missive/date.lengths" Rows.laid_missive_date_lengths) : LTab W := by
  rw [len_laid] at h
  obtain ⟨g, t, cs, fuel, p, hg, hty, hvar, hd⟩ := h
  obtain rfl := Option.some.inj (gLen.symm.trans hg)
  obtain rfl := Option.some.inj (yLen.symm.trans hty)
  have hcs := cells_of_tab Tryd.underlying113 Tryd.underlying3 cInt cLen hd
  have c : ∀ j, j < 12 → W.cell? ⟨0, j, none⟩ = some (.int .i64 (lenT.getD j 0)) := by
    intro j hj
    rw [World.var?_cell hg hvar j, ← Array.getElem?_toList, hcs, List.getElem?_map, List.getElem?_eq_getElem (by simpa [lenT] using hj), List.getD_eq_getElem?_getD, List.getElem?_eq_getElem (by simpa [lenT] using hj)]
    rfl
  refine ⟨?_, c⟩
  have := c 0 (by omega)
  rcases Nat.lt_or_ge 0 W.heap.size with h | h
  · exact h
  · simp [World.cell?, Array.getElem?_eq_none h] at this

end Go.Proofs.YthpjogfclklefaaDoor
