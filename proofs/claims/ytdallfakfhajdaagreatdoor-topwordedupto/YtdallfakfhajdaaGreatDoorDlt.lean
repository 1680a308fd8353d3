/-
  The table of the months' lengths out of what a row lays; the world of the witness.
-/
import Derived.Test.YtdallfakfhajdaaGreatDoorRows
import Derived.Test.YtdallfakfhajdaaGreatDoorBnd4
import Derived.Lib.LaidU8
import Derived.Lib.LaidTab
import Derived.Lib.SmallJoins
set_option linter.unusedVariables false
namespace Go.Proofs.YtdallfakfhajdaaGreatDoor
open Go.RowKit Go.Lib

def lenT : List Int := [31, 28, 31, 30, 31, 30, 31, 31, 30, 31, 30, 31]
theorem gLen : Tryz.prog.globalNamed "missive/date.lengths" = some 1 := by kernel_rfl
theorem yLen : (Tryz.prog.globals[1]?).map (·.type) = some 152 := by kernel_rfl
theorem cInt : Tryz.prog.cellsOf 3 = 1 := by kernel_rfl
theorem cLen : Tryz.prog.cellsOf 152 = 12 := by kernel_rfl
theorem len_laid : (Rows.laid_missive_date_lengths : DataW Unit) = tabData .i64 lenT := by kernel_rfl

theorem ltab_of {W : World} (h : VarReads Tryz.prog W "missive/date.lengths" Rows.laid_missive_date_lengths) : LTab W := by
  rw [len_laid] at h
  obtain ⟨g, t, cs, fuel, p, hg, hty, hvar, hd⟩ := h
  obtain rfl := Option.some.inj (gLen.symm.trans hg)
  obtain rfl := Option.some.inj (yLen.symm.trans hty)
  have hcs := cells_of_tab Tryz.underlying152 Tryz.underlying3 cInt cLen hd
  have c : ∀ j, j < 12 → W.cell? ⟨1, j, none⟩ = some (.int .i64 (lenT.getD j 0)) := by
    intro j hj
    rw [World.var?_cell hg hvar j, ← Array.getElem?_toList, hcs, List.getElem?_map, List.getElem?_eq_getElem (by simpa [lenT] using hj), List.getD_eq_getElem?_getD, List.getElem?_eq_getElem (by simpa [lenT] using hj)]
    rfl
  refine ⟨?_, c⟩
  have := c 0 (by omega)
  rcases Nat.lt_or_ge 1 W.heap.size with h | h
  · exact h
  · simp [World.cell?, Array.getElem?_eq_none h] at this

def laidArrD (g : Nat) : Array Value :=
  if g = 1 then (lenT.map fun c => Value.int .i64 c).toArray
  else if g = 5 then ((List.range 256).map fun c => Value.int .u8 (Lib.firstT c : Int)).toArray
  else ((List.range 16).flatMap fun i => [Value.int .u8 (Lib.accLo i : Int), Value.int .u8 (Lib.accHi i : Int)]).toArray
def laidObjD (g : Nat) : Obj → Obj
  | .cells _ t frozen => .cells (laidArrD g) t frozen
  | o => o
end Go.Proofs.YtdallfakfhajdaaGreatDoor
