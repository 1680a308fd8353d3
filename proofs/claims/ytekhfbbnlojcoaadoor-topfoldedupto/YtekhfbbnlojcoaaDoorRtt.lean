/-
  The tables of package runes, and those of package utf8 that it leans on, out of what the row lays.
-/
import Derived.Test.YtekhfbbnlojcoaaDoorRows
import Derived.Test.YtekhfbbnlojcoaaDoorRdc
import Derived.Lib.LaidU8
import Derived.Lib.LaidTab
set_option linter.unusedVariables false
namespace Go.Proofs.YtekhfbbnlojcoaaDoor
open Go.RowKit Go.Proofs.Rns Go.Lib

theorem gWin : Tryd.prog.globalNamed "missive/runes.windows" = some 1 := by kernel_rfl
theorem gLat : Tryd.prog.globalNamed "missive/runes.latin9" = some 2 := by kernel_rfl
theorem yWin : (Tryd.prog.globals[1]?).map (·.type) = some 112 := by kernel_rfl
theorem yLat : (Tryd.prog.globals[2]?).map (·.type) = some 113 := by kernel_rfl
theorem cI32 : Tryd.prog.cellsOf 21 = 1 := by kernel_rfl
theorem cWin : Tryd.prog.cellsOf 112 = 32 := by kernel_rfl
theorem cLat : Tryd.prog.cellsOf 113 = 31 := by kernel_rfl
theorem cStr : Tryd.prog.cellsOf 9 = 1 := by kernel_rfl

theorem u8x : U8Extra Tryd.prog Tryd.lays260_ren := {
  n3 := by kernel_rfl
  n4 := by kernel_rfl
  y3 := by kernel_rfl
  y4 := by kernel_rfl
  c5 := by kernel_rfl
  c119 := by kernel_rfl
  c138 := by kernel_rfl }

theorem win_laid : (Rows.laid_missive_runes_windows : DataW Unit) = tabData .i32 (winT.map Int.ofNat) := by kernel_rfl
theorem lat_laid : (Rows.laid_missive_runes_latin9 : DataW Unit) = tabData .i32 (lat9T.map Int.ofNat) := by kernel_rfl
theorem first_laid : Rows.laid_unicode_utf8_first = firstData := by kernel_rfl
theorem acc_laid : (Rows.laid_unicode_utf8_acceptRanges : DataW Unit) = acceptData := by kernel_rfl


theorem win_cells {W : World} (h : VarReads Tryd.prog W "missive/runes.windows" Rows.laid_missive_runes_windows) : ∀ j, j < 32 → W.cell? ⟨1, j, none⟩ = some (.int .i32 (winT.getD j 0 : Int)) := by
  rw [win_laid] at h
  obtain ⟨g, t, cs, fuel, p, hg, hty, hvar, hd⟩ := h
  obtain rfl := Option.some.inj (gWin.symm.trans hg)
  obtain rfl := Option.some.inj (yWin.symm.trans hty)
  have hcs := cells_of_tab Tryd.underlying112 Tryd.underlying21 cI32 cWin hd
  intro j hj
  rw [World.var?_cell hg hvar j, ← Array.getElem?_toList, hcs, List.getElem?_map, List.getElem?_map, List.getElem?_eq_getElem (by simpa [winT] using hj), List.getD_eq_getElem?_getD, List.getElem?_eq_getElem (by simpa [winT] using hj)]
  rfl

theorem lat_cells {W : World} (h : VarReads Tryd.prog W "missive/runes.latin9" Rows.laid_missive_runes_latin9) : ∀ j, j < 31 → W.cell? ⟨2, j, none⟩ = some (.int .i32 (lat9T.getD j 0 : Int)) := by
  rw [lat_laid] at h
  obtain ⟨g, t, cs, fuel, p, hg, hty, hvar, hd⟩ := h
  obtain rfl := Option.some.inj (gLat.symm.trans hg)
  obtain rfl := Option.some.inj (yLat.symm.trans hty)
  have hcs := cells_of_tab Tryd.underlying113 Tryd.underlying21 cI32 cLat hd
  intro j hj
  rw [World.var?_cell hg hvar j, ← Array.getElem?_toList, hcs, List.getElem?_map, List.getElem?_map, List.getElem?_eq_getElem (by simpa [lat9T] using hj), List.getD_eq_getElem?_getD, List.getElem?_eq_getElem (by simpa [lat9T] using hj)]
  rfl

/-- The four tables of letters. -/
theorem rtab4_of {W : World} (h1 : VarReads Tryd.prog W "unicode/utf8.acceptRanges" Rows.laid_unicode_utf8_acceptRanges) (h3 : VarReads Tryd.prog W "missive/runes.latin9" Rows.laid_missive_runes_latin9)
    (h4 : VarReads Tryd.prog W "missive/runes.windows" Rows.laid_missive_runes_windows) (h5 : VarReads Tryd.prog W "unicode/utf8.first" Rows.laid_unicode_utf8_first) : RTab W := by
  rw [acc_laid] at h1
  rw [first_laid] at h5
  have hu := utf8Tabs_of_reads Tryd.lays260 u8x h5 h1
  have hu' : Lib.Utf8Tabs 3 4 W := hu
  refine ⟨?_, win_cells h4, lat_cells h3, hu'⟩
  have c := (hu'.2 0 (by omega)).1
  rcases Nat.lt_or_ge 4 W.heap.size with h | h
  · omega
  · simp [World.cell?, Array.getElem?_eq_none h] at c
end Go.Proofs.YtekhfbbnlojcoaaDoor
