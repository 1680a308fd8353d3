/-
  The tables of package runes, and those of package utf8 that it leans on, out of what the row lays.
-/
import Derived.Test.YtedpimhhbajljaaGreatDoorRows
import Derived.Test.YtedpimhhbajljaaGreatDoorRnm
import Derived.Test.YtedpimhhbajljaaGreatDoorRdc
import Derived.Lib.LaidU8
import Derived.Lib.LaidTab
set_option linter.unusedVariables false
namespace Go.Proofs.YtedpimhhbajljaaGreatDoor
open Go.RowKit Go.Proofs.Rns Go.Lib

theorem gNames : Tryz.prog.globalNamed "missive/runes.names" = some 0 := by kernel_rfl
theorem gWin : Tryz.prog.globalNamed "missive/runes.windows" = some 4 := by kernel_rfl
theorem gLat : Tryz.prog.globalNamed "missive/runes.latin9" = some 5 := by kernel_rfl
theorem yNames : (Tryz.prog.globals[0]?).map (·.type) = some 113 := by kernel_rfl
theorem yWin : (Tryz.prog.globals[4]?).map (·.type) = some 140 := by kernel_rfl
theorem yLat : (Tryz.prog.globals[5]?).map (·.type) = some 141 := by kernel_rfl
theorem cI32 : Tryz.prog.cellsOf 21 = 1 := by kernel_rfl
theorem cWin : Tryz.prog.cellsOf 140 = 32 := by kernel_rfl
theorem cLat : Tryz.prog.cellsOf 141 = 31 := by kernel_rfl
theorem cPair : Tryz.prog.cellsOf 112 = 2 := by kernel_rfl
theorem cStr : Tryz.prog.cellsOf 9 = 1 := by kernel_rfl
theorem cChs : Tryz.prog.cellsOf 84 = 1 := by kernel_rfl

theorem u8x : U8Extra Tryz.prog Tryz.lays260_ren := {
  n3 := by kernel_rfl
  n4 := by kernel_rfl
  y3 := by kernel_rfl
  y4 := by kernel_rfl
  c5 := by kernel_rfl
  c119 := by kernel_rfl
  c138 := by kernel_rfl }

theorem win_laid : (Rows.laid_missive_runes_windows : DataW Unit) = tabData .i32 (winT.map Int.ofNat) := by kernel_rfl
theorem lat_laid : (Rows.laid_missive_runes_latin9 : DataW Unit) = tabData .i32 (lat9T.map Int.ofNat) := by kernel_rfl
theorem first_laid : Rows.laid_unicode_utf8_first = firstData := by kernel_rfl
theorem acc_laid : (Rows.laid_unicode_utf8_acceptRanges : DataW Unit) = acceptData := by kernel_rfl
theorem names_laid : (Rows.laid_missive_runes_names : DataW Unit) = .agg (namesT.map fun p => .agg [.lit (.string p.1), .lit (.int .u8 (p.2 : Int))]) := by kernel_rfl

theorem two_of {α : Type} {l : List α} (h : l.length = 2) : ∃ a b, l = [a, b] := by
  match l, h with
  | [a, b], _ => exact ⟨a, b, rfl⟩

/-- A struct of a text and a number, cell for cell. -/
theorem pair_of {H : Type} {enc : TypeId × Value → H} {w : World} {base : Nat} {sp : Nat → Bool} {held : Bool} {fuel : Nat} {cs : List Value} {s : List UInt8} {z : Int} {p : List MemPlace}
    (h : DataW.trod enc Tryz.prog w base sp held fuel 112 cs = some (.agg [.lit (.string s), .lit (.int .u8 z)], p)) : cs = [.string (bts s), .int .u8 z] := by
  obtain ⟨xs, n, rfl, hx, hl, hxl, hall⟩ := DataW.trod_struct Tryz.underlying112 h
  rw [cPair] at hl
  have hxs : xs.map (·.1) = [.lit (.string s), .lit (.int .u8 z)] := by
    have := congrArg Prod.fst hx
    simpa using this.symm
  obtain ⟨x0, x1, rfl⟩ := two_of (show xs.length = 2 by have := congrArg List.length hxs; simpa using this)
  obtain ⟨v0, v1, rfl⟩ := two_of hl
  simp only [List.map_cons, List.map_nil, List.cons.injEq, and_true] at hxs
  have h0 := hall 0 _ rfl
  have h1 := hall 1 _ rfl
  simp only [List.getElem?_cons_zero, List.getElem?_cons_succ] at h0 h1
  obtain ⟨t, e0, hx0, _⟩ := DataW.trod_string Tryz.underlying9 h0
  obtain ⟨m, e1, hx1, _⟩ := DataW.trod_int Tryz.underlying84 h1
  rw [hx0, hx1] at hxs
  simp only [DataW.lit.injEq, Lit.string.injEq, Lit.int.injEq, true_and] at hxs
  obtain ⟨hs, hz⟩ := hxs
  subst hs
  subst hz
  have f0 : ([v0, v1].drop 0).take (Tryz.prog.cellsOf 9) = [.string t] := e0
  have f1 : ([v0, v1].drop 1).take (Tryz.prog.cellsOf 84) = [.int .u8 m] := e1
  rw [cStr] at f0
  rw [cChs] at f1
  simp at f0 f1
  rw [f0, f1, bts_toList]

theorem names_cells {W : World} (h : VarReads Tryz.prog W "missive/runes.names" Rows.laid_missive_runes_names) : ∀ j v, namesC[j]? = some v → W.cell? ⟨0, j, none⟩ = some v := by
  rw [names_laid] at h
  obtain ⟨g, t, cs, fuel, p, hg, hty, hvar, hd⟩ := h
  obtain rfl := Option.some.inj (gNames.symm.trans hg)
  obtain rfl := Option.some.inj (yNames.symm.trans hty)
  have key : ∀ i (hi : i < 10), cs[2 * i]? = some (.string (bts (namesT[i]'hi).1)) ∧ cs[2 * i + 1]? = some (.int .u8 ((namesT[i]'hi).2 : Int)) := by
    intro i hi
    obtain ⟨fuel', d, q, hdi, he⟩ := array_elem Tryz.underlying113 hd i hi
    rw [List.getElem?_map, List.getElem?_eq_getElem (by simpa [namesT] using hi)] at hdi
    simp only [Option.map_some, Option.some.injEq] at hdi
    subst hdi
    rw [cPair] at he
    have hcs := pair_of he
    have e0 := congrArg (·[0]?) hcs
    have e1 := congrArg (·[1]?) hcs
    simp only [List.getElem?_take, List.getElem?_drop, List.getElem?_cons_zero, List.getElem?_cons_succ] at e0 e1
    rw [if_pos (by omega), show i * 2 + 0 = 2 * i by omega] at e0
    rw [if_pos (by omega), show i * 2 + 1 = 2 * i + 1 by omega] at e1
    constructor
    · rw [← Array.getElem?_toList]; exact e0
    · rw [← Array.getElem?_toList]; exact e1
  intro j v hj
  rw [World.var?_cell hg hvar j]
  have hj20 : j < 20 := by
    rcases Nat.lt_or_ge j 20 with h | h
    · exact h
    · rw [List.getElem?_eq_none (by simpa [namesC, namesT] using h)] at hj; simp at hj
  obtain ⟨i, hi, hij⟩ : ∃ i, i < 10 ∧ (j = 2 * i ∨ j = 2 * i + 1) := ⟨j / 2, by omega, by omega⟩
  have hk := key i hi
  rcases hij with rfl | rfl
  · rw [hk.1, ← hj]
    rcases (show i = 0 ∨ i = 1 ∨ i = 2 ∨ i = 3 ∨ i = 4 ∨ i = 5 ∨ i = 6 ∨ i = 7 ∨ i = 8 ∨ i = 9 by omega) with rfl | rfl | rfl | rfl | rfl | rfl | rfl | rfl | rfl | rfl <;> rfl
  · rw [hk.2, ← hj]
    rcases (show i = 0 ∨ i = 1 ∨ i = 2 ∨ i = 3 ∨ i = 4 ∨ i = 5 ∨ i = 6 ∨ i = 7 ∨ i = 8 ∨ i = 9 by omega) with rfl | rfl | rfl | rfl | rfl | rfl | rfl | rfl | rfl | rfl <;> rfl

theorem win_cells {W : World} (h : VarReads Tryz.prog W "missive/runes.windows" Rows.laid_missive_runes_windows) : ∀ j, j < 32 → W.cell? ⟨4, j, none⟩ = some (.int .i32 (winT.getD j 0 : Int)) := by
  rw [win_laid] at h
  obtain ⟨g, t, cs, fuel, p, hg, hty, hvar, hd⟩ := h
  obtain rfl := Option.some.inj (gWin.symm.trans hg)
  obtain rfl := Option.some.inj (yWin.symm.trans hty)
  have hcs := cells_of_tab Tryz.underlying140 Tryz.underlying21 cI32 cWin hd
  intro j hj
  rw [World.var?_cell hg hvar j, ← Array.getElem?_toList, hcs, List.getElem?_map, List.getElem?_map, List.getElem?_eq_getElem (by simpa [winT] using hj), List.getD_eq_getElem?_getD, List.getElem?_eq_getElem (by simpa [winT] using hj)]
  rfl

theorem lat_cells {W : World} (h : VarReads Tryz.prog W "missive/runes.latin9" Rows.laid_missive_runes_latin9) : ∀ j, j < 31 → W.cell? ⟨5, j, none⟩ = some (.int .i32 (lat9T.getD j 0 : Int)) := by
  rw [lat_laid] at h
  obtain ⟨g, t, cs, fuel, p, hg, hty, hvar, hd⟩ := h
  obtain rfl := Option.some.inj (gLat.symm.trans hg)
  obtain rfl := Option.some.inj (yLat.symm.trans hty)
  have hcs := cells_of_tab Tryz.underlying141 Tryz.underlying21 cI32 cLat hd
  intro j hj
  rw [World.var?_cell hg hvar j, ← Array.getElem?_toList, hcs, List.getElem?_map, List.getElem?_map, List.getElem?_eq_getElem (by simpa [lat9T] using hj), List.getD_eq_getElem?_getD, List.getElem?_eq_getElem (by simpa [lat9T] using hj)]
  rfl

theorem lt_of_cell {W : World} {g j : Nat} {v : Value} (h : W.cell? ⟨g, j, none⟩ = some v) : g < W.heap.size := by
  rcases Nat.lt_or_ge g W.heap.size with h' | h'
  · exact h'
  · simp [World.cell?, Array.getElem?_eq_none h'] at h
/-- The four tables of letters. -/
theorem rtab4_of {W : World} (h1 : VarReads Tryz.prog W "unicode/utf8.acceptRanges" Rows.laid_unicode_utf8_acceptRanges) (h3 : VarReads Tryz.prog W "missive/runes.latin9" Rows.laid_missive_runes_latin9)
    (h4 : VarReads Tryz.prog W "missive/runes.windows" Rows.laid_missive_runes_windows) (h5 : VarReads Tryz.prog W "unicode/utf8.first" Rows.laid_unicode_utf8_first) : RTab W := by
  rw [acc_laid] at h1
  rw [first_laid] at h5
  have hu := utf8Tabs_of_reads Tryz.lays260 u8x h5 h1
  have hu' : Lib.Utf8Tabs 2 3 W := hu
  refine ⟨?_, win_cells h4, lat_cells h3, hu'⟩
  have c1 := lt_of_cell (hu'.2 0 (by omega)).1
  have c2 := lt_of_cell (win_cells h4 0 (by omega))
  have c3 := lt_of_cell (lat_cells h3 0 (by omega))
  omega
/-- The five tables. -/
theorem rtab_of {W : World} (h1 : VarReads Tryz.prog W "unicode/utf8.acceptRanges" Rows.laid_unicode_utf8_acceptRanges) (h2 : VarReads Tryz.prog W "missive/runes.names" Rows.laid_missive_runes_names) (h3 : VarReads Tryz.prog W "missive/runes.latin9" Rows.laid_missive_runes_latin9)
    (h4 : VarReads Tryz.prog W "missive/runes.windows" Rows.laid_missive_runes_windows) (h5 : VarReads Tryz.prog W "unicode/utf8.first" Rows.laid_unicode_utf8_first) : RTabN W :=
  ⟨rtab4_of h1 h3 h4 h5, names_cells h2⟩
end Go.Proofs.YtedpimhhbajljaaGreatDoor
