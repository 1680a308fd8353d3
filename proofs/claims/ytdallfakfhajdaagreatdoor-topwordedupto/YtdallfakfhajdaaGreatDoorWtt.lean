/-
  The variables that layer 9 reads, out of the row's own words, over this seat's program.
-/
import Derived.Test.YtdallfakfhajdaaGreatDoorRtt
import Derived.Test.YtdallfakfhajdaaGreatDoorBnd3
set_option linter.unusedVariables false
namespace Go.Proofs.YtdallfakfhajdaaGreatDoor
open Go.RowKit Go.Proofs.Enc Go.Proofs.Rns

theorem maxL_of {W : World} (h : W.ShapedOpen Tryz.prog) : MaxL W := by
  obtain ⟨m, hm⟩ := Tryz.laysM143.s1_3 W h
  obtain ⟨o, ho, _⟩ := cells_of_cell hm
  exact ⟨(Array.getElem?_eq_some_iff.1 ho).1, m, hm⟩
set_option maxRecDepth 100000 in
theorem errS_of {W : World} (h : Lib.VarReads Tryz.prog W "strconv.ErrSyntax" Rows.laid_strconv_ErrSyntax) : ErrS W := by
  obtain ⟨g, t, cs, fuel, p, hg, hty, hvar, hd⟩ := h
  obtain rfl := Option.some.inj ((show Tryz.prog.globalNamed "strconv.ErrSyntax" = some 7 by kernel_rfl).symm.trans hg)
  obtain rfl := Option.some.inj ((show (Tryz.prog.globals[7]?).map (·.type) = some 69 by kernel_rfl).symm.trans hty)
  have hc0 := World.var?_cell hg hvar 0
  obtain ⟨ds, hu⟩ : ∃ ds, Tryz.prog.underlying 69 = some (.interface ds) := by
    have h0 : (Tryz.prog.underlying 69).map (fun d => match d with | .interface _ => true | _ => false) = some true := by kernel_rfl
    generalize Tryz.prog.underlying 69 = o at h0
    cases o with
    | none => cases h0
    | some d =>
      cases d with
      | interface ds => exact ⟨ds, rfl⟩
      | _ => cases h0
  have key : ∃ ev, cs.toList = [ev] ∧ (ev = .nilIface ∨ ∃ te pe, ev = .iface te pe) := by
    clear hc0 hg hty hvar
    generalize cs.toList = l at hd ⊢
    generalize (Rows.laid_strconv_ErrSyntax : DataW Unit) = dd at hd
    cases fuel with
    | zero => cases hd
    | succ f =>
      unfold DataW.trod at hd
      rw [hu] at hd
      rcases l with _ | ⟨ev, _ | ⟨b, r⟩⟩
      · cases hd
      · refine ⟨ev, rfl, ?_⟩
        cases ev with
        | nilIface => exact .inl rfl
        | iface te pe => exact .inr ⟨te, pe, rfl⟩
        | _ => cases hd
      · cases ev <;> cases hd
  obtain ⟨ev, he, hv⟩ := key
  rw [← Array.getElem?_toList, he] at hc0
  have hc1 : W.cell? ⟨7, 0, none⟩ = some ev := hc0
  obtain ⟨o, ho, _⟩ := cells_of_cell hc1
  exact ⟨(Array.getElem?_eq_some_iff.1 ho).1, ev, hc1, hv⟩
/-- What the layer's rows say of their variables. -/
theorem tabW_of {W : World} (h1 : Lib.VarReads Tryz.prog W "unicode/utf8.acceptRanges" Rows.laid_unicode_utf8_acceptRanges) (h2 : Lib.VarReads Tryz.prog W "missive/runes.names" Rows.laid_missive_runes_names) (h3 : Lib.VarReads Tryz.prog W "missive/runes.latin9" Rows.laid_missive_runes_latin9)
    (h4 : Lib.VarReads Tryz.prog W "missive/runes.windows" Rows.laid_missive_runes_windows) (h5 : Lib.VarReads Tryz.prog W "unicode/utf8.first" Rows.laid_unicode_utf8_first) (h6 : Lib.VarReads Tryz.prog W "strconv.ErrSyntax" Rows.laid_strconv_ErrSyntax) (hs : W.ShapedOpen Tryz.prog) : TabW W :=
  ⟨rtab_of h1 h2 h3 h4 h5, errS_of h6, maxL_of hs⟩
end Go.Proofs.YtdallfakfhajdaaGreatDoor
