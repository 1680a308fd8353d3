/-
  What (dict.entry).copied does, over this seat's program.
-/
import Derived.Test.YtfjjigcghhohkaaDop
import Derived.Deep.RegionWith
import Derived.BigCall
set_option linter.unusedVariables false
namespace Go.Proofs.Ytfjjigcghhohkaa
open Go.RowKit Go.Proofs.Num Go.Proofs.Dct

/-- What a copy's two boxes hold. -/
structure Cpd (W : World) (b : Nat) (k : Nat) (d : ByteArray) : Prop where
  c0 : W.cell? ⟨b, 0, none⟩ = some (.int .u64 (k : Int))
  c1 : W.cell? ⟨b, 1, none⟩ = some (.string d)
  f0 : W.frozen? ⟨b + 1, 0, none⟩ = false
  f1 : W.frozen? ⟨b + 1, 1, none⟩ = false
  lt : b + 1 < W.heap.size
  e0 : W.cell? ⟨b + 1, 0, none⟩ = some (.int .u64 0)
  e1 : W.cell? ⟨b + 1, 1, none⟩ = some (.string ⟨#[]⟩)
theorem Cpd.below {W W' : World} {b k : Nat} {d : ByteArray} (h : Cpd W b k d) (hb : Below W.heap.size W W') : Cpd W' b k d := by
  obtain ⟨c0, c1, f0, f1, lt, e0, e1⟩ := h
  have hs := hb.size
  have hfz : ∀ i, W'.frozen? ⟨b + 1, i, none⟩ = W.frozen? ⟨b + 1, i, none⟩ := fun i => by
    unfold World.frozen?
    rw [hb.block (b + 1) lt]
  refine ⟨?_, ?_, ?_, ?_, by omega, ?_, ?_⟩
  · rw [hb.cell (p := ⟨b, 0, none⟩) (by simp; omega)]; exact c0
  · rw [hb.cell (p := ⟨b, 1, none⟩) (by simp; omega)]; exact c1
  · rw [hfz]; exact f0
  · rw [hfz]; exact f1
  · rw [hb.cell (p := ⟨b + 1, 0, none⟩) lt]; exact e0
  · rw [hb.cell (p := ⟨b + 1, 1, none⟩) lt]; exact e1

end Go.Proofs.Ytfjjigcghhohkaa
