/-
  Blocks beside a file system at work, over this seat's program.
-/
import Derived.Test.YtmfkhbofmaonkaaCrx
import Derived.Deep.RegionHeld3
set_option linter.unusedVariables false
set_option linter.unusedSimpArgs false
namespace Go.Proofs.Ytmfkhbofmaonkaa
open Go.RowKit Go.Proofs.Dsk Go.Lib

theorem ob_some (g n cap : Nat) : (Value.slice (some ⟨g, 0, none⟩) n cap).ownBlock = some g := rfl
/-- All blocks of other kinds are as they were. -/
def SA (B p q g i N cap : Nat) (nm dt : ByteArray) (sy : Int) (w : World) : Prop :=
  w.cell? ⟨p, 0, none⟩ = some (.pointer (some ⟨B, 0, none⟩)) ∧ w.cell? ⟨q, 0, none⟩ = some (.int .i64 i) ∧ w.cell? ⟨B, 1, none⟩ = some (.slice (some ⟨g, 0, none⟩) N cap) ∧ w.cell? ⟨g, i * 3, none⟩ = some (.string nm) ∧ w.cell? ⟨g, i * 3 + 1, none⟩ = some (.string dt) ∧ w.cell? ⟨g, i * 3 + 2, none⟩ = some (.int .i64 sy)
def SB (B p q i : Nat) (w : World) : Prop := w.cell? ⟨p, 0, none⟩ = some (.pointer (some ⟨B, 0, none⟩)) ∧ w.cell? ⟨q, 0, none⟩ = some (.int .i64 i) ∧ w.frozen? ⟨B, 1, none⟩ = false
def SC (B p r fb : Nat) (d : Fs) (v : Value) (to dt : ByteArray) (sy : Int) (w : World) : Prop :=
  w.cell? ⟨p, 0, none⟩ = some (.pointer (some ⟨B, 0, none⟩)) ∧ w.cell? ⟨r, 0, none⟩ = some (.string to) ∧ w.cell? ⟨B, 0, none⟩ = some (.int .i64 d.room) ∧ w.cell? ⟨B, 1, none⟩ = some v ∧ w.cell? ⟨B, 2, none⟩ = some (.int .i64 d.fuse) ∧ w.cell? ⟨B, 3, none⟩ = some (.int .i64 d.fault) ∧ w.cell? ⟨B, 4, none⟩ = some (.bool d.down) ∧ w.cell? ⟨fb, 0, none⟩ = some (.string to) ∧ w.cell? ⟨fb, 1, none⟩ = some (.string dt) ∧ w.cell? ⟨fb, 2, none⟩ = some (.int .i64 sy)
theorem blk_far {w : World} {p b i : Nat} {t : TypeId} {cs : Array Value} (h : Blk w p t cs) (hne : p ≠ b) (u : Value) : Blk (w.setCell ⟨b, i, none⟩ u) p t cs := h.other (a := ⟨b, i, none⟩) hne u

theorem cell3_far {w : World} {p i g o : Nat} (u0 u1 u2 : Value) (j k : Nat) (h : p ≠ g) : (((w.setCell ⟨g, o, none⟩ u0).setCell ⟨g, j, none⟩ u1).setCell ⟨g, k, none⟩ u2).cell? ⟨p, i, none⟩ = w.cell? ⟨p, i, none⟩ := by
  rw [World.cell?_setCell_far _ _ _ _ (fun e => h e.symm), World.cell?_setCell_far _ _ _ _ (fun e => h e.symm), World.cell?_setCell_far _ _ _ _ (fun e => h e.symm)]
/-- A file is written over by another one. -/
theorem SysV.file3 {w : World} {C B g m cap i : Nat} {d : Fs} {f : File} (h : SysV w C B (.slice (some ⟨g, 0, none⟩) m cap) d) (hm : d.files.length = m) (hi : i < d.files.length) (hf : Fits f) :
    Sys (((w.setCell ⟨g, i * 3, none⟩ (.string f.name)).setCell ⟨g, i * 3 + 1, none⟩ (.string f.data)).setCell ⟨g, i * 3 + 2, none⟩ (.int .i64 f.synced)) C B { d with files := d.files.set i f } := by
  subst hm
  have hfi := h.2.1.2.1 _ (List.getElem_mem hi)
  have h1 := h.file (f := { d.files[i] with name := f.name }) (u := .string f.name) hi (show 0 < 3 by omega) rfl ⟨hf.1, hfi.2⟩
  have hi1 : i < (d.files.set i { d.files[i] with name := f.name }).length := by rw [List.length_set]; exact hi
  have h2 := SysV.file (f := { f with synced := d.files[i].synced }) (u := .string f.data) h1 hi1 (show 1 < 3 by omega) (by simp [cellsF]) ⟨hf.1, hf.2.1, hfi.2.2⟩
  simp only [setset] at h2
  have hi2 : i < (d.files.set i { f with synced := d.files[i].synced }).length := by rw [List.length_set]; exact hi
  have h3 := SysV.file (f := f) (u := .int .i64 f.synced) h2 hi2 (show 2 < 3 by omega) (by simp [cellsF]) hf
  simp only [setset] at h3
  exact h3.sys

end Go.Proofs.Ytmfkhbofmaonkaa
