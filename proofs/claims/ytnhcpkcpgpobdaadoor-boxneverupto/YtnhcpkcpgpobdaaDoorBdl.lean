/-
  What is kept where a struct of five cells is written; over this seat's program.
-/
import Derived.Test.YtnhcpkcpgpobdaaDoorBdm
set_option linter.unusedVariables false
set_option linter.unusedSimpArgs false
namespace Go.Proofs.YtnhcpkcpgpobdaaDoor
open Go.RowKit

theorem blk_belowC {w w' : World} {P C t : Nat} {cs : Array Value} (h : Blk w P t cs) (hb : Below C w w') (hC : P < C) : Blk w' P t cs := by
  unfold Blk at *
  rw [hb.block P hC]
  exact h
theorem outM5 {w : World} {v : Value} {l : List Msg} {S t : Nat} {cs : Array Value} (h : OutM w v l) (hb : Blk w S t cs) (hne : t ≠ 47) : ∀ u0 u1 u2 u3 u4, OutM (((((w.setCell ⟨S, 0, none⟩ u0).setCell ⟨S, 1, none⟩ u1).setCell ⟨S, 2, none⟩ u2).setCell ⟨S, 3, none⟩ u3).setCell ⟨S, 4, none⟩ u4) v l := by
  intro u0 u1 u2 u3 u4
  have b1 := hb.set 0 u0
  have b2 := b1.set 1 u1
  have b3 := b2.set 2 u2
  have b4 := b3.set 3 u3
  exact ((((h.set hb hne).set b1 hne).set b2 hne).set b3 hne).set b4 hne
theorem outT5 {w : World} {v : Value} {l : List Nat} {S t : Nat} {cs : Array Value} (h : OutT w v l) (hb : Blk w S t cs) (hne : t ≠ 22) : ∀ u0 u1 u2 u3 u4, OutT (((((w.setCell ⟨S, 0, none⟩ u0).setCell ⟨S, 1, none⟩ u1).setCell ⟨S, 2, none⟩ u2).setCell ⟨S, 3, none⟩ u3).setCell ⟨S, 4, none⟩ u4) v l := by
  intro u0 u1 u2 u3 u4
  have b1 := hb.set 0 u0
  have b2 := b1.set 1 u1
  have b3 := b2.set 2 u2
  have b4 := b3.set 3 u3
  exact ((((h.set hb hne).set b1 hne).set b2 hne).set b3 hne).set b4 hne
theorem blk5 {w : World} {S P t : Nat} {cs : Array Value} (h : Blk w P t cs) (hne : P ≠ S) : ∀ u0 u1 u2 u3 u4, Blk (((((w.setCell ⟨S, 0, none⟩ u0).setCell ⟨S, 1, none⟩ u1).setCell ⟨S, 2, none⟩ u2).setCell ⟨S, 3, none⟩ u3).setCell ⟨S, 4, none⟩ u4) P t cs := by
  intro u0 u1 u2 u3 u4
  exact ((((h.other (a := ⟨S, 0, none⟩) hne u0).other (a := ⟨S, 1, none⟩) hne u1).other (a := ⟨S, 2, none⟩) hne u2).other (a := ⟨S, 3, none⟩) hne u3).other (a := ⟨S, 4, none⟩) hne u4
theorem OutM.drewB {w : World} {v : Value} {l : List Msg} (h : OutM w v l) : OutM w.drew v l := ⟨own_drewB h.1, h.2⟩
theorem OutT.drewB {w : World} {v : Value} {l : List Nat} (h : OutT w v l) : OutT w.drew v l := ⟨own_drewB h.1, h.2⟩
theorem below_drewB {B : Nat} {w W : World} (h : Below B w W) : Below B w W.drew := ⟨h.os, h.tape, h.output, h.size, h.block⟩

end Go.Proofs.YtnhcpkcpgpobdaaDoor
