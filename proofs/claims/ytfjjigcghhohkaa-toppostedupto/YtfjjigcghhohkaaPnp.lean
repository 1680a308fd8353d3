/-
  What (*strings.Builder).String does, and which blocks lie as they lay, over this seat's program.
-/
import Derived.Test.YtfjjigcghhohkaaPnm
set_option linter.unusedVariables false
namespace Go.Proofs.Ytfjjigcghhohkaa
open Go.RowKit

theorem Kp.freeze {b gb : Nat} {W : World} (n : Nat) : Kp b (some gb) W (W.drew.freeze ⟨gb, 0, none⟩ n) := by
  have h := Lib.below_freeze (Below.drew (Below.refl gb W)) (p := ⟨gb, 0, none⟩) (Nat.le_refl _) n
  refine ⟨h.os, h.tape, h.output, h.size, fun k hk _ hg => ?_⟩
  have hne : k ≠ gb := fun e => hg (by rw [e])
  by_cases hlt : k < gb
  · exact h.block k hlt
  · have h2 : (W.drew.freeze ⟨gb, 0, none⟩ n).heap[k]? = W.drew.heap[k]? := by
      unfold World.freeze
      by_cases hn : n = 0
      · rw [if_pos hn]
      · rw [if_neg hn]
        simp [Array.getElem?_modify, hne.symm]
    exact h2

set_option maxHeartbeats 2000000 in
set_option maxRecDepth 100000 in
theorem string_r {W : World} {B b : Nat} {g : Option Nat} {l : List UInt8} (h : Bdr W B b g l) (hz : l = [] → g = none) :
    Calls Try.prog 24 #[.pointer (some ⟨b, 0, none⟩)] W fun e w' => e = .returned (.string ⟨l.toArray⟩) ∧ Kp b g W w' := by
  obtain ⟨p, v, hbk, hvg⟩ := h.row
  have hown : W.ownsRowF B 5 1 v l.length (Lib.byteCells l) := by
    rcases h.isb with ⟨hB, v1, hb1, ho1, hn1⟩ | ⟨hB, v1, hb1, ho1, hn1⟩
    all_goals
      have hb4 := hb1.symm.trans hbk
      injection hb4 with e1
      injection e1 with e2
      have := congrArg (fun a => a[1]?) e2
      have hv : v1 = v := by simpa using this
      subst hv
      rw [Lib.byteCells_length] at ho1
      exact ho1
  by_cases h0 : l = []
  · have hgn := hz h0
    subst h0
    rcases hown.2 with ⟨rfl, _⟩ | ⟨g1, cap, cur, fz, rfl, _⟩
    · have c1 : W.drew.cell? ⟨b, 1, none⟩ = some (.slice none 0 0) := by
        have : W.drew.heap[b]? = some (.cells #[p, .slice none 0 0] 54 (0, 0)) := hbk
        rw [Lib.cell_of_heap this]; rfl
      have hSD : (Builtin.unsafeSliceData_ #[52] 90 #[.slice none 0 0]).run Try.prog W.drew = .ok (.pointer none) W.drew := rfl
      have hUS : ∀ w, (Builtin.unsafeString_ #[90, 3] 9 #[.pointer none, .int .i64 0]).run Try.prog w = .ok (.string ⟨#[]⟩) w := fun w => Any.unsafeString_none Try.lays169 Try.Builder_Extra_169 w none
      have HK := hide (show Kp b g W W.drew from ⟨rfl, rfl, rfl, Nat.le_refl _, fun _ _ _ _ => rfl⟩)
      clear h hbk hown hvg
      go_enter Try.func24, Try.ntmps24
      go_wp2
      go_region
      all_goals (go_wp2; go_ret; exact ⟨rfl, unhide HK⟩)
    · rw [← hvg] at hgn
      cases hgn
  · have hl0 : l.length ≠ 0 := by simpa using h0
    obtain ⟨g1, cap, cur, fz, rfl, hbg, hg, hfz, hnc, hcm, hcs, htake⟩ : ∃ g cap cur fz, v = .slice (some ⟨g, 0, none⟩) l.length cap ∧ B ≤ g ∧ W.heap[g]? = some (.cells cur 5 fz) ∧ fz.2 ≤ l.length * 1 ∧ l.length ≤ cap ∧ cap ≤ maxLen ∧ cur.size = cap * 1 ∧ cur.toList.take (l.length * 1) = Lib.byteCells l := by
      rcases hown.2 with ⟨_, hz⟩ | ⟨g, cap, cur, fz, hv, r⟩
      · exact absurd hz hl0
      · exact ⟨g, cap, cur, fz, hv, r⟩
    have c1 : W.drew.cell? ⟨b, 1, none⟩ = some (.slice (some ⟨g1, 0, none⟩) l.length cap) := by
      have : W.drew.heap[b]? = some (.cells #[p, .slice (some ⟨g1, 0, none⟩) l.length cap] 54 (0, 0)) := hbk
      rw [Lib.cell_of_heap this]; rfl
    have hSD : (Builtin.unsafeSliceData_ #[52] 90 #[.slice (some ⟨g1, 0, none⟩) l.length cap]).run Try.prog W.drew = .ok (.pointer (some ⟨g1, 0, none⟩)) W.drew :=
      Lib.run_unsafeSliceData_row _ _ _ _ _ _ (by omega)
    have hUS : (Builtin.unsafeString_ #[90, 3] 9 #[.pointer (some ⟨g1, 0, none⟩), .int .i64 l.length]).run Try.prog W.drew = .ok (.string ⟨l.toArray⟩) (W.drew.freeze ⟨g1, 0, none⟩ l.length) := by
      refine Lib.run_unsafeString_row W.drew 90 3 9 5 Try.underlying90 Try.Builder_Extra_169.cellsByte g1 cur.size (by have hg' : W.drew.heap[g1]? = some (.cells cur 5 fz) := hg; simp [World.shape?, hg']) l h0 (by omega) (by unfold maxLen at hcm; omega) ?_
      intro j x hx
      have := hown.cells (g := g1) rfl j (.int .u8 x.toNat) (by simp [Lib.byteCells, hx])
      exact this
    have hgg : g = some g1 := hvg.symm
    subst hgg
    have HK := hide (Kp.freeze (b := b) (gb := g1) (W := W) l.length)
    clear h hbk hown hvg hg htake hz
    go_enter Try.func24, Try.ntmps24
    go_wp2
    go_region
    all_goals (go_wp2; go_ret; exact ⟨rfl, unhide HK⟩)
end Go.Proofs.Ytfjjigcghhohkaa
