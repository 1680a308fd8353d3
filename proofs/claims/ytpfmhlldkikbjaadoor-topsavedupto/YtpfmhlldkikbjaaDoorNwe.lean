/-
  What nset.put does where the span touches the last one, over this seat's program.
-/
import Derived.Test.YtpfmhlldkikbjaaDoorNwd
import Derived.BigRegion
set_option linter.unusedVariables false
namespace Go.Proofs.YtpfmhlldkikbjaaDoor
open Go.RowKit Go.Proofs.Nst

theorem putS_fit {L : List Sp} {s : Sp} (hf : ∀ x ∈ L, FitS x) (hs : FitS s) : ∀ x ∈ putS L s, FitS x := by
  rcases snoc_cases L with rfl | ⟨r, b, rfl⟩
  · intro x hx; simp [putS_nil] at hx; rw [hx]; exact hs
  · have hb := hf b (by simp)
    by_cases h : b.2 + 1 < s.1
    · rw [putS_far h]
      intro x hx
      rcases List.mem_append.1 hx with hx | hx
      · exact hf x hx
      · simp at hx; rw [hx]; exact hs
    · rw [putS_near h]
      intro x hx
      rcases List.mem_append.1 hx with hx | hx
      · exact hf x (by simp [hx])
      · simp at hx
        rw [hx]
        exact ⟨hb.1, Nat.max_le.2 ⟨hb.2, hs.2⟩⟩
end Go.Proofs.YtpfmhlldkikbjaaDoor
