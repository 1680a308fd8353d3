/-
  Records that are joined, whole and torn, in plain mathematics.
-/
import Derived.Test.YtekcbkaanlngdabDoorWfr
set_option linter.unusedVariables false
namespace Go.Proofs.Frm
open Go.Proofs.Num Go.Proofs.Crc

/-- Some records' frames, one behind the other. -/
def joinedL (l : List (List UInt8)) : List UInt8 := (l.map frameL).flatten

theorem joinedL_cons (s : List UInt8) (l : List (List UInt8)) : joinedL (s :: l) = frameL s ++ joinedL l := by simp [joinedL]
theorem joinedL_nil : joinedL [] = [] := rfl

theorem allR_nil : allR [] = ([], 0) := rfl

theorem allR_joined : ∀ (l : List (List UInt8)), (∀ s ∈ l, s.length ≤ 1048576) → allR (joinedL l) = (l, (joinedL l).length) := by
  intro l
  induction l with
  | nil => intro _; exact allR_nil
  | cons s r ih =>
    intro h
    rw [joinedL_cons, allR_frame _ _ (h s (by simp)), ih (fun x hx => h x (by simp [hx]))]
    simp

/-- Of frames that are cut anywhere those that are whole are found. -/
theorem allR_torn : ∀ (l : List (List UInt8)) (c : Nat), (∀ s ∈ l, s.length ≤ 1048576) → c ≤ (joinedL l).length →
    ∃ k, k ≤ l.length ∧ allR ((joinedL l).take c) = (l.take k, (joinedL (l.take k)).length) ∧ (joinedL (l.take k)).length ≤ c ∧ (k < l.length → c < (joinedL (l.take (k + 1))).length) := by
  intro l
  induction l with
  | nil => intro c _ hc; exact ⟨0, by simp, by simp [joinedL_nil, allR_nil], by simp [joinedL_nil], by simp⟩
  | cons s r ih =>
    intro c h hc
    rw [joinedL_cons] at hc ⊢
    by_cases h1 : c < (frameL s).length
    · obtain ⟨e, he⟩ := findR_cut s c (h s (by simp)) h1
      have ht : (frameL s ++ joinedL r).take c = (frameL s).take c := by rw [List.take_append_of_le_length (by omega)]
      refine ⟨0, by simp, ?_, by simp [joinedL_nil], ?_⟩
      · rw [ht, allR_err he]; rfl
      · intro _
        rw [show (s :: r).take (0 + 1) = [s] by simp, joinedL_cons, joinedL_nil]
        simpa using h1
    · have hl : c - (frameL s).length ≤ (joinedL r).length := by
        rw [List.length_append] at hc; omega
      obtain ⟨k, k1, k2, k3, k4⟩ := ih (c - (frameL s).length) (fun x hx => h x (by simp [hx])) hl
      have ht : (frameL s ++ joinedL r).take c = frameL s ++ (joinedL r).take (c - (frameL s).length) := by
        rw [List.take_append, List.take_of_length_le (by omega)]
      refine ⟨k + 1, by simpa using k1, ?_, ?_, ?_⟩
      · rw [ht, allR_frame _ _ (h s (by simp)), k2, List.take_succ_cons, joinedL_cons]
        simp
      · rw [List.take_succ_cons, joinedL_cons, List.length_append]; omega
      · intro hk
        have := k4 (by simpa using hk)
        rw [List.take_succ_cons, joinedL_cons, List.length_append]; omega
end Go.Proofs.Frm
