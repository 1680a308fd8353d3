/-
  Two files are compared, over this seat's program.
-/
import Derived.Test.YtmfkhbofmaonkaaDqa
import Derived.Laws.StructEq
set_option linter.unusedVariables false
set_option linter.unusedSimpArgs false
namespace Go.Proofs.Ytmfkhbofmaonkaa
open Go.RowKit Go.Proofs.Dsk

theorem held_file : Try.prog.stoodInHeld 56 = false := by kernel_rfl
theorem guard_file : Try.prog.eqGuardType Try.prog.depth 56 = false := by kernel_rfl
theorem fields_file : Try.prog.underlying 56 = some (.struct (Try.prog.fieldsOf 56)) := by
  unfold Program.fieldsOf; rw [Try.underlying56]
set_option maxHeartbeats 1000000 in
set_option maxRecDepth 100000 in
theorem neqF (n n' d d' : ByteArray) (s s' : Int) (W : World) :
    (binOp .neq 56 (.agg #[.string n, .string d, .int .i64 s]) (.agg #[.string n', .string d', .int .i64 s'])).run Try.prog W = .ok (.bool (!decide ((⟨n, d, s⟩ : File) = ⟨n', d', s'⟩))) W := by
  rw [run_neq_struct, run_equalIn_struct W 9999 _ _ _ fields_file held_file]
  simp only [Program.fieldsOf, Try.underlying56]
  have hd : decide ((⟨n, d, s⟩ : File) = ⟨n', d', s'⟩) = (decide (n = n') && (decide (d = d') && decide (s = s'))) := by
    by_cases h1 : n = n' <;> by_cases h2 : d = d' <;> by_cases h3 : s = s' <;> simp [h1, h2, h3]
  have hs : (s == s') = decide (s = s') := rfl
  rw [hd]
  have b1 := beqS n n'
  have b2 := beqS d d'
  cases h1 : decide (n = n') <;> cases h2 : decide (d = d') <;> cases h3 : decide (s = s') <;> rw [h1] at b1 <;> rw [h2] at b2 <;> rw [h3] at hs <;> go_simp
end Go.Proofs.Ytmfkhbofmaonkaa
