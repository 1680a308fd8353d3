/-
  Two files are compared, over this seat's program.
-/
import Derived.Test.YtagcdjjgflmihaaDqa
import Derived.Laws.StructEq
set_option linter.unusedVariables false
set_option linter.unusedSimpArgs false
namespace Go.Proofs.Ytagcdjjgflmihaa
open Go.RowKit Go.Proofs.Dsk

theorem held_file : Try.prog.stoodInHeld 47 = false := by kernel_rfl
theorem guard_file : Try.prog.eqGuardType Try.prog.depth 47 = false := by kernel_rfl
theorem fields_file : Try.prog.underlying 47 = some (.struct (Try.prog.fieldsOf 47)) := by
  unfold Program.fieldsOf; rw [Try.underlying47]
set_option maxHeartbeats 1000000 in
set_option maxRecDepth 100000 in
theorem neqF (n n' d d' : ByteArray) (s s' : Int) (W : World) :
    (binOp .neq 47 (.agg #[.string n, .string d, .int .i64 s]) (.agg #[.string n', .string d', .int .i64 s'])).run Try.prog W = .ok (.bool (!decide ((⟨n, d, s⟩ : File) = ⟨n', d', s'⟩))) W := by
  rw [run_neq_struct, run_equalIn_struct W 9999 _ _ _ fields_file held_file]
  simp only [Program.fieldsOf, Try.underlying47]
  have hd : decide ((⟨n, d, s⟩ : File) = ⟨n', d', s'⟩) = (decide (n = n') && (decide (d = d') && decide (s = s'))) := by
    by_cases h1 : n = n' <;> by_cases h2 : d = d' <;> by_cases h3 : s = s' <;> simp [h1, h2, h3]
  have hs : (s == s') = decide (s = s') := rfl
  rw [hd]
  have b1 := beqS n n'
  have b2 := beqS d d'
  cases h1 : decide (n = n') <;> cases h2 : decide (d = d') <;> cases h3 : decide (s = s') <;> rw [h1] at b1 <;> rw [h2] at b2 <;> rw [h3] at hs <;> go_simp
end Go.Proofs.Ytagcdjjgflmihaa
