/-
  What missivetop.begins does, over this seat's program: it answers true.
-/
import Derived.Test.YtpfmhlldkikbjaaDoorSc2
set_option linter.unusedVariables false
namespace Go.Proofs.YtpfmhlldkikbjaaDoor
open Go.RowKit Go.Proofs.Num

theorem put_300 (w : World) : Calls Tryd.prog 15 #[.int .u64 300] w fun e w' => e = .returned (.string { data := #[172, 2] }) ∧ Below w.heap.size w w' := by
  have h := put_any 300 w (by decide)
  rw [show putL 300 = [172, 2] by rw [putL_big (by decide), putL_small (by decide)]; rfl] at h
  exact h
theorem get_300 (w : World) : Calls Tryd.prog 14 #[.string { data := #[172, 2, 120] }] w fun e w' => e = .returned (.tuple #[.int .u64 300, .string { data := #[120] }, .int .i64 0]) ∧ Below w.heap.size w w' := by
  have h := get_any { data := #[172, 2, 120] } w (by decide)
  rw [show scanL (ByteArray.mk #[172, 2, 120]).data.toList = (300, 2, 0) by decide +kernel, show restOf { data := #[172, 2, 120] } = { data := #[120] } by decide +kernel] at h
  exact h

set_option maxHeartbeats 400000 in
theorem begins_any (w : World) : Calls Tryd.prog 4 #[] w fun e w' => e = .returned (.bool true) ∧ Below w.heap.size w w' := by
  go_enter Tryd.func4, Tryd.ntmps4
  go_wp2_with fail
  refine (put_300 _).mono ?_
  rintro e w1 ⟨rfl, b1⟩
  go_wp2_with fail
  rw [show (({ data := #[172, 2] } : ByteArray) ++ { data := #[120] }) = { data := #[172, 2, 120] } by decide +kernel]
  refine (get_300 _).mono ?_
  rintro e w2 ⟨rfl, b2⟩
  go_wp2
  go_ret
  exact ⟨rfl, belows' b1 b2⟩
end Go.Proofs.YtpfmhlldkikbjaaDoor
