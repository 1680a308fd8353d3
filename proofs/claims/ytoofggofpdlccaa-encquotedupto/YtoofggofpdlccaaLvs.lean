/-
  What missivelaw05.lives does, over this seat's program: it answers true.
-/
import Derived.Test.YtoofggofpdlccaaStc
import Derived.Test.YtoofggofpdlccaaFqo
set_option linter.unusedVariables false
namespace Go.Proofs.Ytoofggofpdlccaa
open Go.RowKit Go.Proofs.Enc

theorem lit_from (w : World) : Calls Try.prog 8 #[.string ⟨#[84, 32, 87, 33, 69, 61, 65]⟩] w fun e w' => e = .returned (.tuple #[.string ⟨#[77, 97]⟩, .int .i64 1]) ∧ Below w.heap.size w w' := by
  have h := from64_any ⟨#[84, 32, 87, 33, 69, 61, 65]⟩ w (by decide)
  rw [show from64 0 0 (ByteArray.mk #[84, 32, 87, 33, 69, 61, 65]).data.toList = ([77, 97], 1) by decide +kernel] at h
  exact h
theorem lit_fq (w : World) : Calls Try.prog 15 #[.string ⟨#[97, 61, 51, 68, 98, 32, 10, 61, 122, 61, 10, 120]⟩] w fun e w' => e = .returned (.tuple #[.string ⟨#[97, 61, 98, 10, 61, 122, 120]⟩, .int .i64 1]) ∧ Below w.heap.size w w' := by
  have h := fromQuoted_any ⟨#[97, 61, 51, 68, 98, 32, 10, 61, 122, 61, 10, 120]⟩ w (by decide)
  rw [show fq (ByteArray.mk #[97, 61, 51, 68, 98, 32, 10, 61, 122, 61, 10, 120]).data.toList = ([97, 61, 98, 10, 61, 122, 120], 1) by decide +kernel] at h
  exact h
theorem lit_strict (w : World) : Calls Try.prog 10 #[.string ⟨#[84, 87, 69, 61]⟩] w fun e w' => e = .returned (.tuple #[.string ⟨#[77, 97]⟩, .int .i64 0]) ∧ Below w.heap.size w w' := by
  have h := strict_any ⟨#[84, 87, 69, 61]⟩ w (by decide)
  rw [show strictR (ByteArray.mk #[84, 87, 69, 61]).data.toList = ([77, 97], 0) by decide +kernel] at h
  exact h
theorem lit_wrong (w : World) : Calls Try.prog 10 #[.string ⟨#[84, 87, 70, 61]⟩] w fun e w' => e = .returned (.tuple #[.string ⟨#[]⟩, .int .i64 7]) ∧ Below w.heap.size w w' := by
  have h := strict_any ⟨#[84, 87, 70, 61]⟩ w (by decide)
  rw [show strictR (ByteArray.mk #[84, 87, 70, 61]).data.toList = ([], 7) by decide +kernel] at h
  exact h
theorem lit_base (w : World) : Calls Try.prog 13 #[.string ⟨#[77, 97]⟩] w fun e w' => e = .returned (.string ⟨#[84, 87, 69, 61]⟩) ∧ Below w.heap.size w w' := by
  have h := base64_any ⟨#[77, 97]⟩ w (by decide)
  rw [show b64 (ByteArray.mk #[77, 97]).data.toList = [84, 87, 69, 61] by decide +kernel] at h
  exact h
theorem lit_quoted (w : World) : Calls Try.prog 17 #[.string ⟨#[97, 61, 98, 32]⟩] w fun e w' => e = .returned (.string ⟨#[97, 61, 51, 68, 98, 61, 50, 48]⟩) ∧ Below w.heap.size w w' := by
  have h := quoted_any ⟨#[97, 61, 98, 32]⟩ w (by decide)
  rw [show quo (ByteArray.mk #[97, 61, 98, 32]).data.toList = [97, 61, 51, 68, 98, 61, 50, 48] by decide +kernel] at h
  exact h

set_option maxHeartbeats 1000000 in
set_option maxRecDepth 100000 in
theorem lives_any (w : World) : Calls Try.prog 12 #[] w fun e w' => e = .returned (.bool true) ∧ Below w.heap.size w w' := by
  go_enter Try.func12, Try.ntmps12
  go_wp2_with fail
  refine (lit_from _).mono ?_
  rintro e w1 ⟨rfl, b1⟩
  go_wp2_with fail
  refine (lit_fq _).mono ?_
  rintro e w2 ⟨rfl, b2⟩
  go_wp2_with fail
  refine (lit_strict _).mono ?_
  rintro e w3 ⟨rfl, b3⟩
  go_wp2_with fail
  refine (lit_wrong _).mono ?_
  rintro e w4 ⟨rfl, b4⟩
  go_wp2_with fail
  refine (lit_base _).mono ?_
  rintro e w5 ⟨rfl, b5⟩
  go_wp2_with fail
  refine (lit_quoted _).mono ?_
  rintro e w6 ⟨rfl, b6⟩
  go_wp2
  go_ret
  exact ⟨rfl, belows' (belows' (belows' (belows' (belows' b1 b2) b3) b4) b5) b6⟩
end Go.Proofs.Ytoofggofpdlccaa
