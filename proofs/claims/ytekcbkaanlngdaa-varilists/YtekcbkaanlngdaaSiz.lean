/-
  What vari.Size and the first statements' own questions (numbers) do, over this seat's program.
-/
import Derived.Test.YtekcbkaanlngdaaScn
import Derived.Test.YtekcbkaanlngdaaEvn
import Derived.Lib.ItoaNum
set_option linter.unusedVariables false
namespace Go.Proofs.Ytekcbkaanlngdaa
open Go.RowKit Go.Proofs.Num

theorem len_bits (n : Nat) (h : n < 18446744073709551616) : (putL n).length = max 1 ((Lib.bitLen n + 6) / 7) ∧ Lib.bitLen n ≤ 64 := by
  have hb := Lib.bitLen_le n 64 (by omega) h
  refine ⟨?_, hb⟩
  by_cases h0 : n = 0
  · subst h0
    rw [putL_small (by omega)]
    have : Lib.bitLen 0 = 0 := by decide
    rw [this]; rfl
  · have hx := Lib.bitLenAux_bounds 64 n h h0
    have hl : Lib.bitLen n = Lib.bitLenAux 64 n := rfl
    rw [← hl] at hx
    generalize Lib.bitLen n = q at *
    obtain ⟨h1, h2, h3⟩ := hx
    obtain ⟨m, hm⟩ : ∃ m, (q + 6) / 7 = m + 1 := ⟨(q + 6) / 7 - 1, by omega⟩
    have hle : (putL n).length ≤ m + 1 := (putL_len m n).2 (Nat.lt_of_lt_of_le h3 (Nat.pow_le_pow_right (by decide) (by omega)))
    have hge : m + 1 ≤ (putL n).length := by
      cases m with
      | zero => exact putL_pos n
      | succ m =>
        have : ¬ (putL n).length ≤ m + 1 := by
          rw [putL_len m n]
          have : 2 ^ (7 * (m + 1)) ≤ 2 ^ (q - 1) := Nat.pow_le_pow_right (by decide) (by omega)
          omega
        omega
    rw [hm]
    omega

set_option maxHeartbeats 400000 in
theorem size_any (n : Nat) (w : World) (hn : n < 18446744073709551616) :
    Calls Try.prog 14 #[.int .u64 n] w fun e w' => e = .returned (.int .i64 (putL n).length) ∧ w' = w := by
  obtain ⟨hl, hb⟩ := len_bits n hn
  have hlen := Try.bits_Len64 n w (by omega) (by omega)
  rw [Int.toNat_natCast] at hlen
  have HL := hide hl
  have HC := hide hlen
  clear hl hlen
  go_enter Try.func14, Try.ntmps14
  go_wp2_with (go_at_call 30; refine (unhide HC).mono ?_; rintro e w1 ⟨rfl, rfl⟩)
  go_ret
  exact ⟨ret_int (by rw [unhide HL]; omega), rfl⟩

theorem get_lit1 (w : World) : Calls Try.prog 9 #[.string { data := #[172, 2, 120] }] w fun e w' => e = .returned (.tuple #[.int .u64 300, .string { data := #[120] }, .int .i64 0]) ∧ Below w.heap.size w w' := by
  have h := get_any { data := #[172, 2, 120] } w (by decide)
  rw [show scanL (ByteArray.mk #[172, 2, 120]).data.toList = (300, 2, 0) by decide +kernel, show restOf { data := #[172, 2, 120] } = { data := #[120] } by decide +kernel] at h
  exact h
theorem get_lit2 (w : World) : Calls Try.prog 9 #[.string { data := #[128, 0] }] w fun e w' => e = .returned (.tuple #[.int .u64 0, .string { data := #[] }, .int .i64 7]) ∧ Below w.heap.size w w' := by
  have h := get_any { data := #[128, 0] } w (by decide)
  rw [show scanL (ByteArray.mk #[128, 0]).data.toList = (0, 0, 7) by decide +kernel, show restOf { data := #[128, 0] } = { data := #[] } by decide +kernel] at h
  exact h
theorem get_lit3 (w : World) : Calls Try.prog 9 #[.string { data := #[128] }] w fun e w' => e = .returned (.tuple #[.int .u64 0, .string { data := #[] }, .int .i64 5]) ∧ Below w.heap.size w w' := by
  have h := get_any { data := #[128] } w (by decide)
  rw [show scanL (ByteArray.mk #[128]).data.toList = (0, 0, 5) by decide +kernel, show restOf { data := #[128] } = { data := #[] } by decide +kernel] at h
  exact h
theorem put_lit (w : World) : Calls Try.prog 12 #[.int .u64 300] w fun e w' => e = .returned (.string { data := #[172, 2] }) ∧ Below w.heap.size w w' := by
  have h := put_any 300 w (by decide)
  rw [show putL 300 = [172, 2] by rw [putL_big (by decide), putL_small (by decide)]; rfl] at h
  exact h
theorem size_lit (w : World) : Calls Try.prog 14 #[.int .u64 300] w fun e w' => e = .returned (.int .i64 2) ∧ w' = w := by
  have h := size_any 300 w (by decide)
  rw [show putL 300 = [172, 2] by rw [putL_big (by decide), putL_small (by decide)]; rfl] at h
  exact h

theorem belows {w a b : World} (h1 : Below w.heap.size w a) (h2 : Below a.heap.size a b) : Below w.heap.size w b := h1.trans (h2.mono h1.size)

set_option maxHeartbeats 1000000 in
set_option maxRecDepth 100000 in
theorem numbers_any (w : World) : Calls Try.prog 11 #[] w fun e w' => e = .returned (.bool true) ∧ Below w.heap.size w w' := by
  go_enter Try.func11, Try.ntmps11
  go_wp2_with fail
  refine (get_lit1 _).mono ?_
  rintro e w1 ⟨rfl, b1⟩
  go_wp2_with fail
  refine (get_lit2 _).mono ?_
  rintro e w2 ⟨rfl, b2⟩
  go_wp2_with fail
  refine (get_lit3 _).mono ?_
  rintro e w3 ⟨rfl, b3⟩
  go_wp2_with fail
  refine (put_lit _).mono ?_
  rintro e w4 ⟨rfl, b4⟩
  go_wp2_with fail
  refine (size_lit _).mono ?_
  rintro e w5 ⟨rfl, rfl⟩
  go_wp2_with fail
  refine (even_any (-1) _ (by decide) (by decide)).mono ?_
  rintro e w6 ⟨rfl, rfl⟩
  go_wp2_with fail
  refine (whole_any 4 _ (by decide) (by decide)).mono ?_
  rintro e w7 ⟨rfl, rfl⟩
  go_wp2
  go_ret
  exact ⟨rfl, belows (belows (belows b1 b2) b3) b4⟩
end Go.Proofs.Ytekcbkaanlngdaa
