/-
  What vari.Size and the first statements' own questions (numbers) do, over this seat's program.
-/
import Derived.Test.YtekcbkaanlngdabDoorScn
import Derived.Test.YtekcbkaanlngdabDoorEvn
import Derived.Lib.ItoaNum
set_option linter.unusedVariables false
namespace Go.Proofs.YtekcbkaanlngdabDoor
open Go.RowKit Go.Proofs.Num

theorem len_bits (n : Nat) (h : n < 18446744073709551616) : (putL n).length = max 1 ((Lib.bitLen n + 6) / 7) ∧ Lib.bitLen n ≤ 64 := by
  have hb := Lib.bitLen_le n 64 (by omega) h
  refine ⟨?_, hb⟩
  by_cases h0 : n = 0
  · subst h0
    rw [putL_small (by omega)]
    have : Lib.bitLen 0 = 0 := by decide
    rw [this]; rfl
  · have hx := Lib.bitLenAux_bounds 64 n h h0
    have hl : Lib.bitLen n = Lib.bitLenAux 64 n := rfl
    rw [← hl] at hx
    generalize Lib.bitLen n = q at *
    obtain ⟨h1, h2, h3⟩ := hx
    obtain ⟨m, hm⟩ : ∃ m, (q + 6) / 7 = m + 1 := ⟨(q + 6) / 7 - 1, by omega⟩
    have hle : (putL n).length ≤ m + 1 := (putL_len m n).2 (Nat.lt_of_lt_of_le h3 (Nat.pow_le_pow_right (by decide) (by omega)))
    have hge : m + 1 ≤ (putL n).length := by
      cases m with
      | zero => exact putL_pos n
      | succ m =>
        have : ¬ (putL n).length ≤ m + 1 := by
          rw [putL_len m n]
          have : 2 ^ (7 * (m + 1)) ≤ 2 ^ (q - 1) := Nat.pow_le_pow_right (by decide) (by omega)
          omega
        omega
    rw [hm]
    omega

set_option maxHeartbeats 400000 in
theorem size_any (n : Nat) (w : World) (hn : n < 18446744073709551616) :
    Calls Tryd.prog 37 #[.int .u64 n] w fun e w' => e = .returned (.int .i64 (putL n).length) ∧ w' = w := by
  obtain ⟨hl, hb⟩ := len_bits n hn
  have hlen := Tryd.bits_Len64 n w (by omega) (by omega)
  rw [Int.toNat_natCast] at hlen
  have HL := hide hl
  have HC := hide hlen
  clear hl hlen
  go_enter Tryd.func37, Tryd.ntmps37
  go_wp2_with (go_at_call 42; refine (unhide HC).mono ?_; rintro e w1 ⟨rfl, rfl⟩)
  go_ret
  exact ⟨ret_int (by rw [unhide HL]; omega), rfl⟩

theorem belows {w a b : World} (h1 : Below w.heap.size w a) (h2 : Below a.heap.size a b) : Below w.heap.size w b := h1.trans (h2.mono h1.size)

end Go.Proofs.YtekcbkaanlngdabDoor
