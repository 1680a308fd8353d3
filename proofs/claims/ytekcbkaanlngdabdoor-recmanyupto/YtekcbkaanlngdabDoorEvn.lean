/-
  What vari.Even, vari.Whole and the document's own do, over this seat's program: they answer the even form, and its number, and turn no memory.
-/
import Derived.Test.YtekcbkaanlngdabDoorBld
import Derived.Laws.BitsAllLaws
set_option linter.unusedVariables false
namespace Go.Proofs.YtekcbkaanlngdabDoor
open Go.RowKit

def evenI (n : Int) : Int := if 0 ≤ n then 2 * n else -2 * n - 1
def wholeI (n : Int) : Int := if n % 2 = 0 then n / 2 else -(n / 2) - 1

theorem ret_int {k : IntKind} {a b : Int} (h : a = b) : Ending.returned (.int k a) = .returned (.int k b) := by rw [h]

theorem ret_bool {b : Bool} (h : b = true) : Ending.returned (.bool b) = .returned (.bool true) := by rw [h]

theorem ofInt_nat (x : Int) (h0 : 0 ≤ x) (h1 : x < 18446744073709551616) : (BitVec.ofInt 64 x).toNat = x.toNat := by
  obtain ⟨m, rfl⟩ := Int.eq_ofNat_of_zero_le h0
  rw [ofInt_u64 m (by omega)]; simp

theorem allOnes64 : BitVec.ofInt 64 (-1) = BitVec.allOnes 64 := by decide

theorem not_i64 (x : Int) (h0 : 0 ≤ x) (h1 : x ≤ 9223372036854775807) : bits .xor .i64 (-1) x = -x - 1 := by
  show IntKind.i64.wrap ((BitVec.ofInt 64 (-1) ^^^ BitVec.ofInt 64 x).toNat : Int) = _
  rw [allOnes64, BitVec.allOnes_xor, BitVec.toNat_not, ofInt_nat x h0 (by omega), IntKind.wrap_i64]
  omega

theorem not_u64 (x : Int) (h0 : 0 ≤ x) (h1 : x < 18446744073709551616) : bits .xor .u64 IntKind.u64.max x = 18446744073709551615 - x := by
  show IntKind.u64.wrap ((BitVec.ofInt 64 IntKind.u64.max ^^^ BitVec.ofInt 64 x).toNat : Int) = _
  rw [show BitVec.ofInt 64 IntKind.u64.max = BitVec.allOnes 64 by decide, BitVec.allOnes_xor, BitVec.toNat_not, ofInt_nat x h0 h1, IntKind.wrap_u64]
  omega

theorem and_one (n : Int) (h0 : 0 ≤ n) (h1 : n < 18446744073709551616) : bits .and .u64 n 1 = n % 2 := by
  rw [u64_and n 1 h0 h1 (by decide) (by decide), show (1 : Int).toNat = 1 from rfl, nat_mask1]
  omega

theorem even_neg (n : Int) (h0 : -9223372036854775808 ≤ n) (h1 : n < 0) : bits .xor .u64 IntKind.u64.max (IntKind.u64.wrap (IntKind.u64.wrap n * 2)) = evenI n := by
  rw [IntKind.wrap_u64, IntKind.wrap_u64, not_u64 _ (by omega) (by omega)]
  unfold evenI
  rw [if_neg (by omega)]
  omega

theorem whole_even (n : Int) : wholeI (evenI n) = n := by
  unfold wholeI evenI
  by_cases h : 0 ≤ n
  · rw [if_pos h, if_pos (by omega)]; omega
  · rw [if_neg h, if_neg (by omega)]; omega
theorem even_whole (n : Int) (h : 0 ≤ n) : evenI (wholeI n) = n := by
  unfold wholeI evenI
  by_cases h2 : n % 2 = 0
  · rw [if_pos h2, if_pos (by omega)]; omega
  · rw [if_neg h2, if_neg (by omega)]; omega
theorem evenI_range (n : Int) (h0 : -9223372036854775808 ≤ n) (h1 : n ≤ 9223372036854775807) : 0 ≤ evenI n ∧ evenI n ≤ 18446744073709551615 := by
  unfold evenI; split <;> omega
theorem wholeI_range (n : Int) (h0 : 0 ≤ n) (h1 : n ≤ 18446744073709551615) : -9223372036854775808 ≤ wholeI n ∧ wholeI n ≤ 9223372036854775807 := by
  unfold wholeI; split <;> omega
end Go.Proofs.YtekcbkaanlngdabDoor
