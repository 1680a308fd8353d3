/-
  What vari.Even, vari.Whole and the document's own do, over this seat's program: they answer the even form, and its number, and turn no memory.
-/
import Derived.Test.YtekcbkaanlngdaaBld
import Derived.Laws.BitsAllLaws
set_option linter.unusedVariables false
namespace Go.Proofs.Ytekcbkaanlngdaa
open Go.RowKit

def evenI (n : Int) : Int := if 0 ≤ n then 2 * n else -2 * n - 1
def wholeI (n : Int) : Int := if n % 2 = 0 then n / 2 else -(n / 2) - 1

theorem ret_int {k : IntKind} {a b : Int} (h : a = b) : Ending.returned (.int k a) = .returned (.int k b) := by rw [h]

theorem ret_bool {b : Bool} (h : b = true) : Ending.returned (.bool b) = .returned (.bool true) := by rw [h]

theorem ofInt_nat (x : Int) (h0 : 0 ≤ x) (h1 : x < 18446744073709551616) : (BitVec.ofInt 64 x).toNat = x.toNat := by
  obtain ⟨m, rfl⟩ := Int.eq_ofNat_of_zero_le h0
  rw [ofInt_u64 m (by omega)]; simp

theorem allOnes64 : BitVec.ofInt 64 (-1) = BitVec.allOnes 64 := by decide

theorem not_i64 (x : Int) (h0 : 0 ≤ x) (h1 : x ≤ 9223372036854775807) : bits .xor .i64 (-1) x = -x - 1 := by
  show IntKind.i64.wrap ((BitVec.ofInt 64 (-1) ^^^ BitVec.ofInt 64 x).toNat : Int) = _
  rw [allOnes64, BitVec.allOnes_xor, BitVec.toNat_not, ofInt_nat x h0 (by omega), IntKind.wrap_i64]
  omega

theorem not_u64 (x : Int) (h0 : 0 ≤ x) (h1 : x < 18446744073709551616) : bits .xor .u64 IntKind.u64.max x = 18446744073709551615 - x := by
  show IntKind.u64.wrap ((BitVec.ofInt 64 IntKind.u64.max ^^^ BitVec.ofInt 64 x).toNat : Int) = _
  rw [show BitVec.ofInt 64 IntKind.u64.max = BitVec.allOnes 64 by decide, BitVec.allOnes_xor, BitVec.toNat_not, ofInt_nat x h0 h1, IntKind.wrap_u64]
  omega

theorem and_one (n : Int) (h0 : 0 ≤ n) (h1 : n < 18446744073709551616) : bits .and .u64 n 1 = n % 2 := by
  rw [u64_and n 1 h0 h1 (by decide) (by decide), show (1 : Int).toNat = 1 from rfl, nat_mask1]
  omega

theorem even_neg (n : Int) (h0 : -9223372036854775808 ≤ n) (h1 : n < 0) : bits .xor .u64 IntKind.u64.max (IntKind.u64.wrap (IntKind.u64.wrap n * 2)) = evenI n := by
  rw [IntKind.wrap_u64, IntKind.wrap_u64, not_u64 _ (by omega) (by omega)]
  unfold evenI
  rw [if_neg (by omega)]
  omega

set_option maxHeartbeats 400000 in
theorem even_any (n : Int) (w : World) (h0 : -9223372036854775808 ≤ n) (h1 : n ≤ 9223372036854775807) :
    Calls Try.prog 16 #[.int .i64 n] w fun e w' => e = .returned (.int .u64 (evenI n)) ∧ w' = w := by
  by_cases hneg : n < 0
  · go_enter Try.func16, Try.ntmps16
    go_wp2
    go_ret
    exact ⟨ret_int (even_neg n h0 hneg), rfl⟩
  · go_enter Try.func16, Try.ntmps16
    go_wp2
    go_ret
    exact ⟨ret_int (show n * 2 = evenI n by unfold evenI; rw [if_pos (by omega)]; omega), rfl⟩

set_option maxHeartbeats 400000 in
theorem whole_any (n : Int) (w : World) (h0 : 0 ≤ n) (h1 : n ≤ 18446744073709551615) :
    Calls Try.prog 18 #[.int .u64 n] w fun e w' => e = .returned (.int .i64 (wholeI n)) ∧ w' = w := by
  have ha := and_one n h0 (by omega)
  by_cases h : n % 2 = 0
  · have hb : (bits .and .u64 n 1 != 0) = false := by rw [ha, h]; rfl
    have hw : wholeI n = n / 2 := by unfold wholeI; rw [if_pos h]
    clear ha h
    have HW := hide hw
    clear hw
    go_enter Try.func18, Try.ntmps18
    go_wp2
    go_ret
    exact ⟨ret_int (unhide HW).symm, rfl⟩
  · have hb : (bits .and .u64 n 1 != 0) = true := by rw [ha, bne_iff_ne]; omega
    have hw : wholeI n = bits .xor .i64 (-1) (n / 2) := by rw [not_i64 _ (by omega) (by omega)]; unfold wholeI; rw [if_neg h]
    clear ha h
    have HW := hide hw
    clear hw
    go_enter Try.func18, Try.ntmps18
    go_wp2
    go_ret
    exact ⟨ret_int (unhide HW).symm, rfl⟩

set_option maxHeartbeats 400000 in
theorem refEven_any (n : Int) (w : World) (h0 : -9223372036854775808 ≤ n) (h1 : n ≤ 9223372036854775807) :
    Calls Try.prog 17 #[.int .i64 n] w fun e w' => e = .returned (.int .u64 (evenI n)) ∧ w' = w := by
  by_cases h : 0 ≤ n
  · go_enter Try.func17, Try.ntmps17
    go_wp2
    go_ret
    exact ⟨ret_int (show 2 * n = evenI n by unfold evenI; rw [if_pos (by omega)]), rfl⟩
  · go_enter Try.func17, Try.ntmps17
    go_wp2
    go_ret
    exact ⟨ret_int (show 2 * -(n + 1) + 1 = evenI n by unfold evenI; rw [if_neg (by omega)]; omega), rfl⟩

set_option maxHeartbeats 400000 in
theorem refWhole_any (n : Int) (w : World) (h0 : 0 ≤ n) (h1 : n ≤ 18446744073709551615) :
    Calls Try.prog 19 #[.int .u64 n] w fun e w' => e = .returned (.int .i64 (wholeI n)) ∧ w' = w := by
  by_cases h : n % 2 = 0
  · have hb : (n % 2 == 0) = true := by simp [h]
    have HW := hide (show wholeI n = n / 2 by unfold wholeI; rw [if_pos h])
    clear h
    go_enter Try.func19, Try.ntmps19
    go_wp2
    go_ret
    exact ⟨ret_int (unhide HW).symm, rfl⟩
  · have hb : (n % 2 == 0) = false := by simp; omega
    have HW := hide (show wholeI n = -(n / 2) - 1 by unfold wholeI; rw [if_neg h])
    clear h
    go_enter Try.func19, Try.ntmps19
    go_wp2
    go_ret
    exact ⟨ret_int (unhide HW).symm, rfl⟩

theorem whole_even (n : Int) : wholeI (evenI n) = n := by
  unfold wholeI evenI
  by_cases h : 0 ≤ n
  · rw [if_pos h, if_pos (by omega)]; omega
  · rw [if_neg h, if_neg (by omega)]; omega
theorem even_whole (n : Int) (h : 0 ≤ n) : evenI (wholeI n) = n := by
  unfold wholeI evenI
  by_cases h2 : n % 2 = 0
  · rw [if_pos h2, if_pos (by omega)]; omega
  · rw [if_neg h2, if_neg (by omega)]; omega
theorem evenI_range (n : Int) (h0 : -9223372036854775808 ≤ n) (h1 : n ≤ 9223372036854775807) : 0 ≤ evenI n ∧ evenI n ≤ 18446744073709551615 := by
  unfold evenI; split <;> omega
theorem wholeI_range (n : Int) (h0 : 0 ≤ n) (h1 : n ≤ 18446744073709551615) : -9223372036854775808 ≤ wholeI n ∧ wholeI n ≤ 9223372036854775807 := by
  unfold wholeI; split <;> omega
end Go.Proofs.Ytekcbkaanlngdaa
