/-
  What enc.writeLetters and enc.Base64 do, over this seat's program: bytes in base64, and no older memory turns.
-/
import Derived.Test.YtedpimhhbajljaaDoorStr
import Derived.Test.YtedpimhhbajljaaDoorEnc
import Derived.BigCall
import Derived.Deep.Cut
import Derived.Laws.BitsAllLaws
set_option linter.unusedVariables false
namespace Go.Proofs.YtedpimhhbajljaaDoor
open Go.RowKit Go.Proofs.Enc

/-- The 64 letters. -/
def letB : ByteArray := ⟨#[65, 66, 67, 68, 69, 70, 71, 72, 73, 74, 75, 76, 77, 78, 79, 80, 81, 82, 83, 84, 85, 86, 87, 88, 89, 90, 97, 98, 99, 100, 101, 102, 103, 104, 105, 106, 107, 108, 109, 110, 111, 112, 113, 114, 115, 116, 117, 118, 119, 120, 121, 122, 48, 49, 50, 51, 52, 53, 54, 55, 56, 57, 43, 47]⟩
theorem letB_fin : ∀ n : Fin 64, letB.data.toList.getD n.val 0 = let64 n.val := by decide +kernel
theorem letB_size : letB.size = 64 := rfl
theorem letB_get (n : Nat) (h : n < 64) (h' : n < letB.size) : letB[n] = let64 n := by
  rw [← getD_byte letB n h']
  exact letB_fin ⟨n, h⟩

theorem letB_at (m : Nat) (hm : m < 64) (i : Nat) (hi : i < letB.size) (h : i = m) : ((letB[i]'hi).toNat : Int) = ((let64 m).toNat : Int) := by
  subst h
  rw [letB_get i hm hi]
theorem natmod (x p : Nat) : ((x : Int) / 2 ^ p % 64).toNat = x / 2 ^ p % 64 := by
  rw [show ((x : Int) / 2 ^ p % 64) = ((x / 2 ^ p % 64 : Nat) : Int) by simp]
  exact Int.toNat_natCast _

theorem or_byte (x c : Nat) (hx : x < 16777216) (hc : c < 256) : bits .or .u32 ((x : Int) * 256) (c : Int) = ((x * 256 + c : Nat) : Int) := by
  rw [show ((x : Int) * 256) = ((x * 256 : Nat) : Int) by omega]
  refine (u32_or_nat _ _ (by omega) (by omega)).trans ?_
  rw [nat_join 8 (x * 256) c (by omega) (by omega)]
theorem and63 (x : Nat) (h : x < 4294967296) : bits .and .u32 (x : Int) 63 = ((x % 64 : Nat) : Int) := (u32_and_nat x 63 h (by omega)).trans (by rw [show (63 : Nat) = 2 ^ 6 - 1 from rfl, Nat.and_two_pow_sub_one_eq_mod])

/-- What the frame of Base64 holds at its label, k bytes written. -/
def B64J (s : ByteArray) (w : World) (a' : Act) (w' : World) : Prop :=
  ∃ (k : Nat) (u5 u6 u7 u8 u9 u10 u11 u12 u13 u14 u15 u16 u17 u18 u19 u20 u21 u22 u23 u24 u25 u26 u27 u28 u29 u30 u31 : Value), a' = { tmps := #[.string s, undef, .string ⟨#[]⟩, .pointer (some ⟨w.heap.size, 0, none⟩), .int .i64 k, u5, u6, u7, u8, u9, u10, u11, u12, u13, u14, u15, u16, u17, u18, u19, u20, u21, u22, u23, u24, u25, u26, u27, u28, u29, u30, u31], defers := [] } ∧ k ≤ s.size ∧ (k % 3 = 0 ∨ k = s.size) ∧
    Lib.IsBuilderF 60 5 w.heap.size w.heap.size (Lib.byteCells (b64 (s.data.toList.take k))) w' ∧ Below w.heap.size w w' ∧ w.heap.size + 1 ≤ w'.heap.size

end Go.Proofs.YtedpimhhbajljaaDoor
