/-
  What missiveref06.next does, over this seat's program: the letter that bytes begin with.
-/
import Derived.Test.YtdallfakfhajdaaGreatDoorBnd5
import Derived.Test.YtdallfakfhajdaaGreatDoorRsm
import Derived.Test.YtdallfakfhajdaaGreatDoorNxr
set_option linter.unusedVariables false
namespace Go.Proofs.YtdallfakfhajdaaGreatDoor
open Go.RowKit Go.Proofs.Rns Go.Proofs.Nxr

theorem bAt_byte (s : ByteArray) (k : Nat) (h : k < s.size) : bAt s.data.toList k = s[k].toNat := by
  unfold bAt
  rw [getD_byte s k h]
/-- What is known of the number behind some bytes. -/
def Bnd (i n : Nat) : Prop := (i = 1 ∧ n < 32) ∨ (i = 2 ∧ n < 2048) ∨ (i = 3 ∧ n < 131072) ∨ (i = 4 ∧ n < 8388608)

end Go.Proofs.YtdallfakfhajdaaGreatDoor
