/-
  What missiveref06.next does, over this seat's program: the letter that bytes begin with.
-/
import Derived.Test.YtdallfakfhajdaaGreatDoorRon
import Derived.Test.YtdallfakfhajdaaGreatDoorRsm
import Derived.Test.YtdallfakfhajdaaGreatDoorRna
import Derived.Test.YtdallfakfhajdaaGreatDoorRnb
import Derived.Test.YtdallfakfhajdaaGreatDoorRnc
import Derived.Test.YtdallfakfhajdaaGreatDoorRnd
set_option linter.unusedVariables false
namespace Go.Proofs.YtdallfakfhajdaaGreatDoor
open Go.RowKit Go.Proofs.Rns Go.Proofs.Nxr

/-- missiveref06.next tells the letter that bytes begin with. -/
theorem refNext_any (s : ByteArray) (w : World) (h0 : 0 < s.size) (hs : s.size ≤ 40000000) :
    Calls Tryz.prog 118 #[.string s] w fun e w' => e = .returned (.tuple #[.int .i32 ((nextL s.data.toList).1 : Int), .int .i64 ((nextL s.data.toList).2 : Int)]) ∧ Below w.heap.size w w' := by
  by_cases c4 : 240 ≤ s[0].toNat ∧ s[0].toNat < 248
  · exact refNext_4 s w h0 hs c4
  · by_cases c3 : 224 ≤ s[0].toNat ∧ s[0].toNat < 240
    · exact refNext_3 s w h0 hs c3
    · by_cases c2 : 192 ≤ s[0].toNat ∧ s[0].toNat < 224
      · exact refNext_2 s w h0 hs c2
      · exact refNext_1 s w h0 hs (by omega)
end Go.Proofs.YtdallfakfhajdaaGreatDoor
