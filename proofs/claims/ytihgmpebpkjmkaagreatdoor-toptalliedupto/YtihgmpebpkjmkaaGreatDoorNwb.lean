/-
  What a span's has, Has, and the document's ends and Has do, over this seat's program.
-/
import Derived.Test.YtihgmpebpkjmkaaGreatDoorNwa
set_option linter.unusedVariables false
namespace Go.Proofs.YtihgmpebpkjmkaaGreatDoor
open Go.RowKit Go.Proofs.Nst

theorem any_take {l : List Sp} {k : Nat} (h : k < l.length) (p : Sp → Bool) : (l.take (k + 1)).any p = ((l.take k).any p || p l[k]) := by
  rw [List.take_succ_eq_append_getElem h, List.any_append]
  simp
theorem hasS_any_eq (m n : Nat) (l : List Sp) : hasS m n l = l.any (fun s => inB n (ordS m s)) := by
  unfold hasS memS
  rw [List.any_map]
  rfl

end Go.Proofs.YtihgmpebpkjmkaaGreatDoor
