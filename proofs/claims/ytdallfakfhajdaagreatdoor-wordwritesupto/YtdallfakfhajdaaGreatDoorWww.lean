/-
  What missivelaw09.WordWrites does, over this seat's program: it answers true.
-/
import Derived.Test.YtdallfakfhajdaaGreatDoorRqe
import Derived.Test.YtdallfakfhajdaaGreatDoorWlw
set_option linter.unusedVariables false
namespace Go.Proofs.YtdallfakfhajdaaGreatDoor
open Go.RowKit Go.Proofs.Enc Go.Proofs.Rns

set_option maxHeartbeats 4000000 in
set_option maxRecDepth 100000 in
theorem wordWrites_walk (a : Option Addr) (cap : Nat) (l : List Int) (base : Bool) (w : World) (ht : TabW w) (hv : RowI w (.slice a l.length cap) l) (hc : l.length ≤ cap) (hl : l.length ≤ 1048576) :
    Calls Tryz.prog 4 #[.slice a l.length cap, .bool base] w fun e w' => e = .returned (.bool true) ∧ Below w.heap.size w w' := by
  have HT := hide ht
  have HV := hide hv
  have HL := hide livesW_any
  have HE := hide (fun W (h : TabW W) (h2 : RowI W (.slice a l.length cap) l) => encodeW_any a cap l base W h.tab.toRTab h2 hc (by omega))
  have HD := hide (fun W (h2 : RowI W (.slice a l.length cap) l) => refEncodeW_any a cap l base W h2 hc hl)
  clear ht hv
  generalize bts (encW base l).1 = t at HE HD
  generalize (encW base l).2 = n at HE HD
  have hbb : (t.toList == t.toList) = true := by simp
  go_enter Tryz.func4, Tryz.ntmps4
  go_wp2_with fail
  refine (unhide HE _ (unhide HT) (unhide HV)).mono ?_
  rintro e w1 ⟨rfl, b1⟩
  have HT1 := hide ((unhide HT).below b1)
  have HV1 := hide ((unhide HV).below b1)
  have HB1 := hide b1
  clear b1 HE
  go_wp2_with fail
  refine (unhide HD _ (unhide HV1)).mono ?_
  rintro e w2 ⟨rfl, b2⟩
  have HT2 := hide ((unhide HT1).below b2)
  have HB2 := hide (belows' (unhide HB1) b2)
  clear b2 HD
  go_wp2_with fail
  refine (unhide HL _ (unhide HT2)).mono ?_
  rintro e w3 ⟨rfl, b3⟩
  have HB3 := hide (belows' (unhide HB2) b3)
  clear b3
  go_wp2
  go_ret
  exact ⟨by first | rfl | simp, unhide HB3⟩
end Go.Proofs.YtdallfakfhajdaaGreatDoor
