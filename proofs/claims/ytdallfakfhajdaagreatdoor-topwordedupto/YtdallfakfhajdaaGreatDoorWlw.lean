/-
  What missivelaw09.lives does, over this seat's program: it answers true.
-/
import Derived.Test.YtdallfakfhajdaaGreatDoorWlv
set_option linter.unusedVariables false
namespace Go.Proofs.YtdallfakfhajdaaGreatDoor
open Go.RowKit Go.Proofs.Enc Go.Proofs.Rns

set_option maxHeartbeats 4000000 in
set_option maxRecDepth 100000 in
theorem livesW_any (w : World) (ht : TabW w) : Calls Tryz.prog 11 #[] w fun e w' => e = .returned (.bool true) ∧ Below w.heap.size w w' := by
  have H0 := hide ht
  clear ht
  have hR : lvR.size = 24 := by decide
  have hS : (⟨#[61, 63, 117, 116, 102, 45, 56, 63, 113, 63, 97, 95, 98, 63, 61, 32, 32, 61, 63, 108, 97, 116, 105, 110, 49, 42, 101, 110, 63, 66, 63, 54, 81, 61, 61, 63, 61, 32, 120]⟩ : ByteArray).size = 39 := by decide
  go_enter Tryz.func11, Tryz.ntmps11
  go_wp2_with fail
  refine (lv_dec _ (unhide H0)).mono ?_
  rintro e w1 ⟨v, rfl, hv, b1⟩
  have HV := hide hv
  have H1 := hide ((unhide H0).below b1)
  clear hv
  go_wp2_with fail
  refine (lv_one _ (unhide H1)).mono ?_
  rintro e w2 ⟨u, rfl, hu, b2⟩
  have HU := hide hu
  have H2 := hide ((unhide H1).below b2)
  clear hu
  go_wp2_with fail
  refine (lv_enc _ ((unhide H2).below ((Below.refl _ w2).alloc (Nat.le_refl _) _)) _ (lit_rowI w2 [97, 32, 233] _ rfl (by decide) 3 rfl)).mono ?_
  rintro e w3 ⟨rfl, b3'⟩
  have b3 := alloc_below _ b3'
  have H3 := hide ((unhide H2).below b3)
  clear b3'
  go_wp2_with fail
  refine (lv_enc1 _ ((unhide H3).below ((Below.refl _ w3).alloc (Nat.le_refl _) _)) _ (lit_rowI w3 [97] _ rfl (by decide) 1 rfl)).mono ?_
  rintro e w4 ⟨rfl, b4'⟩
  have b4 := alloc_below _ b4'
  have H4 := hide ((unhide H3).below b4)
  clear b4'
  go_wp2_with fail
  refine (lv_koi _ (unhide H4)).mono ?_
  rintro e w5 ⟨x1, x2, rfl, b5⟩
  have H5 := hide ((unhide H4).below b5)
  have HV5 := hide (((((unhide HV).below b2).below b3).below b4).below b5)
  have HU5 := hide ((((unhide HU).below b3).below b4).below b5)
  clear HV HU
  go_wp2_with fail
  refine (same_any _ _ [97, 32, 98, 233, 32, 120] [97, 32, 98, 233, 32, 120] _ ((unhide HV5).below ((Below.refl _ w5).alloc (Nat.le_refl _) _)) (lit_rowI w5 [97, 32, 98, 233, 32, 120] _ rfl (by decide) 6 rfl) (by decide)).mono ?_
  rintro e w6 ⟨rfl, b6'⟩
  have b6 := alloc_below _ b6'
  have H6 := hide ((unhide H5).below b6)
  have HU6 := hide ((unhide HU5).below b6)
  clear b6' HU5 HV5
  rw [show decide (([97, 32, 98, 233, 32, 120] : List Int) = [97, 32, 98, 233, 32, 120]) = true from rfl]
  go_wp2_with fail
  refine (lv_words _ (unhide H6)).mono ?_
  rintro e w7 ⟨rfl, b7⟩
  have HU7 := hide ((unhide HU6).below b7)
  clear HU6
  go_wp2_with fail
  refine (same_any _ _ [97, 32, 98] [97, 32, 98] _ ((unhide HU7).below ((Below.refl _ w7).alloc (Nat.le_refl _) _)) (lit_rowI w7 [97, 32, 98] _ rfl (by decide) 3 rfl) (by decide)).mono ?_
  rintro e w8 ⟨rfl, b8'⟩
  have b8 := alloc_below _ b8'
  clear b8'
  rw [show decide (([97, 32, 98] : List Int) = [97, 32, 98]) = true from rfl]
  go_wp2
  go_ret
  exact ⟨rfl, belows' (belows' (belows' (belows' (belows' (belows' (belows' b1 b2) b3) b4) b5) b6) b7) b8⟩
end Go.Proofs.YtdallfakfhajdaaGreatDoor
