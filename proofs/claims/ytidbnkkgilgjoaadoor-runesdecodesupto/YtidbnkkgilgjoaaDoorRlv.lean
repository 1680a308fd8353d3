/-
  What missivelaw06.lives does, over this seat's program: it answers true.
-/
import Derived.Test.YtidbnkkgilgjoaaDoorRsm
import Derived.Test.YtidbnkkgilgjoaaDoorRnm
set_option linter.unusedVariables false
namespace Go.Proofs.YtidbnkkgilgjoaaDoor
open Go.RowKit Go.Proofs.Rns

theorem lit_named (w : World) (ht : RTabN w) : Calls Tryd.prog 18 #[.string ⟨#[76, 97, 116, 105, 110, 57]⟩] w fun e w' => e = .returned (.tuple #[.int .u8 4, .int .i64 0]) ∧ Below w.heap.size w w' := by
  have h := named_any ⟨#[76, 97, 116, 105, 110, 57]⟩ w ht (by decide)
  rw [show namedR (ByteArray.mk #[76, 97, 116, 105, 110, 57]).data.toList = (4, 0) by decide +kernel] at h
  exact h
theorem lit_koi (w : World) (ht : RTabN w) : Calls Tryd.prog 18 #[.string ⟨#[107, 111, 105, 56, 45, 114]⟩] w fun e w' => e = .returned (.tuple #[.int .u8 0, .int .i64 14]) ∧ Below w.heap.size w w' := by
  have h := named_any ⟨#[107, 111, 105, 56, 45, 114]⟩ w ht (by decide)
  rw [show namedR (ByteArray.mk #[107, 111, 105, 56, 45, 114]).data.toList = (0, 14) by decide +kernel] at h
  exact h
theorem lit_name (w : World) (ht : RTabN w) : Calls Tryd.prog 19 #[.int .u8 4] w fun e w' => e = .returned (.tuple #[.string ⟨#[73, 83, 79, 45, 56, 56, 53, 57, 45, 49, 53]⟩, .int .i64 0]) ∧ Below w.heap.size w w' := by
  have h := name_any 4 w ht (by omega)
  rw [show nameR 4 = ([73, 83, 79, 45, 56, 56, 53, 57, 45, 49, 53], 0) by decide +kernel] at h
  exact h
theorem lit_dec (w : World) (ht : RTabN w) : Calls Tryd.prog 5 #[.int .u8 5, .string ⟨#[97, 128, 129]⟩] w fun e w' => ∃ v, e = .returned (.tuple #[v, .int .i64 0]) ∧ RowI w' v [97, 8364, 65533] ∧ Below w.heap.size w w' := by
  have h := decode_any 5 ⟨#[97, 128, 129]⟩ w ht.toRTab (by omega) (by decide)
  rw [show decR 5 (ByteArray.mk #[97, 128, 129]).data.toList = ([97, 8364, 65533], 0) by decide +kernel] at h
  refine h.mono ?_
  rintro e w' ⟨v, rfl, ho, hb⟩
  exact ⟨v, rfl, own_rowI ho (by decide), hb⟩
theorem lit_enc (w : World) (ht : RTabN w) (v : Value) (hv : RowI w v [8364, 233]) : Calls Tryd.prog 20 #[.int .u8 4, v] w fun e w' => e = .returned (.tuple #[.string ⟨#[164, 233]⟩, .int .i64 0]) ∧ Below w.heap.size w w' := by
  have h := encode_any 4 v _ w ht.toRTab hv (by omega) (by decide)
  rw [show encR 4 [8364, 233] = ([164, 233], 0) by decide +kernel] at h
  exact h
theorem lit_enc7 (w : World) (ht : RTabN w) (v : Value) (hv : RowI w v [945]) : Calls Tryd.prog 20 #[.int .u8 4, v] w fun e w' => e = .returned (.tuple #[.string ⟨#[]⟩, .int .i64 7]) ∧ Below w.heap.size w w' := by
  have h := encode_any 4 v _ w ht.toRTab hv (by omega) (by decide)
  rw [show encR 4 [945] = ([], 7) by decide +kernel] at h
  exact h
theorem lit_utf8 (w : World) (v : Value) (hv : RowI w v [233, -1]) : Calls Tryd.prog 11 #[v] w fun e w' => e = .returned (.string ⟨#[195, 169, 239, 191, 189]⟩) ∧ Below w.heap.size w w' := by
  have h := utf8_any v _ w hv (by decide)
  rw [show utf8L [233, -1] = [195, 169, 239, 191, 189] by decide +kernel] at h
  exact h
theorem lit_letters (w : World) (ht : RTabN w) : Calls Tryd.prog 9 #[.string ⟨#[195, 169, 255]⟩] w fun e w' => ∃ v, e = .returned v ∧ RowI w' v [233, 65533] ∧ Below w.heap.size w w' := by
  have h := letters_any ⟨#[195, 169, 255]⟩ w ht.toRTab (by decide)
  rw [show lettersL (ByteArray.mk #[195, 169, 255]).data.toList = [233, 65533] by decide +kernel] at h
  refine h.mono ?_
  rintro e w' ⟨v, rfl, ho, hb⟩
  exact ⟨v, rfl, own_rowI ho (by decide), hb⟩

theorem alloc_below {w w' : World} (o : Obj) (h : Below (w.alloc o).heap.size (w.alloc o) w') : Below w.heap.size w w' :=
  belows' ((Below.refl _ w).alloc (Nat.le_refl _) o) h

set_option maxHeartbeats 1000000 in
set_option maxRecDepth 100000 in
theorem lives_any (w : World) (ht : RTabN w) : Calls Tryd.prog 7 #[] w fun e w' => e = .returned (.bool true) ∧ Below w.heap.size w w' := by
  have H0 := hide ht
  clear ht
  go_enter Tryd.func7, Tryd.ntmps7
  go_wp2_with fail
  refine (lit_named _ (unhide H0)).mono ?_
  rintro e w1 ⟨rfl, b1⟩
  have H1 := hide ((unhide H0).below b1)
  go_wp2_with fail
  refine (lit_name _ (unhide H1)).mono ?_
  rintro e w2 ⟨rfl, b2⟩
  have H2 := hide ((unhide H1).below b2)
  go_wp2_with fail
  refine (lit_dec _ (unhide H2)).mono ?_
  rintro e w3 ⟨v, rfl, hv, b3⟩
  have HV := hide hv
  have H3 := hide ((unhide H2).below b3)
  clear hv
  go_wp2_with fail
  refine (lit_enc _ ((unhide H3).below ((Below.refl _ w3).alloc (Nat.le_refl _) _)) _ (lit_rowI w3 [8364, 233] _ rfl (by decide) 2 rfl)).mono ?_
  rintro e w4 ⟨rfl, b4'⟩
  have b4 := alloc_below _ b4'
  have H4 := hide ((unhide H3).below b4)
  clear b4'
  go_wp2_with fail
  refine (lit_enc7 _ ((unhide H4).below ((Below.refl _ w4).alloc (Nat.le_refl _) _)) _ (lit_rowI w4 [945] _ rfl (by decide) 1 rfl)).mono ?_
  rintro e w5 ⟨rfl, b5'⟩
  have b5 := alloc_below _ b5'
  have H5 := hide ((unhide H4).below b5)
  clear b5'
  go_wp2_with fail
  refine (lit_koi _ (unhide H5)).mono ?_
  rintro e w6 ⟨rfl, b6⟩
  have H6 := hide ((unhide H5).below b6)
  have HV6 := hide ((((unhide HV).below b4).below b5).below b6)
  go_wp2_with fail
  refine (same_any _ _ [97, 8364, 65533] [97, 8364, 65533] _ ((unhide HV6).below ((Below.refl _ w6).alloc (Nat.le_refl _) _)) (lit_rowI w6 [97, 8364, 65533] _ rfl (by decide) 3 rfl) (by decide)).mono ?_
  rintro e w7 ⟨rfl, b7'⟩
  have b7 := alloc_below _ b7'
  have H7 := hide ((unhide H6).below b7)
  clear b7'
  rw [show decide (([97, 8364, 65533] : List Int) = [97, 8364, 65533]) = true from rfl]
  go_wp2_with fail
  refine (lit_utf8 _ _ (lit_rowI w7 [233, -1] _ rfl (by decide) 2 rfl)).mono ?_
  rintro e w8 ⟨rfl, b8'⟩
  have b8 := alloc_below _ b8'
  have H8 := hide ((unhide H7).below b8)
  clear b8'
  go_wp2_with fail
  refine (lit_letters _ (unhide H8)).mono ?_
  rintro e w9 ⟨v2, rfl, hv2, b9⟩
  have HV2 := hide hv2
  clear hv2
  go_wp2_with fail
  refine (same_any _ _ [233, 65533] [233, 65533] _ ((unhide HV2).below ((Below.refl _ w9).alloc (Nat.le_refl _) _)) (lit_rowI w9 [233, 65533] _ rfl (by decide) 2 rfl) (by decide)).mono ?_
  rintro e w10 ⟨rfl, b10'⟩
  have b10 := alloc_below _ b10'
  rw [show decide (([233, 65533] : List Int) = [233, 65533]) = true from rfl]
  go_wp2
  go_ret
  exact ⟨rfl, belows' (belows' (belows' (belows' (belows' (belows' (belows' (belows' (belows' b1 b2) b3) b4) b5) b6) b7) b8) b9) b10⟩
end Go.Proofs.YtidbnkkgilgjoaaDoor
