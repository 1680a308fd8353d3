/-
  What the statements' own questions (lives, begins) do, over this seat's program.
-/
import Derived.Test.YtekcbkaanlngdabDoorSsm
set_option linter.unusedVariables false
namespace Go.Proofs.YtekcbkaanlngdabDoor
open Go.RowKit Go.Proofs.Num Go.Proofs.Crc Go.Proofs.Frm

theorem frame_lit (w : World) (ht : Tab w) : Calls Tryd.prog 9 #[.string { data := #[97] }] w fun e w' => e = .returned (.tuple #[.string { data := #[1, 98, 119, 114, 112, 97] }, .int .i64 0]) ∧ Below w.heap.size w w' := by
  have h := frame_any { data := #[97] } w ht (by decide)
  rw [show frameR (ByteArray.mk #[97]).data.toList = ([1, 98, 119, 114, 112, 97], 0) by decide +kernel] at h
  exact h
theorem next_lit (w : World) (ht : Tab w) : Calls Tryd.prog 11 #[.string { data := #[1, 98, 119, 114, 112, 97, 122] }] w fun e w' => e = .returned (.tuple #[.string { data := #[97] }, .string { data := #[122] }, .int .i64 0]) ∧ Below w.heap.size w w' := by
  have h := next_ok { data := #[1, 98, 119, 114, 112, 97, 122] } 5 6 w ht (by decide) (by rfl)
  rw [show (ByteArray.mk #[1, 98, 119, 114, 112, 97, 122]).extract 5 6 = { data := #[97] } by decide +kernel, show (ByteArray.mk #[1, 98, 119, 114, 112, 97, 122]).extract 6 (ByteArray.mk #[1, 98, 119, 114, 112, 97, 122]).size = { data := #[122] } by decide +kernel] at h
  exact h
theorem next_none (w : World) (ht : Tab w) : Calls Tryd.prog 11 #[.string { data := #[] }] w fun e w' => e = .returned (.tuple #[.string { data := #[] }, .string { data := #[] }, .int .i64 5]) ∧ Below w.heap.size w w' :=
  next_err { data := #[] } 5 w ht (by decide) rfl
theorem join_lit (w : World) (ht : Tab w) : Calls Tryd.prog 16 #[.slice (some ⟨w.heap.size, 0, none⟩) 2 2] (w.alloc (.cells #[.string { data := #[97] }, .string { data := #[] }] 9)) fun e w' => e = .returned (.tuple #[.string { data := #[1, 98, 119, 114, 112, 97, 0, 210, 2, 239, 141] }, .int .i64 0]) ∧ Below w.heap.size w w' := by
  have h := join_any _ [{ data := #[97] }, { data := #[] }] _ (tab_alloc ht _) (by simp) (rowS_two w { data := #[97] } { data := #[] } (by decide) (by decide))
  rw [show joinR (lists [{ data := #[97] }, { data := #[] }]) = ([1, 98, 119, 114, 112, 97, 0, 210, 2, 239, 141], 0) by decide +kernel] at h
  exact h.mono fun e w' ⟨he, hb⟩ => ⟨he, below_alloc' hb⟩
theorem all_lit (w : World) (ht : Tab w) : Calls Tryd.prog 18 #[.string { data := #[1, 98, 119, 114, 112, 97, 0, 210, 2, 239, 141, 5] }] w fun e w' => ∃ v, e = .returned (.tuple #[v, .int .i64 11]) ∧ RowS w' v [{ data := #[97] }, { data := #[] }] ∧ Below w.heap.size w w' := by
  refine (all_any { data := #[1, 98, 119, 114, 112, 97, 0, 210, 2, 239, 141, 5] } w ht (by decide)).mono ?_
  rintro e w' ⟨v, l, rfl, hr, hl, hb⟩
  have ha : allR (ByteArray.mk #[1, 98, 119, 114, 112, 97, 0, 210, 2, 239, 141, 5]).data.toList = ([[97], []], 11) := by decide +kernel
  rw [ha] at hl
  have : l = [{ data := #[97] }, { data := #[] }] := lists_inj (hl.trans (by rfl))
  subst this
  exact ⟨v, by rw [ha]; rfl, hr, hb⟩
theorem sum_lit (w : World) (ht : Tab w) : Calls Tryd.prog 14 #[.string { data := #[49, 50, 51, 52, 53, 54, 55, 56, 57] }] w fun e w' => e = .returned (.int .u32 3421780262) ∧ Below w.heap.size w w' := by
  have h := sum_any { data := #[49, 50, 51, 52, 53, 54, 55, 56, 57] } w ht (by decide)
  rw [show sumL (ByteArray.mk #[49, 50, 51, 52, 53, 54, 55, 56, 57]).data.toList = 3421780262 by decide +kernel] at h
  exact h

set_option maxHeartbeats 1000000 in
set_option maxRecDepth 100000 in
theorem lives_any (w : World) (ht : Tab w) : Calls Tryd.prog 13 #[] w fun e w' => e = .returned (.bool true) ∧ Below w.heap.size w w' := by
  have HT := hide ht
  clear ht
  go_enter Tryd.func13, Tryd.ntmps13
  go_wp2_with fail
  refine (frame_lit _ (unhide HT)).mono ?_
  rintro e w1 ⟨rfl, b1⟩
  have H1 := hide ((unhide HT).below b1)
  go_wp2_with fail
  rw [show (({ data := #[1, 98, 119, 114, 112, 97] } : ByteArray) ++ { data := #[122] }) = { data := #[1, 98, 119, 114, 112, 97, 122] } by decide +kernel]
  refine (next_lit _ (unhide H1)).mono ?_
  rintro e w2 ⟨rfl, b2⟩
  have H2 := hide ((unhide H1).below b2)
  go_wp2_with fail
  refine (join_lit w2 (unhide H2)).mono ?_
  rintro e w3 ⟨rfl, b3⟩
  have H3 := hide ((unhide H2).below b3)
  go_wp2_with fail
  rw [show (({ data := #[1, 98, 119, 114, 112, 97, 0, 210, 2, 239, 141] } : ByteArray) ++ { data := #[5] }) = { data := #[1, 98, 119, 114, 112, 97, 0, 210, 2, 239, 141, 5] } by decide +kernel]
  refine (all_lit _ (unhide H3)).mono ?_
  rintro e w4 ⟨v, rfl, hrow, b4⟩
  have H4 := hide ((unhide H3).below b4)
  have HR := hide hrow
  clear hrow
  go_wp2_with fail
  refine (next_none _ (unhide H4)).mono ?_
  rintro e w5 ⟨rfl, b5⟩
  have H5 := hide ((unhide H4).below b5)
  go_wp2_with fail
  refine (sum_lit _ (unhide H5)).mono ?_
  rintro e w6 ⟨rfl, b6⟩
  have HR6 := hide (((unhide HR).below b5).below b6)
  go_wp2_with fail
  refine (sameS_any v _ [{ data := #[97] }, { data := #[] }] [{ data := #[97] }, { data := #[] }] _ ((unhide HR6).below ((Below.refl _ w6).alloc (Nat.le_refl _) _)) (rowS_two w6 { data := #[97] } { data := #[] } (by decide) (by decide))).mono ?_
  rintro e w7 ⟨rfl, b7⟩
  rw [show decide (([{ data := #[97] }, { data := #[] }] : List ByteArray) = [{ data := #[97] }, { data := #[] }]) = true by simp]
  go_wp2
  go_ret
  exact ⟨rfl, belows (belows (belows (belows (belows (belows b1 b2) b3) b4) b5) b6) (below_alloc' b7)⟩

theorem put_300 (w : World) : Calls Tryd.prog 34 #[.int .u64 300] w fun e w' => e = .returned (.string { data := #[172, 2] }) ∧ Below w.heap.size w w' := by
  have h := put_any 300 w (by decide)
  rw [show putL 300 = [172, 2] by rw [putL_big (by decide), putL_small (by decide)]; rfl] at h
  exact h
theorem get_300 (w : World) : Calls Tryd.prog 33 #[.string { data := #[172, 2, 120] }] w fun e w' => e = .returned (.tuple #[.int .u64 300, .string { data := #[120] }, .int .i64 0]) ∧ Below w.heap.size w w' := by
  have h := get_any { data := #[172, 2, 120] } w (by decide)
  rw [show scanL (ByteArray.mk #[172, 2, 120]).data.toList = (300, 2, 0) by decide +kernel, show restOf { data := #[172, 2, 120] } = { data := #[120] } by decide +kernel] at h
  exact h

set_option maxHeartbeats 400000 in
theorem begins_any (w : World) : Calls Tryd.prog 21 #[] w fun e w' => e = .returned (.bool true) ∧ Below w.heap.size w w' := by
  go_enter Tryd.func21, Tryd.ntmps21
  go_wp2_with fail
  refine (put_300 _).mono ?_
  rintro e w1 ⟨rfl, b1⟩
  go_wp2_with fail
  rw [show (({ data := #[172, 2] } : ByteArray) ++ { data := #[120] }) = { data := #[172, 2, 120] } by decide +kernel]
  refine (get_300 _).mono ?_
  rintro e w2 ⟨rfl, b2⟩
  go_wp2
  go_ret
  exact ⟨rfl, belows b1 b2⟩
end Go.Proofs.YtekcbkaanlngdabDoor
