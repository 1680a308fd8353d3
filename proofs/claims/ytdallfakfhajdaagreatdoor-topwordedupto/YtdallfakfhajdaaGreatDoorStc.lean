/-
  What enc.Strict does, over this seat's program: the bytes that are written so, or the error.
-/
import Derived.Test.YtdallfakfhajdaaGreatDoorFrb
set_option linter.unusedVariables false
namespace Go.Proofs.YtdallfakfhajdaaGreatDoor
open Go.RowKit Go.Proofs.Enc

set_option maxHeartbeats 1000000 in
/-- enc.Strict answers the bytes that are written so, or the error. -/
theorem strict_any (s : ByteArray) (w : World) (hs : s.size ≤ 1099511627776) :
    Calls Tryz.prog 115 #[.string s] w fun e w' => e = .returned (.tuple #[.string (bts (strictR s.data.toList).1), .int .i64 (strictR s.data.toList).2]) ∧ Below w.heap.size w w' := by
  have hl := from_len s.data.toList 0 0 rfl
  rw [sizeL] at hl
  go_enter Tryz.func115, Tryz.ntmps115
  go_wp2_with fail
  refine (from64_any s _ hs).mono ?_
  rintro e w1 ⟨rfl, b1⟩
  go_wp2_with fail
  refine (base64_any _ _ (by rw [size_bts]; omega)).mono ?_
  rintro e w2 ⟨rfl, b2⟩
  rw [toList_bts]
  have hbb := belows' b1 b2
  by_cases he : b64 (from64 0 0 s.data.toList).1 = s.data.toList
  · have hq : ((bts (b64 (from64 0 0 s.data.toList).1)).toList == s.toList) = true := by
      rw [beqS]; simp only [decide_eq_true_eq]; exact ext_list ((toList_bts _).trans he)
    have hfin : strictR s.data.toList = ((from64 0 0 s.data.toList).1, 0) := by rw [strictR, if_pos he]
    have HF := hide hfin
    clear hfin he
    go_wp2
    go_ret2
    exact ⟨by rw [unhide HF]; rfl, hbb⟩
  · have hq : ((bts (b64 (from64 0 0 s.data.toList).1)).toList == s.toList) = false := by
      rw [beqS]; simp only [decide_eq_false_iff_not]; intro e; exact he (by rw [← toList_bts (b64 (from64 0 0 s.data.toList).1), e])
    have hfin : strictR s.data.toList = ([], 7) := by rw [strictR, if_neg he]
    have HF := hide hfin
    clear hfin he
    go_wp2
    go_ret2
    exact ⟨by rw [unhide HF]; rfl, hbb⟩
end Go.Proofs.YtdallfakfhajdaaGreatDoor
