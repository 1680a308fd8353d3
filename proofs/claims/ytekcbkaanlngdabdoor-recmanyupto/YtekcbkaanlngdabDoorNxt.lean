/-
  What rec.Next does, over this seat's program: the first record and what is behind it, or the error.
-/
import Derived.Test.YtekcbkaanlngdabDoorFnd
set_option linter.unusedVariables false
namespace Go.Proofs.YtekcbkaanlngdabDoor
open Go.RowKit Go.Proofs.Num Go.Proofs.Crc Go.Proofs.Frm

set_option maxHeartbeats 1000000 in
set_option maxRecDepth 100000 in
theorem next_err (s : ByteArray) (c : Nat) (w : World) (ht : Tab w) (hs : s.size ≤ 281474976710656) (h : findR s.data.toList = .error c) :
    Calls Tryd.prog 11 #[.string s] w fun e w' => e = .returned (.tuple #[.string { data := #[] }, .string { data := #[] }, .int .i64 c]) ∧ Below w.heap.size w w' := by
  have hne : ((c : Int) == 0) = false := by have := (findR_err h).1; simp; omega
  have hf := find_any s w ht hs
  rw [findT_err h] at hf
  have HF := hide hf
  clear hf ht h
  go_enter Tryd.func11, Tryd.ntmps11
  go_wp2_with fail
  refine (unhide HF).mono ?_
  rintro e w1 ⟨rfl, b1⟩
  go_wp2
  go_ret3
  exact ⟨rfl, b1⟩

set_option maxHeartbeats 1000000 in
set_option maxRecDepth 100000 in
theorem next_ok (s : ByteArray) (a b : Nat) (w : World) (ht : Tab w) (hs : s.size ≤ 281474976710656) (h : findR s.data.toList = .ok (a, b)) :
    Calls Tryd.prog 11 #[.string s] w fun e w' => e = .returned (.tuple #[.string (s.extract a b), .string (s.extract b s.size), .int .i64 0]) ∧ Below w.heap.size w w' := by
  obtain ⟨u1, u2, _, _, _, hq⟩ := findR_ok h
  rw [sizeL] at u1
  have hf := find_any s w ht hs
  rw [findT_ok h] at hf
  have HF := hide hf
  have HX := hide (fun w => clone_any (s.extract a b) w (by rw [ByteArray.size_extract]; omega))
  have HY := hide (fun w => clone_any (s.extract b s.size) w (by rw [ByteArray.size_extract]; omega))
  clear hf ht h hq
  go_enter Tryd.func11, Tryd.ntmps11
  go_wp2_with fail
  refine (unhide HF).mono ?_
  rintro e w1 ⟨rfl, b1⟩
  go_wp2
  clear hs
  go_region_with (first | (go_at_call_of 28 (Value.string (s.extract a b)); refine (unhide HX _).mono ?_; rintro e w3 ⟨rfl, b3⟩) | (go_at_call_of 28 (Value.string (s.extract b s.size)); refine (unhide HY _).mono ?_; rintro e w4 ⟨rfl, b4⟩))
  go_simp
  go_wp2
  go_ret3
  exact ⟨rfl, belows b1 (belows (below_drew0 b3) b4)⟩
end Go.Proofs.YtekcbkaanlngdabDoor
