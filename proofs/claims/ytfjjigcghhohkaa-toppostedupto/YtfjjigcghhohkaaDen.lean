/-
  What dict.readNumber does, over this seat's program.
-/
import Derived.Test.YtfjjigcghhohkaaRp2
import Derived.Test.YtfjjigcghhohkaaDct
import Derived.Test.YtfjjigcghhohkaaWrb
set_option linter.unusedVariables false
namespace Go.Proofs.Ytfjjigcghhohkaa
open Go.RowKit Go.Proofs.Num Go.Proofs.Dct

theorem scan_piece (s : ByteArray) (p : Nat) : scanL (s.extract p (min s.size (p + 10))).data.toList = scanL (s.data.toList.drop p) := by
  rw [toList_part, ← scanL_take (s.data.toList.drop p)]
  by_cases h : p + 10 ≤ s.size
  · rw [Nat.min_eq_right h, show p + 10 - p = 10 by omega]
  · rw [Nat.min_eq_left (by omega), List.take_of_length_le (by rw [List.length_drop, sizeL]; omega), List.take_of_length_le (by rw [List.length_drop, sizeL]; omega)]

set_option maxHeartbeats 400000 in
set_option maxRecDepth 100000 in
theorem rdn_ok (s : ByteArray) (p m k : Nat) (w : World) (hs : s.size ≤ 140737488355328) (hp : p ≤ s.size) (h : scanL (s.data.toList.drop p) = (m, k, 0)) :
    Calls Try.prog 52 #[.string s, .int .i64 p] w fun e w' => e = .returned (.tuple #[.int .u64 m, .int .i64 ((p + k : Nat) : Int), .int .i64 0]) ∧ Below w.heap.size w w' := by
  have hg := fun W => get_any (s.extract p (min s.size (p + 10))) W (by rw [size_part _ _ _ (by omega)]; omega)
  rw [scan_piece, h] at hg
  generalize restOf (s.extract p (min s.size (p + 10))) = R at hg
  have HG := hide hg
  obtain ⟨h1, h2, h3, h4⟩ := scanL_ok h
  have HSZ := hide (fun W => size_any m W h3)
  rw [← h2] at HSZ
  have hsl := slice_km s p (min s.size (p + 10) - p) (by omega)
  rw [show p + (min s.size (p + 10) - p) = min s.size (p + 10) by omega] at hsl
  have hmm : (p : Int) + ((min s.size (p + 10) - p : Nat) : Int) = min (s.size : Int) ((p : Int) + 10) := by omega
  rw [hmm] at hsl
  have hpi : (p : Int) ≤ 140737488355328 := by omega
  have hki : (k : Int) ≤ 10 := by omega
  clear hg h1 h2 h h4 hmm
  go_enter Try.func52, Try.ntmps52
  go_wp2_with fail
  refine (unhide HG _).mono ?_
  rintro e w1 ⟨rfl, hb1⟩
  have HB := hide hb1
  clear hb1
  go_wp2_with fail
  refine (unhide HSZ _).mono ?_
  rintro e w2 ⟨rfl, rfl⟩
  go_wp2
  go_ret3
  exact ⟨by simp, unhide HB⟩
end Go.Proofs.Ytfjjigcghhohkaa
