/-
  What vari.Size does, and how vari.Get tells a number, over this seat's program.
-/
import Derived.Test.YtfjjigcghhohkaaSc2
import Derived.Lib.ItoaNum
set_option linter.unusedVariables false
namespace Go.Proofs.Ytfjjigcghhohkaa
open Go.RowKit Go.Proofs.Num

theorem ret_i64 {a b : Int} (h : a = b) : Ending.returned (.int .i64 a) = .returned (.int .i64 b) := by rw [h]

theorem len_bits (n : Nat) (h : n < 18446744073709551616) : (putL n).length = max 1 ((Lib.bitLen n + 6) / 7) ∧ Lib.bitLen n ≤ 64 := by
  have hb := Lib.bitLen_le n 64 (by omega) h
  refine ⟨?_, hb⟩
  by_cases h0 : n = 0
  · subst h0
    rw [putL_small (by omega)]
    have : Lib.bitLen 0 = 0 := by decide
    rw [this]; rfl
  · have hx := Lib.bitLenAux_bounds 64 n h h0
    have hl : Lib.bitLen n = Lib.bitLenAux 64 n := rfl
    rw [← hl] at hx
    generalize Lib.bitLen n = q at *
    obtain ⟨h1, h2, h3⟩ := hx
    obtain ⟨m, hm⟩ : ∃ m, (q + 6) / 7 = m + 1 := ⟨(q + 6) / 7 - 1, by omega⟩
    have hle : (putL n).length ≤ m + 1 := (putL_len m n).2 (Nat.lt_of_lt_of_le h3 (Nat.pow_le_pow_right (by decide) (by omega)))
    have hge : m + 1 ≤ (putL n).length := by
      cases m with
      | zero => exact putL_pos n
      | succ m =>
        have : ¬ (putL n).length ≤ m + 1 := by
          rw [putL_len m n]
          have : 2 ^ (7 * (m + 1)) ≤ 2 ^ (q - 1) := Nat.pow_le_pow_right (by decide) (by omega)
          omega
        omega
    rw [hm]
    omega

set_option maxHeartbeats 400000 in
theorem size_any (n : Nat) (w : World) (hn : n < 18446744073709551616) :
    Calls Try.prog 54 #[.int .u64 n] w fun e w' => e = .returned (.int .i64 (putL n).length) ∧ w' = w := by
  obtain ⟨hl, hb⟩ := len_bits n hn
  have hlen := Try.bits_Len64 n w (by omega) (by omega)
  rw [Int.toNat_natCast] at hlen
  have HL := hide hl
  have HC := hide hlen
  clear hl hlen
  go_enter Try.func54, Try.ntmps54
  go_wp2_with (go_at_call 56; refine (unhide HC).mono ?_; rintro e w1 ⟨rfl, rfl⟩)
  go_ret
  exact ⟨ret_i64 (by rw [unhide HL]; omega), rfl⟩

theorem toList_add (a b : ByteArray) : (a ++ b).data.toList = a.data.toList ++ b.data.toList := by rw [ByteArray.data_append, Array.toList_append]
theorem bts_append (a b : List UInt8) : bts a ++ bts b = bts (a ++ b) := by
  apply ByteArray.ext
  rw [ByteArray.data_append]
  simp [bts]
theorem restOf_put (n : Nat) (s : ByteArray) (hn : n < 18446744073709551616) : scanL (bts (putL n) ++ s).data.toList = (n, (putL n).length, 0) ∧ restOf (bts (putL n) ++ s) = s := by
  have h : scanL (bts (putL n) ++ s).data.toList = (n, (putL n).length, 0) := by rw [toList_add, toList_bts, scanL_put n _ hn]
  refine ⟨h, ?_⟩
  unfold restOf
  rw [h, if_pos rfl]
  apply ext_list
  rw [toList_from, toList_add, toList_bts, List.drop_left']
  rfl

theorem join_back {s : ByteArray} {m k : Nat} (h : scanL s.data.toList = (m, k, 0)) : bts (putL m) ++ s.extract k s.size = s := by
  apply ext_list
  rw [toList_add, toList_bts, toList_from]
  exact (scanL_ok h).1.symm

theorem get_put (n : Nat) (s : ByteArray) (w : World) (hn : n < 18446744073709551616) (hs : s.size ≤ 140737488355328) :
    Calls Try.prog 28 #[.string (bts (putL n) ++ s)] w fun e w' => e = .returned (.tuple #[.int .u64 n, .string s, .int .i64 0]) ∧ Below w.heap.size w w' := by
  obtain ⟨h1, h2⟩ := restOf_put n s hn
  have hl := putL_len10 hn
  have h := get_any (bts (putL n) ++ s) w (by rw [ByteArray.size_append, size_bts]; omega)
  rw [h1, h2] at h
  exact h

theorem get_ok (s : ByteArray) (m k : Nat) (w : World) (h0 : scanL s.data.toList = (m, k, 0)) (hs : s.size ≤ 281474976710656) :
    Calls Try.prog 28 #[.string s] w fun e w' => e = .returned (.tuple #[.int .u64 m, .string (s.extract k s.size), .int .i64 0]) ∧ Below w.heap.size w w' := by
  have h := get_any s w hs
  have h2 : restOf s = s.extract k s.size := by unfold restOf; rw [h0, if_pos rfl]
  rw [h0, h2] at h
  exact h

theorem get_bad (s : ByteArray) (c : Nat) (w : World) (h0 : scanL s.data.toList = (0, 0, c)) (hc : c ≠ 0) (hs : s.size ≤ 281474976710656) :
    Calls Try.prog 28 #[.string s] w fun e w' => e = .returned (.tuple #[.int .u64 0, .string { data := #[] }, .int .i64 c]) ∧ Below w.heap.size w w' := by
  have h := get_any s w hs
  have h2 : restOf s = { data := #[] } := by unfold restOf; rw [h0, if_neg (by simpa using hc)]; rfl
  rw [h0, h2] at h
  exact h

/-- The two ways: a number and what is behind it; an error. -/
theorem scan_ways (l : List UInt8) : (∃ m k, scanL l = (m, k, 0) ∧ m < 18446744073709551616 ∧ k ≤ 10 ∧ k ≤ l.length) ∨ ∃ c, scanL l = (0, 0, c) ∧ (c = 5 ∨ c = 7) := by
  have hle := scanL_le l
  rcases scanL_no l with h | h | h
  · obtain ⟨m, k, hmk⟩ : ∃ m k, scanL l = (m, k, 0) := ⟨(scanL l).1, (scanL l).2.1, by rw [← h]⟩
    rw [hmk] at hle
    exact Or.inl ⟨m, k, hmk, hle.2.2, hle.2.1, hle.1⟩
  · exact Or.inr ⟨5, h, Or.inl rfl⟩
  · exact Or.inr ⟨7, h, Or.inr rfl⟩
end Go.Proofs.Ytfjjigcghhohkaa
