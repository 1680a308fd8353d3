/-
  What vari.Get tells of a text that begins with a number's bytes, of one that doesn't, and how the bytes come together again, over this seat's program.
-/
import Derived.Test.YtekcbkaanlngdabDoorSiz
set_option linter.unusedVariables false
namespace Go.Proofs.YtekcbkaanlngdabDoor
open Go.RowKit Go.Proofs.Num

/-- A list of bytes as a text. -/
def bts (l : List UInt8) : ByteArray := { data := l.toArray }

theorem toList_bts (l : List UInt8) : (bts l).data.toList = l := by simp [bts]
theorem bts_toList (s : ByteArray) : bts s.data.toList = s := by apply ByteArray.ext; simp [bts]
theorem toList_add (a b : ByteArray) : (a ++ b).data.toList = a.data.toList ++ b.data.toList := by rw [ByteArray.data_append, Array.toList_append]
theorem size_bts (l : List UInt8) : (bts l).size = l.length := by simp [bts, ByteArray.size]
theorem bts_append (a b : List UInt8) : bts a ++ bts b = bts (a ++ b) := by
  apply ByteArray.ext
  rw [ByteArray.data_append]
  simp [bts]
theorem ext_list {a b : ByteArray} (h : a.data.toList = b.data.toList) : a = b := by
  apply ByteArray.ext
  exact Array.toList_inj.1 h
theorem toList_from (s : ByteArray) (k : Nat) : (s.extract k s.size).data.toList = s.data.toList.drop k := by
  have h : s.data.toList.length ≤ s.size := Nat.le_of_eq (Array.length_toList ..)
  rw [ByteArray.data_extract, Array.toList_extract, List.extract_eq_take_drop]
  exact List.take_of_length_le (by rw [List.length_drop]; omega)

theorem restOf_put (n : Nat) (s : ByteArray) (hn : n < 18446744073709551616) : scanL (bts (putL n) ++ s).data.toList = (n, (putL n).length, 0) ∧ restOf (bts (putL n) ++ s) = s := by
  have h : scanL (bts (putL n) ++ s).data.toList = (n, (putL n).length, 0) := by rw [toList_add, toList_bts, scanL_put n _ hn]
  refine ⟨h, ?_⟩
  unfold restOf
  rw [h, if_pos rfl]
  apply ext_list
  rw [toList_from, toList_add, toList_bts, List.drop_left']
  rfl

theorem join_back {s : ByteArray} {m k : Nat} (h : scanL s.data.toList = (m, k, 0)) : bts (putL m) ++ s.extract k s.size = s := by
  apply ext_list
  rw [toList_add, toList_bts, toList_from]
  exact (scanL_ok h).1.symm

theorem get_put (n : Nat) (s : ByteArray) (w : World) (hn : n < 18446744073709551616) (hs : s.size ≤ 140737488355328) :
    Calls Tryd.prog 33 #[.string (bts (putL n) ++ s)] w fun e w' => e = .returned (.tuple #[.int .u64 n, .string s, .int .i64 0]) ∧ Below w.heap.size w w' := by
  obtain ⟨h1, h2⟩ := restOf_put n s hn
  have hl := putL_len10 hn
  have h := get_any (bts (putL n) ++ s) w (by rw [ByteArray.size_append, size_bts]; omega)
  rw [h1, h2] at h
  exact h

theorem get_ok (s : ByteArray) (m k : Nat) (w : World) (h0 : scanL s.data.toList = (m, k, 0)) (hs : s.size ≤ 281474976710656) :
    Calls Tryd.prog 33 #[.string s] w fun e w' => e = .returned (.tuple #[.int .u64 m, .string (s.extract k s.size), .int .i64 0]) ∧ Below w.heap.size w w' := by
  have h := get_any s w hs
  have h2 : restOf s = s.extract k s.size := by unfold restOf; rw [h0, if_pos rfl]
  rw [h0, h2] at h
  exact h

theorem get_bad (s : ByteArray) (c : Nat) (w : World) (h0 : scanL s.data.toList = (0, 0, c)) (hc : c ≠ 0) (hs : s.size ≤ 281474976710656) :
    Calls Tryd.prog 33 #[.string s] w fun e w' => e = .returned (.tuple #[.int .u64 0, .string { data := #[] }, .int .i64 c]) ∧ Below w.heap.size w w' := by
  have h := get_any s w hs
  have h2 : restOf s = { data := #[] } := by unfold restOf; rw [h0, if_neg (by simpa using hc)]; rfl
  rw [h0, h2] at h
  exact h

/-- The two ways: a number and what is behind it; an error. -/
theorem scan_ways (l : List UInt8) : (∃ m k, scanL l = (m, k, 0) ∧ m < 18446744073709551616 ∧ k ≤ 10 ∧ k ≤ l.length) ∨ ∃ c, scanL l = (0, 0, c) ∧ (c = 5 ∨ c = 7) := by
  have hle := scanL_le l
  rcases scanL_no l with h | h | h
  · obtain ⟨m, k, hmk⟩ : ∃ m k, scanL l = (m, k, 0) := ⟨(scanL l).1, (scanL l).2.1, by rw [← h]⟩
    rw [hmk] at hle
    exact Or.inl ⟨m, k, hmk, hle.2.2, hle.2.1, hle.1⟩
  · exact Or.inr ⟨5, h, Or.inl rfl⟩
  · exact Or.inr ⟨7, h, Or.inr rfl⟩
end Go.Proofs.YtekcbkaanlngdabDoor
