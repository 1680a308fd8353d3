/-
  Texts as lists of bytes, and a slice of a text, over this seat's program.
-/
import Derived.Test.YtihgmpebpkjmkaaGreatDoorWst
set_option linter.unusedVariables false
namespace Go.Proofs.YtihgmpebpkjmkaaGreatDoor
open Go.RowKit

/-- Bytes as a text. -/
def bts (l : List UInt8) : ByteArray := { data := l.toArray }
theorem toList_bts (l : List UInt8) : (bts l).data.toList = l := by simp [bts]
theorem sizeL (s : ByteArray) : s.data.toList.length = s.size := Array.length_toList ..
theorem size_bts (l : List UInt8) : (bts l).size = l.length := by rw [← sizeL, toList_bts]
theorem ext_list {a b : ByteArray} (h : a.data.toList = b.data.toList) : a = b := by
  cases a; cases b; simp at h; rw [h]
theorem bts_toList (s : ByteArray) : bts s.data.toList = s := ext_list (toList_bts _)
theorem toList_from (s : ByteArray) (k : Nat) : (s.extract k s.size).data.toList = s.data.toList.drop k := by
  simp only [ByteArray.data_extract, Array.toList_extract, List.extract_eq_take_drop]
  rw [List.take_of_length_le]
  simp only [List.length_drop, sizeL]
  omega
theorem toList_part (s : ByteArray) (a b : Nat) : (s.extract a b).data.toList = (s.data.toList.drop a).take (b - a) := by
  simp only [ByteArray.data_extract, Array.toList_extract, List.extract_eq_take_drop]
theorem toList_upto (s : ByteArray) (k : Nat) : (s.extract 0 k).data.toList = s.data.toList.take k := by
  rw [toList_part]; simp
theorem size_part (s : ByteArray) (a b : Nat) (h : b ≤ s.size) : (s.extract a b).size = b - a := by
  rw [ByteArray.size_extract]; omega
theorem getD_byte (s : ByteArray) (k : Nat) (h : k < s.size) : s.data.toList.getD k 0 = s[k] := by
  rw [List.getD_eq_getElem?_getD, List.getElem?_eq_getElem (by simpa using h)]
  rfl
theorem drop_byte (s : ByteArray) (k : Nat) (h : k < s.size) : s.data.toList.drop k = s[k] :: s.data.toList.drop (k + 1) := by
  rw [List.drop_eq_getElem_cons (by simpa using h)]; rfl
theorem drop_end (s : ByteArray) {k : Nat} (h : s.size ≤ k) : s.data.toList.drop k = [] := List.drop_of_length_le (by rw [sizeL]; omega)
theorem take_byte (s : ByteArray) (k : Nat) (h : k < s.size) : s.data.toList.take (k + 1) = s.data.toList.take k ++ [s[k]] := by
  rw [List.take_succ_eq_append_getElem (by simpa using h)]; rfl

theorem beqS (a b : ByteArray) : (a.toList == b.toList) = decide (a = b) := by
  rw [ByteArray.toList_eq, ByteArray.toList_eq]
  by_cases h : a = b
  · subst h; simp
  · rw [decide_eq_false h, beq_eq_false_iff_ne]
    intro he
    exact h (ext_list he)

theorem below_drew0 {w w1 : World} (h : Below w.drew.heap.size w.drew w1) : Below w.heap.size w w1 := ⟨h.os, h.tape, h.output, h.size, h.block⟩

/-- s[k:k+m]. -/
theorem slice_km (s : ByteArray) (k m : Nat) (h : k + m ≤ s.size) (w : World) : (Instr.slice 9 (.string s) (some (.int .i64 (k : Int))) (some (.int .i64 ((k : Int) + (m : Int)))) none).run Tryz.prog w = .ok (.string (s.extract k (k + m))) w := by
  have h := run_slice_string (P := Tryz.prog) w 9 s .i64 .i64 k ((k : Int) + (m : Int)) Tryz.underlying9 (by omega) (by omega) (by omega)
  rwa [show ((k : Int) + (m : Int)).toNat = k + m by omega, show (k : Int).toNat = k from rfl] at h
/-- s[k:]. -/
theorem slice_from (s : ByteArray) (i : Int) (k : Nat) (hi : i = k) (h : k ≤ s.size) (w : World) : (Instr.slice 9 (.string s) (some (.int .i64 i)) none none).run Tryz.prog w = .ok (.string (s.extract k s.size)) w := by
  subst hi
  have h := run_slice_string_l (P := Tryz.prog) w 9 s Tryz.underlying9 .i64 k (by omega) (by omega)
  rwa [show (k : Int).toNat = k from rfl] at h
/-- s[:k]. -/
theorem slice_upto (s : ByteArray) (i : Int) (k : Nat) (hi : i = k) (h : k ≤ s.size) (w : World) : (Instr.slice 9 (.string s) none (some (.int .i64 i)) none).run Tryz.prog w = .ok (.string (s.extract 0 k)) w := by
  subst hi
  have h := run_slice_string_h (P := Tryz.prog) w 9 s Tryz.underlying9 .i64 k (by omega) (by omega)
  rwa [show (k : Int).toNat = k from rfl] at h
end Go.Proofs.YtihgmpebpkjmkaaGreatDoor
