/-
  How a slice of strings that came in is a row of texts, and what the second form's bound says of it.
-/
import Derived.Test.YtekcbkaanlngdabDoorRows
import Derived.Test.YtekcbkaanlngdabDoorSsm
import Derived.SliceStrings
set_option linter.unusedVariables false
namespace Go.Proofs.YtekcbkaanlngdabDoor
open Go.ChangeShapes Go.RowKit Go.Proofs.Num Go.Proofs.Crc Go.Proofs.Frm

/-- What is told of a slice of strings that came in: it is nil, or it leads to a row of 'cap' cells, the texts 'zs', of which the first 'len' are its elements. -/
def IsRowS (w : World) (a : Option Addr) (len cap : Nat) (zs : List ByteArray) : Prop :=
  (a = none ∧ len = 0 ∧ cap = 0 ∧ zs = []) ∨
  ∃ x, a = some x ∧ len ≤ cap ∧ cap ≤ maxLen ∧ zs.length = cap ∧ (∀ i, i < zs.length → w.cell? (x.add i) = some (.string (zs.getD i ByteArray.empty))) ∧ ∀ s ∈ zs, s.size ≤ maxLen

/-- How much some texts are: each a value, and its letters. -/
def bulkS : List ByteArray → Nat
  | [] => 0
  | s :: r => s.size + 1 + bulkS r

theorem bulk_len : ∀ l : List ByteArray, l.length ≤ bulkS l := by
  intro l
  induction l with
  | nil => simp
  | cons s r ih => simp [bulkS]; omega
theorem bulk_mem {l : List ByteArray} {s : ByteArray} (h : s ∈ l) : s.size + 1 ≤ bulkS l := by
  induction l with
  | nil => cases h
  | cons x r ih =>
    rcases List.mem_cons.1 h with rfl | h'
    · simp [bulkS]
    · have := ih h'; simp [bulkS]; omega

theorem bulk_all {H : Type} (l : List ByteArray) : Rows.uptoBulkAll (H := H) (strs l) = bulkS l := by
  induction l with
  | nil => rfl
  | cons s r ih =>
    show Rows.uptoBulk (DataW.lit (.string s.data.toList)) + Rows.uptoBulkAll (strs r) = _
    rw [ih]
    simp [Rows.uptoBulk, bulkS]

theorem bulk_strs {H : Type} (l r : List ByteArray) : bulkS l ≤ Rows.uptoBulk (H := H) (.slice (strs l) (strs r)) := by
  simp only [Rows.uptoBulk, bulk_all]
  omega

theorem string_eq {H : Type} (bytes : List UInt8) : Rows.uptoBulk (DataW.lit (H := H) (.string bytes)) = bytes.length + 1 := by
  simp [Rows.uptoBulk]

theorem bound {H : Type} {l : List (DataW H)} (hk : Rows.uptoSmall H l = true) : Rows.uptoBulkAll l ≤ 1048576 := by
  simpa [Rows.uptoSmall] using hk

theorem rowS_of_isRowS {w : World} {a : Option Addr} {len cap : Nat} {zs : List ByteArray} (h : IsRowS w a len cap zs) : RowS w (.slice a len cap) (zs.take len) := by
  rcases h with ⟨rfl, rfl, rfl, rfl⟩ | ⟨x, rfl, hl, hm, hz, hc, hw⟩
  · exact ⟨none, 0, rfl, by simp, by simp, Or.inl rfl⟩
  · have hlen : (zs.take len).length = len := by simp; omega
    refine ⟨some x, cap, by rw [hlen], by rw [hlen]; unfold maxLen at hm; omega, ?_, ?_⟩
    · intro s hs
      have := hw s (List.mem_of_mem_take hs)
      unfold maxLen at this
      omega
    · by_cases h0 : len = 0
      · left; subst h0; simp
      · right
        have hc0 := hc 0 (by omega)
        have hx0 : x.add 0 = x := by simp [Addr.add]
        rw [hx0] at hc0
        have hsp : x.spot = none := by
          cases hs : x.spot with
          | none => rfl
          | some y =>
            simp only [World.cell?, hs] at hc0
            split at hc0 <;> simp at hc0
        obtain ⟨b, off, sp⟩ := x
        simp only at hsp
        subst hsp
        refine ⟨b, off, rfl, ?_, ?_⟩
        · rcases Nat.lt_or_ge b w.heap.size with h' | h'
          · exact h'
          · simp [World.cell?, Array.getElem?_eq_none h'] at hc0
        · intro j hj
          rw [hlen] at hj
          have hcj := hc j (by omega)
          have ha : Addr.add ⟨b, off, none⟩ j = ⟨b, off + j, none⟩ := by
            unfold Addr.add
            by_cases h0 : j = 0
            · simp [h0]
            · simp [h0]
          rw [ha] at hcj
          rw [hcj]
          have hjz : j < zs.length := by omega
          simp [List.getD, List.getElem?_eq_getElem hjz]
end Go.Proofs.YtekcbkaanlngdabDoor
