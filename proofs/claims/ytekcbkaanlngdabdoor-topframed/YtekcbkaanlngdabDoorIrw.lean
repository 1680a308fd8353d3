/-
  How a slice of integers that came in is a row of numbers.
-/
import Derived.Test.YtekcbkaanlngdabDoorRd
import Derived.Test.YtekcbkaanlngdabDoorSam
set_option linter.unusedVariables false
namespace Go.Proofs.YtekcbkaanlngdabDoor
open Go.RowKit Go.Proofs.Num

/-- What is told of a slice of integers that came in: it is nil, or it leads to a row of 'cap' cells, the numbers 'zs', of which the first 'len' are its elements. -/
def IsRow (k : IntKind) (w : World) (a : Option Addr) (len cap : Nat) (zs : List Int) : Prop :=
  (a = none ∧ len = 0 ∧ cap = 0 ∧ zs = []) ∨
  ∃ x, a = some x ∧ len ≤ cap ∧ cap ≤ maxLen ∧ zs.length = cap ∧ (∀ i, i < zs.length → w.cell? (x.add i) = some (.int k (zs.getD i 0))) ∧ ∀ n ∈ zs, (Lit.int k n).wf = true

theorem u32_range {n : Int} (h : (Lit.int .u32 n).wf = true) : 0 ≤ n ∧ n ≤ 4294967295 := by
  simp [Lit.wf, IntKind.min, IntKind.max, IntKind.bits, IntKind.signed] at h
  omega

theorem row_of_isRow {w : World} {a : Option Addr} {len cap : Nat} {zs : List Int} (h : IsRow .u32 w a len cap zs) : ∃ l, Row w (.slice a len cap) l := by
  rcases h with ⟨rfl, rfl, rfl, rfl⟩ | ⟨x, rfl, hl, hm, hz, hc, hw⟩
  · exact ⟨[], none, 0, rfl, by simp, by simp, Or.inl rfl⟩
  · have hlen : ((zs.take len).map Int.toNat).length = len := by simp; omega
    refine ⟨(zs.take len).map Int.toNat, some x, cap, by rw [hlen], by rw [hlen]; unfold maxLen at hm; omega, ?_, ?_⟩
    · intro n hn
      obtain ⟨m, hm', rfl⟩ := List.mem_map.1 hn
      have := u32_range (hw m (List.mem_of_mem_take hm'))
      omega
    · by_cases h0 : len = 0
      · left; subst h0; simp
      · right
        have hc0 := hc 0 (by omega)
        have hx0 : x.add 0 = x := by simp [Addr.add]
        rw [hx0] at hc0
        have hsp : x.spot = none := by
          cases hs : x.spot with
          | none => rfl
          | some y =>
            simp only [World.cell?, hs] at hc0
            split at hc0 <;> simp at hc0
        obtain ⟨b, off, sp⟩ := x
        simp only at hsp
        subst hsp
        refine ⟨b, off, rfl, ?_, ?_⟩
        · rcases Nat.lt_or_ge b w.heap.size with h' | h'
          · exact h'
          · simp [World.cell?, Array.getElem?_eq_none h'] at hc0
        · intro j hj
          rw [hlen] at hj
          have hcj := hc j (by omega)
          have ha : Addr.add ⟨b, off, none⟩ j = ⟨b, off + j, none⟩ := by
            unfold Addr.add
            by_cases h0 : j = 0
            · simp [h0]
            · simp [h0]
          rw [ha] at hcj
          rw [hcj]
          have hjz : j < zs.length := by omega
          have hr := u32_range (hw zs[j] (List.getElem_mem hjz))
          simp [List.getD, List.getElem?_eq_getElem hjz]
          omega

end Go.Proofs.YtekcbkaanlngdabDoor
