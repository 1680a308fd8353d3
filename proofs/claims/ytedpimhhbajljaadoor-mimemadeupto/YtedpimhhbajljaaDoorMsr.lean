/-
  Texts that came in, and what the second form's bound says of them.
-/
import Derived.Test.YtedpimhhbajljaaDoorRows
import Derived.Test.YtedpimhhbajljaaDoorHss
import Derived.Deep.Slices
import Derived.Deep.Strs
import Derived.ProofKit
import Derived.OpenShut
import Derived.ChangeOld
set_option linter.unusedVariables false
namespace Go.Proofs.YtedpimhhbajljaaDoor
open Go.ChangeShapes Go.WideShapes Go.RowKit

theorem bulk_ge {H : Type} (f : Nat → DataW H) (n : Nat → Nat) : ∀ k : List Nat, (∀ i ∈ k, n i ≤ Rows.uptoBulk (f i)) → (k.map n).sum ≤ Rows.uptoBulkAll (k.map f)
  | [], _ => by simp [Rows.uptoBulkAll]
  | i :: r, h => by
    have h1 := h i (by simp)
    have h2 := bulk_ge f n r (fun j hj => h j (by simp [hj]))
    simp only [List.map_cons, Rows.uptoBulkAll, List.sum_cons]
    omega
theorem spot_none {W : World} {a : Addr} {v : Value} (h : W.cell? a = some v) : ∃ b off, a = ⟨b, off, none⟩ ∧ b < W.heap.size := by
  have hsp : a.spot = none := by
    cases hs : a.spot with
    | none => rfl
    | some y =>
      simp only [World.cell?, hs] at h
      split at h <;> simp at h
  obtain ⟨b, off, sp⟩ := a
  simp only at hsp
  subst hsp
  refine ⟨b, off, rfl, ?_⟩
  rcases Nat.lt_or_ge b W.heap.size with h' | h'
  · exact h'
  · simp [World.cell?, Array.getElem?_eq_none h'] at h
theorem add_lit0 (b off j : Nat) : Addr.add ⟨b, off, none⟩ j = ⟨b, off + j, none⟩ := by rw [Addr.add_lit]
def sumS (l : List ByteArray) : Nat := (l.map fun s => s.size + 1).sum
set_option maxRecDepth 100000 in
theorem trod_rowS {H : Type} {enc : TypeId × Value → H} {W : World} {base : Nat} {held : Bool} {fuel : Nat} {cs : List Value} {x : DataW H × List MemPlace}
    (hf : DataW.trod enc Tryd.prog W base (fun _ => true) held fuel 28 cs = some x) : ∃ v l, cs = [v] ∧ RowS W v l ∧ sumS l + 1 ≤ Rows.uptoBulk x.1 := by
  rcases Go.Deep.open_slice Tryd.underlying28 hf with ⟨rfl, rfl⟩ | ⟨a, len, cap, m, n, D, Pl, rfl, _, hl, hm, hmm, rfl, hx⟩
  · exact ⟨_, [], rfl, ⟨none, 0, rfl, by simp, by simp, Or.inl rfl⟩, by simp [Rows.uptoBulk, sumS]⟩
  · have hmc : m = cap := by simpa using hmm
    subst hmc
    have ce : (Tryd.prog).cellsOf 9 = 1 := by kernel_rfl
    have each : ∀ i, i < m → ∃ s : ByteArray, W.cell? (a.add i) = some (.string s) ∧ s.size ≤ maxLen ∧ s.size + 1 ≤ Rows.uptoBulk (D i) := by
      intro i hi
      obtain ⟨cs', h1, h2⟩ := hx i hi
      rw [ce, Nat.mul_one] at h1
      obtain ⟨s0, rfl, f0, g0⟩ := DataW.trod_string Tryd.underlying9 h2
      obtain ⟨_, _, hcell⟩ := World.cells?_some h1
      have hc0 := hcell 0 (by omega)
      have hx0 : (a.add i).add 0 = a.add i := by simp [Addr.add]
      rw [hx0] at hc0
      refine ⟨s0, by rw [hc0]; rfl, g0, ?_⟩
      rw [(Prod.mk.inj f0).1]; simp [Rows.uptoBulk]
    obtain ⟨q, hq⟩ := Go.Deep.choose_lt each
    obtain ⟨l, hl'⟩ : ∃ l : List ByteArray, l = (List.range len).map q := ⟨_, rfl⟩
    have hll : l.length = len := by rw [hl']; simp
    refine ⟨_, l, rfl, ?_, ?_⟩
    · refine ⟨some a, m, by rw [hll], by unfold maxLen at hm; omega, fun y hy => ?_, ?_⟩
      · rw [hl'] at hy
        obtain ⟨i, hi, rfl⟩ := List.mem_map.1 hy
        have := (hq i (by have := List.mem_range.1 hi; omega)).2.1
        unfold maxLen at this
        omega
      · by_cases h0 : len = 0
        · left; exact List.eq_nil_of_length_eq_zero (by omega)
        · right
          have hc0 := (hq 0 (by omega)).1
          have hx0 : a.add 0 = a := by simp [Addr.add]
          rw [hx0] at hc0
          obtain ⟨b, off, rfl, hb⟩ := spot_none hc0
          refine ⟨b, off, rfl, hb, fun j hj => ?_⟩
          have := (hq j (by omega)).1
          rw [add_lit0] at this
          rw [this]
          simp [hl']
    · have hb := bulk_ge D (fun i => (q i).size + 1) (List.range len) (fun i hi => (hq i (by have := List.mem_range.1 hi; omega)).2.2)
      have hs : sumS l = ((List.range len).map fun i => (q i).size + 1).sum := by rw [hl', sumS, List.map_map]; rfl
      simp only [Rows.uptoBulk]
      omega
theorem open_rowS {H : Type} {enc : TypeId × Value → H} {W : World} {base : Nat} {held : Bool} {fuel : Nat} {v : Value} {x : DataW H × List MemPlace} (hv : ∃ a len cap, v = .slice a len cap) (hf : DataW.trod enc Tryd.prog W base (fun _ => true) held fuel 28 v.cells.toList = some x) : ∃ l, RowS W v l ∧ sumS l + 1 ≤ Rows.uptoBulk x.1 := by
  obtain ⟨a, len, cap, rfl⟩ := hv
  obtain ⟨v, l, hc, hr, hs⟩ := trod_rowS hf
  simp [Value.cells] at hc
  subst hc
  exact ⟨l, hr, hs⟩
end Go.Proofs.YtedpimhhbajljaaDoor
