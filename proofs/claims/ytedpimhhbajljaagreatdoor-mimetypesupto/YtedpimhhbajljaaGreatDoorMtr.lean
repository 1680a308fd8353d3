/-
  Fields that came in, and what the second form's bound says of them, over the seat of mime.
-/
import Derived.Test.YtedpimhhbajljaaGreatDoorRows
import Derived.Test.YtedpimhhbajljaaGreatDoorMsf
import Derived.Deep.SlicePairs
import Derived.ProofKit
import Derived.OpenShut
import Derived.ChangeOld
set_option linter.unusedVariables false
namespace Go.Proofs.YtedpimhhbajljaaGreatDoor
open Go.ChangeShapes Go.RowKit Go.Proofs.Hed

def sumF : List Fld → Nat
  | [] => 0
  | f :: r => f.1.size + f.2.size + 3 + sumF r
theorem bulkAll_map {H : Type} (f : Nat → DataW H) (n : Nat → Nat) : ∀ k : List Nat, (∀ i ∈ k, Rows.uptoBulk (f i) = n i) → Rows.uptoBulkAll (k.map f) = (k.map n).sum
  | [], _ => by simp [Rows.uptoBulkAll]
  | i :: r, h => by
    have h1 := h i (by simp)
    have h2 := bulkAll_map f n r (fun j hj => h j (by simp [hj]))
    simp only [List.map_cons, Rows.uptoBulkAll, List.sum_cons, h1, h2]

theorem sumF_map (V0 V1 : Nat → ByteArray) : ∀ k : List Nat, sumF (k.map fun i => (V0 i, V1 i)) = (k.map fun i => (V0 i).size + (V1 i).size + 3).sum
  | [] => rfl
  | i :: r => by
    simp only [List.map_cons, sumF, List.sum_cons, sumF_map V0 V1 r]

theorem sumF_mem {l : List Fld} {f : Fld} (h : f ∈ l) : f.1.size + f.2.size + 3 ≤ sumF l := by
  induction l with
  | nil => cases h
  | cons g r ih =>
    rcases List.mem_cons.1 h with rfl | h'
    · simp only [sumF]; omega
    · have := ih h'; simp only [sumF]; omega
theorem sumF_len (l : List Fld) : l.length * 3 ≤ sumF l := by
  induction l with
  | nil => simp [sumF]
  | cons g r ih => simp only [sumF, List.length_cons]; omega

theorem flat_at (l : List Fld) (j : Nat) (u : Value) (h : (flatF l)[j]? = some u) : ∃ i, ∃ hi : i < l.length, (j = i * 2 ∧ u = .string l[i].1) ∨ (j = i * 2 + 1 ∧ u = .string l[i].2) := by
  have hj : j < l.length * 2 := by
    rcases Nat.lt_or_ge j (flatF l).length with h' | h'
    · rwa [flatF_length] at h'
    · rw [List.getElem?_eq_none h'] at h; cases h
  have hi : j / 2 < l.length := by omega
  obtain ⟨h0, h1⟩ := flatF_get l (j / 2) hi
  refine ⟨j / 2, hi, ?_⟩
  rcases (by omega : j = j / 2 * 2 ∨ j = j / 2 * 2 + 1) with e | e
  · left
    refine ⟨e, ?_⟩
    rw [e, h0] at h
    exact (Option.some.inj h).symm
  · right
    refine ⟨e, ?_⟩
    rw [e, h1] at h
    exact (Option.some.inj h).symm

theorem addF (b off j : Nat) : Addr.add ⟨b, off, none⟩ j = ⟨b, off + j, none⟩ := by
  unfold Addr.add
  by_cases h0 : j = 0
  · simp [h0]
  · simp [h0]

/-- The text of a value that is one. -/
def strV : Value → ByteArray
  | .string s => s
  | _ => ByteArray.empty

theorem open_rowF {H : Type} {enc : TypeId × Value → H} {W : World} {base : Nat} {held : Bool} {fuel : Nat} {v : Value} {x : DataW H × List MemPlace} (hv : ∃ a len cap, v = .slice a len cap)
    (hf : DataW.trod enc Tryz.prog W base (fun _ => true) held fuel 22 v.cells.toList = some x) (hb : Rows.uptoBulk x.1 ≤ 1048576) : ∃ l, RowF W v l ∧ sumF l + 1 ≤ Rows.uptoBulk x.1 := by
  obtain ⟨a, len, cap, rfl⟩ := hv
  rcases Go.Deep.open_slice_pairs Tryz.underlying22 Tryz.underlying40 (by kernel_rfl) rfl rfl (by kernel_rfl) (by kernel_rfl) hf with ⟨hcs, rfl⟩ | ⟨y, n, c, m, k, V0, V1, D0, D1, P0, P1, hcs, _, hl, hm, hmm, rfl, hx⟩
  · simp [Value.cells] at hcs
    obtain ⟨rfl, rfl, rfl⟩ := hcs
    exact ⟨[], ⟨none, 0, rfl, by simp, by simp, Or.inl rfl⟩, by simp [Rows.uptoBulk, sumF]⟩
  · simp [Value.cells] at hcs
    obtain ⟨rfl, rfl, rfl⟩ := hcs
    have hmc : m = cap := by simpa using hmm
    subst hmc
    have each : ∀ i, i < m → V0 i = .string (strV (V0 i)) ∧ D0 i = .lit (.string (strV (V0 i)).data.toList) ∧ V1 i = .string (strV (V1 i)) ∧ D1 i = .lit (.string (strV (V1 i)).data.toList) := by
      intro i hi
      obtain ⟨_, _, h0, h1⟩ := hx i hi
      obtain ⟨s0, e0, f0, _⟩ := DataW.trod_string Tryz.underlying9 h0
      obtain ⟨s1, e1, f1, _⟩ := DataW.trod_string Tryz.underlying9 h1
      have g0 : V0 i = .string s0 := by simpa using e0
      have g1 : V1 i = .string s1 := by simpa using e1
      rw [g0, g1]
      exact ⟨rfl, (Prod.mk.inj f0).1, rfl, (Prod.mk.inj f1).1⟩
    obtain ⟨l, hl'⟩ : ∃ l : List Fld, l = (List.range len).map fun i => (strV (V0 i), strV (V1 i)) := ⟨_, rfl⟩
    have hll : l.length = len := by rw [hl']; simp
    have hsum : Rows.uptoBulkAll ((List.range len).map fun i => (DataW.agg [D0 i, D1 i] : DataW H)) = sumF l := by
      rw [hl', sumF_map, bulkAll_map _ (fun i => (strV (V0 i)).size + (strV (V1 i)).size + 3)]
      intro i hi
      have hi' : i < m := by have := List.mem_range.1 hi; omega
      obtain ⟨_, d0, _, d1⟩ := each i hi'
      rw [d0, d1]
      simp [Rows.uptoBulk, Rows.uptoBulkAll]
      omega
    have hbulk : sumF l + 1 ≤ Rows.uptoBulk (DataW.slice ((List.range len).map fun i => (DataW.agg [D0 i, D1 i] : DataW H)) ((List.range (m - len)).map fun j => .agg [D0 (len + j), D1 (len + j)])) := by
      simp only [Rows.uptoBulk, hsum]
      omega
    refine ⟨l, ⟨some y, m, by rw [hll], ?_, ?_, ?_⟩, hbulk⟩
    · have := sumF_len l
      simp only at hb
      omega
    · intro f hf
      have := sumF_mem hf
      simp only at hb
      exact ⟨by omega, by omega⟩
    · by_cases h0 : len = 0
      · left
        apply List.eq_nil_of_length_eq_zero
        omega
      · right
        have hc0 := (hx 0 (by omega)).1
        have hx0 : y.add (0 * 2) = y := by simp [Addr.add]
        rw [hx0] at hc0
        have hsp : y.spot = none := by
          cases hs : y.spot with
          | none => rfl
          | some q =>
            simp only [World.cell?, hs] at hc0
            split at hc0 <;> simp at hc0
        obtain ⟨b, off, sp⟩ := y
        simp only at hsp
        subst hsp
        refine ⟨b, off, rfl, ?_, ?_⟩
        · rcases Nat.lt_or_ge b W.heap.size with h' | h'
          · exact h'
          · simp [World.cell?, Array.getElem?_eq_none h'] at hc0
        · intro j u hj
          obtain ⟨i, hi, ⟨rfl, rfl⟩ | ⟨rfl, rfl⟩⟩ := flat_at l j u hj
          · obtain ⟨c0, _⟩ := hx i (by omega)
            rw [addF, (each i (by omega)).1] at c0
            rw [c0]
            simp [hl']
          · obtain ⟨_, c1, _⟩ := hx i (by omega)
            rw [addF, (each i (by omega)).2.2.1] at c1
            rw [← Nat.add_assoc] at c1 ⊢
            rw [c1]
            simp [hl']
end Go.Proofs.YtedpimhhbajljaaGreatDoor
