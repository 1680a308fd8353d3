/-
  A slice of entries that came in, as entries, and what the second form's bound says of it.
-/
import Derived.Test.YtmadjiiomjlnaaaRows
import Derived.Test.YtmadjiiomjlnaaaDsm
import Derived.Deep.SlicePairs
import Derived.ProofKit
import Derived.OpenShut
import Derived.ChangeOld
set_option linter.unusedVariables false
namespace Go.Proofs.Ytmadjiiomjlnaaa
open Go.ChangeShapes Go.RowKit Go.Proofs.Dct

theorem bulkAll_map {H : Type} (f : Nat → DataW H) (n : Nat → Nat) : ∀ k : List Nat, (∀ i ∈ k, Rows.uptoBulk (f i) = n i) → Rows.uptoBulkAll (k.map f) = (k.map n).sum
  | [], _ => by simp [Rows.uptoBulkAll]
  | i :: r, h => by
    have h1 := h i (by simp)
    have h2 := bulkAll_map f n r (fun j hj => h j (by simp [hj]))
    simp only [List.map_cons, Rows.uptoBulkAll, List.sum_cons, h1, h2]


/-- How much some entries hold. -/
def sumE : List Ent → Nat
  | [] => 0
  | e :: r => e.2.size + 3 + sumE r
theorem sumE_map (V0 : Nat → Nat) (V1 : Nat → ByteArray) : ∀ k : List Nat, sumE (k.map fun i => (V0 i, V1 i)) = (k.map fun i => (V1 i).size + 3).sum
  | [] => rfl
  | i :: r => by
    simp only [List.map_cons, sumE, List.sum_cons, sumE_map V0 V1 r]
theorem sumE_mem {l : List Ent} {e : Ent} (h : e ∈ l) : e.2.size + 3 ≤ sumE l := by
  induction l with
  | nil => cases h
  | cons g r ih =>
    rcases List.mem_cons.1 h with rfl | h'
    · simp only [sumE]; omega
    · have := ih h'; simp only [sumE]; omega
theorem sumE_len (l : List Ent) : l.length * 3 ≤ sumE l := by
  induction l with
  | nil => simp [sumE]
  | cons g r ih => simp only [sumE, List.length_cons]; omega
theorem flatE_at (l : List Ent) (j : Nat) (u : Value) (h : (flatG cellsE l)[j]? = some u) : ∃ i, ∃ hi : i < l.length, (j = i * 2 ∧ u = .int .u64 ((l[i]).1 : Int)) ∨ (j = i * 2 + 1 ∧ u = .string (l[i]).2) := by
  have hj : j < l.length * 2 := by
    rcases Nat.lt_or_ge j (flatG cellsE l).length with h' | h'
    · rwa [flatG_length cellsE_len] at h'
    · rw [List.getElem?_eq_none h'] at h; cases h
  have hi : j / 2 < l.length := by omega
  have h0 := flatG_get cellsE_len l (j / 2) hi 0 (by omega)
  have h1 := flatG_get cellsE_len l (j / 2) hi 1 (by omega)
  simp only [cellsE, List.getElem?_cons_zero, List.getElem?_cons_succ, Nat.add_zero] at h0 h1
  refine ⟨j / 2, hi, ?_⟩
  rcases (by omega : j = j / 2 * 2 ∨ j = j / 2 * 2 + 1) with e | e
  · left
    refine ⟨e, ?_⟩
    rw [e, h0] at h
    exact (Option.some.inj h).symm
  · right
    refine ⟨e, ?_⟩
    rw [e, h1] at h
    exact (Option.some.inj h).symm
/-- The text, and the number, of a value that is one. -/
def strV : Value → ByteArray
  | .string s => s
  | _ => ByteArray.empty
def natV : Value → Nat
  | .int _ n => n.toNat
  | _ => 0

theorem open_rowE {H : Type} {enc : TypeId × Value → H} {W : World} {base : Nat} {held : Bool} {fuel : Nat} {v : Value} {x : DataW H × List MemPlace} (hv : ∃ a len cap, v = .slice a len cap)
    (hf : DataW.trod enc Try.prog W base (fun _ => true) held fuel 22 v.cells.toList = some x) (hb : Rows.uptoBulk x.1 ≤ 1048576) : ∃ l, RowE W v l ∧ sumE l + 1 ≤ Rows.uptoBulk x.1 := by
  obtain ⟨a, len, cap, rfl⟩ := hv
  rcases Go.Deep.open_slice_pairs Try.underlying22 Try.underlying41 (by kernel_rfl) rfl rfl (by kernel_rfl) (by kernel_rfl) hf with ⟨hcs, rfl⟩ | ⟨y, n, c, m, k, V0, V1, D0, D1, P0, P1, hcs, _, hl, hm, hmm, rfl, hx⟩
  · simp [Value.cells] at hcs
    obtain ⟨rfl, rfl, rfl⟩ := hcs
    exact ⟨[], ⟨none, 0, rfl, by simp, by simp, Or.inl rfl⟩, by simp [Rows.uptoBulk, sumE]⟩
  · simp [Value.cells] at hcs
    obtain ⟨rfl, rfl, rfl⟩ := hcs
    have hmc : m = cap := by simpa using hmm
    subst hmc
    have each : ∀ i, i < m → V0 i = .int .u64 (natV (V0 i) : Int) ∧ Rows.uptoBulk (D0 i) = 1 ∧ natV (V0 i) ≤ 18446744073709551615 ∧ V1 i = .string (strV (V1 i)) ∧ D1 i = .lit (.string (strV (V1 i)).data.toList) := by
      intro i hi
      obtain ⟨_, _, h0, h1⟩ := hx i hi
      obtain ⟨s0, e0, f0, g0⟩ := DataW.trod_int Try.underlying31 h0
      obtain ⟨s1, e1, f1, _⟩ := DataW.trod_string Try.underlying9 h1
      have k0 : V0 i = .int .u64 s0 := by simpa using e0
      have k1 : V1 i = .string s1 := by simpa using e1
      have g1 : 0 ≤ s0 ∧ s0 ≤ 18446744073709551615 := by
        simp only [Lit.wf, Bool.and_eq_true, decide_eq_true_eq] at g0
        have h1 : IntKind.u64.min = 0 := by decide
        have h2 : IntKind.u64.max = 18446744073709551615 := by decide
        omega
      rw [k0, k1]
      refine ⟨?_, ?_, ?_, rfl, (Prod.mk.inj f1).1⟩
      · simp only [natV]
        rw [Int.toNat_of_nonneg g1.1]
      · rw [(Prod.mk.inj f0).1]; simp [Rows.uptoBulk]
      · simp only [natV]; omega
    obtain ⟨l, hl'⟩ : ∃ l : List Ent, l = (List.range len).map fun i => (natV (V0 i), strV (V1 i)) := ⟨_, rfl⟩
    have hll : l.length = len := by rw [hl']; simp
    have hsum : Rows.uptoBulkAll ((List.range len).map fun i => (DataW.agg [D0 i, D1 i] : DataW H)) = sumE l := by
      rw [hl', sumE_map, bulkAll_map _ (fun i => (strV (V1 i)).size + 3)]
      intro i hi
      have hi' : i < m := by have := List.mem_range.1 hi; omega
      obtain ⟨_, d0, _, _, d1⟩ := each i hi'
      rw [d1]
      simp [Rows.uptoBulk, Rows.uptoBulkAll, d0]
      omega
    have hbulk : sumE l + 1 ≤ Rows.uptoBulk (DataW.slice ((List.range len).map fun i => (DataW.agg [D0 i, D1 i] : DataW H)) ((List.range (m - len)).map fun j => .agg [D0 (len + j), D1 (len + j)])) := by
      simp only [Rows.uptoBulk, hsum]
      omega
    refine ⟨l, ⟨some y, m, by rw [hll], ?_, ?_, ?_⟩, hbulk⟩
    · have := sumE_len l
      simp only at hb
      omega
    · intro f hf
      have h1 := sumE_mem hf
      simp only at hb
      rw [hl'] at hf
      obtain ⟨i, hi, rfl⟩ := List.mem_map.1 hf
      exact ⟨(each i (by have := List.mem_range.1 hi; omega)).2.2.1, by omega⟩
    · by_cases h0 : len = 0
      · left
        apply List.eq_nil_of_length_eq_zero
        omega
      · right
        have hc0 := (hx 0 (by omega)).1
        have hx0 : y.add (0 * 2) = y := by simp [Addr.add]
        rw [hx0] at hc0
        have hsp : y.spot = none := by
          cases hs : y.spot with
          | none => rfl
          | some q =>
            simp only [World.cell?, hs] at hc0
            split at hc0 <;> simp at hc0
        obtain ⟨b, off, sp⟩ := y
        simp only at hsp
        subst hsp
        refine ⟨b, off, rfl, ?_, ?_⟩
        · rcases Nat.lt_or_ge b W.heap.size with h' | h'
          · exact h'
          · simp [World.cell?, Array.getElem?_eq_none h'] at hc0
        · intro j u hj
          obtain ⟨i, hi, ⟨rfl, rfl⟩ | ⟨rfl, rfl⟩⟩ := flatE_at l j u hj
          · obtain ⟨c0, _⟩ := hx i (by omega)
            rw [add_off0, (each i (by omega)).1] at c0
            rw [c0]
            simp [hl']
          · obtain ⟨_, c1, _⟩ := hx i (by omega)
            rw [add_off0, (each i (by omega)).2.2.2.1] at c1
            rw [← Nat.add_assoc] at c1 ⊢
            rw [c1]
            simp [hl']
end Go.Proofs.Ytmadjiiomjlnaaa
