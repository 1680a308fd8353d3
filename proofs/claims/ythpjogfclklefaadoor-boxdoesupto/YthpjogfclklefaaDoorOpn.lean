/-
  What serves to open whatever rows came in, over this seat's program.
-/
import Derived.Test.YthpjogfclklefaaDoorRows
import Derived.Test.YthpjogfclklefaaDoorRwg
import Derived.Deep.Slices
import Derived.Deep.Strs
import Derived.ProofKit
import Derived.OpenShut
import Derived.ChangeOld
set_option linter.unusedVariables false
set_option linter.unusedSimpArgs false
namespace Go.Proofs.YthpjogfclklefaaDoor
open Go.ChangeShapes Go.WideShapes Go.RowKit

theorem bulk_ge {H : Type} (f : Nat → DataW H) (n : Nat → Nat) : ∀ k : List Nat, (∀ i ∈ k, n i ≤ Rows.uptoBulk (f i)) → (k.map n).sum ≤ Rows.uptoBulkAll (k.map f)
  | [], _ => by simp [Rows.uptoBulkAll]
  | i :: r, h => by
    have h1 := h i (by simp)
    have h2 := bulk_ge f n r (fun j hj => h j (by simp [hj]))
    simp only [List.map_cons, Rows.uptoBulkAll, List.sum_cons]
    omega
theorem wf64 {n : Int} (h : (Lit.int .i64 n).wf = true) : -9223372036854775808 ≤ n ∧ n ≤ 9223372036854775807 := by
  simp only [Lit.wf, Bool.and_eq_true, decide_eq_true_eq] at h
  have h1 : IntKind.i64.min = -9223372036854775808 := by decide
  have h2 : IntKind.i64.max = 9223372036854775807 := by decide
  omega
theorem spot_none {W : World} {a : Addr} {v : Value} (h : W.cell? a = some v) : ∃ b off, a = ⟨b, off, none⟩ ∧ b < W.heap.size := by
  have hsp : a.spot = none := by
    cases hs : a.spot with
    | none => rfl
    | some y =>
      simp only [World.cell?, hs] at h
      split at h <;> simp at h
  obtain ⟨b, off, sp⟩ := a
  simp only at hsp
  subst hsp
  refine ⟨b, off, rfl, ?_⟩
  rcases Nat.lt_or_ge b W.heap.size with h' | h'
  · exact h'
  · simp [World.cell?, Array.getElem?_eq_none h'] at h
theorem add_lit0 (b off j : Nat) : Addr.add ⟨b, off, none⟩ j = ⟨b, off + j, none⟩ := by rw [Addr.add_lit]

theorem wfU8 {n : Int} (h : (Lit.int .u8 n).wf = true) : ∃ k : Nat, n = (k : Int) ∧ k ≤ 255 := by
  simp only [Lit.wf, Bool.and_eq_true, decide_eq_true_eq] at h
  have h1 : IntKind.u8.min = 0 := by decide
  have h2 : IntKind.u8.max = 255 := by decide
  exact ⟨n.toNat, by omega, by omega⟩
theorem wfU32 {n : Int} (h : (Lit.int .u32 n).wf = true) : ∃ k : Nat, n = (k : Int) ∧ k ≤ 4294967295 := by
  simp only [Lit.wf, Bool.and_eq_true, decide_eq_true_eq] at h
  have h1 : IntKind.u32.min = 0 := by decide
  have h2 : IntKind.u32.max = 4294967295 := by decide
  exact ⟨n.toNat, by omega, by omega⟩
theorem wfU64 {n : Int} (h : (Lit.int .u64 n).wf = true) : ∃ k : Nat, n = (k : Int) ∧ k ≤ 18446744073709551615 := by
  simp only [Lit.wf, Bool.and_eq_true, decide_eq_true_eq] at h
  have h1 : IntKind.u64.min = 0 := by decide
  have h2 : IntKind.u64.max = 18446744073709551615 := by decide
  exact ⟨n.toNat, by omega, by omega⟩
theorem addN (b off j : Nat) : Addr.add ⟨b, off, none⟩ j = ⟨b, off + j, none⟩ := by
  unfold Addr.add
  by_cases h0 : j = 0
  · simp [h0]
  · simp [h0]
/-- A row of k cells an element, out of its cells. -/
theorem rowG_of_cellsK {α : Type} {c : α → List Value} {Fit : α → Prop} {k : Nat} (hk : 0 < k) (hc : ∀ x, (c x).length = k) {W : World} {a : Addr} {cap : Nat} {l : List α} (hl : l.length ≤ 9223372036854775807)
    (hfit : ∀ x ∈ l, Fit x) (hcell : ∀ i (h : i < l.length) m (hm : m < k), W.cell? (a.add (i * k + m)) = (c l[i])[m]?) : RowG c Fit W (.slice (some a) l.length cap) l := by
  refine ⟨some a, cap, rfl, hl, hfit, ?_⟩
  by_cases h0 : l.length = 0
  · left; exact List.eq_nil_of_length_eq_zero h0
  · right
    have hc0 := hcell 0 (by omega) 0 hk
    have hx0 : a.add (0 * k + 0) = a := by simp [Addr.add]
    rw [hx0] at hc0
    have hs0 : ∃ u, W.cell? a = some u := ⟨_, hc0.trans (List.getElem?_eq_getElem (by rw [hc]; exact hk))⟩
    obtain ⟨u0, hu0⟩ := hs0
    have hsp : a.spot = none := by
      cases hs : a.spot with
      | none => rfl
      | some y =>
        simp only [World.cell?, hs] at hu0
        split at hu0 <;> simp at hu0
    obtain ⟨b, off, sp⟩ := a
    simp only at hsp
    subst hsp
    refine ⟨b, off, rfl, ?_, ?_⟩
    · rcases Nat.lt_or_ge b W.heap.size with h' | h'
      · exact h'
      · simp [World.cell?, Array.getElem?_eq_none h'] at hu0
    · intro j u hj
      have hjl : j < l.length * k := by
        rcases Nat.lt_or_ge j (flatG c l).length with h' | h'
        · rwa [flatG_length hc] at h'
        · rw [List.getElem?_eq_none h'] at hj; cases hj
      have hi : j / k < l.length := Nat.div_lt_of_lt_mul (by rw [Nat.mul_comm]; exact hjl)
      have hm : j % k < k := Nat.mod_lt _ hk
      have e : j / k * k + j % k = j := by rw [Nat.mul_comm]; exact Nat.div_add_mod j k
      have hg := flatG_get hc l (j / k) hi (j % k) hm
      have hcj := hcell (j / k) hi (j % k) hm
      rw [e] at hg hcj
      rw [addN] at hcj
      rw [hcj, ← hg, hj]
theorem sum_ones : ∀ k : List Nat, (k.map (fun _ => 1)).sum = k.length
  | [] => rfl
  | x :: r => by simp only [List.map_cons, List.sum_cons, List.length_cons, sum_ones r]; omega
theorem bulk_each {H : Type} (f : Nat → DataW H) (n i : Nat) (h : i < n) : Rows.uptoBulk (f i) ≤ Rows.uptoBulkAll ((List.range n).map f) := by
  have key : ∀ (l : List Nat), i ∈ l → Rows.uptoBulk (f i) ≤ Rows.uptoBulkAll (l.map f) := by
    intro l
    induction l with
    | nil => intro h; cases h
    | cons x r ih =>
      intro h
      simp only [List.map_cons, Rows.uptoBulkAll]
      rcases List.mem_cons.1 h with rfl | h'
      · omega
      · have := ih h'; omega
  exact key _ (List.mem_range.2 h)

end Go.Proofs.YthpjogfclklefaaDoor
